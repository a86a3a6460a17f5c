/- Bytes laid into a file: lay, where the size is less than it was. -/
import Derived.Test.YtcmihdjbeihjbaaGreatHFlDone
import Derived.Handy
import Derived.Test.YtcmihdjbeihjbaaGreatHFlCalls

namespace Go.Proofs.YtcmihdjbeihjbaaGreat
open Go Go.RowKit
set_option linter.unusedSimpArgs false
set_option linter.unusedVariables false
set_option maxRecDepth 100000 in
set_option maxHeartbeats 16000000 in
theorem done_write (s : ByteArray) (st : Nat) (kd a m : Int) (t : ByteArray) (t' : Nat) (ha : -9223372036854775808 ≤ a ∧ a ≤ 9223372036854775807) (ht : t.size ≤ 140737488355328) (hs : s.size ≤ 1048576) (k : Nat) (hk3 : kdN kd = k) (kn3 : k ≠ 3) (kn4 : k ≠ 4) (kn5 : k ≠ 5) (R : Dn) (hR : dnF s st k a m t t' = R) (V : World) : Calls Tryz.prog 44 #[.agg (mdC s st), .agg (acC kd a m t t')] V fun e w' => e = .returned (.tuple #[.int .i64 R.ans, .int .i64 R.err, .agg (mdC R.s R.st)]) ∧ Below V.heap.size V w' := by
  have hzm := zero_md
  have bM : Blk (((V.alloc (.cells (mdC s st) 32)).alloc (.cells (acC kd a m t t') 134)).alloc (.cells #[.string ⟨#[]⟩, .int .u64 0] 32)) V.heap.size 32 (mdC s st) := ((Blk.new _ _ _).alloc _).alloc _
  have bA : Blk (((V.alloc (.cells (mdC s st) 32)).alloc (.cells (acC kd a m t t') 134)).alloc (.cells #[.string ⟨#[]⟩, .int .u64 0] 32)) (V.heap.size + 1) 134 (acC kd a m t t') := (Blk.new1 _ _ _ _).alloc _
  have bR : Blk (((V.alloc (.cells (mdC s st) 32)).alloc (.cells (acC kd a m t t') 134)).alloc (.cells #[.string ⟨#[]⟩, .int .u64 0] 32)) (V.heap.size + 1 + 1) 32 (mdC ⟨#[]⟩ 0) := Blk.new2 _ _ _ _ _
  have hbel : Below V.heap.size V (((V.alloc (.cells (mdC s st) 32)).alloc (.cells (acC kd a m t t') 134)).alloc (.cells #[.string ⟨#[]⟩, .int .u64 0] 32)) := below_new3 _ _ _ _
  obtain ⟨m0, m1, _, _⟩ := md_cs bM
  obtain ⟨r0, r1, f0, f1⟩ := md_cs bR
  obtain ⟨c1, c2, c3, c4⟩ := ac_cs bA
  have c0 : (((V.alloc (.cells (mdC s st) 32)).alloc (.cells (acC kd a m t t') 134)).alloc (.cells #[.string ⟨#[]⟩, .int .u64 0] 32)).cell? ⟨V.heap.size + 1, 0, none⟩ = some (.int .i64 kd) := (bA.cell 0).trans rfl
  obtain ⟨hk1, hk2⟩ := kd_is kd
  have b1 := Int.tmod_lt_of_pos kd (show (0 : Int) < 8 by decide)
  have b2 := Int.lt_tmod_of_pos kd (show (0 : Int) < 8 by decide)
  obtain ⟨q1, hq1⟩ : ∃ q1 : Int, kd.tmod 8 = q1 := ⟨_, rfl⟩
  rw [hq1] at b1 b2 hk1
  rw [hk3] at hk1 hk2
  obtain ⟨q2, hq2⟩ : ∃ q2 : Nat, q1 + 8 = (q2 : Int) := ⟨(q1 + 8).toNat, by omega⟩
  rw [hq2] at hk1
  have b3 : q2 ≤ 16 := by omega
  have hw1 : wrap64 q1 = q1 := by unfold wrap64; omega
  have HR : Hid (dnF s st k a m t t' = R) := hR
  clear hR b1 b2
  go_enter Tryz.func44, Tryz.ntmps44
  have hD : dnF s st k a m t t' = (if a < 0 ∨ 1048576 < a + (t.size : Int) then ⟨0, if a < 0 then 1 else 160, s, st⟩ else ⟨((a.toNat + t.size : Nat) : Int), 0, strN (wrF (tbyte s) s.size t a.toNat) (wzN s.size a.toNat t.size), if t.size = 0 then st else t'⟩) := by
    unfold dnF
    rw [if_neg kn3, if_neg kn4, if_neg kn5]
  rw [HR.out] at hD
  have k3b : ((k : Int) == 3) = false := by simp; omega
  have k4b : ((k : Int) == 4) = false := by simp; omega
  have k5b : ((k : Int) == 5) = false := by simp; omega
  have k3c : ¬ ((k : Int) = 3) := by omega
  have k4c : ¬ ((k : Int) = 4) := by omega
  have k5c : ¬ ((k : Int) = 5) := by omega
  have k6 : k ≤ 8 := by omega
  obtain ⟨S, hS⟩ : ∃ S : Nat, s.size = S := ⟨_, rfl⟩
  obtain ⟨T, hT⟩ : ∃ T : Nat, t.size = T := ⟨_, rfl⟩
  obtain ⟨lf, hlf⟩ : ∃ lf : Int, (1048576 : Int) - (T : Int) = lf := ⟨_, rfl⟩
  have hwl : wrap64 lf = lf := by unfold wrap64; omega
  clear kn3 kn4 kn5 hk2
  by_cases h0 : a < 0
  · rw [if_pos (.inl h0), if_pos h0] at hD
    have HD : Hid (R = _) := hD
    have HP : Hid (DE V ⟨0, 1, s, st⟩ _) := put_md bR hbel s st
    clear hD HR bR hbel bM bA
    go_wp2_with fail
    generalize (((V.alloc (.cells (mdC s st) 32)).alloc (.cells (acC kd a m t t') 134)).alloc (.cells #[.string ⟨#[]⟩, .int .u64 0] 32)) = V3 at *
    go_region
    go_wp2_with fail
    try simp only [Exit.inBlock, Exit.then]
    refine bodyPost_ret (res_ttc Tryz.results44 _ _ (V.heap.size + 1 + 1) 32 _ (0, 0) _ rfl (by exact HP.out.1) Tryz.underlying32 rfl (sizeMd.trans (by rfl))) rfl ?_
    rw [HD.out]
    exact ⟨by first | rfl | (rw [hS]; rfl), HP.out.2⟩
  · obtain ⟨z, hz⟩ : ∃ z : Nat, a = (z : Int) := ⟨a.toNat, by omega⟩
    rw [show a.toNat = z by omega] at hD
    subst hz
    have n0 : ¬ ((z : Int) < 0) := by omega
    by_cases h1 : 1048576 < (z : Int) + (t.size : Int)
    · rw [if_pos (.inr h1), if_neg h0] at hD
      have HD : Hid (R = _) := hD
      have HP : Hid (DE V ⟨0, 160, s, st⟩ _) := put_md bR hbel s st
      clear hD HR bR hbel bM bA
      by_cases hT1 : 1048576 < T
      · have t1 : (1048576 : Int) < (T : Int) := by omega
        clear hT1 h1
        go_wp2_with fail
        generalize (((V.alloc (.cells (mdC s st) 32)).alloc (.cells (acC kd (z : Int) m t t') 134)).alloc (.cells #[.string ⟨#[]⟩, .int .u64 0] 32)) = V3 at *
        go_region
        go_wp2_with fail
        try simp only [Exit.inBlock, Exit.then]
        refine bodyPost_ret (res_ttc Tryz.results44 _ _ (V.heap.size + 1 + 1) 32 _ (0, 0) _ rfl (by exact HP.out.1) Tryz.underlying32 rfl (sizeMd.trans (by rfl))) rfl ?_
        rw [HD.out]
        exact ⟨by first | rfl | (rw [hS]; rfl), HP.out.2⟩
      · have t1 : ¬ ((1048576 : Int) < (T : Int)) := by omega
        have t2 : lf < (z : Int) := by omega
        clear hT1 h1
        go_wp2_with fail
        generalize (((V.alloc (.cells (mdC s st) 32)).alloc (.cells (acC kd (z : Int) m t t') 134)).alloc (.cells #[.string ⟨#[]⟩, .int .u64 0] 32)) = V3 at *
        go_region
        go_wp2_with fail
        try simp only [Exit.inBlock, Exit.then]
        refine bodyPost_ret (res_ttc Tryz.results44 _ _ (V.heap.size + 1 + 1) 32 _ (0, 0) _ rfl (by exact HP.out.1) Tryz.underlying32 rfl (sizeMd.trans (by rfl))) rfl ?_
        rw [HD.out]
        exact ⟨by first | rfl | (rw [hS]; rfl), HP.out.2⟩
    · rw [if_neg (by omega)] at hD
      have t1 : ¬ ((1048576 : Int) < (T : Int)) := by omega
      have t2 : ¬ (lf < (z : Int)) := by omega
      have b9 : z ≤ 1048576 := by omega
      by_cases hT0 : t.size = 0
      · have e := empty_text hT0
        subst e
        rw [if_pos hT0, wr_none s _ _ hT0] at hD
        have HD : Hid (R = ⟨(z : Int), 0, s, st⟩) := by
          show R = _
          rw [hD]
          have : (⟨#[]⟩ : ByteArray).size = 0 := rfl
          rw [this, Nat.add_zero]
        have HP : Hid (DE V ⟨(z : Int), 0, s, st⟩ _) := put_md bR hbel s st
        clear hD HR bR hbel bM bA h0 h1 hT0
        go_wp2_with fail
        generalize (((V.alloc (.cells (mdC s st) 32)).alloc (.cells (acC kd (z : Int) m _ t') 134)).alloc (.cells #[.string ⟨#[]⟩, .int .u64 0] 32)) = V3 at *
        go_region
        go_wp2_with fail
        try simp only [Exit.inBlock, Exit.then]
        refine bodyPost_ret (res_ttc Tryz.results44 _ _ (V.heap.size + 1 + 1) 32 _ (0, 0) _ rfl (by exact HP.out.1) Tryz.underlying32 rfl (sizeMd.trans (by rfl))) rfl ?_
        rw [HD.out]
        exact ⟨by first | rfl | (rw [hS]; rfl), HP.out.2⟩
      · rw [if_neg hT0, ← wr_text s t z hT0] at hD
        have hne : t.toList.isEmpty = false := fl_full (by omega)
        obtain ⟨en, hen⟩ : ∃ en : Nat, z + T = en := ⟨_, rfl⟩
        have e7 : (z : Int) + (T : Int) = (en : Int) := by omega
        have hwe : IntKind.i64.wrap (en : Int) = (en : Int) := wrapI64_id _ (by omega) (by omega)
        have b7 : en ≤ 1048576 := by omega
        obtain ⟨d, hd⟩ : ∃ d : Int, (en : Int) - (S : Int) = d := ⟨_, rfl⟩
        have hwd : IntKind.i64.wrap d = d := wrapI64_id _ (by omega) (by omega)
        rw [hT, hen] at hD
        have HZ : Hid (∀ w : World, Calls Tryz.prog 59 #[.int .i64 d] w fun e w' => e = .returned (.string (strN (fun _ => 0) (en - s.size))) ∧ Below w.heap.size w w') := zeros_any d (en - s.size) (by omega) (by omega)
        have hadd : ∀ w, (Op.stringOp .add s (strN (fun _ => 0) (en - s.size))).run Tryz.prog w = .ok (.string (zpT s (en - s.size))) w := fun w => run_string_add_sum w _ _ (by rw [strN_size]; omega)
        have hzs : (zpT s (en - s.size)).size = s.size + (en - s.size) := zp_size _ _
        obtain ⟨X, hX⟩ : ∃ X : ByteArray, zpT s (en - s.size) = X := ⟨_, rfl⟩
        obtain ⟨Y, hY⟩ : ∃ Y : ByteArray, strN (fun _ => 0) (en - s.size) = Y := ⟨_, rfl⟩
        rw [hX] at hadd hzs hD
        rw [hY] at hadd HZ
        obtain ⟨L, hL⟩ : ∃ L : Nat, X.size = L := ⟨_, rfl⟩
        have x1 := extract_size X 0 z (by omega)
        have x2 := extract_size X en X.size (Nat.le_refl _)
        have hadd1 : ∀ w, (Op.stringOp .add (X.extract 0 z) t).run Tryz.prog w = .ok (.string (X.extract 0 z ++ t)) w := fun w => run_string_add_sum w _ _ (by rw [x1]; omega)
        have hadd2 : ∀ w, (Op.stringOp .add (X.extract 0 z ++ t) (X.extract en X.size)).run Tryz.prog w = .ok (.string (X.extract 0 z ++ t ++ X.extract en X.size)) w := fun w => run_string_add_sum w _ _ (by rw [cat_size, x1, x2]; omega)
        obtain ⟨Q, hQ⟩ : ∃ Q : ByteArray, X.extract 0 z ++ t ++ X.extract en X.size = Q := ⟨_, rfl⟩
        rw [hQ] at hadd2 hD
        rw [hL] at hadd2
        have zl : (z : Int) ≤ (L : Int) := by omega
        have el : (en : Int) ≤ (L : Int) := by omega
        have z0 : (0 : Int) ≤ (z : Int) := by omega
        have en0 : (0 : Int) ≤ (en : Int) := by omega
        have HD : Hid (R = ⟨(en : Int), 0, Q, t'⟩) := hD
        have hbm := built_md Q t'
        have hS0 : Blk (((V.alloc (.cells (mdC s st) 32)).alloc (.cells (acC kd (z : Int) m t t') 134)).alloc (.cells #[.string ⟨#[]⟩, .int .u64 0] 32)).drew V.heap.size 32 (mdC s st) ∧ Blk (((V.alloc (.cells (mdC s st) 32)).alloc (.cells (acC kd (z : Int) m t t') 134)).alloc (.cells #[.string ⟨#[]⟩, .int .u64 0] 32)).drew (V.heap.size + 1) 134 (acC kd (z : Int) m t t') ∧ ∃ s0 t0, Blk (((V.alloc (.cells (mdC s st) 32)).alloc (.cells (acC kd (z : Int) m t t') 134)).alloc (.cells #[.string ⟨#[]⟩, .int .u64 0] 32)).drew (V.heap.size + 1 + 1) 32 (mdC s0 t0) := ⟨bM.drew, bA.drew, _, _, bR.drew⟩
        have hE0 := hbel.drew
        clear hD HR bR hbel bM bA hX hY hQ hzs x1 x2 h0 h1 hT0
        go_wp2_with fail
        refine wp_region_plan (fun W => Blk W V.heap.size 32 (mdC s st) ∧ Blk W (V.heap.size + 1) 134 (acC kd (z : Int) m t t') ∧ ∃ s0 t0, Blk W (V.heap.size + 1 + 1) 32 (mdC s0 t0)) (.yield [] 0 (.yield [] 1 (.yield [] 2 (.yield [] 3 (.yield [] 4 (.yield [] 5 (.yield [] 6 (.yield [] 7 (.force [] 8 (.force [] 9 (.force [] 10 (.force [] 11 (.force [] 12 (.force [] 13 (.fin [14]))))))))))))))) (by kernel_rfl) (by kernel_rfl) hS0 (plan_yield ?_)
        clear m0 m1 r0 r1 f0 f1 c0 c1 c2 c3 c4
        generalize (((V.alloc (.cells (mdC s st) 32)).alloc (.cells (acC kd (z : Int) m t t') 134)).alloc (.cells #[.string ⟨#[]⟩, .int .u64 0] 32)).drew = W0 at *
        simp only [List.cons_append, List.nil_append, List.append_nil, List.filterMap_cons, List.filterMap_nil, List.getElem?_toArray, List.getElem?_cons_zero, List.getElem?_cons_succ]
        go_wp2_with fail
        refine ⟨rfl, _, .pointer (some ⟨V.heap.size, 0, none⟩), rfl, Or.inl ⟨by rfl, fun W hW => by go_simp⟩, plan_yield ?_⟩
        simp only [Act.put, List.setIfInBounds_toArray, List.set_cons_zero, List.set_cons_succ]
        simp only [List.cons_append, List.nil_append, List.append_nil, List.filterMap_cons, List.filterMap_nil, List.getElem?_toArray, List.getElem?_cons_zero, List.getElem?_cons_succ]
        go_wp2_with fail
        refine ⟨rfl, _, .string s, rfl, Or.inl ⟨by rfl, fun W hW => by obtain ⟨q0, q1, _, _⟩ := md_cs hW.1; go_simp⟩, plan_yield ?_⟩
        simp only [Act.put, List.setIfInBounds_toArray, List.set_cons_zero, List.set_cons_succ]
        simp only [List.cons_append, List.nil_append, List.append_nil, List.filterMap_cons, List.filterMap_nil, List.getElem?_toArray, List.getElem?_cons_zero, List.getElem?_cons_succ]
        go_wp2_with fail
        refine ⟨rfl, _, .pointer (some ⟨V.heap.size + 1, 1, none⟩), rfl, Or.inl ⟨by rfl, fun W hW => by go_simp⟩, plan_yield ?_⟩
        simp only [Act.put, List.setIfInBounds_toArray, List.set_cons_zero, List.set_cons_succ]
        simp only [List.cons_append, List.nil_append, List.append_nil, List.filterMap_cons, List.filterMap_nil, List.getElem?_toArray, List.getElem?_cons_zero, List.getElem?_cons_succ]
        go_wp2_with fail
        refine ⟨rfl, _, .int .i64 (z : Int), rfl, Or.inl ⟨by rfl, fun W hW => by obtain ⟨q1, q2, q3, q4⟩ := ac_cs hW.2.1; go_simp⟩, plan_yield ?_⟩
        simp only [Act.put, List.setIfInBounds_toArray, List.set_cons_zero, List.set_cons_succ]
        simp only [List.cons_append, List.nil_append, List.append_nil, List.filterMap_cons, List.filterMap_nil, List.getElem?_toArray, List.getElem?_cons_zero, List.getElem?_cons_succ]
        go_wp2_with fail
        refine ⟨rfl, _, .pointer (some ⟨V.heap.size + 1, 3, none⟩), rfl, Or.inl ⟨by rfl, fun W hW => by go_simp⟩, plan_yield ?_⟩
        simp only [Act.put, List.setIfInBounds_toArray, List.set_cons_zero, List.set_cons_succ]
        simp only [List.cons_append, List.nil_append, List.append_nil, List.filterMap_cons, List.filterMap_nil, List.getElem?_toArray, List.getElem?_cons_zero, List.getElem?_cons_succ]
        go_wp2_with fail
        refine ⟨rfl, _, .string t, rfl, Or.inl ⟨by rfl, fun W hW => by obtain ⟨q1, q2, q3, q4⟩ := ac_cs hW.2.1; go_simp⟩, plan_yield ?_⟩
        simp only [Act.put, List.setIfInBounds_toArray, List.set_cons_zero, List.set_cons_succ]
        simp only [List.cons_append, List.nil_append, List.append_nil, List.filterMap_cons, List.filterMap_nil, List.getElem?_toArray, List.getElem?_cons_zero, List.getElem?_cons_succ]
        go_wp2_with fail
        refine ⟨rfl, _, .int .i64 (T : Int), rfl, Or.inl ⟨by rfl, fun W hW => by go_simp⟩, plan_yield ?_⟩
        simp only [Act.put, List.setIfInBounds_toArray, List.set_cons_zero, List.set_cons_succ]
        simp only [List.cons_append, List.nil_append, List.append_nil, List.filterMap_cons, List.filterMap_nil, List.getElem?_toArray, List.getElem?_cons_zero, List.getElem?_cons_succ]
        go_wp2_with fail
        refine ⟨rfl, _, .int .i64 (en : Int), rfl, Or.inl ⟨by rfl, fun W hW => by go_simp⟩, plan_force ?_⟩
        simp only [Act.put, List.setIfInBounds_toArray, List.set_cons_zero, List.set_cons_succ]
        simp only [List.cons_append, List.nil_append, List.append_nil, List.filterMap_cons, List.filterMap_nil, List.getElem?_toArray, List.getElem?_cons_zero, List.getElem?_cons_succ]
        go_wp2_with fail
        refine ⟨rfl, hS0, plan_force ?_⟩
        simp only [List.cons_append, List.nil_append, List.append_nil, List.filterMap_cons, List.filterMap_nil, List.getElem?_toArray, List.getElem?_cons_zero, List.getElem?_cons_succ]
        obtain ⟨q0, q1, _, _⟩ := md_cs hS0.1
        go_wp2_with fail
        clear q0 q1
        refine ⟨rfl, hS0, plan_force ?_⟩
        simp only [List.cons_append, List.nil_append, List.append_nil, List.filterMap_cons, List.filterMap_nil, List.getElem?_toArray, List.getElem?_cons_zero, List.getElem?_cons_succ]
        go_wp2_with fail
        refine ⟨rfl, hS0, plan_force ?_⟩
        simp only [List.cons_append, List.nil_append, List.append_nil, List.filterMap_cons, List.filterMap_nil, List.getElem?_toArray, List.getElem?_cons_zero, List.getElem?_cons_succ]
        go_wp2_with fail
        refine ⟨rfl, hS0, plan_force ?_⟩
        simp only [List.cons_append, List.nil_append, List.append_nil, List.filterMap_cons, List.filterMap_nil, List.getElem?_toArray, List.getElem?_cons_zero, List.getElem?_cons_succ]
        go_wp2_with fail
        refine (HZ.out _).mono ?_
        rintro e W1 ⟨rfl, hz1⟩
        have hS1 : Blk W1 V.heap.size 32 (mdC s st) ∧ Blk W1 (V.heap.size + 1) 134 (acC kd (z : Int) m t t') ∧ ∃ s0 t0, Blk W1 (V.heap.size + 1 + 1) 32 (mdC s0 t0) := by
          obtain ⟨u1, u2, s0, t0, u3⟩ := hS0
          exact ⟨u1.below hz1 u1.lt, u2.below hz1 u2.lt, s0, t0, u3.below hz1 u3.lt⟩
        have hE1 : Below V.heap.size V W1 := hE0.trans (hz1.mono hE0.size)
        clear hz1 hE0 hS0
        go_wp2_with fail
        refine ⟨rfl, hS1, plan_force ?_⟩
        simp only [List.cons_append, List.nil_append, List.append_nil, List.filterMap_cons, List.filterMap_nil, List.getElem?_toArray, List.getElem?_cons_zero, List.getElem?_cons_succ]
        go_wp2_with fail
        refine ⟨rfl, hS1, plan_fin ?_⟩
        simp only [List.cons_append, List.nil_append, List.append_nil, List.filterMap_cons, List.filterMap_nil, List.getElem?_toArray, List.getElem?_cons_zero, List.getElem?_cons_succ]
        go_wp2_with fail
        refine ⟨rfl, ?_⟩
        go_wp2_with fail
        have hS0 : Blk W1.drew V.heap.size 32 (mdC s st) ∧ Blk W1.drew (V.heap.size + 1) 134 (acC kd (z : Int) m t t') ∧ ∃ s0 t0, Blk W1.drew (V.heap.size + 1 + 1) 32 (mdC s0 t0) := by
          obtain ⟨u1, u2, s0, t0, u3⟩ := hS1
          exact ⟨u1.drew, u2.drew, s0, t0, u3.drew⟩
        have hE0 := hE1.drew
        clear hS1 hE1
        refine wp_region_plan (fun W => Blk W V.heap.size 32 (mdC s st) ∧ Blk W (V.heap.size + 1) 134 (acC kd (z : Int) m t t') ∧ ∃ s0 t0, Blk W (V.heap.size + 1 + 1) 32 (mdC s0 t0)) (.yield [6, 13] 0 (.yield [] 1 (.yield [] 2 (.yield [] 3 (.yield [] 4 (.yield [] 5 (.yield [25, 26] 7 (.yield [] 8 (.yield [] 9 (.yield [] 10 (.yield [] 11 (.yield [] 12 (.yield [] 14 (.yield [] 15 (.yield [] 16 (.yield [] 17 (.yield [] 18 (.yield [] 19 (.yield [] 20 (.yield [] 21 (.force [] 22 (.force [] 23 (.force [] 24 (.force [] 27 (.fin []))))))))))))))))))))))))) (by kernel_rfl) (by kernel_rfl) hS0 (plan_yield ?_)
        generalize W1.drew = W0 at *
        simp only [List.cons_append, List.nil_append, List.append_nil, List.filterMap_cons, List.filterMap_nil, List.getElem?_toArray, List.getElem?_cons_zero, List.getElem?_cons_succ]
        go_wp2_with fail
        refine ⟨rfl, _, .pointer (some ⟨V.heap.size + 1, 1, none⟩), rfl, Or.inl ⟨by rfl, fun W hW => by go_simp⟩, plan_yield ?_⟩
        simp only [Act.put, List.setIfInBounds_toArray, List.set_cons_zero, List.set_cons_succ]
        simp only [List.cons_append, List.nil_append, List.append_nil, List.filterMap_cons, List.filterMap_nil, List.getElem?_toArray, List.getElem?_cons_zero, List.getElem?_cons_succ]
        go_wp2_with fail
        refine ⟨rfl, _, .int .i64 (z : Int), rfl, Or.inl ⟨by rfl, fun W hW => by obtain ⟨q1, q2, q3, q4⟩ := ac_cs hW.2.1; go_simp⟩, plan_yield ?_⟩
        simp only [Act.put, List.setIfInBounds_toArray, List.set_cons_zero, List.set_cons_succ]
        simp only [List.cons_append, List.nil_append, List.append_nil, List.filterMap_cons, List.filterMap_nil, List.getElem?_toArray, List.getElem?_cons_zero, List.getElem?_cons_succ]
        go_wp2_with fail
        refine ⟨rfl, _, .pointer (some ⟨V.heap.size + 1, 3, none⟩), rfl, Or.inl ⟨by rfl, fun W hW => by go_simp⟩, plan_yield ?_⟩
        simp only [Act.put, List.setIfInBounds_toArray, List.set_cons_zero, List.set_cons_succ]
        simp only [List.cons_append, List.nil_append, List.append_nil, List.filterMap_cons, List.filterMap_nil, List.getElem?_toArray, List.getElem?_cons_zero, List.getElem?_cons_succ]
        go_wp2_with fail
        refine ⟨rfl, _, .string t, rfl, Or.inl ⟨by rfl, fun W hW => by obtain ⟨q1, q2, q3, q4⟩ := ac_cs hW.2.1; go_simp⟩, plan_yield ?_⟩
        simp only [Act.put, List.setIfInBounds_toArray, List.set_cons_zero, List.set_cons_succ]
        simp only [List.cons_append, List.nil_append, List.append_nil, List.filterMap_cons, List.filterMap_nil, List.getElem?_toArray, List.getElem?_cons_zero, List.getElem?_cons_succ]
        go_wp2_with fail
        refine ⟨rfl, _, .int .i64 (T : Int), rfl, Or.inl ⟨by rfl, fun W hW => by go_simp⟩, plan_yield ?_⟩
        simp only [Act.put, List.setIfInBounds_toArray, List.set_cons_zero, List.set_cons_succ]
        simp only [List.cons_append, List.nil_append, List.append_nil, List.filterMap_cons, List.filterMap_nil, List.getElem?_toArray, List.getElem?_cons_zero, List.getElem?_cons_succ]
        go_wp2_with fail
        refine ⟨rfl, _, .int .i64 (en : Int), rfl, Or.inl ⟨by rfl, fun W hW => by go_simp⟩, plan_yield ?_⟩
        simp only [Act.put, List.setIfInBounds_toArray, List.set_cons_zero, List.set_cons_succ]
        simp only [List.cons_append, List.nil_append, List.append_nil, List.filterMap_cons, List.filterMap_nil, List.getElem?_toArray, List.getElem?_cons_zero, List.getElem?_cons_succ]
        go_wp2_with fail
        refine ⟨rfl, _, .pointer (some ⟨V.heap.size + 1, 1, none⟩), rfl, Or.inl ⟨by rfl, fun W hW => by go_simp⟩, plan_yield ?_⟩
        simp only [Act.put, List.setIfInBounds_toArray, List.set_cons_zero, List.set_cons_succ]
        simp only [List.cons_append, List.nil_append, List.append_nil, List.filterMap_cons, List.filterMap_nil, List.getElem?_toArray, List.getElem?_cons_zero, List.getElem?_cons_succ]
        go_wp2_with fail
        refine ⟨rfl, _, .int .i64 (z : Int), rfl, Or.inl ⟨by rfl, fun W hW => by obtain ⟨q1, q2, q3, q4⟩ := ac_cs hW.2.1; go_simp⟩, plan_yield ?_⟩
        simp only [Act.put, List.setIfInBounds_toArray, List.set_cons_zero, List.set_cons_succ]
        simp only [List.cons_append, List.nil_append, List.append_nil, List.filterMap_cons, List.filterMap_nil, List.getElem?_toArray, List.getElem?_cons_zero, List.getElem?_cons_succ]
        go_wp2_with fail
        refine ⟨rfl, _, .string (X.extract 0 z), rfl, Or.inl ⟨by rfl, fun W hW => by go_simp⟩, plan_yield ?_⟩
        simp only [Act.put, List.setIfInBounds_toArray, List.set_cons_zero, List.set_cons_succ]
        simp only [List.cons_append, List.nil_append, List.append_nil, List.filterMap_cons, List.filterMap_nil, List.getElem?_toArray, List.getElem?_cons_zero, List.getElem?_cons_succ]
        go_wp2_with fail
        refine ⟨rfl, _, .pointer (some ⟨V.heap.size + 1, 3, none⟩), rfl, Or.inl ⟨by rfl, fun W hW => by go_simp⟩, plan_yield ?_⟩
        simp only [Act.put, List.setIfInBounds_toArray, List.set_cons_zero, List.set_cons_succ]
        simp only [List.cons_append, List.nil_append, List.append_nil, List.filterMap_cons, List.filterMap_nil, List.getElem?_toArray, List.getElem?_cons_zero, List.getElem?_cons_succ]
        go_wp2_with fail
        refine ⟨rfl, _, .string t, rfl, Or.inl ⟨by rfl, fun W hW => by obtain ⟨q1, q2, q3, q4⟩ := ac_cs hW.2.1; go_simp⟩, plan_yield ?_⟩
        simp only [Act.put, List.setIfInBounds_toArray, List.set_cons_zero, List.set_cons_succ]
        simp only [List.cons_append, List.nil_append, List.append_nil, List.filterMap_cons, List.filterMap_nil, List.getElem?_toArray, List.getElem?_cons_zero, List.getElem?_cons_succ]
        go_wp2_with fail
        refine ⟨rfl, _, .string (X.extract 0 z ++ t), rfl, Or.inl ⟨by rfl, fun W hW => by go_simp⟩, plan_yield ?_⟩
        simp only [Act.put, List.setIfInBounds_toArray, List.set_cons_zero, List.set_cons_succ]
        simp only [List.cons_append, List.nil_append, List.append_nil, List.filterMap_cons, List.filterMap_nil, List.getElem?_toArray, List.getElem?_cons_zero, List.getElem?_cons_succ]
        go_wp2_with fail
        refine ⟨rfl, _, .pointer (some ⟨V.heap.size + 1, 1, none⟩), rfl, Or.inl ⟨by rfl, fun W hW => by go_simp⟩, plan_yield ?_⟩
        simp only [Act.put, List.setIfInBounds_toArray, List.set_cons_zero, List.set_cons_succ]
        simp only [List.cons_append, List.nil_append, List.append_nil, List.filterMap_cons, List.filterMap_nil, List.getElem?_toArray, List.getElem?_cons_zero, List.getElem?_cons_succ]
        go_wp2_with fail
        refine ⟨rfl, _, .int .i64 (z : Int), rfl, Or.inl ⟨by rfl, fun W hW => by obtain ⟨q1, q2, q3, q4⟩ := ac_cs hW.2.1; go_simp⟩, plan_yield ?_⟩
        simp only [Act.put, List.setIfInBounds_toArray, List.set_cons_zero, List.set_cons_succ]
        simp only [List.cons_append, List.nil_append, List.append_nil, List.filterMap_cons, List.filterMap_nil, List.getElem?_toArray, List.getElem?_cons_zero, List.getElem?_cons_succ]
        go_wp2_with fail
        refine ⟨rfl, _, .pointer (some ⟨V.heap.size + 1, 3, none⟩), rfl, Or.inl ⟨by rfl, fun W hW => by go_simp⟩, plan_yield ?_⟩
        simp only [Act.put, List.setIfInBounds_toArray, List.set_cons_zero, List.set_cons_succ]
        simp only [List.cons_append, List.nil_append, List.append_nil, List.filterMap_cons, List.filterMap_nil, List.getElem?_toArray, List.getElem?_cons_zero, List.getElem?_cons_succ]
        go_wp2_with fail
        refine ⟨rfl, _, .string t, rfl, Or.inl ⟨by rfl, fun W hW => by obtain ⟨q1, q2, q3, q4⟩ := ac_cs hW.2.1; go_simp⟩, plan_yield ?_⟩
        simp only [Act.put, List.setIfInBounds_toArray, List.set_cons_zero, List.set_cons_succ]
        simp only [List.cons_append, List.nil_append, List.append_nil, List.filterMap_cons, List.filterMap_nil, List.getElem?_toArray, List.getElem?_cons_zero, List.getElem?_cons_succ]
        go_wp2_with fail
        refine ⟨rfl, _, .int .i64 (T : Int), rfl, Or.inl ⟨by rfl, fun W hW => by go_simp⟩, plan_yield ?_⟩
        simp only [Act.put, List.setIfInBounds_toArray, List.set_cons_zero, List.set_cons_succ]
        simp only [List.cons_append, List.nil_append, List.append_nil, List.filterMap_cons, List.filterMap_nil, List.getElem?_toArray, List.getElem?_cons_zero, List.getElem?_cons_succ]
        go_wp2_with fail
        refine ⟨rfl, _, .int .i64 (en : Int), rfl, Or.inl ⟨by rfl, fun W hW => by go_simp⟩, plan_yield ?_⟩
        simp only [Act.put, List.setIfInBounds_toArray, List.set_cons_zero, List.set_cons_succ]
        simp only [List.cons_append, List.nil_append, List.append_nil, List.filterMap_cons, List.filterMap_nil, List.getElem?_toArray, List.getElem?_cons_zero, List.getElem?_cons_succ]
        go_wp2_with fail
        refine ⟨rfl, _, .string (X.extract en L), rfl, Or.inl ⟨by rfl, fun W hW => by go_simp⟩, plan_yield ?_⟩
        simp only [Act.put, List.setIfInBounds_toArray, List.set_cons_zero, List.set_cons_succ]
        simp only [List.cons_append, List.nil_append, List.append_nil, List.filterMap_cons, List.filterMap_nil, List.getElem?_toArray, List.getElem?_cons_zero, List.getElem?_cons_succ]
        go_wp2_with fail
        refine ⟨rfl, _, .string Q, rfl, Or.inl ⟨by rfl, fun W hW => by go_simp⟩, plan_force ?_⟩
        simp only [Act.put, List.setIfInBounds_toArray, List.set_cons_zero, List.set_cons_succ]
        simp only [List.cons_append, List.nil_append, List.append_nil, List.filterMap_cons, List.filterMap_nil, List.getElem?_toArray, List.getElem?_cons_zero, List.getElem?_cons_succ]
        go_wp2_with fail
        refine ⟨rfl, hS0, plan_force ?_⟩
        simp only [List.cons_append, List.nil_append, List.append_nil, List.filterMap_cons, List.filterMap_nil, List.getElem?_toArray, List.getElem?_cons_zero, List.getElem?_cons_succ]
        obtain ⟨q1, q2, q3, q4⟩ := ac_cs hS0.2.1
        go_wp2_with fail
        clear q1 q2 q3 q4
        refine ⟨rfl, hS0, plan_force ?_⟩
        simp only [List.cons_append, List.nil_append, List.append_nil, List.filterMap_cons, List.filterMap_nil, List.getElem?_toArray, List.getElem?_cons_zero, List.getElem?_cons_succ]
        (refine fl_build_at (by rfl) 32 _ (by rfl) [(0, .string (Q)), (1, .int .u64 ((t' : Nat) : Int))] (by simp [Act.eval]) (mdC (Q) t') hbm ?_; simp only [Act.put, List.setIfInBounds_toArray, List.set_cons_zero, List.set_cons_succ])
        go_wp2_with fail
        refine ⟨rfl, hS0, plan_force ?_⟩
        simp only [List.cons_append, List.nil_append, List.append_nil, List.filterMap_cons, List.filterMap_nil, List.getElem?_toArray, List.getElem?_cons_zero, List.getElem?_cons_succ]
        obtain ⟨u1, u2, s0, t0, u3⟩ := hS0
        (refine wpList_store_row (by rfl) 32 _ _ (by rfl) (V.heap.size + 1 + 1) (mdC (Q) t') (by rfl) (by rfl) 32 (mdC s0 t0) (by exact u3) (sizeMd.trans (by rfl)) (by rfl) (md_all _ _) ?_; simp only [Act.put, List.setIfInBounds_toArray, List.set_cons_zero, List.set_cons_succ])
        have HP : Hid (Blk (W0.setRow (V.heap.size + 1 + 1) (mdC (Q) t')) (V.heap.size + 1 + 1) 32 (mdC (Q) t') ∧ Below V.heap.size V (W0.setRow (V.heap.size + 1 + 1) (mdC (Q) t'))) := ⟨u3.set _, below_setRow hE0 (by omega) _⟩
        have hS2 : Blk (W0.setRow (V.heap.size + 1 + 1) (mdC (Q) t')) V.heap.size 32 (mdC s st) ∧ Blk (W0.setRow (V.heap.size + 1 + 1) (mdC (Q) t')) (V.heap.size + 1) 134 (acC kd (z : Int) m t t') ∧ ∃ s0 t0, Blk (W0.setRow (V.heap.size + 1 + 1) (mdC (Q) t')) (V.heap.size + 1 + 1) 32 (mdC s0 t0) := ⟨u1.other (g := V.heap.size + 1 + 1) (mdC (Q) t') (by omega), u2.other _ (by omega), _, _, u3.set _⟩
        clear u1 u2 u3 hE0
        go_wp2_with fail
        refine ⟨rfl, hS2, plan_fin ?_⟩
        simp only [List.cons_append, List.nil_append, List.append_nil, List.filterMap_cons, List.filterMap_nil, List.getElem?_toArray, List.getElem?_cons_zero, List.getElem?_cons_succ]
        go_wp2_with fail
        refine ⟨rfl, ?_⟩
        go_wp2_with fail
        try simp only [Exit.inBlock, Exit.then]
        refine bodyPost_ret (res_ttc Tryz.results44 _ _ (V.heap.size + 1 + 1) 32 _ (0, 0) _ rfl (by exact HP.out.1) Tryz.underlying32 rfl (sizeMd.trans (by rfl))) rfl ?_
        rw [HD.out]
        exact ⟨by first | rfl | (rw [hS]; rfl), HP.out.2⟩
end Go.Proofs.YtcmihdjbeihjbaaGreat

namespace Go.Proofs.YtcmihdjbeihjbaaGreat
open Go Go.RowKit
set_option linter.unusedSimpArgs false
set_option linter.unusedVariables false
section
variable {w w' : World} {x mf ml mc : Nat} {cp : Option Addr} {top : Int} {H : Nat → Hd} {D : Nat → Nat → Nat → Nat} {n o st : Nat} {F : Nat → Nat}
theorem layd_bytes (hf : Fi H D n o st F) (s : ByteArray) (a z : Nat) (hoz : z < o) (haz : a + s.size ≤ z) (p : Nat) (hp : p < z) : wrF F o s a p = fzF (paF F (fun p => ovF (D n) s a z (256 * (a / 256) + p)) (a / 256) (cvN a s.size)) o p := by
  unfold fzF
  rw [if_pos (by omega)]
  unfold paF
  by_cases c : a / 256 ≤ p / 256 ∧ p / 256 < a / 256 + cvN a s.size
  · rw [if_pos c]
    show _ = ovF (D n) s a z (256 * (a / 256) + (p - 256 * (a / 256)))
    rw [show 256 * (a / 256) + (p - 256 * (a / 256)) = p by omega, ovF_in _ _ _ _ _ (by omega) hp]
    unfold wrF
    by_cases c2 : a ≤ p ∧ p < a + s.size
    · rw [if_pos c2, if_pos c2]
    · rw [if_neg c2, if_neg c2, hf.bs (p / 256) (p % 256) (by omega), show 256 * (p / 256) + p % 256 = p by omega]
  · rw [if_neg c]
    unfold wrF
    rw [if_neg, if_pos (by omega)]
    unfold cvN at c
    omega
set_option maxRecDepth 100000 in
set_option maxHeartbeats 16000000 in
theorem IM.layDown (h : IM w x mf ml mc cp top H D) (hf : Fi H D n o st F) (s : ByteArray) (a z s' : Nat) (hoz : z < o) (haz : a + s.size ≤ z) : Calls Tryz.prog 43 #[.pointer (some ⟨x, 0, none⟩), .agg (fiC n o st), .int .i64 (a : Int), .string s, .int .i64 (z : Int), .int .u64 ((s' : Nat) : Int)] w fun e w' => e = .returned (.int .i64 0) ∧ Now w' x mf ml mc cp top H D n z s' (wrF F o s a) ∧ Turns (fun z => z = ml ∨ z = mf) w w' := by
  have HBY : Hid (∀ p, p < z → wrF F o s a p = fzF (paF F (fun p => ovF (D n) s a z (256 * (a / 256) + p)) (a / 256) (cvN a s.size)) o p) := layd_bytes hf s a z hoz haz
  have hole := hf.le
  have hz : z ≤ 1048576 := by omega
  obtain ⟨q0, hq0⟩ : ∃ q0 : Nat, a / 256 = q0 := ⟨_, rfl⟩
  obtain ⟨c, hc⟩ : ∃ c : Nat, cvN a s.size = c := ⟨_, rfl⟩
  obtain ⟨G, hG⟩ : ∃ G : Nat → Nat, (fun p => ovF (D n) s a z (256 * (a / 256) + p)) = G := ⟨_, rfl⟩
  have hc1 : q0 + c ≤ (o + 255) / 256 := by rw [← hc, ← hq0]; unfold cvN; omega
  have HLD := laid_any (w := w.alloc (.cells (fiC n o st) 62)) (x := x) (n := n) (sz := o) (st := st) (L := D n) s a z hz (by omega) (fun V hV q hq => ((h.below (below_new1 _ _)).below hV).leafF hf q hq)
  rw [hc, hG] at HLD
  rw [hc, hG, hq0] at HBY
  have k0 : Blk (w.alloc (.cells (fiC n o st) 62)) w.heap.size 62 (fiC n o st) := Blk.new _ _ _
  have hb0 : Below w.heap.size w (w.alloc (.cells (fiC n o st) 62)) := below_new1 _ _
  have HI : Hid (IM w x mf ml mc cp top H D ∧ Fi H D n o st F ∧ Blk (w.alloc (.cells (fiC n o st) 62)) w.heap.size 62 (fiC n o st) ∧ Below w.heap.size w (w.alloc (.cells (fiC n o st) 62))) := ⟨h, hf, k0, hb0⟩
  have HZ : Hid (z < o ∧ o ≤ 1048576 ∧ q0 + c ≤ (o + 255) / 256) := ⟨hoz, hole, hc1⟩
  have ha1 : a ≤ 1048576 := by omega
  have hc2 : c ≤ 4096 := by omega
  have hq1 : q0 ≤ 4096 := by omega
  have e1 : (a : Int).tdiv 256 = (q0 : Int) := by rw [← hq0]; rfl
  have hzk := zero_bk
  have t1 : ¬ ((o : Int) < (z : Int)) := by omega
  have t2 : (z : Int) < (o : Int) := by omega
  have t3 : decide (o < z) = false := decide_eq_false (by omega)
  have t4 : decide ((o : Int) < (z : Int)) = false := decide_eq_false (by omega)
  clear h hf hb0 hG hc hq0 hoz haz hc1
  go_enter Tryz.func43, Tryz.ntmps43
  go_wp2_with (first
    | (refine wpList_load_row (by rfl) 62 _ (by rfl) (w.heap.size) (by rfl) 62 (fiC n o st) (0, 0) _ (by exact k0) Tryz.underlying62 (by rfl) (sizeInfo.trans (by rfl)) ?_; simp only [Act.put, List.setIfInBounds_toArray, List.set_cons_zero, List.set_cons_succ])
    | fail)
  refine HLD.mono ?_
  rintro e w1 ⟨v, rfl, hown, hbw⟩
  have hl := HI.out.1.lts
  have hb1 : Below w.heap.size w w1 := HI.out.2.2.2.trans (hbw.mono (by simp))
  have hk1 : Blk w1 w.heap.size 62 (fiC n o st) := HI.out.2.2.1.below hbw (by simp)
  have c3 := fi_c3 hk1
  have c0 := fi_c0 hk1
  have hN1 : Now w1 x mf ml mc cp top H D n o st F := ⟨H, D, HI.out.1.below hb1, HI.out.2.1, fun _ _ => ⟨rfl, rfl⟩⟩
  have hT1 : Turns (fun z => z = ml ∨ z = mf) w w1 := Turns.bel hb1
  have hs1 := hb1.size
  rcases hown.2 with ⟨rfl, hc0⟩ | ⟨g, cap, cur, rfl, hg1', hcu0, _, _, _, htk⟩
  · subst hc0
    clear HLD hown k0 hbw
    go_wp2_with fail
    go_loopw [46] (fun t wr => t = .int .i64 0 ∧ wr = w1) (fun _ _ => 0)
    case atStart => exact ⟨rfl, rfl⟩
    case round =>
      obtain ⟨rfl, hwr⟩ := hrel
      rw [hwr]
      clear hwr
      obtain ⟨H', D', hI, hf, hm⟩ := hN1
      have hT := hT1
      have c3' := c3
      have HRS := hI.resizeM n hf.n1 hf.n2 o z s' hf.no hf.left hf.s (.inl hf.k) hf.le hz (fun q i hi hp => by rw [hf.bs q i hi, if_neg (by omega)])
      have HF2 : Hid (Fi (hU H' n (rsH (hdT (H' n) s') o z)) (rsD D' n z) n z s' (wrF F o s a)) := (hf.resize z s' hz).congr fun p hp => by rw [HBY.out p hp]; unfold fzF paF; rw [if_pos (by have := HZ.out; omega), if_neg (by omega), if_pos (by have := HZ.out; omega)]
      have HM : Hid (∀ m, m ≠ n → H' m = H m ∧ D' m = D m) := hm
      have HT : Hid (Turns (fun z => z = ml ∨ z = mf) w w1) := hT
      clear hI hf hm hT
      go_wp2_with fail
      refine HRS.mono ?_
      rintro e w2 ⟨rfl, hI2, ht2⟩
      have HE : Hid (Now w2 x mf ml mc cp top H D n z s' (wrF F o s a) ∧ Turns (fun z => z = ml ∨ z = mf) w w2) := ⟨⟨_, _, hI2, HF2.out, fun m hm => ⟨(hU_not _ _ _ _ hm).trans (HM.out m hm).1, (rsD_not _ _ _ _ hm).trans (HM.out m hm).2⟩⟩, HT.out.tr ht2⟩
      clear HRS HF2 hI2 ht2
      go_wp2_with fail
      go_ret
      exact ⟨rfl, HE.out⟩
  · have hg1 : w.heap.size + 1 ≤ g := by simpa using hg1'
    have hg2 : g < w1.heap.size := (Array.getElem?_eq_some_iff.1 hcu0).1
    clear HLD hown k0 hbw hg1'
    go_wp2_with fail
    go_loopw [46] (fun t wr => ∃ k : Nat, k ≤ c ∧ t = .int .i64 (k : Int) ∧ (∃ st', Now wr x mf ml mc cp top H D n o st' (paF F G q0 k)) ∧ (∀ g, w.heap.size + 1 ≤ g → g < w1.heap.size → wr.heap[g]? = w1.heap[g]?) ∧ Blk wr w.heap.size 62 (fiC n o st) ∧ Turns (fun z => z = ml ∨ z = mf) w wr ∧ w1.heap.size ≤ wr.heap.size) (fun t _ => c - (intOf t).toNat)
    case atStart =>
      obtain ⟨H', D', h1, h2, h3⟩ := hN1
      exact ⟨0, Nat.zero_le _, rfl, ⟨st, H', D', h1, h2.congr fun p _ => by unfold paF; rw [if_neg (by omega)], h3⟩, fun _ _ _ => rfl, hk1, hT1, Nat.le_refl _⟩
    case round =>
      obtain ⟨k, hk, rfl, ⟨st', H', D', hI, hf, hm⟩, hkeep, hkI, hT, hsz⟩ := hrel
      clear c0 c3 hk1 hN1 hT1
      have c0 := fi_c0 hkI
      have c3 := fi_c3 hkI
      have hlw := hI.lts
      by_cases hlt : k < c
      · have k0 : (0 : Int) ≤ (k : Int) := by omega
        have k1 : (k : Int) < (c : Int) := by omega
        have hcu : wr.heap[g]? = some (.cells cur 148 (0, 0)) := (hkeep g hg1 hg2).trans hcu0
        obtain ⟨q, hq⟩ : ∃ q : Nat, q0 + k = q := ⟨_, rfl⟩
        have e2 : (q0 : Int) + (k : Int) = (q : Int) := by omega
        have hq4 : q ≤ 4096 := by have := HZ.out; omega
        obtain ⟨f, hfl⟩ : ∃ f : Nat → Nat, (fun j => G (k * 256 + j)) = f := ⟨_, rfl⟩
        have HR : Hid (wr.rangeAt g (k * 256) ((List.range 256).map (iv .u8 f))) := by
          rw [← hfl]
          exact fl_range hcu htk hlt
        have c1 := Blk.new wr 148 (va 256 (iv .u8 fun _ => 0))
        have c2 := c1.set (va 256 (iv .u8 f))
        have hbB : Below wr.heap.size wr ((wr.alloc (Obj.cells (va 256 (iv IntKind.u8 fun _ => 0)) 148)).setRow wr.heap.size (va 256 (iv .u8 f))) := below_setRow (below_new1 wr _) (Nat.le_refl _) _
        have c0' : ((wr.alloc (Obj.cells (va 256 (iv IntKind.u8 fun _ => 0)) 148)).setRow wr.heap.size (va 256 (iv .u8 f))).cell? ⟨w.heap.size, 0, none⟩ = some (.int .i64 (n : Int)) := fi_c0 (hkI.below hbB hkI.lt)
        have HST := (hI.below hbB).setM n q hf.n1 hf.n2 (by rw [hf.k]; decide) hf.no o s' f hf.s (by have := HZ.out; omega) (by have := HZ.out; omega)
        have HF3 : Hid (Fi (hU H' n (hdT (hdS (H' n)) s')) (dU D' n q (upF f (o - q * 256))) n o s' (paF F G q0 (k + 1))) := by
          refine (hf.set q s' f).congr fun p _ => ?_
          rw [← hq, ← hfl]
          exact pa_next _ _ _ _ _
        have HM : Hid (∀ m, m ≠ n → H' m = H m ∧ D' m = D m) := hm
        have HKI : Hid (Blk wr w.heap.size 62 (fiC n o st) ∧ (∀ g, w.heap.size + 1 ≤ g → g < w1.heap.size → wr.heap[g]? = w1.heap[g]?) ∧ Turns (fun z => z = ml ∨ z = mf) w wr ∧ w1.heap.size ≤ wr.heap.size) := ⟨hkI, hkeep, hT, hsz⟩
        clear hI hf hm hkI hcu hT hfl hkeep
        go_wp2_with (first
          | (refine wpList_load_blk (by rfl) 148 _ (by rfl) g (k * 256) 256 (iv .u8 f) (by rfl) _ HR.out Tryz.underlying148 rfl sizeBk ?_; simp only [Act.put, List.setIfInBounds_toArray, List.set_cons_zero, List.set_cons_succ])
          | (refine wpList_store_row (by rfl) 148 _ _ (by rfl) (wr.heap.size) (va 256 (iv .u8 f)) (by rfl) (by rfl) 148 _ c1 (sizeBk.trans (by rw [va_size])) (by simp only [va_size]) (iv_one _ _ _) ?_; simp only [Act.put, List.setIfInBounds_toArray, List.set_cons_zero, List.set_cons_succ])
          | (refine wpList_load_row (by rfl) 148 _ (by rfl) (wr.heap.size) (by rfl) 148 (va 256 (iv .u8 f)) (0, 0) _ c2 Tryz.underlying148 (by rfl) (sizeBk.trans (by rw [va_size])) ?_; simp only [Act.put, List.setIfInBounds_toArray, List.set_cons_zero, List.set_cons_succ])
          | fail)
        refine HST.mono ?_
        rintro e w7 ⟨rfl, hI7, ht7⟩
        have hT7 : Turns (fun z => z = ml ∨ z = mf) wr w7 := (Turns.bel hbB).tr ht7
        have hN7 : Now w7 x mf ml mc cp top H D n o s' (paF F G q0 (k + 1)) := ⟨_, _, hI7, HF3.out, fun m hm => ⟨(hU_not _ _ _ _ hm).trans (HM.out m hm).1, (dU_not _ _ _ _ _ hm).trans (HM.out m hm).2⟩⟩
        have hc7 : ∀ g, w.heap.size + 1 ≤ g → g < w1.heap.size → w7.heap[g]? = w1.heap[g]? := fun g g1 g2 => (hT7.block g (by have := HKI.out.2.2.2; omega) (by omega)).trans (HKI.out.2.1 g g1 g2)
        have hk7 : Blk w7 w.heap.size 62 (fiC n o st) := (hT7.block _ HKI.out.1.lt (by omega)).trans HKI.out.1
        have hTT : Turns (fun z => z = ml ∨ z = mf) w w7 := HKI.out.2.2.1.tr hT7
        have hs7 : w1.heap.size ≤ w7.heap.size := Nat.le_trans HKI.out.2.2.2 hT7.size
        clear HST hI7 ht7 c1 c2 hbB c0' HR HF3 HM HKI hT7
        go_wp2_with fail
        go_roundw
        case rel => exact ⟨k + 1, hlt, by simp, ⟨s', hN7⟩, hc7, hk7, hTT, hs7⟩
        case measure =>
          simp [intOf]
          omega
      · have hkc : k = c := by omega
        have k1 : ¬ ((k : Int) < (c : Int)) := by omega
        have HRS := hI.resizeM n hf.n1 hf.n2 o z s' hf.no hf.left hf.s (.inl hf.k) hf.le hz (fun q i hi hp => by rw [hf.bs q i hi, if_neg (by omega)])
        have HF2 : Hid (Fi (hU H' n (rsH (hdT (H' n) s') o z)) (rsD D' n z) n z s' (wrF F o s a)) := (hf.resize z s' hz).congr fun p hp => by rw [HBY.out p hp, ← hkc]
        have HM : Hid (∀ m, m ≠ n → H' m = H m ∧ D' m = D m) := hm
        have HT : Hid (Turns (fun z => z = ml ∨ z = mf) w wr) := hT
        clear hI hf hm hT hlt hkeep
        go_wp2_with fail
        refine HRS.mono ?_
        rintro e w2 ⟨rfl, hI2, ht2⟩
        have HE : Hid (Now w2 x mf ml mc cp top H D n z s' (wrF F o s a) ∧ Turns (fun z => z = ml ∨ z = mf) w w2) := ⟨⟨_, _, hI2, HF2.out, fun m hm => ⟨(hU_not _ _ _ _ hm).trans (HM.out m hm).1, (rsD_not _ _ _ _ hm).trans (HM.out m hm).2⟩⟩, HT.out.tr ht2⟩
        clear HRS HF2 hI2 ht2
        go_wp2_with fail
        go_ret
        exact ⟨rfl, HE.out⟩
end
end Go.Proofs.YtcmihdjbeihjbaaGreat
