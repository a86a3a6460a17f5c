/- Inodes: copies of their three maps. -/
import Derived.Test.YtojbgggkfahkfaaGreatHFlDone2
import Derived.Handy
import Derived.Test.YtojbgggkfahkfaaGreatHBlkLay
import Derived.Test.YtojbgggkfahkfaaGreatHFlBld
import Derived.Test.YtojbgggkfahkfaaGreatHLogOf
import Derived.Shelf.SlMaps.Clone

namespace Go.Proofs.YtojbgggkfahkfaaGreat
open Go Go.RowKit
set_option linter.unusedSimpArgs false
set_option linter.unusedVariables false
set_option maxRecDepth 100000 in
set_option maxHeartbeats 16000000 in
theorem done_write (s : ByteArray) (st : Nat) (kd a m : Int) (t : ByteArray) (t' : Nat) (ha : -9223372036854775808 ≤ a ∧ a ≤ 9223372036854775807) (ht : t.size ≤ 140737488355328) (hs : s.size ≤ 1048576) (k : Nat) (hk3 : kdN kd = k) (kn3 : k ≠ 3) (kn4 : k ≠ 4) (kn5 : k ≠ 5) (R : Dn) (hR : dnF s st k a m t t' = R) (V : World) : Calls Tryz.prog 11 #[.agg (mdC s st), .agg (acC kd a m t t')] V fun e w' => e = .returned (.tuple #[.int .i64 R.ans, .int .i64 R.err, .agg (mdC R.s R.st)]) ∧ Below V.heap.size V w' := by
  have hzm := zero_md
  have bM : Blk (((V.alloc (.cells (mdC s st) 33)).alloc (.cells (acC kd a m t t') 35)).alloc (.cells #[.string ⟨#[]⟩, .int .u64 0] 33)) V.heap.size 33 (mdC s st) := ((Blk.new _ _ _).alloc _).alloc _
  have bA : Blk (((V.alloc (.cells (mdC s st) 33)).alloc (.cells (acC kd a m t t') 35)).alloc (.cells #[.string ⟨#[]⟩, .int .u64 0] 33)) (V.heap.size + 1) 35 (acC kd a m t t') := (Blk.new1 _ _ _ _).alloc _
  have bR : Blk (((V.alloc (.cells (mdC s st) 33)).alloc (.cells (acC kd a m t t') 35)).alloc (.cells #[.string ⟨#[]⟩, .int .u64 0] 33)) (V.heap.size + 1 + 1) 33 (mdC ⟨#[]⟩ 0) := Blk.new2 _ _ _ _ _
  have hbel : Below V.heap.size V (((V.alloc (.cells (mdC s st) 33)).alloc (.cells (acC kd a m t t') 35)).alloc (.cells #[.string ⟨#[]⟩, .int .u64 0] 33)) := below_new3 _ _ _ _
  obtain ⟨m0, m1, _, _⟩ := md_cs bM
  obtain ⟨r0, r1, f0, f1⟩ := md_cs bR
  obtain ⟨c1, c2, c3, c4⟩ := ac_cs bA
  have c0 : (((V.alloc (.cells (mdC s st) 33)).alloc (.cells (acC kd a m t t') 35)).alloc (.cells #[.string ⟨#[]⟩, .int .u64 0] 33)).cell? ⟨V.heap.size + 1, 0, none⟩ = some (.int .i64 kd) := (bA.cell 0).trans rfl
  obtain ⟨hk1, hk2⟩ := kd_is kd
  have b1 := Int.tmod_lt_of_pos kd (show (0 : Int) < 8 by decide)
  have b2 := Int.lt_tmod_of_pos kd (show (0 : Int) < 8 by decide)
  obtain ⟨q1, hq1⟩ : ∃ q1 : Int, kd.tmod 8 = q1 := ⟨_, rfl⟩
  rw [hq1] at b1 b2 hk1
  rw [hk3] at hk1 hk2
  obtain ⟨q2, hq2⟩ : ∃ q2 : Nat, q1 + 8 = (q2 : Int) := ⟨(q1 + 8).toNat, by omega⟩
  rw [hq2] at hk1
  have b3 : q2 ≤ 16 := by omega
  have hw1 : wrap64 q1 = q1 := by unfold wrap64; omega
  have HR : Hid (dnF s st k a m t t' = R) := hR
  clear hR b1 b2
  go_enter Tryz.func11, Tryz.ntmps11
  have hD : dnF s st k a m t t' = (if a < 0 ∨ 1048576 < a + (t.size : Int) then ⟨0, if a < 0 then 1 else 160, s, st⟩ else ⟨((a.toNat + t.size : Nat) : Int), 0, strN (wrF (tbyte s) s.size t a.toNat) (wzN s.size a.toNat t.size), if t.size = 0 then st else t'⟩) := by
    unfold dnF
    rw [if_neg kn3, if_neg kn4, if_neg kn5]
  rw [HR.out] at hD
  have k3b : ((k : Int) == 3) = false := by simp; omega
  have k4b : ((k : Int) == 4) = false := by simp; omega
  have k5b : ((k : Int) == 5) = false := by simp; omega
  have k3c : ¬ ((k : Int) = 3) := by omega
  have k4c : ¬ ((k : Int) = 4) := by omega
  have k5c : ¬ ((k : Int) = 5) := by omega
  have k6 : k ≤ 8 := by omega
  obtain ⟨S, hS⟩ : ∃ S : Nat, s.size = S := ⟨_, rfl⟩
  obtain ⟨T, hT⟩ : ∃ T : Nat, t.size = T := ⟨_, rfl⟩
  obtain ⟨lf, hlf⟩ : ∃ lf : Int, (1048576 : Int) - (T : Int) = lf := ⟨_, rfl⟩
  have hwl : wrap64 lf = lf := by unfold wrap64; omega
  clear kn3 kn4 kn5 hk2
  by_cases h0 : a < 0
  · rw [if_pos (.inl h0), if_pos h0] at hD
    have HD : Hid (R = _) := hD
    have HP : Hid (DE V ⟨0, 1, s, st⟩ _) := put_md bR hbel s st
    clear hD HR bR hbel bM bA
    go_wp2_with fail
    generalize (((V.alloc (.cells (mdC s st) 33)).alloc (.cells (acC kd a m t t') 35)).alloc (.cells #[.string ⟨#[]⟩, .int .u64 0] 33)) = V3 at *
    go_region
    go_wp2_with fail
    try simp only [Exit.inBlock, Exit.then]
    refine bodyPost_ret (res_ttc Tryz.results11 _ _ (V.heap.size + 1 + 1) 33 _ (0, 0) _ rfl (by exact HP.out.1) Tryz.underlying33 rfl (sizeMd.trans (by rfl))) rfl ?_
    rw [HD.out]
    exact ⟨by first | rfl | (rw [hS]; rfl), HP.out.2⟩
  · obtain ⟨z, hz⟩ : ∃ z : Nat, a = (z : Int) := ⟨a.toNat, by omega⟩
    rw [show a.toNat = z by omega] at hD
    subst hz
    have n0 : ¬ ((z : Int) < 0) := by omega
    by_cases h1 : 1048576 < (z : Int) + (t.size : Int)
    · rw [if_pos (.inr h1), if_neg h0] at hD
      have HD : Hid (R = _) := hD
      have HP : Hid (DE V ⟨0, 160, s, st⟩ _) := put_md bR hbel s st
      clear hD HR bR hbel bM bA
      by_cases hT1 : 1048576 < T
      · have t1 : (1048576 : Int) < (T : Int) := by omega
        clear hT1 h1
        go_wp2_with fail
        generalize (((V.alloc (.cells (mdC s st) 33)).alloc (.cells (acC kd (z : Int) m t t') 35)).alloc (.cells #[.string ⟨#[]⟩, .int .u64 0] 33)) = V3 at *
        go_region
        go_wp2_with fail
        try simp only [Exit.inBlock, Exit.then]
        refine bodyPost_ret (res_ttc Tryz.results11 _ _ (V.heap.size + 1 + 1) 33 _ (0, 0) _ rfl (by exact HP.out.1) Tryz.underlying33 rfl (sizeMd.trans (by rfl))) rfl ?_
        rw [HD.out]
        exact ⟨by first | rfl | (rw [hS]; rfl), HP.out.2⟩
      · have t1 : ¬ ((1048576 : Int) < (T : Int)) := by omega
        have t2 : lf < (z : Int) := by omega
        clear hT1 h1
        go_wp2_with fail
        generalize (((V.alloc (.cells (mdC s st) 33)).alloc (.cells (acC kd (z : Int) m t t') 35)).alloc (.cells #[.string ⟨#[]⟩, .int .u64 0] 33)) = V3 at *
        go_region
        go_wp2_with fail
        try simp only [Exit.inBlock, Exit.then]
        refine bodyPost_ret (res_ttc Tryz.results11 _ _ (V.heap.size + 1 + 1) 33 _ (0, 0) _ rfl (by exact HP.out.1) Tryz.underlying33 rfl (sizeMd.trans (by rfl))) rfl ?_
        rw [HD.out]
        exact ⟨by first | rfl | (rw [hS]; rfl), HP.out.2⟩
    · rw [if_neg (by omega)] at hD
      have t1 : ¬ ((1048576 : Int) < (T : Int)) := by omega
      have t2 : ¬ (lf < (z : Int)) := by omega
      have b9 : z ≤ 1048576 := by omega
      by_cases hT0 : t.size = 0
      · have e := empty_text hT0
        subst e
        rw [if_pos hT0, wr_none s _ _ hT0] at hD
        have HD : Hid (R = ⟨(z : Int), 0, s, st⟩) := by
          show R = _
          rw [hD]
          have : (⟨#[]⟩ : ByteArray).size = 0 := rfl
          rw [this, Nat.add_zero]
        have HP : Hid (DE V ⟨(z : Int), 0, s, st⟩ _) := put_md bR hbel s st
        clear hD HR bR hbel bM bA h0 h1 hT0
        go_wp2_with fail
        generalize (((V.alloc (.cells (mdC s st) 33)).alloc (.cells (acC kd (z : Int) m _ t') 35)).alloc (.cells #[.string ⟨#[]⟩, .int .u64 0] 33)) = V3 at *
        go_region
        go_wp2_with fail
        try simp only [Exit.inBlock, Exit.then]
        refine bodyPost_ret (res_ttc Tryz.results11 _ _ (V.heap.size + 1 + 1) 33 _ (0, 0) _ rfl (by exact HP.out.1) Tryz.underlying33 rfl (sizeMd.trans (by rfl))) rfl ?_
        rw [HD.out]
        exact ⟨by first | rfl | (rw [hS]; rfl), HP.out.2⟩
      · rw [if_neg hT0, ← wr_text s t z hT0] at hD
        have hne : t.toList.isEmpty = false := fl_full (by omega)
        obtain ⟨en, hen⟩ : ∃ en : Nat, z + T = en := ⟨_, rfl⟩
        have e7 : (z : Int) + (T : Int) = (en : Int) := by omega
        have hwe : IntKind.i64.wrap (en : Int) = (en : Int) := wrapI64_id _ (by omega) (by omega)
        have b7 : en ≤ 1048576 := by omega
        obtain ⟨d, hd⟩ : ∃ d : Int, (en : Int) - (S : Int) = d := ⟨_, rfl⟩
        have hwd : IntKind.i64.wrap d = d := wrapI64_id _ (by omega) (by omega)
        rw [hT, hen] at hD
        have HZ : Hid (∀ w : World, Calls Tryz.prog 22 #[.int .i64 d] w fun e w' => e = .returned (.string (strN (fun _ => 0) (en - s.size))) ∧ Below w.heap.size w w') := zeros_any d (en - s.size) (by omega) (by omega)
        have hadd : ∀ w, (Op.stringOp .add s (strN (fun _ => 0) (en - s.size))).run Tryz.prog w = .ok (.string (zpT s (en - s.size))) w := fun w => run_string_add_sum w _ _ (by rw [strN_size]; omega)
        have hzs : (zpT s (en - s.size)).size = s.size + (en - s.size) := zp_size _ _
        obtain ⟨X, hX⟩ : ∃ X : ByteArray, zpT s (en - s.size) = X := ⟨_, rfl⟩
        obtain ⟨Y, hY⟩ : ∃ Y : ByteArray, strN (fun _ => 0) (en - s.size) = Y := ⟨_, rfl⟩
        rw [hX] at hadd hzs hD
        rw [hY] at hadd HZ
        obtain ⟨L, hL⟩ : ∃ L : Nat, X.size = L := ⟨_, rfl⟩
        have x1 := extract_size X 0 z (by omega)
        have x2 := extract_size X en X.size (Nat.le_refl _)
        have hadd1 : ∀ w, (Op.stringOp .add (X.extract 0 z) t).run Tryz.prog w = .ok (.string (X.extract 0 z ++ t)) w := fun w => run_string_add_sum w _ _ (by rw [x1]; omega)
        have hadd2 : ∀ w, (Op.stringOp .add (X.extract 0 z ++ t) (X.extract en X.size)).run Tryz.prog w = .ok (.string (X.extract 0 z ++ t ++ X.extract en X.size)) w := fun w => run_string_add_sum w _ _ (by rw [cat_size, x1, x2]; omega)
        obtain ⟨Q, hQ⟩ : ∃ Q : ByteArray, X.extract 0 z ++ t ++ X.extract en X.size = Q := ⟨_, rfl⟩
        rw [hQ] at hadd2 hD
        rw [hL] at hadd2
        have zl : (z : Int) ≤ (L : Int) := by omega
        have el : (en : Int) ≤ (L : Int) := by omega
        have z0 : (0 : Int) ≤ (z : Int) := by omega
        have en0 : (0 : Int) ≤ (en : Int) := by omega
        have HD : Hid (R = ⟨(en : Int), 0, Q, t'⟩) := hD
        have hbm := built_md Q t'
        have hS0 : Blk (((V.alloc (.cells (mdC s st) 33)).alloc (.cells (acC kd (z : Int) m t t') 35)).alloc (.cells #[.string ⟨#[]⟩, .int .u64 0] 33)).drew V.heap.size 33 (mdC s st) ∧ Blk (((V.alloc (.cells (mdC s st) 33)).alloc (.cells (acC kd (z : Int) m t t') 35)).alloc (.cells #[.string ⟨#[]⟩, .int .u64 0] 33)).drew (V.heap.size + 1) 35 (acC kd (z : Int) m t t') ∧ ∃ s0 t0, Blk (((V.alloc (.cells (mdC s st) 33)).alloc (.cells (acC kd (z : Int) m t t') 35)).alloc (.cells #[.string ⟨#[]⟩, .int .u64 0] 33)).drew (V.heap.size + 1 + 1) 33 (mdC s0 t0) := ⟨bM.drew, bA.drew, _, _, bR.drew⟩
        have hE0 := hbel.drew
        clear hD HR bR hbel bM bA hX hY hQ hzs x1 x2 h0 h1 hT0
        go_wp2_with fail
        refine wp_region_plan (fun W => Blk W V.heap.size 33 (mdC s st) ∧ Blk W (V.heap.size + 1) 35 (acC kd (z : Int) m t t') ∧ ∃ s0 t0, Blk W (V.heap.size + 1 + 1) 33 (mdC s0 t0)) (.yield [] 0 (.yield [] 1 (.yield [] 2 (.yield [] 3 (.yield [] 4 (.yield [] 5 (.yield [] 6 (.yield [] 7 (.force [] 8 (.force [] 9 (.force [] 10 (.force [] 11 (.force [] 12 (.force [] 13 (.fin [14]))))))))))))))) (by kernel_rfl) (by kernel_rfl) hS0 (plan_yield ?_)
        clear m0 m1 r0 r1 f0 f1 c0 c1 c2 c3 c4
        generalize (((V.alloc (.cells (mdC s st) 33)).alloc (.cells (acC kd (z : Int) m t t') 35)).alloc (.cells #[.string ⟨#[]⟩, .int .u64 0] 33)).drew = W0 at *
        simp only [List.cons_append, List.nil_append, List.append_nil, List.filterMap_cons, List.filterMap_nil, List.getElem?_toArray, List.getElem?_cons_zero, List.getElem?_cons_succ]
        go_wp2_with fail
        refine ⟨rfl, _, .pointer (some ⟨V.heap.size, 0, none⟩), rfl, Or.inl ⟨by rfl, fun W hW => by go_simp⟩, plan_yield ?_⟩
        simp only [Act.put, List.setIfInBounds_toArray, List.set_cons_zero, List.set_cons_succ]
        simp only [List.cons_append, List.nil_append, List.append_nil, List.filterMap_cons, List.filterMap_nil, List.getElem?_toArray, List.getElem?_cons_zero, List.getElem?_cons_succ]
        go_wp2_with fail
        refine ⟨rfl, _, .string s, rfl, Or.inl ⟨by rfl, fun W hW => by obtain ⟨q0, q1, _, _⟩ := md_cs hW.1; go_simp⟩, plan_yield ?_⟩
        simp only [Act.put, List.setIfInBounds_toArray, List.set_cons_zero, List.set_cons_succ]
        simp only [List.cons_append, List.nil_append, List.append_nil, List.filterMap_cons, List.filterMap_nil, List.getElem?_toArray, List.getElem?_cons_zero, List.getElem?_cons_succ]
        go_wp2_with fail
        refine ⟨rfl, _, .pointer (some ⟨V.heap.size + 1, 1, none⟩), rfl, Or.inl ⟨by rfl, fun W hW => by go_simp⟩, plan_yield ?_⟩
        simp only [Act.put, List.setIfInBounds_toArray, List.set_cons_zero, List.set_cons_succ]
        simp only [List.cons_append, List.nil_append, List.append_nil, List.filterMap_cons, List.filterMap_nil, List.getElem?_toArray, List.getElem?_cons_zero, List.getElem?_cons_succ]
        go_wp2_with fail
        refine ⟨rfl, _, .int .i64 (z : Int), rfl, Or.inl ⟨by rfl, fun W hW => by obtain ⟨q1, q2, q3, q4⟩ := ac_cs hW.2.1; go_simp⟩, plan_yield ?_⟩
        simp only [Act.put, List.setIfInBounds_toArray, List.set_cons_zero, List.set_cons_succ]
        simp only [List.cons_append, List.nil_append, List.append_nil, List.filterMap_cons, List.filterMap_nil, List.getElem?_toArray, List.getElem?_cons_zero, List.getElem?_cons_succ]
        go_wp2_with fail
        refine ⟨rfl, _, .pointer (some ⟨V.heap.size + 1, 3, none⟩), rfl, Or.inl ⟨by rfl, fun W hW => by go_simp⟩, plan_yield ?_⟩
        simp only [Act.put, List.setIfInBounds_toArray, List.set_cons_zero, List.set_cons_succ]
        simp only [List.cons_append, List.nil_append, List.append_nil, List.filterMap_cons, List.filterMap_nil, List.getElem?_toArray, List.getElem?_cons_zero, List.getElem?_cons_succ]
        go_wp2_with fail
        refine ⟨rfl, _, .string t, rfl, Or.inl ⟨by rfl, fun W hW => by obtain ⟨q1, q2, q3, q4⟩ := ac_cs hW.2.1; go_simp⟩, plan_yield ?_⟩
        simp only [Act.put, List.setIfInBounds_toArray, List.set_cons_zero, List.set_cons_succ]
        simp only [List.cons_append, List.nil_append, List.append_nil, List.filterMap_cons, List.filterMap_nil, List.getElem?_toArray, List.getElem?_cons_zero, List.getElem?_cons_succ]
        go_wp2_with fail
        refine ⟨rfl, _, .int .i64 (T : Int), rfl, Or.inl ⟨by rfl, fun W hW => by go_simp⟩, plan_yield ?_⟩
        simp only [Act.put, List.setIfInBounds_toArray, List.set_cons_zero, List.set_cons_succ]
        simp only [List.cons_append, List.nil_append, List.append_nil, List.filterMap_cons, List.filterMap_nil, List.getElem?_toArray, List.getElem?_cons_zero, List.getElem?_cons_succ]
        go_wp2_with fail
        refine ⟨rfl, _, .int .i64 (en : Int), rfl, Or.inl ⟨by rfl, fun W hW => by go_simp⟩, plan_force ?_⟩
        simp only [Act.put, List.setIfInBounds_toArray, List.set_cons_zero, List.set_cons_succ]
        simp only [List.cons_append, List.nil_append, List.append_nil, List.filterMap_cons, List.filterMap_nil, List.getElem?_toArray, List.getElem?_cons_zero, List.getElem?_cons_succ]
        go_wp2_with fail
        refine ⟨rfl, hS0, plan_force ?_⟩
        simp only [List.cons_append, List.nil_append, List.append_nil, List.filterMap_cons, List.filterMap_nil, List.getElem?_toArray, List.getElem?_cons_zero, List.getElem?_cons_succ]
        obtain ⟨q0, q1, _, _⟩ := md_cs hS0.1
        go_wp2_with fail
        clear q0 q1
        refine ⟨rfl, hS0, plan_force ?_⟩
        simp only [List.cons_append, List.nil_append, List.append_nil, List.filterMap_cons, List.filterMap_nil, List.getElem?_toArray, List.getElem?_cons_zero, List.getElem?_cons_succ]
        go_wp2_with fail
        refine ⟨rfl, hS0, plan_force ?_⟩
        simp only [List.cons_append, List.nil_append, List.append_nil, List.filterMap_cons, List.filterMap_nil, List.getElem?_toArray, List.getElem?_cons_zero, List.getElem?_cons_succ]
        go_wp2_with fail
        refine ⟨rfl, hS0, plan_force ?_⟩
        simp only [List.cons_append, List.nil_append, List.append_nil, List.filterMap_cons, List.filterMap_nil, List.getElem?_toArray, List.getElem?_cons_zero, List.getElem?_cons_succ]
        go_wp2_with fail
        refine (HZ.out _).mono ?_
        rintro e W1 ⟨rfl, hz1⟩
        have hS1 : Blk W1 V.heap.size 33 (mdC s st) ∧ Blk W1 (V.heap.size + 1) 35 (acC kd (z : Int) m t t') ∧ ∃ s0 t0, Blk W1 (V.heap.size + 1 + 1) 33 (mdC s0 t0) := by
          obtain ⟨u1, u2, s0, t0, u3⟩ := hS0
          exact ⟨u1.below hz1 u1.lt, u2.below hz1 u2.lt, s0, t0, u3.below hz1 u3.lt⟩
        have hE1 : Below V.heap.size V W1 := hE0.trans (hz1.mono hE0.size)
        clear hz1 hE0 hS0
        go_wp2_with fail
        refine ⟨rfl, hS1, plan_force ?_⟩
        simp only [List.cons_append, List.nil_append, List.append_nil, List.filterMap_cons, List.filterMap_nil, List.getElem?_toArray, List.getElem?_cons_zero, List.getElem?_cons_succ]
        go_wp2_with fail
        refine ⟨rfl, hS1, plan_fin ?_⟩
        simp only [List.cons_append, List.nil_append, List.append_nil, List.filterMap_cons, List.filterMap_nil, List.getElem?_toArray, List.getElem?_cons_zero, List.getElem?_cons_succ]
        go_wp2_with fail
        refine ⟨rfl, ?_⟩
        go_wp2_with fail
        have hS0 : Blk W1.drew V.heap.size 33 (mdC s st) ∧ Blk W1.drew (V.heap.size + 1) 35 (acC kd (z : Int) m t t') ∧ ∃ s0 t0, Blk W1.drew (V.heap.size + 1 + 1) 33 (mdC s0 t0) := by
          obtain ⟨u1, u2, s0, t0, u3⟩ := hS1
          exact ⟨u1.drew, u2.drew, s0, t0, u3.drew⟩
        have hE0 := hE1.drew
        clear hS1 hE1
        refine wp_region_plan (fun W => Blk W V.heap.size 33 (mdC s st) ∧ Blk W (V.heap.size + 1) 35 (acC kd (z : Int) m t t') ∧ ∃ s0 t0, Blk W (V.heap.size + 1 + 1) 33 (mdC s0 t0)) (.yield [6, 13] 0 (.yield [] 1 (.yield [] 2 (.yield [] 3 (.yield [] 4 (.yield [] 5 (.yield [25, 26] 7 (.yield [] 8 (.yield [] 9 (.yield [] 10 (.yield [] 11 (.yield [] 12 (.yield [] 14 (.yield [] 15 (.yield [] 16 (.yield [] 17 (.yield [] 18 (.yield [] 19 (.yield [] 20 (.yield [] 21 (.force [] 22 (.force [] 23 (.force [] 24 (.force [] 27 (.fin []))))))))))))))))))))))))) (by kernel_rfl) (by kernel_rfl) hS0 (plan_yield ?_)
        generalize W1.drew = W0 at *
        simp only [List.cons_append, List.nil_append, List.append_nil, List.filterMap_cons, List.filterMap_nil, List.getElem?_toArray, List.getElem?_cons_zero, List.getElem?_cons_succ]
        go_wp2_with fail
        refine ⟨rfl, _, .pointer (some ⟨V.heap.size + 1, 1, none⟩), rfl, Or.inl ⟨by rfl, fun W hW => by go_simp⟩, plan_yield ?_⟩
        simp only [Act.put, List.setIfInBounds_toArray, List.set_cons_zero, List.set_cons_succ]
        simp only [List.cons_append, List.nil_append, List.append_nil, List.filterMap_cons, List.filterMap_nil, List.getElem?_toArray, List.getElem?_cons_zero, List.getElem?_cons_succ]
        go_wp2_with fail
        refine ⟨rfl, _, .int .i64 (z : Int), rfl, Or.inl ⟨by rfl, fun W hW => by obtain ⟨q1, q2, q3, q4⟩ := ac_cs hW.2.1; go_simp⟩, plan_yield ?_⟩
        simp only [Act.put, List.setIfInBounds_toArray, List.set_cons_zero, List.set_cons_succ]
        simp only [List.cons_append, List.nil_append, List.append_nil, List.filterMap_cons, List.filterMap_nil, List.getElem?_toArray, List.getElem?_cons_zero, List.getElem?_cons_succ]
        go_wp2_with fail
        refine ⟨rfl, _, .pointer (some ⟨V.heap.size + 1, 3, none⟩), rfl, Or.inl ⟨by rfl, fun W hW => by go_simp⟩, plan_yield ?_⟩
        simp only [Act.put, List.setIfInBounds_toArray, List.set_cons_zero, List.set_cons_succ]
        simp only [List.cons_append, List.nil_append, List.append_nil, List.filterMap_cons, List.filterMap_nil, List.getElem?_toArray, List.getElem?_cons_zero, List.getElem?_cons_succ]
        go_wp2_with fail
        refine ⟨rfl, _, .string t, rfl, Or.inl ⟨by rfl, fun W hW => by obtain ⟨q1, q2, q3, q4⟩ := ac_cs hW.2.1; go_simp⟩, plan_yield ?_⟩
        simp only [Act.put, List.setIfInBounds_toArray, List.set_cons_zero, List.set_cons_succ]
        simp only [List.cons_append, List.nil_append, List.append_nil, List.filterMap_cons, List.filterMap_nil, List.getElem?_toArray, List.getElem?_cons_zero, List.getElem?_cons_succ]
        go_wp2_with fail
        refine ⟨rfl, _, .int .i64 (T : Int), rfl, Or.inl ⟨by rfl, fun W hW => by go_simp⟩, plan_yield ?_⟩
        simp only [Act.put, List.setIfInBounds_toArray, List.set_cons_zero, List.set_cons_succ]
        simp only [List.cons_append, List.nil_append, List.append_nil, List.filterMap_cons, List.filterMap_nil, List.getElem?_toArray, List.getElem?_cons_zero, List.getElem?_cons_succ]
        go_wp2_with fail
        refine ⟨rfl, _, .int .i64 (en : Int), rfl, Or.inl ⟨by rfl, fun W hW => by go_simp⟩, plan_yield ?_⟩
        simp only [Act.put, List.setIfInBounds_toArray, List.set_cons_zero, List.set_cons_succ]
        simp only [List.cons_append, List.nil_append, List.append_nil, List.filterMap_cons, List.filterMap_nil, List.getElem?_toArray, List.getElem?_cons_zero, List.getElem?_cons_succ]
        go_wp2_with fail
        refine ⟨rfl, _, .pointer (some ⟨V.heap.size + 1, 1, none⟩), rfl, Or.inl ⟨by rfl, fun W hW => by go_simp⟩, plan_yield ?_⟩
        simp only [Act.put, List.setIfInBounds_toArray, List.set_cons_zero, List.set_cons_succ]
        simp only [List.cons_append, List.nil_append, List.append_nil, List.filterMap_cons, List.filterMap_nil, List.getElem?_toArray, List.getElem?_cons_zero, List.getElem?_cons_succ]
        go_wp2_with fail
        refine ⟨rfl, _, .int .i64 (z : Int), rfl, Or.inl ⟨by rfl, fun W hW => by obtain ⟨q1, q2, q3, q4⟩ := ac_cs hW.2.1; go_simp⟩, plan_yield ?_⟩
        simp only [Act.put, List.setIfInBounds_toArray, List.set_cons_zero, List.set_cons_succ]
        simp only [List.cons_append, List.nil_append, List.append_nil, List.filterMap_cons, List.filterMap_nil, List.getElem?_toArray, List.getElem?_cons_zero, List.getElem?_cons_succ]
        go_wp2_with fail
        refine ⟨rfl, _, .string (X.extract 0 z), rfl, Or.inl ⟨by rfl, fun W hW => by go_simp⟩, plan_yield ?_⟩
        simp only [Act.put, List.setIfInBounds_toArray, List.set_cons_zero, List.set_cons_succ]
        simp only [List.cons_append, List.nil_append, List.append_nil, List.filterMap_cons, List.filterMap_nil, List.getElem?_toArray, List.getElem?_cons_zero, List.getElem?_cons_succ]
        go_wp2_with fail
        refine ⟨rfl, _, .pointer (some ⟨V.heap.size + 1, 3, none⟩), rfl, Or.inl ⟨by rfl, fun W hW => by go_simp⟩, plan_yield ?_⟩
        simp only [Act.put, List.setIfInBounds_toArray, List.set_cons_zero, List.set_cons_succ]
        simp only [List.cons_append, List.nil_append, List.append_nil, List.filterMap_cons, List.filterMap_nil, List.getElem?_toArray, List.getElem?_cons_zero, List.getElem?_cons_succ]
        go_wp2_with fail
        refine ⟨rfl, _, .string t, rfl, Or.inl ⟨by rfl, fun W hW => by obtain ⟨q1, q2, q3, q4⟩ := ac_cs hW.2.1; go_simp⟩, plan_yield ?_⟩
        simp only [Act.put, List.setIfInBounds_toArray, List.set_cons_zero, List.set_cons_succ]
        simp only [List.cons_append, List.nil_append, List.append_nil, List.filterMap_cons, List.filterMap_nil, List.getElem?_toArray, List.getElem?_cons_zero, List.getElem?_cons_succ]
        go_wp2_with fail
        refine ⟨rfl, _, .string (X.extract 0 z ++ t), rfl, Or.inl ⟨by rfl, fun W hW => by go_simp⟩, plan_yield ?_⟩
        simp only [Act.put, List.setIfInBounds_toArray, List.set_cons_zero, List.set_cons_succ]
        simp only [List.cons_append, List.nil_append, List.append_nil, List.filterMap_cons, List.filterMap_nil, List.getElem?_toArray, List.getElem?_cons_zero, List.getElem?_cons_succ]
        go_wp2_with fail
        refine ⟨rfl, _, .pointer (some ⟨V.heap.size + 1, 1, none⟩), rfl, Or.inl ⟨by rfl, fun W hW => by go_simp⟩, plan_yield ?_⟩
        simp only [Act.put, List.setIfInBounds_toArray, List.set_cons_zero, List.set_cons_succ]
        simp only [List.cons_append, List.nil_append, List.append_nil, List.filterMap_cons, List.filterMap_nil, List.getElem?_toArray, List.getElem?_cons_zero, List.getElem?_cons_succ]
        go_wp2_with fail
        refine ⟨rfl, _, .int .i64 (z : Int), rfl, Or.inl ⟨by rfl, fun W hW => by obtain ⟨q1, q2, q3, q4⟩ := ac_cs hW.2.1; go_simp⟩, plan_yield ?_⟩
        simp only [Act.put, List.setIfInBounds_toArray, List.set_cons_zero, List.set_cons_succ]
        simp only [List.cons_append, List.nil_append, List.append_nil, List.filterMap_cons, List.filterMap_nil, List.getElem?_toArray, List.getElem?_cons_zero, List.getElem?_cons_succ]
        go_wp2_with fail
        refine ⟨rfl, _, .pointer (some ⟨V.heap.size + 1, 3, none⟩), rfl, Or.inl ⟨by rfl, fun W hW => by go_simp⟩, plan_yield ?_⟩
        simp only [Act.put, List.setIfInBounds_toArray, List.set_cons_zero, List.set_cons_succ]
        simp only [List.cons_append, List.nil_append, List.append_nil, List.filterMap_cons, List.filterMap_nil, List.getElem?_toArray, List.getElem?_cons_zero, List.getElem?_cons_succ]
        go_wp2_with fail
        refine ⟨rfl, _, .string t, rfl, Or.inl ⟨by rfl, fun W hW => by obtain ⟨q1, q2, q3, q4⟩ := ac_cs hW.2.1; go_simp⟩, plan_yield ?_⟩
        simp only [Act.put, List.setIfInBounds_toArray, List.set_cons_zero, List.set_cons_succ]
        simp only [List.cons_append, List.nil_append, List.append_nil, List.filterMap_cons, List.filterMap_nil, List.getElem?_toArray, List.getElem?_cons_zero, List.getElem?_cons_succ]
        go_wp2_with fail
        refine ⟨rfl, _, .int .i64 (T : Int), rfl, Or.inl ⟨by rfl, fun W hW => by go_simp⟩, plan_yield ?_⟩
        simp only [Act.put, List.setIfInBounds_toArray, List.set_cons_zero, List.set_cons_succ]
        simp only [List.cons_append, List.nil_append, List.append_nil, List.filterMap_cons, List.filterMap_nil, List.getElem?_toArray, List.getElem?_cons_zero, List.getElem?_cons_succ]
        go_wp2_with fail
        refine ⟨rfl, _, .int .i64 (en : Int), rfl, Or.inl ⟨by rfl, fun W hW => by go_simp⟩, plan_yield ?_⟩
        simp only [Act.put, List.setIfInBounds_toArray, List.set_cons_zero, List.set_cons_succ]
        simp only [List.cons_append, List.nil_append, List.append_nil, List.filterMap_cons, List.filterMap_nil, List.getElem?_toArray, List.getElem?_cons_zero, List.getElem?_cons_succ]
        go_wp2_with fail
        refine ⟨rfl, _, .string (X.extract en L), rfl, Or.inl ⟨by rfl, fun W hW => by go_simp⟩, plan_yield ?_⟩
        simp only [Act.put, List.setIfInBounds_toArray, List.set_cons_zero, List.set_cons_succ]
        simp only [List.cons_append, List.nil_append, List.append_nil, List.filterMap_cons, List.filterMap_nil, List.getElem?_toArray, List.getElem?_cons_zero, List.getElem?_cons_succ]
        go_wp2_with fail
        refine ⟨rfl, _, .string Q, rfl, Or.inl ⟨by rfl, fun W hW => by go_simp⟩, plan_force ?_⟩
        simp only [Act.put, List.setIfInBounds_toArray, List.set_cons_zero, List.set_cons_succ]
        simp only [List.cons_append, List.nil_append, List.append_nil, List.filterMap_cons, List.filterMap_nil, List.getElem?_toArray, List.getElem?_cons_zero, List.getElem?_cons_succ]
        go_wp2_with fail
        refine ⟨rfl, hS0, plan_force ?_⟩
        simp only [List.cons_append, List.nil_append, List.append_nil, List.filterMap_cons, List.filterMap_nil, List.getElem?_toArray, List.getElem?_cons_zero, List.getElem?_cons_succ]
        obtain ⟨q1, q2, q3, q4⟩ := ac_cs hS0.2.1
        go_wp2_with fail
        clear q1 q2 q3 q4
        refine ⟨rfl, hS0, plan_force ?_⟩
        simp only [List.cons_append, List.nil_append, List.append_nil, List.filterMap_cons, List.filterMap_nil, List.getElem?_toArray, List.getElem?_cons_zero, List.getElem?_cons_succ]
        (refine fl_build_at (by rfl) 33 _ (by rfl) [(0, .string (Q)), (1, .int .u64 ((t' : Nat) : Int))] (by simp [Act.eval]) (mdC (Q) t') hbm ?_; simp only [Act.put, List.setIfInBounds_toArray, List.set_cons_zero, List.set_cons_succ])
        go_wp2_with fail
        refine ⟨rfl, hS0, plan_force ?_⟩
        simp only [List.cons_append, List.nil_append, List.append_nil, List.filterMap_cons, List.filterMap_nil, List.getElem?_toArray, List.getElem?_cons_zero, List.getElem?_cons_succ]
        obtain ⟨u1, u2, s0, t0, u3⟩ := hS0
        (refine wpList_store_row (by rfl) 33 _ _ (by rfl) (V.heap.size + 1 + 1) (mdC (Q) t') (by rfl) (by rfl) 33 (mdC s0 t0) (by exact u3) (sizeMd.trans (by rfl)) (by rfl) (md_all _ _) ?_; simp only [Act.put, List.setIfInBounds_toArray, List.set_cons_zero, List.set_cons_succ])
        have HP : Hid (Blk (W0.setRow (V.heap.size + 1 + 1) (mdC (Q) t')) (V.heap.size + 1 + 1) 33 (mdC (Q) t') ∧ Below V.heap.size V (W0.setRow (V.heap.size + 1 + 1) (mdC (Q) t'))) := ⟨u3.set _, below_setRow hE0 (by omega) _⟩
        have hS2 : Blk (W0.setRow (V.heap.size + 1 + 1) (mdC (Q) t')) V.heap.size 33 (mdC s st) ∧ Blk (W0.setRow (V.heap.size + 1 + 1) (mdC (Q) t')) (V.heap.size + 1) 35 (acC kd (z : Int) m t t') ∧ ∃ s0 t0, Blk (W0.setRow (V.heap.size + 1 + 1) (mdC (Q) t')) (V.heap.size + 1 + 1) 33 (mdC s0 t0) := ⟨u1.other (g := V.heap.size + 1 + 1) (mdC (Q) t') (by omega), u2.other _ (by omega), _, _, u3.set _⟩
        clear u1 u2 u3 hE0
        go_wp2_with fail
        refine ⟨rfl, hS2, plan_fin ?_⟩
        simp only [List.cons_append, List.nil_append, List.append_nil, List.filterMap_cons, List.filterMap_nil, List.getElem?_toArray, List.getElem?_cons_zero, List.getElem?_cons_succ]
        go_wp2_with fail
        refine ⟨rfl, ?_⟩
        go_wp2_with fail
        try simp only [Exit.inBlock, Exit.then]
        refine bodyPost_ret (res_ttc Tryz.results11 _ _ (V.heap.size + 1 + 1) 33 _ (0, 0) _ rfl (by exact HP.out.1) Tryz.underlying33 rfl (sizeMd.trans (by rfl))) rfl ?_
        rw [HD.out]
        exact ⟨by first | rfl | (rw [hS]; rfl), HP.out.2⟩
end Go.Proofs.YtojbgggkfahkfaaGreat

namespace Go.Proofs.YtojbgggkfahkfaaGreat
open Go Go.RowKit
set_option linter.unusedSimpArgs false
set_option linter.unusedVariables false
theorem done_any (s : ByteArray) (st : Nat) (kd a m : Int) (t : ByteArray) (t' : Nat) (ha : -9223372036854775808 ≤ a ∧ a ≤ 9223372036854775807) (hm : -9223372036854775808 ≤ m ∧ m ≤ 9223372036854775807) (ht : t.size ≤ 140737488355328) (hs : s.size ≤ 1048576) (R : Dn) (hR : dnF s st (kdN kd) a m t t' = R) (V : World) : Calls Tryz.prog 11 #[.agg (mdC s st), .agg (acC kd a m t t')] V fun e w' => e = .returned (.tuple #[.int .i64 R.ans, .int .i64 R.err, .agg (mdC R.s R.st)]) ∧ Below V.heap.size V w' := by
  by_cases h3 : kdN kd = 3
  · rw [h3] at hR
    exact done_app s st kd a m t t' ht hs h3 R hR V
  · by_cases h4 : kdN kd = 4
    · rw [h4] at hR
      exact done_cut s st kd a m t t' ha hs h4 R hR V
    · by_cases h5 : kdN kd = 5
      · rw [h5] at hR
        exact done_zero s st kd a m t t' ha hm hs h5 R hR V
      · exact done_write s st kd a m t t' ha ht hs _ rfl h3 h4 h5 R hR V
theorem zero_ac (w : World) : (zeroValue 35).run Tryz.prog w = .ok (.agg (acC 0 0 0 ⟨#[]⟩ 0)) w := fl_zero (by kernel_rfl) w
theorem sizeAc : (Tryz.prog.info? 35).map (·.size) = some 5 := by kernel_rfl
theorem ac_all (kd a m : Int) (s : ByteArray) (t : Nat) : (acC kd a m s t).all (·.oneCell') = true := by simp [acC, Value.oneCell']
/-- a deed's cells by its place -/
def acF (x : Ac) : Nat → Value := fun i => if i = 0 then .int .i64 x.kd else if i = 1 then .int .i64 x.a else if i = 2 then .int .i64 x.m else if i = 3 then .string x.s else .int .u64 ((x.t : Nat) : Int)
theorem ac_rng {W : World} {b o : Nat} {x : Ac} (h : W.rangeAt b o x.cs) : W.rangeAt b o ((List.range 5).map (acF x)) := h
/-- a bool that tells something if it is true -/
def Says1 (e : Ending) (P : Prop) : Prop := ∃ b : Bool, e = .returned (.bool b) ∧ (b = true → P)
set_option maxRecDepth 100000 in
set_option maxHeartbeats 8000000 in
theorem bulk_any (al : Option Addr) (n c : Nat) (A : Nat → Ac) (hn : n * 48 ≤ 140737488351232) (hok : ∀ i, i < n → (A i).ok) (w : World) (hA : IsA16 w al n A) : Calls Tryz.prog 8 #[.slice al n c] w fun e w' => Says1 e (∀ i, i < n → (A i).s.size ≤ 3000000) ∧ Below w.heap.size w w' := by
  have hza := zero_ac
  have HA : Hid (IsA16 w al n A ∧ ∀ i, i < n → (A i).ok) := ⟨hA, hok⟩
  have hn2 : n ≤ 140737488351232 := by omega
  clear hA hok hn
  go_enter Tryz.func8, Tryz.ntmps8
  go_wp2_with fail
  go_loopw [3, 8] (fun u v wr => Hid (∃ (k : Nat) (q : Int), k ≤ n ∧ v = .int .i64 (k : Int) ∧ u = .int .i64 q ∧ (∀ i, i < k → (A i).s.size ≤ 3000000) ∧ Below w.heap.size w wr)) (fun _ v _ => n - (intOf v).toNat)
  case atStart => exact ⟨0, 0, Nat.zero_le _, rfl, rfl, fun i hi => absurd hi (by omega), Below.refl _ _⟩
  case round =>
    obtain ⟨k, q, hk, rfl, rfl, hall, hb⟩ := Hid.out hrel
    clear hrel
    by_cases hlt : k < n
    · have k0 : (0 : Int) ≤ (k : Int) := by omega
      have k1 : (k : Int) < (n : Int) := by omega
      obtain ⟨b, o, rfl, hbl, hr⟩ := HA.out.1 k hlt
      have hok := HA.out.2 k hlt
      obtain ⟨X, hX⟩ : ∃ X, A k = X := ⟨_, rfl⟩
      rw [hX] at hr hok
      have HR : Hid (wr.rangeAt b (o + k * 5) ((List.range 5).map (acF X))) := fun j v hv => by
        rw [← ac_rng hr j v hv]
        simp [World.cell?, hb.block b hbl]
      have p1 := Blk.new wr 35 (acC 0 0 0 ⟨#[]⟩ 0)
      have p2 := p1.set (va 5 (acF X))
      have hbB : Below w.heap.size w ((wr.alloc (.cells (acC 0 0 0 ⟨#[]⟩ 0) 35)).setRow wr.heap.size (va 5 (acF X))) := below_setRow (hb.alloc hb.size _) hb.size _
      obtain ⟨d1, d2, d3, d4⟩ := ac_cs (kd := X.kd) (a := X.a) (m := X.m) (s := X.s) (t := X.t) p2
      obtain ⟨T, hT⟩ : ∃ T : Nat, X.s.size = T := ⟨_, rfl⟩
      have HX : Hid (A k = X ∧ X.s.size = T ∧ (∀ i, i < k → (A i).s.size ≤ 3000000) ∧ k < n ∧ T ≤ maxLen) := ⟨hX, hT, hall, hlt, by rw [← hT]; exact hok.2.2.2.1⟩
      have hT2 : T ≤ 9223372036854775807 := by have := HX.out.2.2.2.2; unfold maxLen at this; omega
      have HBB : Hid (Below w.heap.size w ((wr.alloc (.cells (acC 0 0 0 ⟨#[]⟩ 0) 35)).setRow wr.heap.size (va 5 (acF X)))) := hbB
      clear hX hall hlt hr hbl hok hb hbB p2
      by_cases hb1 : 3000000 < T
      · have t1 : (3000000 : Int) < (T : Int) := by omega
        go_wp2_with (first
          | (refine wpList_load_blk (by rfl) 35 _ (by rfl) b (o + k * 5) 5 (acF X) (by rfl) _ HR.out Tryz.underlying35 rfl sizeAc ?_; simp only [Act.put, List.setIfInBounds_toArray, List.set_cons_zero, List.set_cons_succ])
          | (refine wpList_store_row (by rfl) 35 _ _ (by rfl) (wr.heap.size) (va 5 (acF X)) (by rfl) (by rfl) 35 (acC 0 0 0 ⟨#[]⟩ 0) (by exact p1) (sizeAc.trans (by rw [va_size])) (by rfl) (ac_all _ _ _ _ _) ?_; simp only [Act.put, List.setIfInBounds_toArray, List.set_cons_zero, List.set_cons_succ])
          | fail)
        go_ret
        exact ⟨⟨false, rfl, fun h => by cases h⟩, HBB.out⟩
      · have t1 : ¬ ((3000000 : Int) < (T : Int)) := by omega
        by_cases hb2 : 3000000 < q
        · go_wp2_with (first
            | (refine wpList_load_blk (by rfl) 35 _ (by rfl) b (o + k * 5) 5 (acF X) (by rfl) _ HR.out Tryz.underlying35 rfl sizeAc ?_; simp only [Act.put, List.setIfInBounds_toArray, List.set_cons_zero, List.set_cons_succ])
            | (refine wpList_store_row (by rfl) 35 _ _ (by rfl) (wr.heap.size) (va 5 (acF X)) (by rfl) (by rfl) 35 (acC 0 0 0 ⟨#[]⟩ 0) (by exact p1) (sizeAc.trans (by rw [va_size])) (by rfl) (ac_all _ _ _ _ _) ?_; simp only [Act.put, List.setIfInBounds_toArray, List.set_cons_zero, List.set_cons_succ])
            | fail)
          go_ret
          exact ⟨⟨false, rfl, fun h => by cases h⟩, HBB.out⟩
        · by_cases hb3 : 1000 < n
          · have t3 : (1000 : Int) < (n : Int) := by omega
            go_wp2_with (first
              | (refine wpList_load_blk (by rfl) 35 _ (by rfl) b (o + k * 5) 5 (acF X) (by rfl) _ HR.out Tryz.underlying35 rfl sizeAc ?_; simp only [Act.put, List.setIfInBounds_toArray, List.set_cons_zero, List.set_cons_succ])
              | (refine wpList_store_row (by rfl) 35 _ _ (by rfl) (wr.heap.size) (va 5 (acF X)) (by rfl) (by rfl) 35 (acC 0 0 0 ⟨#[]⟩ 0) (by exact p1) (sizeAc.trans (by rw [va_size])) (by rfl) (ac_all _ _ _ _ _) ?_; simp only [Act.put, List.setIfInBounds_toArray, List.set_cons_zero, List.set_cons_succ])
              | fail)
            go_ret
            exact ⟨⟨false, rfl, fun h => by cases h⟩, HBB.out⟩
          · have t3 : ¬ ((1000 : Int) < (n : Int)) := by omega
            go_wp2_with (first
              | (refine wpList_load_blk (by rfl) 35 _ (by rfl) b (o + k * 5) 5 (acF X) (by rfl) _ HR.out Tryz.underlying35 rfl sizeAc ?_; simp only [Act.put, List.setIfInBounds_toArray, List.set_cons_zero, List.set_cons_succ])
              | (refine wpList_store_row (by rfl) 35 _ _ (by rfl) (wr.heap.size) (va 5 (acF X)) (by rfl) (by rfl) 35 (acC 0 0 0 ⟨#[]⟩ 0) (by exact p1) (sizeAc.trans (by rw [va_size])) (by rfl) (ac_all _ _ _ _ _) ?_; simp only [Act.put, List.setIfInBounds_toArray, List.set_cons_zero, List.set_cons_succ])
              | fail)
            go_roundw
            case rel => exact ⟨k + 1, _, HX.out.2.2.2.1, by simp, rfl, fun i hi => by
              by_cases e : i = k
              · rw [e, HX.out.1, HX.out.2.1]
                omega
              · exact HX.out.2.2.1 i (by omega), HBB.out⟩
            case measure =>
              have := HX.out.2.2.2.1
              simp [intOf]
              omega
    · have k1 : ¬ ((k : Int) < (n : Int)) := by omega
      have HX : Hid (∀ i, i < n → (A i).s.size ≤ 3000000) := fun i hi => hall i (by omega)
      clear hall hlt
      go_wp2_with fail
      go_ret
      exact ⟨⟨true, rfl, fun _ => HX.out⟩, hb⟩
end Go.Proofs.YtojbgggkfahkfaaGreat

namespace Go.Proofs.YtojbgggkfahkfaaGreat
open Go Go.RowKit
set_option linter.unusedSimpArgs false
set_option linter.unusedVariables false
set_option maxRecDepth 100000 in
set_option maxHeartbeats 2000000 in
theorem cloneFours (r : Nat) (es) (cl) (w : World) (hg : w.heap[r]? = some (.map es cl)) :
    Calls Tryz.prog 29 #[.map (some r)] w fun e w' => e = .returned (.map (some w.heap.size)) ∧ w' = w.alloc (.map es cl) := by
  have hq := fun w => run_eql_map_nil_sl (P := Tryz.prog) w 83 _ _ (some r) Tryz.underlying83
  go_enter Tryz.func29, Tryz.ntmps29
  go_wp2_with fail
  rw [run_callFunc_extern Tryz.func56 (by kernel_rfl) (by kernel_rfl) (by kernel_rfl) (e := Extern.MapsClone.clone) (by kernel_rfl), run_maps_clone_sl w 83 hg]
  simp only [Result.andThen]
  rw [Oper.upon_value]
  go_wp2_with fail
  rw [run_typeAssert_map_sl _ 83 _ _ _ _ Tryz.underlying83]
  simp only [Result.andThen]
  rw [Oper.upon_value]
  go_wp2_with fail
  go_ret
  exact ⟨rfl, rfl⟩
set_option maxRecDepth 100000 in
set_option maxHeartbeats 2000000 in
theorem cloneLeaves (r : Nat) (es) (cl) (w : World) (hg : w.heap[r]? = some (.map es cl)) :
    Calls Tryz.prog 30 #[.map (some r)] w fun e w' => e = .returned (.map (some w.heap.size)) ∧ w' = w.alloc (.map es cl) := by
  have hq := fun w => run_eql_map_nil_sl (P := Tryz.prog) w 84 _ _ (some r) Tryz.underlying84
  go_enter Tryz.func30, Tryz.ntmps30
  go_wp2_with fail
  rw [run_callFunc_extern Tryz.func56 (by kernel_rfl) (by kernel_rfl) (by kernel_rfl) (e := Extern.MapsClone.clone) (by kernel_rfl), run_maps_clone_sl w 84 hg]
  simp only [Result.andThen]
  rw [Oper.upon_value]
  go_wp2_with fail
  rw [run_typeAssert_map_sl _ 84 _ _ _ _ Tryz.underlying84]
  simp only [Result.andThen]
  rw [Oper.upon_value]
  go_wp2_with fail
  go_ret
  exact ⟨rfl, rfl⟩
set_option maxRecDepth 100000 in
set_option maxHeartbeats 2000000 in
theorem cloneCounts (r : Nat) (es) (cl) (w : World) (hg : w.heap[r]? = some (.map es cl)) :
    Calls Tryz.prog 31 #[.map (some r)] w fun e w' => e = .returned (.map (some w.heap.size)) ∧ w' = w.alloc (.map es cl) := by
  have hq := fun w => run_eql_map_nil_sl (P := Tryz.prog) w 85 _ _ (some r) Tryz.underlying85
  go_enter Tryz.func31, Tryz.ntmps31
  go_wp2_with fail
  rw [run_callFunc_extern Tryz.func56 (by kernel_rfl) (by kernel_rfl) (by kernel_rfl) (e := Extern.MapsClone.clone) (by kernel_rfl), run_maps_clone_sl w 85 hg]
  simp only [Result.andThen]
  rw [Oper.upon_value]
  go_wp2_with fail
  rw [run_typeAssert_map_sl _ 85 _ _ _ _ Tryz.underlying85]
  simp only [Result.andThen]
  rw [Oper.upon_value]
  go_wp2_with fail
  go_ret
  exact ⟨rfl, rfl⟩
end Go.Proofs.YtojbgggkfahkfaaGreat
