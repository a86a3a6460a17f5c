/- What a deed should make of a file: zeros, and what is written. -/
import Derived.Test.YtojbgggkfahkfaaGreatHFlDone
import Derived.Handy

namespace Go.Proofs.YtojbgggkfahkfaaGreat
open Go Go.RowKit
set_option linter.unusedSimpArgs false
set_option linter.unusedVariables false
set_option maxRecDepth 100000 in
set_option maxHeartbeats 8000000 in
theorem done_zero (s : ByteArray) (st : Nat) (kd a m : Int) (t : ByteArray) (t' : Nat) (ha : -9223372036854775808 ≤ a ∧ a ≤ 9223372036854775807) (hm : -9223372036854775808 ≤ m ∧ m ≤ 9223372036854775807) (hs : s.size ≤ 1048576) (hk3 : kdN kd = 5) (R : Dn) (hR : dnF s st 5 a m t t' = R) (V : World) : Calls Tryz.prog 11 #[.agg (mdC s st), .agg (acC kd a m t t')] V fun e w' => e = .returned (.tuple #[.int .i64 R.ans, .int .i64 R.err, .agg (mdC R.s R.st)]) ∧ Below V.heap.size V w' := by
  have hzm := zero_md
  have bM : Blk (((V.alloc (.cells (mdC s st) 33)).alloc (.cells (acC kd a m t t') 35)).alloc (.cells #[.string ⟨#[]⟩, .int .u64 0] 33)) V.heap.size 33 (mdC s st) := ((Blk.new _ _ _).alloc _).alloc _
  have bA : Blk (((V.alloc (.cells (mdC s st) 33)).alloc (.cells (acC kd a m t t') 35)).alloc (.cells #[.string ⟨#[]⟩, .int .u64 0] 33)) (V.heap.size + 1) 35 (acC kd a m t t') := (Blk.new1 _ _ _ _).alloc _
  have bR : Blk (((V.alloc (.cells (mdC s st) 33)).alloc (.cells (acC kd a m t t') 35)).alloc (.cells #[.string ⟨#[]⟩, .int .u64 0] 33)) (V.heap.size + 1 + 1) 33 (mdC ⟨#[]⟩ 0) := Blk.new2 _ _ _ _ _
  have hbel : Below V.heap.size V (((V.alloc (.cells (mdC s st) 33)).alloc (.cells (acC kd a m t t') 35)).alloc (.cells #[.string ⟨#[]⟩, .int .u64 0] 33)) := below_new3 _ _ _ _
  obtain ⟨m0, m1, _, _⟩ := md_cs bM
  obtain ⟨r0, r1, f0, f1⟩ := md_cs bR
  obtain ⟨c1, c2, c3, c4⟩ := ac_cs bA
  have c0 : (((V.alloc (.cells (mdC s st) 33)).alloc (.cells (acC kd a m t t') 35)).alloc (.cells #[.string ⟨#[]⟩, .int .u64 0] 33)).cell? ⟨V.heap.size + 1, 0, none⟩ = some (.int .i64 kd) := (bA.cell 0).trans rfl
  obtain ⟨hk1, hk2⟩ := kd_is kd
  have b1 := Int.tmod_lt_of_pos kd (show (0 : Int) < 8 by decide)
  have b2 := Int.lt_tmod_of_pos kd (show (0 : Int) < 8 by decide)
  obtain ⟨q1, hq1⟩ : ∃ q1 : Int, kd.tmod 8 = q1 := ⟨_, rfl⟩
  rw [hq1] at b1 b2 hk1
  rw [hk3] at hk1 hk2
  obtain ⟨q2, hq2⟩ : ∃ q2 : Nat, q1 + 8 = (q2 : Int) := ⟨(q1 + 8).toNat, by omega⟩
  rw [hq2] at hk1
  have b3 : q2 ≤ 16 := by omega
  have hw1 : wrap64 q1 = q1 := by unfold wrap64; omega
  have HR : Hid (dnF s st 5 a m t t' = R) := hR
  clear hR b1 b2
  go_enter Tryz.func11, Tryz.ntmps11
  have hD : dnF s st 5 a m t t' = (if a < 0 ∨ m < 0 then ⟨0, 1, s, st⟩ else ⟨0, 0, strN (wrF (tbyte s) s.size (strN (fun _ => 0) (thN s.size a.toNat m.toNat)) a.toNat) s.size, if thN s.size a.toNat m.toNat = 0 then st else t'⟩) := rfl
  rw [HR.out] at hD
  obtain ⟨S, hS⟩ : ∃ S : Nat, s.size = S := ⟨_, rfl⟩
  by_cases h0 : a < 0 ∨ m < 0
  · rw [if_pos h0] at hD
    have HD : Hid (R = _) := hD
    have HP : Hid (DE V ⟨0, 1, s, st⟩ _) := put_md bR hbel s st
    clear hD HR bR hbel bM bA
    by_cases ha0 : a < 0
    · clear h0
      go_wp2_with fail
      generalize (((V.alloc (.cells (mdC s st) 33)).alloc (.cells (acC kd a m t t') 35)).alloc (.cells #[.string ⟨#[]⟩, .int .u64 0] 33)) = V3 at *
      go_region
      go_wp2_with fail
      try simp only [Exit.inBlock, Exit.then]
      refine bodyPost_ret (res_ttc Tryz.results11 _ _ (V.heap.size + 1 + 1) 33 _ (0, 0) _ rfl (by exact HP.out.1) Tryz.underlying33 rfl (sizeMd.trans (by rfl))) rfl ?_
      rw [HD.out]
      exact ⟨by first | rfl | (rw [hS]; rfl), HP.out.2⟩
    · have hm0 : m < 0 := by omega
      clear h0
      go_wp2_with fail
      generalize (((V.alloc (.cells (mdC s st) 33)).alloc (.cells (acC kd a m t t') 35)).alloc (.cells #[.string ⟨#[]⟩, .int .u64 0] 33)) = V3 at *
      go_region
      go_wp2_with fail
      try simp only [Exit.inBlock, Exit.then]
      refine bodyPost_ret (res_ttc Tryz.results11 _ _ (V.heap.size + 1 + 1) 33 _ (0, 0) _ rfl (by exact HP.out.1) Tryz.underlying33 rfl (sizeMd.trans (by rfl))) rfl ?_
      rw [HD.out]
      exact ⟨by first | rfl | (rw [hS]; rfl), HP.out.2⟩
  · rw [if_neg h0] at hD
    obtain ⟨z, hz⟩ : ∃ z : Nat, a = (z : Int) := ⟨a.toNat, by omega⟩
    obtain ⟨m', hm'⟩ : ∃ m' : Nat, m = (m' : Int) := ⟨m.toNat, by omega⟩
    rw [show a.toNat = z by omega, show m.toNat = m' by omega] at hD
    subst hz hm'
    have n0 : ¬ ((z : Int) < 0) := by omega
    have n1 : ¬ ((m' : Int) < 0) := by omega
    by_cases h1 : S ≤ z ∨ m' = 0
    · have hk0 : thN s.size z m' = 0 := by unfold thN; omega
      rw [if_pos hk0, zr_none s z _ hk0] at hD
      have HD : Hid (R = _) := hD
      have HP : Hid (DE V ⟨0, 0, s, st⟩ _) := put_md bR hbel s st
      clear hD HR bR hbel bM bA h0 hk0
      by_cases hz1 : S ≤ z
      · have t1 : (S : Int) ≤ (z : Int) := by omega
        clear h1
        go_wp2_with fail
        generalize (((V.alloc (.cells (mdC s st) 33)).alloc (.cells (acC kd (z : Int) (m' : Int) t t') 35)).alloc (.cells #[.string ⟨#[]⟩, .int .u64 0] 33)) = V3 at *
        go_region
        go_wp2_with fail
        try simp only [Exit.inBlock, Exit.then]
        refine bodyPost_ret (res_ttc Tryz.results11 _ _ (V.heap.size + 1 + 1) 33 _ (0, 0) _ rfl (by exact HP.out.1) Tryz.underlying33 rfl (sizeMd.trans (by rfl))) rfl ?_
        rw [HD.out]
        exact ⟨by first | rfl | (rw [hS]; rfl), HP.out.2⟩
      · have t1 : ¬ ((S : Int) ≤ (z : Int)) := by omega
        have t3 : ((m' : Int) == 0) = true := by
          have t2 : (m' : Int) = 0 := by omega
          rw [t2]
          rfl
        clear h1
        go_wp2_with fail
        generalize (((V.alloc (.cells (mdC s st) 33)).alloc (.cells (acC kd (z : Int) (m' : Int) t t') 35)).alloc (.cells #[.string ⟨#[]⟩, .int .u64 0] 33)) = V3 at *
        go_region
        go_wp2_with fail
        try simp only [Exit.inBlock, Exit.then]
        refine bodyPost_ret (res_ttc Tryz.results11 _ _ (V.heap.size + 1 + 1) 33 _ (0, 0) _ rfl (by exact HP.out.1) Tryz.underlying33 rfl (sizeMd.trans (by rfl))) rfl ?_
        rw [HD.out]
        exact ⟨by first | rfl | (rw [hS]; rfl), HP.out.2⟩
    · have t1 : ¬ ((S : Int) ≤ (z : Int)) := by omega
      have t2 : ¬ ((m' : Int) = 0) := by omega
      have t3 : ((m' : Int) == 0) = false := by simpa using t2
      obtain ⟨wd, hwd⟩ : ∃ wd : Nat, S - z = wd := ⟨_, rfl⟩
      have e6 : (S : Int) - (z : Int) = (wd : Int) := by omega
      have b6 : wd ≤ 1048576 := by omega
      have zS : z ≤ 1048576 := by omega
      have z0 : (0 : Int) ≤ (z : Int) := by omega
      have z1 : (z : Int) ≤ (S : Int) := by omega
      by_cases hlt : m' < wd
      · have t4 : (m' : Int) < (wd : Int) := by omega
        obtain ⟨en, hen⟩ : ∃ en : Nat, z + m' = en := ⟨_, rfl⟩
        have e7 : (z : Int) + (m' : Int) = (en : Int) := by omega
        have hk : thN s.size z m' = m' := by unfold thN; omega
        rw [hk, if_neg (by omega), ← zr_text s z en m' hen (by omega)] at hD
        have b7 : en ≤ 1048576 := by omega
        have b8 : m' ≤ 1048576 := by omega
        have eK : (en : Int) - (z : Int) = (m' : Int) := by omega
        have hwk : IntKind.i64.wrap (m' : Int) = (m' : Int) := wrapI64_id _ (by omega) (by omega)
        have HZ : Hid (∀ w : World, Calls Tryz.prog 22 #[.int .i64 (m' : Int)] w fun e w' => e = .returned (.string (strN (fun _ => 0) m')) ∧ Below w.heap.size w w') := zeros_any (m' : Int) m' (by omega) (by omega)
        have x1 := extract_size s 0 z (by omega)
        have x2 := extract_size s en s.size (Nat.le_refl _)
        have hadd1 : ∀ w, (Op.stringOp .add (s.extract 0 z) (strN (fun _ => 0) m')).run Tryz.prog w = .ok (.string (s.extract 0 z ++ strN (fun _ => 0) m')) w := fun w => run_string_add_sum w _ _ (by rw [strN_size, x1]; omega)
        have hadd2 : ∀ w, (Op.stringOp .add (s.extract 0 z ++ strN (fun _ => 0) m') (s.extract en s.size)).run Tryz.prog w = .ok (.string (s.extract 0 z ++ strN (fun _ => 0) m' ++ s.extract en s.size)) w := fun w => run_string_add_sum w _ _ (by rw [cat_size, strN_size, x1, x2]; omega)
        obtain ⟨Y, hY⟩ : ∃ Y : ByteArray, strN (fun _ => 0) m' = Y := ⟨_, rfl⟩
        rw [hY] at hadd1 hadd2 HZ hD
        obtain ⟨X1, hX1⟩ : ∃ X1 : ByteArray, s.extract 0 z ++ Y = X1 := ⟨_, rfl⟩
        rw [hX1] at hadd1 hadd2 hD
        obtain ⟨X, hX⟩ : ∃ X : ByteArray, X1 ++ s.extract en s.size = X := ⟨_, rfl⟩
        rw [hX] at hadd2 hD
        rw [hS] at hadd2
        have y0 : (0 : Int) ≤ (en : Int) := by omega
        have y1 : (en : Int) ≤ (S : Int) := by omega
        have HD : Hid (R = ⟨0, 0, X, t'⟩) := hD
        have hbm := built_md X t'
        have hS0 : Blk (((V.alloc (.cells (mdC s st) 33)).alloc (.cells (acC kd (z : Int) (m' : Int) t t') 35)).alloc (.cells #[.string ⟨#[]⟩, .int .u64 0] 33)).drew V.heap.size 33 (mdC s st) ∧ Blk (((V.alloc (.cells (mdC s st) 33)).alloc (.cells (acC kd (z : Int) (m' : Int) t t') 35)).alloc (.cells #[.string ⟨#[]⟩, .int .u64 0] 33)).drew (V.heap.size + 1) 35 (acC kd (z : Int) (m' : Int) t t') ∧ ∃ s0 t0, Blk (((V.alloc (.cells (mdC s st) 33)).alloc (.cells (acC kd (z : Int) (m' : Int) t t') 35)).alloc (.cells #[.string ⟨#[]⟩, .int .u64 0] 33)).drew (V.heap.size + 1 + 1) 33 (mdC s0 t0) := ⟨bM.drew, bA.drew, _, _, bR.drew⟩
        have hE0 := hbel.drew
        clear hD HR bR hbel bM bA hX hY hX1 x1 x2 h0 h1
        go_wp2_with fail
        refine wp_region_plan (fun W => Blk W V.heap.size 33 (mdC s st) ∧ Blk W (V.heap.size + 1) 35 (acC kd (z : Int) (m' : Int) t t') ∧ ∃ s0 t0, Blk W (V.heap.size + 1 + 1) 33 (mdC s0 t0)) (.yield [5, 13] 0 (.yield [] 1 (.yield [] 2 (.yield [] 3 (.yield [] 4 (.yield [] 6 (.yield [] 7 (.yield [] 8 (.yield [] 11 (.yield [] 12 (.yield [] 14 (.yield [] 16 (.yield [] 17 (.force [] 9 (.force [19, 20] 10 (.force [] 15 (.force [] 18 (.force [] 21 (.fin []))))))))))))))))))) (by kernel_rfl) (by kernel_rfl) hS0 (plan_yield ?_)
        clear m0 m1 r0 r1 f0 f1 c0 c1 c2 c3 c4
        generalize (((V.alloc (.cells (mdC s st) 33)).alloc (.cells (acC kd (z : Int) (m' : Int) t t') 35)).alloc (.cells #[.string ⟨#[]⟩, .int .u64 0] 33)).drew = W0 at *
        simp only [List.cons_append, List.nil_append, List.append_nil, List.filterMap_cons, List.filterMap_nil, List.getElem?_toArray, List.getElem?_cons_zero, List.getElem?_cons_succ]
        go_wp2_with fail
        refine ⟨rfl, _, .pointer (some ⟨V.heap.size, 0, none⟩), rfl, Or.inl ⟨by rfl, fun W hW => by go_simp⟩, plan_yield ?_⟩
        simp only [Act.put, List.setIfInBounds_toArray, List.set_cons_zero, List.set_cons_succ]
        simp only [List.cons_append, List.nil_append, List.append_nil, List.filterMap_cons, List.filterMap_nil, List.getElem?_toArray, List.getElem?_cons_zero, List.getElem?_cons_succ]
        go_wp2_with fail
        refine ⟨rfl, _, .string s, rfl, Or.inl ⟨by rfl, fun W hW => by obtain ⟨q0, q1, _, _⟩ := md_cs hW.1; go_simp⟩, plan_yield ?_⟩
        simp only [Act.put, List.setIfInBounds_toArray, List.set_cons_zero, List.set_cons_succ]
        simp only [List.cons_append, List.nil_append, List.append_nil, List.filterMap_cons, List.filterMap_nil, List.getElem?_toArray, List.getElem?_cons_zero, List.getElem?_cons_succ]
        go_wp2_with fail
        refine ⟨rfl, _, .pointer (some ⟨V.heap.size + 1, 1, none⟩), rfl, Or.inl ⟨by rfl, fun W hW => by go_simp⟩, plan_yield ?_⟩
        simp only [Act.put, List.setIfInBounds_toArray, List.set_cons_zero, List.set_cons_succ]
        simp only [List.cons_append, List.nil_append, List.append_nil, List.filterMap_cons, List.filterMap_nil, List.getElem?_toArray, List.getElem?_cons_zero, List.getElem?_cons_succ]
        go_wp2_with fail
        refine ⟨rfl, _, .int .i64 (z : Int), rfl, Or.inl ⟨by rfl, fun W hW => by obtain ⟨q1, q2, q3, q4⟩ := ac_cs hW.2.1; go_simp⟩, plan_yield ?_⟩
        simp only [Act.put, List.setIfInBounds_toArray, List.set_cons_zero, List.set_cons_succ]
        simp only [List.cons_append, List.nil_append, List.append_nil, List.filterMap_cons, List.filterMap_nil, List.getElem?_toArray, List.getElem?_cons_zero, List.getElem?_cons_succ]
        go_wp2_with fail
        refine ⟨rfl, _, .string (s.extract 0 z), rfl, Or.inl ⟨by rfl, fun W hW => by go_simp⟩, plan_yield ?_⟩
        simp only [Act.put, List.setIfInBounds_toArray, List.set_cons_zero, List.set_cons_succ]
        simp only [List.cons_append, List.nil_append, List.append_nil, List.filterMap_cons, List.filterMap_nil, List.getElem?_toArray, List.getElem?_cons_zero, List.getElem?_cons_succ]
        go_wp2_with fail
        refine ⟨rfl, _, .pointer (some ⟨V.heap.size + 1, 1, none⟩), rfl, Or.inl ⟨by rfl, fun W hW => by go_simp⟩, plan_yield ?_⟩
        simp only [Act.put, List.setIfInBounds_toArray, List.set_cons_zero, List.set_cons_succ]
        simp only [List.cons_append, List.nil_append, List.append_nil, List.filterMap_cons, List.filterMap_nil, List.getElem?_toArray, List.getElem?_cons_zero, List.getElem?_cons_succ]
        go_wp2_with fail
        refine ⟨rfl, _, .int .i64 (z : Int), rfl, Or.inl ⟨by rfl, fun W hW => by obtain ⟨q1, q2, q3, q4⟩ := ac_cs hW.2.1; go_simp⟩, plan_yield ?_⟩
        simp only [Act.put, List.setIfInBounds_toArray, List.set_cons_zero, List.set_cons_succ]
        simp only [List.cons_append, List.nil_append, List.append_nil, List.filterMap_cons, List.filterMap_nil, List.getElem?_toArray, List.getElem?_cons_zero, List.getElem?_cons_succ]
        go_wp2_with fail
        refine ⟨rfl, _, .int .i64 (m' : Int), rfl, Or.inl ⟨by rfl, fun W hW => by go_simp⟩, plan_yield ?_⟩
        simp only [Act.put, List.setIfInBounds_toArray, List.set_cons_zero, List.set_cons_succ]
        simp only [List.cons_append, List.nil_append, List.append_nil, List.filterMap_cons, List.filterMap_nil, List.getElem?_toArray, List.getElem?_cons_zero, List.getElem?_cons_succ]
        go_wp2_with fail
        refine ⟨rfl, _, .pointer (some ⟨V.heap.size, 0, none⟩), rfl, Or.inl ⟨by rfl, fun W hW => by go_simp⟩, plan_yield ?_⟩
        simp only [Act.put, List.setIfInBounds_toArray, List.set_cons_zero, List.set_cons_succ]
        simp only [List.cons_append, List.nil_append, List.append_nil, List.filterMap_cons, List.filterMap_nil, List.getElem?_toArray, List.getElem?_cons_zero, List.getElem?_cons_succ]
        go_wp2_with fail
        refine ⟨rfl, _, .string s, rfl, Or.inl ⟨by rfl, fun W hW => by obtain ⟨q0, q1, _, _⟩ := md_cs hW.1; go_simp⟩, plan_yield ?_⟩
        simp only [Act.put, List.setIfInBounds_toArray, List.set_cons_zero, List.set_cons_succ]
        simp only [List.cons_append, List.nil_append, List.append_nil, List.filterMap_cons, List.filterMap_nil, List.getElem?_toArray, List.getElem?_cons_zero, List.getElem?_cons_succ]
        go_wp2_with fail
        refine ⟨rfl, _, .string (s.extract en S), rfl, Or.inl ⟨by rfl, fun W hW => by go_simp⟩, plan_yield ?_⟩
        simp only [Act.put, List.setIfInBounds_toArray, List.set_cons_zero, List.set_cons_succ]
        simp only [List.cons_append, List.nil_append, List.append_nil, List.filterMap_cons, List.filterMap_nil, List.getElem?_toArray, List.getElem?_cons_zero, List.getElem?_cons_succ]
        go_wp2_with fail
        refine ⟨rfl, _, .pointer (some ⟨V.heap.size + 1, 4, none⟩), rfl, Or.inl ⟨by rfl, fun W hW => by go_simp⟩, plan_yield ?_⟩
        simp only [Act.put, List.setIfInBounds_toArray, List.set_cons_zero, List.set_cons_succ]
        simp only [List.cons_append, List.nil_append, List.append_nil, List.filterMap_cons, List.filterMap_nil, List.getElem?_toArray, List.getElem?_cons_zero, List.getElem?_cons_succ]
        go_wp2_with fail
        refine ⟨rfl, _, .int .u64 ((t' : Nat) : Int), rfl, Or.inl ⟨by rfl, fun W hW => by obtain ⟨q1, q2, q3, q4⟩ := ac_cs hW.2.1; go_simp⟩, plan_force ?_⟩
        simp only [Act.put, List.setIfInBounds_toArray, List.set_cons_zero, List.set_cons_succ]
        simp only [List.cons_append, List.nil_append, List.append_nil, List.filterMap_cons, List.filterMap_nil, List.getElem?_toArray, List.getElem?_cons_zero, List.getElem?_cons_succ]
        go_wp2_with fail
        refine (HZ.out _).mono ?_
        rintro e W1 ⟨rfl, hz1⟩
        have hS1 : Blk W1 V.heap.size 33 (mdC s st) ∧ Blk W1 (V.heap.size + 1) 35 (acC kd (z : Int) (m' : Int) t t') ∧ ∃ s0 t0, Blk W1 (V.heap.size + 1 + 1) 33 (mdC s0 t0) := by
          obtain ⟨u1, u2, s0, t0, u3⟩ := hS0
          exact ⟨u1.below hz1 u1.lt, u2.below hz1 u2.lt, s0, t0, u3.below hz1 u3.lt⟩
        have hE1 : Below V.heap.size V W1 := hE0.trans (hz1.mono hE0.size)
        clear hz1 hE0 hS0
        go_wp2_with fail
        refine ⟨rfl, hS1, plan_force ?_⟩
        simp only [List.cons_append, List.nil_append, List.append_nil, List.filterMap_cons, List.filterMap_nil, List.getElem?_toArray, List.getElem?_cons_zero, List.getElem?_cons_succ]
        go_wp2_with fail
        refine ⟨rfl, hS1, plan_force ?_⟩
        simp only [List.cons_append, List.nil_append, List.append_nil, List.filterMap_cons, List.filterMap_nil, List.getElem?_toArray, List.getElem?_cons_zero, List.getElem?_cons_succ]
        go_wp2_with fail
        refine ⟨rfl, hS1, plan_force ?_⟩
        simp only [List.cons_append, List.nil_append, List.append_nil, List.filterMap_cons, List.filterMap_nil, List.getElem?_toArray, List.getElem?_cons_zero, List.getElem?_cons_succ]
        (refine fl_build_at (by rfl) 33 _ (by rfl) [(0, .string (X)), (1, .int .u64 ((t' : Nat) : Int))] (by simp [Act.eval]) (mdC (X) t') hbm ?_; simp only [Act.put, List.setIfInBounds_toArray, List.set_cons_zero, List.set_cons_succ])
        go_wp2_with fail
        refine ⟨rfl, hS1, plan_force ?_⟩
        simp only [List.cons_append, List.nil_append, List.append_nil, List.filterMap_cons, List.filterMap_nil, List.getElem?_toArray, List.getElem?_cons_zero, List.getElem?_cons_succ]
        obtain ⟨u1, u2, s0, t0, u3⟩ := hS1
        (refine wpList_store_row (by rfl) 33 _ _ (by rfl) (V.heap.size + 1 + 1) (mdC (X) t') (by rfl) (by rfl) 33 (mdC s0 t0) (by exact u3) (sizeMd.trans (by rfl)) (by rfl) (md_all _ _) ?_; simp only [Act.put, List.setIfInBounds_toArray, List.set_cons_zero, List.set_cons_succ])
        have HP : Hid (Blk (W1.setRow (V.heap.size + 1 + 1) (mdC (X) t')) (V.heap.size + 1 + 1) 33 (mdC (X) t') ∧ Below V.heap.size V (W1.setRow (V.heap.size + 1 + 1) (mdC (X) t'))) := ⟨u3.set _, below_setRow hE1 (by omega) _⟩
        have hS2 : Blk (W1.setRow (V.heap.size + 1 + 1) (mdC (X) t')) V.heap.size 33 (mdC s st) ∧ Blk (W1.setRow (V.heap.size + 1 + 1) (mdC (X) t')) (V.heap.size + 1) 35 (acC kd (z : Int) (m' : Int) t t') ∧ ∃ s0 t0, Blk (W1.setRow (V.heap.size + 1 + 1) (mdC (X) t')) (V.heap.size + 1 + 1) 33 (mdC s0 t0) := ⟨u1.other (g := V.heap.size + 1 + 1) (mdC (X) t') (by omega), u2.other _ (by omega), _, _, u3.set _⟩
        clear u1 u2 u3 hE1
        go_wp2_with fail
        refine ⟨rfl, hS2, plan_fin ?_⟩
        simp only [List.cons_append, List.nil_append, List.append_nil, List.filterMap_cons, List.filterMap_nil, List.getElem?_toArray, List.getElem?_cons_zero, List.getElem?_cons_succ]
        go_wp2_with fail
        refine ⟨rfl, ?_⟩
        go_wp2_with fail
        try simp only [Exit.inBlock, Exit.then]
        refine bodyPost_ret (res_ttc Tryz.results11 _ _ (V.heap.size + 1 + 1) 33 _ (0, 0) _ rfl (by exact HP.out.1) Tryz.underlying33 rfl (sizeMd.trans (by rfl))) rfl ?_
        rw [HD.out]
        exact ⟨by first | rfl | (rw [hS]; rfl), HP.out.2⟩
      · have t4 : ¬ ((m' : Int) < (wd : Int)) := by omega
        have hk : thN s.size z m' = wd := by unfold thN; omega
        rw [hk, if_neg (by omega), ← zr_text s z S wd (by omega) (by omega)] at hD
        have eK : (S : Int) - (z : Int) = (wd : Int) := by omega
        have hwk : IntKind.i64.wrap (wd : Int) = (wd : Int) := wrapI64_id _ (by omega) (by omega)
        have HZ : Hid (∀ w : World, Calls Tryz.prog 22 #[.int .i64 (wd : Int)] w fun e w' => e = .returned (.string (strN (fun _ => 0) wd)) ∧ Below w.heap.size w w') := zeros_any (wd : Int) wd (by omega) (by omega)
        have x1 := extract_size s 0 z (by omega)
        have x2 := extract_size s S s.size (Nat.le_refl _)
        have hadd1 : ∀ w, (Op.stringOp .add (s.extract 0 z) (strN (fun _ => 0) wd)).run Tryz.prog w = .ok (.string (s.extract 0 z ++ strN (fun _ => 0) wd)) w := fun w => run_string_add_sum w _ _ (by rw [strN_size, x1]; omega)
        have hadd2 : ∀ w, (Op.stringOp .add (s.extract 0 z ++ strN (fun _ => 0) wd) (s.extract S s.size)).run Tryz.prog w = .ok (.string (s.extract 0 z ++ strN (fun _ => 0) wd ++ s.extract S s.size)) w := fun w => run_string_add_sum w _ _ (by rw [cat_size, strN_size, x1, x2]; omega)
        obtain ⟨Y, hY⟩ : ∃ Y : ByteArray, strN (fun _ => 0) wd = Y := ⟨_, rfl⟩
        rw [hY] at hadd1 hadd2 HZ hD
        obtain ⟨X1, hX1⟩ : ∃ X1 : ByteArray, s.extract 0 z ++ Y = X1 := ⟨_, rfl⟩
        rw [hX1] at hadd1 hadd2 hD
        obtain ⟨X, hX⟩ : ∃ X : ByteArray, X1 ++ s.extract S s.size = X := ⟨_, rfl⟩
        rw [hX] at hadd2 hD
        rw [hS] at hadd2
        have hx : s.extract S S = ⟨#[]⟩ := empty_text (by have x3 := extract_size s S s.size (Nat.le_refl _); rw [hS] at x3; rw [x3]; omega)
        have hadd3 := hadd2
        rw [hx] at hadd3
        have hadd4 : ∀ w, (Op.stringOp .add X1 ByteArray.empty).run Tryz.prog w = .ok (.string X) w := hadd3
        clear hx
        have y0 : (0 : Int) ≤ (S : Int) := by omega
        have y1 : (S : Int) ≤ (S : Int) := by omega
        have HD : Hid (R = ⟨0, 0, X, t'⟩) := hD
        have hbm := built_md X t'
        have hS0 : Blk (((V.alloc (.cells (mdC s st) 33)).alloc (.cells (acC kd (z : Int) (m' : Int) t t') 35)).alloc (.cells #[.string ⟨#[]⟩, .int .u64 0] 33)).drew V.heap.size 33 (mdC s st) ∧ Blk (((V.alloc (.cells (mdC s st) 33)).alloc (.cells (acC kd (z : Int) (m' : Int) t t') 35)).alloc (.cells #[.string ⟨#[]⟩, .int .u64 0] 33)).drew (V.heap.size + 1) 35 (acC kd (z : Int) (m' : Int) t t') ∧ ∃ s0 t0, Blk (((V.alloc (.cells (mdC s st) 33)).alloc (.cells (acC kd (z : Int) (m' : Int) t t') 35)).alloc (.cells #[.string ⟨#[]⟩, .int .u64 0] 33)).drew (V.heap.size + 1 + 1) 33 (mdC s0 t0) := ⟨bM.drew, bA.drew, _, _, bR.drew⟩
        have hE0 := hbel.drew
        clear hD HR bR hbel bM bA hX hY hX1 x1 x2 h0 h1
        go_wp2_with fail
        refine wp_region_plan (fun W => Blk W V.heap.size 33 (mdC s st) ∧ Blk W (V.heap.size + 1) 35 (acC kd (z : Int) (m' : Int) t t') ∧ ∃ s0 t0, Blk W (V.heap.size + 1 + 1) 33 (mdC s0 t0)) (.yield [5, 13] 0 (.yield [] 1 (.yield [] 2 (.yield [] 3 (.yield [] 4 (.yield [] 6 (.yield [] 7 (.yield [] 8 (.yield [] 11 (.yield [] 12 (.yield [] 14 (.yield [] 16 (.yield [] 17 (.force [] 9 (.force [19, 20] 10 (.force [] 15 (.force [] 18 (.force [] 21 (.fin []))))))))))))))))))) (by kernel_rfl) (by kernel_rfl) hS0 (plan_yield ?_)
        clear m0 m1 r0 r1 f0 f1 c0 c1 c2 c3 c4
        generalize (((V.alloc (.cells (mdC s st) 33)).alloc (.cells (acC kd (z : Int) (m' : Int) t t') 35)).alloc (.cells #[.string ⟨#[]⟩, .int .u64 0] 33)).drew = W0 at *
        simp only [List.cons_append, List.nil_append, List.append_nil, List.filterMap_cons, List.filterMap_nil, List.getElem?_toArray, List.getElem?_cons_zero, List.getElem?_cons_succ]
        go_wp2_with fail
        refine ⟨rfl, _, .pointer (some ⟨V.heap.size, 0, none⟩), rfl, Or.inl ⟨by rfl, fun W hW => by go_simp⟩, plan_yield ?_⟩
        simp only [Act.put, List.setIfInBounds_toArray, List.set_cons_zero, List.set_cons_succ]
        simp only [List.cons_append, List.nil_append, List.append_nil, List.filterMap_cons, List.filterMap_nil, List.getElem?_toArray, List.getElem?_cons_zero, List.getElem?_cons_succ]
        go_wp2_with fail
        refine ⟨rfl, _, .string s, rfl, Or.inl ⟨by rfl, fun W hW => by obtain ⟨q0, q1, _, _⟩ := md_cs hW.1; go_simp⟩, plan_yield ?_⟩
        simp only [Act.put, List.setIfInBounds_toArray, List.set_cons_zero, List.set_cons_succ]
        simp only [List.cons_append, List.nil_append, List.append_nil, List.filterMap_cons, List.filterMap_nil, List.getElem?_toArray, List.getElem?_cons_zero, List.getElem?_cons_succ]
        go_wp2_with fail
        refine ⟨rfl, _, .pointer (some ⟨V.heap.size + 1, 1, none⟩), rfl, Or.inl ⟨by rfl, fun W hW => by go_simp⟩, plan_yield ?_⟩
        simp only [Act.put, List.setIfInBounds_toArray, List.set_cons_zero, List.set_cons_succ]
        simp only [List.cons_append, List.nil_append, List.append_nil, List.filterMap_cons, List.filterMap_nil, List.getElem?_toArray, List.getElem?_cons_zero, List.getElem?_cons_succ]
        go_wp2_with fail
        refine ⟨rfl, _, .int .i64 (z : Int), rfl, Or.inl ⟨by rfl, fun W hW => by obtain ⟨q1, q2, q3, q4⟩ := ac_cs hW.2.1; go_simp⟩, plan_yield ?_⟩
        simp only [Act.put, List.setIfInBounds_toArray, List.set_cons_zero, List.set_cons_succ]
        simp only [List.cons_append, List.nil_append, List.append_nil, List.filterMap_cons, List.filterMap_nil, List.getElem?_toArray, List.getElem?_cons_zero, List.getElem?_cons_succ]
        go_wp2_with fail
        refine ⟨rfl, _, .string (s.extract 0 z), rfl, Or.inl ⟨by rfl, fun W hW => by go_simp⟩, plan_yield ?_⟩
        simp only [Act.put, List.setIfInBounds_toArray, List.set_cons_zero, List.set_cons_succ]
        simp only [List.cons_append, List.nil_append, List.append_nil, List.filterMap_cons, List.filterMap_nil, List.getElem?_toArray, List.getElem?_cons_zero, List.getElem?_cons_succ]
        go_wp2_with fail
        refine ⟨rfl, _, .pointer (some ⟨V.heap.size + 1, 1, none⟩), rfl, Or.inl ⟨by rfl, fun W hW => by go_simp⟩, plan_yield ?_⟩
        simp only [Act.put, List.setIfInBounds_toArray, List.set_cons_zero, List.set_cons_succ]
        simp only [List.cons_append, List.nil_append, List.append_nil, List.filterMap_cons, List.filterMap_nil, List.getElem?_toArray, List.getElem?_cons_zero, List.getElem?_cons_succ]
        go_wp2_with fail
        refine ⟨rfl, _, .int .i64 (z : Int), rfl, Or.inl ⟨by rfl, fun W hW => by obtain ⟨q1, q2, q3, q4⟩ := ac_cs hW.2.1; go_simp⟩, plan_yield ?_⟩
        simp only [Act.put, List.setIfInBounds_toArray, List.set_cons_zero, List.set_cons_succ]
        simp only [List.cons_append, List.nil_append, List.append_nil, List.filterMap_cons, List.filterMap_nil, List.getElem?_toArray, List.getElem?_cons_zero, List.getElem?_cons_succ]
        go_wp2_with fail
        refine ⟨rfl, _, .int .i64 (wd : Int), rfl, Or.inl ⟨by rfl, fun W hW => by go_simp⟩, plan_yield ?_⟩
        simp only [Act.put, List.setIfInBounds_toArray, List.set_cons_zero, List.set_cons_succ]
        simp only [List.cons_append, List.nil_append, List.append_nil, List.filterMap_cons, List.filterMap_nil, List.getElem?_toArray, List.getElem?_cons_zero, List.getElem?_cons_succ]
        go_wp2_with fail
        refine ⟨rfl, _, .pointer (some ⟨V.heap.size, 0, none⟩), rfl, Or.inl ⟨by rfl, fun W hW => by go_simp⟩, plan_yield ?_⟩
        simp only [Act.put, List.setIfInBounds_toArray, List.set_cons_zero, List.set_cons_succ]
        simp only [List.cons_append, List.nil_append, List.append_nil, List.filterMap_cons, List.filterMap_nil, List.getElem?_toArray, List.getElem?_cons_zero, List.getElem?_cons_succ]
        go_wp2_with fail
        refine ⟨rfl, _, .string s, rfl, Or.inl ⟨by rfl, fun W hW => by obtain ⟨q0, q1, _, _⟩ := md_cs hW.1; go_simp⟩, plan_yield ?_⟩
        simp only [Act.put, List.setIfInBounds_toArray, List.set_cons_zero, List.set_cons_succ]
        simp only [List.cons_append, List.nil_append, List.append_nil, List.filterMap_cons, List.filterMap_nil, List.getElem?_toArray, List.getElem?_cons_zero, List.getElem?_cons_succ]
        go_wp2_with fail
        refine ⟨rfl, _, .string (s.extract S S), rfl, Or.inl ⟨by rfl, fun W hW => by go_simp⟩, plan_yield ?_⟩
        simp only [Act.put, List.setIfInBounds_toArray, List.set_cons_zero, List.set_cons_succ]
        simp only [List.cons_append, List.nil_append, List.append_nil, List.filterMap_cons, List.filterMap_nil, List.getElem?_toArray, List.getElem?_cons_zero, List.getElem?_cons_succ]
        go_wp2_with fail
        refine ⟨rfl, _, .pointer (some ⟨V.heap.size + 1, 4, none⟩), rfl, Or.inl ⟨by rfl, fun W hW => by go_simp⟩, plan_yield ?_⟩
        simp only [Act.put, List.setIfInBounds_toArray, List.set_cons_zero, List.set_cons_succ]
        simp only [List.cons_append, List.nil_append, List.append_nil, List.filterMap_cons, List.filterMap_nil, List.getElem?_toArray, List.getElem?_cons_zero, List.getElem?_cons_succ]
        go_wp2_with fail
        refine ⟨rfl, _, .int .u64 ((t' : Nat) : Int), rfl, Or.inl ⟨by rfl, fun W hW => by obtain ⟨q1, q2, q3, q4⟩ := ac_cs hW.2.1; go_simp⟩, plan_force ?_⟩
        simp only [Act.put, List.setIfInBounds_toArray, List.set_cons_zero, List.set_cons_succ]
        simp only [List.cons_append, List.nil_append, List.append_nil, List.filterMap_cons, List.filterMap_nil, List.getElem?_toArray, List.getElem?_cons_zero, List.getElem?_cons_succ]
        go_wp2_with fail
        refine (HZ.out _).mono ?_
        rintro e W1 ⟨rfl, hz1⟩
        have hS1 : Blk W1 V.heap.size 33 (mdC s st) ∧ Blk W1 (V.heap.size + 1) 35 (acC kd (z : Int) (m' : Int) t t') ∧ ∃ s0 t0, Blk W1 (V.heap.size + 1 + 1) 33 (mdC s0 t0) := by
          obtain ⟨u1, u2, s0, t0, u3⟩ := hS0
          exact ⟨u1.below hz1 u1.lt, u2.below hz1 u2.lt, s0, t0, u3.below hz1 u3.lt⟩
        have hE1 : Below V.heap.size V W1 := hE0.trans (hz1.mono hE0.size)
        clear hz1 hE0 hS0
        go_wp2_with fail
        refine ⟨rfl, hS1, plan_force ?_⟩
        simp only [List.cons_append, List.nil_append, List.append_nil, List.filterMap_cons, List.filterMap_nil, List.getElem?_toArray, List.getElem?_cons_zero, List.getElem?_cons_succ]
        go_wp2_with fail
        refine ⟨rfl, hS1, plan_force ?_⟩
        simp only [List.cons_append, List.nil_append, List.append_nil, List.filterMap_cons, List.filterMap_nil, List.getElem?_toArray, List.getElem?_cons_zero, List.getElem?_cons_succ]
        go_wp2_with fail
        refine ⟨rfl, hS1, plan_force ?_⟩
        simp only [List.cons_append, List.nil_append, List.append_nil, List.filterMap_cons, List.filterMap_nil, List.getElem?_toArray, List.getElem?_cons_zero, List.getElem?_cons_succ]
        (refine fl_build_at (by rfl) 33 _ (by rfl) [(0, .string (X)), (1, .int .u64 ((t' : Nat) : Int))] (by simp [Act.eval]) (mdC (X) t') hbm ?_; simp only [Act.put, List.setIfInBounds_toArray, List.set_cons_zero, List.set_cons_succ])
        go_wp2_with fail
        refine ⟨rfl, hS1, plan_force ?_⟩
        simp only [List.cons_append, List.nil_append, List.append_nil, List.filterMap_cons, List.filterMap_nil, List.getElem?_toArray, List.getElem?_cons_zero, List.getElem?_cons_succ]
        obtain ⟨u1, u2, s0, t0, u3⟩ := hS1
        (refine wpList_store_row (by rfl) 33 _ _ (by rfl) (V.heap.size + 1 + 1) (mdC (X) t') (by rfl) (by rfl) 33 (mdC s0 t0) (by exact u3) (sizeMd.trans (by rfl)) (by rfl) (md_all _ _) ?_; simp only [Act.put, List.setIfInBounds_toArray, List.set_cons_zero, List.set_cons_succ])
        have HP : Hid (Blk (W1.setRow (V.heap.size + 1 + 1) (mdC (X) t')) (V.heap.size + 1 + 1) 33 (mdC (X) t') ∧ Below V.heap.size V (W1.setRow (V.heap.size + 1 + 1) (mdC (X) t'))) := ⟨u3.set _, below_setRow hE1 (by omega) _⟩
        have hS2 : Blk (W1.setRow (V.heap.size + 1 + 1) (mdC (X) t')) V.heap.size 33 (mdC s st) ∧ Blk (W1.setRow (V.heap.size + 1 + 1) (mdC (X) t')) (V.heap.size + 1) 35 (acC kd (z : Int) (m' : Int) t t') ∧ ∃ s0 t0, Blk (W1.setRow (V.heap.size + 1 + 1) (mdC (X) t')) (V.heap.size + 1 + 1) 33 (mdC s0 t0) := ⟨u1.other (g := V.heap.size + 1 + 1) (mdC (X) t') (by omega), u2.other _ (by omega), _, _, u3.set _⟩
        clear u1 u2 u3 hE1
        go_wp2_with fail
        refine ⟨rfl, hS2, plan_fin ?_⟩
        simp only [List.cons_append, List.nil_append, List.append_nil, List.filterMap_cons, List.filterMap_nil, List.getElem?_toArray, List.getElem?_cons_zero, List.getElem?_cons_succ]
        go_wp2_with fail
        refine ⟨rfl, ?_⟩
        go_wp2_with fail
        try simp only [Exit.inBlock, Exit.then]
        refine bodyPost_ret (res_ttc Tryz.results11 _ _ (V.heap.size + 1 + 1) 33 _ (0, 0) _ rfl (by exact HP.out.1) Tryz.underlying33 rfl (sizeMd.trans (by rfl))) rfl ?_
        rw [HD.out]
        exact ⟨by first | rfl | (rw [hS]; rfl), HP.out.2⟩
end Go.Proofs.YtojbgggkfahkfaaGreat
