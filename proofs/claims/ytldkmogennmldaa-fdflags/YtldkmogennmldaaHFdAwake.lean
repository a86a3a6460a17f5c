/- Descriptors: the statements' awake; FdFlags' law. -/
import Derived.Test.YtldkmogennmldaaHFdAll
import Derived.Handy

namespace Go.Proofs.Ytldkmogennmldaa
open Go Go.RowKit
set_option linter.unusedSimpArgs false
set_option linter.unusedVariables false
theorem lwd_new : LwD (fun _ => ds0) 0 := ⟨by decide, fun j hj => absurd hj (Nat.not_lt_zero _), fun _ => rfl⟩
theorem may_lits : mayI 3 ∧ ¬ mayI 0 ∧ mayI 1 := by decide
set_option maxRecDepth 100000 in
set_option maxHeartbeats 8000000 in
theorem awake23_any (w : World) : Calls Try.prog 8 #[] w fun e w' => e = .returned (.bool true) ∧ Below w.heap.size w w' := by
  have HN := fnew_any w
  have hz := ds_zero
  have HC3 : Hid (∀ V : World, Calls Try.prog 9 #[.int .i64 3] V fun e w' => e = .returned (.int .i64 0) ∧ w' = V) := fun V => by
    have := fcheck_any 3 V
    rwa [if_pos may_lits.1] at this
  have HC0 : Hid (∀ V : World, Calls Try.prog 9 #[.int .i64 0] V fun e w' => e = .returned (.int .i64 232) ∧ w' = V) := fun V => by
    have := fcheck_any 0 V
    rwa [if_neg may_lits.2.1] at this
  go_enter Try.func8, Try.ntmps8
  go_wp2_with fail
  refine HN.mono ?_
  rintro e w1 ⟨b, rfl, hb0, hF, hb1⟩
  have HO := fopen_ok lwd_new 5 1 may_lits.2.2 (by decide) w1 hF
  have HB : Hid (w.heap.size ≤ b ∧ Below w.heap.size w w1) := ⟨hb0, hb1⟩
  rw [show lyN 0 = 0 from rfl, show lyE 0 = 0 from rfl] at HO
  clear hb0 hb1 hF HN
  go_wp2_with fail
  refine HO.mono ?_
  rintro e w2 ⟨rfl, hF2, ht2⟩
  have HF2 : Hid (FdB w2 b (lyD (fun _ => ds0) 0 ⟨5, 1, 0⟩) ∧ Below w.heap.size w w2) := ⟨hF2, HB.out.2.trans (ht2.below HB.out.2.size HB.out.1)⟩
  have HG : Calls Try.prog 20 #[.pointer (some ⟨b, 0, none⟩), .int .i64 0] w2 fun e w' => e = .returned (.tuple #[.agg (dsC ⟨5, 1, 0⟩), .int .i64 0]) ∧ Below w2.heap.size w2 w' := by
    have := fget_any 0 w2 hF2
    have ho : opn (lyD (fun _ => ds0) 0 ⟨5, 1, 0⟩) 0 := ⟨by decide, by decide, by decide⟩
    rw [(gt_yes ho).1, (gt_yes ho).2] at this
    exact this
  clear hF2 ht2 HO HB
  go_wp2_with fail
  refine HG.mono ?_
  rintro e w3 ⟨rfl, hb3⟩
  have u1 : Blk (w3.alloc (.cells (dsC ds0) 42)) w3.heap.size 42 (dsC ds0) := Blk.new _ _ _
  have u2 := u1.set (dsC ⟨5, 1, 0⟩)
  have hn3 : Below w3.heap.size w3 ((w3.alloc (.cells (dsC ds0) 42)).setRow w3.heap.size (dsC ⟨5, 1, 0⟩)) := below_setRow (below_new1 _ _) (Nat.le_refl _) _
  have c0 : ((w3.alloc (.cells (dsC ds0) 42)).setRow w3.heap.size (dsC ⟨5, 1, 0⟩)).cell? ⟨w3.heap.size, 0, none⟩ = some (.int .i64 5) := (u2.cell 0).trans rfl
  have HF4 : Hid (FdB ((w3.alloc (.cells (dsC ds0) 42)).setRow w3.heap.size (dsC ⟨5, 1, 0⟩)) b (lyD (fun _ => ds0) 0 ⟨5, 1, 0⟩) ∧ Below w.heap.size w ((w3.alloc (.cells (dsC ds0) 42)).setRow w3.heap.size (dsC ⟨5, 1, 0⟩))) := by
    have h1 := hb3.trans (hn3.mono hb3.size)
    exact ⟨HF2.out.1.below h1, HF2.out.2.trans (h1.mono HF2.out.2.size)⟩
  have hsx : (dsC ⟨5, 1, 0⟩).size = 3 := rfl
  have HLN := flen_any _ HF4.out.1
  have hln : (soL (opP (lyD (fun _ => ds0) 0 ⟨5, 1, 0⟩)) 64).length = 1 := by decide
  rw [hln] at HLN
  clear hb3 hn3 HG HF2 u2 hln
  generalize hD : dsC (⟨5, 1, 0⟩ : Dsc) = D5 at *
  go_wp2_with (first
    | (refine wpList_store_row (by rfl) 42 _ _ (by rfl) (w3.heap.size) D5 (by rfl) (by rfl) 42 (dsC ds0) (by exact u1) (ds_size.trans (by rw [hsx])) (by rw [hsx]; rfl) (by rw [← hD]; exact ds_all _) ?_; simp only [Act.put, List.setIfInBounds_toArray, List.set_cons_zero, List.set_cons_succ])
    | (go_at_call_of 9 (Value.int .i64 3); refine (HC3.out _).mono ?_; rintro e wc1 ⟨rfl, rfl⟩)
    | (go_at_call_of 9 (Value.int .i64 0); refine (HC0.out _).mono ?_; rintro e wc2 ⟨rfl, rfl⟩)
    | (go_at_call 18; refine HLN.mono ?_; rintro e wc3 ⟨rfl, hb9⟩)
    | fail)
  go_ret
  exact ⟨by first | rfl | simp, HF4.out.2.trans (hb9.mono HF4.out.2.size)⟩
theorem tm2 {f : Int} (h : 1 ≤ f) : f.tmod 2 = f % 2 ∧ f.tdiv 2 = f / 2 ∧ (f / 2).tmod 2 = f / 2 % 2 := ⟨Int.tmod_eq_emod_of_nonneg (by omega), Int.tdiv_eq_ediv_of_nonneg (by omega), Int.tmod_eq_emod_of_nonneg (by omega)⟩
set_option maxRecDepth 100000 in
set_option maxHeartbeats 8000000 in
theorem fdFlagsLaw (f : Int) (hb : -9223372036854775808 ≤ f ∧ f ≤ 9223372036854775807) (w : World) : Calls Try.prog 3 #[.int .i64 f] w fun e w' => e = .returned (.bool true) ∧ Below w.heap.size w w' := by
  have HM := rmay_any f hb w
  have HA : Hid (∀ V : World, Calls Try.prog 8 #[] V fun e w' => e = .returned (.bool true) ∧ Below V.heap.size V w') := awake23_any
  have HC0 : ∀ V : World, Calls Try.prog 9 #[.int .i64 f] V fun e w' => e = .returned (.int .i64 (if mayI f then 0 else 232)) ∧ w' = V := fcheck_any f
  have HR0 : ∀ V : World, Calls Try.prog 10 #[.int .i64 f] V fun e w' => e = .returned (.bool (decide (mayI f ∧ f % 2 = 1))) ∧ w' = V := freads_any f
  have HW0 : ∀ V : World, Calls Try.prog 11 #[.int .i64 f] V fun e w' => e = .returned (.bool (decide (mayI f ∧ f / 2 % 2 = 1))) ∧ w' = V := fwrites_any f
  by_cases hm : mayI f
  · rw [decide_eq_true hm] at HM
    obtain ⟨m1, m2, m3⟩ := tm2 hm.1
    have HC : Hid (∀ V : World, Calls Try.prog 9 #[.int .i64 f] V fun e w' => e = .returned (.int .i64 0) ∧ w' = V) := fun V => by have := HC0 V; rwa [if_pos hm] at this
    have HR : Hid (∀ V : World, Calls Try.prog 10 #[.int .i64 f] V fun e w' => e = .returned (.bool (f % 2 == 1)) ∧ w' = V) := fun V => by
      have := HR0 V
      rwa [show decide (mayI f ∧ f % 2 = 1) = (f % 2 == 1) by by_cases q : f % 2 = 1 <;> simp [hm, q]] at this
    have HW : Hid (∀ V : World, Calls Try.prog 11 #[.int .i64 f] V fun e w' => e = .returned (.bool (f / 2 % 2 == 1)) ∧ w' = V) := fun V => by
      have := HW0 V
      rwa [show decide (mayI f ∧ f / 2 % 2 = 1) = (f / 2 % 2 == 1) by by_cases q : f / 2 % 2 = 1 <;> simp [hm, q]] at this
    have f1 : 1 ≤ f := hm.1
    have f2 : f ≤ 63 := hm.2.1
    have g1 : 0 ≤ f / 2 ∧ f / 2 ≤ 31 := by omega
    clear HC0 HR0 HW0 hm hb
    generalize hr : f % 2 = r at *
    generalize hh : f / 2 = hf at *
    generalize hs : hf % 2 = s at *
    have bb1 : ((r == 1) == (r == 1)) = true := by simp
    have bb2 : ((s == 1) == (s == 1)) = true := by simp
    clear hr hh hs
    go_enter Try.func3, Try.ntmps3
    go_wp2_with fail
    refine HM.mono ?_
    rintro e w1 ⟨rfl, rfl⟩
    go_wp2_with fail
    refine (HA.out _).mono ?_
    rintro e w2 ⟨rfl, hb2⟩
    have HB : Hid (Below w1.heap.size w1 w2) := hb2
    clear hb2
    go_wp2_with fail
    refine (HC.out _).mono ?_
    rintro e w3 ⟨rfl, rfl⟩
    go_wp2_with fail
    refine (HR.out _).mono ?_
    rintro e w3 ⟨rfl, rfl⟩
    go_wp2_with fail
    refine (HW.out _).mono ?_
    rintro e w3 ⟨rfl, rfl⟩
    go_wp2_with fail
    go_ret
    exact ⟨by first | rfl | simp, HB.out⟩
  · rw [decide_eq_false hm] at HM
    have HC : Hid (∀ V : World, Calls Try.prog 9 #[.int .i64 f] V fun e w' => e = .returned (.int .i64 232) ∧ w' = V) := fun V => by have := HC0 V; rwa [if_neg hm] at this
    have HR : Hid (∀ V : World, Calls Try.prog 10 #[.int .i64 f] V fun e w' => e = .returned (.bool false) ∧ w' = V) := fun V => by
      have := HR0 V
      rwa [show decide (mayI f ∧ f % 2 = 1) = false by simp [hm]] at this
    have HW : Hid (∀ V : World, Calls Try.prog 11 #[.int .i64 f] V fun e w' => e = .returned (.bool false) ∧ w' = V) := fun V => by
      have := HW0 V
      rwa [show decide (mayI f ∧ f / 2 % 2 = 1) = false by simp [hm]] at this
    clear HC0 HR0 HW0 hm hb
    go_enter Try.func3, Try.ntmps3
    go_wp2_with fail
    refine HM.mono ?_
    rintro e w1 ⟨rfl, rfl⟩
    go_wp2_with fail
    refine (HA.out _).mono ?_
    rintro e w2 ⟨rfl, hb2⟩
    have HB : Hid (Below w1.heap.size w1 w2) := hb2
    clear hb2
    go_wp2_with fail
    refine (HC.out _).mono ?_
    rintro e w3 ⟨rfl, rfl⟩
    go_wp2_with fail
    refine (HR.out _).mono ?_
    rintro e w3 ⟨rfl, rfl⟩
    go_wp2_with fail
    refine (HW.out _).mono ?_
    rintro e w3 ⟨rfl, rfl⟩
    go_wp2_with fail
    go_ret
    exact ⟨rfl, HB.out⟩
end Go.Proofs.Ytldkmogennmldaa
