/- Trees: Blocks: a way that is followed, its blocks kept. -/
import Derived.Test.YtiofonffmplfmaaGreatHTrFollow
import Derived.Test.YtiofonffmplfmaaGreatHNdAwake
import Derived.Handy
import Derived.Test.YtiofonffmplfmaaGreatHDkFns
import Derived.Test.YtiofonffmplfmaaGreatHNdTake
import Derived.Test.YtiofonffmplfmaaGreatHEqState
import Derived.BigQuiet
import Derived.Deep.QuietTactic
import Derived.Test.YtiofonffmplfmaaGreatHTrRead

namespace Go.Proofs.YtiofonffmplfmaaGreat
open Go Go.RowKit
set_option linter.unusedSimpArgs false
set_option linter.unusedVariables false

/-- may a tree be? -/
def trOk (h : Int) (R : Rf) : Prop := rOk R = true ∧ 0 ≤ h ∧ h ≤ 6
instance (h : Int) (R : Rf) : Decidable (trOk h R) := by unfold trOk; infer_instance
set_option maxRecDepth 100000 in
set_option maxHeartbeats 4000000 in
theorem right_ref (h : Int) (R : Rf) (hR : R.1 < 4294967296) (hD : okD R.2) (hok : rOk R = true) (y : Bool) (hy : ∀ w, Calls Tryz.prog 46 #[.int .i64 h] w fun e w1 => e = .returned (.bool y) ∧ w = w1) (w : World) : Calls Tryz.prog 27 #[.agg (trC h R)] w fun x w' => x = .returned (.bool y) ∧ Below w.heap.size w w' := by
  have hz := zero_ref
  have hEn : Hid (∀ w, Calls Tryz.prog 49 #[.agg (rfC R)] w fun e w' => e = .returned (.string (strN (encR R) 36)) ∧ Below w.heap.size w w') := encR_any R hD
  have hDe : Hid (∀ w, Calls Tryz.prog 48 #[.string (strN (encR R) 36), .int .i64 0] w fun e w' => e = .returned (.tuple #[.agg (rfC R), .bool true]) ∧ Below w.heap.size w w') := fun w => by
    have h1 := decodeR_good (strN (encR R) 36) 0 (by rw [strN_size]; unfold maxLen; decide) (by rw [strN_size]; decide) w
    rw [decR_of (strN (encR R) 36) 0 R hR (fun j hj => by rw [Nat.zero_add]; exact strN_at (encR R) 36 j hj (encR_lt R hD j hj))] at h1
    simp only [hok, if_true, Bool.false_eq_true, if_false] at h1
    exact h1
  have hsz : (strN (encR R) 36).size = 36 := strN_size _ _
  have hb1 : Below w.heap.size w (w.alloc (.cells (trC h R) 45)) := below_new1 _ _
  have t1 : Blk (w.alloc (.cells (trC h R) 45)) w.heap.size 45 (trC h R) := Blk.new _ _ _
  have HR1 : Hid ((w.alloc (.cells (trC h R) 45)).rangeAt w.heap.size 1 ((List.range 33).map (rfF R.1 R.2))) := tr_range t1
  clear hok hD hR
  generalize strN (encR R) 36 = sv at *
  go_enter Tryz.func27, Tryz.ntmps27
  go_wp2_with (first
    | (refine wpList_load_blk (by rfl) 43 _ (by rfl) (w.heap.size) (1) 33 (rfF R.1 R.2) (by rfl) _ (by exact HR1.out) Tryz.underlying43 rfl tsizeRef ?_; simp only [Act.put, List.setIfInBounds_toArray, List.set_cons_zero, List.set_cons_succ])
    | fail)
  generalize (w.alloc (.cells (trC h R) 45)) = w1 at *
  refine (hEn.out w1).mono ?_
  rintro x w2 ⟨rfl, hb2⟩
  have t2 := t1.below hb2 t1.lt
  have hb12 : Below w.heap.size w w2 := hb1.trans (hb2.mono hb1.size)
  clear HR1 hb2 t1 hb1
  go_wp2_with fail
  refine (hDe.out w2).mono ?_
  rintro x w3 ⟨rfl, hb3⟩
  have t3 := t2.below hb3 t2.lt
  have hb13 : Below w.heap.size w w3 := hb12.trans (hb3.mono hb12.size)
  have q0 := Blk.new w3 43 (rfC rf0)
  have hb4 : Below w3.heap.size w3 ((w3.alloc (.cells (rfC rf0) 43)).setRow w3.heap.size (rfC R)) := below_setRow (below_new1 _ _) (Nat.le_refl _) _
  have t4 := t3.below hb4 t3.lt
  have z4 : ((w3.alloc (.cells (rfC rf0) 43)).setRow w3.heap.size (rfC R)).cell? ⟨w.heap.size, 0, none⟩ = some (.int .i64 h) := (t4.cell 0).trans (va_at (trF h R) (by decide))
  have hb14 : Below w.heap.size w ((w3.alloc (.cells (rfC rf0) 43)).setRow w3.heap.size (rfC R)) := hb13.trans (hb4.mono hb13.size)
  clear hb4 hb13 hb12 hb3 t2 t3 t4
  go_wp2_with (first
    | (refine wpList_store_row (by rfl) 43 _ _ (by rfl) (w3.heap.size) (rfC R) (by rfl) (by rfl) 43 (_) (by exact q0) (tsizeRef.trans (by rw [rfC_size])) (by simp only [rfC_size]) (rfC_all _) ?_; simp only [Act.put, List.setIfInBounds_toArray, List.set_cons_zero, List.set_cons_succ])
    | fail)
  clear q0
  generalize ((w3.alloc (.cells (rfC rf0) 43)).setRow w3.heap.size (rfC R)) = w4 at *
  refine (hy w4).mono ?_
  rintro x _ ⟨rfl, rfl⟩
  go_wp2_with fail
  go_ret
  exact ⟨rfl, hb14⟩
set_option maxRecDepth 100000 in
set_option maxHeartbeats 4000000 in
theorem right_noref (h : Int) (R : Rf) (hR : R.1 < 4294967296) (hD : okD R.2) (hok : rOk R = false) (w : World) : Calls Tryz.prog 27 #[.agg (trC h R)] w fun x w' => x = .returned (.bool false) ∧ Below w.heap.size w w' := by
  have hz := zero_ref
  have hEn : Hid (∀ w, Calls Tryz.prog 49 #[.agg (rfC R)] w fun e w' => e = .returned (.string (strN (encR R) 36)) ∧ Below w.heap.size w w') := encR_any R hD
  have hDe : Hid (∀ w, Calls Tryz.prog 48 #[.string (strN (encR R) 36), .int .i64 0] w fun e w' => e = .returned (.tuple #[.agg (rfC rf0), .bool false]) ∧ Below w.heap.size w w') := fun w => by
    have h1 := decodeR_good (strN (encR R) 36) 0 (by rw [strN_size]; unfold maxLen; decide) (by rw [strN_size]; decide) w
    rw [decR_of (strN (encR R) 36) 0 R hR (fun j hj => by rw [Nat.zero_add]; exact strN_at (encR R) 36 j hj (encR_lt R hD j hj))] at h1
    simp only [hok, if_true, Bool.false_eq_true, if_false] at h1
    exact h1
  have hsz : (strN (encR R) 36).size = 36 := strN_size _ _
  have hb1 : Below w.heap.size w (w.alloc (.cells (trC h R) 45)) := below_new1 _ _
  have t1 : Blk (w.alloc (.cells (trC h R) 45)) w.heap.size 45 (trC h R) := Blk.new _ _ _
  have HR1 : Hid ((w.alloc (.cells (trC h R) 45)).rangeAt w.heap.size 1 ((List.range 33).map (rfF R.1 R.2))) := tr_range t1
  clear hok hD hR
  generalize strN (encR R) 36 = sv at *
  go_enter Tryz.func27, Tryz.ntmps27
  go_wp2_with (first
    | (refine wpList_load_blk (by rfl) 43 _ (by rfl) (w.heap.size) (1) 33 (rfF R.1 R.2) (by rfl) _ (by exact HR1.out) Tryz.underlying43 rfl tsizeRef ?_; simp only [Act.put, List.setIfInBounds_toArray, List.set_cons_zero, List.set_cons_succ])
    | fail)
  generalize (w.alloc (.cells (trC h R) 45)) = w1 at *
  refine (hEn.out w1).mono ?_
  rintro x w2 ⟨rfl, hb2⟩
  have t2 := t1.below hb2 t1.lt
  have hb12 : Below w.heap.size w w2 := hb1.trans (hb2.mono hb1.size)
  clear HR1 hb2 t1 hb1
  go_wp2_with fail
  refine (hDe.out w2).mono ?_
  rintro x w3 ⟨rfl, hb3⟩
  have t3 := t2.below hb3 t2.lt
  have hb13 : Below w.heap.size w w3 := hb12.trans (hb3.mono hb12.size)
  have q0 := Blk.new w3 43 (rfC rf0)
  have hb4 : Below w3.heap.size w3 ((w3.alloc (.cells (rfC rf0) 43)).setRow w3.heap.size (rfC rf0)) := below_setRow (below_new1 _ _) (Nat.le_refl _) _
  have t4 := t3.below hb4 t3.lt
  have z4 : ((w3.alloc (.cells (rfC rf0) 43)).setRow w3.heap.size (rfC rf0)).cell? ⟨w.heap.size, 0, none⟩ = some (.int .i64 h) := (t4.cell 0).trans (va_at (trF h R) (by decide))
  have hb14 : Below w.heap.size w ((w3.alloc (.cells (rfC rf0) 43)).setRow w3.heap.size (rfC rf0)) := hb13.trans (hb4.mono hb13.size)
  clear hb4 hb13 hb12 hb3 t2 t3 t4
  go_wp2_with (first
    | (refine wpList_store_row (by rfl) 43 _ _ (by rfl) (w3.heap.size) (rfC rf0) (by rfl) (by rfl) 43 (_) (by exact q0) (tsizeRef.trans (by rw [rfC_size])) (by simp only [rfC_size]) (rfC_all _) ?_; simp only [Act.put, List.setIfInBounds_toArray, List.set_cons_zero, List.set_cons_succ])
    | fail)
  go_ret
  exact ⟨rfl, hb14⟩
theorem tright_any (h : Int) (R : Rf) (hR : R.1 < 4294967296) (hD : okD R.2) (w : World) : Calls Tryz.prog 27 #[.agg (trC h R)] w fun x w' => x = .returned (.bool (decide (trOk h R))) ∧ Below w.heap.size w w' := by
  cases hok : rOk R with
  | false =>
    rw [decide_eq_false (fun u : trOk h R => by rw [u.1] at hok; cases hok)]
    exact right_noref h R hR hD hok w
  | true =>
    by_cases hh : 0 ≤ h ∧ h ≤ 6
    · rw [decide_eq_true (show trOk h R from ⟨hok, hh⟩)]
      obtain ⟨n, rfl⟩ : ∃ n : Nat, h = (n : Int) := ⟨h.toNat, by omega⟩
      exact right_ref _ R hR hD hok true (fun w => mayBe_yes n (by omega) w) w
    · rw [decide_eq_false (fun u : trOk h R => hh u.2)]
      exact right_ref h R hR hD hok false (fun w => mayBe_no h (by omega) w) w
set_option maxRecDepth 100000 in
set_option maxHeartbeats 4000000 in
theorem wayTo_arg (h : Int) (R : Rf) (hR : R.1 < 4294967296) (hD : okD R.2) (hok : ¬ trOk h R) (l p : Int) (w : World) : Calls Tryz.prog 58 #[.agg (trC h R), .int .i64 l, .int .i64 p] w fun x w' => x = .returned (.tuple #[.slice none 0 0, .int .i64 1]) ∧ Below w.heap.size w w' := by
  have hRi : Hid (∀ w, Calls Tryz.prog 27 #[.agg (trC h R)] w fun x w' => x = .returned (.bool false) ∧ Below w.heap.size w w') := fun w => by
    have := tright_any h R hR hD w
    rw [decide_eq_false hok] at this
    exact this
  have hb1 : Below w.heap.size w (w.alloc (.cells (trC h R) 45)) := below_new1 _ _
  have t1 : Blk (w.alloc (.cells (trC h R) 45)) w.heap.size 45 (trC h R) := Blk.new _ _ _
  go_enter Tryz.func58, Tryz.ntmps58
  go_wp2_with (first
    | (refine wpList_load_rowg (by rfl) 45 _ (by rfl) (w.heap.size) (by rfl) 45 (trC h R) (0, 0) _ (by exact t1) Tryz.underlying45 (by rfl) (sizeTr.trans (by rw [trC_size])) ?_; simp only [Act.put, List.setIfInBounds_toArray, List.set_cons_zero, List.set_cons_succ])
    | fail)
  generalize (w.alloc (.cells (trC h R) 45)) = w1 at *
  refine (hRi.out w1).mono ?_
  rintro x w2 ⟨rfl, hb2⟩
  have t2 := t1.below hb2 t1.lt
  have z2 : w2.cell? ⟨w.heap.size, 0, none⟩ = some (.int .i64 h) := (t2.cell 0).trans (va_at (trF h R) (by decide))
  have hb12 : Below w.heap.size w w2 := hb1.trans (hb2.mono hb1.size)
  clear t1 t2 hb2 hb1
  go_wp2_with fail
  go_ret2
  exact ⟨rfl, hb12⟩
set_option maxRecDepth 100000 in
set_option maxHeartbeats 4000000 in
theorem wayTo_lo (h : Int) (R : Rf) (hR : R.1 < 4294967296) (hD : okD R.2) (hok : trOk h R) (l p : Int) (hl : l < 0) (w : World) : Calls Tryz.prog 58 #[.agg (trC h R), .int .i64 l, .int .i64 p] w fun x w' => x = .returned (.tuple #[.slice none 0 0, .int .i64 90]) ∧ Below w.heap.size w w' := by
  have hRi : Hid (∀ w, Calls Tryz.prog 27 #[.agg (trC h R)] w fun x w' => x = .returned (.bool true) ∧ Below w.heap.size w w') := fun w => by
    have := tright_any h R hR hD w
    rw [decide_eq_true hok] at this
    exact this
  have hb1 : Below w.heap.size w (w.alloc (.cells (trC h R) 45)) := below_new1 _ _
  have t1 : Blk (w.alloc (.cells (trC h R) 45)) w.heap.size 45 (trC h R) := Blk.new _ _ _
  have d1 : decide (l < 0) = true := decide_eq_true hl
  go_enter Tryz.func58, Tryz.ntmps58
  go_wp2_with (first
    | (refine wpList_load_rowg (by rfl) 45 _ (by rfl) (w.heap.size) (by rfl) 45 (trC h R) (0, 0) _ (by exact t1) Tryz.underlying45 (by rfl) (sizeTr.trans (by rw [trC_size])) ?_; simp only [Act.put, List.setIfInBounds_toArray, List.set_cons_zero, List.set_cons_succ])
    | fail)
  generalize (w.alloc (.cells (trC h R) 45)) = w1 at *
  refine (hRi.out w1).mono ?_
  rintro x w2 ⟨rfl, hb2⟩
  have t2 := t1.below hb2 t1.lt
  have z2 : w2.cell? ⟨w.heap.size, 0, none⟩ = some (.int .i64 h) := (t2.cell 0).trans (va_at (trF h R) (by decide))
  have hb12 : Below w.heap.size w w2 := hb1.trans (hb2.mono hb1.size)
  clear t1 t2 hb2 hb1
  go_wp2_with fail
  go_ret2
  exact ⟨rfl, hb12⟩
set_option maxRecDepth 100000 in
set_option maxHeartbeats 4000000 in
theorem wayTo_hi (h : Int) (R : Rf) (hR : R.1 < 4294967296) (hD : okD R.2) (hok : trOk h R) (l p : Int) (hl : h < l) (w : World) : Calls Tryz.prog 58 #[.agg (trC h R), .int .i64 l, .int .i64 p] w fun x w' => x = .returned (.tuple #[.slice none 0 0, .int .i64 90]) ∧ Below w.heap.size w w' := by
  have hRi : Hid (∀ w, Calls Tryz.prog 27 #[.agg (trC h R)] w fun x w' => x = .returned (.bool true) ∧ Below w.heap.size w w') := fun w => by
    have := tright_any h R hR hD w
    rw [decide_eq_true hok] at this
    exact this
  have hb1 : Below w.heap.size w (w.alloc (.cells (trC h R) 45)) := below_new1 _ _
  have t1 : Blk (w.alloc (.cells (trC h R) 45)) w.heap.size 45 (trC h R) := Blk.new _ _ _
  have hl0 : ¬ l < 0 := by have := hok.2.1; omega
  have d1 : decide (l < 0) = false := decide_eq_false hl0
  have d2 : decide (h < l) = true := decide_eq_true hl
  go_enter Tryz.func58, Tryz.ntmps58
  go_wp2_with (first
    | (refine wpList_load_rowg (by rfl) 45 _ (by rfl) (w.heap.size) (by rfl) 45 (trC h R) (0, 0) _ (by exact t1) Tryz.underlying45 (by rfl) (sizeTr.trans (by rw [trC_size])) ?_; simp only [Act.put, List.setIfInBounds_toArray, List.set_cons_zero, List.set_cons_succ])
    | fail)
  generalize (w.alloc (.cells (trC h R) 45)) = w1 at *
  refine (hRi.out w1).mono ?_
  rintro x w2 ⟨rfl, hb2⟩
  have t2 := t1.below hb2 t1.lt
  have z2 : w2.cell? ⟨w.heap.size, 0, none⟩ = some (.int .i64 h) := (t2.cell 0).trans (va_at (trF h R) (by decide))
  have hb12 : Below w.heap.size w w2 := hb1.trans (hb2.mono hb1.size)
  clear t1 t2 hb2 hb1
  go_wp2_with fail
  go_ret2
  exact ⟨rfl, hb12⟩
set_option maxRecDepth 100000 in
set_option maxHeartbeats 4000000 in
theorem wayTo_place (h : Int) (R : Rf) (hR : R.1 < 4294967296) (hD : okD R.2) (hok : trOk h R) (l p : Int) (hl : 0 ≤ l ∧ l ≤ h) (n : Nat) (hn : h - l = (n : Int)) (hp : p < 0 ∨ ((4 ^ n : Nat) : Int) ≤ p) (w : World) : Calls Tryz.prog 58 #[.agg (trC h R), .int .i64 l, .int .i64 p] w fun x w' => x = .returned (.tuple #[.slice none 0 0, .int .i64 90]) ∧ Below w.heap.size w w' := by
  have hRi : Hid (∀ w, Calls Tryz.prog 27 #[.agg (trC h R)] w fun x w' => x = .returned (.bool true) ∧ Below w.heap.size w w') := fun w => by
    have := tright_any h R hR hD w
    rw [decide_eq_true hok] at this
    exact this
  have hb1 : Below w.heap.size w (w.alloc (.cells (trC h R) 45)) := below_new1 _ _
  have t1 : Blk (w.alloc (.cells (trC h R) 45)) w.heap.size 45 (trC h R) := Blk.new _ _ _
  have hl0 : ¬ l < 0 := by omega
  have d1 : decide (l < 0) = false := decide_eq_false hl0
  have hl1 : ¬ h < l := by omega
  have d2 : decide (h < l) = false := decide_eq_false hl1
  have hw1 : IntKind.i64.wrap (h - l) = h - l := by
    have := hok.2
    rw [IntKind.wrap_i64]
    omega
  have hw2 : wrap64 (h - l) = h - l := by
    rw [← IntWalk.i64_left]
    exact hw1
  obtain ⟨b1, b2, b3⟩ := hok
  go_enter Tryz.func58, Tryz.ntmps58
  go_wp2_with (first
    | (refine wpList_load_rowg (by rfl) 45 _ (by rfl) (w.heap.size) (by rfl) 45 (trC h R) (0, 0) _ (by exact t1) Tryz.underlying45 (by rfl) (sizeTr.trans (by rw [trC_size])) ?_; simp only [Act.put, List.setIfInBounds_toArray, List.set_cons_zero, List.set_cons_succ])
    | fail)
  generalize (w.alloc (.cells (trC h R) 45)) = w1 at *
  refine (hRi.out w1).mono ?_
  rintro x w2 ⟨rfl, hb2⟩
  have t2 := t1.below hb2 t1.lt
  have z2 : w2.cell? ⟨w.heap.size, 0, none⟩ = some (.int .i64 h) := (t2.cell 0).trans (va_at (trF h R) (by decide))
  have hb12 : Below w.heap.size w w2 := hb1.trans (hb2.mono hb1.size)
  clear t1 t2 hb2 hb1
  go_wp2_with fail
  refine (way_place n p (by omega) hp w2).mono ?_
  rintro x _ ⟨rfl, rfl⟩
  go_wp2_with fail
  go_ret2
  exact ⟨rfl, hb12⟩
set_option maxRecDepth 100000 in
set_option maxHeartbeats 4000000 in
theorem wayTo_ok (h : Int) (R : Rf) (hR : R.1 < 4294967296) (hD : okD R.2) (hok : trOk h R) (l : Int) (q : Nat) (p : Int) (hpq : p = (q : Int)) (hl : 0 ≤ l ∧ l ≤ h) (n : Nat) (hn : h - l = (n : Int)) (hp : q < 4 ^ n) (w : World) : Calls Tryz.prog 58 #[.agg (trC h R), .int .i64 l, .int .i64 p] w fun x w' => ∃ b, x = .returned (.tuple #[.slice (some ⟨b, 0, none⟩) n n, .int .i64 0]) ∧ w.heap.size ≤ b ∧ Blk w' b 3 (va n (iv .i64 (wayN n q))) ∧ Below w.heap.size w w' := by
  have hRi : Hid (∀ w, Calls Tryz.prog 27 #[.agg (trC h R)] w fun x w' => x = .returned (.bool true) ∧ Below w.heap.size w w') := fun w => by
    have := tright_any h R hR hD w
    rw [decide_eq_true hok] at this
    exact this
  have hb1 : Below w.heap.size w (w.alloc (.cells (trC h R) 45)) := below_new1 _ _
  have t1 : Blk (w.alloc (.cells (trC h R) 45)) w.heap.size 45 (trC h R) := Blk.new _ _ _
  have hl0 : ¬ l < 0 := by omega
  have d1 : decide (l < 0) = false := decide_eq_false hl0
  have hl1 : ¬ h < l := by omega
  have d2 : decide (h < l) = false := decide_eq_false hl1
  have hw1 : IntKind.i64.wrap (h - l) = h - l := by
    have := hok.2
    rw [IntKind.wrap_i64]
    omega
  have hw2 : wrap64 (h - l) = h - l := by
    rw [← IntWalk.i64_left]
    exact hw1
  obtain ⟨b1, b2, b3⟩ := hok
  subst hpq
  go_enter Tryz.func58, Tryz.ntmps58
  go_wp2_with (first
    | (refine wpList_load_rowg (by rfl) 45 _ (by rfl) (w.heap.size) (by rfl) 45 (trC h R) (0, 0) _ (by exact t1) Tryz.underlying45 (by rfl) (sizeTr.trans (by rw [trC_size])) ?_; simp only [Act.put, List.setIfInBounds_toArray, List.set_cons_zero, List.set_cons_succ])
    | fail)
  generalize (w.alloc (.cells (trC h R) 45)) = w1 at *
  refine (hRi.out w1).mono ?_
  rintro x w2 ⟨rfl, hb2⟩
  have t2 := t1.below hb2 t1.lt
  have z2 : w2.cell? ⟨w.heap.size, 0, none⟩ = some (.int .i64 h) := (t2.cell 0).trans (va_at (trF h R) (by decide))
  have hb12 : Below w.heap.size w w2 := hb1.trans (hb2.mono hb1.size)
  clear t1 t2 hb2 hb1
  go_wp2_with fail
  refine (way_ok n q (by omega) hp w2).mono ?_
  rintro x w3 ⟨rfl, b3', hb3⟩
  go_wp2_with fail
  go_ret2
  exact ⟨_, rfl, hb12.size, b3', hb12.trans (hb3.mono hb12.size)⟩
theorem way_cells {w : World} {b n q : Nat} (hb : Blk w b 3 (va n (iv .i64 (wayN n q)))) : w.rangeAt b 0 (((List.range n).map (wayN n q)).map fun (p : Nat) => Value.int .i64 (p : Int)) := fun j v hv => by
  rw [List.map_map] at hv
  exact kblk_range hb j v hv
section
variable {B g N c m room i : Nat} {F : Nat → Nat} {U : Nat → Prop}
set_option maxRecDepth 100000 in
set_option maxHeartbeats 4000000 in
theorem ref_no (h : Int) (R : Rf) (l p er : Int) (her : er ≠ 0) (hWT : ∀ w, Calls Tryz.prog 58 #[.agg (trC h R), .int .i64 l, .int .i64 p] w fun x w' => x = .returned (.tuple #[.slice none 0 0, .int .i64 er]) ∧ Below w.heap.size w w') (cp : Option Addr) (w : World) : Calls Tryz.prog 37 #[.pointer cp, .agg (trC h R), .int .i64 l, .int .i64 p] w fun x w' => x = .returned (.tuple #[.agg (rfC rf0), .int .i64 er]) ∧ Below w.heap.size w w' := by
  have hz := zero_ref
  have hb1 : Below w.heap.size w ((w.alloc (.cells (trC h R) 45)).alloc (.cells (rfC rf0) 43)) := below_new2 _ _ _
  have t1 : Blk ((w.alloc (.cells (trC h R) 45)).alloc (.cells (rfC rf0) 43)) w.heap.size 45 (trC h R) := (Blk.new _ _ _).alloc _
  have r1 : Blk ((w.alloc (.cells (trC h R) 45)).alloc (.cells (rfC rf0) 43)) (w.heap.size + 1) 43 (rfC rf0) := Blk.new1 _ _ _ _
  have hne2 : (er != 0) = true := by simp [her]
  have hne3 : decide (er = 0) = false := decide_eq_false her
  have HW : Hid (∀ w, Calls Tryz.prog 58 #[.agg (trC h R), .int .i64 l, .int .i64 p] w fun x w' => x = .returned (.tuple #[.slice none 0 0, .int .i64 er]) ∧ Below w.heap.size w w') := hWT
  clear hWT
  go_enter Tryz.func37, Tryz.ntmps37
  go_wp2_with (first
    | (refine wpList_load_rowg (by rfl) 45 _ (by rfl) (w.heap.size) (by rfl) 45 (trC h R) (0, 0) _ (by exact t1) Tryz.underlying45 (by rfl) (sizeTr.trans (by rw [trC_size])) ?_; simp only [Act.put, List.setIfInBounds_toArray, List.set_cons_zero, List.set_cons_succ])
    | fail)
  generalize ((w.alloc (.cells (trC h R) 45)).alloc (.cells (rfC rf0) 43)) = w1 at *
  refine (HW.out w1).mono ?_
  rintro x w2 ⟨rfl, hb2⟩
  have r2 := r1.below hb2 r1.lt
  have hb12 : Below w.heap.size w w2 := hb1.trans (hb2.mono hb1.size)
  clear t1 r1 hb2 hb1
  go_wp2_with (first
    | (refine wpList_store_row (by rfl) 43 _ _ (by rfl) (w.heap.size + 1) (rfC rf0) (by rfl) (by rfl) 43 (_) (by exact r2) (tsizeRef.trans (by rw [rfC_size])) (by simp only [rfC_size]) (rfC_all _) ?_; simp only [Act.put, List.setIfInBounds_toArray, List.set_cons_zero, List.set_cons_succ])
    | fail)
  try simp only [Exit.inBlock, Exit.then]
  refine bodyPost_ret (results_row2 Tryz.results37 _ _ (w.heap.size + 1) 43 (rfC rf0) (0, 0) _ rfl (r2.set _) Tryz.underlying43 rfl (tsizeRef.trans (by rw [rfC_size]))) rfl ?_
  exact ⟨rfl, below_setRow hb12 (by omega) _⟩
set_option maxRecDepth 100000 in
set_option maxHeartbeats 4000000 in
theorem ref_ok (h : Int) (R : Rf) (hR : R.1 < 4294967296) (hD : okD R.2) (hF : ∀ a, F a < 256) (hok : trOk h R) (l : Int) (q : Nat) (hl : 0 ≤ l ∧ l ≤ h) (n : Nat) (hn : h - l = (n : Int)) (hp : q < 4 ^ n) (hi : i < 34359738368) (w : World) (H : TD w B g N F c m room i U) : Calls Tryz.prog 37 #[.pointer (some ⟨c, 0, none⟩), .agg (trC h R), .int .i64 l, .int .i64 (q : Int)] w fun x w' => x = .returned (.tuple #[.agg (rfC (folR F N h R ((List.range n).map (wayN n q))).1), .int .i64 (folR F N h R ((List.range n).map (wayN n q))).2]) ∧ TDStep w w' B g N F c m room (i + 6) U := by
  have hz := zero_ref
  have hb1 : Below w.heap.size w ((w.alloc (.cells (trC h R) 45)).alloc (.cells (rfC rf0) 43)) := below_new2 _ _ _
  have t1 : Blk ((w.alloc (.cells (trC h R) 45)).alloc (.cells (rfC rf0) 43)) w.heap.size 45 (trC h R) := (Blk.new _ _ _).alloc _
  have r1 : Blk ((w.alloc (.cells (trC h R) 45)).alloc (.cells (rfC rf0) 43)) (w.heap.size + 1) 43 (rfC rf0) := Blk.new1 _ _ _ _
  have HW : Hid (∀ w, Calls Tryz.prog 58 #[.agg (trC h R), .int .i64 l, .int .i64 (q : Int)] w fun x w' => ∃ b, x = .returned (.tuple #[.slice (some ⟨b, 0, none⟩) n n, .int .i64 0]) ∧ w.heap.size ≤ b ∧ Blk w' b 3 (va n (iv .i64 (wayN n q))) ∧ Below w.heap.size w w') := fun w => wayTo_ok h R hR hD hok l q (q : Int) rfl hl n hn hp w
  have HFo : Hid (∀ (wb : Nat) (w : World), TD w B g N F c m room i U → Blk w wb 3 (va n (iv .i64 (wayN n q))) → ¬ U wb → Calls Tryz.prog 59 #[.pointer (some ⟨c, 0, none⟩), .agg (trC h R), .slice (some ⟨wb, 0, none⟩) n n, .func (.func 60) #[] #[]] w fun x w' => x = .returned (.tuple #[.agg (rfC (folR F N h R ((List.range n).map (wayN n q))).1), .int .i64 (folR F N h R ((List.range n).map (wayN n q))).2]) ∧ TDStep w w' B g N F c m room (i + 6) U) := fun wb w h1 h2 h3 => by
    have := follow_td h hok.2 R hR hF ((List.range n).map (wayN n q)) (fun p hp => by
      obtain ⟨j, _, rfl⟩ := List.mem_map.1 hp
      exact wayN_lt _ _ _) (by rw [List.length_map, List.length_range]; have := hok.2; omega) hi wb n w h1 (way_cells h2) h2.lt h3
    rw [List.length_map, List.length_range] at this
    exact this
  have HUL : Hid (∀ x, U x → x < w.heap.size) := fun x hx => (H.lt x hx).2
  have HT1 : Hid (TD ((w.alloc (.cells (trC h R) 45)).alloc (.cells (rfC rf0) 43)) B g N F c m room i U) := H.below hb1
  have HM1 : Hid (Turns U w ((w.alloc (.cells (trC h R) 45)).alloc (.cells (rfC rf0) 43))) := .of_below hb1
  have HS1 : Hid (w.heap.size + 2 ≤ ((w.alloc (.cells (trC h R) 45)).alloc (.cells (rfC rf0) 43)).heap.size) := by
    show _ ≤ _
    simp
  clear H hR hD hF hok hl hn hp hi hb1
  generalize folR F N h R ((List.range n).map (wayN n q)) = an at *
  obtain ⟨a1, a2⟩ := an
  go_enter Tryz.func37, Tryz.ntmps37
  go_wp2_with (first
    | (refine wpList_load_rowg (by rfl) 45 _ (by rfl) (w.heap.size) (by rfl) 45 (trC h R) (0, 0) _ (by exact t1) Tryz.underlying45 (by rfl) (sizeTr.trans (by rw [trC_size])) ?_; simp only [Act.put, List.setIfInBounds_toArray, List.set_cons_zero, List.set_cons_succ])
    | fail)
  generalize ((w.alloc (.cells (trC h R) 45)).alloc (.cells (rfC rf0) 43)) = w1 at *
  refine (HW.out w1).mono ?_
  rintro x w2 ⟨b, rfl, hbb, kb, hb2⟩
  have r2 := r1.below hb2 r1.lt
  have t2 := t1.below hb2 t1.lt
  have HT2 : Hid (TD w2 B g N F c m room i U) := HT1.out.below hb2
  have HM2 : Hid (Turns U w w2) := HM1.out.trans (Turns.of_below (S := U) hb2) fun x hx => .inl hx
  have HKB : Hid (Blk w2 b 3 (va n (iv .i64 (wayN n q)))) := kb
  have HNB : Hid (¬ U b) := fun z => by
    have h1 := HUL.out _ z
    have h2 := HS1.out
    omega
  clear hb2 t1 r1 HT1 HM1 hbb kb
  go_wp2_with (first
    | (refine wpList_load_rowg (by rfl) 45 _ (by rfl) (w.heap.size) (by rfl) 45 (trC h R) (0, 0) _ (by exact t2) Tryz.underlying45 (by rfl) (sizeTr.trans (by rw [trC_size])) ?_; simp only [Act.put, List.setIfInBounds_toArray, List.set_cons_zero, List.set_cons_succ])
    | fail)
  refine (HFo.out b w2 HT2.out HKB.out HNB.out).mono ?_
  rintro x w3 ⟨rfl, V, ht3, hm3, hv3⟩
  have r3 : Blk w3 (w.heap.size + 1) 43 (rfC rf0) := hm3.blk r2 fun z => by have := HUL.out _ z; omega
  have HT3 : Hid (TD w3 B g N F c m room (i + 6) V) := ht3
  have HM3 : Hid (Turns U w w3) := HM2.out.trans hm3 fun x hx => .inl hx
  have HV3 : Hid (∀ x, V x → U x ∨ w2.heap.size ≤ x) := hv3
  have HS2 : Hid (w.heap.size + 1 < w2.heap.size) := r2.lt
  clear ht3 hm3 hv3 t2 r2 HT2 HM2
  go_wp2_with (first
    | (refine wpList_store_row (by rfl) 43 _ _ (by rfl) (w.heap.size + 1) (rfC a1) (by rfl) (by rfl) 43 (_) (by exact r3) (tsizeRef.trans (by rw [rfC_size])) (by simp only [rfC_size]) (rfC_all _) ?_; simp only [Act.put, List.setIfInBounds_toArray, List.set_cons_zero, List.set_cons_succ])
    | fail)
  try simp only [Exit.inBlock, Exit.then]
  refine bodyPost_ret (results_row2 Tryz.results37 _ _ (w.heap.size + 1) 43 (rfC a1) (0, 0) _ rfl (r3.set _) Tryz.underlying43 rfl (tsizeRef.trans (by rw [rfC_size]))) rfl ?_
  have hs2 := HS2.out
  refine ⟨rfl, V, HT3.out.kept (by simp) fun z hz => setRow_other _ _ z _ ?_, HM3.out.laid (by omega) _, fun z hz => ?_⟩
  · rcases HV3.out z hz with u | u
    · have := HUL.out _ u
      omega
    · omega
  · rcases HV3.out z hz with u | u
    · exact .inl u
    · exact .inr (by omega)
end
end Go.Proofs.YtiofonffmplfmaaGreat

namespace Go.Proofs.YtiofonffmplfmaaGreat
open Go Go.RowKit
set_option linter.unusedSimpArgs false
set_option linter.unusedVariables false

section
variable {B g N c m room i : Nat} {F : Nat → Nat} {U : Nat → Prop}
set_option maxRecDepth 100000 in
set_option maxHeartbeats 4000000 in
theorem leaf_no {i0 : Nat} (h : Int) (R : Rf) (p er : Int) (r : Rf) (her : er ≠ 0) (hRef : ∀ w, TD w B g N F c m room i U → Calls Tryz.prog 37 #[.pointer (some ⟨c, 0, none⟩), .agg (trC h R), .int .i64 0, .int .i64 p] w fun x w' => x = .returned (.tuple #[.agg (rfC r), .int .i64 er]) ∧ TDStep w w' B g N F c m room i0 U) (w : World) (H : TD w B g N F c m room i U) : Calls Tryz.prog 14 #[.pointer (some ⟨c, 0, none⟩), .agg (trC h R), .int .i64 p] w fun x w' => x = .returned (.tuple #[.agg (va 256 (iv .u8 (fun _ => 0))), .int .i64 er]) ∧ TDStep w w' B g N F c m room i0 U := by
  have hz := zero_bk
  have hzr := zero_ref
  have hb1 : Below w.heap.size w ((w.alloc (.cells (trC h R) 45)).alloc (.cells (va 256 (iv .u8 fun _ => 0)) 52)) := below_new2 _ _ _
  have t1 : Blk ((w.alloc (.cells (trC h R) 45)).alloc (.cells (va 256 (iv .u8 fun _ => 0)) 52)) w.heap.size 45 (trC h R) := (Blk.new _ _ _).alloc _
  have k1 : Blk ((w.alloc (.cells (trC h R) 45)).alloc (.cells (va 256 (iv .u8 fun _ => 0)) 52)) (w.heap.size + 1) 52 (va 256 (iv .u8 fun _ => 0)) := Blk.new1 _ _ _ _
  have HT1 : Hid (TD ((w.alloc (.cells (trC h R) 45)).alloc (.cells (va 256 (iv .u8 fun _ => 0)) 52)) B g N F c m room i U) := H.below hb1
  have HM1 : Hid (Turns U w ((w.alloc (.cells (trC h R) 45)).alloc (.cells (va 256 (iv .u8 fun _ => 0)) 52))) := .of_below hb1
  have HUL : Hid (∀ x, U x → x < w.heap.size) := fun x hx => (H.lt x hx).2
  have HRf : Hid (∀ w, TD w B g N F c m room i U → Calls Tryz.prog 37 #[.pointer (some ⟨c, 0, none⟩), .agg (trC h R), .int .i64 0, .int .i64 p] w fun x w' => x = .returned (.tuple #[.agg (rfC r), .int .i64 er]) ∧ TDStep w w' B g N F c m room i0 U) := hRef
  have hne2 : (er != 0) = true := by simp [her]
  have hne3 : decide (er = 0) = false := decide_eq_false her
  clear H hb1 hRef
  go_enter Tryz.func14, Tryz.ntmps14
  go_wp2_with (first
    | (refine wpList_load_rowg (by rfl) 45 _ (by rfl) (w.heap.size) (by rfl) 45 (trC h R) (0, 0) _ (by exact t1) Tryz.underlying45 (by rfl) (sizeTr.trans (by rw [trC_size])) ?_; simp only [Act.put, List.setIfInBounds_toArray, List.set_cons_zero, List.set_cons_succ])
    | fail)
  generalize ((w.alloc (.cells (trC h R) 45)).alloc (.cells (va 256 (iv .u8 fun _ => 0)) 52)) = w1 at *
  refine (HRf.out w1 HT1.out).mono ?_
  rintro x w2 ⟨rfl, V, ht2, hm2, hv2⟩
  have k2 : Blk w2 (w.heap.size + 1) 52 (va 256 (iv .u8 fun _ => 0)) := hm2.blk k1 fun z => by have := HUL.out _ z; omega
  have HM2 : Hid (Turns U w w2) := HM1.out.trans hm2 fun x hx => .inl hx
  have HV2 : Hid (∀ x, V x → U x ∨ w.heap.size + 2 ≤ x) := fun x hx => by
    rcases hv2 x hx with u | u
    · exact .inl u
    · have := k1.lt
      exact .inr (by omega)
  have HT2 : Hid (TD w2 B g N F c m room i0 V) := ht2
  have q0 := Blk.new w2 43 (rfC rf0)
  have r3 := q0.set (rfC r)
  have hb3 : Below w2.heap.size w2 ((w2.alloc (.cells (rfC rf0) 43)).setRow w2.heap.size (rfC r)) := below_setRow (below_new1 _ _) (Nat.le_refl _) _
  have k3 := k2.below hb3 k2.lt
  have HT3 : Hid (TD ((w2.alloc (.cells (rfC rf0) 43)).setRow w2.heap.size (rfC r)) B g N F c m room i0 V) := HT2.out.below hb3
  have HM3 : Hid (Turns U w ((w2.alloc (.cells (rfC rf0) 43)).setRow w2.heap.size (rfC r))) := HM2.out.trans (Turns.of_below (S := U) hb3) fun x hx => .inl hx
  have HLV : Hid (∀ x, V x → x ≠ w.heap.size + 1) := fun x hx => by
    rcases HV2.out x hx with u | u
    · have := HUL.out _ u
      omega
    · omega
  clear ht2 hm2 hv2 k1 k2 t1 hb3 HT1 HM1 HT2 HM2
  go_wp2_with (first
    | (refine wpList_store_row (by rfl) 43 _ _ (by rfl) (w2.heap.size) (rfC r) (by rfl) (by rfl) 43 (_) (by exact q0) (tsizeRef.trans (by rw [rfC_size])) (by simp only [rfC_size]) (rfC_all _) ?_; simp only [Act.put, List.setIfInBounds_toArray, List.set_cons_zero, List.set_cons_succ])
    | (refine wpList_store_row (by rfl) 52 _ _ (by rfl) (w.heap.size + 1) (va 256 (iv .u8 (fun _ => 0))) (by rfl) (by rfl) 52 _ k3 (sizeBk.trans (by rw [va_size])) (by simp only [va_size]) (iv_one _ _ _) ?_; simp only [Act.put, List.setIfInBounds_toArray, List.set_cons_zero, List.set_cons_succ])
    | fail)
  try simp only [Exit.inBlock, Exit.then]
  refine bodyPost_ret (results_row2 Tryz.results14 _ _ (w.heap.size + 1) 52 (va 256 (iv .u8 (fun _ => 0))) (0, 0) _ rfl ((k3.set _)) Tryz.underlying52 rfl (sizeBk.trans (by rw [va_size]))) rfl ?_
  refine ⟨rfl, V, HT3.out.kept (by simp) fun z hz => setRow_other _ _ z _ (HLV.out z hz), HM3.out.laid (by omega) _, fun z hz => ?_⟩
  rcases HV2.out z hz with u | u
  · exact .inl u
  · exact .inr (by omega)
set_option maxRecDepth 100000 in
set_option maxHeartbeats 4000000 in
theorem leaf_ok {i0 : Nat} (h : Int) (R : Rf) (p er : Int) (r : Rf) (hr : r.1 < 4294967296) (her : er = 0) (hi0 : i0 < 68719476736) (hRef : ∀ w, TD w B g N F c m room i U → Calls Tryz.prog 37 #[.pointer (some ⟨c, 0, none⟩), .agg (trC h R), .int .i64 0, .int .i64 p] w fun x w' => x = .returned (.tuple #[.agg (rfC r), .int .i64 er]) ∧ TDStep w w' B g N F c m room i0 U) (w : World) (H : TD w B g N F c m room i U) : Calls Tryz.prog 14 #[.pointer (some ⟨c, 0, none⟩), .agg (trC h R), .int .i64 p] w fun x w' => x = .returned (.tuple #[.agg (va 256 (iv .u8 (gotF F N r))), .int .i64 (gotE F N r)]) ∧ TDStep w w' B g N F c m room (i0 + 1) U := by
  have hz := zero_bk
  have hzr := zero_ref
  have hb1 : Below w.heap.size w ((w.alloc (.cells (trC h R) 45)).alloc (.cells (va 256 (iv .u8 fun _ => 0)) 52)) := below_new2 _ _ _
  have t1 : Blk ((w.alloc (.cells (trC h R) 45)).alloc (.cells (va 256 (iv .u8 fun _ => 0)) 52)) w.heap.size 45 (trC h R) := (Blk.new _ _ _).alloc _
  have k1 : Blk ((w.alloc (.cells (trC h R) 45)).alloc (.cells (va 256 (iv .u8 fun _ => 0)) 52)) (w.heap.size + 1) 52 (va 256 (iv .u8 fun _ => 0)) := Blk.new1 _ _ _ _
  have HT1 : Hid (TD ((w.alloc (.cells (trC h R) 45)).alloc (.cells (va 256 (iv .u8 fun _ => 0)) 52)) B g N F c m room i U) := H.below hb1
  have HM1 : Hid (Turns U w ((w.alloc (.cells (trC h R) 45)).alloc (.cells (va 256 (iv .u8 fun _ => 0)) 52))) := .of_below hb1
  have HUL : Hid (∀ x, U x → x < w.heap.size) := fun x hx => (H.lt x hx).2
  have HRf : Hid (∀ w, TD w B g N F c m room i U → Calls Tryz.prog 37 #[.pointer (some ⟨c, 0, none⟩), .agg (trC h R), .int .i64 0, .int .i64 p] w fun x w' => x = .returned (.tuple #[.agg (rfC r), .int .i64 er]) ∧ TDStep w w' B g N F c m room i0 U) := hRef
  subst her
  have HGt : Hid (∀ (V : Nat → Prop) (w : World), TD w B g N F c m room i0 V → Calls Tryz.prog 32 #[.pointer (some ⟨c, 0, none⟩), .agg (rfC r)] w fun x w' => x = .returned (.tuple #[.agg (va 256 (iv .u8 (gotF F N r))), .int .i64 (gotE F N r)]) ∧ TDStep w w' B g N F c m room (i0 + 1) V) := fun V w h1 => get_td r hr hi0 w h1
  clear hr hi0
  generalize gotF F N r = gf at *
  generalize gotE F N r = ge at *
  clear H hb1 hRef
  go_enter Tryz.func14, Tryz.ntmps14
  go_wp2_with (first
    | (refine wpList_load_rowg (by rfl) 45 _ (by rfl) (w.heap.size) (by rfl) 45 (trC h R) (0, 0) _ (by exact t1) Tryz.underlying45 (by rfl) (sizeTr.trans (by rw [trC_size])) ?_; simp only [Act.put, List.setIfInBounds_toArray, List.set_cons_zero, List.set_cons_succ])
    | fail)
  generalize ((w.alloc (.cells (trC h R) 45)).alloc (.cells (va 256 (iv .u8 fun _ => 0)) 52)) = w1 at *
  refine (HRf.out w1 HT1.out).mono ?_
  rintro x w2 ⟨rfl, V, ht2, hm2, hv2⟩
  have k2 : Blk w2 (w.heap.size + 1) 52 (va 256 (iv .u8 fun _ => 0)) := hm2.blk k1 fun z => by have := HUL.out _ z; omega
  have HM2 : Hid (Turns U w w2) := HM1.out.trans hm2 fun x hx => .inl hx
  have HV2 : Hid (∀ x, V x → U x ∨ w.heap.size + 2 ≤ x) := fun x hx => by
    rcases hv2 x hx with u | u
    · exact .inl u
    · have := k1.lt
      exact .inr (by omega)
  have HT2 : Hid (TD w2 B g N F c m room i0 V) := ht2
  have q0 := Blk.new w2 43 (rfC rf0)
  have r3 := q0.set (rfC r)
  have hb3 : Below w2.heap.size w2 ((w2.alloc (.cells (rfC rf0) 43)).setRow w2.heap.size (rfC r)) := below_setRow (below_new1 _ _) (Nat.le_refl _) _
  have k3 := k2.below hb3 k2.lt
  have HT3 : Hid (TD ((w2.alloc (.cells (rfC rf0) 43)).setRow w2.heap.size (rfC r)) B g N F c m room i0 V) := HT2.out.below hb3
  have HM3 : Hid (Turns U w ((w2.alloc (.cells (rfC rf0) 43)).setRow w2.heap.size (rfC r))) := HM2.out.trans (Turns.of_below (S := U) hb3) fun x hx => .inl hx
  have HLV : Hid (∀ x, V x → x ≠ w.heap.size + 1) := fun x hx => by
    rcases HV2.out x hx with u | u
    · have := HUL.out _ u
      omega
    · omega
  clear ht2 hm2 hv2 k1 k2 t1 hb3 HT1 HM1 HT2 HM2
  go_wp2_with (first
    | (refine wpList_store_row (by rfl) 43 _ _ (by rfl) (w2.heap.size) (rfC r) (by rfl) (by rfl) 43 (_) (by exact q0) (tsizeRef.trans (by rw [rfC_size])) (by simp only [rfC_size]) (rfC_all _) ?_; simp only [Act.put, List.setIfInBounds_toArray, List.set_cons_zero, List.set_cons_succ])
    | (refine wpList_load_rowg (by rfl) 43 _ (by rfl) (w2.heap.size) (by rfl) 43 (rfC r) (0, 0) _ (by exact r3) Tryz.underlying43 (by rfl) (tsizeRef.trans (by rw [rfC_size])) ?_; simp only [Act.put, List.setIfInBounds_toArray, List.set_cons_zero, List.set_cons_succ])
    | fail)
  clear q0
  generalize ((w2.alloc (.cells (rfC rf0) 43)).setRow w2.heap.size (rfC r)) = w3 at *
  refine (HGt.out V w3 HT3.out).mono ?_
  rintro x w4 ⟨rfl, V4, ht4, hm4, hv4⟩
  have k4 : Blk w4 (w.heap.size + 1) 52 (va 256 (iv .u8 fun _ => 0)) := hm4.blk k3 fun z => HLV.out _ z rfl
  have HT4 : Hid (TD w4 B g N F c m room (i0 + 1) V4) := ht4
  have HM4 : Hid (Turns U w w4) := HM3.out.trans hm4 fun z hz => by
    rcases HV2.out z hz with u | u
    · exact .inl u
    · exact .inr (by omega)
  have HV4 : Hid (∀ x, V4 x → U x ∨ w.heap.size + 2 ≤ x) := fun x hx => by
    rcases hv4 x hx with u | u
    · exact HV2.out x u
    · have := k3.lt
      exact .inr (by omega)
  clear ht4 hm4 hv4 k3 r3 HT3 HM3
  go_wp2_with (first
    | (refine wpList_store_row (by rfl) 52 _ _ (by rfl) (w.heap.size + 1) (va 256 (iv .u8 gf)) (by rfl) (by rfl) 52 _ k4 (sizeBk.trans (by rw [va_size])) (by simp only [va_size]) (iv_one _ _ _) ?_; simp only [Act.put, List.setIfInBounds_toArray, List.set_cons_zero, List.set_cons_succ])
    | fail)
  try simp only [Exit.inBlock, Exit.then]
  refine bodyPost_ret (results_row2 Tryz.results14 _ _ (w.heap.size + 1) 52 (va 256 (iv .u8 gf)) (0, 0) _ rfl ((k4.set _)) Tryz.underlying52 rfl (sizeBk.trans (by rw [va_size]))) rfl ?_
  refine ⟨rfl, V4, HT4.out.kept (by simp) fun z hz => setRow_other _ _ z _ ?_, HM4.out.laid (by omega) _, fun z hz => ?_⟩
  · rcases HV4.out z hz with u | u
    · have := HUL.out _ u
      omega
    · omega
  · rcases HV4.out z hz with u | u
    · exact .inl u
    · exact .inr (by omega)
end
end Go.Proofs.YtiofonffmplfmaaGreat

namespace Go.Proofs.YtiofonffmplfmaaGreat
open Go Go.RowKit
set_option linter.unusedSimpArgs false
set_option linter.unusedVariables false

/-- is a position outside of a tree of that height? -/
def outP (h l p : Int) : Prop := l < 0 ∨ h < l ∨ p < 0 ∨ ((4 ^ (h - l).toNat : Nat) : Int) ≤ p
instance (h l p : Int) : Decidable (outP h l p) := by unfold outP; infer_instance
/-- the way to a position -/
def wayTo9 (h l p : Int) : List Nat := (List.range (h - l).toNat).map (wayN (h - l).toNat p.toNat)
instance (h : Int) (R : Rf) : Decidable (trOk h R) := by unfold trOk; infer_instance
/-- what Ref answers -/
def refV (F : Nat → Nat) (N : Nat) (h : Int) (R : Rf) (l p : Int) : Rf × Int := if trOk h R then (if outP h l p then (rf0, 90) else folR F N h R (wayTo9 h l p)) else (rf0, 1)
section
variable {B g N c m room i : Nat} {F : Nat → Nat} {U : Nat → Prop}
theorem ref9_any (h : Int) (R : Rf) (hR : R.1 < 4294967296) (hD : okD R.2) (hF : ∀ a, F a < 256) (l p : Int) (hi : i < 34359738368) (w : World) (H : TD w B g N F c m room i U) : Calls Tryz.prog 37 #[.pointer (some ⟨c, 0, none⟩), .agg (trC h R), .int .i64 l, .int .i64 p] w fun x w' => x = .returned (.tuple #[.agg (rfC (refV F N h R l p).1), .int .i64 (refV F N h R l p).2]) ∧ TDStep w w' B g N F c m room (i + 6) U := by
  have no : ∀ er : Int, er ≠ 0 → refV F N h R l p = (rf0, er) → (∀ w, Calls Tryz.prog 58 #[.agg (trC h R), .int .i64 l, .int .i64 p] w fun x w' => x = .returned (.tuple #[.slice none 0 0, .int .i64 er]) ∧ Below w.heap.size w w') → Calls Tryz.prog 37 #[.pointer (some ⟨c, 0, none⟩), .agg (trC h R), .int .i64 l, .int .i64 p] w fun x w' => x = .returned (.tuple #[.agg (rfC (refV F N h R l p).1), .int .i64 (refV F N h R l p).2]) ∧ TDStep w w' B g N F c m room (i + 6) U := fun er h1 h2 h3 => by
    rw [h2]
    exact (ref_no h R l p er h1 h3 _ w).mono fun x w' ⟨e, hb⟩ => ⟨e, .of_below (H.mono (by omega)) hb⟩
  by_cases hok : trOk h R
  · by_cases hout : outP h l p
    · refine no 90 (by decide) (by unfold refV; rw [if_pos hok, if_pos hout]) ?_
      rcases hout with h1 | h1 | h1
      · exact wayTo_lo h R hR hD hok l p h1
      · exact wayTo_hi h R hR hD hok l p h1
      · by_cases l0 : l < 0
        · exact wayTo_lo h R hR hD hok l p l0
        · by_cases l1 : h < l
          · exact wayTo_hi h R hR hD hok l p l1
          · exact wayTo_place h R hR hD hok l p ⟨by omega, by omega⟩ (h - l).toNat (by omega) h1
    · unfold outP at hout
      have hl : 0 ≤ l ∧ l ≤ h := ⟨by omega, by omega⟩
      have hp : 0 ≤ p := by omega
      have := ref_ok h R hR hD hF hok l p.toNat hl (h - l).toNat (by omega) (by omega) hi w H
      rw [Int.toNat_of_nonneg hp] at this
      have e : refV F N h R l p = folR F N h R ((List.range (h - l).toNat).map (wayN (h - l).toNat p.toNat)) := by
        unfold refV wayTo9
        rw [if_pos hok, if_neg (show ¬ outP h l p from hout)]
      rw [e]
      exact this
  · exact no 1 (by decide) (by unfold refV; rw [if_neg hok]) (wayTo_arg h R hR hD hok l p)
end
end Go.Proofs.YtiofonffmplfmaaGreat

namespace Go.Proofs.YtiofonffmplfmaaGreat
open Go Go.RowKit
set_option linter.unusedSimpArgs false
set_option linter.unusedVariables false
/-- the variable bx (of type ts) holds an own slice of n elements -/
def GS (V : World) (bx ts B e sz : Nat) (v : Value) (n : Nat) (xs : List Value) : Prop := Blk V bx ts #[v] ∧ V.ownsRow B e sz v n xs ∧ v.ownBlock ≠ some bx
/-- its blocks -/
def gft (bx : Nat) (v : Value) (b : Nat) : Prop := b = bx ∨ v.ownBlock = some b
section
variable {B bx ts e sz n : Nat} {v : Value} {xs : List Value} {V W : World}
theorem GS.keep {T : Nat → Prop} (h : GS V bx ts B e sz v n xs) (ht : Turns T V W) (hT : ∀ b, T b → ¬ gft bx v b) : GS W bx ts B e sz v n xs :=
  ⟨ht.blk h.1 (fun q => hT _ q (.inl rfl)), kown_kept h.2.1 fun k _ hk => ht.block k (h.2.1.lt k hk).2 fun q => hT k q (.inr hk), h.2.2⟩
theorem GS.below (h : GS V bx ts B e sz v n xs) (hb : Below V.heap.size V W) : GS W bx ts B e sz v n xs := h.keep (T := fun _ => False) (.of_below hb) fun _ q => q.elim
theorem GS.lt (h : GS V bx ts B e sz v n xs) (b : Nat) (hb : gft bx v b) : b < V.heap.size := by
  rcases hb with rfl | hb
  · exact h.1.lt
  · exact (h.2.1.lt b hb).2
end
theorem gs_cell {S : Nat → Prop} (w : World) (b i : Nat) (v : Value) (hS : S b) : Turns S w (w.setCell ⟨b, i, none⟩ v) := by
  have t : Below b w (w.setCell ⟨b, i, none⟩ v) := (Below.refl b w).setCell (p := ⟨b, i, none⟩) (Nat.le_refl _) _
  exact ⟨t.os, t.tape, t.output, t.size, fun k hk hn => Below.heap_setCell _ _ _ _ (fun e => hn (by rw [e]; exact hS))⟩
theorem gs_grown {w w' : World} {b e : Nat} {xs : Array Value} {r : Option Nat} (h : Blk w b e xs) (hg : w.grownBy w' r) (hr : r ≠ some b) : Blk w' b e xs := by
  obtain ⟨_, _, _, _, g5⟩ := hg
  exact (g5 b h.lt (fun q => hr q.symm)).trans h
theorem gs_setc {w : World} {b e : Nat} {u : Value} (h : Blk w b e #[u]) (v : Value) : Blk (w.setCell ⟨b, 0, none⟩ v) b e #[v] := h.put 0 v
/-- what an append to it and the store back leave -/
theorem GS.grown {bx ts B e sz n : Nat} {v v2 : Value} {xs ns : List Value} {V W U2 : World} (h : GS W bx ts B e sz v n xs) (hb : Below V.heap.size V W) (hbx : bx < V.heap.size) (ho2 : U2.ownsRow B e sz v2 (n + 1) (xs ++ ns)) (hg2 : W.grownBy U2 v.ownBlock) (ha2 : v2.ownBlock = v.ownBlock ∨ v2.ownBlock = some W.heap.size) :
    GS (U2.setCell ⟨bx, 0, none⟩ v2) bx ts B e sz v2 (n + 1) (xs ++ ns) ∧ Turns (gft bx v) V (U2.setCell ⟨bx, 0, none⟩ v2) ∧ ∀ b, gft bx v2 b → gft bx v b ∨ V.heap.size ≤ b := by
  have hbU : Blk U2 bx ts #[v] := gs_grown h.1 hg2 h.2.2
  have hne2 : v2.ownBlock ≠ some bx := by
    rcases ha2 with e | e
    · rw [e]; exact h.2.2
    · rw [e]
      intro q
      injection q with q
      have := hb.size
      omega
  have tg : Turns (gft bx v) W U2 := by
    obtain ⟨g1, g2, g3, g4, g5⟩ := hg2
    exact ⟨g1, g2, g3, g4, fun b hb hn => g5 b hb fun q => hn (.inr q.symm)⟩
  have tc : Turns (fun z => z = bx) U2 (U2.setCell ⟨bx, 0, none⟩ v2) := gs_cell _ _ _ _ rfl
  refine ⟨⟨gs_setc hbU _, kown_kept ho2 fun k _ hk => tc.block k (ho2.lt k hk).2 fun q => hne2 (by rw [hk, q]), hne2⟩, ((Turns.of_below hb).trans tg fun b q => .inl q).trans tc (fun b q => .inl (.inl q)), fun b q => ?_⟩
  rcases q with q | q
  · exact .inl (.inl q)
  · rcases ha2 with e | e
    · exact .inl (.inr (e.symm.trans q))
    · rw [e] at q
      injection q with q
      have := hb.size
      exact .inr (by omega)
end Go.Proofs.YtiofonffmplfmaaGreat

namespace Go.Proofs.YtiofonffmplfmaaGreat
open Go Go.RowKit
set_option linter.unusedSimpArgs false
set_option linter.unusedVariables false

theorem rsizeBk : (Tryz.prog.info? 49).map (·.size) = some 256 := by kernel_rfl
theorem rsizeSum : (Tryz.prog.info? 29).map (·.size) = some 32 := by kernel_rfl
theorem rsizeRef : (Tryz.prog.info? 31).map (·.size) = some 33 := by kernel_rfl
theorem rzero_bk (w : World) : (zeroValue 49).run Tryz.prog w = .ok (.agg (va 256 (iv .u8 fun _ => 0))) w := zero_of (by kernel_rfl) w
theorem rzero_sum (w : World) : (zeroValue 29).run Tryz.prog w = .ok (.agg (va 32 (iv .u8 fun _ => 0))) w := zero_of (by kernel_rfl) w
theorem dgB_ref (f : Nat → Nat) : va 32 (iv .u8 (ofN 1 (byteAt (strN f 256)) (strN f 256).size)) = va 32 (iv .u8 (dF (dgB f))) := dgB_cells f
set_option maxRecDepth 100000 in
set_option maxHeartbeats 4000000 in
theorem rsum_any (f : Nat → Nat) (w : World) : Calls Tryz.prog 57 #[.agg (va 256 (iv .u8 f))] w fun x w' => x = .returned (.agg (va 32 (iv .u8 (dF (dgB f))))) ∧ Below w.heap.size w w' := by
  have hz := rzero_sum
  have hOf : Hid (∀ w, Calls Tryz.prog 78 #[.int .u8 1, .string (strN f 256)] w fun e w' => e = .returned (.agg (va 32 (iv .u8 (dF (dgB f))))) ∧ Below w.heap.size w w') := fun w => by
    have := refOf_any 1 (by decide) (strN f 256) (by rw [strN_size]; decide) w
    rw [dgB_ref] at this
    exact this
  have b1 : Blk ((w.alloc (.cells (va 256 (iv .u8 f)) 49)).alloc (.cells (va 32 (iv .u8 fun _ => 0)) 29)) w.heap.size 49 (va 256 (iv .u8 f)) := (Blk.new _ _ _).alloc _
  have r1 : Blk ((w.alloc (.cells (va 256 (iv .u8 f)) 49)).alloc (.cells (va 32 (iv .u8 fun _ => 0)) 29)) (w.heap.size + 1) 29 (va 32 (iv .u8 fun _ => 0)) := Blk.new1 _ _ _ _
  have hb1 : Below w.heap.size w ((w.alloc (.cells (va 256 (iv .u8 f)) 49)).alloc (.cells (va 32 (iv .u8 fun _ => 0)) 29)) := below_new2 _ _ _
  have hc := run_bytes_text (P := Tryz.prog) ((w.alloc (.cells (va 256 (iv .u8 f)) 49)).alloc (.cells (va 32 (iv .u8 fun _ => 0)) 29)) 165 5 9 Tryz.underlying165 Tryz.underlying5 Tryz.underlying9 b1 0 256 256 (by omega)
  have hx : strN (fun j => f (0 + j)) 256 = strN f 256 := strN_congr fun j _ => by rw [Nat.zero_add]
  rw [hx] at hc
  generalize dgB f = dg at *
  generalize strN f 256 = sv at *
  go_enter Tryz.func57, Tryz.ntmps57
  go_wp2_with fail
  generalize ((w.alloc (.cells (va 256 (iv .u8 f)) 49)).alloc (.cells (va 32 (iv .u8 fun _ => 0)) 29)) = w1 at *
  refine (hOf.out w1).mono ?_
  rintro x w2 ⟨rfl, hb2⟩
  have r2 := r1.below hb2 r1.lt
  have hb12 := hb1.trans (hb2.mono hb1.size)
  clear hc b1 r1 hb1 hb2
  go_wp2_with (first
    | (refine wpList_store_row (by rfl) 29 _ _ (by rfl) (w.heap.size + 1) (va 32 (iv .u8 (dF dg))) (by rfl) (by rfl) 29 (_) (by exact r2) (rsizeSum.trans (by rw [va_size])) (by simp only [va_size]) (iv_one _ _ _) ?_; simp only [Act.put, List.setIfInBounds_toArray, List.set_cons_zero, List.set_cons_succ])
    | fail)
  try simp only [Exit.inBlock, Exit.then]
  refine bodyPost_ret (results_cell_row Tryz.results57 _ _ (w.heap.size + 1) 29 (va 32 (iv .u8 (dF dg))) (0, 0) _ rfl (r2.set _) Tryz.underlying29 rfl (rsizeSum.trans (by rw [va_size]))) rfl ?_
  exact ⟨rfl, below_setRow hb12 (by omega) _⟩
theorem rref_range {w : World} {b t : Nat} {k : Rf} (h : Blk w b t (rfC k)) : w.rangeAt b 1 ((List.range 32).map (iv .u8 (dF k.2))) := by
  have := Blk.range (n := 33) (f := rfF k.1 k.2) h 1 32 (by decide)
  rw [show ((List.range 32).map fun j => rfF k.1 k.2 (1 + j)) = (List.range 32).map (iv .u8 (dF k.2)) from List.map_congr_left fun j hj => ?_] at this
  · exact this
  · unfold rfF iv
    rw [if_neg (by omega), show 1 + j - 1 = j by omega]
/-- a block of an image in the memory -/
def RngB (W : World) (b o : Nat) (f : Nat → Nat) : Prop := W.rangeAt b o ((List.range 256).map (iv .u8 f))
theorem RngB.below {w w' : World} {B b o : Nat} {f : Nat → Nat} (h : RngB w b o f) (hb : Below B w w') (hB : b < B) : RngB w' b o f := range_below h hb hB
section
variable {F : Nat → Nat} {N : Nat}
end
end Go.Proofs.YtiofonffmplfmaaGreat

namespace Go.Proofs.YtiofonffmplfmaaGreat
open Go Go.RowKit
set_option linter.unusedSimpArgs false
set_option linter.unusedVariables false

theorem rsizeNd : (Tryz.prog.info? 160).map (·.size) = some 133 := by kernel_rfl
theorem rsizeKd : (Tryz.prog.info? 149).map (·.size) = some 132 := by kernel_rfl
theorem rzero_kd (w : World) : (zeroValue 149).run Tryz.prog w = .ok (.agg (kdC fun _ => rf0)) w := zero_of (by kernel_rfl) w
theorem nd_kids {w : World} {b t : Nat} {l : Int} {K : Nat → Rf} (H : Blk w b t (ndC l K)) : w.rangeAt b 1 ((List.range 132).map (kdF K)) := by
  have := Blk.range (n := 133) (f := ndF l K) H 1 132 (by decide)
  rw [show ((List.range 132).map fun j => ndF l K (1 + j)) = (List.range 132).map (kdF K) from List.map_congr_left fun j hj => ?_] at this
  · exact this
  · unfold ndF
    rw [if_neg (by omega), show 1 + j - 1 = j by omega]
section
variable {F : Nat → Nat} {N : Nat}
end
end Go.Proofs.YtiofonffmplfmaaGreat

namespace Go.Proofs.YtiofonffmplfmaaGreat
open Go Go.RowKit
set_option linter.unusedSimpArgs false
set_option linter.unusedVariables false

theorem rsizeTr : (Tryz.prog.info? 33).map (·.size) = some 34 := by kernel_rfl
/-- blocks as cells -/
def bkL (l : List (Nat → Nat)) : List Value := l.flatMap fun f => (va 256 (iv .u8 f)).toList
section
variable {F : Nat → Nat} {N : Nat}
end
end Go.Proofs.YtiofonffmplfmaaGreat

namespace Go.Proofs.YtiofonffmplfmaaGreat
open Go Go.RowKit
set_option linter.unusedSimpArgs false
set_option linter.unusedVariables false
/-- the blocks that were met -/
def MB (V : World) (bx B : Nat) (v : Value) (l : List (Nat → Nat)) : Prop := GS V bx 37 B 52 256 v l.length (bkL l)
end Go.Proofs.YtiofonffmplfmaaGreat
