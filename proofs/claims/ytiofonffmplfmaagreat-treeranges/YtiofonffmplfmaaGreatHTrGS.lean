/- A slice that grows in a captured variable, and what turns with it. -/
import Derived.Test.YtiofonffmplfmaaGreatHTrFollow
import Derived.Test.YtiofonffmplfmaaGreatHNdAwake
import Derived.Handy
import Derived.Test.YtiofonffmplfmaaGreatHDkFns

namespace Go.Proofs.YtiofonffmplfmaaGreat
open Go Go.RowKit
set_option linter.unusedSimpArgs false
set_option linter.unusedVariables false

/-- may a tree be? -/
def trOk (h : Int) (R : Rf) : Prop := rOk R = true ∧ 0 ≤ h ∧ h ≤ 6
instance (h : Int) (R : Rf) : Decidable (trOk h R) := by unfold trOk; infer_instance
set_option maxRecDepth 100000 in
set_option maxHeartbeats 4000000 in
theorem right_ref (h : Int) (R : Rf) (hR : R.1 < 4294967296) (hD : okD R.2) (hok : rOk R = true) (y : Bool) (hy : ∀ w, Calls Tryz.prog 46 #[.int .i64 h] w fun e w1 => e = .returned (.bool y) ∧ w = w1) (w : World) : Calls Tryz.prog 27 #[.agg (trC h R)] w fun x w' => x = .returned (.bool y) ∧ Below w.heap.size w w' := by
  have hz := zero_ref
  have hEn : Hid (∀ w, Calls Tryz.prog 49 #[.agg (rfC R)] w fun e w' => e = .returned (.string (strN (encR R) 36)) ∧ Below w.heap.size w w') := encR_any R hD
  have hDe : Hid (∀ w, Calls Tryz.prog 48 #[.string (strN (encR R) 36), .int .i64 0] w fun e w' => e = .returned (.tuple #[.agg (rfC R), .bool true]) ∧ Below w.heap.size w w') := fun w => by
    have h1 := decodeR_good (strN (encR R) 36) 0 (by rw [strN_size]; unfold maxLen; decide) (by rw [strN_size]; decide) w
    rw [decR_of (strN (encR R) 36) 0 R hR (fun j hj => by rw [Nat.zero_add]; exact strN_at (encR R) 36 j hj (encR_lt R hD j hj))] at h1
    simp only [hok, if_true, Bool.false_eq_true, if_false] at h1
    exact h1
  have hsz : (strN (encR R) 36).size = 36 := strN_size _ _
  have hb1 : Below w.heap.size w (w.alloc (.cells (trC h R) 45)) := below_new1 _ _
  have t1 : Blk (w.alloc (.cells (trC h R) 45)) w.heap.size 45 (trC h R) := Blk.new _ _ _
  have HR1 : Hid ((w.alloc (.cells (trC h R) 45)).rangeAt w.heap.size 1 ((List.range 33).map (rfF R.1 R.2))) := tr_range t1
  clear hok hD hR
  generalize strN (encR R) 36 = sv at *
  go_enter Tryz.func27, Tryz.ntmps27
  go_wp2_with (first
    | (refine wpList_load_blk (by rfl) 43 _ (by rfl) (w.heap.size) (1) 33 (rfF R.1 R.2) (by rfl) _ (by exact HR1.out) Tryz.underlying43 rfl tsizeRef ?_; simp only [Act.put, List.setIfInBounds_toArray, List.set_cons_zero, List.set_cons_succ])
    | fail)
  generalize (w.alloc (.cells (trC h R) 45)) = w1 at *
  refine (hEn.out w1).mono ?_
  rintro x w2 ⟨rfl, hb2⟩
  have t2 := t1.below hb2 t1.lt
  have hb12 : Below w.heap.size w w2 := hb1.trans (hb2.mono hb1.size)
  clear HR1 hb2 t1 hb1
  go_wp2_with fail
  refine (hDe.out w2).mono ?_
  rintro x w3 ⟨rfl, hb3⟩
  have t3 := t2.below hb3 t2.lt
  have hb13 : Below w.heap.size w w3 := hb12.trans (hb3.mono hb12.size)
  have q0 := Blk.new w3 43 (rfC rf0)
  have hb4 : Below w3.heap.size w3 ((w3.alloc (.cells (rfC rf0) 43)).setRow w3.heap.size (rfC R)) := below_setRow (below_new1 _ _) (Nat.le_refl _) _
  have t4 := t3.below hb4 t3.lt
  have z4 : ((w3.alloc (.cells (rfC rf0) 43)).setRow w3.heap.size (rfC R)).cell? ⟨w.heap.size, 0, none⟩ = some (.int .i64 h) := (t4.cell 0).trans (va_at (trF h R) (by decide))
  have hb14 : Below w.heap.size w ((w3.alloc (.cells (rfC rf0) 43)).setRow w3.heap.size (rfC R)) := hb13.trans (hb4.mono hb13.size)
  clear hb4 hb13 hb12 hb3 t2 t3 t4
  go_wp2_with (first
    | (refine wpList_store_row (by rfl) 43 _ _ (by rfl) (w3.heap.size) (rfC R) (by rfl) (by rfl) 43 (_) (by exact q0) (tsizeRef.trans (by rw [rfC_size])) (by simp only [rfC_size]) (rfC_all _) ?_; simp only [Act.put, List.setIfInBounds_toArray, List.set_cons_zero, List.set_cons_succ])
    | fail)
  clear q0
  generalize ((w3.alloc (.cells (rfC rf0) 43)).setRow w3.heap.size (rfC R)) = w4 at *
  refine (hy w4).mono ?_
  rintro x _ ⟨rfl, rfl⟩
  go_wp2_with fail
  go_ret
  exact ⟨rfl, hb14⟩
set_option maxRecDepth 100000 in
set_option maxHeartbeats 4000000 in
theorem right_noref (h : Int) (R : Rf) (hR : R.1 < 4294967296) (hD : okD R.2) (hok : rOk R = false) (w : World) : Calls Tryz.prog 27 #[.agg (trC h R)] w fun x w' => x = .returned (.bool false) ∧ Below w.heap.size w w' := by
  have hz := zero_ref
  have hEn : Hid (∀ w, Calls Tryz.prog 49 #[.agg (rfC R)] w fun e w' => e = .returned (.string (strN (encR R) 36)) ∧ Below w.heap.size w w') := encR_any R hD
  have hDe : Hid (∀ w, Calls Tryz.prog 48 #[.string (strN (encR R) 36), .int .i64 0] w fun e w' => e = .returned (.tuple #[.agg (rfC rf0), .bool false]) ∧ Below w.heap.size w w') := fun w => by
    have h1 := decodeR_good (strN (encR R) 36) 0 (by rw [strN_size]; unfold maxLen; decide) (by rw [strN_size]; decide) w
    rw [decR_of (strN (encR R) 36) 0 R hR (fun j hj => by rw [Nat.zero_add]; exact strN_at (encR R) 36 j hj (encR_lt R hD j hj))] at h1
    simp only [hok, if_true, Bool.false_eq_true, if_false] at h1
    exact h1
  have hsz : (strN (encR R) 36).size = 36 := strN_size _ _
  have hb1 : Below w.heap.size w (w.alloc (.cells (trC h R) 45)) := below_new1 _ _
  have t1 : Blk (w.alloc (.cells (trC h R) 45)) w.heap.size 45 (trC h R) := Blk.new _ _ _
  have HR1 : Hid ((w.alloc (.cells (trC h R) 45)).rangeAt w.heap.size 1 ((List.range 33).map (rfF R.1 R.2))) := tr_range t1
  clear hok hD hR
  generalize strN (encR R) 36 = sv at *
  go_enter Tryz.func27, Tryz.ntmps27
  go_wp2_with (first
    | (refine wpList_load_blk (by rfl) 43 _ (by rfl) (w.heap.size) (1) 33 (rfF R.1 R.2) (by rfl) _ (by exact HR1.out) Tryz.underlying43 rfl tsizeRef ?_; simp only [Act.put, List.setIfInBounds_toArray, List.set_cons_zero, List.set_cons_succ])
    | fail)
  generalize (w.alloc (.cells (trC h R) 45)) = w1 at *
  refine (hEn.out w1).mono ?_
  rintro x w2 ⟨rfl, hb2⟩
  have t2 := t1.below hb2 t1.lt
  have hb12 : Below w.heap.size w w2 := hb1.trans (hb2.mono hb1.size)
  clear HR1 hb2 t1 hb1
  go_wp2_with fail
  refine (hDe.out w2).mono ?_
  rintro x w3 ⟨rfl, hb3⟩
  have t3 := t2.below hb3 t2.lt
  have hb13 : Below w.heap.size w w3 := hb12.trans (hb3.mono hb12.size)
  have q0 := Blk.new w3 43 (rfC rf0)
  have hb4 : Below w3.heap.size w3 ((w3.alloc (.cells (rfC rf0) 43)).setRow w3.heap.size (rfC rf0)) := below_setRow (below_new1 _ _) (Nat.le_refl _) _
  have t4 := t3.below hb4 t3.lt
  have z4 : ((w3.alloc (.cells (rfC rf0) 43)).setRow w3.heap.size (rfC rf0)).cell? ⟨w.heap.size, 0, none⟩ = some (.int .i64 h) := (t4.cell 0).trans (va_at (trF h R) (by decide))
  have hb14 : Below w.heap.size w ((w3.alloc (.cells (rfC rf0) 43)).setRow w3.heap.size (rfC rf0)) := hb13.trans (hb4.mono hb13.size)
  clear hb4 hb13 hb12 hb3 t2 t3 t4
  go_wp2_with (first
    | (refine wpList_store_row (by rfl) 43 _ _ (by rfl) (w3.heap.size) (rfC rf0) (by rfl) (by rfl) 43 (_) (by exact q0) (tsizeRef.trans (by rw [rfC_size])) (by simp only [rfC_size]) (rfC_all _) ?_; simp only [Act.put, List.setIfInBounds_toArray, List.set_cons_zero, List.set_cons_succ])
    | fail)
  go_ret
  exact ⟨rfl, hb14⟩
theorem tright_any (h : Int) (R : Rf) (hR : R.1 < 4294967296) (hD : okD R.2) (w : World) : Calls Tryz.prog 27 #[.agg (trC h R)] w fun x w' => x = .returned (.bool (decide (trOk h R))) ∧ Below w.heap.size w w' := by
  cases hok : rOk R with
  | false =>
    rw [decide_eq_false (fun u : trOk h R => by rw [u.1] at hok; cases hok)]
    exact right_noref h R hR hD hok w
  | true =>
    by_cases hh : 0 ≤ h ∧ h ≤ 6
    · rw [decide_eq_true (show trOk h R from ⟨hok, hh⟩)]
      obtain ⟨n, rfl⟩ : ∃ n : Nat, h = (n : Int) := ⟨h.toNat, by omega⟩
      exact right_ref _ R hR hD hok true (fun w => mayBe_yes n (by omega) w) w
    · rw [decide_eq_false (fun u : trOk h R => hh u.2)]
      exact right_ref h R hR hD hok false (fun w => mayBe_no h (by omega) w) w
section
variable {B g N c m room i : Nat} {F : Nat → Nat} {U : Nat → Prop}
end
end Go.Proofs.YtiofonffmplfmaaGreat

namespace Go.Proofs.YtiofonffmplfmaaGreat
open Go Go.RowKit
set_option linter.unusedSimpArgs false
set_option linter.unusedVariables false

/-- is a position outside of a tree of that height? -/
def outP (h l p : Int) : Prop := l < 0 ∨ h < l ∨ p < 0 ∨ ((4 ^ (h - l).toNat : Nat) : Int) ≤ p
instance (h l p : Int) : Decidable (outP h l p) := by unfold outP; infer_instance
/-- the way to a position -/
def wayTo9 (h l p : Int) : List Nat := (List.range (h - l).toNat).map (wayN (h - l).toNat p.toNat)
instance (h : Int) (R : Rf) : Decidable (trOk h R) := by unfold trOk; infer_instance
/-- what Ref answers -/
def refV (F : Nat → Nat) (N : Nat) (h : Int) (R : Rf) (l p : Int) : Rf × Int := if trOk h R then (if outP h l p then (rf0, 90) else folR F N h R (wayTo9 h l p)) else (rf0, 1)
section
variable {B g N c m room i : Nat} {F : Nat → Nat} {U : Nat → Prop}
end
end Go.Proofs.YtiofonffmplfmaaGreat

namespace Go.Proofs.YtiofonffmplfmaaGreat
open Go Go.RowKit
set_option linter.unusedSimpArgs false
set_option linter.unusedVariables false
/-- the variable bx (of type ts) holds an own slice of n elements -/
def GS (V : World) (bx ts B e sz : Nat) (v : Value) (n : Nat) (xs : List Value) : Prop := Blk V bx ts #[v] ∧ V.ownsRow B e sz v n xs ∧ v.ownBlock ≠ some bx
/-- its blocks -/
def gft (bx : Nat) (v : Value) (b : Nat) : Prop := b = bx ∨ v.ownBlock = some b
section
variable {B bx ts e sz n : Nat} {v : Value} {xs : List Value} {V W : World}
theorem GS.keep {T : Nat → Prop} (h : GS V bx ts B e sz v n xs) (ht : Turns T V W) (hT : ∀ b, T b → ¬ gft bx v b) : GS W bx ts B e sz v n xs :=
  ⟨ht.blk h.1 (fun q => hT _ q (.inl rfl)), kown_kept h.2.1 fun k _ hk => ht.block k (h.2.1.lt k hk).2 fun q => hT k q (.inr hk), h.2.2⟩
theorem GS.below (h : GS V bx ts B e sz v n xs) (hb : Below V.heap.size V W) : GS W bx ts B e sz v n xs := h.keep (T := fun _ => False) (.of_below hb) fun _ q => q.elim
theorem GS.lt (h : GS V bx ts B e sz v n xs) (b : Nat) (hb : gft bx v b) : b < V.heap.size := by
  rcases hb with rfl | hb
  · exact h.1.lt
  · exact (h.2.1.lt b hb).2
end
theorem gs_cell {S : Nat → Prop} (w : World) (b i : Nat) (v : Value) (hS : S b) : Turns S w (w.setCell ⟨b, i, none⟩ v) := by
  have t : Below b w (w.setCell ⟨b, i, none⟩ v) := (Below.refl b w).setCell (p := ⟨b, i, none⟩) (Nat.le_refl _) _
  exact ⟨t.os, t.tape, t.output, t.size, fun k hk hn => Below.heap_setCell _ _ _ _ (fun e => hn (by rw [e]; exact hS))⟩
theorem gs_grown {w w' : World} {b e : Nat} {xs : Array Value} {r : Option Nat} (h : Blk w b e xs) (hg : w.grownBy w' r) (hr : r ≠ some b) : Blk w' b e xs := by
  obtain ⟨_, _, _, _, g5⟩ := hg
  exact (g5 b h.lt (fun q => hr q.symm)).trans h
theorem gs_setc {w : World} {b e : Nat} {u : Value} (h : Blk w b e #[u]) (v : Value) : Blk (w.setCell ⟨b, 0, none⟩ v) b e #[v] := h.put 0 v
/-- what an append to it and the store back leave -/
theorem GS.grown {bx ts B e sz n : Nat} {v v2 : Value} {xs ns : List Value} {V W U2 : World} (h : GS W bx ts B e sz v n xs) (hb : Below V.heap.size V W) (hbx : bx < V.heap.size) (ho2 : U2.ownsRow B e sz v2 (n + 1) (xs ++ ns)) (hg2 : W.grownBy U2 v.ownBlock) (ha2 : v2.ownBlock = v.ownBlock ∨ v2.ownBlock = some W.heap.size) :
    GS (U2.setCell ⟨bx, 0, none⟩ v2) bx ts B e sz v2 (n + 1) (xs ++ ns) ∧ Turns (gft bx v) V (U2.setCell ⟨bx, 0, none⟩ v2) ∧ ∀ b, gft bx v2 b → gft bx v b ∨ V.heap.size ≤ b := by
  have hbU : Blk U2 bx ts #[v] := gs_grown h.1 hg2 h.2.2
  have hne2 : v2.ownBlock ≠ some bx := by
    rcases ha2 with e | e
    · rw [e]; exact h.2.2
    · rw [e]
      intro q
      injection q with q
      have := hb.size
      omega
  have tg : Turns (gft bx v) W U2 := by
    obtain ⟨g1, g2, g3, g4, g5⟩ := hg2
    exact ⟨g1, g2, g3, g4, fun b hb hn => g5 b hb fun q => hn (.inr q.symm)⟩
  have tc : Turns (fun z => z = bx) U2 (U2.setCell ⟨bx, 0, none⟩ v2) := gs_cell _ _ _ _ rfl
  refine ⟨⟨gs_setc hbU _, kown_kept ho2 fun k _ hk => tc.block k (ho2.lt k hk).2 fun q => hne2 (by rw [hk, q]), hne2⟩, ((Turns.of_below hb).trans tg fun b q => .inl q).trans tc (fun b q => .inl (.inl q)), fun b q => ?_⟩
  rcases q with q | q
  · exact .inl (.inl q)
  · rcases ha2 with e | e
    · exact .inl (.inr (e.symm.trans q))
    · rw [e] at q
      injection q with q
      have := hb.size
      exact .inr (by omega)
end Go.Proofs.YtiofonffmplfmaaGreat
