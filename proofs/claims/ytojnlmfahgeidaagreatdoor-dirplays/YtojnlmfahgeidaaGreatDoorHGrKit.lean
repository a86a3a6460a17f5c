/- Grown trees: what they have in the memory; nil ones; their heights and standing trees. -/
import Derived.Test.YtojnlmfahgeidaaGreatDoorHNdAwake
import Derived.Test.YtojnlmfahgeidaaGreatDoorHIoChk
import Derived.Handy
import Derived.Lib.SlBytesConst
import Derived.ArgAppend
import Derived.Deep.DeepCutAuto
import Derived.Deep.Cut
import Derived.Test.YtojnlmfahgeidaaGreatDoorHBlkGroups
import Derived.Test.YtojnlmfahgeidaaGreatDoorHDigText
import Derived.Test.YtojnlmfahgeidaaGreatDoorHMath
import Derived.Deep.RegionWith
import Derived.Deep.DrawnRows
import Derived.Deep.RegionLaw
import Derived.Deep.Heap
import Derived.BigQuiet
import Derived.Deep.QuietTactic
import Derived.Great.BuildSlice
import Derived.Test.YtojnlmfahgeidaaGreatDoorProg
import Derived.WideKeyElems
import Derived.Deep.MidRow
import Derived.Lib.AppendZerosOnto
import Derived.Lib.Walk

namespace Go.Proofs.YtojnlmfahgeidaaGreatDoor
open Go Go.RowKit
set_option linter.unusedSimpArgs false
set_option linter.unusedVariables false

/-- a tree's cells -/
def trF (h : Int) (R : Rf) : Nat → Value := fun i => if i = 0 then .int .i64 h else rfF R.1 R.2 (i - 1)
def trC (h : Int) (R : Rf) : Array Value := va 34 (trF h R)
/-- a position's cells -/
def poF (l p : Int) (R : Rf) : Nat → Value := fun i => if i = 0 then .int .i64 l else if i = 1 then .int .i64 p else rfF R.1 R.2 (i - 2)
def poC (l p : Int) (R : Rf) : Array Value := va 35 (poF l p R)
theorem trC_size (h : Int) (R : Rf) : (trC h R).size = 34 := va_size _ _
theorem poC_size (l p : Int) (R : Rf) : (poC l p R).size = 35 := va_size _ _
theorem trC_all (h : Int) (R : Rf) : (trC h R).all (·.oneCell') = true := va_one fun i _ => by
  unfold trF
  split
  · rfl
  · exact rfF_one _ _ _
theorem poC_all (l p : Int) (R : Rf) : (poC l p R).all (·.oneCell') = true := va_one fun i _ => by
  unfold poF
  split
  · rfl
  · split
    · rfl
    · exact rfF_one _ _ _
theorem sizeTr : (Tryz.prog.info? 122).map (·.size) = some 34 := by kernel_rfl
theorem sizePo : (Tryz.prog.info? 370).map (·.size) = some 35 := by kernel_rfl
theorem tsizeRef : (Tryz.prog.info? 120).map (·.size) = some 33 := by kernel_rfl
theorem zero_po (w : World) : (zeroValue 370).run Tryz.prog w = .ok (.agg (poC 0 0 rf0)) w := zero_of (by kernel_rfl) w
theorem built_po2 (l : Int) (R : Rf) : Tryz.prog.built 370 [(0, .int .i64 l), (2, .agg (rfC R))] = some (poC l 0 R) := by kernel_rfl
theorem tr_range {w : World} {b t : Nat} {h : Int} {R : Rf} (H : Blk w b t (trC h R)) : w.rangeAt b 1 ((List.range 33).map (rfF R.1 R.2)) := by
  have := Blk.range (n := 34) (f := trF h R) H 1 33 (by decide)
  rw [show ((List.range 33).map fun j => trF h R (1 + j)) = (List.range 33).map (rfF R.1 R.2) from List.map_congr_left fun j hj => ?_] at this
  · exact this
  · unfold trF
    rw [if_neg (by omega), show 1 + j - 1 = j by omega]
theorem po_range {w : World} {b t : Nat} {l p : Int} {R : Rf} (H : Blk w b t (poC l p R)) : w.rangeAt b 2 ((List.range 33).map (rfF R.1 R.2)) := by
  have := Blk.range (n := 35) (f := poF l p R) H 2 33 (by decide)
  rw [show ((List.range 33).map fun j => poF l p R (2 + j)) = (List.range 33).map (rfF R.1 R.2) from List.map_congr_left fun j hj => ?_] at this
  · exact this
  · unfold poF
    rw [if_neg (by omega), if_neg (by omega), show 2 + j - 2 = j by omega]
theorem tr_build2 {P : Program} {ops : Array Oper} {rest : List Oper} {o : Oper} {a : Act} {w : World} {Q : Exit → Act → World → Prop} (hg : o.guard = none) (t : TypeId) (i j : Nat) (x y : Operand) (ho : o.op = .build t #[(i, x), (j, y)]) (vx vy : Value) (hx : a.eval x = vx) (hy : a.eval y = vy)
    (cells : Array Value) (hf : P.built t [(i, vx), (j, vy)] = some cells) (h : wpList P ops Q rest (a.put o.dst (.agg cells)) w) : wpList P ops Q (o :: rest) a w := by
  refine wpList_buildTo hg t _ ho o.dst rfl cells ?_ h
  have e : (Array.map (fun (x : Nat × Operand) => match x with | (i, x) => (i, a.eval x)) #[(i, x), (j, y)]).toList = [(i, vx), (j, vy)] := by simp [hx, hy]
  rw [e]
  exact hf
set_option maxRecDepth 100000 in
set_option maxHeartbeats 4000000 in
theorem root_any (h : Int) (R : Rf) (w : World) : Calls Tryz.prog 248 #[.agg (trC h R)] w fun x w' => x = .returned (.agg (poC h 0 R)) ∧ Below w.heap.size w w' := by
  have hz := zero_po
  have hb1 : Below w.heap.size w ((w.alloc (.cells (trC h R) 122)).alloc (.cells (poC 0 0 rf0) 370)) := below_new2 _ _ _
  have t1 : Blk ((w.alloc (.cells (trC h R) 122)).alloc (.cells (poC 0 0 rf0) 370)) w.heap.size 122 (trC h R) := (Blk.new _ _ _).alloc _
  have p1 : Blk ((w.alloc (.cells (trC h R) 122)).alloc (.cells (poC 0 0 rf0) 370)) (w.heap.size + 1) 370 (poC 0 0 rf0) := Blk.new1 _ _ _ _
  have z1 : ((w.alloc (.cells (trC h R) 122)).alloc (.cells (poC 0 0 rf0) 370)).cell? ⟨w.heap.size, 0, none⟩ = some (.int .i64 h) := (t1.cell 0).trans (va_at (trF h R) (by decide))
  have HR : Hid (((w.alloc (.cells (trC h R) 122)).alloc (.cells (poC 0 0 rf0) 370)).rangeAt w.heap.size 1 ((List.range 33).map (rfF R.1 R.2))) := tr_range t1
  have HB : Hid (Tryz.prog.built 370 [(0, .int .i64 h), (2, .agg (rfC R))] = some (poC h 0 R)) := built_po2 h R
  go_enter Tryz.func248, Tryz.ntmps248
  go_wp2_with (first
    | (refine wpList_load_blk (by rfl) 120 _ (by rfl) (w.heap.size) (1) 33 (rfF R.1 R.2) (by rfl) _ (by exact HR.out) Tryz.underlying120 rfl tsizeRef ?_; simp only [Act.put, List.setIfInBounds_toArray, List.set_cons_zero, List.set_cons_succ])
    | (refine tr_build2 (by rfl) 370 0 2 _ _ (by rfl) (.int .i64 h) (.agg (rfC R)) (by rfl) (by rfl) (poC h 0 R) (by exact HB.out) ?_; simp only [Act.put, List.setIfInBounds_toArray, List.set_cons_zero, List.set_cons_succ])
    | (refine wpList_store_row (by rfl) 370 _ _ (by rfl) (w.heap.size + 1) (poC h 0 R) (by rfl) (by rfl) 370 (_) (by exact p1) (sizePo.trans (by rw [poC_size])) (by simp only [poC_size]) (poC_all _ _ _) ?_; simp only [Act.put, List.setIfInBounds_toArray, List.set_cons_zero, List.set_cons_succ])
    | fail)
  try simp only [Exit.inBlock, Exit.then]
  refine bodyPost_ret (results_cell_row Tryz.results248 _ _ (w.heap.size + 1) 370 (poC h 0 R) (0, 0) _ rfl (p1.set _) Tryz.underlying370 rfl (sizePo.trans (by rw [poC_size]))) rfl ?_
  exact ⟨rfl, below_setRow hb1 (by omega) _⟩
end Go.Proofs.YtojnlmfahgeidaaGreatDoor

namespace Go.Proofs.YtojnlmfahgeidaaGreatDoor
open Go Go.RowKit
set_option linter.unusedSimpArgs false
set_option linter.unusedVariables false

/-- may a tree be? -/
def trOk (h : Int) (R : Rf) : Prop := rOk R = true ∧ 0 ≤ h ∧ h ≤ 6
instance (h : Int) (R : Rf) : Decidable (trOk h R) := by unfold trOk; infer_instance
set_option maxRecDepth 100000 in
set_option maxHeartbeats 4000000 in
theorem right_ref (h : Int) (R : Rf) (hR : R.1 < 4294967296) (hD : okD R.2) (hok : rOk R = true) (y : Bool) (hy : ∀ w, Calls Tryz.prog 251 #[.int .i64 h] w fun e w1 => e = .returned (.bool y) ∧ w = w1) (w : World) : Calls Tryz.prog 246 #[.agg (trC h R)] w fun x w' => x = .returned (.bool y) ∧ Below w.heap.size w w' := by
  have hz := zero_ref
  have hEn : Hid (∀ w, Calls Tryz.prog 265 #[.agg (rfC R)] w fun e w' => e = .returned (.string (strN (encR R) 36)) ∧ Below w.heap.size w w') := encR_any R hD
  have hDe : Hid (∀ w, Calls Tryz.prog 264 #[.string (strN (encR R) 36), .int .i64 0] w fun e w' => e = .returned (.tuple #[.agg (rfC R), .bool true]) ∧ Below w.heap.size w w') := fun w => by
    have h1 := decodeR_good (strN (encR R) 36) 0 (by rw [strN_size]; unfold maxLen; decide) (by rw [strN_size]; decide) w
    rw [decR_of (strN (encR R) 36) 0 R hR (fun j hj => by rw [Nat.zero_add]; exact strN_at (encR R) 36 j hj (encR_lt R hD j hj))] at h1
    simp only [hok, if_true, Bool.false_eq_true, if_false] at h1
    exact h1
  have hsz : (strN (encR R) 36).size = 36 := strN_size _ _
  have hb1 : Below w.heap.size w (w.alloc (.cells (trC h R) 122)) := below_new1 _ _
  have t1 : Blk (w.alloc (.cells (trC h R) 122)) w.heap.size 122 (trC h R) := Blk.new _ _ _
  have HR1 : Hid ((w.alloc (.cells (trC h R) 122)).rangeAt w.heap.size 1 ((List.range 33).map (rfF R.1 R.2))) := tr_range t1
  clear hok hD hR
  generalize strN (encR R) 36 = sv at *
  go_enter Tryz.func246, Tryz.ntmps246
  go_wp2_with (first
    | (refine wpList_load_blk (by rfl) 120 _ (by rfl) (w.heap.size) (1) 33 (rfF R.1 R.2) (by rfl) _ (by exact HR1.out) Tryz.underlying120 rfl tsizeRef ?_; simp only [Act.put, List.setIfInBounds_toArray, List.set_cons_zero, List.set_cons_succ])
    | fail)
  generalize (w.alloc (.cells (trC h R) 122)) = w1 at *
  refine (hEn.out w1).mono ?_
  rintro x w2 ⟨rfl, hb2⟩
  have t2 := t1.below hb2 t1.lt
  have hb12 : Below w.heap.size w w2 := hb1.trans (hb2.mono hb1.size)
  clear HR1 hb2 t1 hb1
  go_wp2_with fail
  refine (hDe.out w2).mono ?_
  rintro x w3 ⟨rfl, hb3⟩
  have t3 := t2.below hb3 t2.lt
  have hb13 : Below w.heap.size w w3 := hb12.trans (hb3.mono hb12.size)
  have q0 := Blk.new w3 120 (rfC rf0)
  have hb4 : Below w3.heap.size w3 ((w3.alloc (.cells (rfC rf0) 120)).setRow w3.heap.size (rfC R)) := below_setRow (below_new1 _ _) (Nat.le_refl _) _
  have t4 := t3.below hb4 t3.lt
  have z4 : ((w3.alloc (.cells (rfC rf0) 120)).setRow w3.heap.size (rfC R)).cell? ⟨w.heap.size, 0, none⟩ = some (.int .i64 h) := (t4.cell 0).trans (va_at (trF h R) (by decide))
  have hb14 : Below w.heap.size w ((w3.alloc (.cells (rfC rf0) 120)).setRow w3.heap.size (rfC R)) := hb13.trans (hb4.mono hb13.size)
  clear hb4 hb13 hb12 hb3 t2 t3 t4
  go_wp2_with (first
    | (refine wpList_store_row (by rfl) 120 _ _ (by rfl) (w3.heap.size) (rfC R) (by rfl) (by rfl) 120 (_) (by exact q0) (tsizeRef.trans (by rw [rfC_size])) (by simp only [rfC_size]) (rfC_all _) ?_; simp only [Act.put, List.setIfInBounds_toArray, List.set_cons_zero, List.set_cons_succ])
    | fail)
  clear q0
  generalize ((w3.alloc (.cells (rfC rf0) 120)).setRow w3.heap.size (rfC R)) = w4 at *
  refine (hy w4).mono ?_
  rintro x _ ⟨rfl, rfl⟩
  go_wp2_with fail
  go_ret
  exact ⟨rfl, hb14⟩
set_option maxRecDepth 100000 in
set_option maxHeartbeats 4000000 in
theorem right_noref (h : Int) (R : Rf) (hR : R.1 < 4294967296) (hD : okD R.2) (hok : rOk R = false) (w : World) : Calls Tryz.prog 246 #[.agg (trC h R)] w fun x w' => x = .returned (.bool false) ∧ Below w.heap.size w w' := by
  have hz := zero_ref
  have hEn : Hid (∀ w, Calls Tryz.prog 265 #[.agg (rfC R)] w fun e w' => e = .returned (.string (strN (encR R) 36)) ∧ Below w.heap.size w w') := encR_any R hD
  have hDe : Hid (∀ w, Calls Tryz.prog 264 #[.string (strN (encR R) 36), .int .i64 0] w fun e w' => e = .returned (.tuple #[.agg (rfC rf0), .bool false]) ∧ Below w.heap.size w w') := fun w => by
    have h1 := decodeR_good (strN (encR R) 36) 0 (by rw [strN_size]; unfold maxLen; decide) (by rw [strN_size]; decide) w
    rw [decR_of (strN (encR R) 36) 0 R hR (fun j hj => by rw [Nat.zero_add]; exact strN_at (encR R) 36 j hj (encR_lt R hD j hj))] at h1
    simp only [hok, if_true, Bool.false_eq_true, if_false] at h1
    exact h1
  have hsz : (strN (encR R) 36).size = 36 := strN_size _ _
  have hb1 : Below w.heap.size w (w.alloc (.cells (trC h R) 122)) := below_new1 _ _
  have t1 : Blk (w.alloc (.cells (trC h R) 122)) w.heap.size 122 (trC h R) := Blk.new _ _ _
  have HR1 : Hid ((w.alloc (.cells (trC h R) 122)).rangeAt w.heap.size 1 ((List.range 33).map (rfF R.1 R.2))) := tr_range t1
  clear hok hD hR
  generalize strN (encR R) 36 = sv at *
  go_enter Tryz.func246, Tryz.ntmps246
  go_wp2_with (first
    | (refine wpList_load_blk (by rfl) 120 _ (by rfl) (w.heap.size) (1) 33 (rfF R.1 R.2) (by rfl) _ (by exact HR1.out) Tryz.underlying120 rfl tsizeRef ?_; simp only [Act.put, List.setIfInBounds_toArray, List.set_cons_zero, List.set_cons_succ])
    | fail)
  generalize (w.alloc (.cells (trC h R) 122)) = w1 at *
  refine (hEn.out w1).mono ?_
  rintro x w2 ⟨rfl, hb2⟩
  have t2 := t1.below hb2 t1.lt
  have hb12 : Below w.heap.size w w2 := hb1.trans (hb2.mono hb1.size)
  clear HR1 hb2 t1 hb1
  go_wp2_with fail
  refine (hDe.out w2).mono ?_
  rintro x w3 ⟨rfl, hb3⟩
  have t3 := t2.below hb3 t2.lt
  have hb13 : Below w.heap.size w w3 := hb12.trans (hb3.mono hb12.size)
  have q0 := Blk.new w3 120 (rfC rf0)
  have hb4 : Below w3.heap.size w3 ((w3.alloc (.cells (rfC rf0) 120)).setRow w3.heap.size (rfC rf0)) := below_setRow (below_new1 _ _) (Nat.le_refl _) _
  have t4 := t3.below hb4 t3.lt
  have z4 : ((w3.alloc (.cells (rfC rf0) 120)).setRow w3.heap.size (rfC rf0)).cell? ⟨w.heap.size, 0, none⟩ = some (.int .i64 h) := (t4.cell 0).trans (va_at (trF h R) (by decide))
  have hb14 : Below w.heap.size w ((w3.alloc (.cells (rfC rf0) 120)).setRow w3.heap.size (rfC rf0)) := hb13.trans (hb4.mono hb13.size)
  clear hb4 hb13 hb12 hb3 t2 t3 t4
  go_wp2_with (first
    | (refine wpList_store_row (by rfl) 120 _ _ (by rfl) (w3.heap.size) (rfC rf0) (by rfl) (by rfl) 120 (_) (by exact q0) (tsizeRef.trans (by rw [rfC_size])) (by simp only [rfC_size]) (rfC_all _) ?_; simp only [Act.put, List.setIfInBounds_toArray, List.set_cons_zero, List.set_cons_succ])
    | fail)
  go_ret
  exact ⟨rfl, hb14⟩
theorem tright_any (h : Int) (R : Rf) (hR : R.1 < 4294967296) (hD : okD R.2) (w : World) : Calls Tryz.prog 246 #[.agg (trC h R)] w fun x w' => x = .returned (.bool (decide (trOk h R))) ∧ Below w.heap.size w w' := by
  cases hok : rOk R with
  | false =>
    rw [decide_eq_false (fun u : trOk h R => by rw [u.1] at hok; cases hok)]
    exact right_noref h R hR hD hok w
  | true =>
    by_cases hh : 0 ≤ h ∧ h ≤ 6
    · rw [decide_eq_true (show trOk h R from ⟨hok, hh⟩)]
      obtain ⟨n, rfl⟩ : ∃ n : Nat, h = (n : Int) := ⟨h.toNat, by omega⟩
      exact right_ref _ R hR hD hok true (fun w => mayBe_yes n (by omega) w) w
    · rw [decide_eq_false (fun u : trOk h R => hh u.2)]
      exact right_ref h R hR hD hok false (fun w => mayBe_no h (by omega) w) w
set_option maxRecDepth 100000 in
set_option maxHeartbeats 4000000 in
theorem wayTo_ok (h : Int) (R : Rf) (hR : R.1 < 4294967296) (hD : okD R.2) (hok : trOk h R) (l : Int) (q : Nat) (p : Int) (hpq : p = (q : Int)) (hl : 0 ≤ l ∧ l ≤ h) (n : Nat) (hn : h - l = (n : Int)) (hp : q < 4 ^ n) (w : World) : Calls Tryz.prog 228 #[.agg (trC h R), .int .i64 l, .int .i64 p] w fun x w' => ∃ b, x = .returned (.tuple #[.slice (some ⟨b, 0, none⟩) n n, .int .i64 0]) ∧ w.heap.size ≤ b ∧ Blk w' b 3 (va n (iv .i64 (wayN n q))) ∧ Below w.heap.size w w' := by
  have hRi : Hid (∀ w, Calls Tryz.prog 246 #[.agg (trC h R)] w fun x w' => x = .returned (.bool true) ∧ Below w.heap.size w w') := fun w => by
    have := tright_any h R hR hD w
    rw [decide_eq_true hok] at this
    exact this
  have hb1 : Below w.heap.size w (w.alloc (.cells (trC h R) 122)) := below_new1 _ _
  have t1 : Blk (w.alloc (.cells (trC h R) 122)) w.heap.size 122 (trC h R) := Blk.new _ _ _
  have hl0 : ¬ l < 0 := by omega
  have d1 : decide (l < 0) = false := decide_eq_false hl0
  have hl1 : ¬ h < l := by omega
  have d2 : decide (h < l) = false := decide_eq_false hl1
  have hw1 : IntKind.i64.wrap (h - l) = h - l := by
    have := hok.2
    rw [IntKind.wrap_i64]
    omega
  have hw2 : wrap64 (h - l) = h - l := by
    rw [← IntWalk.i64_left]
    exact hw1
  obtain ⟨b1, b2, b3⟩ := hok
  subst hpq
  go_enter Tryz.func228, Tryz.ntmps228
  go_wp2_with (first
    | (refine wpList_load_rowg (by rfl) 122 _ (by rfl) (w.heap.size) (by rfl) 122 (trC h R) (0, 0) _ (by exact t1) Tryz.underlying122 (by rfl) (sizeTr.trans (by rw [trC_size])) ?_; simp only [Act.put, List.setIfInBounds_toArray, List.set_cons_zero, List.set_cons_succ])
    | fail)
  generalize (w.alloc (.cells (trC h R) 122)) = w1 at *
  refine (hRi.out w1).mono ?_
  rintro x w2 ⟨rfl, hb2⟩
  have t2 := t1.below hb2 t1.lt
  have z2 : w2.cell? ⟨w.heap.size, 0, none⟩ = some (.int .i64 h) := (t2.cell 0).trans (va_at (trF h R) (by decide))
  have hb12 : Below w.heap.size w w2 := hb1.trans (hb2.mono hb1.size)
  clear t1 t2 hb2 hb1
  go_wp2_with fail
  refine (way_ok n q (by omega) hp w2).mono ?_
  rintro x w3 ⟨rfl, b3', hb3⟩
  go_wp2_with fail
  go_ret2
  exact ⟨_, rfl, hb12.size, b3', hb12.trans (hb3.mono hb12.size)⟩
section
variable {B g N c m room i : Nat} {F : Nat → Nat} {U : Nat → Prop}
end
end Go.Proofs.YtojnlmfahgeidaaGreatDoor

namespace Go.Proofs.YtojnlmfahgeidaaGreatDoor
open Go Go.RowKit
set_option linter.unusedSimpArgs false
set_option linter.unusedVariables false

/-- a block of an image in the memory -/
def RngB (W : World) (b o : Nat) (f : Nat → Nat) : Prop := W.rangeAt b o ((List.range 256).map (iv .u8 f))
theorem RngB.below {w w' : World} {B b o : Nat} {f : Nat → Nat} (h : RngB w b o f) (hb : Below B w w') (hB : b < B) : RngB w' b o f := range_below h hb hB
section
variable {F : Nat → Nat} {N : Nat}
end
end Go.Proofs.YtojnlmfahgeidaaGreatDoor

namespace Go.Proofs.YtojnlmfahgeidaaGreatDoor
open Go Go.RowKit
theorem gr_build1 {P : Program} {ops : Array Oper} {rest : List Oper} {o : Oper} {a : Act} {w : World} {Q : Exit → Act → World → Prop} (hg : o.guard = none) (t : TypeId) (i : Nat) (x : Operand) (ho : o.op = .build t #[(i, x)]) (vx : Value) (hx : a.eval x = vx)
    (cells : Array Value) (hf : P.built t [(i, vx)] = some cells) (h : wpList P ops Q rest (a.put o.dst (.agg cells)) w) : wpList P ops Q (o :: rest) a w := by
  refine wpList_buildTo hg t _ ho o.dst rfl cells ?_ h
  have e : (Array.map (fun (x : Nat × Operand) => match x with | (i, x) => (i, a.eval x)) #[(i, x)]).toList = [(i, vx)] := by simp [hx]
  rw [e]
  exact hf
end Go.Proofs.YtojnlmfahgeidaaGreatDoor

namespace Go.Proofs.YtojnlmfahgeidaaGreatDoor
open Go Go.RowKit
set_option linter.unusedSimpArgs false
set_option linter.unusedVariables false

/-- a grown tree's cells: the cache, the standing tree, the height, the map, the end -/
def grF (cp : Option Addr) (h : Int) (R : Rf) (hh : Int) (mv : Option Nat) (e : Int) : Nat → Value := fun i => if i = 0 then .pointer cp else if i < 35 then trF h R (i - 1) else if i = 35 then .int .i64 hh else if i = 36 then .map mv else .int .i64 e
def grC (cp : Option Addr) (h : Int) (R : Rf) (hh : Int) (mv : Option Nat) (e : Int) : Array Value := va 38 (grF cp h R hh mv e)
theorem grC_size (cp : Option Addr) (h : Int) (R : Rf) (hh : Int) (mv : Option Nat) (e : Int) : (grC cp h R hh mv e).size = 38 := va_size _ _
theorem built_gr1 (cp : Option Addr) : Tryz.prog.built 268 [(0, .pointer cp)] = some (grC cp 0 rf0 0 none 0) := by kernel_rfl
theorem built_tr0 : Tryz.prog.built 122 [] = some (trC 0 rf0) := by kernel_rfl
section
variable {w : World} {b t : Nat} {cp : Option Addr} {h hh e : Int} {R : Rf} {mv : Option Nat}
theorem gr_c0 (H : Blk w b t (grC cp h R hh mv e)) : w.cell? ⟨b, 0, none⟩ = some (.pointer cp) := H.cv (n := 38) (by decide)
theorem gr_c35 (H : Blk w b t (grC cp h R hh mv e)) : w.cell? ⟨b, 35, none⟩ = some (.int .i64 hh) := H.cv (n := 38) (by decide)
theorem gr_c36 (H : Blk w b t (grC cp h R hh mv e)) : w.cell? ⟨b, 36, none⟩ = some (.map mv) := H.cv (n := 38) (by decide)
theorem gr_c37 (H : Blk w b t (grC cp h R hh mv e)) : w.cell? ⟨b, 37, none⟩ = some (.int .i64 e) := H.cv (n := 38) (by decide)
theorem gr_putTree (H : Blk w b t (grC cp h R hh mv e)) (h' : Int) (R' : Rf) : Blk (w.setCells b 1 (trC h' R').toList) b t (grC cp h' R' hh mv e) := by
  have := Blk.cells_put (n := 38) (trC h' R').toList 1 w (grF cp h R hh mv e) H
  rw [show va 38 (over (grF cp h R hh mv e) 1 (trC h' R').toList) = grC cp h' R' hh mv e from va_congr fun i hi => ?_] at this
  · exact this
  · unfold over trC
    rw [va_toList]
    simp only [List.length_map, List.length_range]
    by_cases hj : 1 ≤ i ∧ i < 1 + 34
    · rw [if_pos hj, List.getD_eq_getElem?_getD, List.getElem?_map, List.getElem?_range (by omega)]
      unfold grF
      rw [if_neg (by omega), if_pos (by omega)]
      rfl
    · rw [if_neg hj]
      unfold grF
      by_cases h0 : i = 0
      · rw [if_pos h0, if_pos h0]
      · have h1 : ¬ i < 35 := by omega
        rw [if_neg h0, if_neg h0, if_neg h1, if_neg h1]
theorem gr_putHeight (H : Blk w b t (grC cp h R hh mv e)) (x : Int) : Blk (w.setCell ⟨b, 35, none⟩ (.int .i64 x)) b t (grC cp h R x mv e) := by
  have := H.put 35 (.int .i64 x)
  rw [show (grC cp h R hh mv e).setIfInBounds 35 (.int .i64 x) = grC cp h R x mv e from ?_] at this
  · exact this
  · unfold grC
    rw [va_set]
    refine va_congr fun i hi => ?_
    unfold upd grF
    by_cases hj : i = 35
    · subst hj
      rfl
    · rw [if_neg hj]
      by_cases h0 : i = 0
      · rw [if_pos h0, if_pos h0]
      · rw [if_neg h0, if_neg h0]
        by_cases h1 : i < 35
        · rw [if_pos h1, if_pos h1]
        · rw [if_neg h1, if_neg h1]
          by_cases h2 : i = 35
          · first | exact absurd h2 hj | rw [if_pos h2, if_pos h2]
          · rw [if_neg h2, if_neg h2]
            all_goals by_cases h3 : i = 36
            all_goals first | exact absurd h3 hj | rw [if_pos h3, if_pos h3] | exact absurd (show i = 37 by omega) hj | rw [if_neg h3, if_neg h3]
theorem gr_putMap (H : Blk w b t (grC cp h R hh mv e)) (x : Option Nat) : Blk (w.setCell ⟨b, 36, none⟩ (.map x)) b t (grC cp h R hh x e) := by
  have := H.put 36 (.map x)
  rw [show (grC cp h R hh mv e).setIfInBounds 36 (.map x) = grC cp h R hh x e from ?_] at this
  · exact this
  · unfold grC
    rw [va_set]
    refine va_congr fun i hi => ?_
    unfold upd grF
    by_cases hj : i = 36
    · subst hj
      rfl
    · rw [if_neg hj]
      by_cases h0 : i = 0
      · rw [if_pos h0, if_pos h0]
      · rw [if_neg h0, if_neg h0]
        by_cases h1 : i < 35
        · rw [if_pos h1, if_pos h1]
        · rw [if_neg h1, if_neg h1]
          by_cases h2 : i = 35
          · first | exact absurd h2 hj | rw [if_pos h2, if_pos h2]
          · rw [if_neg h2, if_neg h2]
            all_goals by_cases h3 : i = 36
            all_goals first | exact absurd h3 hj | rw [if_pos h3, if_pos h3] | exact absurd (show i = 37 by omega) hj | rw [if_neg h3, if_neg h3]
theorem gr_putEnd (H : Blk w b t (grC cp h R hh mv e)) (x : Int) : Blk (w.setCell ⟨b, 37, none⟩ (.int .i64 x)) b t (grC cp h R hh mv x) := by
  have := H.put 37 (.int .i64 x)
  rw [show (grC cp h R hh mv e).setIfInBounds 37 (.int .i64 x) = grC cp h R hh mv x from ?_] at this
  · exact this
  · unfold grC
    rw [va_set]
    refine va_congr fun i hi => ?_
    unfold upd grF
    by_cases hj : i = 37
    · subst hj
      rfl
    · rw [if_neg hj]
      by_cases h0 : i = 0
      · rw [if_pos h0, if_pos h0]
      · rw [if_neg h0, if_neg h0]
        by_cases h1 : i < 35
        · rw [if_pos h1, if_pos h1]
        · rw [if_neg h1, if_neg h1]
          by_cases h2 : i = 35
          · first | exact absurd h2 hj | rw [if_pos h2, if_pos h2]
          · rw [if_neg h2, if_neg h2]
            all_goals by_cases h3 : i = 36
            all_goals first | exact absurd h3 hj | rw [if_pos h3, if_pos h3] | exact absurd (show i = 37 by omega) hj | rw [if_neg h3, if_neg h3]
end
set_option maxRecDepth 100000 in
set_option maxHeartbeats 4000000 in
theorem grCapacity_ok (h c : Nat) (hh : h ≤ 6) (hc : 4 ^ h = c) (w : World) : Calls Tryz.prog 206 #[.int .i64 (h : Int)] w fun x w' => x = .returned (.int .i64 (c : Int)) ∧ w = w' := by
  have hC : Hid (∀ w, Calls Tryz.prog 231 #[.int .i64 (h : Int)] w fun e w' => e = .returned (.tuple #[.int .i64 (c : Int), .int .i64 0]) ∧ w = w') := capacity_ok h c hh hc
  clear hc hh
  go_enter Tryz.func206, Tryz.ntmps206
  go_wp2_with fail
  refine (hC.out _).mono ?_
  rintro e _ ⟨rfl, rfl⟩
  go_wp2_with fail
  go_ret
  exact ⟨rfl, rfl⟩
end Go.Proofs.YtojnlmfahgeidaaGreatDoor
