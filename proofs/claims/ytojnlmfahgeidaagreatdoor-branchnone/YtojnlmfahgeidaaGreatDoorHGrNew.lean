/- Grown trees: Stand, New. -/
import Derived.Test.YtojnlmfahgeidaaGreatDoorHTrRead
import Derived.Handy
import Derived.Test.YtojnlmfahgeidaaGreatDoorHBlkGroups
import Derived.Test.YtojnlmfahgeidaaGreatDoorHOrders
import Derived.Test.YtojnlmfahgeidaaGreatDoorHBytes
import Derived.Test.YtojnlmfahgeidaaGreatDoorHMathDigest
import Derived.Deep.RegionWith
import Derived.Deep.DrawnRows
import Derived.Deep.RegionLaw
import Derived.Deep.Heap
import Derived.BigQuiet
import Derived.Deep.QuietTactic
import Derived.Great.BuildSlice
import Derived.Lib.SlBytesConst
import Derived.ArgAppend
import Derived.Test.YtojnlmfahgeidaaGreatDoorHInsFns
import Derived.Test.YtojnlmfahgeidaaGreatDoorProg
import Derived.WideKeyElems
import Derived.Test.YtojnlmfahgeidaaGreatDoorHMathCount
import Derived.Deep.MidRow
import Derived.Deep.DeepCutAuto
import Derived.Deep.Cut
import Derived.Test.YtojnlmfahgeidaaGreatDoorHNaDecode
import Derived.Lib.AppendZerosOnto
import Derived.Lib.Walk

namespace Go.Proofs.YtojnlmfahgeidaaGreatDoor
theorem sgLHGrNew : (∀ (α : Type) (a : α) (l r : List α), (a :: l) ++ r = a :: (l ++ r)) ∧ (∀ (α : Type) (l : List α), [] ++ l = l) ∧ (∀ (α : Type) (l : List α), l ++ [] = l) ∧ (∀ (α β : Type) (f : α → Option β) (a : α) (l : List α), (a :: l).filterMap f = match f a with | none => l.filterMap f | some b => b :: l.filterMap f) ∧ (∀ (α β : Type) (f : α → Option β), [].filterMap f = []) ∧ (∀ (α : Type) (l : List α) (i : Nat), l.toArray[i]? = l[i]?) ∧ (∀ (α : Type) (a : α) (l : List α), (a :: l)[0]? = some a) ∧ (∀ (α : Type) (a : α) (l : List α) (i : Nat), (a :: l)[i + 1]? = l[i]?) :=
  ⟨fun _ _ _ _ => List.cons_append, fun _ _ => List.nil_append _, fun _ _ => List.append_nil _, fun _ _ _ _ _ => List.filterMap_cons, fun _ _ _ => List.filterMap_nil, fun _ _ _ => List.getElem?_toArray, fun _ _ _ => List.getElem?_cons_zero, fun _ _ _ _ => List.getElem?_cons_succ⟩
theorem sgPHGrNew : (∀ (α : Type) (l : List α) (i : Nat) (a : α), l.toArray.setIfInBounds i a = (l.set i a).toArray) ∧ (∀ (α : Type) (a b : α) (l : List α), (a :: l).set 0 b = b :: l) ∧ (∀ (α : Type) (a b : α) (l : List α) (i : Nat), (a :: l).set (i + 1) b = a :: l.set i b) :=
  ⟨fun _ _ _ _ => List.setIfInBounds_toArray _ _ _, fun _ _ _ _ => List.set_cons_zero, fun _ _ _ _ _ => List.set_cons_succ⟩
end Go.Proofs.YtojnlmfahgeidaaGreatDoor
namespace Go.Proofs.YtojnlmfahgeidaaGreatDoor
open Go Go.RowKit
set_option linter.unusedSimpArgs false
set_option linter.unusedVariables false

/-- may a tree be? -/
def trOk (h : Int) (R : Rf) : Prop := rOk R = true ∧ 0 ≤ h ∧ h ≤ 6
instance (h : Int) (R : Rf) : Decidable (trOk h R) := by unfold trOk; infer_instance
set_option maxRecDepth 100000 in
set_option maxHeartbeats 4000000 in
theorem right_ref (h : Int) (R : Rf) (hR : R.1 < 4294967296) (hD : okD R.2) (hok : rOk R = true) (y : Bool) (hy : ∀ w, Calls Tryz.prog 251 #[.int .i64 h] w fun e w1 => e = .returned (.bool y) ∧ w = w1) (w : World) : Calls Tryz.prog 246 #[.agg (trC h R)] w fun x w' => x = .returned (.bool y) ∧ Below w.heap.size w w' := by
  have hz := zero_ref
  have hEn : Hid (∀ w, Calls Tryz.prog 265 #[.agg (rfC R)] w fun e w' => e = .returned (.string (strN (encR R) 36)) ∧ Below w.heap.size w w') := encR_any R hD
  have hDe : Hid (∀ w, Calls Tryz.prog 264 #[.string (strN (encR R) 36), .int .i64 0] w fun e w' => e = .returned (.tuple #[.agg (rfC R), .bool true]) ∧ Below w.heap.size w w') := fun w => by
    have h1 := decodeR_good (strN (encR R) 36) 0 (by rw [strN_size]; unfold maxLen; decide) (by rw [strN_size]; decide) w
    rw [decR_of (strN (encR R) 36) 0 R hR (fun j hj => by rw [Nat.zero_add]; exact strN_at (encR R) 36 j hj (encR_lt R hD j hj))] at h1
    simp only [hok, if_true, Bool.false_eq_true, if_false] at h1
    exact h1
  have hsz : (strN (encR R) 36).size = 36 := strN_size _ _
  have hb1 : Below w.heap.size w (w.alloc (.cells (trC h R) 122)) := below_new1 _ _
  have t1 : Blk (w.alloc (.cells (trC h R) 122)) w.heap.size 122 (trC h R) := Blk.new _ _ _
  have HR1 : Hid ((w.alloc (.cells (trC h R) 122)).rangeAt w.heap.size 1 ((List.range 33).map (rfF R.1 R.2))) := tr_range t1
  clear hok hD hR
  generalize strN (encR R) 36 = sv at *
  go_enter Tryz.func246, Tryz.ntmps246
  go_wp2_with (first
    | (refine wpList_load_blk (by rfl) 120 _ (by rfl) (w.heap.size) (1) 33 (rfF R.1 R.2) (by rfl) _ (by exact HR1.out) Tryz.underlying120 rfl tsizeRef ?_; simp only [Act.put, sgPHGrNew])
    | fail)
  generalize (w.alloc (.cells (trC h R) 122)) = w1 at *
  refine (hEn.out w1).mono ?_
  rintro x w2 ⟨rfl, hb2⟩
  have t2 := t1.below hb2 t1.lt
  have hb12 : Below w.heap.size w w2 := hb1.trans (hb2.mono hb1.size)
  clear HR1 hb2 t1 hb1
  go_wp2_with fail
  refine (hDe.out w2).mono ?_
  rintro x w3 ⟨rfl, hb3⟩
  have t3 := t2.below hb3 t2.lt
  have hb13 : Below w.heap.size w w3 := hb12.trans (hb3.mono hb12.size)
  have q0 := Blk.new w3 120 (rfC rf0)
  have hb4 : Below w3.heap.size w3 ((w3.alloc (.cells (rfC rf0) 120)).setRow w3.heap.size (rfC R)) := below_setRow (below_new1 _ _) (Nat.le_refl _) _
  have t4 := t3.below hb4 t3.lt
  have z4 : ((w3.alloc (.cells (rfC rf0) 120)).setRow w3.heap.size (rfC R)).cell? ⟨w.heap.size, 0, none⟩ = some (.int .i64 h) := (t4.cell 0).trans (va_at (trF h R) (by decide))
  have hb14 : Below w.heap.size w ((w3.alloc (.cells (rfC rf0) 120)).setRow w3.heap.size (rfC R)) := hb13.trans (hb4.mono hb13.size)
  clear hb4 hb13 hb12 hb3 t2 t3 t4
  go_wp2_with (first
    | (refine wpList_store_row (by rfl) 120 _ _ (by rfl) (w3.heap.size) (rfC R) (by rfl) (by rfl) 120 (_) (by exact q0) (tsizeRef.trans (by rw [rfC_size])) (by simp only [rfC_size]) (rfC_all _) ?_; simp only [Act.put, sgPHGrNew])
    | fail)
  clear q0
  generalize ((w3.alloc (.cells (rfC rf0) 120)).setRow w3.heap.size (rfC R)) = w4 at *
  refine (hy w4).mono ?_
  rintro x _ ⟨rfl, rfl⟩
  go_wp2_with fail
  go_ret
  exact ⟨rfl, hb14⟩
set_option maxRecDepth 100000 in
set_option maxHeartbeats 4000000 in
theorem right_noref (h : Int) (R : Rf) (hR : R.1 < 4294967296) (hD : okD R.2) (hok : rOk R = false) (w : World) : Calls Tryz.prog 246 #[.agg (trC h R)] w fun x w' => x = .returned (.bool false) ∧ Below w.heap.size w w' := by
  have hz := zero_ref
  have hEn : Hid (∀ w, Calls Tryz.prog 265 #[.agg (rfC R)] w fun e w' => e = .returned (.string (strN (encR R) 36)) ∧ Below w.heap.size w w') := encR_any R hD
  have hDe : Hid (∀ w, Calls Tryz.prog 264 #[.string (strN (encR R) 36), .int .i64 0] w fun e w' => e = .returned (.tuple #[.agg (rfC rf0), .bool false]) ∧ Below w.heap.size w w') := fun w => by
    have h1 := decodeR_good (strN (encR R) 36) 0 (by rw [strN_size]; unfold maxLen; decide) (by rw [strN_size]; decide) w
    rw [decR_of (strN (encR R) 36) 0 R hR (fun j hj => by rw [Nat.zero_add]; exact strN_at (encR R) 36 j hj (encR_lt R hD j hj))] at h1
    simp only [hok, if_true, Bool.false_eq_true, if_false] at h1
    exact h1
  have hsz : (strN (encR R) 36).size = 36 := strN_size _ _
  have hb1 : Below w.heap.size w (w.alloc (.cells (trC h R) 122)) := below_new1 _ _
  have t1 : Blk (w.alloc (.cells (trC h R) 122)) w.heap.size 122 (trC h R) := Blk.new _ _ _
  have HR1 : Hid ((w.alloc (.cells (trC h R) 122)).rangeAt w.heap.size 1 ((List.range 33).map (rfF R.1 R.2))) := tr_range t1
  clear hok hD hR
  generalize strN (encR R) 36 = sv at *
  go_enter Tryz.func246, Tryz.ntmps246
  go_wp2_with (first
    | (refine wpList_load_blk (by rfl) 120 _ (by rfl) (w.heap.size) (1) 33 (rfF R.1 R.2) (by rfl) _ (by exact HR1.out) Tryz.underlying120 rfl tsizeRef ?_; simp only [Act.put, sgPHGrNew])
    | fail)
  generalize (w.alloc (.cells (trC h R) 122)) = w1 at *
  refine (hEn.out w1).mono ?_
  rintro x w2 ⟨rfl, hb2⟩
  have t2 := t1.below hb2 t1.lt
  have hb12 : Below w.heap.size w w2 := hb1.trans (hb2.mono hb1.size)
  clear HR1 hb2 t1 hb1
  go_wp2_with fail
  refine (hDe.out w2).mono ?_
  rintro x w3 ⟨rfl, hb3⟩
  have t3 := t2.below hb3 t2.lt
  have hb13 : Below w.heap.size w w3 := hb12.trans (hb3.mono hb12.size)
  have q0 := Blk.new w3 120 (rfC rf0)
  have hb4 : Below w3.heap.size w3 ((w3.alloc (.cells (rfC rf0) 120)).setRow w3.heap.size (rfC rf0)) := below_setRow (below_new1 _ _) (Nat.le_refl _) _
  have t4 := t3.below hb4 t3.lt
  have z4 : ((w3.alloc (.cells (rfC rf0) 120)).setRow w3.heap.size (rfC rf0)).cell? ⟨w.heap.size, 0, none⟩ = some (.int .i64 h) := (t4.cell 0).trans (va_at (trF h R) (by decide))
  have hb14 : Below w.heap.size w ((w3.alloc (.cells (rfC rf0) 120)).setRow w3.heap.size (rfC rf0)) := hb13.trans (hb4.mono hb13.size)
  clear hb4 hb13 hb12 hb3 t2 t3 t4
  go_wp2_with (first
    | (refine wpList_store_row (by rfl) 120 _ _ (by rfl) (w3.heap.size) (rfC rf0) (by rfl) (by rfl) 120 (_) (by exact q0) (tsizeRef.trans (by rw [rfC_size])) (by simp only [rfC_size]) (rfC_all _) ?_; simp only [Act.put, sgPHGrNew])
    | fail)
  go_ret
  exact ⟨rfl, hb14⟩
theorem tright_any (h : Int) (R : Rf) (hR : R.1 < 4294967296) (hD : okD R.2) (w : World) : Calls Tryz.prog 246 #[.agg (trC h R)] w fun x w' => x = .returned (.bool (decide (trOk h R))) ∧ Below w.heap.size w w' := by
  cases hok : rOk R with
  | false =>
    rw [decide_eq_false (fun u : trOk h R => by rw [u.1] at hok; cases hok)]
    exact right_noref h R hR hD hok w
  | true =>
    by_cases hh : 0 ≤ h ∧ h ≤ 6
    · rw [decide_eq_true (show trOk h R from ⟨hok, hh⟩)]
      obtain ⟨n, rfl⟩ : ∃ n : Nat, h = (n : Int) := ⟨h.toNat, by omega⟩
      exact right_ref _ R hR hD hok true (fun w => mayBe_yes n (by omega) w) w
    · rw [decide_eq_false (fun u : trOk h R => hh u.2)]
      exact right_ref h R hR hD hok false (fun w => mayBe_no h (by omega) w) w
set_option maxRecDepth 100000 in
set_option maxHeartbeats 4000000 in
theorem wayTo_ok (h : Int) (R : Rf) (hR : R.1 < 4294967296) (hD : okD R.2) (hok : trOk h R) (l : Int) (q : Nat) (p : Int) (hpq : p = (q : Int)) (hl : 0 ≤ l ∧ l ≤ h) (n : Nat) (hn : h - l = (n : Int)) (hp : q < 4 ^ n) (w : World) : Calls Tryz.prog 228 #[.agg (trC h R), .int .i64 l, .int .i64 p] w fun x w' => ∃ b, x = .returned (.tuple #[.slice (some ⟨b, 0, none⟩) n n, .int .i64 0]) ∧ w.heap.size ≤ b ∧ Blk w' b 3 (va n (iv .i64 (wayN n q))) ∧ Below w.heap.size w w' := by
  have hRi : Hid (∀ w, Calls Tryz.prog 246 #[.agg (trC h R)] w fun x w' => x = .returned (.bool true) ∧ Below w.heap.size w w') := fun w => by
    have := tright_any h R hR hD w
    rw [decide_eq_true hok] at this
    exact this
  have hb1 : Below w.heap.size w (w.alloc (.cells (trC h R) 122)) := below_new1 _ _
  have t1 : Blk (w.alloc (.cells (trC h R) 122)) w.heap.size 122 (trC h R) := Blk.new _ _ _
  have hl0 : ¬ l < 0 := by omega
  have d1 : decide (l < 0) = false := decide_eq_false hl0
  have hl1 : ¬ h < l := by omega
  have d2 : decide (h < l) = false := decide_eq_false hl1
  have hw1 : IntKind.i64.wrap (h - l) = h - l := by
    have := hok.2
    rw [IntKind.wrap_i64]
    omega
  have hw2 : wrap64 (h - l) = h - l := by
    rw [← IntWalk.i64_left]
    exact hw1
  obtain ⟨b1, b2, b3⟩ := hok
  subst hpq
  go_enter Tryz.func228, Tryz.ntmps228
  go_wp2_with (first
    | (refine wpList_load_rowg (by rfl) 122 _ (by rfl) (w.heap.size) (by rfl) 122 (trC h R) (0, 0) _ (by exact t1) Tryz.underlying122 (by rfl) (sizeTr.trans (by rw [trC_size])) ?_; simp only [Act.put, sgPHGrNew])
    | fail)
  generalize (w.alloc (.cells (trC h R) 122)) = w1 at *
  refine (hRi.out w1).mono ?_
  rintro x w2 ⟨rfl, hb2⟩
  have t2 := t1.below hb2 t1.lt
  have z2 : w2.cell? ⟨w.heap.size, 0, none⟩ = some (.int .i64 h) := (t2.cell 0).trans (va_at (trF h R) (by decide))
  have hb12 : Below w.heap.size w w2 := hb1.trans (hb2.mono hb1.size)
  clear t1 t2 hb2 hb1
  go_wp2_with fail
  refine (way_ok n q (by omega) hp w2).mono ?_
  rintro x w3 ⟨rfl, b3', hb3⟩
  go_wp2_with fail
  go_ret2
  exact ⟨_, rfl, hb12.size, b3', hb12.trans (hb3.mono hb12.size)⟩
section
variable {B g N c m room i : Nat} {F : Nat → Nat} {U : Nat → Prop}
end
end Go.Proofs.YtojnlmfahgeidaaGreatDoor

namespace Go.Proofs.YtojnlmfahgeidaaGreatDoor
open Go Go.RowKit
set_option linter.unusedSimpArgs false
set_option linter.unusedVariables false

/-- a block of an image in the memory -/
def RngB (W : World) (b o : Nat) (f : Nat → Nat) : Prop := W.rangeAt b o ((List.range 256).map (iv .u8 f))
theorem RngB.below {w w' : World} {B b o : Nat} {f : Nat → Nat} (h : RngB w b o f) (hb : Below B w w') (hB : b < B) : RngB w' b o f := range_below h hb hB
section
variable {F : Nat → Nat} {N : Nat}
end
end Go.Proofs.YtojnlmfahgeidaaGreatDoor

namespace Go.Proofs.YtojnlmfahgeidaaGreatDoor
open Go Go.RowKit
theorem gr_build1 {P : Program} {ops : Array Oper} {rest : List Oper} {o : Oper} {a : Act} {w : World} {Q : Exit → Act → World → Prop} (hg : o.guard = none) (t : TypeId) (i : Nat) (x : Operand) (ho : o.op = .build t #[(i, x)]) (vx : Value) (hx : a.eval x = vx)
    (cells : Array Value) (hf : P.built t [(i, vx)] = some cells) (h : wpList P ops Q rest (a.put o.dst (.agg cells)) w) : wpList P ops Q (o :: rest) a w := by
  refine wpList_buildTo hg t _ ho o.dst rfl cells ?_ h
  have e : (Array.map (fun (x : Nat × Operand) => match x with | (i, x) => (i, a.eval x)) #[(i, x)]).toList = [(i, vx)] := by simp [hx]
  rw [e]
  exact hf
end Go.Proofs.YtojnlmfahgeidaaGreatDoor

namespace Go.Proofs.YtojnlmfahgeidaaGreatDoor
open Go Go.RowKit
set_option linter.unusedSimpArgs false
set_option linter.unusedVariables false

/-- a grown tree's cells: the cache, the standing tree, the height, the map, the end -/
def grF (cp : Option Addr) (h : Int) (R : Rf) (hh : Int) (mv : Option Nat) (e : Int) : Nat → Value := fun i => if i = 0 then .pointer cp else if i < 35 then trF h R (i - 1) else if i = 35 then .int .i64 hh else if i = 36 then .map mv else .int .i64 e
def grC (cp : Option Addr) (h : Int) (R : Rf) (hh : Int) (mv : Option Nat) (e : Int) : Array Value := va 38 (grF cp h R hh mv e)
theorem grC_size (cp : Option Addr) (h : Int) (R : Rf) (hh : Int) (mv : Option Nat) (e : Int) : (grC cp h R hh mv e).size = 38 := va_size _ _
theorem built_gr1 (cp : Option Addr) : Tryz.prog.built 268 [(0, .pointer cp)] = some (grC cp 0 rf0 0 none 0) := by kernel_rfl
theorem built_tr0 : Tryz.prog.built 122 [] = some (trC 0 rf0) := by kernel_rfl
section
variable {w : World} {b t : Nat} {cp : Option Addr} {h hh e : Int} {R : Rf} {mv : Option Nat}
theorem gr_c0 (H : Blk w b t (grC cp h R hh mv e)) : w.cell? ⟨b, 0, none⟩ = some (.pointer cp) := H.cv (n := 38) (by decide)
theorem gr_c35 (H : Blk w b t (grC cp h R hh mv e)) : w.cell? ⟨b, 35, none⟩ = some (.int .i64 hh) := H.cv (n := 38) (by decide)
theorem gr_c36 (H : Blk w b t (grC cp h R hh mv e)) : w.cell? ⟨b, 36, none⟩ = some (.map mv) := H.cv (n := 38) (by decide)
theorem gr_c37 (H : Blk w b t (grC cp h R hh mv e)) : w.cell? ⟨b, 37, none⟩ = some (.int .i64 e) := H.cv (n := 38) (by decide)
theorem gr_putTree (H : Blk w b t (grC cp h R hh mv e)) (h' : Int) (R' : Rf) : Blk (w.setCells b 1 (trC h' R').toList) b t (grC cp h' R' hh mv e) := by
  have := Blk.cells_put (n := 38) (trC h' R').toList 1 w (grF cp h R hh mv e) H
  rw [show va 38 (over (grF cp h R hh mv e) 1 (trC h' R').toList) = grC cp h' R' hh mv e from va_congr fun i hi => ?_] at this
  · exact this
  · unfold over trC
    rw [va_toList]
    simp only [List.length_map, List.length_range]
    by_cases hj : 1 ≤ i ∧ i < 1 + 34
    · rw [if_pos hj, List.getD_eq_getElem?_getD, List.getElem?_map, List.getElem?_range (by omega)]
      unfold grF
      rw [if_neg (by omega), if_pos (by omega)]
      rfl
    · rw [if_neg hj]
      unfold grF
      by_cases h0 : i = 0
      · rw [if_pos h0, if_pos h0]
      · have h1 : ¬ i < 35 := by omega
        rw [if_neg h0, if_neg h0, if_neg h1, if_neg h1]
theorem gr_putHeight (H : Blk w b t (grC cp h R hh mv e)) (x : Int) : Blk (w.setCell ⟨b, 35, none⟩ (.int .i64 x)) b t (grC cp h R x mv e) := by
  have := H.put 35 (.int .i64 x)
  rw [show (grC cp h R hh mv e).setIfInBounds 35 (.int .i64 x) = grC cp h R x mv e from ?_] at this
  · exact this
  · unfold grC
    rw [va_set]
    refine va_congr fun i hi => ?_
    unfold upd grF
    by_cases hj : i = 35
    · subst hj
      rfl
    · rw [if_neg hj]
      by_cases h0 : i = 0
      · rw [if_pos h0, if_pos h0]
      · rw [if_neg h0, if_neg h0]
        by_cases h1 : i < 35
        · rw [if_pos h1, if_pos h1]
        · rw [if_neg h1, if_neg h1]
          by_cases h2 : i = 35
          · first | exact absurd h2 hj | rw [if_pos h2, if_pos h2]
          · rw [if_neg h2, if_neg h2]
            all_goals by_cases h3 : i = 36
            all_goals first | exact absurd h3 hj | rw [if_pos h3, if_pos h3] | exact absurd (show i = 37 by omega) hj | rw [if_neg h3, if_neg h3]
theorem gr_putMap (H : Blk w b t (grC cp h R hh mv e)) (x : Option Nat) : Blk (w.setCell ⟨b, 36, none⟩ (.map x)) b t (grC cp h R hh x e) := by
  have := H.put 36 (.map x)
  rw [show (grC cp h R hh mv e).setIfInBounds 36 (.map x) = grC cp h R hh x e from ?_] at this
  · exact this
  · unfold grC
    rw [va_set]
    refine va_congr fun i hi => ?_
    unfold upd grF
    by_cases hj : i = 36
    · subst hj
      rfl
    · rw [if_neg hj]
      by_cases h0 : i = 0
      · rw [if_pos h0, if_pos h0]
      · rw [if_neg h0, if_neg h0]
        by_cases h1 : i < 35
        · rw [if_pos h1, if_pos h1]
        · rw [if_neg h1, if_neg h1]
          by_cases h2 : i = 35
          · first | exact absurd h2 hj | rw [if_pos h2, if_pos h2]
          · rw [if_neg h2, if_neg h2]
            all_goals by_cases h3 : i = 36
            all_goals first | exact absurd h3 hj | rw [if_pos h3, if_pos h3] | exact absurd (show i = 37 by omega) hj | rw [if_neg h3, if_neg h3]
theorem gr_putEnd (H : Blk w b t (grC cp h R hh mv e)) (x : Int) : Blk (w.setCell ⟨b, 37, none⟩ (.int .i64 x)) b t (grC cp h R hh mv x) := by
  have := H.put 37 (.int .i64 x)
  rw [show (grC cp h R hh mv e).setIfInBounds 37 (.int .i64 x) = grC cp h R hh mv x from ?_] at this
  · exact this
  · unfold grC
    rw [va_set]
    refine va_congr fun i hi => ?_
    unfold upd grF
    by_cases hj : i = 37
    · subst hj
      rfl
    · rw [if_neg hj]
      by_cases h0 : i = 0
      · rw [if_pos h0, if_pos h0]
      · rw [if_neg h0, if_neg h0]
        by_cases h1 : i < 35
        · rw [if_pos h1, if_pos h1]
        · rw [if_neg h1, if_neg h1]
          by_cases h2 : i = 35
          · first | exact absurd h2 hj | rw [if_pos h2, if_pos h2]
          · rw [if_neg h2, if_neg h2]
            all_goals by_cases h3 : i = 36
            all_goals first | exact absurd h3 hj | rw [if_pos h3, if_pos h3] | exact absurd (show i = 37 by omega) hj | rw [if_neg h3, if_neg h3]
end
set_option maxRecDepth 100000 in
set_option maxHeartbeats 4000000 in
theorem grCapacity_ok (h c : Nat) (hh : h ≤ 6) (hc : 4 ^ h = c) (w : World) : Calls Tryz.prog 206 #[.int .i64 (h : Int)] w fun x w' => x = .returned (.int .i64 (c : Int)) ∧ w = w' := by
  have hC : Hid (∀ w, Calls Tryz.prog 231 #[.int .i64 (h : Int)] w fun e w' => e = .returned (.tuple #[.int .i64 (c : Int), .int .i64 0]) ∧ w = w') := capacity_ok h c hh hc
  clear hc hh
  go_enter Tryz.func206, Tryz.ntmps206
  go_wp2_with fail
  refine (hC.out _).mono ?_
  rintro e _ ⟨rfl, rfl⟩
  go_wp2_with fail
  go_ret
  exact ⟨rfl, rfl⟩
end Go.Proofs.YtojnlmfahgeidaaGreatDoor

namespace Go.Proofs.YtojnlmfahgeidaaGreatDoor
open Go Go.RowKit
set_option linter.unusedSimpArgs false
set_option linter.unusedVariables false

set_option maxRecDepth 100000 in
set_option maxHeartbeats 4000000 in
theorem follow_root (h : Int) (R : Rf) (cp sa : Option Addr) (cap : Nat) (fv : Value) (w : World) : Calls Tryz.prog 229 #[.pointer cp, .agg (trC h R), .slice sa 0 cap, fv] w fun x w' => x = .returned (.tuple #[.agg (rfC R), .int .i64 0]) ∧ Below w.heap.size w w' := by
  have hz := zero_ref
  have hzp := zero_po
  have hb1 : Below w.heap.size w ((w.alloc (.cells (trC h R) 122)).alloc (.cells (rfC rf0) 120)) := below_new2 _ _ _
  have t1 : Blk ((w.alloc (.cells (trC h R) 122)).alloc (.cells (rfC rf0) 120)) w.heap.size 122 (trC h R) := (Blk.new _ _ _).alloc _
  have r1 : Blk ((w.alloc (.cells (trC h R) 122)).alloc (.cells (rfC rf0) 120)) (w.heap.size + 1) 120 (rfC rf0) := Blk.new1 _ _ _ _
  go_enter Tryz.func229, Tryz.ntmps229
  go_wp2_with (first
    | (refine wpList_load_rowg (by rfl) 122 _ (by rfl) (w.heap.size) (by rfl) 122 (trC h R) (0, 0) _ (by exact t1) Tryz.underlying122 (by rfl) (sizeTr.trans (by rw [trC_size])) ?_; simp only [Act.put, sgPHGrNew])
    | fail)
  generalize ((w.alloc (.cells (trC h R) 122)).alloc (.cells (rfC rf0) 120)) = w1 at *
  refine (root_any h R w1).mono ?_
  rintro x w2 ⟨rfl, hb2⟩
  have q0 := Blk.new w2 370 (poC 0 0 rf0)
  have q3 := q0.set (poC h 0 R)
  have hb3 : Below w2.heap.size w2 ((w2.alloc (.cells (poC 0 0 rf0) 370)).setRow w2.heap.size (poC h 0 R)) := below_setRow (below_new1 _ _) (Nat.le_refl _) _
  have hb13 : Below w1.heap.size w1 ((w2.alloc (.cells (poC 0 0 rf0) 370)).setRow w2.heap.size (poC h 0 R)) := hb2.trans (hb3.mono hb2.size)
  have r3 := r1.below hb13 r1.lt
  have HB3 : Hid (Below w.heap.size w ((w2.alloc (.cells (poC 0 0 rf0) 370)).setRow w2.heap.size (poC h 0 R))) := hb1.trans (hb13.mono hb1.size)
  clear hb2 hb3 hb13 hb1 t1 r1
  go_wp2_with (first
    | (refine wpList_store_row (by rfl) 370 _ _ (by rfl) (w2.heap.size) (poC h 0 R) (by rfl) (by rfl) 370 (_) (by exact q0) (sizePo.trans (by rw [poC_size])) (by simp only [poC_size]) (poC_all _ _ _) ?_; simp only [Act.put, sgPHGrNew])
    | fail)
  clear q0
  generalize ((w2.alloc (.cells (poC 0 0 rf0) 370)).setRow w2.heap.size (poC h 0 R)) = w3 at *
  generalize w2.heap.size = pb at *
  have HR3 : Hid (w3.rangeAt pb 2 ((List.range 33).map (rfF R.1 R.2))) := po_range q3
  clear q3
  refine wp_loop_rounds 1 ?_
  rw [rounds_succ]
  go_wp2_with (first
    | (refine wpList_load_blk (by rfl) 120 _ (by rfl) (pb) (2) 33 (rfF R.1 R.2) (by rfl) _ (by exact HR3.out) Tryz.underlying120 rfl tsizeRef ?_; simp only [Act.put, sgPHGrNew])
    | (refine wpList_store_row (by rfl) 120 _ _ (by rfl) (w.heap.size + 1) (rfC R) (by rfl) (by rfl) 120 (_) (by exact r3) (tsizeRef.trans (by rw [rfC_size])) (by simp only [rfC_size]) (rfC_all _) ?_; simp only [Act.put, sgPHGrNew])
    | fail)
  try simp only [Exit.inBlock, Exit.then]
  refine bodyPost_ret (results_row2 Tryz.results229 _ _ (w.heap.size + 1) 120 (rfC R) (0, 0) _ rfl (r3.set _) Tryz.underlying120 rfl (tsizeRef.trans (by rw [rfC_size]))) rfl ?_
  exact ⟨rfl, below_setRow HB3.out (by omega) _⟩
set_option maxRecDepth 100000 in
set_option maxHeartbeats 4000000 in
theorem ref_root (h : Int) (R : Rf) (hR : R.1 < 4294967296) (hD : okD R.2) (hok : trOk h R) (cp : Option Addr) (w : World) : Calls Tryz.prog 205 #[.pointer cp, .agg (trC h R), .int .i64 h, .int .i64 0] w fun x w' => x = .returned (.tuple #[.agg (rfC R), .int .i64 0]) ∧ Below w.heap.size w w' := by
  have hz := zero_ref
  have hb1 : Below w.heap.size w ((w.alloc (.cells (trC h R) 122)).alloc (.cells (rfC rf0) 120)) := below_new2 _ _ _
  have t1 : Blk ((w.alloc (.cells (trC h R) 122)).alloc (.cells (rfC rf0) 120)) w.heap.size 122 (trC h R) := (Blk.new _ _ _).alloc _
  have r1 : Blk ((w.alloc (.cells (trC h R) 122)).alloc (.cells (rfC rf0) 120)) (w.heap.size + 1) 120 (rfC rf0) := Blk.new1 _ _ _ _
  have HW : Hid (∀ w, Calls Tryz.prog 228 #[.agg (trC h R), .int .i64 h, .int .i64 0] w fun x w' => ∃ b, x = .returned (.tuple #[.slice (some ⟨b, 0, none⟩) 0 0, .int .i64 0]) ∧ w.heap.size ≤ b ∧ Blk w' b 3 (va 0 (iv .i64 (wayN 0 0))) ∧ Below w.heap.size w w') := fun w => wayTo_ok h R hR hD hok h 0 0 rfl ⟨hok.2.1, Int.le_refl _⟩ 0 (by omega) (by decide) w
  clear hR hD hok
  go_enter Tryz.func205, Tryz.ntmps205
  go_wp2_with (first
    | (refine wpList_load_rowg (by rfl) 122 _ (by rfl) (w.heap.size) (by rfl) 122 (trC h R) (0, 0) _ (by exact t1) Tryz.underlying122 (by rfl) (sizeTr.trans (by rw [trC_size])) ?_; simp only [Act.put, sgPHGrNew])
    | fail)
  generalize ((w.alloc (.cells (trC h R) 122)).alloc (.cells (rfC rf0) 120)) = w1 at *
  refine (HW.out w1).mono ?_
  rintro x w2 ⟨b, rfl, hbb, kb, hb2⟩
  have r2 := r1.below hb2 r1.lt
  have t2 := t1.below hb2 t1.lt
  have HB2 : Hid (Below w.heap.size w w2) := hb1.trans (hb2.mono hb1.size)
  clear hb1 hb2 t1 r1 hbb kb
  go_wp2_with (first
    | (refine wpList_load_rowg (by rfl) 122 _ (by rfl) (w.heap.size) (by rfl) 122 (trC h R) (0, 0) _ (by exact t2) Tryz.underlying122 (by rfl) (sizeTr.trans (by rw [trC_size])) ?_; simp only [Act.put, sgPHGrNew])
    | fail)
  refine (follow_root h R cp _ 0 _ w2).mono ?_
  rintro x w3 ⟨rfl, hb3⟩
  have r4 := r2.below hb3 r2.lt
  have HB4 : Hid (Below w.heap.size w w3) := HB2.out.trans (hb3.mono HB2.out.size)
  clear hb3 r2 t2 HB2
  go_wp2_with (first
    | (refine wpList_store_row (by rfl) 120 _ _ (by rfl) (w.heap.size + 1) (rfC R) (by rfl) (by rfl) 120 (_) (by exact r4) (tsizeRef.trans (by rw [rfC_size])) (by simp only [rfC_size]) (rfC_all _) ?_; simp only [Act.put, sgPHGrNew])
    | fail)
  try simp only [Exit.inBlock, Exit.then]
  refine bodyPost_ret (results_row2 Tryz.results205 _ _ (w.heap.size + 1) 120 (rfC R) (0, 0) _ rfl (r4.set _) Tryz.underlying120 rfl (tsizeRef.trans (by rw [rfC_size]))) rfl ?_
  exact ⟨rfl, below_setRow HB4.out (by omega) _⟩
set_option maxRecDepth 100000 in
set_option maxHeartbeats 4000000 in
theorem stand_ok {cp : Option Addr} {h0 hh0 e0 : Int} {R0 : Rf} {mv0 : Option Nat} (n c : Nat) (hn : n ≤ 6) (hc : 4 ^ n = c) (R R1 : Rf) (g : Nat) (hrf : ∀ w, Calls Tryz.prog 205 #[.pointer cp, .agg (trC (n : Int) R), .int .i64 (n : Int), .int .i64 0] w fun x w' => x = .returned (.tuple #[.agg (rfC R1), .int .i64 0]) ∧ Below w.heap.size w w') (w : World) (hg : Blk w g 268 (grC cp h0 R0 hh0 mv0 e0)) :
    Calls Tryz.prog 151 #[.pointer (some ⟨g, 0, none⟩), .agg (trC (n : Int) R)] w fun x w' => x = .returned (.int .i64 0) ∧ ∃ m, w.heap.size ≤ m ∧ (∃ k, w'.heap[m]? = some (.map #[] k)) ∧ Blk w' g 268 (grC cp (n : Int) R (n : Int) (some m) (c : Int)) ∧ Below g w w' := by
  have HC : Hid (∀ w, Calls Tryz.prog 206 #[.int .i64 (n : Int)] w fun x w' => x = .returned (.int .i64 (c : Int)) ∧ w = w') := grCapacity_ok n c hn hc
  clear hn hc
  have hz := zero_ref
  have hRef : Hid (∀ w, Calls Tryz.prog 205 #[.pointer cp, .agg (trC (n : Int) R), .int .i64 (n : Int), .int .i64 0] w fun x w' => x = .returned (.tuple #[.agg (rfC R1), .int .i64 0]) ∧ Below w.heap.size w w') := hrf
  have HB1 : Hid (Below w.heap.size w (w.alloc (.cells (trC (n : Int) R) 122))) := below_new1 w _
  have t1 : Blk (w.alloc (.cells (trC (n : Int) R) 122)) w.heap.size 122 (trC (n : Int) R) := Blk.new w _ _
  have g1 : Blk (w.alloc (.cells (trC (n : Int) R) 122)) g 268 (grC cp h0 R0 hh0 mv0 e0) := hg.alloc _
  have HGL : Hid (g < w.heap.size) := hg.lt
  clear hg hrf
  go_enter Tryz.func151, Tryz.ntmps151
  go_wp2_with fail
  generalize (w.alloc (.cells (trC (n : Int) R) 122)) = w1 at *
  go_cut [6] (fun v6 wx => v6 = .int .i64 0 ∧ Blk wx g 268 (grC cp h0 R0 hh0 mv0 e0) ∧ Blk wx w.heap.size 122 (trC (n : Int) R) ∧ Below w1.heap.size w1 wx)
  case first =>
    have hS0 : Blk w1.drew g 268 (grC cp h0 R0 hh0 mv0 e0) ∧ Blk w1.drew w.heap.size 122 (trC (n : Int) R) := ⟨g1, t1⟩
    have hwd : Below w1.heap.size w1 w1.drew := (Below.refl _ _).drew
    have HWS : Hid (w1.drew.heap.size = w1.heap.size) := rfl
    refine wp_region_plan (fun W => Blk W g 268 (grC cp h0 R0 hh0 mv0 e0) ∧ Blk W w.heap.size 122 (trC (n : Int) R)) (.yield [0] 1 (.yield [] 2 (.yield [] 3 (.yield [] 4 (.yield [] 5 (.yield [] 6 (.fork 7 11 (.force [8, 9, 10] 11 (.force [] 12 (.fin [13]))) (.force [] 7 (.force [8, 10] 9 (.force [] 12 (.fin [13]))))))))))) (by kernel_rfl) (by kernel_rfl) hS0 (plan_yield ?_)
    generalize w1.drew = wd at *
    simp only [sgLHGrNew]
    go_wp2_with fail
    refine ⟨rfl, _, .pointer (some ⟨g, 0, none⟩), rfl, Or.inl ⟨by rfl, fun W hW => by go_simp⟩, plan_yield ?_⟩
    simp only [Act.put, sgPHGrNew]
    simp only [sgLHGrNew]
    go_wp2_with fail
    refine ⟨rfl, _, .pointer (some ⟨g, 0, none⟩), rfl, Or.inl ⟨by rfl, fun W hW => by go_simp⟩, plan_yield ?_⟩
    simp only [Act.put, sgPHGrNew]
    simp only [sgLHGrNew]
    go_wp2_with fail
    refine ⟨rfl, _, .pointer cp, rfl, Or.inl ⟨by rfl, fun W hW => by have hW1 := gr_c0 hW.1; go_simp⟩, plan_yield ?_⟩
    simp only [Act.put, sgPHGrNew]
    simp only [sgLHGrNew]
    go_wp2_with fail
    refine ⟨rfl, _, .agg (trC (n : Int) R), rfl, kyields_load (by rfl) 122 _ (by rfl) w.heap.size 34 (trF (n : Int) R) (by rfl) _ 122 (fun W hW => hW.2) Tryz.underlying122 rfl sizeTr, plan_yield ?_⟩
    simp only [Act.put, sgPHGrNew]
    simp only [sgLHGrNew]
    go_wp2_with fail
    refine ⟨rfl, _, .pointer (some ⟨w.heap.size, 0, none⟩), rfl, Or.inl ⟨by rfl, fun W hW => by go_simp⟩, plan_yield ?_⟩
    simp only [Act.put, sgPHGrNew]
    simp only [sgLHGrNew]
    go_wp2_with fail
    refine ⟨rfl, _, .int .i64 (n : Int), rfl, Or.inl ⟨by rfl, fun W hW => by have hW1 : W.cell? ⟨w.heap.size, 0, none⟩ = some (.int .i64 (n : Int)) := hW.2.cv (n := 34) (by decide); go_simp⟩, plan_fork ?_ ?_⟩
    simp only [Act.put, sgPHGrNew]
    · simp only [sgLHGrNew]
      go_wp2_with fail
      refine (hRef.out _).mono ?_
      rintro e w2 ⟨rfl, hb2⟩
      have s2g := hS0.1.below hb2 hS0.1.lt
      have s2t := hS0.2.below hb2 hS0.2.lt
      go_wp2_with fail
      refine ⟨rfl, ⟨s2g, s2t⟩, plan_force ?_⟩
      simp only [sgLHGrNew]
      have q0 := Blk.new w2 120 (rfC rf0)
      go_wp2_with fail
      refine ⟨rfl, ⟨s2g.alloc _, s2t.alloc _⟩, plan_force ?_⟩
      simp only [sgLHGrNew]
      refine wpList_store_row (by rfl) 120 _ _ (by rfl) (w2.heap.size) (rfC R1) (by rfl) (by rfl) 120 (rfC rf0) q0 (tsizeRef.trans (by rw [rfC_size])) (by simp only [rfC_size]) (rfC_all _) ?_
      simp only [Act.put, sgPHGrNew]
      go_wp2_with fail
      refine ⟨rfl, ⟨(s2g.alloc _).other _ (Nat.ne_of_lt s2g.lt), (s2t.alloc _).other _ (Nat.ne_of_lt s2t.lt)⟩, plan_fin ?_⟩
      simp only [sgLHGrNew]
      go_wp2_with fail
      refine ⟨rfl, ?_⟩
      go_wp2_with fail
      go_meet
      have hws := HWS.out
      have hbx := hwd.trans (hb2.mono (B' := w1.heap.size) (by omega))
      exact ⟨rfl, (s2g.alloc _).other _ (Nat.ne_of_lt s2g.lt), (s2t.alloc _).other _ (Nat.ne_of_lt s2t.lt), below_setRow (hbx.alloc hbx.size _) hbx.size _⟩
    · simp only [sgLHGrNew]
      have q0 := Blk.new wd 120 (rfC rf0)
      go_wp2_with fail
      refine ⟨rfl, ⟨hS0.1.alloc _, hS0.2.alloc _⟩, plan_force ?_⟩
      simp only [sgLHGrNew]
      go_wp2_with fail
      refine (hRef.out _).mono ?_
      rintro e w2 ⟨rfl, hb2⟩
      have s2g := (hS0.1.alloc _).below hb2 (hS0.1.alloc _).lt
      have s2t := (hS0.2.alloc _).below hb2 (hS0.2.alloc _).lt
      have q2 := q0.below hb2 q0.lt
      have hb3 : Below wd.heap.size wd w2 := (below_new1 wd _).trans (hb2.mono (by simp))
      go_wp2_with fail
      refine ⟨rfl, ⟨s2g, s2t⟩, plan_force ?_⟩
      simp only [sgLHGrNew]
      go_wp2_with fail
      refine ⟨rfl, ⟨s2g, s2t⟩, plan_force ?_⟩
      simp only [sgLHGrNew]
      refine wpList_store_row (by rfl) 120 _ _ (by rfl) (wd.heap.size) (rfC R1) (by rfl) (by rfl) 120 (rfC rf0) q2 (tsizeRef.trans (by rw [rfC_size])) (by simp only [rfC_size]) (rfC_all _) ?_
      simp only [Act.put, sgPHGrNew]
      go_wp2_with fail
      refine ⟨rfl, ⟨s2g.other _ (Nat.ne_of_lt hS0.1.lt), s2t.other _ (Nat.ne_of_lt hS0.2.lt)⟩, plan_fin ?_⟩
      simp only [sgLHGrNew]
      go_wp2_with fail
      refine ⟨rfl, ?_⟩
      go_wp2_with fail
      go_meet
      have hws := HWS.out
      have hbx := hwd.trans (hb3.mono (B' := w1.heap.size) (by omega))
      exact ⟨rfl, s2g.other _ (Nat.ne_of_lt hS0.1.lt), s2t.other _ (Nat.ne_of_lt hS0.2.lt), below_setRow hbx (by omega) _⟩
  case rest =>
    obtain ⟨rfl, g3, t3, hb3⟩ := hcut
    rename World => w3
    have HB3 : Hid (Below w.heap.size w w3) := HB1.out.trans (hb3.mono HB1.out.size)
    have HG3 : Hid (Blk w3.drew g 268 (grC cp h0 R0 hh0 mv0 e0)) := g3
    have HT3 : Hid (Blk w3.drew w.heap.size 122 (trC (n : Int) R)) := t3
    have HTH : Hid (w3.drew.there g 1 34) := Blk.there HG3.out 1 34 (by rw [grC_size]; decide)
    have HG4 : Hid (Blk (w3.drew.setCells g 1 (trC (n : Int) R).toList) g 268 (grC cp (n : Int) R hh0 mv0 e0)) := gr_putTree HG3.out _ _
    have HT4 : Hid (Blk (w3.drew.setCells g 1 (trC (n : Int) R).toList) w.heap.size 122 (trC (n : Int) R)) := Blk.cells_other (Nat.ne_of_gt HGL.out) _ _ _ HT3.out
    have c35 := gr_c35 HG4.out
    have f35 : (w3.drew.setCells g 1 (trC (n : Int) R).toList).frozen? ⟨g, 35, none⟩ = false := HG4.out.frozen 35
    clear g1 t1 hb3 g3 t3 HB1 hRef hz
    go_wp2_with fail
    refine wp_region_partsS (fun W => Blk W w.heap.size 122 (trC (n : Int) R)) [([0, 1], 2, true), ([], 3, true), ([], 4, true), ([], 5, false), ([], 6, false), ([], 7, false), ([], 8, false), ([], 9, false)] [] [10] (by kernel_rfl) (by kernel_rfl) HT3.out (partsI_yield ?_)
    simp only [sgLHGrNew]
    go_wp2_with fail
    refine ⟨rfl, _, .agg (trC (n : Int) R), rfl, kyields_load (by rfl) 122 _ (by rfl) w.heap.size 34 (trF (n : Int) R) (by rfl) _ 122 (fun W hW => hW) Tryz.underlying122 rfl sizeTr, partsI_yield ?_⟩
    simp only [Act.put, sgPHGrNew]
    simp only [sgLHGrNew]
    go_wp2_with fail
    refine ⟨rfl, _, .pointer (some ⟨w.heap.size, 0, none⟩), rfl, Or.inl ⟨by rfl, fun W hW => by go_simp⟩, partsI_yield ?_⟩
    simp only [Act.put, sgPHGrNew]
    simp only [sgLHGrNew]
    go_wp2_with fail
    refine ⟨rfl, _, .int .i64 (n : Int), rfl, Or.inl ⟨by rfl, fun W hW => by have hW1 : W.cell? ⟨w.heap.size, 0, none⟩ = some (.int .i64 (n : Int)) := hW.cv (n := 34) (by decide); go_simp⟩, partsI_force ?_⟩
    simp only [Act.put, sgPHGrNew]
    simp only [sgLHGrNew]
    go_wp2_with fail
    refine ⟨rfl, HT3.out, partsI_force ?_⟩
    simp only [sgLHGrNew]
    go_wp2_with fail
    refine ⟨rfl, HT3.out, partsI_force ?_⟩
    simp only [sgLHGrNew]
    refine wpList_store_mid (by rfl) 122 _ _ (by rfl) g 1 (trC (n : Int) R) (by rfl) (by rfl) (by rw [trC_size]; exact HTH.out) (by rw [trC_size]; exact sizeTr) (trC_all _ _) ?_
    simp only [Act.put, sgPHGrNew]
    go_wp2_with fail
    refine ⟨rfl, HT4.out, partsI_force ?_⟩
    simp only [sgLHGrNew]
    go_wp2_with fail
    refine ⟨rfl, HT4.out, partsI_force ?_⟩
    simp only [sgLHGrNew]
    go_wp2_with fail
    refine ⟨rfl, HT4.out, partsI_last ?_⟩
    simp only [sgLHGrNew]
    have HG5 : Hid (Blk ((w3.drew.setCells g 1 (trC (n : Int) R).toList).setCell ⟨g, 35, none⟩ (.int .i64 (n : Int))) g 268 (grC cp (n : Int) R (n : Int) mv0 e0)) := gr_putHeight HG4.out _
    have HT5 : Hid (Blk ((w3.drew.setCells g 1 (trC (n : Int) R).toList).setCell ⟨g, 35, none⟩ (.int .i64 (n : Int))) w.heap.size 122 (trC (n : Int) R)) := HT4.out.put_other _ _ (Nat.ne_of_gt HGL.out)
    have HB5 : Hid (Below g w ((w3.drew.setCells g 1 (trC (n : Int) R).toList).setCell ⟨g, 35, none⟩ (.int .i64 (n : Int)))) := (below_setCells (Nat.le_refl _) _ _ _ (HB3.out.mono (Nat.le_of_lt HGL.out)).drew).setCell (Nat.le_refl _) _
    go_wp2_with fail
    refine ⟨rfl, ?_⟩
    clear HB3 HG3 HT3 HTH HG4 HT4 c35 f35
    generalize ((w3.drew.setCells g 1 (trC (n : Int) R).toList).setCell ⟨g, 35, none⟩ (.int .i64 (n : Int))) = w4 at *
    have c36 : w4.cell? ⟨g, 36, none⟩ = some (.map mv0) := gr_c36 HG5.out
    have f36 : w4.frozen? ⟨g, 36, none⟩ = false := HG5.out.frozen 36
    have ct : w4.cell? ⟨w.heap.size, 0, none⟩ = some (.int .i64 (n : Int)) := HT5.out.cv (n := 34) (by decide)
    have HGL4 : Hid (g < w4.heap.size) := HG5.out.lt
    have HWL4 : Hid (w.heap.size < w4.heap.size) := HT5.out.lt
    have hgl4 := HGL4.out
    have hwl4 := HWL4.out
    have hmm := @run_makeMap Tryz.prog
    go_wp2_with fail
    have HG6 : Hid (Blk ((w4.setCell ⟨g, 36, none⟩ (.map (some w4.heap.size))).alloc (.map #[] 0)) g 268 (grC cp (n : Int) R (n : Int) (some w4.heap.size) e0)) := (gr_putMap HG5.out _).alloc _
    have HM6 : Hid (((w4.setCell ⟨g, 36, none⟩ (.map (some w4.heap.size))).alloc (.map #[] 0)).heap[w4.heap.size]? = some (.map #[] 0)) := by
      have := heap_alloc_new (w4.setCell ⟨g, 36, none⟩ (.map (some w4.heap.size))) (.map #[] 0)
      rw [World.size_setCell] at this
      exact this
    have HB6 : Hid (Below g w ((w4.setCell ⟨g, 36, none⟩ (.map (some w4.heap.size))).alloc (.map #[] 0))) := (HB5.out.setCell (Nat.le_refl _) _).alloc (by rw [World.size_setCell]; exact Nat.le_of_lt HGL4.out) _
    clear HB5 HG5 HT5 c36 f36 ct hgl4 hwl4 hmm
    generalize ((w4.setCell ⟨g, 36, none⟩ (.map (some w4.heap.size))).alloc (.map #[] 0)) = w6 at *
    generalize w4.heap.size = m at *
    refine (HC.out _).mono ?_
    rintro e _ ⟨rfl, rfl⟩
    have c37 : w6.cell? ⟨g, 37, none⟩ = some (.int .i64 e0) := gr_c37 HG6.out
    have f37 : w6.frozen? ⟨g, 37, none⟩ = false := HG6.out.frozen 37
    go_wp2_with fail
    go_ret
    exact ⟨rfl, m, Nat.le_of_lt HWL4.out, ⟨0, (Deep.blk_setCell_other w6 ⟨g, 37, none⟩ _ m (Nat.ne_of_gt HGL4.out)).trans HM6.out⟩, gr_putEnd HG6.out _, HB6.out.setCell (Nat.le_refl _) _⟩
set_option maxRecDepth 100000 in
set_option maxHeartbeats 4000000 in
theorem new_ok (n c : Nat) (hc : 4 ^ n = c) (h : Int) (hh : h = (n : Int)) (R : Rf) (hR : R.1 < 4294967296) (hD : okD R.2) (hok : trOk h R) (cp : Option Addr) (w : World) : Calls Tryz.prog 106 #[.pointer cp, .agg (trC h R)] w fun x w' => ∃ g m, x = .returned (.tuple #[.pointer (some ⟨g, 0, none⟩), .int .i64 0]) ∧ w.heap.size ≤ g ∧ g < m ∧ (∃ k, w'.heap[m]? = some (.map #[] k)) ∧ Blk w' g 268 (grC cp h R h (some m) (c : Int)) ∧ Below w.heap.size w w' := by
  have HSt : Hid (∀ w g, Blk w g 268 (grC cp 0 rf0 0 none 0) → Calls Tryz.prog 151 #[.pointer (some ⟨g, 0, none⟩), .agg (trC h R)] w fun x w' => x = .returned (.int .i64 0) ∧ ∃ m, w.heap.size ≤ m ∧ (∃ k, w'.heap[m]? = some (.map #[] k)) ∧ Blk w' g 268 (grC cp h R h (some m) (c : Int)) ∧ Below g w w') := fun w g h1 => by
    subst hh
    exact stand_ok n c (by have := hok.2; omega) hc R R g (fun w => ref_root (n : Int) R hR hD hok cp w) w h1
  clear hR hD hok hc hh
  have HBt : Hid (Tryz.prog.built 268 [(0, .pointer cp)] = some (grC cp 0 rf0 0 none 0)) := built_gr1 cp
  have HB1 : Hid (Below w.heap.size w ((w.alloc (.cells (trC h R) 122)).alloc (.cells (grC cp 0 rf0 0 none 0) 268))) := below_new2 w _ _
  have t1 : Blk ((w.alloc (.cells (trC h R) 122)).alloc (.cells (grC cp 0 rf0 0 none 0) 268)) w.heap.size 122 (trC h R) := (Blk.new w _ _).alloc _
  have HG1 : Hid (Blk ((w.alloc (.cells (trC h R) 122)).alloc (.cells (grC cp 0 rf0 0 none 0) 268)) (w.heap.size + 1) 268 (grC cp 0 rf0 0 none 0)) := Blk.new1 w _ _ _
  go_enter Tryz.func106, Tryz.ntmps106
  go_wp2_with (first
    | (refine gr_build1 (by rfl) 268 0 _ (by rfl) (.pointer cp) (by rfl) (grC cp 0 rf0 0 none 0) (by exact HBt.out) ?_; simp only [Act.put, sgPHGrNew])
    | (refine wpList_load_rowg (by rfl) 122 _ (by rfl) (w.heap.size) (by rfl) 122 (trC h R) (0, 0) _ (by exact t1) Tryz.underlying122 (by rfl) (sizeTr.trans (by rw [trC_size])) ?_; simp only [Act.put, sgPHGrNew])
    | fail)
  generalize ((w.alloc (.cells (trC h R) 122)).alloc (.cells (grC cp 0 rf0 0 none 0) 268)) = w1 at *
  refine (HSt.out _ _ HG1.out).mono ?_
  rintro e w2 ⟨rfl, m, hm, hk, hg2, hb2⟩
  have HB2 : Hid (Below w.heap.size w w2) := HB1.out.trans (hb2.mono (by omega))
  have HM : Hid (w.heap.size + 1 < m) := Nat.lt_of_lt_of_le HG1.out.lt hm
  have HK : Hid (∃ k, w2.heap[m]? = some (.map #[] k)) := hk
  have HG2 : Hid (Blk w2 (w.heap.size + 1) 268 (grC cp h R h (some m) (c : Int))) := hg2
  clear hb2 hm hk hg2
  go_wp2_with fail
  go_ret2
  exact ⟨_, m, rfl, by omega, HM.out, HK.out, HG2.out, HB2.out⟩
end Go.Proofs.YtojnlmfahgeidaaGreatDoor
