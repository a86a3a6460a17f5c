/- Blocks loaded within a region that draws its order; blocks that came in as lists of numbers. -/
import Derived.Test.YtaoglljkghkbpabBlkTake
import Derived.Test.YtaoglljkghkbpabSegsIf
import Derived.Test.YtaoglljkghkbpabOpenArray
import Derived.Deep.MidRow
import Derived.OpenShut
namespace Go.Proofs.Ytaoglljkghkbpab
open Go Go.RowKit
set_option linter.unusedVariables false

theorem kblk_range {w : World} {g t n : Nat} {f : Nat → Value} (h : Blk w g t (va n f)) : w.rangeAt g 0 ((List.range n).map f) := fun j v hv => by
  refine h.range 0 n (by omega) j v ?_
  rw [← hv]
  simp
theorem kyields_load {P : Program} {ops : Array Oper} {S : World → Prop} {op : Oper} {a : Act} (hw : Region.wanted op (yielded ops a.tmps) = true) (ty : TypeId) (x : Operand) (ho : op.op = .load ty x)
    (b n : Nat) (f : Nat → Value) (hx : a.eval x = .pointer (some ⟨b, 0, none⟩)) (d : TypeDesc) (t : Nat) (hS : ∀ w, S w → Blk w b t (va n f))
    (hu : P.underlying ty = some d) (hd : d.isRow = true) (hi : (P.info? ty).map (·.size) = some n) : YieldsIf P ops S op (.agg (va n f)) a :=
  yieldsIf_load_mid hw ty x ho b 0 hx _ d (fun w h => kblk_range (hS w h)) hu hd (hi.trans (by simp))
/-- the block that a list of numbers is -/
def listF (l : List Int) : Nat → Nat := fun i => (l.getD i 0).toNat
theorem list_va (n : Nat) (l : List Int) (hl : l.length = n) (hw : ∀ x ∈ l, (Lit.int .u8 x).wf = true) : (l.map (Value.int .u8)).toArray = va n (iv .u8 (listF l)) := by
  refine va_ext (by simp [hl]) fun i hi => ?_
  have hm : l[i]'(by omega) ∈ l := List.getElem_mem _
  have h1 := hw _ hm
  have h2 : 0 ≤ l[i]'(by omega) := by
    have h3 := bounds_u8 h1
    omega
  unfold iv listF
  simp [List.getD_eq_getElem?_getD, hl, hi]
  omega
theorem list_bk (l : List Int) (hl : l.length = 256) (hw : ∀ x ∈ l, (Lit.int .u8 x).wf = true) : Value.agg (l.map (Value.int .u8)).toArray = bkV (listF l) := by
  unfold bkV
  rw [list_va 256 l hl hw]
theorem list_lt (l : List Int) (hw : ∀ x ∈ l, (Lit.int .u8 x).wf = true) (i : Nat) : listF l i < 256 := by
  unfold listF
  rw [List.getD_eq_getElem?_getD]
  by_cases hi : i < l.length
  · rw [List.getElem?_eq_getElem hi]
    have h1 := hw _ (List.getElem_mem hi)
    have h3 := bounds_u8 h1
    simp
    omega
  · rw [List.getElem?_eq_none (by omega)]
    simp
end Go.Proofs.Ytaoglljkghkbpab
