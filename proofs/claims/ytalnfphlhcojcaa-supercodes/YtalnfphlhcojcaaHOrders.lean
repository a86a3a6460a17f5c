/- A region that draws its order, walked in one order: where each operation that is taken ahead of its turn yields its value in whatever world, or reads while those that may come before it read only, or is the only one that may come up, one walk in the order that is named serves every order. No program in it. -/
import Derived.OpenShut
import Derived.Laws.BitsAllLaws
import Derived.Laws.Bits64
import Derived.Laws.Rows
import Derived.Laws.Tables
import Derived.Laws.CopyOwn
import Derived.Below
import Derived.Deep.MidRow
import Derived.Test.YtalnfphlhcojcaaRows
import Derived.ChangeKeysEq
import Derived.WalkKit
import Derived.Laws.BytesArg
import Derived.Laws.ResultCell
import Derived.Handy
import Derived.OrdersHeld
import Derived.Tactics
import Derived.Laws.World

namespace Go.Proofs.Ytalnfphlhcojcaa
open Go Go.ChangeShapes Go.WideShapes

section
variable {H : Type} {enc : TypeId × Value → H} {P : Program} {w : World} {base : Nat} {spare : Nat → Bool} {held : Bool}

theorem okWide_array {r : Reach} {b0 : Nat} {t e : TypeId} {n : Nat} {v : Value} (ht : P.underlying t = some (.array n e)) (h : Value.okWide P w r b0 t v) : ∃ cs, v = .agg cs ∧ cs.size = P.cellsOf t := by
  simp only [Value.okWide, ht] at h
  obtain ⟨cs, h1, h2, _⟩ := h
  exact ⟨cs, h1, h2⟩

theorem mapM_same {α β : Type} {f g : α → Option β} : ∀ {l : List α}, (∀ x ∈ l, f x = g x) → l.mapM f = l.mapM g
  | [], _ => rfl
  | a :: l, h => by
    simp only [List.mapM_cons]
    rw [h a (by simp), mapM_same fun x hx => h x (by simp [hx])]

theorem trod_int_any {k : IntKind} {e : TypeId} (he : P.underlying e = some (.int k)) {m : Nat} {cs : List Value} {x : DataW H × List MemPlace} (h : DataW.trod enc P w base spare held m e cs = some x)
    (w1 : World) (sp : Nat → Bool) : DataW.trod enc P w1 base sp held m e cs = some x := by
  cases m with
  | zero => simp [DataW.trod] at h
  | succ m =>
    obtain ⟨n, rfl, rfl, hw⟩ := DataW.trod_int he h
    simp [DataW.trod, he, hw]

theorem open_ints {r : Reach} {b0 : Nat} {t e : TypeId} {n : Nat} {k : IntKind} {v : Value} {d : DataW H} {p : List MemPlace} (ht : P.underlying t = some (.array n e)) (he : P.underlying e = some (.int k)) (hce : P.cellsOf e = 1) (hct : P.cellsOf t = n)
    (hv : Value.okWide P w r b0 t v) (h : DataW.Trod enc P w base spare held t v d p) :
    ∃ xs : List Int, xs.length = n ∧ v = .agg (xs.map (Value.int k)).toArray ∧ (∀ x ∈ xs, (Lit.int k x).wf = true) ∧ p = [] ∧ ∀ (w1 : World) (sp : Nat → Bool), DataW.Trod enc P w1 base sp held t v d [] := by
  obtain ⟨cs, rfl, hsz⟩ := okWide_array ht hv
  obtain ⟨fuel, hf⟩ := h
  obtain ⟨xs, m, rfl, hx, hl, hn, hall⟩ := DataW.trod_array ht hf
  have hl' : (Value.agg cs).cells.toList.length = n := hl.trans hct
  have hcs : (Value.agg cs).cells = cs := rfl
  rw [hcs] at hl' hall hf
  have elem : ∀ i, i < n → ∃ z : Int, cs.toList[i]? = some (.int k z) ∧ xs[i]? = some (.lit (.int k z), []) ∧ (Lit.int k z).wf = true := fun i hi => by
    have h1 := hall i hi
    have hget : xs[i]? = some xs[i] := List.getElem?_eq_getElem (by omega)
    rw [hget, hce, Nat.mul_one] at h1
    obtain ⟨z, hz, hz2, hz3⟩ := DataW.trod_int he h1
    refine ⟨z, ?_, by rw [hget, hz2], hz3⟩
    have h2 : (cs.toList.drop i).head? = some (.int k z) := by
      cases hd : cs.toList.drop i with
      | nil => rw [hd] at hz; simp at hz
      | cons a l => rw [hd] at hz; simp at hz; rw [hz]; rfl
    rw [List.head?_drop] at h2
    exact h2
  have hp : p = [] := by
    simp only [Prod.mk.injEq] at hx
    rw [hx.2]
    have : ∀ y ∈ xs, y.2 = [] := fun y hy => by
      obtain ⟨i, hi, rfl⟩ := List.getElem_of_mem hy
      obtain ⟨z, _, h2, _⟩ := elem i (by omega)
      rw [List.getElem?_eq_getElem hi] at h2
      simp only [Option.some.injEq] at h2
      rw [h2]
    exact List.flatMap_eq_nil_iff.2 this
  refine ⟨cs.toList.map fun v => match v with | .int _ z => z | _ => 0, by simpa using hl', ?_, ?_, hp, fun w1 sp => ⟨m + 1, ?_⟩⟩
  · congr 1
    apply Array.ext_getElem?
    intro i
    simp only [List.map_map, List.getElem?_toArray, List.getElem?_map]
    by_cases hi : i < n
    · obtain ⟨z, h1, _, _⟩ := elem i hi
      have h2 : cs[i]? = some (.int k z) := by simpa using h1
      rw [h2, h1]; rfl
    · have h1 : cs[i]? = none := Array.getElem?_eq_none (by simp at hl'; omega)
      have h2 : cs.toList[i]? = none := List.getElem?_eq_none (by omega)
      rw [h1, h2]; rfl
  · intro x hx2
    obtain ⟨v, hv2, rfl⟩ := List.mem_map.1 hx2
    obtain ⟨i, hi, rfl⟩ := List.getElem_of_mem hv2
    obtain ⟨z, h1, _, h3⟩ := elem i (by omega)
    rw [List.getElem?_eq_getElem hi] at h1
    simp only [Option.some.injEq] at h1
    rw [h1]; exact h3
  · rw [hp] at hf
    rw [hcs]
    unfold DataW.trod at hf ⊢
    rw [ht] at hf ⊢
    simp only at hf ⊢
    rw [mapM_same (g := fun i => DataW.trod enc P w base spare held m e ((cs.toList.drop (i * P.cellsOf e)).take (P.cellsOf e))) (fun i hi => ?_)]
    · exact hf
    · have hi' : i < n := by simpa using hi
      have h1 := hall i hi'
      have hget : xs[i]? = some xs[i] := List.getElem?_eq_getElem (by omega)
      rw [hget] at h1
      rw [h1]
      exact trod_int_any he h1 w1 sp
end
end Go.Proofs.Ytalnfphlhcojcaa

namespace Go.Proofs.Ytalnfphlhcojcaa

/-- four words -/
structure Q4 where
  a : Nat
  b : Nat
  c : Nat
  d : Nat
  deriving DecidableEq
def Q4.ok (q : Q4) : Prop := q.a < 4294967296 ∧ q.b < 4294967296 ∧ q.c < 4294967296 ∧ q.d < 4294967296

end Go.Proofs.Ytalnfphlhcojcaa

namespace Go.Proofs.Ytalnfphlhcojcaa

/-- a word out of bytes, the lowest first -/
def val : List Nat → Nat
  | [] => 0
  | b :: r => b + 256 * val r
def sum : List Nat → Nat
  | [] => 0
  | b :: r => b + sum r
def f1 (b : Nat) : Nat := ((b / 2) &&& 85) + (b &&& 85)
def f2 (b : Nat) : Nat := ((b / 4) &&& 51) + (b &&& 51)
def f3 (b : Nat) : Nat := (b / 16 + b) &&& 15
end Go.Proofs.Ytalnfphlhcojcaa

namespace Go.Proofs.Ytalnfphlhcojcaa

structure St where
  x0 : Nat
  x1 : Nat
  x2 : Nat
  x3 : Nat
  x4 : Nat
  x5 : Nat
  x6 : Nat
  x7 : Nat
  x8 : Nat
  x9 : Nat
  x10 : Nat
  x11 : Nat
  x12 : Nat
  x13 : Nat
  x14 : Nat
  x15 : Nat
  deriving DecidableEq

def St.ok (s : St) : Prop := s.x0 < 4294967296 ∧ s.x1 < 4294967296 ∧ s.x2 < 4294967296 ∧ s.x3 < 4294967296 ∧ s.x4 < 4294967296 ∧ s.x5 < 4294967296 ∧ s.x6 < 4294967296 ∧ s.x7 < 4294967296 ∧ s.x8 < 4294967296 ∧ s.x9 < 4294967296 ∧ s.x10 < 4294967296 ∧ s.x11 < 4294967296 ∧ s.x12 < 4294967296 ∧ s.x13 < 4294967296 ∧ s.x14 < 4294967296 ∧ s.x15 < 4294967296
def stA (s : St) : Array Value := #[.int .u32 (s.x0 : Int), .int .u32 (s.x1 : Int), .int .u32 (s.x2 : Int), .int .u32 (s.x3 : Int), .int .u32 (s.x4 : Int), .int .u32 (s.x5 : Int), .int .u32 (s.x6 : Int), .int .u32 (s.x7 : Int), .int .u32 (s.x8 : Int), .int .u32 (s.x9 : Int), .int .u32 (s.x10 : Int), .int .u32 (s.x11 : Int), .int .u32 (s.x12 : Int), .int .u32 (s.x13 : Int), .int .u32 (s.x14 : Int), .int .u32 (s.x15 : Int)]
def St.zero : St := ⟨0, 0, 0, 0, 0, 0, 0, 0, 0, 0, 0, 0, 0, 0, 0, 0⟩

/-- the word at a place -/
def St.at (s : St) : Nat → Nat
  | 0 => s.x0
  | 1 => s.x1
  | 2 => s.x2
  | 3 => s.x3
  | 4 => s.x4
  | 5 => s.x5
  | 6 => s.x6
  | 7 => s.x7
  | 8 => s.x8
  | 9 => s.x9
  | 10 => s.x10
  | 11 => s.x11
  | 12 => s.x12
  | 13 => s.x13
  | 14 => s.x14
  | 15 => s.x15
  | _ => 0
end Go.Proofs.Ytalnfphlhcojcaa

namespace Go.Proofs.Ytalnfphlhcojcaa
open Go Go.RowKit

/-- block g holds the cells, of type t -/
def Blk (w : World) (g : Nat) (t : TypeId) (cs : Array Value) : Prop := w.heap[g]? = some (.cells cs t (0, 0))

theorem Blk.lt {w : World} {g : Nat} {t : TypeId} {cs : Array Value} (h : Blk w g t cs) : g < w.heap.size := (Array.getElem?_eq_some_iff.1 h).1
theorem Blk.below {w w' : World} {g B : Nat} {t : TypeId} {cs : Array Value} (h : Blk w g t cs) (hb : Below B w w') (hg : g < B) : Blk w' g t cs := by
  unfold Blk at *; rw [hb.block g hg]; exact h
theorem Blk.drew {w : World} {g : Nat} {t : TypeId} {cs : Array Value} (h : Blk w g t cs) : Blk w.drew g t cs := h
theorem Blk.alloc {w : World} {g : Nat} {t : TypeId} {cs : Array Value} (h : Blk w g t cs) (o : Obj) : Blk (w.alloc o) g t cs := by
  have := h.lt
  unfold Blk at *; rw [Below.heap_alloc w o g this]; exact h
theorem Blk.new (w : World) (t : TypeId) (cs : Array Value) : Blk (w.alloc (.cells cs t)) w.heap.size t cs := heap_alloc_new w _
theorem Blk.set {w : World} {g : Nat} {t : TypeId} {old : Array Value} (h : Blk w g t old) (cs : Array Value) : Blk (w.setRow g cs) g t cs := setRow_heap w g old cs t _ h
theorem Blk.other {w : World} {g k : Nat} {t : TypeId} {old : Array Value} (h : Blk w k t old) (cs : Array Value) (hk : k ≠ g) : Blk (w.setRow g cs) k t old := by
  unfold Blk at *; rw [setRow_other w g k cs hk]; exact h
theorem Blk.cell {w : World} {g : Nat} {t : TypeId} {cs : Array Value} (h : Blk w g t cs) (i : Nat) : w.cell? ⟨g, i, none⟩ = cs[i]? := cell_of_row _ _ i cs t (0, 0) h

theorem Blk.load {P : Program} {w : World} {g : Nat} {t : TypeId} {cs : Array Value} (h : Blk w g t cs) {n : Nat} (hn : cs.size = n) :
    (loadCellsFrom ⟨g, 0, none⟩ 0 n #[]).run P w = .ok cs w := by
  subst hn
  have := run_loadCells_list (P := P) w ⟨g, 0, none⟩ cs.toList (fun j v hv => by
    have hadd : (⟨g, 0, none⟩ : Addr).add j = ⟨g, j, none⟩ := by unfold Addr.add; split <;> simp_all
    rw [hadd, h.cell]
    simpa using hv)
  simpa [loadCells] using this
theorem Blk.store {P : Program} {w : World} {g : Nat} {t : TypeId} {old : Array Value} (h : Blk w g t old) (cs : Array Value) (hn : old.size = cs.size) (h1 : ∀ v ∈ cs.toList, v.oneCell' = true) :
    (storeCells ⟨g, 0, none⟩ cs.toList 0).run P w = .ok () (w.setRow g cs) := by
  have := run_storeCells_from (P := P) g t cs.toList 0 old w h (by simp; omega) h1
  rw [this]; simp
/-- sixteen cells, of a state -/
structure Cells (w : World) (g : Nat) (s : St) : Prop where
  c0 : w.cell? ⟨g, 0, none⟩ = some (.int .u32 (s.x0 : Int))
  c1 : w.cell? ⟨g, 1, none⟩ = some (.int .u32 (s.x1 : Int))
  c2 : w.cell? ⟨g, 2, none⟩ = some (.int .u32 (s.x2 : Int))
  c3 : w.cell? ⟨g, 3, none⟩ = some (.int .u32 (s.x3 : Int))
  c4 : w.cell? ⟨g, 4, none⟩ = some (.int .u32 (s.x4 : Int))
  c5 : w.cell? ⟨g, 5, none⟩ = some (.int .u32 (s.x5 : Int))
  c6 : w.cell? ⟨g, 6, none⟩ = some (.int .u32 (s.x6 : Int))
  c7 : w.cell? ⟨g, 7, none⟩ = some (.int .u32 (s.x7 : Int))
  c8 : w.cell? ⟨g, 8, none⟩ = some (.int .u32 (s.x8 : Int))
  c9 : w.cell? ⟨g, 9, none⟩ = some (.int .u32 (s.x9 : Int))
  c10 : w.cell? ⟨g, 10, none⟩ = some (.int .u32 (s.x10 : Int))
  c11 : w.cell? ⟨g, 11, none⟩ = some (.int .u32 (s.x11 : Int))
  c12 : w.cell? ⟨g, 12, none⟩ = some (.int .u32 (s.x12 : Int))
  c13 : w.cell? ⟨g, 13, none⟩ = some (.int .u32 (s.x13 : Int))
  c14 : w.cell? ⟨g, 14, none⟩ = some (.int .u32 (s.x14 : Int))
  c15 : w.cell? ⟨g, 15, none⟩ = some (.int .u32 (s.x15 : Int))
theorem Blk.cells {w : World} {g : Nat} {t : TypeId} {s : St} (h : Blk w g t (stA s)) : Cells w g s :=
  ⟨by rw [h.cell]; rfl, by rw [h.cell]; rfl, by rw [h.cell]; rfl, by rw [h.cell]; rfl, by rw [h.cell]; rfl, by rw [h.cell]; rfl, by rw [h.cell]; rfl, by rw [h.cell]; rfl, by rw [h.cell]; rfl, by rw [h.cell]; rfl, by rw [h.cell]; rfl, by rw [h.cell]; rfl, by rw [h.cell]; rfl, by rw [h.cell]; rfl, by rw [h.cell]; rfl, by rw [h.cell]; rfl⟩
theorem Blk.put {w : World} {g : Nat} {t : TypeId} {cs : Array Value} (h : Blk w g t cs) (i : Nat) (v : Value) : Blk (w.setCell ⟨g, i, none⟩ v) g t (cs.setIfInBounds i v) := by
  rw [setCell_eq_setRow w g i cs t (0, 0) v h]; exact h.set _
theorem Blk.put_other {w : World} {g k : Nat} {t : TypeId} {cs : Array Value} (h : Blk w k t cs) (i : Nat) (v : Value) (hk : k ≠ g) : Blk (w.setCell ⟨g, i, none⟩ v) k t cs := by
  unfold Blk at *; rw [Below.heap_setCell w ⟨g, i, none⟩ v k hk]; exact h
end Go.Proofs.Ytalnfphlhcojcaa

namespace Go.Proofs.Ytalnfphlhcojcaa
open Go Go.RowKit

def va (n : Nat) (f : Nat → Value) : Array Value := ((List.range n).map f).toArray
theorem va_size (n : Nat) (f : Nat → Value) : (va n f).size = n := by simp [va]
theorem va_at {n : Nat} (f : Nat → Value) {i : Nat} (h : i < n) : (va n f)[i]? = some (f i) := by simp [va, h]
theorem va_ext {n : Nat} {f : Nat → Value} {a : Array Value} (hs : a.size = n) (h : ∀ i, i < n → a[i]? = some (f i)) : a = va n f := by
  apply Array.ext_getElem?
  intro i
  by_cases hi : i < n
  · rw [h i hi, va_at f hi]
  · rw [Array.getElem?_eq_none (by omega), Array.getElem?_eq_none (by rw [va_size]; omega)]
theorem va_congr {n : Nat} {f g : Nat → Value} (h : ∀ i, i < n → f i = g i) : va n f = va n g :=
  va_ext (va_size n f) fun i hi => by rw [va_at f hi, h i hi]
def upd (f : Nat → Value) (i : Nat) (v : Value) : Nat → Value := fun j => if j = i then v else f j
theorem va_set (n : Nat) (f : Nat → Value) (i : Nat) (v : Value) : (va n f).setIfInBounds i v = va n (upd f i v) := by
  refine va_ext (by simp [va_size]) fun j hj => ?_
  rw [Array.getElem?_setIfInBounds, va_size]
  unfold upd
  by_cases h : i = j
  · subst h; simp [hj]
  · rw [if_neg h, if_neg (fun e => h e.symm), va_at f hj]
theorem va_toList (n : Nat) (f : Nat → Value) : (va n f).toList = (List.range n).map f := by simp [va]
theorem va_one {n : Nat} {f : Nat → Value} (h : ∀ i, i < n → (f i).oneCell' = true) : (va n f).all (·.oneCell') = true := by
  refine all_oneCell_toArray fun v hv => ?_
  obtain ⟨i, hi, rfl⟩ := List.mem_map.1 hv
  exact h i (List.mem_range.1 hi)
def iv (k : IntKind) (f : Nat → Nat) : Nat → Value := fun i => .int k (f i : Int)
theorem iv_one (k : IntKind) (f : Nat → Nat) (n : Nat) : (va n (iv k f)).all (·.oneCell') = true := va_one fun _ _ => rfl
/-- a run of values laid over the places from o on -/
def over (f : Nat → Value) (o : Nat) (vs : List Value) : Nat → Value := fun i => if o ≤ i ∧ i < o + vs.length then vs.getD (i - o) undef else f i
theorem Blk.range {w : World} {g t n : Nat} {f : Nat → Value} (h : Blk w g t (va n f)) (o m : Nat) (hm : o + m ≤ n) : w.rangeAt g o ((List.range m).map fun j => f (o + j)) := fun j v hv => by
  rw [h.cell]
  have hj : j < m := by
    have := (List.getElem?_eq_some_iff.1 hv).1
    simpa using this
  rw [va_at f (by omega)]
  simpa [hj] using hv
theorem Blk.frozen {w : World} {g t : Nat} {cs : Array Value} (h : Blk w g t cs) (i : Nat) : w.frozen? ⟨g, i, none⟩ = false := by
  have := h; unfold Blk at this; simp [World.frozen?, this]
theorem Blk.cv {w : World} {g t n : Nat} {f : Nat → Value} (h : Blk w g t (va n f)) {i : Nat} (hi : i < n) : w.cell? ⟨g, i, none⟩ = some (f i) := by rw [h.cell, va_at f hi]
end Go.Proofs.Ytalnfphlhcojcaa

namespace Go.Proofs.Ytalnfphlhcojcaa
open Go Go.RowKit

/-- F, and from place a on m places of G -/
def overF (F : Nat → Value) (a m : Nat) (G : Nat → Value) : Nat → Value := fun i => if a ≤ i ∧ i < a + m then G (i - a) else F i
theorem splice_range (n a m : Nat) (F G : Nat → Value) (h : a + m ≤ n) :
    splice ((List.range n).map F) a ((List.range m).map G) = (List.range n).map (overF F a m G) := by
  apply List.ext_getElem?
  intro i
  unfold splice
  have l1 : (((List.range n).map F).take a).length = a := by simp; omega
  have l2 : ((List.range m).map G).length = m := by simp
  by_cases h1 : i < a
  · rw [List.getElem?_append_left (by omega), List.getElem?_take_of_lt h1]
    have : overF F a m G i = F i := if_neg (by omega)
    simp [show i < n by omega, this]
  · rw [List.getElem?_append_right (by omega), l1]
    by_cases h2 : i < a + m
    · rw [List.getElem?_append_left (by omega)]
      have : overF F a m G i = G (i - a) := if_pos (by omega)
      simp [show i < n by omega, show i - a < m by omega, this]
    · rw [List.getElem?_append_right (by omega), List.getElem?_drop, l2, show a + m + (i - a - m) = i from by omega]
      have : overF F a m G i = F i := if_neg (by omega)
      by_cases h3 : i < n
      · simp [h3, this]
      · simp [h3]
theorem splice_va (n a m : Nat) (F G : Nat → Value) (h : a + m ≤ n) : (splice ((List.range n).map F) a ((List.range m).map G)).toArray = va n (overF F a m G) := by
  rw [splice_range n a m F G h]; rfl
theorem mem_iv_one (κ : IntKind) (m : Nat) (f : Nat → Nat) : ∀ v ∈ (List.range m).map (fun j => Value.int κ ((f j : Nat) : Int)), v.oneCell' = true := fun v hv => by
  obtain ⟨j, _, rfl⟩ := List.mem_map.1 hv
  rfl
end Go.Proofs.Ytalnfphlhcojcaa

namespace Go.Proofs.Ytalnfphlhcojcaa
open Go Go.RowKit

theorem run_items {P : Program} {w : World} {e : TypeId} {k : IntKind} (d : Nat) (he : P.underlying e = some (.int k)) (f g : Nat → Int) (xs ys : Array Value) :
    ∀ is : List Nat, (∀ i ∈ is, xs[i]? = some (.int k (f i)) ∧ ys[i]? = some (.int k (g i))) → (Op.eqItems (d + 1) e 1 xs ys is).run P w = .ok (is.all fun i => f i == g i) w
  | [], _ => by simp [Op.eqItems]
  | i :: is, h => by
    obtain ⟨h1, h2⟩ := h i (by simp)
    have ih := run_items (w := w) d he f g xs ys is fun j hj => h j (by simp [hj])
    have p1 : (part e xs (i * 1)).run P w = .ok (.int k (f i)) w := by
      simp [part, isAgg, run_underlying he, h1]
    have p2 : (part e ys (i * 1)).run P w = .ok (.int k (g i)) w := by
      simp [part, isAgg, run_underlying he, h2]
    have p3 : (Op.equalIn (d + 1) e (.int k (f i)) (.int k (g i))).run P w = .ok (f i == g i) w := by
      simp [Op.equalIn, run_underlying he]
    simp only [Op.eqItems, Sem.run_bind, p1, p2, p3, Result.andThen_ok]
    by_cases hq : f i = g i
    · simp only [hq, beq_self_eq_true, Bool.not_true, Bool.false_eq_true, if_false, ih, List.all_cons, Bool.true_and]
    · have : (f i == g i) = false := by simpa using hq
      simp only [this, Bool.not_false, if_true, Sem.run_pure, List.all_cons, Bool.false_and]

end Go.Proofs.Ytalnfphlhcojcaa

namespace Go.Proofs.Ytalnfphlhcojcaa
set_option linter.unusedVariables false
open Go Go.RowKit

/-- a block's value -/
def bkV (f : Nat → Nat) : Value := .agg (va 256 (iv .u8 f))
/-- the byte of a text at a place -/
def tbyte (s : ByteArray) (i : Nat) : Nat := (s.data.toList.getD i 0).toNat
theorem tbyte_lt (s : ByteArray) (j : Nat) : tbyte s j < 256 := UInt8.toNat_lt _
theorem tbyte_out (s : ByteArray) (j : Nat) (h : s.size ≤ j) : tbyte s j = 0 := by
  unfold tbyte
  have : s.data.toList.length = s.size := Array.length_toList
  rw [List.getD_eq_getElem?_getD, List.getElem?_eq_none (by omega)]
  rfl
/-- n bytes as a text -/
def strN (f : Nat → Nat) (n : Nat) : ByteArray := strOfNums ((List.range n).map fun i => (f i : Int))
theorem strN_size (f : Nat → Nat) (n : Nat) : (strN f n).size = n := by unfold strN; rw [strOfNums_size]; simp
theorem strN_at (f : Nat → Nat) (n j : Nat) (hj : j < n) (hf : f j < 256) : tbyte (strN f n) j = f j := by
  unfold tbyte strN
  rw [strOfNums_data, List.getD_eq_getElem?_getD]
  simp [hj]
  omega
theorem text_ext {s t : ByteArray} (h1 : s.size = t.size) (h2 : ∀ j, j < s.size → tbyte s j = tbyte t j) : s = t := by
  have e : s.data = t.data := by
    apply Array.ext
    · exact h1
    · intro i hi1 hi2
      have := h2 i hi1
      unfold tbyte at this
      rw [List.getD_eq_getElem?_getD, List.getD_eq_getElem?_getD, List.getElem?_eq_getElem (by simpa using hi1), List.getElem?_eq_getElem (by simpa using hi2)] at this
      have h3 : (s.data[i]).toNat = (t.data[i]).toNat := by simpa using this
      exact UInt8.toNat_inj.1 h3
  cases s; cases t; simp_all
theorem strN_congr {f g : Nat → Nat} {n : Nat} (h : ∀ j, j < n → f j = g j) : strN f n = strN g n := by
  unfold strN
  congr 1
  exact List.map_congr_left fun j hj => by rw [h j (List.mem_range.1 hj)]
theorem tbyte_extract (s : ByteArray) (a b j : Nat) (hb : b ≤ s.size) (h : a + j < b) : tbyte (s.extract a b) j = tbyte s (a + j) := by
  unfold tbyte
  have hs : s.data.toList.length = s.size := Array.length_toList
  rw [ByteArray.data_extract]
  simp only [List.getD_eq_getElem?_getD, Array.toList_extract, List.extract_eq_take_drop]
  rw [List.getElem?_take, List.getElem?_drop, if_pos (by omega)]
theorem extract_size (s : ByteArray) (a b : Nat) (hb : b ≤ s.size) : (s.extract a b).size = b - a := by
  rw [ByteArray.size_extract]
  omega
/-- n bytes as values -/
def byL (f : Nat → Nat) (m : Nat) : List Value := (List.range m).map fun j => Value.int .u8 ((f j : Nat) : Int)
theorem byL_length (f : Nat → Nat) (m : Nat) : (byL f m).length = m := by simp [byL]
theorem byL_at (f : Nat → Nat) (m j : Nat) (h : j < m) : (byL f m)[j]? = some (.int .u8 ((f j : Nat) : Int)) := by simp [byL, h]
theorem byL_succ (f : Nat → Nat) (m : Nat) : byL f (m + 1) = byL f m ++ [Value.int .u8 ((f m : Nat) : Int)] := by simp [byL, List.range_succ]
theorem byL_congr {f g : Nat → Nat} {m : Nat} (h : ∀ j, j < m → f j = g j) : byL f m = byL g m := List.map_congr_left fun j hj => by rw [h j (List.mem_range.1 hj)]
theorem text_prefix (s : ByteArray) (n : Nat) (h : n ≤ s.size) : List.take n (List.map (fun b : UInt8 => Value.int .u8 (b.toNat : Int)) s.data.toList) = byL (tbyte s) n := by
  have hs : s.data.toList.length = s.size := Array.length_toList
  apply List.ext_getElem?
  intro i
  by_cases hi : i < n
  · rw [byL_at _ _ _ hi, List.getElem?_take_of_lt hi, List.getElem?_map, List.getElem?_eq_getElem (by omega)]
    unfold tbyte
    rw [List.getD_eq_getElem?_getD, List.getElem?_eq_getElem (by omega)]
    rfl
  · rw [List.getElem?_eq_none (by rw [List.length_take]; omega), List.getElem?_eq_none (by rw [byL_length]; omega)]
section
variable {P : Program}
theorem run_copy_text (w : World) (dT sT ty elem : TypeId) (g o dLen dCap : Nat) (s : ByteArray) (cur : Array Value) (t : TypeId) (n : Nat)
    (hu : P.underlying dT = some (.slice elem)) (hs : (P.info? elem).map (·.size) = some 1)
    (hg : w.heap[g]? = some (.cells cur t (0, 0))) (hn : n = Nat.min s.size dLen) (hfit : o + n ≤ cur.size) :
    (Builtin.copy_ #[dT, sT] ty #[.slice (some ⟨g, o, none⟩) dLen dCap, .string s]).run P w =
      .ok (goInt n) (w.setRow g (splice cur.toList o (byL (tbyte s) n)).toArray) := by
  have hns : n ≤ s.size := by rw [hn]; exact Nat.min_le_left _ _
  have eL := text_prefix s n hns
  have hst := run_storeCells_at P g o t (List.take n (List.map (fun b : UInt8 => Value.int .u8 (b.toNat : Int)) s.data.toList)) 0 cur w hg (by rw [eL, byL_length]; simpa using hfit) (by rw [eL]; exact mem_iv_one _ _ _)
  have e2 : (w.setRow g (cur.toList.take (o + 0) ++ List.take n (List.map (fun b : UInt8 => Value.int .u8 (b.toNat : Int)) s.data.toList) ++ cur.toList.drop (o + 0 + (List.take n (List.map (fun b : UInt8 => Value.int .u8 (b.toNat : Int)) s.data.toList)).length)).toArray) = w.setRow g (splice cur.toList o (byL (tbyte s) n)).toArray := by
    rw [eL]
    unfold splice
    rw [List.append_assoc, Nat.add_zero]
  rw [e2] at hst
  cases hq : P.info? elem with
  | none => simp [hq] at hs
  | some i =>
    have hi : i.size = 1 := by simpa [hq] using hs
    generalize w.setRow g (splice cur.toList o (byL (tbyte s) n)).toArray = W at *
    simp [Builtin.copy_, run_underlying hu, Builtin.lenOf, Builtin.firstCells, sizeOf, typeInfo, hq, ← hn, hst]
/-- a text copied, as one operation -/
theorem wpList_copy_text {ops : Array Oper} {rest : List Oper} {o : Oper} {a : Act} {w : World} {Q : Exit → Act → World → Prop} (hgd : o.guard = none) (d s : Operand) (dT sT : TypeId)
    (ho : o.op = .call { callee := .builtin .copy, args := #[d, s], argTypes := #[dT, sT] }) (elem : TypeId) (hu : P.underlying dT = some (.slice elem)) (hsz : (P.info? elem).map (·.size) = some 1)
    (g off dLen dCap : Nat) (str : ByteArray) (hd : a.eval d = .slice (some ⟨g, off, none⟩) dLen dCap) (hs : a.eval s = .string str)
    (cur : Array Value) (t : TypeId) (hg : w.heap[g]? = some (.cells cur t (0, 0))) (n : Nat) (hn : n = Nat.min str.size dLen) (hfit : off + n ≤ cur.size)
    (h : wpList P ops Q rest (a.put o.dst (goInt n)) (w.setRow g (splice cur.toList off (byL (tbyte str) n)).toArray)) :
    wpList P ops Q (o :: rest) a w := by
  have hrun := run_copy_text (P := P) w dT sT o.type elem g off dLen dCap str cur t n hu hsz hg hn hfit
  refine wpList_plain hgd fun K hK => ?_
  unfold Oper.wp
  simp [execOp, ho, resolve, invoke, builtin, hd, hs, hrun, Result.andThen]
  exact hK _ _ h
theorem run_bytes_text (w : World) (src e dst : TypeId) (hs : P.underlying src = some (.slice e)) (he : P.underlying e = some (.int .u8)) (hd : P.underlying dst = some .string) {g t N : Nat} {f : Nat → Nat} (h : Blk w g t (va N (iv .u8 f))) (o n c : Nat) (hn : o + n ≤ N) :
    (convert src dst (.slice (some ⟨g, o, none⟩) n c)).run P w = .ok (.string (strN (fun j => f (o + j)) n)) w :=
  run_convert_bytes_arg w src e hs he g o n c _ (by simp) (fun i hi => by
    rw [h.cv (i := o + i) (by omega)]
    simp [List.getD_eq_getElem?_getD, hi, iv]) dst hd
theorem eq_bytes (t e : TypeId) (n : Nat) (ht : P.underlying t = some (.array n e)) (he : P.underlying e = some (.int .u8)) (hi : (P.info? e).map (·.size) = some 1) (hc : P.cellsOf e = 1) (f g : Nat → Nat) (w : World) :
    (Op.equalIn 10000 t (.agg (va n (iv .u8 f))) (.agg (va n (iv .u8 g)))).run P w = .ok (decide (∀ i, i < n → f i = g i)) w := by
  obtain ⟨i, hi'⟩ : ∃ i, P.info? e = some i := by
    cases hq : P.info? e with
    | none => simp [hq] at hi
    | some i => exact ⟨i, rfl⟩
  rw [show (10000 : Nat) = 9998 + 1 + 1 from rfl, run_equalIn_array w (9998 + 1) (va n (iv .u8 f)) (va n (iv .u8 g)) ht hi', hc,
    run_items 9998 he (fun i => ((f i : Nat) : Int)) (fun i => ((g i : Nat) : Int)) (va n (iv .u8 f)) (va n (iv .u8 g)) _ (fun i hi => ⟨va_at (iv .u8 f) (by simpa using hi), va_at (iv .u8 g) (by simpa using hi)⟩)]
  congr 1
  rw [Bool.eq_iff_iff, List.all_eq_true, decide_eq_true_eq]
  constructor
  · intro h i hi
    have := h i (by simpa using hi)
    simp only [beq_iff_eq] at this
    omega
  · intro h i hi
    have := h i (by simpa using hi)
    simp [this]
end
/-- n bytes laid into a block from place r on -/
def putAt (p : Nat → Nat) (r n : Nat) (b : Nat → Nat) : Nat → Nat := fun j => if r ≤ j ∧ j < r + n then b (j - r) else p j
theorem splice_put (N r n : Nat) (p b : Nat → Nat) (h : r + n ≤ N) : (splice (va N (iv .u8 p)).toList r (byL b n)).toArray = va N (iv .u8 (putAt p r n b)) := by
  rw [va_toList]
  refine Eq.trans (by rfl) ((splice_va N r n (iv .u8 p) (fun j => Value.int .u8 ((b j : Nat) : Int)) h).trans ?_)
  refine va_congr fun i hi => ?_
  unfold overF iv putAt
  by_cases h1 : r ≤ i ∧ i < r + n
  · rw [if_pos h1, if_pos h1]
  · rw [if_neg h1, if_neg h1]
/-- two blocks are the same -/
abbrev bkSame (f g : Nat → Nat) : Prop := ∀ i, i < 256 → f i = g i
theorem bkV_congr {f g : Nat → Nat} (h : bkSame f g) : bkV f = bkV g := by
  unfold bkV
  rw [va_congr (f := iv .u8 f) (g := iv .u8 g) fun i hi => by unfold iv; rw [h i hi]]
theorem eq_bk (t : TypeId) (ht : Try.prog.underlying t = some (.array 256 5)) (f g : Nat → Nat) (w : World) : (Op.equalIn 10000 t (bkV f) (bkV g)).run Try.prog w = .ok (decide (bkSame f g)) w :=
  eq_bytes t 5 256 ht Try.underlying5 (by kernel_rfl) (by kernel_rfl) f g w
theorem sizeBk : (Try.prog.info? 33).map (·.size) = some 256 := by kernel_rfl
theorem ksizeU8 : (Try.prog.info? 5).map (·.size) = some 1 := by kernel_rfl
theorem zero_bk (w : World) : (zeroValue 33).run Try.prog w = .ok (.agg (va 256 (iv .u8 fun _ => 0))) w := by
  have h : (Try.prog.info? 33).bind (·.zero) = some (.agg (va 256 (iv .u8 fun _ => 0))) := by kernel_rfl
  cases hq : Try.prog.info? 33 with
  | none => simp [hq] at h
  | some i =>
    have hi : i.zero = some (.agg (va 256 (iv .u8 fun _ => 0))) := by simpa [hq] using h
    simp [zeroValue, typeInfo, hq, hi]
theorem Blk.new1 (w : World) (o : Obj) (t : TypeId) (cs : Array Value) : Blk ((w.alloc o).alloc (.cells cs t)) (w.heap.size + 1) t cs := by
  have := Blk.new (w.alloc o) t cs
  rwa [show (w.alloc o).heap.size = w.heap.size + 1 by simp] at this
theorem below_new1 (w : World) (o : Obj) : Below w.heap.size w (w.alloc o) := (Below.refl _ _).alloc (Nat.le_refl _) _
theorem below_new2 (w : World) (o o' : Obj) : Below w.heap.size w ((w.alloc o).alloc o') := (below_new1 w o).alloc (by simp) _
theorem wpList_load_rowg {P : Program} {ops : Array Oper} {rest : List Oper} {o : Oper} {a : Act} {w : World} {Q : Exit → Act → World → Prop} (hw : Region.wanted o (yielded ops a.tmps) = true) (ty : TypeId) (x : Operand) (ho : o.op = .load ty x)
    (g : Nat) (hx : a.eval x = .pointer (some ⟨g, 0, none⟩)) (t : TypeId) (cs : Array Value) (fr : Nat × Nat) (d : TypeDesc) (hg : w.heap[g]? = some (.cells cs t fr))
    (hu : P.underlying ty = some d) (hd : (match d with | .struct _ | .array _ _ => true | _ => false) = true) (hi : (P.info? ty).map (·.size) = some cs.size)
    (h : wpList P ops Q rest (a.put o.dst (.agg cs)) w) : wpList P ops Q (o :: rest) a w :=
  wpList_step fun K hK => by
    rw [if_pos hw]
    exact wp_load_row ty x ho g hx t cs fr d hg hu hd hi (hK _ _ h)
theorem results_row2 {P : Program} {fn : Func} {p u : Tmp} {ty : TypeId} (h : fn.results = #[.cell p ty, .tmp u]) (tmps : Array Value) (w : World) (g : Nat) (t : TypeId) (cs : Array Value) (fr : Nat × Nat) (d : TypeDesc)
    (hp : tmps.getD p undef = .pointer (some ⟨g, 0, none⟩)) (hg : w.heap[g]? = some (.cells cs t fr))
    (hu : P.underlying ty = some d) (hd : (match d with | .struct _ | .array _ _ => true | _ => false) = true) (hi : (P.info? ty).map (·.size) = some cs.size) :
    (results fn tmps).run P w = .ok (.tuple #[.agg cs, tmps.getD u undef]) w := by
  have hp' : tmps[p]?.getD undef = .pointer (some ⟨g, 0, none⟩) := by simpa using hp
  simp [results_cell_tmp h, hp', asAddr, run_loadVar_row w g t ty cs fr d hg hu hd hi]
end Go.Proofs.Ytalnfphlhcojcaa

namespace Go.Proofs.Ytalnfphlhcojcaa
open Go.RowKit
set_option linter.unusedSimpArgs false
set_option linter.unusedVariables false

def Fit (a m : Int) : Prop := 0 ≤ a ∧ 0 ≤ m ∧ a ≤ 256 - m
instance (a m : Int) : Decidable (Fit a m) := by unfold Fit; infer_instance

set_option maxRecDepth 100000 in
theorem inside_any (a m : Int) (ha : -9223372036854775808 ≤ a ∧ a ≤ 9223372036854775807) (hm : -9223372036854775808 ≤ m ∧ m ≤ 9223372036854775807) (w : World) :
    Calls Try.prog 39 #[.int .i64 a, .int .i64 m] w fun e w' => e = .returned (.bool (decide (Fit a m))) ∧ w' = w := by
  obtain ⟨a1, a2⟩ := ha
  obtain ⟨m1, m2⟩ := hm
  by_cases h1 : 0 ≤ a
  · by_cases h2 : 0 ≤ m
    · by_cases h3 : a ≤ 256 - m
      · have hd : decide (Fit a m) = true := decide_eq_true ⟨h1, h2, h3⟩
        rw [hd]
        clear hd
        go_enter Try.func39, Try.ntmps39
        go_wp2_with fail
        go_ret
        exact ⟨rfl, rfl⟩
      · have hd : decide (Fit a m) = false := decide_eq_false fun h => h3 h.2.2
        rw [hd]
        clear hd
        go_enter Try.func39, Try.ntmps39
        go_wp2_with fail
        go_ret
        exact ⟨rfl, rfl⟩
    · have hd : decide (Fit a m) = false := decide_eq_false fun h => h2 h.2.1
      rw [hd]
      clear hd
      go_enter Try.func39, Try.ntmps39
      go_wp2_with fail
      go_ret
      exact ⟨rfl, rfl⟩
  · have hd : decide (Fit a m) = false := decide_eq_false fun h => h1 h.1
    rw [hd]
    clear hd
    go_enter Try.func39, Try.ntmps39
    go_wp2_with fail
    go_ret
    exact ⟨rfl, rfl⟩

set_option maxRecDepth 100000 in
set_option maxHeartbeats 4000000 in
theorem lay_fit (f : Nat → Nat) (r : Nat) (s : ByteArray) (h : r + s.size ≤ 256) (w : World) :
    Calls Try.prog 22 #[bkV f, .int .i64 (r : Int), .string s] w fun e w' => e = .returned (.tuple #[bkV (putAt f r s.size (tbyte s)), .int .i64 0]) ∧ Below w.heap.size w w' := by
  have hI : Hid (∀ w : World, Calls Try.prog 39 #[.int .i64 (r : Int), .int .i64 (s.size : Int)] w fun e w' => e = .returned (.bool true) ∧ w' = w) := fun w => by
    have := inside_any (r : Int) (s.size : Int) (by omega) (by omega) w
    rw [decide_eq_true (show Fit (r : Int) (s.size : Int) from ⟨by omega, by omega, by omega⟩)] at this
    exact this
  have hz := zero_bk
  obtain ⟨F, hF⟩ : ∃ F, F = putAt f r s.size (tbyte s) := ⟨_, rfl⟩
  rw [← hF]
  unfold bkV
  go_enter Try.func22, Try.ntmps22
  go_wp2_with fail
  refine (hI.out _).mono ?_
  rintro e w1 ⟨rfl, rfl⟩
  have b0 : Blk ((w.alloc (Obj.cells (va 256 (iv IntKind.u8 f)) 33)).alloc (Obj.cells (va 256 (iv IntKind.u8 fun x => 0)) 33)) w.heap.size 33 (va 256 (iv .u8 f)) := (Blk.new _ _ _).alloc _
  have b1 := Blk.new1 w (Obj.cells (va 256 (iv IntKind.u8 f)) 33) 33 (va 256 (iv IntKind.u8 fun x => 0))
  have hb := below_new2 w (Obj.cells (va 256 (iv IntKind.u8 f)) 33) (Obj.cells (va 256 (iv IntKind.u8 fun x => 0)) 33)
  generalize (w.alloc (Obj.cells (va 256 (iv IntKind.u8 f)) 33)).alloc (Obj.cells (va 256 (iv IntKind.u8 fun x => 0)) 33) = W at *
  clear hI hz
  have r0 : (0 : Int) ≤ (r : Int) := by omega
  have r1 : (r : Int) ≤ 256 := by omega
  by_cases hr : 256 = r
  · obtain rfl : r = 256 := hr.symm
    have hs0 : s.size = 0 := by omega
    have hc := run_copy_text (P := Try.prog) W 48 9 3 5 w.heap.size 0 0 0 s _ 33 0 Try.underlying48 ksizeU8 b0 (by show _ = min _ _; omega) (by rw [va_size]; decide)
    rw [splice_put 256 0 0 f (tbyte s) (by decide)] at hc
    have e0 : va 256 (iv .u8 (putAt f 0 0 (tbyte s))) = va 256 (iv .u8 (putAt f 256 s.size (tbyte s))) := va_congr fun i hi => by
      unfold iv putAt
      rw [if_neg (by omega), if_neg (by omega)]
    rw [e0] at hc
    have b2 := b0.set (va 256 (iv .u8 (putAt f 256 s.size (tbyte s))))
    have b3 := b1.other (g := w.heap.size) (va 256 (iv .u8 (putAt f 256 s.size (tbyte s)))) (by omega)
    have hb2 := below_setRow hb (Nat.le_refl _) (va 256 (iv .u8 (putAt f 256 s.size (tbyte s))))
    generalize W.setRow w.heap.size (va 256 (iv .u8 (putAt f 256 s.size (tbyte s)))) = W2 at *
    rw [← hF] at b2
    clear hF
    clear e0 b0 b1 hb
    go_wp2_with (first
      | (refine wpList_load_row (by rfl) 33 _ (by rfl) (w.heap.size) (by rfl) 33 (va 256 (iv .u8 F)) (0, 0) _ b2 Try.underlying33 (by rfl) (sizeBk.trans (by rw [va_size])) ?_; simp only [Act.put, List.setIfInBounds_toArray, List.set_cons_zero, List.set_cons_succ])
      | (refine wpList_store_row (by rfl) 33 _ _ (by rfl) (w.heap.size + 1) (va 256 (iv .u8 F)) (by rfl) (by rfl) 33 _ b3 (sizeBk.trans (by rw [va_size])) (by simp only [va_size]) (iv_one _ _ _) ?_; simp only [Act.put, List.setIfInBounds_toArray, List.set_cons_zero, List.set_cons_succ])
      | fail)
    try simp only [Exit.inBlock, Exit.then]
    refine bodyPost_ret (results_row2 Try.results22 _ _ (w.heap.size + 1) 33 (va 256 (iv .u8 F)) (0, 0) _ rfl (b3.set _) Try.underlying33 rfl (sizeBk.trans (by rw [va_size]))) rfl ?_
    exact ⟨rfl, below_setRow hb2 (by omega) _⟩
  · have hc := run_copy_text (P := Try.prog) W 48 9 3 5 w.heap.size r (256 - r) (256 - r) s _ 33 s.size Try.underlying48 ksizeU8 b0 (by show _ = min _ _; omega) (by rw [va_size]; exact h)
    rw [splice_put 256 r s.size f (tbyte s) h] at hc
    have b2 := b0.set (va 256 (iv .u8 (putAt f r s.size (tbyte s))))
    have b3 := b1.other (g := w.heap.size) (va 256 (iv .u8 (putAt f r s.size (tbyte s)))) (by omega)
    have hb2 := below_setRow hb (Nat.le_refl _) (va 256 (iv .u8 (putAt f r s.size (tbyte s))))
    generalize W.setRow w.heap.size (va 256 (iv .u8 (putAt f r s.size (tbyte s)))) = W2 at *
    rw [← hF] at b2
    clear hF
    clear b0 b1 hb
    go_wp2_with (first
      | (refine wpList_load_row (by rfl) 33 _ (by rfl) (w.heap.size) (by rfl) 33 (va 256 (iv .u8 F)) (0, 0) _ b2 Try.underlying33 (by rfl) (sizeBk.trans (by rw [va_size])) ?_; simp only [Act.put, List.setIfInBounds_toArray, List.set_cons_zero, List.set_cons_succ])
      | (refine wpList_store_row (by rfl) 33 _ _ (by rfl) (w.heap.size + 1) (va 256 (iv .u8 F)) (by rfl) (by rfl) 33 _ b3 (sizeBk.trans (by rw [va_size])) (by simp only [va_size]) (iv_one _ _ _) ?_; simp only [Act.put, List.setIfInBounds_toArray, List.set_cons_zero, List.set_cons_succ])
      | fail)
    try simp only [Exit.inBlock, Exit.then]
    refine bodyPost_ret (results_row2 Try.results22 _ _ (w.heap.size + 1) 33 (va 256 (iv .u8 F)) (0, 0) _ rfl (b3.set _) Try.underlying33 rfl (sizeBk.trans (by rw [va_size]))) rfl ?_
    exact ⟨rfl, below_setRow hb2 (by omega) _⟩

end Go.Proofs.Ytalnfphlhcojcaa

namespace Go.Proofs.Ytalnfphlhcojcaa
open Go.RowKit
set_option linter.unusedSimpArgs false
set_option linter.unusedVariables false

/-- the block of a text -/
theorem put_text (s : ByteArray) : bkV (putAt (fun _ => 0) 0 s.size (tbyte s)) = bkV (tbyte s) := bkV_congr fun i hi => by
  unfold putAt
  by_cases h : i < s.size
  · rw [if_pos (by omega), Nat.sub_zero]
  · rw [if_neg (by omega), tbyte_out s i (by omega)]

set_option maxRecDepth 100000 in
set_option maxHeartbeats 4000000 in
theorem blockOf_by (s : ByteArray) (F : Nat → Nat) (x : Int) (hL : ∀ w : World, Calls Try.prog 22 #[bkV fun _ => 0, .int .i64 0, .string s] w fun e w' => e = .returned (.tuple #[bkV F, .int .i64 x]) ∧ Below w.heap.size w w') (w : World) :
    Calls Try.prog 19 #[.string s] w fun e w' => e = .returned (.tuple #[bkV F, .int .i64 x]) ∧ Below w.heap.size w w' := by
  have HL : Hid (∀ w : World, Calls Try.prog 22 #[bkV fun _ => 0, .int .i64 0, .string s] w fun e w' => e = .returned (.tuple #[bkV F, .int .i64 x]) ∧ Below w.heap.size w w') := hL
  clear hL
  unfold bkV at *
  have hz := zero_bk
  have b0 := Blk.new w 33 (va 256 (iv .u8 fun _ => 0))
  have hb := below_new1 w (Obj.cells (va 256 (iv IntKind.u8 fun _ => 0)) 33)
  go_enter Try.func19, Try.ntmps19
  go_wp2_with fail
  generalize w.alloc (Obj.cells (va 256 (iv IntKind.u8 fun _ => 0)) 33) = W at *
  go_wp2_with fail
  refine (HL.out _).mono ?_
  rintro e w1 ⟨rfl, hb1⟩
  have b1 := b0.below hb1 b0.lt
  have hb2 : Below w.heap.size w w1 := hb.trans (hb1.mono hb.size)
  clear hb hb1 b0 HL hz
  go_wp2_with (first
    | (refine wpList_store_row (by rfl) 33 _ _ (by rfl) (w.heap.size) (va 256 (iv .u8 F)) (by rfl) (by rfl) 33 _ b1 (sizeBk.trans (by rw [va_size])) (by simp only [va_size]) (iv_one _ _ _) ?_; simp only [Act.put, List.setIfInBounds_toArray, List.set_cons_zero, List.set_cons_succ])
    | fail)
  try simp only [Exit.inBlock, Exit.then]
  refine bodyPost_ret (results_row2 Try.results19 _ _ (w.heap.size) 33 (va 256 (iv .u8 F)) (0, 0) _ rfl (b1.set _) Try.underlying33 rfl (sizeBk.trans (by rw [va_size]))) rfl ?_
  exact ⟨rfl, below_setRow hb2 (Nat.le_refl _) _⟩
theorem blockOf_fit (s : ByteArray) (h : s.size ≤ 256) (w : World) :
    Calls Try.prog 19 #[.string s] w fun e w' => e = .returned (.tuple #[bkV (tbyte s), .int .i64 0]) ∧ Below w.heap.size w w' := by
  refine blockOf_by s _ 0 (fun w => ?_) w
  have := lay_fit (fun _ => 0) 0 s (by omega) w
  rw [put_text] at this
  exact this
end Go.Proofs.Ytalnfphlhcojcaa

namespace Go.Proofs.Ytalnfphlhcojcaa
open Go

section
variable {P : Program} {ops : Array Oper} {Q : Exit → Act → World → Prop} {md : Region.Mode}

/-- only the plain way out -/
def Strict (Q : Exit → Act → World → Prop) : Exit → Act → World → Prop := fun e a w => e = .normal ∧ Q .normal a w
theorem Strict.imp (e : Exit) (a : Act) (w : World) (h : Strict Q e a w) : Q e a w := by
  obtain ⟨rfl, h⟩ := h; exact h
theorem Strict.noOut : ¬ LetsOut (Strict Q) := by
  rintro ⟨a, w, h, _⟩; cases h

/-- what is run leaves the world, and would do the same in any world -/
def Pur {α : Type} (P : Program) (s : Sem α) : Prop := ∀ w n w', s.run P w = .ok n w' → w' = w ∧ ∀ w2, s.run P w2 = .ok n w2
/-- what is run leaves the world -/
def Rds {α : Type} (P : Program) (s : Sem α) : Prop := ∀ w n w', s.run P w = .ok n w' → w' = w
/-- what is run never ends well -/
def Nev {α : Type} (P : Program) (s : Sem α) : Prop := ∀ w n w', s.run P w ≠ .ok n w'

theorem Pur.rds {α : Type} {s : Sem α} (h : Pur P s) : Rds P s := fun w n w' e => (h w n w' e).1
theorem Nev.pur {α : Type} {s : Sem α} (h : Nev P s) : Pur P s := fun w n w' e => absurd e (h w n w')
theorem pur_pure {α : Type} (x : α) : Pur P (pure x : Sem α) := fun w n w' e => by
  rw [Sem.run_pure] at e; cases e; exact ⟨rfl, fun w2 => by rw [Sem.run_pure]⟩
theorem pur_halt {α : Type} (h : Halt) : Pur P (Sem.halt h : Sem α) := fun w n w' e => by simp [Sem.run] at e
theorem Pur.bind {α β : Type} {s : Sem α} {f : α → Sem β} (h : Pur P s) (hf : ∀ x, Pur P (f x)) : Pur P (s >>= f) := fun w n w' e => by
  rw [Sem.run_bind] at e
  cases hs : s.run P w with
  | ok x w1 =>
    rw [hs] at e
    obtain ⟨rfl, h2⟩ := h w x w1 hs
    simp only [Result.andThen_ok] at e
    obtain ⟨rfl, h3⟩ := hf x _ _ _ e
    exact ⟨rfl, fun w2 => by rw [Sem.run_bind, h2 w2]; simp only [Result.andThen_ok]; exact h3 w2⟩
  | halt x w1 => rw [hs] at e; simp [Result.andThen] at e
theorem Rds.bind {α β : Type} {s : Sem α} {f : α → Sem β} (h : Rds P s) (hf : ∀ x, Rds P (f x)) : Rds P (s >>= f) := fun w n w' e => by
  rw [Sem.run_bind] at e
  cases hs : s.run P w with
  | ok x w1 =>
    rw [hs] at e
    have h2 := h w x w1 hs
    subst h2
    simp only [Result.andThen_ok] at e
    exact hf x _ _ _ e
  | halt x w1 => rw [hs] at e; simp [Result.andThen] at e
theorem Nev.bind {α β : Type} {s : Sem α} {f : α → Sem β} (hf : ∀ x, Nev P (f x)) : Nev P (s >>= f) := fun w n w' e => by
  rw [Sem.run_bind] at e
  cases hs : s.run P w with
  | ok x w1 => rw [hs] at e; simp only [Result.andThen_ok] at e; exact hf x _ _ _ e
  | halt x w1 => rw [hs] at e; simp [Result.andThen] at e
theorem pur_program : Pur P program := fun w n w' e => by
  simp only [program, Sem.run] at e; cases e; exact ⟨rfl, fun w2 => by simp only [program, Sem.run]⟩
theorem nev_bounds {α : Type} (k : IntKind) (x y : Int) (c : BoundsCode) : Nev P (boundsPanic k x y c : Sem α) := by
  have J : ∀ s : Bool, Nev P (runtimePanic (.bounds (IntKind.i64.wrap x) y s c) : Sem α) := fun s => by
    unfold runtimePanic
    refine Nev.bind fun p => ?_
    intro w n w' e
    simp [goPanic] at e
  unfold boundsPanic
  dsimp only
  split <;> exact Nev.bind fun s => J s
theorem pur_underlying (t : TypeId) : Pur P (underlying t) := by
  unfold underlying
  refine pur_program.bind fun p => ?_
  cases p.underlying t with
  | none => exact pur_halt _
  | some d => exact pur_pure d
theorem pur_sizeOf (t : TypeId) : Pur P (sizeOf t) := by
  unfold sizeOf typeInfo
  refine Pur.bind (pur_program.bind fun p => ?_) fun i => pur_pure _
  cases p.info? t with
  | none => exact pur_halt _
  | some d => exact pur_pure d
theorem pur_sure (v : Value) : Pur P (Instr.sureAddr v) := by
  unfold Instr.sureAddr
  split
  · exact pur_pure _
  · exact pur_halt _
theorem pur_index (t : TypeId) (x i : Value) : Pur P (Instr.indexAt t x i) := by
  unfold Instr.indexAt
  refine Pur.bind ?_ fun ki => ?_
  · unfold asIntOf; split
    · exact pur_pure _
    · exact pur_halt _
    · exact pur_halt _
  · refine (pur_underlying t).bind fun d => ?_
    dsimp only
    split
    · refine (pur_sure _).bind fun _ => (pur_pure _).bind fun q => ?_
      refine (pur_underlying t).bind fun d2 => ?_
      split
      · split
        · exact (pur_sizeOf _).bind fun _ => pur_pure _
        · split <;> split <;> first | exact pur_halt _ | exact (nev_bounds _ _ _ _).pur
      · exact (nev_bounds _ _ _ _).pur
    · refine (pur_pure _).bind fun q => ?_
      refine (pur_underlying t).bind fun d2 => ?_
      split
      · split
        · exact (pur_sizeOf _).bind fun _ => pur_pure _
        · split <;> split <;> first | exact pur_halt _ | exact (nev_bounds _ _ _ _).pur
      · exact (nev_bounds _ _ _ _).pur
    · refine (pur_halt _).bind fun q => ?_
      refine (pur_underlying t).bind fun d2 => ?_
      split
      · split
        · exact (pur_sizeOf _).bind fun _ => pur_pure _
        · split <;> split <;> first | exact pur_halt _ | exact (nev_bounds _ _ _ _).pur
      · exact (nev_bounds _ _ _ _).pur
theorem pur_extract (v : Value) (i : Nat) : Pur P (Instr.extract v i) := by
  unfold Instr.extract
  split
  · split
    · exact pur_pure _
    · exact pur_halt _
  · exact pur_halt _
theorem rds_load (a : Addr) : Rds P (load a) := fun w n w' e => by
  simp only [load, Sem.run] at e
  split at e
  · cases e; rfl
  · split at e
    · cases e; rfl
    · cases e
theorem rds_cells (a : Addr) : ∀ (n i : Nat) (acc : Array Value), Rds P (loadCellsFrom a i n acc)
  | 0, _, acc => (pur_pure acc).rds
  | n + 1, i, acc => (rds_load _).bind fun v => rds_cells a n (i + 1) (acc.push v)
theorem rds_loadAt (t : TypeId) (v : Value) : Rds P (Instr.loadAt t v) := by
  unfold Instr.loadAt loadVar
  refine (pur_sure v).rds.bind fun a => Rds.bind ?_ fun b => ?_
  · unfold isAgg
    refine (pur_underlying t).rds.bind fun d => ?_
    split <;> exact (pur_pure _).rds
  · split
    · exact (pur_sizeOf t).rds.bind fun n => (rds_cells a n 0 #[]).bind fun c => (pur_pure _).rds
    · exact rds_load a

/-- an operation that yields its value in whatever world -/
def kindW (o : Oper) : Bool := match o.op with
  | .move _ => true
  | .extract .. => true
  | .indexAddr .. => true
  | _ => false
theorem kindW_run {o : Oper} (h : kindW o = true) (ρ : Operand → Value) : Pur P (execOp ρ o) ∧ ∀ w n w', (execOp ρ o).run P w = .ok n w' → ∃ v, n = .value v := by
  unfold kindW at h
  split at h <;> rename_i hop
  · unfold execOp; simp only [hop]
    exact ⟨pur_pure _, fun w n w' e => by rw [Sem.run_pure] at e; cases e; exact ⟨_, rfl⟩⟩
  · unfold execOp; simp only [hop]
    exact ⟨(pur_extract _ _).bind fun v => pur_pure _, fun w n w' e => by
      rw [Sem.run_bind] at e
      cases hs : (Instr.extract (ρ _) _).run P w with
      | ok x w1 => rw [hs] at e; simp only [Result.andThen_ok, Sem.run_pure] at e; cases e; exact ⟨_, rfl⟩
      | halt x w1 => rw [hs] at e; simp [Result.andThen] at e⟩
  · unfold execOp; simp only [hop]
    exact ⟨(pur_index _ _ _).bind fun v => pur_pure _, fun w n w' e => by
      rw [Sem.run_bind] at e
      cases hs : (Instr.indexAt _ (ρ _) (ρ _)).run P w with
      | ok x w1 => rw [hs] at e; simp only [Result.andThen_ok, Sem.run_pure] at e; cases e; exact ⟨_, rfl⟩
      | halt x w1 => rw [hs] at e; simp [Result.andThen] at e⟩
  · cases h

theorem strict_frame (d : Option Tmp) (v : Value) : ∀ c a w, Strict Q (.panic c) (a.put d v) w → Strict Q (.panic c) a w := fun c a w h => absurd h.1 (by intro e; cases e)

/-- which operations wait for number i, as far as the edges that go back tell -/
def waitArr (md : Region.Mode) (ops : Array Oper) (listed : Array Bool) (i : Nat) : Array Bool :=
  (List.range ops.size).foldl (fun wt j => wt.push (j == i || (!listed.getD j true && match ops[j]? with
    | some o => o.after.any fun e => Region.binds md e && wt.getD e.on false
    | none => false))) #[]
end
end Go.Proofs.Ytalnfphlhcojcaa
