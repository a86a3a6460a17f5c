/- Arrays of values told by a function of the place, as cells of a block; runs of cells laid over them. No program in it. No conditions beyond those that each fact states. -/
import Derived.Test.YtaoglljkghkbpaaStateKit
import Derived.Deep.MidRow
import Derived.Laws.CopyOwn
namespace Go.Proofs.Ytaoglljkghkbpaa
open Go Go.RowKit

def va (n : Nat) (f : Nat → Value) : Array Value := ((List.range n).map f).toArray
theorem va_size (n : Nat) (f : Nat → Value) : (va n f).size = n := by simp [va]
theorem va_at {n : Nat} (f : Nat → Value) {i : Nat} (h : i < n) : (va n f)[i]? = some (f i) := by simp [va, h]
theorem va_ext {n : Nat} {f : Nat → Value} {a : Array Value} (hs : a.size = n) (h : ∀ i, i < n → a[i]? = some (f i)) : a = va n f := by
  apply Array.ext_getElem?
  intro i
  by_cases hi : i < n
  · rw [h i hi, va_at f hi]
  · rw [Array.getElem?_eq_none (by omega), Array.getElem?_eq_none (by rw [va_size]; omega)]
theorem va_congr {n : Nat} {f g : Nat → Value} (h : ∀ i, i < n → f i = g i) : va n f = va n g :=
  va_ext (va_size n f) fun i hi => by rw [va_at f hi, h i hi]
def upd (f : Nat → Value) (i : Nat) (v : Value) : Nat → Value := fun j => if j = i then v else f j
theorem va_set (n : Nat) (f : Nat → Value) (i : Nat) (v : Value) : (va n f).setIfInBounds i v = va n (upd f i v) := by
  refine va_ext (by simp [va_size]) fun j hj => ?_
  rw [Array.getElem?_setIfInBounds, va_size]
  unfold upd
  by_cases h : i = j
  · subst h; simp [hj]
  · rw [if_neg h, if_neg (fun e => h e.symm), va_at f hj]
theorem va_toList (n : Nat) (f : Nat → Value) : (va n f).toList = (List.range n).map f := by simp [va]
theorem va_one {n : Nat} {f : Nat → Value} (h : ∀ i, i < n → (f i).oneCell' = true) : (va n f).all (·.oneCell') = true := by
  refine all_oneCell_toArray fun v hv => ?_
  obtain ⟨i, hi, rfl⟩ := List.mem_map.1 hv
  exact h i (List.mem_range.1 hi)
def iv (k : IntKind) (f : Nat → Nat) : Nat → Value := fun i => .int k (f i : Int)
theorem iv_one (k : IntKind) (f : Nat → Nat) (n : Nat) : (va n (iv k f)).all (·.oneCell') = true := va_one fun _ _ => rfl
def updN (f : Nat → Nat) (i v : Nat) : Nat → Nat := fun j => if j = i then v else f j
theorem upd_iv (k : IntKind) (f : Nat → Nat) (i v : Nat) : upd (iv k f) i (.int k (v : Int)) = iv k (updN f i v) := by
  funext j
  unfold upd iv updN
  by_cases h : j = i
  · rw [if_pos h, if_pos h]
  · rw [if_neg h, if_neg h]
theorem va_iv_inj {k : IntKind} {n : Nat} {f g : Nat → Nat} (h : va n (iv k f) = va n (iv k g)) : ∀ i, i < n → f i = g i := fun i hi => by
  have h1 := va_at (iv k f) hi
  rw [h, va_at (iv k g) hi] at h1
  unfold iv at h1
  injection h1 with h1
  injection h1 with _ h1
  omega
/-- the first k places told by f, the others by g -/
def fupN (k : Nat) (f g : Nat → Nat) : Nat → Nat := fun j => if j < k then f j else g j
theorem fup_zero (f g : Nat → Nat) : fupN 0 f g = g := by
  funext j
  exact if_neg (by omega)
theorem fup_step (κ : IntKind) (n k : Nat) (f g : Nat → Nat) : va n (upd (iv κ (fupN k f g)) k (.int κ (f k : Int))) = va n (iv κ (fupN (k + 1) f g)) := by
  rw [upd_iv]
  congr 2
  funext j
  unfold updN fupN
  by_cases h : j = k
  · subst h; rw [if_pos rfl, if_pos (by omega)]
  · rw [if_neg h]
    by_cases h2 : j < k
    · rw [if_pos h2, if_pos (by omega)]
    · rw [if_neg h2, if_neg (by omega)]
theorem fup_all (κ : IntKind) (n k : Nat) (f g : Nat → Nat) (h : n ≤ k) : va n (iv κ (fupN k f g)) = va n (iv κ f) := va_congr fun j hj => by
  show Value.int κ ((fupN k f g j : Nat) : Int) = Value.int κ (f j : Int)
  rw [show fupN k f g j = f j from if_pos (by omega)]
/-- a run of values laid over the places from o on -/
def over (f : Nat → Value) (o : Nat) (vs : List Value) : Nat → Value := fun i => if o ≤ i ∧ i < o + vs.length then vs.getD (i - o) undef else f i
theorem over_nil (f : Nat → Value) (o : Nat) : over f o [] = f := by
  funext i
  unfold over
  rw [if_neg (by simp)]
theorem over_cons (f : Nat → Value) (o : Nat) (v : Value) (vs : List Value) : over (upd f o v) (o + 1) vs = over f o (v :: vs) := by
  funext i
  unfold over upd
  by_cases h0 : i = o
  · subst h0
    rw [if_neg (by omega), if_pos rfl, if_pos (by simp)]
    simp
  · by_cases h1 : o + 1 ≤ i ∧ i < o + 1 + vs.length
    · rw [if_pos h1, if_pos (by simp; omega)]
      obtain ⟨k, hk⟩ : ∃ k, i - o = k + 1 := ⟨i - o - 1, by omega⟩
      rw [hk, show i - (o + 1) = k from by omega]; simp
    · rw [if_neg h1, if_neg h0, if_neg (by simp; omega)]
theorem Blk.cells_put {g t n : Nat} : ∀ (vs : List Value) (o : Nat) (w : World) (f : Nat → Value), Blk w g t (va n f) → Blk (w.setCells g o vs) g t (va n (over f o vs))
  | [], o, w, f, h => by rw [over_nil]; exact h
  | v :: vs, o, w, f, h => by
    rw [World.setCells, ← over_cons]
    refine Blk.cells_put vs (o + 1) _ _ ?_
    have := h.put o v
    rw [va_set] at this
    exact this
theorem Blk.cells_other {g k t : Nat} {cs : Array Value} (hk : k ≠ g) : ∀ (vs : List Value) (o : Nat) (w : World), Blk w k t cs → Blk (w.setCells g o vs) k t cs
  | [], _, _, h => h
  | v :: vs, o, w, h => by
    rw [World.setCells]
    exact Blk.cells_other hk vs (o + 1) _ (h.put_other o v hk)
theorem below_setCells {B g : Nat} {w0 : World} (hg : B ≤ g) : ∀ (vs : List Value) (o : Nat) (w : World), Below B w0 w → Below B w0 (w.setCells g o vs)
  | [], _, _, h => h
  | v :: vs, o, w, h => by
    rw [World.setCells]
    exact below_setCells hg vs (o + 1) _ (h.setCell (p := ⟨g, o, none⟩) hg v)
theorem size_setCells {g : Nat} : ∀ (vs : List Value) (o : Nat) (w : World), (w.setCells g o vs).heap.size = w.heap.size
  | [], _, _ => rfl
  | v :: vs, o, w => by
    rw [World.setCells, size_setCells vs (o + 1)]
    simp
theorem Blk.range {w : World} {g t n : Nat} {f : Nat → Value} (h : Blk w g t (va n f)) (o m : Nat) (hm : o + m ≤ n) : w.rangeAt g o ((List.range m).map fun j => f (o + j)) := fun j v hv => by
  rw [h.cell]
  have hj : j < m := by
    have := (List.getElem?_eq_some_iff.1 hv).1
    simpa using this
  rw [va_at f (by omega)]
  simpa [hj] using hv
theorem Blk.there {w : World} {g t : Nat} {cs : Array Value} (h : Blk w g t cs) (o m : Nat) (hm : o + m ≤ cs.size) : w.there g o m := fun j hj => by
  refine ⟨?_, ?_⟩
  · rw [h.cell, Array.getElem?_eq_getElem (by omega)]; rfl
  · have := h; unfold Blk at this; simp [World.frozen?, this]
theorem Blk.frozen {w : World} {g t : Nat} {cs : Array Value} (h : Blk w g t cs) (i : Nat) : w.frozen? ⟨g, i, none⟩ = false := by
  have := h; unfold Blk at this; simp [World.frozen?, this]
theorem Blk.cv {w : World} {g t n : Nat} {f : Nat → Value} (h : Blk w g t (va n f)) {i : Nat} (hi : i < n) : w.cell? ⟨g, i, none⟩ = some (f i) := by rw [h.cell, va_at f hi]
end Go.Proofs.Ytaoglljkghkbpaa
