/- A run of values copied over a list that is told by a function of the place. No program in it. -/
import Derived.Test.YtaoglljkghkbpaaRowf
namespace Go.Proofs.Ytaoglljkghkbpaa
open Go Go.RowKit

/-- F, and from place a on m places of G -/
def overF (F : Nat → Value) (a m : Nat) (G : Nat → Value) : Nat → Value := fun i => if a ≤ i ∧ i < a + m then G (i - a) else F i
theorem splice_range (n a m : Nat) (F G : Nat → Value) (h : a + m ≤ n) :
    splice ((List.range n).map F) a ((List.range m).map G) = (List.range n).map (overF F a m G) := by
  apply List.ext_getElem?
  intro i
  unfold splice
  have l1 : (((List.range n).map F).take a).length = a := by simp; omega
  have l2 : ((List.range m).map G).length = m := by simp
  by_cases h1 : i < a
  · rw [List.getElem?_append_left (by omega), List.getElem?_take_of_lt h1]
    have : overF F a m G i = F i := if_neg (by omega)
    simp [show i < n by omega, this]
  · rw [List.getElem?_append_right (by omega), l1]
    by_cases h2 : i < a + m
    · rw [List.getElem?_append_left (by omega)]
      have : overF F a m G i = G (i - a) := if_pos (by omega)
      simp [show i < n by omega, show i - a < m by omega, this]
    · rw [List.getElem?_append_right (by omega), List.getElem?_drop, l2, show a + m + (i - a - m) = i from by omega]
      have : overF F a m G i = F i := if_neg (by omega)
      by_cases h3 : i < n
      · simp [h3, this]
      · simp [h3]
theorem splice_va (n a m : Nat) (F G : Nat → Value) (h : a + m ≤ n) : (splice ((List.range n).map F) a ((List.range m).map G)).toArray = va n (overF F a m G) := by
  rw [splice_range n a m F G h]; rfl
theorem over_fup (κ : IntKind) (n a m : Nat) (f g : Nat → Nat) : va n (overF (iv κ (fupN a f g)) a m fun j => .int κ ((f (a + j) : Nat) : Int)) = va n (iv κ (fupN (a + m) f g)) := va_congr fun i hi => by
  show overF (iv κ (fupN a f g)) a m (fun j => .int κ ((f (a + j) : Nat) : Int)) i = Value.int κ ((fupN (a + m) f g i : Nat) : Int)
  unfold overF fupN
  by_cases h1 : a ≤ i ∧ i < a + m
  · rw [if_pos h1, if_pos h1.2]
    show Value.int κ ((f (a + (i - a)) : Nat) : Int) = _
    rw [show a + (i - a) = i from by omega]
  · rw [if_neg h1]
    show Value.int κ ((if i < a then f i else g i : Nat) : Int) = _
    by_cases h2 : i < a
    · rw [if_pos h2, if_pos (by omega)]
    · rw [if_neg h2, if_neg (by omega)]
theorem mem_iv_one (κ : IntKind) (m : Nat) (f : Nat → Nat) : ∀ v ∈ (List.range m).map (fun j => Value.int κ ((f j : Nat) : Int)), v.oneCell' = true := fun v hv => by
  obtain ⟨j, _, rfl⟩ := List.mem_map.1 hv
  rfl
end Go.Proofs.Ytaoglljkghkbpaa
