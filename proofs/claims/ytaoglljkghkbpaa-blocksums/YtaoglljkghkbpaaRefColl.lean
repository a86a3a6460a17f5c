/- The first collision of a list of entries, by the document: its contract. -/
import Derived.Test.YtaoglljkghkbpaaRefPut
import Derived.Handy
namespace Go.Proofs.Ytaoglljkghkbpaa
open Go.RowKit
set_option linter.unusedSimpArgs false
set_option linter.unusedVariables false

theorem infoDig : (Try.prog.info? 68).map (fun i => (i.zero, i.size, i.bytes)) = some (some (.agg (va 32 (iv .u8 fun _ => 0))), 32, 32) := by kernel_rfl
theorem sizeDig : (Try.prog.info? 68).map (·.size) = some 32 := by kernel_rfl
/-- the cells of a digest, and of a row of them -/
def digL (d : Vector Nat 32) : List Value := (List.range 32).map (iv .u8 (dF d))
def sumCells (D : Nat → Vector Nat 32) (k : Nat) : List Value := (List.range k).flatMap fun j => digL (D j)
theorem digL_length (d : Vector Nat 32) : (digL d).length = 32 := by simp [digL]
theorem digL_one (d : Vector Nat 32) : ∀ u ∈ digL d, u.oneCell' = true := fun u hu => by
  unfold digL at hu
  obtain ⟨i, _, rfl⟩ := List.mem_map.1 hu
  rfl
theorem sumCells_succ (D : Nat → Vector Nat 32) (k : Nat) : sumCells D (k + 1) = sumCells D k ++ digL (D k) := by
  unfold sumCells
  rw [List.range_succ, List.flatMap_append]
  simp
theorem sumCells_length (D : Nat → Vector Nat 32) (k : Nat) : (sumCells D k).length = k * 32 := by
  induction k with
  | zero => simp [sumCells]
  | succ k ih => rw [sumCells_succ, List.length_append, ih, digL_length]; omega
theorem sumCells_at (D : Nat → Vector Nat 32) : ∀ (k i j : Nat), i < k → j < 32 → (sumCells D k)[i * 32 + j]? = some (iv .u8 (dF (D i)) j)
  | 0, i, j, hi, hj => by omega
  | k + 1, i, j, hi, hj => by
    rw [sumCells_succ]
    by_cases h : i < k
    · rw [List.getElem?_append_left (by rw [sumCells_length]; omega)]
      exact sumCells_at D k i j h hj
    · obtain rfl : i = k := by omega
      rw [List.getElem?_append_right (by rw [sumCells_length]; omega), sumCells_length, show i * 32 + j - i * 32 = j from by omega]
      simp [digL, hj]
theorem own_range {w : World} {B b k cap : Nat} {D : Nat → Vector Nat 32} (h : w.ownsRow B 68 32 (.slice (some ⟨b, 0, none⟩) k cap) k (sumCells D k)) (i : Nat) (hi : i < k) : w.rangeAt b (i * 32) ((List.range 32).map (iv .u8 (dF (D i)))) := fun j v hv => by
  have hj : j < 32 := by
    have := (List.getElem?_eq_some_iff.1 hv).1
    simpa using this
  rw [h.cellAt (i * 32 + j) (by omega), sumCells_at D k i j hi hj, ← hv]
  simp [hj]
theorem own_slice {w : World} {B e size k : Nat} {v : Value} {xs : List Value} (h : w.ownsRow B e size v k xs) (h0 : 0 < k) : ∃ b cap, v = .slice (some ⟨b, 0, none⟩) k cap ∧ B ≤ b ∧ b < w.heap.size := by
  rcases h.2 with ⟨_, h2⟩ | ⟨b, cap, cur, h1, h2, h3, _⟩
  · omega
  · exact ⟨b, cap, h1, h2, (Array.getElem?_eq_some_iff.1 h3).1⟩

theorem build_dig (f : Nat → Nat) : Array.foldl (fun (cs : Array Value) (x : Value × Nat) => cs.setIfInBounds x.snd x.fst) #[Value.int .u8 0, Value.int .u8 0, Value.int .u8 0, Value.int .u8 0, Value.int .u8 0, Value.int .u8 0, Value.int .u8 0, Value.int .u8 0, Value.int .u8 0, Value.int .u8 0, Value.int .u8 0, Value.int .u8 0, Value.int .u8 0, Value.int .u8 0, Value.int .u8 0, Value.int .u8 0, Value.int .u8 0, Value.int .u8 0, Value.int .u8 0, Value.int .u8 0, Value.int .u8 0, Value.int .u8 0, Value.int .u8 0, Value.int .u8 0, Value.int .u8 0, Value.int .u8 0, Value.int .u8 0, Value.int .u8 0, Value.int .u8 0, Value.int .u8 0, Value.int .u8 0, Value.int .u8 0] (va 32 (iv .u8 f)).zipIdx 0 (va 32 (iv .u8 f)).size = va 32 (iv .u8 f) := by kernel_rfl

end Go.Proofs.Ytaoglljkghkbpaa
