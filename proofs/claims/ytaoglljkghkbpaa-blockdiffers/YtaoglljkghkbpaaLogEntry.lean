/- An entry of a log: the program's contract. -/
import Derived.Test.YtaoglljkghkbpaaLogOf
import Derived.Handy
namespace Go.Proofs.Ytaoglljkghkbpaa
open Go.RowKit
set_option linter.unusedSimpArgs false
set_option linter.unusedVariables false

theorem entCells_at (E : List (Nat × ByteArray)) : ∀ i, i < E.length → (entCells E)[2 * i]? = some (.int .u8 (((E.getD i (0, ByteArray.empty)).1 : Nat) : Int)) ∧ (entCells E)[2 * i + 1]? = some (.string (E.getD i (0, ByteArray.empty)).2) := by
  induction E with
  | nil => intro i hi; simp at hi
  | cons e E ih =>
    intro i hi
    cases i with
    | zero => simp [entCells]
    | succ i =>
      have := ih i (by simp at hi; omega)
      unfold entCells at this ⊢
      simp only [List.flatMap_cons, List.getD_cons_succ]
      rw [show 2 * (i + 1) = 2 * i + 2 from by omega]
      simpa using this

end Go.Proofs.Ytaoglljkghkbpaa
