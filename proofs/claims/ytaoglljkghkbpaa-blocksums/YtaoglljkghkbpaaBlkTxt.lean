/- A block's text: the program's contract. -/
import Derived.Test.YtaoglljkghkbpaaBlkTake
import Derived.Handy
namespace Go.Proofs.Ytaoglljkghkbpaa
open Go.RowKit
set_option linter.unusedSimpArgs false
set_option linter.unusedVariables false

set_option maxRecDepth 100000 in
set_option maxHeartbeats 4000000 in
theorem textOf_any (f : Nat → Nat) (w : World) :
    Calls Try.prog 12 #[bkV f] w fun e w' => e = .returned (.string (strN f 256)) ∧ Below w.heap.size w w' := by
  unfold bkV
  have b0 := Blk.new w 23 (va 256 (iv .u8 f))
  have hb := below_new1 w (Obj.cells (va 256 (iv IntKind.u8 f)) 23)
  have hc := run_bytes_text (P := Try.prog) (w.alloc (Obj.cells (va 256 (iv IntKind.u8 f)) 23)) 78 5 9 Try.underlying78 Try.underlying5 Try.underlying9 b0 0 256 256 (by omega)
  have hx : strN (fun j => f (0 + j)) 256 = strN f 256 := strN_congr fun j _ => by rw [Nat.zero_add]
  rw [hx] at hc
  go_enter Try.func12, Try.ntmps12
  go_wp2_with fail
  go_ret
  exact ⟨rfl, hb⟩
end Go.Proofs.Ytaoglljkghkbpaa
