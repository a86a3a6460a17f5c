/- The digest, as the document's answer has it: its contract. -/
import Derived.Test.YtaoglljkghkbpaaQuarters
import Derived.Test.YtaoglljkghkbpaaOrders
import Derived.Test.YtaoglljkghkbpaaMathState
import Derived.Test.YtaoglljkghkbpaaStateKit
import Derived.Handy
import Derived.Test.YtaoglljkghkbpaaDigRow
import Derived.Test.YtaoglljkghkbpaaDigPress
import Derived.Test.YtaoglljkghkbpaaDigSum
import Derived.Deep.Heap

namespace Go.Proofs.Ytaoglljkghkbpaa
open Go.RowKit

end Go.Proofs.Ytaoglljkghkbpaa

namespace Go.Proofs.Ytaoglljkghkbpaa
open Go.RowKit

end Go.Proofs.Ytaoglljkghkbpaa

namespace Go.Proofs.Ytaoglljkghkbpaa
open Go.RowKit

end Go.Proofs.Ytaoglljkghkbpaa

namespace Go.Proofs.Ytaoglljkghkbpaa
open Go.RowKit

end Go.Proofs.Ytaoglljkghkbpaa

namespace Go.Proofs.Ytaoglljkghkbpaa
open Go.RowKit

end Go.Proofs.Ytaoglljkghkbpaa

namespace Go.Proofs.Ytaoglljkghkbpaa
open Go.RowKit

end Go.Proofs.Ytaoglljkghkbpaa

namespace Go.Proofs.Ytaoglljkghkbpaa
open Go.RowKit

end Go.Proofs.Ytaoglljkghkbpaa

namespace Go.Proofs.Ytaoglljkghkbpaa
open Go.RowKit

theorem odd_beq (z : Int) (k : Nat) (h : z = (k : Int)) : (z % 2 == 1) = decide (k % 2 = 1) := by
  subst h
  rw [Bool.eq_iff_iff]
  simp only [beq_iff_eq, decide_eq_true_eq]
  omega
theorem odd_tmod (z : Int) (k : Nat) (h : z = (k : Int)) : (z.tmod 2 == 1) = decide (k % 2 = 1) := by
  rw [Int.tmod_eq_emod_of_nonneg (by omega)]
  exact odd_beq z k h

end Go.Proofs.Ytaoglljkghkbpaa

namespace Go.Proofs.Ytaoglljkghkbpaa
open Go.RowKit
set_option linter.unusedSimpArgs false
set_option linter.unusedVariables false

theorem size32 : (Try.prog.info? 68).map (·.size) = some 32 := by kernel_rfl
theorem size16 : (Try.prog.info? 111).map (·.size) = some 16 := by kernel_rfl
theorem sizeC8 : (Try.prog.info? 101).map (·.size) = some 8 := by kernel_rfl
theorem digs_bytes (n k : Nat) : (digs n k).map (Value.int .u8) = bytesL (dig n) k := by
  unfold digs bytesL dig
  rw [List.map_map]
  rfl
theorem app_first (s : ByteArray) (n : Nat) : ∀ j, j < n + 1 → appN (byteAt s) n (fun _ => 128) j = zeroN (byteAt s) n j := fun j hj => by
  unfold appN zeroN
  by_cases h : j < n
  · rw [if_pos h, if_pos h]
  · rw [if_neg h, if_neg h, if_pos (by omega)]
theorem app_zero (f : Nat → Nat) (n m : Nat) (h : n < m) : ∀ j, j < m + 1 → appN (zeroN f n) m (fun _ => 0) j = zeroN f n j := fun j hj => by
  unfold appN
  by_cases h1 : j < m
  · rw [if_pos h1]
  · rw [if_neg h1]
    unfold zeroN
    rw [if_neg (by omega), if_neg (by omega)]
theorem app_last (f : Nat → Nat) (n : Nat) : ∀ j, j < padLen n → appN (zeroN f n) (padLen n - 8) (dig n) j = padN f n j := fun j hj => by
  have g := padLen_ge n
  unfold appN zeroN padN
  by_cases h1 : j < n
  · rw [if_pos (by omega), if_pos h1, if_pos h1]
  · rw [if_neg h1, if_neg h1]
    by_cases h2 : j = n
    · rw [if_pos (by omega), if_pos h2, if_pos h2]
    · rw [if_neg h2, if_neg h2]
theorem cells_one (w : World) (x : Nat) (t : TypeId) : ∀ j u, (bytesL (fun _ => x) 1)[j]? = some u → (w.alloc (.cells #[.int .u8 ((x : Nat) : Int)] t)).cell? ((⟨w.heap.size, 0, none⟩ : Addr).add j) = some u := cell_one_new w (.int .u8 ((x : Nat) : Int)) t

theorem press_val2 (c p : Nat → Nat) (hc : okC c) (hp : okP p) (k : Nat) (hk : k < 8) :
    bits .xor .u32 (bits .xor .u32 ((c k : Nat) : Int) (((mixedN c p).at k : Nat) : Int)) (((mixedN c p).at (k + 8) : Nat) : Int) = ((pressN c p k : Nat) : Int) := by
  have h1 := (mixedN c p).at_lt (mixed_ok hc hp) k
  have h2 := (mixedN c p).at_lt (mixed_ok hc hp) (k + 8)
  rw [u32_xor_nat _ _ (hc k hk) h1, u32_xor_nat _ _ (xlt32 (hc k hk) h1) h2, Nat.xor_assoc]
  rfl

end Go.Proofs.Ytaoglljkghkbpaa
