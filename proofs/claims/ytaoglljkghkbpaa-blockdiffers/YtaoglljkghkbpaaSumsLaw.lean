/- The statement DigestSums, if what it calls returns what it does; and the test that stands ahead of the statements of this layer. -/
import Derived.Test.YtaoglljkghkbpaaRows
import Derived.Test.YtaoglljkghkbpaaSplice
import Derived.Laws.BytesArg
import Derived.Handy
import Derived.Test.YtaoglljkghkbpaaDigOf
import Derived.Test.YtaoglljkghkbpaaDigRef
import Derived.Test.YtaoglljkghkbpaaEqState

namespace Go.Proofs.Ytaoglljkghkbpaa
open Go.RowKit
set_option linter.unusedSimpArgs false
set_option linter.unusedVariables false

theorem sizeSumT : (Try.prog.info? 69).map (·.size) = some 32 := by kernel_rfl
theorem run_index_agg {P : Program} (w : World) (t e n : Nat) (cs : Array Value) (k : Nat) (κ : IntKind) (x : Int) (ht : P.underlying t = some (.array n e)) (he : P.underlying e = some (.int κ)) (hi : (P.info? e).map (·.size) = some 1) (hk : k < n) (hc : cs[k]? = some (.int κ x)) :
    (Instr.index t (.agg cs) (.int .i64 (k : Int))).run P w = .ok (.int κ x) w := by
  cases hq : P.info? e with
  | none => simp [hq] at hi
  | some i =>
    have h1 : i.size = 1 := by simpa [hq] using hi
    have h2 : (k : Int) < (n : Int) := by omega
    simp [Instr.index, asIntOf, run_underlying ht, part, isAgg, run_underlying he, sizeOf, typeInfo, hq, h1, h2, hc]
    intro h
    omega
theorem text_step (k : Nat) : va 64 (upd (upd (iv .u8 (fupN (2 * k) (fun _ => 48) fun _ => 0)) (2 * k) (.int .u8 48)) (2 * k + 1) (.int .u8 48)) = va 64 (iv .u8 (fupN (2 * (k + 1)) (fun _ => 48) fun _ => 0)) := by
  have e := fup_step .u8 64 (2 * k) (fun _ => 48) fun _ => 0
  have e1 : upd (iv .u8 (fupN (2 * k) (fun _ => 48) fun _ => 0)) (2 * k) (.int .u8 48) = iv .u8 (fupN (2 * k + 1) (fun _ => 48) fun _ => 0) := by
    rw [show (Value.int .u8 48) = Value.int .u8 ((48 : Nat) : Int) from rfl, upd_iv]
    congr 1
    funext j
    unfold updN fupN
    by_cases h : j = 2 * k
    · rw [if_pos h, if_pos (by omega)]
    · rw [if_neg h]
      by_cases h2 : j < 2 * k
      · rw [if_pos h2, if_pos (by omega)]
      · rw [if_neg h2, if_neg (by omega)]
  rw [e1]
  exact fup_step .u8 64 (2 * k + 1) (fun _ => 48) fun _ => 0

end Go.Proofs.Ytaoglljkghkbpaa

namespace Go.Proofs.Ytaoglljkghkbpaa
open Go.RowKit
set_option linter.unusedSimpArgs false
set_option linter.unusedVariables false

set_option maxRecDepth 100000 in
/-- a digest compared with itself -/
theorem eq_sum (f : Nat → Nat) (w : World) : (Op.equalIn 10000 69 (.agg (va 32 (iv .u8 f))) (.agg (va 32 (iv .u8 f)))).run Try.prog w = .ok true w := by
  obtain ⟨i, hi⟩ : ∃ i, Try.prog.info? 5 = some i := Option.isSome_iff_exists.1 (by kernel_rfl)
  have hc : Try.prog.cellsOf 5 = 1 := by kernel_rfl
  rw [show (10000 : Nat) = 9998 + 1 + 1 from rfl, run_equalIn_array w (9998 + 1) (va 32 (iv .u8 f)) (va 32 (iv .u8 f)) Try.underlying69 hi, hc,
    run_items 9998 Try.underlying5 (fun i => ((f i : Nat) : Int)) (fun i => ((f i : Nat) : Int)) (va 32 (iv .u8 f)) (va 32 (iv .u8 f)) _ (fun i hi => ⟨va_at (iv .u8 f) (by simpa using hi), va_at (iv .u8 f) (by simpa using hi)⟩)]
  congr 1
  simp

end Go.Proofs.Ytaoglljkghkbpaa
