/- The statement DigestSums, if what it calls returns what it does; and the test that stands ahead of the statements of this layer. -/
import Derived.Test.YtjjjgnaihnknjaaDigOf
import Derived.Test.YtjjjgnaihnknjaaDigRef
import Derived.Test.YtjjjgnaihnknjaaDigTextZero
import Derived.Test.YtjjjgnaihnknjaaEqState
import Derived.Handy
namespace Go.Proofs.Ytjjjgnaihnknjaa
open Go.RowKit
set_option linter.unusedSimpArgs false
set_option linter.unusedVariables false

set_option maxRecDepth 100000 in
/-- a digest compared with itself -/
theorem eq_sum (f : Nat → Nat) (w : World) : (Op.equalIn 10000 39 (.agg (va 32 (iv .u8 f))) (.agg (va 32 (iv .u8 f)))).run Try.prog w = .ok true w := by
  obtain ⟨i, hi⟩ : ∃ i, Try.prog.info? 5 = some i := Option.isSome_iff_exists.1 (by kernel_rfl)
  have hc : Try.prog.cellsOf 5 = 1 := by kernel_rfl
  rw [show (10000 : Nat) = 9998 + 1 + 1 from rfl, run_equalIn_array w (9998 + 1) (va 32 (iv .u8 f)) (va 32 (iv .u8 f)) Try.underlying39 hi, hc,
    run_items 9998 Try.underlying5 (fun i => ((f i : Nat) : Int)) (fun i => ((f i : Nat) : Int)) (va 32 (iv .u8 f)) (va 32 (iv .u8 f)) _ (fun i hi => ⟨va_at (iv .u8 f) (by simpa using hi), va_at (iv .u8 f) (by simpa using hi)⟩)]
  congr 1
  simp

set_option maxRecDepth 100000 in
set_option maxHeartbeats 4000000 in
theorem awake3_any (w : World) : Calls Try.prog 13 #[] w fun e w' => e = .returned (.bool true) ∧ Below w.heap.size w w' := by
  have hT : Hid (∀ w : World, Calls Try.prog 24 #[.agg #[.int .u8 0, .int .u8 0, .int .u8 0, .int .u8 0, .int .u8 0, .int .u8 0, .int .u8 0, .int .u8 0, .int .u8 0, .int .u8 0, .int .u8 0, .int .u8 0, .int .u8 0, .int .u8 0, .int .u8 0, .int .u8 0, .int .u8 0, .int .u8 0, .int .u8 0, .int .u8 0, .int .u8 0, .int .u8 0, .int .u8 0, .int .u8 0, .int .u8 0, .int .u8 0, .int .u8 0, .int .u8 0, .int .u8 0, .int .u8 0, .int .u8 0, .int .u8 0]] w fun e w' => ∃ t, e = .returned (.string t) ∧ t.size = 64 ∧ Below w.heap.size w w') := fun w => text_zero w
  have hP : Hid (∀ w : World, Calls Try.prog 16 #[.string { data := #[] }] w fun e w' => e = .returned (.int .i64 1) ∧ w' = w) := fun w => pieces_any { data := #[] } (by decide) w
  have hO : Hid (∀ w : World, Calls Try.prog 14 #[.int .u8 1, .string { data := #[97] }] w fun e w' => e = .returned (.agg (va 32 (iv .u8 (ofC (firstN 1) (byteAt { data := #[97] }) 1)))) ∧ Below w.heap.size w w') := fun w => of_any 1 (by decide) { data := #[97] } (by decide) w
  have hR : Hid (∀ w : World, Calls Try.prog 15 #[.int .u8 1, .string { data := #[97] }] w fun e w' => e = .returned (.agg (va 32 (iv .u8 (ofC (firstN 1) (byteAt { data := #[97] }) 1)))) ∧ Below w.heap.size w w') := fun w => refOf_any 1 (by decide) { data := #[97] } (by decide) w
  generalize ofC (firstN 1) (byteAt { data := #[97] }) 1 = x at *
  have hq := eq_sum x
  go_enter Try.func13, Try.ntmps13
  go_wp2_with fail
  refine (hT.out _).mono ?_
  rintro e w1 ⟨t, rfl, ht, hb1⟩
  go_wp2_with fail
  refine (hP.out _).mono ?_
  rintro e w2 ⟨rfl, rfl⟩
  go_wp2_with fail
  refine (hO.out _).mono ?_
  rintro e w3 ⟨rfl, hb3⟩
  go_wp2_with fail
  refine (hR.out _).mono ?_
  rintro e w4 ⟨rfl, hb4⟩
  have hb : Below w.heap.size w w4 := hb1.trans ((hb3.mono hb1.size).trans (hb4.mono (Nat.le_trans hb1.size hb3.size)))
  clear hb1 hb3 hb4
  go_wp2_with fail
  go_ret
  exact ⟨rfl, hb⟩

set_option maxRecDepth 100000 in
set_option maxHeartbeats 4000000 in
theorem sumsLaw (tag : Nat) (h : tag < 256) (s : ByteArray) (hs : s.size ≤ 140737488351232) (w : World) :
    Calls Try.prog 4 #[.int .u8 (tag : Int), .string s] w fun e w' => e = .returned (.bool true) ∧ Below w.heap.size w w' := by
  have hA : Hid (∀ w : World, Calls Try.prog 13 #[] w fun e w' => e = .returned (.bool true) ∧ Below w.heap.size w w') := fun w => awake3_any w
  have hO : Hid (∀ w : World, Calls Try.prog 14 #[.int .u8 (tag : Int), .string s] w fun e w' => e = .returned (.agg (va 32 (iv .u8 (ofC (firstN tag) (byteAt s) s.size)))) ∧ Below w.heap.size w w') := fun w => of_any tag h s hs w
  have hR : Hid (∀ w : World, Calls Try.prog 15 #[.int .u8 (tag : Int), .string s] w fun e w' => e = .returned (.agg (va 32 (iv .u8 (ofC (firstN tag) (byteAt s) s.size)))) ∧ Below w.heap.size w w') := fun w => refOf_any tag h s hs w
  have hP : Hid (∀ w : World, Calls Try.prog 16 #[.string s] w fun e w' => e = .returned (.int .i64 (((s.size + 8) / 32 + 1 : Nat) : Int)) ∧ w' = w) := fun w => pieces_any s hs w
  have hQ : Hid (∀ w : World, Calls Try.prog 17 #[.string s] w fun e w' => e = .returned (.int .i64 (((s.size + 8) / 32 + 1 : Nat) : Int)) ∧ w' = w) := fun w => refPieces_any s hs w
  generalize ofC (firstN tag) (byteAt s) s.size = x at *
  generalize (((s.size + 8) / 32 + 1 : Nat) : Int) = z at *
  have hq := eq_sum x
  clear hs
  go_enter Try.func4, Try.ntmps4
  go_wp2_with fail
  refine (hA.out _).mono ?_
  rintro e w1 ⟨rfl, hb1⟩
  go_wp2_with fail
  refine (hO.out _).mono ?_
  rintro e w2 ⟨rfl, hb2⟩
  go_wp2_with fail
  refine (hR.out _).mono ?_
  rintro e w3 ⟨rfl, hb3⟩
  have hb : Below w.heap.size w w3 := hb1.trans ((hb2.mono hb1.size).trans (hb3.mono (Nat.le_trans hb1.size hb2.size)))
  clear hb1 hb2 hb3
  go_wp2_with fail
  refine (hP.out _).mono ?_
  rintro e w4 ⟨rfl, rfl⟩
  go_wp2_with fail
  refine (hQ.out _).mono ?_
  rintro e w5 ⟨rfl, rfl⟩
  go_wp2_with fail
  go_ret
  exact ⟨rfl, hb⟩
end Go.Proofs.Ytjjjgnaihnknjaa
