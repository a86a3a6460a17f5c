/- A hasher to which nothing was written: the program's contract. -/
import Derived.Test.YtaoglljkghkbpaaDigFirst
import Derived.Handy
namespace Go.Proofs.Ytaoglljkghkbpaa
open Go.RowKit
set_option linter.unusedSimpArgs false
set_option linter.unusedVariables false

/-- a hasher's cells -/
def hashV (c p : Nat → Nat) (m : Nat) : Nat → Value := fun i => if i < 8 then .int .u32 ((c i : Nat) : Int) else if i < 40 then .int .u8 ((p (i - 8) : Nat) : Int) else .int .i64 (m : Int)

set_option maxHeartbeats 4000000 in
theorem new_any (tag : Nat) (h : tag < 256) (w : World) :
    Calls Try.prog 44 #[.int .u8 (tag : Int)] w fun e w' => ∃ g, e = .returned (.pointer (some ⟨g, 0, none⟩)) ∧ w.heap.size ≤ g ∧ Blk w' g 106 (va 41 (hashV (firstN tag) (fun _ => 0) 0)) ∧ Below w.heap.size w w' := by
  have hF : Hid (∀ w : World, Calls Try.prog 48 #[.int .u8 (tag : Int)] w fun e w' => e = .returned (.agg #[.int .u32 ((firstN tag 0 : Nat) : Int), .int .u32 ((firstN tag 1 : Nat) : Int), .int .u32 ((firstN tag 2 : Nat) : Int), .int .u32 ((firstN tag 3 : Nat) : Int), .int .u32 ((firstN tag 4 : Nat) : Int), .int .u32 ((firstN tag 5 : Nat) : Int), .int .u32 ((firstN tag 6 : Nat) : Int), .int .u32 ((firstN tag 7 : Nat) : Int)]) ∧ Below w.heap.size w w') := fun w => first_any tag h w
  generalize firstN tag = c at *
  have hZ : Hid (#[Value.int .u32 ((c 0 : Nat) : Int), Value.int .u32 ((c 1 : Nat) : Int), Value.int .u32 ((c 2 : Nat) : Int), Value.int .u32 ((c 3 : Nat) : Int), Value.int .u32 ((c 4 : Nat) : Int), Value.int .u32 ((c 5 : Nat) : Int), Value.int .u32 ((c 6 : Nat) : Int), Value.int .u32 ((c 7 : Nat) : Int), .int .u8 0, .int .u8 0, .int .u8 0, .int .u8 0, .int .u8 0, .int .u8 0, .int .u8 0, .int .u8 0, .int .u8 0, .int .u8 0, .int .u8 0, .int .u8 0, .int .u8 0, .int .u8 0, .int .u8 0, .int .u8 0, .int .u8 0, .int .u8 0, .int .u8 0, .int .u8 0, .int .u8 0, .int .u8 0, .int .u8 0, .int .u8 0, .int .u8 0, .int .u8 0, .int .u8 0, .int .u8 0, .int .u8 0, .int .u8 0, .int .u8 0, .int .u8 0, .int .i64 0] = va 41 (hashV c (fun _ => 0) 0)) := by
    show _ = _
    simp [va, hashV, List.range_succ]
  go_enter Try.func44, Try.ntmps44
  go_wp2_with fail
  refine (hF.out _).mono ?_
  rintro e w1 ⟨rfl, hb1⟩
  go_wp2_with fail
  go_returns
  refine ⟨w1.heap.size, rfl, hb1.size, ?_, hb1.alloc hb1.size _⟩
  rw [← hZ.out]
  exact Blk.new _ _ _
end Go.Proofs.Ytaoglljkghkbpaa
