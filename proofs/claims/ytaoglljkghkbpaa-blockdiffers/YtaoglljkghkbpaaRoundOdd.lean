/- An odd round in the program: what it returns, if the quarters return what they do; nothing below the top of the heap is changed. -/
import Derived.Test.YtaoglljkghkbpaaQuarters
import Derived.Test.YtaoglljkghkbpaaOrders
namespace Go.Proofs.Ytaoglljkghkbpaa
open Go.RowKit

set_option maxHeartbeats 4000000 in
theorem roundOdd_core (x0 x1 x2 x3 x4 x5 x6 x7 x8 x9 x10 x11 x12 x13 x14 x15 y0 y1 y2 y3 y4 y5 y6 y7 y8 y9 y10 y11 y12 y13 y14 y15 : Nat)
    (h0 : Hid (∀ w : World, Calls Try.prog 60 #[.int .u32 (x0 : Int), .int .u32 (x5 : Int), .int .u32 (x10 : Int), .int .u32 (x15 : Int)] w fun e w' => e = .returned (.tuple #[.int .u32 (y0 : Int), .int .u32 (y5 : Int), .int .u32 (y10 : Int), .int .u32 (y15 : Int)]) ∧ w' = w))
    (h1 : Hid (∀ w : World, Calls Try.prog 60 #[.int .u32 (x1 : Int), .int .u32 (x6 : Int), .int .u32 (x11 : Int), .int .u32 (x12 : Int)] w fun e w' => e = .returned (.tuple #[.int .u32 (y1 : Int), .int .u32 (y6 : Int), .int .u32 (y11 : Int), .int .u32 (y12 : Int)]) ∧ w' = w))
    (h2 : Hid (∀ w : World, Calls Try.prog 60 #[.int .u32 (x2 : Int), .int .u32 (x7 : Int), .int .u32 (x8 : Int), .int .u32 (x13 : Int)] w fun e w' => e = .returned (.tuple #[.int .u32 (y2 : Int), .int .u32 (y7 : Int), .int .u32 (y8 : Int), .int .u32 (y13 : Int)]) ∧ w' = w))
    (h3 : Hid (∀ w : World, Calls Try.prog 60 #[.int .u32 (x3 : Int), .int .u32 (x4 : Int), .int .u32 (x9 : Int), .int .u32 (x14 : Int)] w fun e w' => e = .returned (.tuple #[.int .u32 (y3 : Int), .int .u32 (y4 : Int), .int .u32 (y9 : Int), .int .u32 (y14 : Int)]) ∧ w' = w)) (w : World) :
    Calls Try.prog 57 #[.agg #[.int .u32 (x0 : Int), .int .u32 (x1 : Int), .int .u32 (x2 : Int), .int .u32 (x3 : Int), .int .u32 (x4 : Int), .int .u32 (x5 : Int), .int .u32 (x6 : Int), .int .u32 (x7 : Int), .int .u32 (x8 : Int), .int .u32 (x9 : Int), .int .u32 (x10 : Int), .int .u32 (x11 : Int), .int .u32 (x12 : Int), .int .u32 (x13 : Int), .int .u32 (x14 : Int), .int .u32 (x15 : Int)], .bool true] w fun e w' => e = .returned (.agg #[.int .u32 (y0 : Int), .int .u32 (y1 : Int), .int .u32 (y2 : Int), .int .u32 (y3 : Int), .int .u32 (y4 : Int), .int .u32 (y5 : Int), .int .u32 (y6 : Int), .int .u32 (y7 : Int), .int .u32 (y8 : Int), .int .u32 (y9 : Int), .int .u32 (y10 : Int), .int .u32 (y11 : Int), .int .u32 (y12 : Int), .int .u32 (y13 : Int), .int .u32 (y14 : Int), .int .u32 (y15 : Int)]) ∧ Below w.heap.size w w' := by
  go_enter Try.func57, Try.ntmps57
  go_wp2_with fail
  refine wp_loop_rounds 5 ?_
  rw [rounds_succ]
  go_wp2
  refine wp_region_text (by kernel_rfl) (by kernel_rfl) ?_
  go_wp2_with fail
  refine (h0.out _).mono ?_
  rintro e w1 ⟨rfl, rfl⟩
  go_wp2_with fail
  refine ⟨rfl, ?_⟩
  go_wp2_with fail
  rw [rounds_succ]
  go_wp2
  refine wp_region_text (by kernel_rfl) (by kernel_rfl) ?_
  go_wp2_with fail
  refine (h1.out _).mono ?_
  rintro e w1 ⟨rfl, rfl⟩
  go_wp2_with fail
  refine ⟨rfl, ?_⟩
  go_wp2_with fail
  rw [rounds_succ]
  go_wp2
  refine wp_region_text (by kernel_rfl) (by kernel_rfl) ?_
  go_wp2_with fail
  refine (h2.out _).mono ?_
  rintro e w1 ⟨rfl, rfl⟩
  go_wp2_with fail
  refine ⟨rfl, ?_⟩
  go_wp2_with fail
  rw [rounds_succ]
  go_wp2
  refine wp_region_text (by kernel_rfl) (by kernel_rfl) ?_
  go_wp2_with fail
  refine (h3.out _).mono ?_
  rintro e w1 ⟨rfl, rfl⟩
  go_wp2_with fail
  refine ⟨rfl, ?_⟩
  go_wp2_with fail
  rw [rounds_succ]
  go_wp2
  go_returns
  refine ⟨by simp, ?_⟩
  go_grown

end Go.Proofs.Ytaoglljkghkbpaa
