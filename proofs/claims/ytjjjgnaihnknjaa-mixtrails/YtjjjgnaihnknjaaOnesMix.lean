/- Contracts of the counted ones, in the program and in Go's package math/bits beneath it. -/
import Derived.Test.YtjjjgnaihnknjaaRows
import Derived.Test.YtjjjgnaihnknjaaMathTop
import Derived.WalkKit
import Derived.ProofKit
import Derived.OpenShut
import Derived.WalkSpells
import Derived.Below
namespace Go.Proofs.Ytjjjgnaihnknjaa
open Go.RowKit
set_option linter.unusedVariables false

theorem w64 (a : Int) : wrap64 a = IntKind.i64.wrap a := (IntWalk.i64_left a).symm

theorem onesCount_core (x y1 y2 ys y3 z1 z2 z3 r : Nat)
    (r1 : IntKind.u64.wrap (bits .and .u64 ((x : Int) / 2) 6148914691236517205 + bits .and .u64 (x : Int) 6148914691236517205) = (y1 : Int))
    (r2 : IntKind.u64.wrap (bits .and .u64 ((y1 : Int) / 4) 3689348814741910323 + bits .and .u64 (y1 : Int) 3689348814741910323) = (y2 : Int))
    (r3 : IntKind.u64.wrap ((y2 : Int) / 16 + (y2 : Int)) = (ys : Int)) (r4 : bits .and .u64 (ys : Int) 1085102592571150095 = (y3 : Int))
    (r5 : IntKind.u64.wrap ((y3 : Int) + (y3 : Int) / 256) = (z1 : Int)) (r6 : IntKind.u64.wrap ((z1 : Int) + (z1 : Int) / 65536) = (z2 : Int)) (r7 : IntKind.u64.wrap ((z2 : Int) + (z2 : Int) / 4294967296) = (z3 : Int))
    (r8 : wrap64 (z3 : Int) = (z3 : Int)) (r9 : bits .and .i64 (z3 : Int) 127 = (r : Int)) (w : World) :
    Calls Try.prog 58 #[.int .u64 (x : Int)] w fun e w' => e = .returned (.int .i64 (r : Int)) ∧ w' = w := by
  go_enter Try.func58, Try.ntmps58
  go_wp2
  go_ret
  exact ⟨rfl, rfl⟩

theorem ones_any (x : Nat) (hx : x < 18446744073709551616) (w : World) :
    Calls Try.prog 37 #[.int .u64 (x : Int)] w fun e w' => e = .returned (.int .i64 (onesTo x 64 : Int)) ∧ w' = w := by
  obtain ⟨y1, y2, ys, y3, z1, z2, z3, r1, r2, r3, r4, r5, r6, r7, l, o⟩ := pop_facts x hx
  have c := onesCount_core x y1 y2 ys y3 z1 z2 z3 (onesTo x 64) r1 r2 r3 r4 r5 r6 r7 (by rw [w64]; exact wrapI64_id _ (by omega) (by omega)) (by rw [and127 z3 l, o])
  clear r1 r2 r3 r4 r5 r6 r7 l o
  have C : Hid (∀ w : World, Calls Try.prog 58 #[.int .u64 (x : Int)] w fun e w' => e = .returned (.int .i64 (onesTo x 64 : Int)) ∧ w' = w) := c
  clear c
  go_enter Try.func37, Try.ntmps37
  go_wp2_with fail
  refine (C.out _).mono ?_
  rintro e w' ⟨rfl, rfl⟩
  go_wp2
  go_ret
  exact ⟨rfl, rfl⟩

end Go.Proofs.Ytjjjgnaihnknjaa
