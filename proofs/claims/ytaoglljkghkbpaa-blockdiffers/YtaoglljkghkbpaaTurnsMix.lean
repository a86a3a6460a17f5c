/- Contracts of the words' turning, in the program and in the document's answer for layer 2: what each returns, and that the world stays. -/
import Derived.Test.YtaoglljkghkbpaaRows
import Derived.Test.YtaoglljkghkbpaaMathMix
import Derived.WalkKit
import Derived.ProofKit
import Derived.OpenShut
import Derived.WalkSpells
import Derived.Below
namespace Go.Proofs.Ytaoglljkghkbpaa
open Go.RowKit

theorem ret_int {k : IntKind} {a b : Int} (h : a = b) : Ending.returned (.int k a) = .returned (.int k b) := by rw [h]

theorem ret_int2 {k : IntKind} {a b : Int} {v : Value} (h : a = b) : Ending.returned (.tuple #[.int k a, v]) = .returned (.tuple #[.int k b, v]) := by rw [h]

theorem and31 (i : Int) : bits .and .u64 (IntKind.u64.wrap i) 31 = ((i % 32).toNat : Int) := by
  have h1 := IntKind.wrap_u64 i
  obtain ⟨n, hn⟩ := Int.eq_ofNat_of_zero_le (a := IntKind.u64.wrap i) (by omega)
  have h2 : n < 18446744073709551616 := by omega
  have h3 : (n : Int) % 32 = i % 32 := by omega
  rw [hn]
  have := u64_and_nat n 31 h2 (by decide)
  rw [show ((31 : Nat) : Int) = (31 : Int) from rfl] at this
  show bits .and .u64 (n : Int) 31 = _
  rw [this, nat_mask5, ← h3]; omega

theorem turn_val (x s : Nat) (hx : x < 4294967296) :
    bits .or .u32 ((x : Int) * 2 ^ s % 4294967296) ((x : Int) / 2 ^ (32 - s)) = (turnN x s : Int) := by
  have e1 : ((x : Int) * 2 ^ s % 4294967296) = ((x * 2 ^ s % 2 ^ 32 : Nat) : Int) := by simp
  have e2 : ((x : Int) / 2 ^ (32 - s)) = ((x / 2 ^ (32 - s) : Nat) : Int) := by simp
  rw [e1, e2, u32_or_nat _ _ (Nat.mod_lt _ (by decide)) (Nat.lt_of_le_of_lt (Nat.div_le_self _ _) hx)]
  rfl

theorem rot_any (x : Nat) (i : Int) (hx : x < 4294967296) (w : World) :
    Calls Try.prog 62 #[.int .u32 x, .int .i64 i] w fun e w' => e = .returned (.int .u32 (turnN x (i % 32).toNat)) ∧ w' = w := by
  have h31 := and31 i
  generalize hs' : (i % 32).toNat = s at *
  have hs : s < 32 := by omega
  clear hs'
  go_enter Try.func62, Try.ntmps62
  go_wp2
  go_ret
  exact ⟨ret_int (turn_val x s hx), rfl⟩

theorem turn_any (x : Nat) (i : Int) (hx : x < 4294967296) (w : World) :
    Calls Try.prog 61 #[.int .u32 x, .int .i64 i] w fun e w' => e = .returned (.int .u32 (turnN x (i % 32).toNat)) ∧ w' = w := by
  go_enter Try.func61, Try.ntmps61
  go_wp2_with fail
  refine (rot_any x i hx _).mono ?_
  rintro e w' ⟨rfl, rfl⟩
  go_wp2
  go_ret
  exact ⟨rfl, rfl⟩

theorem turn_to (x y : Nat) (i : Int) (hx : x < 4294967296) (h : turnN x (i % 32).toNat = y) (w : World) :
    Calls Try.prog 61 #[.int .u32 x, .int .i64 i] w fun e w' => e = .returned (.int .u32 y) ∧ w' = w := by
  subst h; exact turn_any x i hx w

theorem top_yes (x s y : Nat) (hs : s < 32) (hx : x < 4294967296) (hy : turnN x s = y) (h : 2147483648 ≤ y) : (y : Int) * 2 % 4294967296 + 1 = (turnN x (s + 1) : Int) := by
  have e := turn_step x s hs hx
  have l := turnN_lt x s hx
  rw [hy] at e l
  rw [if_pos h] at e
  rw [e]; omega
theorem top_no (x s y : Nat) (hs : s < 32) (hx : x < 4294967296) (hy : turnN x s = y) (h : ¬ 2147483648 ≤ y) : (y : Int) * 2 = (turnN x (s + 1) : Int) := by
  have e := turn_step x s hs hx
  rw [hy] at e
  rw [if_neg h] at e
  rw [e]; omega

end Go.Proofs.Ytaoglljkghkbpaa
