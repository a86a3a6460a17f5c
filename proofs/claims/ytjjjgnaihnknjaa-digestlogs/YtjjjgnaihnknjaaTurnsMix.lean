/- Contracts of the words' turning, in the program and in the document's answer for layer 2: what each returns, and that the world stays. -/
import Derived.Test.YtjjjgnaihnknjaaRows
import Derived.Test.YtjjjgnaihnknjaaMathMix
import Derived.WalkKit
import Derived.ProofKit
import Derived.OpenShut
import Derived.WalkSpells
import Derived.Below
namespace Go.Proofs.Ytjjjgnaihnknjaa
open Go.RowKit

theorem ret_int {k : IntKind} {a b : Int} (h : a = b) : Ending.returned (.int k a) = .returned (.int k b) := by rw [h]

theorem ret_int2 {k : IntKind} {a b : Int} {v : Value} (h : a = b) : Ending.returned (.tuple #[.int k a, v]) = .returned (.tuple #[.int k b, v]) := by rw [h]

theorem and31 (i : Int) : bits .and .u64 (IntKind.u64.wrap i) 31 = ((i % 32).toNat : Int) := by
  have h1 := IntKind.wrap_u64 i
  obtain ⟨n, hn⟩ := Int.eq_ofNat_of_zero_le (a := IntKind.u64.wrap i) (by omega)
  have h2 : n < 18446744073709551616 := by omega
  have h3 : (n : Int) % 32 = i % 32 := by omega
  rw [hn]
  have := u64_and_nat n 31 h2 (by decide)
  rw [show ((31 : Nat) : Int) = (31 : Int) from rfl] at this
  show bits .and .u64 (n : Int) 31 = _
  rw [this, nat_mask5, ← h3]; omega

theorem turn_val (x s : Nat) (hx : x < 4294967296) :
    bits .or .u32 ((x : Int) * 2 ^ s % 4294967296) ((x : Int) / 2 ^ (32 - s)) = (turnN x s : Int) := by
  have e1 : ((x : Int) * 2 ^ s % 4294967296) = ((x * 2 ^ s % 2 ^ 32 : Nat) : Int) := by simp
  have e2 : ((x : Int) / 2 ^ (32 - s)) = ((x / 2 ^ (32 - s) : Nat) : Int) := by simp
  rw [e1, e2, u32_or_nat _ _ (Nat.mod_lt _ (by decide)) (Nat.lt_of_le_of_lt (Nat.div_le_self _ _) hx)]
  rfl

theorem rot_any (x : Nat) (i : Int) (hx : x < 4294967296) (w : World) :
    Calls Try.prog 70 #[.int .u32 x, .int .i64 i] w fun e w' => e = .returned (.int .u32 (turnN x (i % 32).toNat)) ∧ w' = w := by
  have h31 := and31 i
  generalize hs' : (i % 32).toNat = s at *
  have hs : s < 32 := by omega
  clear hs'
  go_enter Try.func70, Try.ntmps70
  go_wp2
  go_ret
  exact ⟨ret_int (turn_val x s hx), rfl⟩

theorem turn_any (x : Nat) (i : Int) (hx : x < 4294967296) (w : World) :
    Calls Try.prog 57 #[.int .u32 x, .int .i64 i] w fun e w' => e = .returned (.int .u32 (turnN x (i % 32).toNat)) ∧ w' = w := by
  go_enter Try.func57, Try.ntmps57
  go_wp2_with fail
  refine (rot_any x i hx _).mono ?_
  rintro e w' ⟨rfl, rfl⟩
  go_wp2
  go_ret
  exact ⟨rfl, rfl⟩

theorem turn_to (x y : Nat) (i : Int) (hx : x < 4294967296) (h : turnN x (i % 32).toNat = y) (w : World) :
    Calls Try.prog 57 #[.int .u32 x, .int .i64 i] w fun e w' => e = .returned (.int .u32 y) ∧ w' = w := by
  subst h; exact turn_any x i hx w

theorem top_yes (x s y : Nat) (hs : s < 32) (hx : x < 4294967296) (hy : turnN x s = y) (h : 2147483648 ≤ y) : (y : Int) * 2 % 4294967296 + 1 = (turnN x (s + 1) : Int) := by
  have e := turn_step x s hs hx
  have l := turnN_lt x s hx
  rw [hy] at e l
  rw [if_pos h] at e
  rw [e]; omega
theorem top_no (x s y : Nat) (hs : s < 32) (hx : x < 4294967296) (hy : turnN x s = y) (h : ¬ 2147483648 ≤ y) : (y : Int) * 2 = (turnN x (s + 1) : Int) := by
  have e := turn_step x s hs hx
  rw [hy] at e
  rw [if_neg h] at e
  rw [e]; omega

set_option maxHeartbeats 400000 in
theorem left_any (x n : Nat) (hx : x < 4294967296) (hn : n < 32) (w : World) :
    Calls Try.prog 71 #[.int .u32 x, .int .i64 n] w fun e w' => e = .returned (.int .u32 (turnN x n)) ∧ w' = w := by
  go_enter Try.func71, Try.ntmps71
  go_wp2
  go_loop [0, 5] (fun y i => ∃ k : Nat, k ≤ n ∧ i = .int .i64 k ∧ y = .int .u32 (turnN x k)) (fun _ i => n - (intOf i).toNat)
  case atStart => exact ⟨0, by omega, rfl, by rw [turnN_zero x hx]⟩
  case round =>
    obtain ⟨k, hk, rfl, rfl⟩ := hrel
    have hl := turnN_lt x k hx
    by_cases hlt : k < n
    · obtain ⟨y, hy⟩ : ∃ y : Int, y = (turnN x k : Int) := ⟨_, rfl⟩
      have h0 : 0 ≤ y := by omega
      rw [← hy]
      by_cases ht : 2147483648 ≤ y
      · have H : Hid (y * 2 % 4294967296 + 1 = (turnN x (k + 1) : Int)) := by rw [hy]; exact top_yes x k _ (by omega) hx rfl (by omega)
        clear hy hl
        go_wp2
        go_round
        case rel => exact ⟨k + 1, by omega, by go_num, congrArg _ H.out⟩
        case measure => simp [intOf]; omega
      · have H : Hid (y * 2 = (turnN x (k + 1) : Int)) := by rw [hy]; exact top_no x k _ (by omega) hx rfl (by omega)
        have ht2 : y < 2147483648 := by omega
        clear hy hl ht
        go_wp2
        go_round
        case rel => exact ⟨k + 1, by omega, by go_num, congrArg _ H.out⟩
        case measure => simp [intOf]; omega
    · have : k = n := by omega
      subst this
      go_wp2
      go_ret
      exact ⟨rfl, rfl⟩
theorem left_to (x n y : Nat) (hx : x < 4294967296) (hn : n < 32) (h : turnN x n = y) (w : World) :
    Calls Try.prog 71 #[.int .u32 x, .int .i64 n] w fun e w' => e = .returned (.int .u32 y) ∧ w' = w := by
  subst h; exact left_any x n hx hn w

end Go.Proofs.Ytjjjgnaihnknjaa
