/- Contracts of the functions that convert with and without signs, in the program and in the document's answer: what each returns, and that the world stays. -/
import Derived.Test.YtijacihmdfhjcaaShifts
namespace Go.Proofs.Ytijacihmdfhjcaa
open Go.RowKit

set_option maxHeartbeats 400000 in
theorem ext_ok (x b : Nat) (h1 : 1 ≤ b) (h2 : b ≤ 64) (w : World) :
    Calls Try.prog 27 #[.int .u64 x, .int .i64 b] w fun e w' => e = .returned (.tuple #[.int .i64 (extZ x b), .int .i64 0]) ∧ w' = w := by
  have H : Hid (wrap64 (IntKind.u64.wrap ((x : Int) * 2 ^ (64 - b))) / 2 ^ (64 - b) = extZ x b) := by
    show wrap64 (IntKind.u64.wrap ((x : Int) * 2 ^ (64 - b))) / 2 ^ (64 - b) = extZ x b
    rw [w64]; exact ext_val x b h1 h2
  go_enter Try.func27, Try.ntmps27
  go_wp2
  go_ret2
  exact ⟨ret_int2 H.out, rfl⟩

set_option maxHeartbeats 400000 in
theorem ext_bad (x i : Int) (h : i < 1 ∨ 64 < i) (w : World) :
    Calls Try.prog 27 #[.int .u64 x, .int .i64 i] w fun e w' => e = .returned (.tuple #[.int .i64 0, .int .i64 11]) ∧ w' = w := by
  rcases h with h | h
  · go_enter Try.func27, Try.ntmps27
    go_wp2
    go_ret2
    exact ⟨rfl, rfl⟩
  · go_enter Try.func27, Try.ntmps27
    go_wp2
    go_ret2
    exact ⟨rfl, rfl⟩

set_option maxHeartbeats 400000 in
theorem refExt_bad (x i : Int) (h : i < 1 ∨ 64 < i) (w : World) :
    Calls Try.prog 28 #[.int .u64 x, .int .i64 i] w fun e w' => e = .returned (.tuple #[.int .i64 0, .int .i64 11]) ∧ w' = w := by
  rcases h with h | h
  · go_enter Try.func28, Try.ntmps28
    go_wp2
    go_ret2
    exact ⟨rfl, rfl⟩
  · go_enter Try.func28, Try.ntmps28
    go_wp2
    go_ret2
    exact ⟨rfl, rfl⟩

theorem extN_bit_hi (x b k : Nat) (h1 : 1 ≤ b) (h2 : b ≤ 64) (hk : k < 64) (h : b ≤ k) : (extN x b).testBit k = tb x ((b : Int) - 1) := by
  rw [extN_bit x b k h1 h2 hk, if_pos h]
  have : (b : Int) - 1 = ((b - 1 : Nat) : Int) := by omega
  rw [this, tb_nat]
theorem extN_bit_lo (x b k : Nat) (h1 : 1 ≤ b) (h2 : b ≤ 64) (hk : k < 64) (h : k < b) : (extN x b).testBit k = tb x (k : Int) := by
  rw [extN_bit x b k h1 h2 hk, if_neg (by omega), tb_nat]

set_option maxHeartbeats 400000 in
theorem refExt_ok (x b : Nat) (hx : x < 18446744073709551616) (h1 : 1 ≤ b) (h2 : b ≤ 64) (w : World) :
    Calls Try.prog 28 #[.int .u64 x, .int .i64 b] w fun e w' => e = .returned (.tuple #[.int .i64 (extZ x b), .int .i64 0]) ∧ w' = w := by
  have H : Hid (wrap64 (extN x b : Int) = extZ x b) := (w64 _).trans (extN_wrap x b h1 h2)
  go_enter Try.func28, Try.ntmps28
  go_wp2
  go_loop [6, 7, 8] (fun out i _ => ∃ k : Nat, k ≤ 64 ∧ i = .int .i64 k ∧ out = .int .u64 (lowN (extN x b) k)) (fun _ i _ => 64 - (intOf i).toNat)
  case atStart => exact ⟨0, by omega, rfl, by rw [lowN_zero]; rfl⟩
  case round =>
    obtain ⟨k, hk, rfl, rfl⟩ := hrel
    by_cases hlt : k < 64
    · by_cases hb : (b : Int) - 1 < k
      · by_cases ht : tb x ((b : Int) - 1) = true
        · go_wp2_with fail
          refine (bit_yes x _ hx ht _).mono ?_
          rintro e w' ⟨rfl, rfl⟩
          go_wp2
          go_round
          case rel => exact ⟨k + 1, by omega, by go_num, congrArg _ (or_step (extN x b) k (by rw [extN_bit_hi x b k h1 h2 hlt (by omega), ht]) hlt)⟩
          case measure => simp [intOf]; omega
        · rw [Bool.not_eq_true] at ht
          go_wp2_with fail
          refine (bit_no x _ hx ht _).mono ?_
          rintro e w' ⟨rfl, rfl⟩
          go_wp2
          go_round
          case rel => exact ⟨k + 1, by omega, by go_num, by rw [lowN_no _ k (by rw [extN_bit_hi x b k h1 h2 hlt (by omega), ht])]⟩
          case measure => simp [intOf]; omega
      · by_cases ht : tb x (k : Int) = true
        · go_wp2_with fail
          refine (bit_yes x _ hx ht _).mono ?_
          rintro e w' ⟨rfl, rfl⟩
          go_wp2
          go_round
          case rel => exact ⟨k + 1, by omega, by go_num, congrArg _ (or_step (extN x b) k (by rw [extN_bit_lo x b k h1 h2 hlt (by omega), ht]) hlt)⟩
          case measure => simp [intOf]; omega
        · rw [Bool.not_eq_true] at ht
          go_wp2_with fail
          refine (bit_no x _ hx ht _).mono ?_
          rintro e w' ⟨rfl, rfl⟩
          go_wp2
          go_round
          case rel => exact ⟨k + 1, by omega, by go_num, by rw [lowN_no _ k (by rw [extN_bit_lo x b k h1 h2 hlt (by omega), ht])]⟩
          case measure => simp [intOf]; omega
    · have : k = 64 := by omega
      subst this
      have hl := lowN_full (extN x b) (extN_lt x b h2)
      rw [hl]
      clear hl
      go_wp2
      go_ret2
      exact ⟨ret_int2 H.out, rfl⟩

set_option maxHeartbeats 400000 in
theorem lowest_any (b : Nat) (h1 : 1 ≤ b) (h2 : b ≤ 64) (w : World) :
    Calls Try.prog 44 #[.int .i64 b] w fun e w' => e = .returned (.int .u64 (onesN b)) ∧ w' = w := by
  have H : Hid ((18446744073709551615 : Int) / 2 ^ (64 - b) = (onesN b : Int)) := ones_val b h2
  go_enter Try.func44, Try.ntmps44
  go_wp2
  go_ret
  exact ⟨ret_int H.out, rfl⟩

set_option maxHeartbeats 400000 in
theorem refLowest_any (x b : Nat) (hx : x < 18446744073709551616) (h2 : b ≤ 64) (w : World) :
    Calls Try.prog 45 #[.int .u64 x, .int .i64 b] w fun e w' => e = .returned (.int .u64 (lowN x b)) ∧ w' = w := by
  go_enter Try.func45, Try.ntmps45
  go_wp2
  go_loop [5, 6] (fun out i => ∃ k : Nat, k ≤ b ∧ i = .int .i64 k ∧ out = .int .u64 (lowN x k)) (fun _ i => b - (intOf i).toNat)
  case atStart => exact ⟨0, by omega, rfl, by rw [lowN_zero]; rfl⟩
  case round =>
    obtain ⟨k, hk, rfl, rfl⟩ := hrel
    by_cases hlt : k < b
    · by_cases ht : tb x (k : Int) = true
      · go_wp2_with fail
        refine (bit_yes x _ hx ht _).mono ?_
        rintro e w' ⟨rfl, rfl⟩
        go_wp2
        go_round
        case rel => exact ⟨k + 1, by omega, by go_num, congrArg _ (or_step x k (by rw [tb_nat] at ht; exact ht) (by omega))⟩
        case measure => simp [intOf]; omega
      · rw [Bool.not_eq_true] at ht
        go_wp2_with fail
        refine (bit_no x _ hx ht _).mono ?_
        rintro e w' ⟨rfl, rfl⟩
        go_wp2
        go_round
        case rel => exact ⟨k + 1, by omega, by go_num, by rw [lowN_no _ k (by rw [tb_nat] at ht; exact ht)]⟩
        case measure => simp [intOf]; omega
    · have : k = b := by omega
      subst this
      go_wp2
      go_ret
      exact ⟨rfl, rfl⟩

set_option maxHeartbeats 400000 in
theorem awake_any (w : World) :
    Calls Try.prog 11 #[] w fun e w' => e = .returned (.bool true) ∧ w' = w := by
  have e1 : extZ 255 8 = -1 := by decide
  have e2 : turnN 1 31 = 2147483648 := by decide
  go_enter Try.func11, Try.ntmps11
  go_wp2_with fail
  refine (ext_ok 255 8 (by decide) (by decide) _).mono ?_
  rintro e w' ⟨rfl, rfl⟩
  go_wp2_with fail
  refine (turn_any 1 31 (by decide) _).mono ?_
  rintro e w' ⟨rfl, rfl⟩
  go_wp2
  go_ret
  exact ⟨rfl, rfl⟩

set_option maxHeartbeats 400000 in
theorem nar_bad (n i : Int) (u : Nat) (hu : IntKind.u64.wrap n = u) (h : i < 1 ∨ 64 < i) (w : World) :
    Calls Try.prog 29 #[.int .i64 n, .int .i64 i] w fun e w' => e = .returned (.tuple #[.int .u64 0, .int .i64 11]) ∧ w' = w := by
  go_enter Try.func29, Try.ntmps29
  go_wp2_with fail
  refine (ext_bad _ _ h _).mono ?_
  rintro e w' ⟨rfl, rfl⟩
  go_wp2
  go_ret2
  exact ⟨rfl, rfl⟩
set_option maxHeartbeats 400000 in
theorem nar_wide (n : Int) (u b : Nat) (hu : IntKind.u64.wrap n = u) (h1 : 1 ≤ b) (h2 : b ≤ 64) (h : extZ u b ≠ n) (w : World) :
    Calls Try.prog 29 #[.int .i64 n, .int .i64 b] w fun e w' => e = .returned (.tuple #[.int .u64 0, .int .i64 10]) ∧ w' = w := by
  have hb : (extZ u b != n) = true := by rw [bne_iff_ne]; exact h
  clear h
  generalize hz : extZ u b = z at *
  go_enter Try.func29, Try.ntmps29
  go_wp2_with fail
  refine (ext_ok u b h1 h2 _).mono ?_
  rintro e w' ⟨rfl, rfl⟩
  go_wp2
  go_ret2
  exact ⟨rfl, rfl⟩
set_option maxHeartbeats 400000 in
theorem nar_ok (n : Int) (u b : Nat) (hu : IntKind.u64.wrap n = u) (hlt : u < 18446744073709551616) (h1 : 1 ≤ b) (h2 : b ≤ 64) (h : extZ u b = n) (w : World) :
    Calls Try.prog 29 #[.int .i64 n, .int .i64 b] w fun e w' => e = .returned (.tuple #[.int .u64 (lowN u b), .int .i64 0]) ∧ w' = w := by
  have HA : Hid (bits .and .u64 (u : Int) (onesN b : Int) = (lowN u b : Int)) := and_ones u b hlt h2
  clear hlt
  go_enter Try.func29, Try.ntmps29
  go_wp2_with fail
  refine (ext_ok u b h1 h2 _).mono ?_
  rintro e w' ⟨rfl, rfl⟩
  go_wp2_with fail
  refine (lowest_any b h1 h2 _).mono ?_
  rintro e w' ⟨rfl, rfl⟩
  go_wp2
  go_ret2
  exact ⟨ret_int2 HA.out, rfl⟩

set_option maxHeartbeats 400000 in
theorem refNar_bad (n i : Int) (h : i < 1 ∨ 64 < i) (w : World) :
    Calls Try.prog 30 #[.int .i64 n, .int .i64 i] w fun e w' => e = .returned (.tuple #[.int .u64 0, .int .i64 11]) ∧ w' = w := by
  rcases h with h | h
  · go_enter Try.func30, Try.ntmps30
    go_wp2
    go_ret2
    exact ⟨rfl, rfl⟩
  · go_enter Try.func30, Try.ntmps30
    go_wp2
    go_ret2
    exact ⟨rfl, rfl⟩
set_option maxHeartbeats 400000 in
theorem refNar_wide (n : Int) (u b : Nat) (hu : IntKind.u64.wrap n = u) (hlt : u < 18446744073709551616) (h1 : 1 ≤ b) (h2 : b ≤ 64) (h : extZ u b ≠ n) (w : World) :
    Calls Try.prog 30 #[.int .i64 n, .int .i64 b] w fun e w' => e = .returned (.tuple #[.int .u64 0, .int .i64 10]) ∧ w' = w := by
  have hb : (extZ u b != n) = true := by rw [bne_iff_ne]; exact h
  clear h
  generalize hz : extZ u b = z at *
  go_enter Try.func30, Try.ntmps30
  go_wp2_with fail
  refine (refExt_ok u b hlt h1 h2 _).mono ?_
  rintro e w' ⟨rfl, rfl⟩
  go_wp2
  go_ret2
  exact ⟨rfl, rfl⟩
set_option maxHeartbeats 400000 in
theorem refNar_ok (n : Int) (u b : Nat) (hu : IntKind.u64.wrap n = u) (hlt : u < 18446744073709551616) (h1 : 1 ≤ b) (h2 : b ≤ 64) (h : extZ u b = n) (w : World) :
    Calls Try.prog 30 #[.int .i64 n, .int .i64 b] w fun e w' => e = .returned (.tuple #[.int .u64 (lowN u b), .int .i64 0]) ∧ w' = w := by
  go_enter Try.func30, Try.ntmps30
  go_wp2_with fail
  refine (refExt_ok u b hlt h1 h2 _).mono ?_
  rintro e w' ⟨rfl, rfl⟩
  go_wp2_with fail
  refine (refLowest_any u b hlt h2 _).mono ?_
  rintro e w' ⟨rfl, rfl⟩
  go_wp2
  go_ret2
  exact ⟨rfl, rfl⟩

set_option maxHeartbeats 400000 in
theorem int_ok (x : Int) (h0 : 0 ≤ x) (h : x ≤ 9223372036854775807) (w : World) :
    Calls Try.prog 31 #[.int .u64 x] w fun e w' => e = .returned (.tuple #[.int .i64 x, .int .i64 0]) ∧ w' = w := by
  go_enter Try.func31, Try.ntmps31
  go_wp2
  go_ret2
  exact ⟨rfl, rfl⟩
set_option maxHeartbeats 400000 in
theorem int_wide (x : Int) (h : 9223372036854775807 < x) (w : World) :
    Calls Try.prog 31 #[.int .u64 x] w fun e w' => e = .returned (.tuple #[.int .i64 0, .int .i64 10]) ∧ w' = w := by
  go_enter Try.func31, Try.ntmps31
  go_wp2
  go_ret2
  exact ⟨rfl, rfl⟩
set_option maxHeartbeats 400000 in
theorem word_ok (x : Int) (h0 : 0 ≤ x) (h : x ≤ 4294967295) (w : World) :
    Calls Try.prog 32 #[.int .i64 x] w fun e w' => e = .returned (.tuple #[.int .u32 x, .int .i64 0]) ∧ w' = w := by
  go_enter Try.func32, Try.ntmps32
  go_wp2
  go_ret2
  exact ⟨rfl, rfl⟩
set_option maxHeartbeats 400000 in
theorem word_wide (x : Int) (h : x < 0 ∨ 4294967295 < x) (h2 : x ≤ 9223372036854775807) (w : World) :
    Calls Try.prog 32 #[.int .i64 x] w fun e w' => e = .returned (.tuple #[.int .u32 0, .int .i64 10]) ∧ w' = w := by
  rcases h with h | h
  · go_enter Try.func32, Try.ntmps32
    go_wp2
    go_ret2
    exact ⟨rfl, rfl⟩
  · go_enter Try.func32, Try.ntmps32
    go_wp2
    go_ret2
    exact ⟨rfl, rfl⟩

end Go.Proofs.Ytijacihmdfhjcaa
