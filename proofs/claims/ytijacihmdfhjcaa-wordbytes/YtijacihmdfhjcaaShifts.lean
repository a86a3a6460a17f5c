/- Contracts of the functions that shift bits, in the program and in the document's answer: what each returns, and that the world stays; for every word and every number of 64 bits. -/
import Derived.Test.YtijacihmdfhjcaaTurns
import Derived.Test.YtijacihmdfhjcaaMathSign
namespace Go.Proofs.Ytijacihmdfhjcaa
open Go.RowKit

theorem w64 (a : Int) : wrap64 a = IntKind.i64.wrap a := (IntWalk.i64_left a).symm

set_option maxHeartbeats 400000 in
theorem shift_neg (x : Nat) (i : Int) (hx : x < 18446744073709551616) (h : i < 0) (h2 : -9223372036854775808 ≤ i) (w : World) :
    Calls Try.prog 23 #[.int .u64 x, .int .i64 i] w fun e w' => e = .returned (.int .u64 (shiftN x i)) ∧ w' = w := by
  have h3 : i ≤ 0 := by omega
  go_enter Try.func23, Try.ntmps23
  go_wp2_with fail
  refine (size_neg i h h2 _).mono ?_
  rintro e w' ⟨rfl, rfl⟩
  go_wp2
  go_ret
  exact ⟨ret_int (shr_val x i hx h), rfl⟩
set_option maxHeartbeats 400000 in
theorem shift_pos (x : Nat) (i : Int) (h : 0 ≤ i) (h2 : i ≤ 9223372036854775807) (w : World) :
    Calls Try.prog 23 #[.int .u64 x, .int .i64 i] w fun e w' => e = .returned (.int .u64 (shiftN x i)) ∧ w' = w := by
  go_enter Try.func23, Try.ntmps23
  go_wp2_with fail
  refine (size_pos i h h2 _).mono ?_
  rintro e w' ⟨rfl, rfl⟩
  go_wp2
  go_ret
  exact ⟨ret_int (shl_val x i h), rfl⟩
theorem shift_any (x : Nat) (i : Int) (hx : x < 18446744073709551616) (h1 : -9223372036854775808 ≤ i) (h2 : i ≤ 9223372036854775807) (w : World) :
    Calls Try.prog 23 #[.int .u64 x, .int .i64 i] w fun e w' => e = .returned (.int .u64 (shiftN x i)) ∧ w' = w := by
  by_cases h : i < 0
  · exact shift_neg x i hx h h1 w
  · exact shift_pos x i (by omega) h2 w

set_option maxHeartbeats 400000 in
theorem refShift_mid (x : Nat) (i : Int) (hx : x < 18446744073709551616) (h1 : -64 < i) (h2 : i < 64) (w : World) :
    Calls Try.prog 24 #[.int .u64 x, .int .i64 i] w fun e w' => e = .returned (.int .u64 (shiftN x i)) ∧ w' = w := by
  go_enter Try.func24, Try.ntmps24
  go_wp2
  go_loop [5, 6] (fun out j => ∃ k : Nat, k ≤ 64 ∧ j = .int .i64 k ∧ out = .int .u64 (lowN (shiftN x i) k)) (fun _ i => 64 - (intOf i).toNat)
  case atStart => exact ⟨0, by omega, rfl, by rw [lowN_zero]; rfl⟩
  case round =>
    obtain ⟨k, hk, rfl, rfl⟩ := hrel
    by_cases hlt : k < 64
    · by_cases ht : tb x (k - i) = true
      · go_wp2_with fail
        refine (bit_yes x (k - i) (by omega) ht _).mono ?_
        rintro e w' ⟨rfl, rfl⟩
        go_wp2
        go_round
        case rel => exact ⟨k + 1, by omega, by go_num, congrArg _ (or_step (shiftN x i) k (by rw [shiftN_bit _ _ _ hlt, ht]) hlt)⟩
        case measure => simp [intOf]; omega
      · rw [Bool.not_eq_true] at ht
        go_wp2_with fail
        refine (bit_no x (k - i) (by omega) ht _).mono ?_
        rintro e w' ⟨rfl, rfl⟩
        go_wp2
        go_round
        case rel => exact ⟨k + 1, by omega, by go_num, by rw [lowN_no _ k (by rw [shiftN_bit _ _ _ hlt, ht])]⟩
        case measure => simp [intOf]; omega
    · have : k = 64 := by omega
      subst this
      go_wp2
      go_ret
      exact ⟨ret_int (by rw [lowN_full _ (shiftN_lt x i hx)]), rfl⟩

set_option maxHeartbeats 400000 in
theorem refShift_any (x : Nat) (i : Int) (hx : x < 18446744073709551616) (w : World) :
    Calls Try.prog 24 #[.int .u64 x, .int .i64 i] w fun e w' => e = .returned (.int .u64 (shiftN x i)) ∧ w' = w := by
  by_cases h1 : -64 < i
  · by_cases h2 : i < 64
    · exact refShift_mid x i hx h1 h2 w
    · rw [shiftN_big x i hx (.inr (by omega))]
      go_enter Try.func24, Try.ntmps24
      go_wp2
      go_ret
      exact ⟨rfl, rfl⟩
  · rw [shiftN_big x i hx (.inl (by omega))]
    go_enter Try.func24, Try.ntmps24
    go_wp2
    go_ret
    exact ⟨rfl, rfl⟩

set_option maxHeartbeats 400000 in
theorem lean_any (x i : Int) (h1 : -9223372036854775808 ≤ i) (h2 : i ≤ 9223372036854775807) (w : World) :
    Calls Try.prog 25 #[.int .i64 x, .int .i64 i] w fun e w' => e = .returned (.int .i64 (leanZ x i)) ∧ w' = w := by
  by_cases h : i < 0
  · have h3 : i ≤ 0 := by omega
    go_enter Try.func25, Try.ntmps25
    go_wp2_with fail
    refine (size_neg i h h1 _).mono ?_
    rintro e w' ⟨rfl, rfl⟩
    go_wp2
    go_ret
    exact ⟨ret_int (by unfold leanZ; rw [if_pos h]), rfl⟩
  · have h3 : 0 ≤ i := by omega
    go_enter Try.func25, Try.ntmps25
    go_wp2_with fail
    refine (size_pos i h3 h2 _).mono ?_
    rintro e w' ⟨rfl, rfl⟩
    go_wp2
    go_ret
    exact ⟨ret_int (by unfold leanZ; rw [if_neg (by omega), w64]), rfl⟩

set_option maxHeartbeats 400000 in
theorem refLean_left (x i : Int) (u : Nat) (hu : IntKind.u64.wrap x = u) (hlt : u < 18446744073709551616) (h : 0 ≤ i) (h2 : i < 64) (w : World) :
    Calls Try.prog 26 #[.int .i64 x, .int .i64 i] w fun e w' => e = .returned (.int .i64 (leanZ x i)) ∧ w' = w := by
  have H : Hid (wrap64 (shiftN u i : Int) = leanZ x i) := (w64 _).trans (lean_left x i u hu h)
  go_enter Try.func26, Try.ntmps26
  go_wp2_with fail
  refine (refShift_any u i hlt _).mono ?_
  rintro e w' ⟨rfl, rfl⟩
  go_wp2
  go_ret
  exact ⟨ret_int H.out, rfl⟩

set_option maxHeartbeats 400000 in
theorem refLean_right (x i : Int) (u : Nat) (hu : IntKind.u64.wrap x = u) (hlt : u < 18446744073709551616) (h : i < 0) (h2 : -64 < i) (h0 : 0 ≤ x) (h1 : x < 9223372036854775808) (w : World) :
    Calls Try.prog 26 #[.int .i64 x, .int .i64 i] w fun e w' => e = .returned (.int .i64 (leanZ x i)) ∧ w' = w := by
  have H : Hid (wrap64 (shiftN u i : Int) = leanZ x i) := (w64 _).trans (lean_right x i u hu h0 h1 h)
  clear h1
  go_enter Try.func26, Try.ntmps26
  go_wp2_with fail
  refine (refShift_any u i hlt _).mono ?_
  rintro e w' ⟨rfl, rfl⟩
  go_wp2
  go_ret
  exact ⟨ret_int H.out, rfl⟩

set_option maxHeartbeats 400000 in
theorem refLean_far (x i : Int) (u : Nat) (hu : IntKind.u64.wrap x = u) (hlt : u < 18446744073709551616) (h2 : i ≤ -64) (h0 : 0 ≤ x) (h1 : x < 9223372036854775808) (w : World) :
    Calls Try.prog 26 #[.int .i64 x, .int .i64 i] w fun e w' => e = .returned (.int .i64 (leanZ x i)) ∧ w' = w := by
  have H : Hid (wrap64 (shiftN u (-63) : Int) = leanZ x i) := by
    show wrap64 (shiftN u (-63) : Int) = leanZ x i
    rw [lean_far x i (by omega) h1 h2]
    exact (w64 _).trans (lean_right x (-63) u hu h0 h1 (by decide))
  clear h1
  go_enter Try.func26, Try.ntmps26
  go_wp2_with fail
  refine (refShift_any u (-63) hlt _).mono ?_
  rintro e w' ⟨rfl, rfl⟩
  go_wp2
  go_ret
  exact ⟨ret_int H.out, rfl⟩

theorem shiftN_fill (u n : Nat) (hn : 1 ≤ n) : shiftN u (-(n : Int)) = fillN u n (64 - n) := by
  rw [fill_start]; unfold shiftN
  rw [if_pos (by omega)]
  have : (- -(n : Int)).toNat = n := by omega
  rw [this]

set_option maxHeartbeats 400000 in
theorem refLean_neg (x i : Int) (u n : Nat) (hu : IntKind.u64.wrap x = u) (hlt : u < 18446744073709551616) (hn : 1 ≤ n) (hn2 : n ≤ 63) (hi : i = -(n : Int)) (h0 : x < 0) (h1 : -9223372036854775808 ≤ x) (w : World) :
    Calls Try.prog 26 #[.int .i64 x, .int .i64 i] w fun e w' => e = .returned (.int .i64 (leanZ x (-(n : Int)))) ∧ w' = w := by
  have H : Hid (wrap64 (fillN u n 64 : Int) = leanZ x (-(n : Int))) := (w64 _).trans (fill_end x u n hu h0 h1 hn hn2)
  have HI : Hid (i = -(n : Int)) := hi
  have hi1 : i < 0 := by omega
  have hi2 : -64 < i := by omega
  clear h1 hi
  generalize leanZ x (-(n : Int)) = z at *
  go_enter Try.func26, Try.ntmps26
  go_wp2_with fail
  refine (refShift_any u i hlt _).mono ?_
  rintro e w' ⟨rfl, rfl⟩
  go_wp2
  go_loop [5, 6] (fun out j => ∃ k : Nat, 64 - n ≤ k ∧ k ≤ 64 ∧ j = .int .i64 k ∧ out = .int .u64 (fillN u n k)) (fun _ i => 64 - (intOf i).toNat)
  case atStart => exact ⟨64 - n, by omega, by omega, by have := HI.out; go_num, by rw [HI.out, shiftN_fill u n hn]⟩
  case round =>
    obtain ⟨k, hk0, hk, rfl, rfl⟩ := hrel
    by_cases hlt2 : k < 64
    · go_wp2
      go_round
      case rel => exact ⟨k + 1, by omega, by omega, by go_num, congrArg _ (fill_step u n k hlt (by omega) hk0 hlt2)⟩
      case measure => simp [intOf]; omega
    · have : k = 64 := by omega
      subst this
      go_wp2
      go_ret
      exact ⟨ret_int H.out, rfl⟩

set_option maxHeartbeats 400000 in
theorem refLean_negFar (x i : Int) (u : Nat) (hu : IntKind.u64.wrap x = u) (hlt : u < 18446744073709551616) (hi : i ≤ -64) (h0 : x < 0) (h1 : -9223372036854775808 ≤ x) (w : World) :
    Calls Try.prog 26 #[.int .i64 x, .int .i64 i] w fun e w' => e = .returned (.int .i64 (leanZ x i)) ∧ w' = w := by
  have H : Hid (wrap64 (fillN u 63 64 : Int) = leanZ x i) := by
    show wrap64 (fillN u 63 64 : Int) = leanZ x i
    rw [lean_far x i h1 (by omega) hi]
    exact (w64 _).trans (fill_end x u 63 hu h0 h1 (by decide) (by decide))
  clear h1
  go_enter Try.func26, Try.ntmps26
  go_wp2_with fail
  refine (refShift_any u (-63) hlt _).mono ?_
  rintro e w' ⟨rfl, rfl⟩
  go_wp2
  go_loop [5, 6] (fun out j => ∃ k : Nat, 1 ≤ k ∧ k ≤ 64 ∧ j = .int .i64 k ∧ out = .int .u64 (fillN u 63 k)) (fun _ i => 64 - (intOf i).toNat)
  case atStart => exact ⟨1, by omega, by omega, by go_num, by rw [show (-63 : Int) = -((63 : Nat) : Int) from rfl, shiftN_fill u 63 (by decide)]⟩
  case round =>
    obtain ⟨k, hk0, hk, rfl, rfl⟩ := hrel
    by_cases hlt2 : k < 64
    · go_wp2
      go_round
      case rel => exact ⟨k + 1, by omega, by omega, by go_num, congrArg _ (fill_step u 63 k hlt (by omega) (by omega) hlt2)⟩
      case measure => simp [intOf]; omega
    · have : k = 64 := by omega
      subst this
      go_wp2
      go_ret
      exact ⟨ret_int H.out, rfl⟩

set_option maxHeartbeats 400000 in
theorem refLean_big (x i : Int) (hi : 64 ≤ i) (w : World) :
    Calls Try.prog 26 #[.int .i64 x, .int .i64 i] w fun e w' => e = .returned (.int .i64 (leanZ x i)) ∧ w' = w := by
  rw [lean_big x i hi]
  go_enter Try.func26, Try.ntmps26
  go_wp2
  go_ret
  exact ⟨rfl, rfl⟩

theorem refLean_any (x i : Int) (h1 : -9223372036854775808 ≤ x) (h2 : x < 9223372036854775808) (w : World) :
    Calls Try.prog 26 #[.int .i64 x, .int .i64 i] w fun e w' => e = .returned (.int .i64 (leanZ x i)) ∧ w' = w := by
  have hw := IntKind.wrap_u64 x
  obtain ⟨u, hu⟩ := Int.eq_ofNat_of_zero_le (a := IntKind.u64.wrap x) (by omega)
  have hlt : u < 18446744073709551616 := by omega
  by_cases a : 64 ≤ i
  · exact refLean_big x i a w
  · by_cases b : 0 ≤ i
    · exact refLean_left x i u hu hlt b (by omega) w
    · by_cases c : -64 < i
      · by_cases d : 0 ≤ x
        · exact refLean_right x i u hu hlt (by omega) c d h2 w
        · obtain ⟨n, hn⟩ := Int.eq_ofNat_of_zero_le (a := -i) (by omega)
          have hi : i = -(n : Int) := by omega
          have := refLean_neg x i u n hu hlt (by omega) (by omega) hi (by omega) h1 w
          rw [← hi] at this
          exact this
      · by_cases d : 0 ≤ x
        · exact refLean_far x i u hu hlt (by omega) d h2 w
        · exact refLean_negFar x i u hu hlt (by omega) (by omega) h1 w

end Go.Proofs.Ytijacihmdfhjcaa
