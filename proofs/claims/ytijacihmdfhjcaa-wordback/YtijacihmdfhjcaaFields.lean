/- Contracts of the functions on fields of bits and on numbers over powers of two, in the program and in the document's answer: what each returns; the world stays, but for orders that were drawn. -/
import Derived.Test.YtijacihmdfhjcaaExtends
import Derived.Test.YtijacihmdfhjcaaMathField
import Derived.Deep.QuietTactic
import Derived.BigQuiet
namespace Go.Proofs.Ytijacihmdfhjcaa
open Go.RowKit

set_option maxHeartbeats 400000 in
theorem over_neg (n i : Int) (h : n < 0) (w : World) :
    Calls Try.prog 33 #[.int .i64 n, .int .i64 i] w fun e w' => e = .returned (.tuple #[.int .i64 0, .int .i64 1]) ∧ w' = w := by
  go_enter Try.func33, Try.ntmps33
  go_wp2
  go_ret2
  exact ⟨rfl, rfl⟩
set_option maxHeartbeats 400000 in
theorem refOver_neg (n i : Int) (h : n < 0) (w : World) :
    Calls Try.prog 34 #[.int .i64 n, .int .i64 i] w fun e w' => e = .returned (.tuple #[.int .i64 0, .int .i64 1]) ∧ w' = w := by
  go_enter Try.func34, Try.ntmps34
  go_wp2
  go_ret2
  exact ⟨rfl, rfl⟩
set_option maxHeartbeats 400000 in
theorem over_bad (n i : Int) (h : 0 ≤ n) (hi : i < 0 ∨ 62 < i) (w : World) :
    Calls Try.prog 33 #[.int .i64 n, .int .i64 i] w fun e w' => e = .returned (.tuple #[.int .i64 0, .int .i64 11]) ∧ w' = w := by
  rcases hi with hi | hi
  · go_enter Try.func33, Try.ntmps33
    go_wp2
    go_ret2
    exact ⟨rfl, rfl⟩
  · go_enter Try.func33, Try.ntmps33
    go_wp2
    go_ret2
    exact ⟨rfl, rfl⟩
set_option maxHeartbeats 400000 in
theorem refOver_bad (n i : Int) (h : 0 ≤ n) (hi : i < 0 ∨ 62 < i) (w : World) :
    Calls Try.prog 34 #[.int .i64 n, .int .i64 i] w fun e w' => e = .returned (.tuple #[.int .i64 0, .int .i64 11]) ∧ w' = w := by
  rcases hi with hi | hi
  · go_enter Try.func34, Try.ntmps34
    go_wp2
    go_ret2
    exact ⟨rfl, rfl⟩
  · go_enter Try.func34, Try.ntmps34
    go_wp2
    go_ret2
    exact ⟨rfl, rfl⟩

theorem wrapI64_nat (m : Nat) (h : m ≤ 9223372036854775807) : IntKind.i64.wrap (m : Int) = m := wrapI64_id _ (by omega) (by omega)
theorem wrapI64_nat1 (m : Nat) (h : m + 1 ≤ 9223372036854775807) : IntKind.i64.wrap ((m : Int) + 1) = ((m + 1 : Nat) : Int) := wrapI64_id _ (by omega) (by omega)
theorem div_pow_int (n s : Nat) : ((n : Int) / 2 ^ s) = ((n / 2 ^ s : Nat) : Int) := by simp

set_option maxHeartbeats 400000 in
theorem over_ok (n s : Nat) (hn : n ≤ 9223372036854775807) (hs : s ≤ 62) (w : World) :
    Calls Try.prog 33 #[.int .i64 n, .int .i64 s] w fun e w' => e = .returned (.tuple #[.int .i64 (overN n s), .int .i64 0]) ∧ w' = w := by
  by_cases h : n % 2 ^ s = 0
  · have ht : (wrap64 ((n : Int) / 2 ^ s * 2 ^ s) != (n : Int)) = false := by
      rw [w64, over_exact n s hn, (over_eq n s).2 h]; simp
    have H : Hid ((n : Int) / 2 ^ s = (overN n s : Int)) := by
      show (n : Int) / 2 ^ s = (overN n s : Int)
      unfold overN; rw [if_pos h, div_pow_int]
    clear h hn
    go_enter Try.func33, Try.ntmps33
    go_wp2
    go_ret2
    exact ⟨ret_int2 H.out, rfl⟩
  · have ht : (wrap64 ((n : Int) / 2 ^ s * 2 ^ s) != (n : Int)) = true := by
      rw [w64, over_exact n s hn, bne_iff_ne]
      intro e
      exact h ((over_eq n s).1 (by exact_mod_cast e))
    have H : Hid (wrap64 ((n : Int) / 2 ^ s + 1) = (overN n s : Int)) := by
      show wrap64 ((n : Int) / 2 ^ s + 1) = (overN n s : Int)
      have := over_bound n s hn h
      unfold overN; rw [if_neg h, div_pow_int, w64, wrapI64_nat1 _ this]
    clear h hn
    go_enter Try.func33, Try.ntmps33
    go_wp2
    go_ret2
    exact ⟨ret_int2 H.out, rfl⟩

theorem unit_val (s : Nat) (hs : s ≤ 62) : wrap64 ((2 : Int) ^ s) = ((2 ^ s : Nat) : Int) := by
  have e : ((2 ^ s : Nat) : Int) = (2 : Int) ^ s := by simp
  have : 2 ^ s ≤ 2 ^ 62 := Nat.pow_le_pow_right (by decide) hs
  have g : (2 : Nat) ^ 62 = 4611686018427387904 := by decide
  rw [← e, w64, wrapI64_nat _ (by omega)]

set_option maxHeartbeats 400000 in
theorem refOver_core0 (n s p : Nat) (hn : n ≤ 9223372036854775807) (hs : s ≤ 62) (hp : wrap64 ((2 : Int) ^ s) = (p : Int)) (p1 : 1 ≤ p) (p2 : p ≤ 9223372036854775807) (r : Nat)
    (H1 : Hid (wrap64 ((n : Int) / p) = r)) (ht : ¬ 0 < (n : Int) % p) (w : World) :
    Calls Try.prog 34 #[.int .i64 n, .int .i64 s] w fun e w' => e = .returned (.tuple #[.int .i64 r, .int .i64 0]) ∧ w' = w := by
  go_enter Try.func34, Try.ntmps34
  go_wp2
  go_ret2
  exact ⟨ret_int2 (by first | exact H1.out | (have := H1.out; simp_all)), rfl⟩
set_option maxHeartbeats 400000 in
theorem refOver_core1 (n s p : Nat) (hn : n ≤ 9223372036854775807) (hs : s ≤ 62) (hp : wrap64 ((2 : Int) ^ s) = (p : Int)) (p1 : 1 ≤ p) (p2 : p ≤ 9223372036854775807) (r : Nat)
    (H1 : Hid (wrap64 (wrap64 ((n : Int) / p) + 1) = r)) (ht : 0 < (n : Int) % p) (w : World) :
    Calls Try.prog 34 #[.int .i64 n, .int .i64 s] w fun e w' => e = .returned (.tuple #[.int .i64 r, .int .i64 0]) ∧ w' = w := by
  go_enter Try.func34, Try.ntmps34
  go_wp2
  go_ret2
  exact ⟨ret_int2 (by first | exact H1.out | (have := H1.out; simp_all)), rfl⟩

theorem refOver_ok (n s : Nat) (hn : n ≤ 9223372036854775807) (hs : s ≤ 62) (w : World) :
    Calls Try.prog 34 #[.int .i64 n, .int .i64 s] w fun e w' => e = .returned (.tuple #[.int .i64 (overN n s), .int .i64 0]) ∧ w' = w := by
  have g : (2 : Nat) ^ 62 = 4611686018427387904 := by decide
  have q : 2 ^ s ≤ 2 ^ 62 := Nat.pow_le_pow_right (by decide) hs
  have q0 := Nat.two_pow_pos s
  have q3 : n / 2 ^ s ≤ n := Nat.div_le_self _ _
  by_cases h : n % 2 ^ s = 0
  · refine refOver_core0 n s (2 ^ s) hn hs (unit_val s hs) (by omega) (by omega) (overN n s) ?_ (by omega) w
    show wrap64 ((n : Int) / ((2 ^ s : Nat) : Int)) = (overN n s : Int)
    unfold overN
    rw [if_pos h, ← Int.natCast_ediv, w64, wrapI64_nat _ (by omega)]
  · have b := over_bound n s hn h
    refine refOver_core1 n s (2 ^ s) hn hs (unit_val s hs) (by omega) (by omega) (overN n s) ?_ (by omega) w
    show wrap64 (wrap64 ((n : Int) / ((2 ^ s : Nat) : Int)) + 1) = (overN n s : Int)
    unfold overN
    rw [if_neg h, ← Int.natCast_ediv, w64, w64, wrapI64_nat _ (by omega), wrapI64_nat1 _ b]

set_option maxHeartbeats 400000 in
theorem inside_yes (a b : Nat) (h1 : 1 ≤ b) (h2 : a + b ≤ 64) (w : World) :
    Calls Try.prog 46 #[.int .i64 a, .int .i64 b] w fun e w' => e = .returned (.bool true) ∧ w' = w := by
  have e1 : decide ((a : Int) ≤ 64 - (b : Int)) = true := by simp; omega
  go_enter Try.func46, Try.ntmps46
  go_wp2
  go_ret
  exact ⟨by simp, rfl⟩
set_option maxHeartbeats 400000 in
theorem inside_no (a b : Int) (h : b < 1 ∨ (1 ≤ b ∧ 64 < b) ∨ (1 ≤ b ∧ b ≤ 64 ∧ a < 0) ∨ (1 ≤ b ∧ b ≤ 64 ∧ 0 ≤ a ∧ 64 - b < a)) (w : World) :
    Calls Try.prog 46 #[.int .i64 a, .int .i64 b] w fun e w' => e = .returned (.bool false) ∧ w' = w := by
  rcases h with h | h | h | h
  · go_enter Try.func46, Try.ntmps46
    go_wp2
    go_ret
    exact ⟨rfl, rfl⟩
  · obtain ⟨h1, h2⟩ := h
    go_enter Try.func46, Try.ntmps46
    go_wp2
    go_ret
    exact ⟨rfl, rfl⟩
  · obtain ⟨h1, h2, h3⟩ := h
    go_enter Try.func46, Try.ntmps46
    go_wp2
    go_ret
    exact ⟨rfl, rfl⟩
  · obtain ⟨h1, h2, h3, h4⟩ := h
    have e1 : decide (a ≤ 64 - b) = false := by simp; omega
    go_enter Try.func46, Try.ntmps46
    go_wp2
    go_ret
    exact ⟨by simp, rfl⟩

/-- the ways in which there is no field: the tests in the program's order -/
def Out (a b : Int) : Prop := b < 1 ∨ (1 ≤ b ∧ 64 < b) ∨ (1 ≤ b ∧ b ≤ 64 ∧ a < 0) ∨ (1 ≤ b ∧ b ≤ 64 ∧ 0 ≤ a ∧ 64 - b < a)
theorem out_or (a b : Int) : Out a b ∨ ∃ n m : Nat, a = n ∧ b = m ∧ 1 ≤ m ∧ n + m ≤ 64 := by
  by_cases h : Out a b
  · exact .inl h
  · unfold Out at h
    exact .inr ⟨a.toNat, b.toNat, by omega, by omega, by omega, by omega⟩

set_option maxHeartbeats 400000 in
theorem field_bad (x a b : Int) (h : Out a b) (w : World) :
    Calls Try.prog 35 #[.int .u64 x, .int .i64 a, .int .i64 b] w fun e w' => e = .returned (.tuple #[.int .u64 0, .int .i64 11]) ∧ w' = w := by
  go_enter Try.func35, Try.ntmps35
  go_wp2_with fail
  refine (inside_no a b h _).mono ?_
  rintro e w' ⟨rfl, rfl⟩
  go_wp2
  go_ret2
  exact ⟨rfl, rfl⟩
set_option maxHeartbeats 400000 in
theorem field_ok (x a b : Nat) (hx : x < 18446744073709551616) (h1 : 1 ≤ b) (h2 : a + b ≤ 64) (w : World) :
    Calls Try.prog 35 #[.int .u64 x, .int .i64 a, .int .i64 b] w fun e w' => e = .returned (.tuple #[.int .u64 (fieldN x a b), .int .i64 0]) ∧ ∃ q, w' = w.drewN q := by
  have HA : Hid (bits .and .u64 ((x : Int) / 2 ^ a) (onesN b : Int) = (fieldN x a b : Int)) := by
    show bits .and .u64 ((x : Int) / 2 ^ a) (onesN b : Int) = (fieldN x a b : Int)
    rw [div_pow_int, and_ones _ b (Nat.lt_of_le_of_lt (Nat.div_le_self _ _) hx) (by omega)]; rfl
  clear hx
  go_enter Try.func35, Try.ntmps35
  go_wp2_with fail
  refine (inside_yes a b h1 h2 _).mono ?_
  rintro e w' ⟨rfl, rfl⟩
  go_wp2_with fail
  go_quiet ((go_at_call 44; exact Calls.quiet_of_same (lowest_any b h1 (by omega) _)))
  go_wp2
  go_ret2
  exact ⟨ret_int2 HA.out, _, rfl⟩

theorem out_ref (a b : Int) (h : Out a b) : a < 0 ∨ (0 ≤ a ∧ b < 1) ∨ (0 ≤ a ∧ 1 ≤ b ∧ 64 < b) ∨ (0 ≤ a ∧ 1 ≤ b ∧ b ≤ 64 ∧ 64 - b < a) := by
  unfold Out at h; omega

set_option maxHeartbeats 400000 in
theorem refField_bad (x a b : Int) (h : Out a b) (w : World) :
    Calls Try.prog 36 #[.int .u64 x, .int .i64 a, .int .i64 b] w fun e w' => e = .returned (.tuple #[.int .u64 0, .int .i64 11]) ∧ w' = w := by
  rcases out_ref a b h with h | h | h | h
  · go_enter Try.func36, Try.ntmps36
    go_wp2
    go_ret2
    exact ⟨rfl, rfl⟩
  · obtain ⟨h1, h2⟩ := h
    go_enter Try.func36, Try.ntmps36
    go_wp2
    go_ret2
    exact ⟨rfl, rfl⟩
  · obtain ⟨h1, h2, h3⟩ := h
    go_enter Try.func36, Try.ntmps36
    go_wp2
    go_ret2
    exact ⟨rfl, rfl⟩
  · obtain ⟨h1, h2, h3, h4⟩ := h
    go_enter Try.func36, Try.ntmps36
    go_wp2
    go_ret2
    exact ⟨rfl, rfl⟩
set_option maxHeartbeats 400000 in
theorem refField_ok (x a b : Nat) (hx : x < 18446744073709551616) (h1 : 1 ≤ b) (h2 : a + b ≤ 64) (w : World) :
    Calls Try.prog 36 #[.int .u64 x, .int .i64 a, .int .i64 b] w fun e w' => e = .returned (.tuple #[.int .u64 (fieldN x a b), .int .i64 0]) ∧ w' = w := by
  have HF : Hid (lowN (shiftN x (-(a : Int))) b = fieldN x a b) := by
    show lowN (shiftN x (-(a : Int))) b = fieldN x a b
    rw [field_shift x a hx]; rfl
  go_enter Try.func36, Try.ntmps36
  go_wp2_with fail
  refine (refShift_any x (-(a : Int)) hx _).mono ?_
  rintro e w' ⟨rfl, rfl⟩
  go_wp2_with fail
  refine (refLowest_any _ b (shiftN_lt x _ hx) (by omega) _).mono ?_
  rintro e w' ⟨rfl, rfl⟩
  go_wp2
  go_ret2
  exact ⟨ret_int2 (by rw [HF.out]), rfl⟩

set_option maxHeartbeats 400000 in
theorem lay_bad (x a b n : Int) (h : Out a b) (w : World) :
    Calls Try.prog 37 #[.int .u64 x, .int .i64 a, .int .i64 b, .int .u64 n] w fun e w' => e = .returned (.tuple #[.int .u64 0, .int .i64 11]) ∧ w' = w := by
  go_enter Try.func37, Try.ntmps37
  go_wp2_with fail
  refine (inside_no a b h _).mono ?_
  rintro e w' ⟨rfl, rfl⟩
  go_wp2
  go_ret2
  exact ⟨rfl, rfl⟩
set_option maxHeartbeats 400000 in
theorem lay_wide (x a b n : Nat) (h1 : 1 ≤ b) (h2 : a + b ≤ 64) (hn : onesN b < n) (w : World) :
    Calls Try.prog 37 #[.int .u64 x, .int .i64 a, .int .i64 b, .int .u64 n] w fun e w' => e = .returned (.tuple #[.int .u64 0, .int .i64 10]) ∧ w' = w := by
  go_enter Try.func37, Try.ntmps37
  go_wp2_with fail
  refine (inside_yes a b h1 h2 _).mono ?_
  rintro e w' ⟨rfl, rfl⟩
  go_wp2_with fail
  refine (lowest_any b h1 (by omega) _).mono ?_
  rintro e w' ⟨rfl, rfl⟩
  go_wp2
  go_ret2
  exact ⟨rfl, rfl⟩
set_option maxHeartbeats 400000 in
theorem lay_ok (x a b n : Nat) (hx : x < 18446744073709551616) (h1 : 1 ≤ b) (h2 : a + b ≤ 64) (hn : n ≤ onesN b) (w : World) :
    Calls Try.prog 37 #[.int .u64 x, .int .i64 a, .int .i64 b, .int .u64 n] w fun e w' => e = .returned (.tuple #[.int .u64 (layN x a b n), .int .i64 0]) ∧ ∃ q, w' = w.drewN q := by
  have HA := lay_val x a b n hx h2 hn
  have HB : Hid (bits .or .u64 (bits .andNot .u64 (x : Int) (IntKind.u64.wrap ((onesN b : Int) * 2 ^ a))) (IntKind.u64.wrap ((n : Int) * 2 ^ a)) = (layN x a b n : Int)) := by
    show bits .or .u64 (bits .andNot .u64 (x : Int) (IntKind.u64.wrap ((onesN b : Int) * 2 ^ a))) (IntKind.u64.wrap ((n : Int) * 2 ^ a)) = (layN x a b n : Int)
    rw [IntKind.wrap_u64, IntKind.wrap_u64]; exact HA
  clear hx HA
  go_enter Try.func37, Try.ntmps37
  go_wp2_with fail
  refine (inside_yes a b h1 h2 _).mono ?_
  rintro e w' ⟨rfl, rfl⟩
  go_wp2_with fail
  refine (lowest_any b h1 (by omega) _).mono ?_
  rintro e w' ⟨rfl, rfl⟩
  go_wp2_with fail
  go_quiet ((go_at_call 44; exact Calls.quiet_of_same (lowest_any b h1 (by omega) _)))
  go_wp2
  go_ret2
  exact ⟨ret_int2 HB.out, _, rfl⟩

set_option maxHeartbeats 400000 in
theorem refLay_bad (x a b n : Int) (h : Out a b) (w : World) :
    Calls Try.prog 38 #[.int .u64 x, .int .i64 a, .int .i64 b, .int .u64 n] w fun e w' => e = .returned (.tuple #[.int .u64 0, .int .i64 11]) ∧ w' = w := by
  go_enter Try.func38, Try.ntmps38
  go_wp2_with fail
  refine (refField_bad x a b h _).mono ?_
  rintro e w' ⟨rfl, rfl⟩
  go_wp2
  go_ret2
  exact ⟨rfl, rfl⟩
set_option maxHeartbeats 400000 in
theorem refLay_wide (x a b n : Nat) (hx : x < 18446744073709551616) (hn64 : n < 18446744073709551616) (h1 : 1 ≤ b) (h2 : a + b ≤ 64) (hn : onesN b < n) (w : World) :
    Calls Try.prog 38 #[.int .u64 x, .int .i64 a, .int .i64 b, .int .u64 n] w fun e w' => e = .returned (.tuple #[.int .u64 0, .int .i64 10]) ∧ w' = w := by
  have ht : ((lowN n b : Int) != (n : Int)) = true := by
    rw [bne_iff_ne]; intro e
    have := (lowN_eq_iff n b).1 (by exact_mod_cast e)
    omega
  clear hn
  generalize hl : lowN n b = l at *
  go_enter Try.func38, Try.ntmps38
  go_wp2_with fail
  refine (refField_ok x a b hx h1 h2 _).mono ?_
  rintro e w' ⟨rfl, rfl⟩
  go_wp2_with fail
  refine (refLowest_any n b hn64 (by omega) _).mono ?_
  rintro e w' ⟨rfl, rfl⟩
  go_wp2
  go_ret2
  exact ⟨rfl, rfl⟩

def bitV (x : Nat) (i : Int) : Int := if tb x i then 1 else 0
theorem bit_any (x : Nat) (i : Int) (hx : x < 18446744073709551616) (w : World) :
    Calls Try.prog 42 #[.int .u64 x, .int .i64 i] w fun e w' => e = .returned (.int .u64 (bitV x i)) ∧ w' = w := by
  by_cases h : tb x i = true
  · have : bitV x i = 1 := by simp [bitV, h]
    rw [this]; exact bit_yes x i hx h w
  · rw [Bool.not_eq_true] at h
    have : bitV x i = 0 := by simp [bitV, h]
    rw [this]; exact bit_no x i hx h w

theorem lay_bit_in (x a b n k : Nat) (h2 : a + b ≤ 64) (hn : n ≤ onesN b) (hk : k < 64) (h3 : a ≤ k) (h4 : k < a + b) : (layN x a b n).testBit k = tb n ((k : Int) - (a : Int)) := by
  rw [layN_bit x a b n k h2 hn hk, if_pos ⟨h3, h4⟩]
  have : (k : Int) - (a : Int) = ((k - a : Nat) : Int) := by omega
  rw [this, tb_nat]
theorem lay_bit_out (x a b n k : Nat) (h2 : a + b ≤ 64) (hn : n ≤ onesN b) (hk : k < 64) (h3 : k < a ∨ a + b ≤ k) : (layN x a b n).testBit k = tb x (k : Int) := by
  rw [layN_bit x a b n k h2 hn hk, if_neg (by omega), tb_nat]

set_option maxHeartbeats 1000000 in
theorem refLay_ok (x a b n : Nat) (hx : x < 18446744073709551616) (hn64 : n < 18446744073709551616) (h1 : 1 ≤ b) (h2 : a + b ≤ 64) (hn : n ≤ onesN b) (w : World) :
    Calls Try.prog 38 #[.int .u64 x, .int .i64 a, .int .i64 b, .int .u64 n] w fun e w' => e = .returned (.tuple #[.int .u64 (layN x a b n), .int .i64 0]) ∧ w' = w := by
  have hl : lowN n b = n := (lowN_eq_iff n b).2 hn
  have HL : Hid (lowN (layN x a b n) 64 = layN x a b n) := lowN_full _ (layN_lt x a b n hx h2 hn)
  go_enter Try.func38, Try.ntmps38
  go_wp2_with fail
  refine (refField_ok x a b hx h1 h2 _).mono ?_
  rintro e w' ⟨rfl, rfl⟩
  go_wp2_with fail
  refine (refLowest_any n b hn64 (by omega) _).mono ?_
  rintro e w' ⟨rfl, rfl⟩
  go_wp2
  go_loop [12, 13, 14] (fun out i _ => ∃ k : Nat, k ≤ 64 ∧ i = .int .i64 k ∧ out = .int .u64 (lowN (layN x a b n) k)) (fun _ i _ => 64 - (intOf i).toNat)
  case atStart => exact ⟨0, by omega, rfl, by rw [lowN_zero]; rfl⟩
  case round =>
    obtain ⟨k, hk, rfl, rfl⟩ := hrel
    by_cases hlt : k < 64
    · by_cases h3 : a ≤ k
      · by_cases h4 : k < a + b
        · by_cases ht : tb n ((k : Int) - (a : Int)) = true
          · skip
            go_wp2_with fail
            refine (bit_any x k hx _).mono ?_
            rintro e w' ⟨rfl, rfl⟩
            go_wp2_with fail
            refine (bit_yes n _ hn64 ht _).mono ?_
            rintro e w' ⟨rfl, rfl⟩
            go_wp2
            go_round
            case rel => exact ⟨k + 1, by omega, by go_num, congrArg _ (or_step (layN x a b n) k (by rw [lay_bit_in x a b n k h2 hn hlt h3 h4, ht]) hlt)⟩
            case measure => simp [intOf]; omega
          · rw [Bool.not_eq_true] at ht
            go_wp2_with fail
            refine (bit_any x k hx _).mono ?_
            rintro e w' ⟨rfl, rfl⟩
            go_wp2_with fail
            refine (bit_no n _ hn64 ht _).mono ?_
            rintro e w' ⟨rfl, rfl⟩
            go_wp2
            go_round
            case rel => exact ⟨k + 1, by omega, by go_num, by rw [lowN_no _ k (by rw [lay_bit_in x a b n k h2 hn hlt h3 h4, ht])]⟩
            case measure => simp [intOf]; omega
        · by_cases ht : tb x (k : Int) = true
          · skip
            go_wp2_with fail
            refine (bit_yes x k hx ht _).mono ?_
            rintro e w' ⟨rfl, rfl⟩
            go_wp2
            go_round
            case rel => exact ⟨k + 1, by omega, by go_num, congrArg _ (or_step (layN x a b n) k (by rw [lay_bit_out x a b n k h2 hn hlt (.inr (by omega)), ht]) hlt)⟩
            case measure => simp [intOf]; omega
          · rw [Bool.not_eq_true] at ht
            go_wp2_with fail
            refine (bit_no x k hx ht _).mono ?_
            rintro e w' ⟨rfl, rfl⟩
            go_wp2
            go_round
            case rel => exact ⟨k + 1, by omega, by go_num, by rw [lowN_no _ k (by rw [lay_bit_out x a b n k h2 hn hlt (.inr (by omega)), ht])]⟩
            case measure => simp [intOf]; omega
      · by_cases ht : tb x (k : Int) = true
        · skip
          go_wp2_with fail
          refine (bit_yes x k hx ht _).mono ?_
          rintro e w' ⟨rfl, rfl⟩
          go_wp2
          go_round
          case rel => exact ⟨k + 1, by omega, by go_num, congrArg _ (or_step (layN x a b n) k (by rw [lay_bit_out x a b n k h2 hn hlt (.inl (by omega)), ht]) hlt)⟩
          case measure => simp [intOf]; omega
        · rw [Bool.not_eq_true] at ht
          go_wp2_with fail
          refine (bit_no x k hx ht _).mono ?_
          rintro e w' ⟨rfl, rfl⟩
          go_wp2
          go_round
          case rel => exact ⟨k + 1, by omega, by go_num, by rw [lowN_no _ k (by rw [lay_bit_out x a b n k h2 hn hlt (.inl (by omega)), ht])]⟩
          case measure => simp [intOf]; omega
    · have : k = 64 := by omega
      subst this
      rw [HL.out]
      go_wp2
      go_ret2
      exact ⟨rfl, rfl⟩

end Go.Proofs.Ytijacihmdfhjcaa
