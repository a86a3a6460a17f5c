/- Plain facts on fields of bits and on numbers over powers of two; no program in them. No conditions beyond those that each states. -/
import Derived.Test.YtijacihmdfhjcaaDoorMathSign
namespace Go.Proofs.YtijacihmdfhjcaaDoor

/-- a number over a power of two, rounded up -/
def overN (n s : Nat) : Nat := if n % 2 ^ s = 0 then n / 2 ^ s else n / 2 ^ s + 1

theorem over_exact (n s : Nat) (hn : n ≤ 9223372036854775807) : IntKind.i64.wrap ((n : Int) / 2 ^ s * 2 ^ s) = ((n / 2 ^ s * 2 ^ s : Nat) : Int) := by
  have e : ((n : Int) / 2 ^ s * 2 ^ s) = ((n / 2 ^ s * 2 ^ s : Nat) : Int) := by simp
  rw [e]
  have : n / 2 ^ s * 2 ^ s ≤ n := Nat.div_mul_le_self _ _
  exact wrapI64_id _ (by omega) (by omega)
theorem over_eq (n s : Nat) : n / 2 ^ s * 2 ^ s = n ↔ n % 2 ^ s = 0 := by
  have := Nat.div_add_mod n (2 ^ s)
  rw [Nat.mul_comm] at this; omega
theorem over_bound (n s : Nat) (hn : n ≤ 9223372036854775807) (h : n % 2 ^ s ≠ 0) : n / 2 ^ s + 1 ≤ 9223372036854775807 := by
  have : s ≠ 0 := by rintro rfl; simp [Nat.mod_one] at h
  have h2 : 2 ≤ 2 ^ s := by
    have := Nat.pow_le_pow_right (n := 2) (by decide) (show 1 ≤ s by omega)
    simpa using this
  have : n / 2 ^ s ≤ n / 2 := Nat.div_le_div_left h2 (by decide)
  omega

/-- n laid into b bits of x from the place a on -/
def layN (x a b n : Nat) : Nat := (x &&& (18446744073709551615 - onesN b * 2 ^ a)) ||| n * 2 ^ a

theorem ones_shift_lt (a b : Nat) (h : a + b ≤ 64) : onesN b * 2 ^ a < 18446744073709551616 := by
  have h1 : onesN b < 2 ^ b := by have := Nat.two_pow_pos b; unfold onesN; omega
  have h2 : onesN b * 2 ^ a < 2 ^ b * 2 ^ a := Nat.mul_lt_mul_of_pos_right h1 (Nat.two_pow_pos a)
  rw [← Nat.pow_add] at h2
  exact Nat.lt_of_lt_of_le h2 (by
    have : (18446744073709551616 : Nat) = 2 ^ 64 := by decide
    rw [this]; exact Nat.pow_le_pow_right (by decide) (by omega))
theorem lay_shift_lt (a b n : Nat) (h : a + b ≤ 64) (hn : n ≤ onesN b) : n * 2 ^ a < 18446744073709551616 :=
  Nat.lt_of_le_of_lt (Nat.mul_le_mul_right _ hn) (ones_shift_lt a b h)
theorem ones_bit (b j : Nat) : (onesN b).testBit j = decide (j < b) := Nat.testBit_two_pow_sub_one b j
theorem small_bit (n b j : Nat) (hn : n ≤ onesN b) (hj : b ≤ j) : n.testBit j = false :=
  Nat.testBit_lt_two_pow (Nat.lt_of_lt_of_le (Nat.lt_succ_of_le hn) (by
    have := Nat.two_pow_pos b
    have h2 : 2 ^ b ≤ 2 ^ j := Nat.pow_le_pow_right (by decide) hj
    unfold onesN; omega))

theorem layN_bit (x a b n j : Nat) (h : a + b ≤ 64) (hn : n ≤ onesN b) (hj : j < 64) :
    (layN x a b n).testBit j = if a ≤ j ∧ j < a + b then n.testBit (j - a) else x.testBit j := by
  unfold layN
  have e : 18446744073709551615 - onesN b * 2 ^ a = 2 ^ 64 - (onesN b * 2 ^ a + 1) := by omega
  rw [Nat.testBit_or, Nat.testBit_and, e, Nat.testBit_two_pow_sub_succ (ones_shift_lt a b h), Nat.testBit_mul_two_pow, Nat.testBit_mul_two_pow, ones_bit]
  by_cases h1 : a ≤ j
  · by_cases h2 : j < a + b
    · rw [if_pos ⟨h1, h2⟩]
      have : j - a < b := by omega
      simp [h1, hj, this]
    · rw [if_neg (by omega), small_bit n b (j - a) hn (by omega)]
      have : ¬ (j - a < b) := by omega
      simp [hj, this]
  · rw [if_neg (by omega)]
    simp [h1, hj]

theorem layN_lt (x a b n : Nat) (hx : x < 18446744073709551616) (h : a + b ≤ 64) (hn : n ≤ onesN b) : layN x a b n < 18446744073709551616 := by
  unfold layN
  exact Nat.or_lt_two_pow (n := 64) (Nat.lt_of_le_of_lt Nat.and_le_left hx) (lay_shift_lt a b n h hn)

theorem lay_val (x a b n : Nat) (hx : x < 18446744073709551616) (h : a + b ≤ 64) (hn : n ≤ onesN b) :
    bits .or .u64 (bits .andNot .u64 (x : Int) ((onesN b : Int) * 2 ^ a % 18446744073709551616)) ((n : Int) * 2 ^ a % 18446744073709551616) = (layN x a b n : Int) := by
  have p1 : ((onesN b : Int) * 2 ^ a % 18446744073709551616) = ((onesN b * 2 ^ a : Nat) : Int) := by
    have e : ((onesN b : Int) * 2 ^ a) = ((onesN b * 2 ^ a : Nat) : Int) := by simp
    have := ones_shift_lt a b h
    rw [e]; omega
  have p2 : ((n : Int) * 2 ^ a % 18446744073709551616) = ((n * 2 ^ a : Nat) : Int) := by
    have e : ((n : Int) * 2 ^ a) = ((n * 2 ^ a : Nat) : Int) := by simp
    have := lay_shift_lt a b n h hn
    rw [e]; omega
  rw [p1, p2, u64_andNot_nat x _ hx (ones_shift_lt a b h), u64_or_nat _ _ (Nat.lt_of_le_of_lt Nat.and_le_left hx) (lay_shift_lt a b n h hn)]
  rfl

theorem lowN_eq_iff (n b : Nat) : lowN n b = n ↔ n ≤ onesN b := by
  have := Nat.two_pow_pos b
  unfold lowN onesN
  constructor
  · intro h; have : n % 2 ^ b < 2 ^ b := Nat.mod_lt _ this; omega
  · intro h; exact Nat.mod_eq_of_lt (by omega)

theorem field_shift (x a : Nat) (hx : x < 18446744073709551616) : shiftN x (-(a : Int)) = x / 2 ^ a := by
  unfold shiftN
  by_cases h : a = 0
  · subst h; simp; exact hx
  · rw [if_pos (by omega)]
    have : (- -(a : Int)).toNat = a := by omega
    rw [this]

/-- the number of b bits of x from the place a on -/
def fieldN (x a b : Nat) : Nat := lowN (x / 2 ^ a) b
theorem fieldN_bit (x a b j : Nat) : (fieldN x a b).testBit j = (decide (j < b) && x.testBit (a + j)) := by
  unfold fieldN; rw [lowN_bit, Nat.testBit_div_two_pow, Nat.add_comm]
theorem fieldN_le (x a b : Nat) : fieldN x a b ≤ onesN b := by
  have : x / 2 ^ a % 2 ^ b < 2 ^ b := Nat.mod_lt _ (Nat.two_pow_pos b)
  unfold fieldN lowN onesN; omega

/-- what was laid is taken -/
theorem field_lay (x a b n : Nat) (h : a + b ≤ 64) (hn : n ≤ onesN b) : fieldN (layN x a b n) a b = n := by
  apply Nat.eq_of_testBit_eq
  intro j
  rw [fieldN_bit]
  by_cases hj : j < b
  · rw [layN_bit x a b n (a + j) h hn (by omega), if_pos (by omega)]
    have : a + j - a = j := by omega
    simp [hj, this]
  · rw [small_bit n b j hn (by omega)]; simp [hj]
/-- and what was there, laid again, makes what was -/
theorem lay_back (x a b n : Nat) (hx : x < 18446744073709551616) (h : a + b ≤ 64) (hn : n ≤ onesN b) : layN (layN x a b n) a b (fieldN x a b) = x := by
  apply Nat.eq_of_testBit_eq
  intro j
  by_cases hj : j < 64
  · rw [layN_bit _ a b _ j h (fieldN_le x a b) hj]
    by_cases c : a ≤ j ∧ j < a + b
    · rw [if_pos c, fieldN_bit]
      have e : a + (j - a) = j := by omega
      have : j - a < b := by omega
      simp [e, this]
    · rw [if_neg c, layN_bit x a b n j h hn hj, if_neg c]
  · rw [lt64_bit _ j (layN_lt _ a b _ (layN_lt x a b n hx h hn) h (fieldN_le x a b)) (by omega), lt64_bit x j hx (by omega)]

/-- what is extended is narrowed to what extends to it again -/
theorem ext_low (x b : Nat) (h1 : 1 ≤ b) : extZ (lowN x b) b = extZ x b := by
  unfold extZ
  rw [lowN_bit]
  have : b - 1 < b := by omega
  unfold lowN
  rw [Nat.mod_mod]
  simp [this]
theorem extZ_lo (x b : Nat) (h1 : 1 ≤ b) (h2 : b ≤ 64) : -9223372036854775808 ≤ extZ x b ∧ extZ x b ≤ 9223372036854775807 := by
  have hh := half_split b h1
  have d : 2 ^ (b - 1) ≤ 9223372036854775808 := by
    have : (9223372036854775808 : Nat) = 2 ^ 63 := by decide
    rw [this]; exact Nat.pow_le_pow_right (by decide) (by omega)
  have c : x % 2 ^ b < 2 ^ b := Nat.mod_lt _ (Nat.two_pow_pos b)
  unfold extZ
  by_cases h : x.testBit (b - 1) = true
  · have g := low_half_t x b h1 h
    rw [if_pos h]
    generalize x % 2 ^ b = m at *; generalize 2 ^ b = q at *; generalize 2 ^ (b - 1) = p at *
    omega
  · have g := low_half_f x b h1 (by simpa using h)
    rw [if_neg h]
    generalize x % 2 ^ b = m at *; generalize 2 ^ b = q at *; generalize 2 ^ (b - 1) = p at *
    omega

theorem extZ_wrap (x b : Nat) (h1 : 1 ≤ b) (h2 : b ≤ 64) : IntKind.u64.wrap (extZ x b) = (extN x b : Int) := by
  have h := extN_wrap x b h1 h2
  have l := extN_lt x b h2
  rw [wrapI64] at h
  rw [IntKind.wrap_u64, ← h]
  split <;> omega
theorem extZ_extN (x b : Nat) (h1 : 1 ≤ b) (h2 : b ≤ 64) : extZ (extN x b) b = extZ x b := by
  have e : extN x b % 2 ^ b = x % 2 ^ b := by
    unfold extN; split
    · rw [Nat.mul_add_mod, Nat.mod_mod]
    · rw [Nat.mod_mod]
  unfold extZ
  rw [extN_bit x b (b - 1) h1 h2 (by omega), if_neg (show ¬ b ≤ b - 1 by omega), e]

end Go.Proofs.YtijacihmdfhjcaaDoor
