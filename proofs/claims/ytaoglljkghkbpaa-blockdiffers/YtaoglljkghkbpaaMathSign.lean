/- Plain facts on shifts, with and without a sign, and on numbers extended from their lowest bits; no program in them. No conditions beyond those that each states. -/
import Derived.Test.YtaoglljkghkbpaaMath
namespace Go.Proofs.Ytaoglljkghkbpaa

theorem min64_pow_div (x n : Nat) (hx : x < 18446744073709551616) : x / 2 ^ min n 64 = x / 2 ^ n := by
  by_cases h : n ≤ 64
  · rw [Nat.min_eq_left h]
  · rw [Nat.min_eq_right (by omega), Nat.div_eq_of_lt (by omega), Nat.div_eq_of_lt (Nat.lt_of_lt_of_le hx (pow_ge_u64 n (by omega)))]

theorem shr_val (x : Nat) (i : Int) (hx : x < 18446744073709551616) (h : i < 0) : (x : Int) / 2 ^ min (-i).toNat 64 = (shiftN x i : Int) := by
  unfold shiftN
  rw [if_pos h, ← min64_pow_div x _ hx]
  simp

theorem mod_mul_pow (x n : Nat) : x * 2 ^ min n 64 % 2 ^ 64 = x * 2 ^ n % 2 ^ 64 := by
  by_cases h : n ≤ 64
  · rw [Nat.min_eq_left h]
  · rw [Nat.min_eq_right (by omega)]
    have : n = 64 + (n - 64) := by omega
    rw [this, Nat.pow_add, ← Nat.mul_assoc, Nat.mul_mod_left, Nat.mul_right_comm, Nat.mul_mod_left]

theorem shl_val (x : Nat) (i : Int) (h : 0 ≤ i) : IntKind.u64.wrap ((x : Int) * 2 ^ min i.toNat 64) = (shiftN x i : Int) := by
  unfold shiftN
  rw [if_neg (by omega), IntKind.wrap_u64, ← mod_mul_pow]
  simp

/-- a number with a sign shifted: to the left, or to the right below 0 -/
def leanZ (x i : Int) : Int := if i < 0 then x / 2 ^ min (-i).toNat 64 else IntKind.i64.wrap (x * 2 ^ min i.toNat 64)

theorem wrapI64 (a : Int) : IntKind.i64.wrap a = if a % 18446744073709551616 ≥ 9223372036854775808 then a % 18446744073709551616 - 18446744073709551616 else a % 18446744073709551616 := by
  simp [IntKind.wrap, IntKind.bits, IntKind.signed]
theorem wrapI64_congr (a b : Int) (h : a % 18446744073709551616 = b % 18446744073709551616) : IntKind.i64.wrap a = IntKind.i64.wrap b := by
  rw [wrapI64, wrapI64, h]
theorem wrapI64_id (a : Int) (h1 : -9223372036854775808 ≤ a) (h2 : a < 9223372036854775808) : IntKind.i64.wrap a = a := by
  rw [wrapI64]; split <;> omega

/-- to the left: the same whether the sign is kept or not -/
theorem lean_left (x i : Int) (u : Nat) (hu : IntKind.u64.wrap x = u) (h : 0 ≤ i) : IntKind.i64.wrap (shiftN u i : Int) = leanZ x i := by
  unfold leanZ
  rw [if_neg (by omega)]
  apply wrapI64_congr
  rw [← shl_val u i h, IntKind.wrap_u64, ← hu, IntKind.wrap_u64]
  rw [Int.emod_emod_of_dvd _ (Int.dvd_refl _), Int.mul_emod, Int.emod_emod_of_dvd _ (Int.dvd_refl _), ← Int.mul_emod]

theorem lean_big (x i : Int) (h : 64 ≤ i) : leanZ x i = 0 := by
  unfold leanZ
  rw [if_neg (by omega), Nat.min_eq_right (by omega), wrapI64]
  have : x * 2 ^ 64 % 18446744073709551616 = 0 := by omega
  rw [this]; rfl

/-- to the right, of what is not below 0 -/
theorem lean_right (x i : Int) (u : Nat) (hu : IntKind.u64.wrap x = u) (h0 : 0 ≤ x) (h1 : x < 9223372036854775808) (h : i < 0) :
    IntKind.i64.wrap (shiftN u i : Int) = leanZ x i := by
  have e : (u : Int) = x := by rw [← hu, IntKind.wrap_u64]; omega
  have hu2 : u < 18446744073709551616 := by omega
  unfold leanZ
  rw [if_pos h, ← shr_val u i hu2 h, e]
  apply wrapI64_id
  · have : (0 : Int) ≤ x / 2 ^ min (-i).toNat 64 := Int.ediv_nonneg h0 (Int.pow_nonneg (by decide))
    omega
  · have : x / 2 ^ min (-i).toNat 64 ≤ x := Int.ediv_le_self _ h0
    omega

theorem small_div (x : Int) (n : Nat) (h1 : -9223372036854775808 ≤ x) (h2 : x < 9223372036854775808) (hn : 63 ≤ n) : x / 2 ^ n = x / 2 ^ 63 := by
  have hp : (9223372036854775808 : Int) ≤ 2 ^ n := by
    have : (2 : Int) ^ n = 2 ^ 63 * 2 ^ (n - 63) := by rw [← Int.pow_add]; congr 1; omega
    rw [this]
    have : (1 : Int) ≤ 2 ^ (n - 63) := Int.pow_pos (by decide)
    omega
  generalize (2 : Int) ^ n = p at *
  by_cases hx : 0 ≤ x
  · rw [Int.ediv_eq_zero_of_lt hx (by omega), Int.ediv_eq_zero_of_lt hx (by omega)]
  · have e1 : x / p = -1 := by
      rw [Int.ediv_eq_iff_of_pos (by omega)]; omega
    rw [e1]; omega

theorem lean_far (x i : Int) (h1 : -9223372036854775808 ≤ x) (h2 : x < 9223372036854775808) (h : i ≤ -64) : leanZ x i = leanZ x (-63) := by
  unfold leanZ
  rw [if_pos (by omega), if_pos (by omega), small_div x _ h1 h2 (by omega), small_div x (min (- -63 : Int).toNat 64) h1 h2 (by decide)]

def fillN (u n k : Nat) : Nat := u / 2 ^ n + (2 ^ k - 2 ^ (64 - n))

theorem div_lt_pow (u n : Nat) (hu : u < 18446744073709551616) (hn : n ≤ 64) : u / 2 ^ n < 2 ^ (64 - n) := by
  apply Nat.div_lt_of_lt_mul
  rw [← Nat.pow_add]
  have : n + (64 - n) = 64 := by omega
  rw [this]; exact hu

theorem fill_start (u n : Nat) : fillN u n (64 - n) = u / 2 ^ n := by simp [fillN]
theorem fill_step (u n k : Nat) (hu : u < 18446744073709551616) (hn : n ≤ 64) (h : 64 - n ≤ k) (hk : k < 64) :
    bits .or .u64 (fillN u n k : Int) ((2 : Int) ^ k % 18446744073709551616) = (fillN u n (k + 1) : Int) := by
  have a := div_lt_pow u n hu hn
  have b : 2 ^ (64 - n) ≤ 2 ^ k := Nat.pow_le_pow_right (by decide) h
  have c := pow_lt_u64 k hk
  have d : 2 ^ (k + 1) = 2 ^ k * 2 := Nat.pow_succ 2 k
  have e : fillN u n k < 2 ^ k := by
    unfold fillN
    generalize u / 2 ^ n = q at *; generalize 2 ^ (64 - n) = r at *; generalize 2 ^ k = s at *; omega
  rw [pow64_int k hk, u64_or_nat _ _ (Nat.lt_trans e c) c, or_pow _ _ e]
  unfold fillN
  rw [d]
  generalize u / 2 ^ n = q at *; generalize 2 ^ (64 - n) = r at *; generalize 2 ^ k = s at *; omega

theorem fill_end (x : Int) (u n : Nat) (hu : IntKind.u64.wrap x = u) (h0 : x < 0) (h1 : -9223372036854775808 ≤ x) (hn : 1 ≤ n) (hn2 : n ≤ 63) :
    IntKind.i64.wrap (fillN u n 64 : Int) = leanZ x (-(n : Int)) := by
  have e : (u : Int) = x + 18446744073709551616 := by rw [← hu, IntKind.wrap_u64]; omega
  have hu2 : u < 18446744073709551616 := by omega
  have a := div_lt_pow u n hu2 (by omega)
  have b : 2 ^ (64 - n) ≤ 2 ^ 63 := Nat.pow_le_pow_right (by decide) (by omega)
  have c : 2 ^ (63 - n) ≤ u / 2 ^ n := by
    rw [Nat.le_div_iff_mul_le (Nat.two_pow_pos n), ← Nat.pow_add]
    have : 63 - n + n = 63 := by omega
    rw [this]; omega
  have d : 2 ^ (64 - n) = 2 ^ (63 - n) * 2 := by rw [← Nat.pow_succ]; congr 1; omega
  have q : x / 2 ^ n = ((u / 2 ^ n : Nat) : Int) - ((2 ^ (64 - n) : Nat) : Int) := by
    have f : x = (u : Int) + 2 ^ n * (-((2 ^ (64 - n) : Nat) : Int)) := by
      have g : (2 : Int) ^ n * ((2 ^ (64 - n) : Nat) : Int) = 18446744073709551616 := by
        have : ((2 : Int) ^ n * ((2 ^ (64 - n) : Nat) : Int)) = ((2 ^ n * 2 ^ (64 - n) : Nat) : Int) := by simp
        rw [this, ← Nat.pow_add]
        have : n + (64 - n) = 64 := by omega
        rw [this]; rfl
      rw [Int.mul_neg, g]; omega
    rw [f, Int.add_mul_ediv_left _ _ (by have : (0 : Int) < 2 ^ n := Int.pow_pos (by decide); omega)]
    simp; omega
  unfold leanZ
  rw [if_pos (by omega)]
  have : min (- -(n : Int)).toNat 64 = n := by omega
  rw [this, q, wrapI64]
  unfold fillN
  have p64 : (2 : Nat) ^ 64 = 18446744073709551616 := by decide
  have p63 : (2 : Nat) ^ 63 = 9223372036854775808 := by decide
  rw [p64]; rw [p63] at b
  generalize u / 2 ^ n = q at *; generalize 2 ^ (64 - n) = r at *; generalize 2 ^ (63 - n) = r' at *
  split <;> omega

/-- the lowest b bits as a number with a sign -/
def extZ (x b : Nat) : Int := if x.testBit (b - 1) then ((x % 2 ^ b : Nat) : Int) - ((2 ^ b : Nat) : Int) else ((x % 2 ^ b : Nat) : Int)
/-- the same, as its 64 bits -/
def extN (x b : Nat) : Nat := if x.testBit (b - 1) then 2 ^ b * (2 ^ (64 - b) - 1) + x % 2 ^ b else x % 2 ^ b

theorem pow_split (b : Nat) (h2 : b ≤ 64) : 2 ^ b * 2 ^ (64 - b) = 18446744073709551616 := by
  rw [← Nat.pow_add]
  have : b + (64 - b) = 64 := by omega
  rw [this]
theorem half_split (b : Nat) (h1 : 1 ≤ b) : 2 ^ b = 2 ^ (b - 1) * 2 := by
  rw [← Nat.pow_succ]; congr 1; omega
theorem low_half_t (x b : Nat) (h1 : 1 ≤ b) (h : x.testBit (b - 1) = true) : 2 ^ (b - 1) ≤ x % 2 ^ b := by
  have := mod_succ_t x (b - 1) h
  have e : b - 1 + 1 = b := by omega
  rw [e] at this; rw [this]; exact Nat.le_add_left _ _
theorem low_half_f (x b : Nat) (h1 : 1 ≤ b) (h : x.testBit (b - 1) = false) : x % 2 ^ b < 2 ^ (b - 1) := by
  have := mod_succ_f x (b - 1) h
  have e : b - 1 + 1 = b := by omega
  rw [e] at this; rw [this]; exact Nat.mod_lt _ (Nat.two_pow_pos _)

theorem extN_bit (x b j : Nat) (h1 : 1 ≤ b) (h2 : b ≤ 64) (hj : j < 64) : (extN x b).testBit j = if b ≤ j then x.testBit (b - 1) else x.testBit j := by
  unfold extN
  by_cases h : x.testBit (b - 1) = true
  · rw [if_pos h, Nat.testBit_two_pow_mul_add _ (Nat.mod_lt _ (Nat.two_pow_pos b)), Nat.testBit_two_pow_sub_one, Nat.testBit_mod_two_pow]
    by_cases hb : b ≤ j
    · rw [if_neg (by omega), if_pos hb, h, decide_eq_true_iff]; omega
    · rw [if_pos (by omega), if_neg hb]; simp; intro _; omega
  · rw [if_neg h, Nat.testBit_mod_two_pow]
    by_cases hb : b ≤ j
    · rw [if_pos hb]; simp at h; rw [h]; simp; omega
    · rw [if_neg hb]; simp; intro _; omega

theorem extN_lt (x b : Nat) (h2 : b ≤ 64) : extN x b < 18446744073709551616 := by
  have a := pow_split b h2
  have c : x % 2 ^ b < 2 ^ b := Nat.mod_lt _ (Nat.two_pow_pos b)
  have d : 2 ^ b ≤ 18446744073709551616 := by
    have : (18446744073709551616 : Nat) = 2 ^ 64 := by decide
    rw [this]; exact Nat.pow_le_pow_right (by decide) h2
  unfold extN
  split
  · rw [Nat.mul_sub, a, Nat.mul_one]
    generalize 2 ^ b = q at *; generalize x % q = m at *; omega
  · omega

theorem extN_wrap (x b : Nat) (h1 : 1 ≤ b) (h2 : b ≤ 64) : IntKind.i64.wrap (extN x b : Int) = extZ x b := by
  have a := pow_split b h2
  have c : x % 2 ^ b < 2 ^ b := Nat.mod_lt _ (Nat.two_pow_pos b)
  have hh := half_split b h1
  have d : 2 ^ b ≤ 18446744073709551616 := by
    have : (18446744073709551616 : Nat) = 2 ^ 64 := by decide
    rw [this]; exact Nat.pow_le_pow_right (by decide) h2
  rw [wrapI64]
  unfold extN extZ
  by_cases h : x.testBit (b - 1) = true
  · have g := low_half_t x b h1 h
    rw [if_pos h, if_pos h, Nat.mul_sub, a, Nat.mul_one]
    generalize x % 2 ^ b = m at *; generalize 2 ^ b = q at *; generalize 2 ^ (b - 1) = p at *
    split <;> omega
  · have g := low_half_f x b h1 (by simpa using h)
    rw [if_neg h, if_neg h]
    generalize x % 2 ^ b = m at *; generalize 2 ^ b = q at *; generalize 2 ^ (b - 1) = p at *
    split <;> omega

theorem ext_val (x b : Nat) (h1 : 1 ≤ b) (h2 : b ≤ 64) : IntKind.i64.wrap (IntKind.u64.wrap ((x : Int) * 2 ^ (64 - b))) / 2 ^ (64 - b) = extZ x b := by
  have a := pow_split b h2
  have e1 : IntKind.u64.wrap ((x : Int) * 2 ^ (64 - b)) = ((x % 2 ^ b * 2 ^ (64 - b) : Nat) : Int) := by
    have : ((x : Int) * 2 ^ (64 - b)) = ((x * 2 ^ (64 - b) : Nat) : Int) := by simp
    rw [this, IntKind.wrap_u64, ← Nat.mul_mod_mul_right, a]; rfl
  have p1 : ((2 : Int) ^ (64 - b)) = ((2 ^ (64 - b) : Nat) : Int) := by simp
  have pp : 0 < 2 ^ (64 - b) := Nat.two_pow_pos _
  have hh := half_split b h1
  have c : x % 2 ^ b < 2 ^ b := Nat.mod_lt _ (Nat.two_pow_pos b)
  have q1 : x % 2 ^ b * 2 ^ (64 - b) < 18446744073709551616 := by
    rw [← a]; exact Nat.mul_lt_mul_of_pos_right c pp
  have q2 : 2 ^ (b - 1) * 2 ^ (64 - b) = 9223372036854775808 := by
    rw [← Nat.pow_add]
    have : b - 1 + (64 - b) = 63 := by omega
    rw [this]
  rw [e1, wrapI64, p1]
  unfold extZ
  by_cases h : x.testBit (b - 1) = true
  · have g := low_half_t x b h1 h
    have g2 : 9223372036854775808 ≤ x % 2 ^ b * 2 ^ (64 - b) := by rw [← q2]; exact Nat.mul_le_mul_right _ g
    rw [if_pos h, if_pos (by omega)]
    have e2 : (((x % 2 ^ b * 2 ^ (64 - b) : Nat) : Int) % 18446744073709551616 - 18446744073709551616) = (((x % 2 ^ b : Nat) : Int) - ((2 ^ b : Nat) : Int)) * ((2 ^ (64 - b) : Nat) : Int) := by
      rw [Int.sub_mul, ← Int.natCast_mul, ← Int.natCast_mul, a]; omega
    rw [e2, Int.mul_ediv_cancel _ (by omega)]
  · have g := low_half_f x b h1 (by simpa using h)
    have g2 : x % 2 ^ b * 2 ^ (64 - b) < 9223372036854775808 := by rw [← q2]; exact Nat.mul_lt_mul_of_pos_right g pp
    rw [if_neg h, if_neg (by omega)]
    have e2 : (((x % 2 ^ b * 2 ^ (64 - b) : Nat) : Int) % 18446744073709551616) = ((x % 2 ^ b : Nat) : Int) * ((2 ^ (64 - b) : Nat) : Int) := by
      rw [← Int.natCast_mul]; omega
    rw [e2, Int.mul_ediv_cancel _ (by omega)]

/-- b bits that are 1 -/
def onesN (b : Nat) : Nat := 2 ^ b - 1
theorem onesN_lt (b : Nat) (h2 : b ≤ 64) : onesN b < 18446744073709551616 := by
  have d : 2 ^ b ≤ 18446744073709551616 := by
    have : (18446744073709551616 : Nat) = 2 ^ 64 := by decide
    rw [this]; exact Nat.pow_le_pow_right (by decide) h2
  have := Nat.two_pow_pos b
  unfold onesN; omega
theorem ones_val (b : Nat) (h2 : b ≤ 64) : (18446744073709551615 : Int) / 2 ^ (64 - b) = (onesN b : Int) := by
  have a := pow_split b h2
  have pp : 0 < 2 ^ (64 - b) := Nat.two_pow_pos _
  have qq : 0 < 2 ^ b := Nat.two_pow_pos _
  have p1 : ((2 : Int) ^ (64 - b)) = ((2 ^ (64 - b) : Nat) : Int) := by simp
  rw [p1, show (18446744073709551615 : Int) = ((18446744073709551615 : Nat) : Int) from rfl, ← Int.natCast_ediv]
  congr 1
  unfold onesN
  rw [Nat.div_eq_iff pp]
  generalize 2 ^ (64 - b) = r at *
  rw [Nat.sub_mul, a]; omega
theorem and_ones (u b : Nat) (hu : u < 18446744073709551616) (h2 : b ≤ 64) : bits .and .u64 (u : Int) (onesN b : Int) = (lowN u b : Int) := by
  rw [u64_and_nat u (onesN b) hu (onesN_lt b h2)]
  unfold onesN lowN
  rw [Nat.and_two_pow_sub_one_eq_mod]

end Go.Proofs.Ytaoglljkghkbpaa
