/- Plain facts on bits of natural numbers, with no program in them: what a loop that lays bit by bit comes to, turned and extended words, fields. No conditions beyond those that each states. -/
import Derived.Laws.BitsAllLaws
import Derived.Laws.Bits64
namespace Go.Proofs.Ytaoglljkghkbpaa

def tb (x : Nat) (i : Int) : Bool := decide (0 ≤ i) && x.testBit i.toNat

theorem tb_nat (x i : Nat) : tb x (i : Int) = x.testBit i := by simp [tb]
theorem tb_neg (x : Nat) (i : Int) (h : i < 0) : tb x i = false := by
  unfold tb; simp; intro h'; omega
theorem tb_big (x : Nat) (i : Int) (hx : x < 18446744073709551616) (h : 63 < i) : tb x i = false := by
  unfold tb
  have : x.testBit i.toNat = false := Nat.testBit_lt_two_pow (Nat.lt_of_lt_of_le hx (by
    have : (18446744073709551616 : Nat) = 2 ^ 64 := by decide
    rw [this]; exact Nat.pow_le_pow_right (by decide) (by omega)))
  simp [this]

theorem testBit_div (x i : Nat) : x / 2 ^ i % 2 = if x.testBit i then 1 else 0 := by
  rw [Nat.testBit_eq_decide_div_mod_eq]
  have : x / 2 ^ i % 2 < 2 := Nat.mod_lt _ (by decide)
  split <;> simp_all

theorem mod_succ_t (y k : Nat) (h : y.testBit k = true) : y % 2 ^ (k + 1) = y % 2 ^ k + 2 ^ k := by
  rw [Nat.mod_pow_succ, testBit_div, h]; simp
theorem mod_succ_f (y k : Nat) (h : y.testBit k = false) : y % 2 ^ (k + 1) = y % 2 ^ k := by
  rw [Nat.mod_pow_succ, testBit_div, h]; simp

theorem or_pow (a k : Nat) (h : a < 2 ^ k) : a ||| 2 ^ k = a + 2 ^ k := by
  have := Nat.two_pow_add_eq_or_of_lt h 1
  rw [Nat.mul_one] at this
  rw [Nat.or_comm, ← this, Nat.add_comm]

theorem pow_lt_u64 (k : Nat) (h : k < 64) : 2 ^ k < 18446744073709551616 := by
  have : (18446744073709551616 : Nat) = 2 ^ 64 := by decide
  rw [this]; exact Nat.pow_lt_pow_right (by decide) h
theorem pow_lt_u32 (k : Nat) (h : k < 32) : 2 ^ k < 4294967296 := by
  have : (4294967296 : Nat) = 2 ^ 32 := by decide
  rw [this]; exact Nat.pow_lt_pow_right (by decide) h
theorem mod_lt_u64 (y k : Nat) (h : k ≤ 64) : y % 2 ^ k < 18446744073709551616 := by
  have : (18446744073709551616 : Nat) = 2 ^ 64 := by decide
  rw [this]; exact Nat.lt_of_lt_of_le (Nat.mod_lt _ (Nat.two_pow_pos k)) (Nat.pow_le_pow_right (by decide) h)
theorem mod64 (y : Nat) (h : y < 18446744073709551616) : y % 2 ^ 64 = y := Nat.mod_eq_of_lt (by omega)

theorem wrapU64 (n : Nat) (h : n < 18446744073709551616) : IntKind.u64.wrap (n : Int) = n := by
  rw [IntKind.wrap_u64]; omega
theorem wrapU32 (n : Nat) (h : n < 4294967296) : IntKind.u32.wrap (n : Int) = n := by
  rw [IntKind.wrap_u32']; omega

/-- the lowest bits of a number: what a loop that lays bit by bit has laid behind k rounds -/
def lowN (y k : Nat) : Nat := y % 2 ^ k
theorem lowN_zero (y : Nat) : lowN y 0 = 0 := by simp [lowN, Nat.mod_one]
theorem lowN_full (y : Nat) (h : y < 18446744073709551616) : lowN y 64 = y := mod64 y h
theorem lowN_lt (y k : Nat) (h : k ≤ 64) : lowN y k < 18446744073709551616 := mod_lt_u64 y k h
theorem lowN_bit (y k j : Nat) : (lowN y k).testBit j = (decide (j < k) && y.testBit j) := Nat.testBit_mod_two_pow y k j
theorem pow64_int (k : Nat) (h : k < 64) : ((2 : Int) ^ k % 18446744073709551616) = ((2 ^ k : Nat) : Int) := by
  have := pow_lt_u64 k h
  have e : ((2 ^ k : Nat) : Int) = (2 : Int) ^ k := by simp
  rw [← e]; generalize 2 ^ k = n at *; omega
theorem pow32_int (k : Nat) (h : k < 32) : ((2 : Int) ^ k % 4294967296) = ((2 ^ k : Nat) : Int) := by
  have := pow_lt_u32 k h
  have e : ((2 ^ k : Nat) : Int) = (2 : Int) ^ k := by simp
  rw [← e]; generalize 2 ^ k = n at *; omega
/-- one round of a loop that lays bit by bit -/
theorem or_step (y k : Nat) (h : y.testBit k = true) (hk : k < 64) :
    bits .or .u64 (lowN y k : Int) ((2 : Int) ^ k % 18446744073709551616) = (lowN y (k + 1) : Int) := by
  rw [pow64_int k hk, u64_or_nat _ _ (lowN_lt _ _ (by omega)) (pow_lt_u64 k hk)]
  unfold lowN
  rw [or_pow _ _ (Nat.mod_lt _ (Nat.two_pow_pos k)), mod_succ_t y k h]
theorem lowN_no (y k : Nat) (h : y.testBit k = false) : lowN y (k + 1) = lowN y k := mod_succ_f y k h

def orTo (f : Nat → Bool) (p : Nat → Nat) : Nat → Nat
  | 0 => 0
  | k + 1 => if f k then orTo f p k ||| 2 ^ p k else orTo f p k

theorem orTo_lt (f : Nat → Bool) (p : Nat → Nat) (n : Nat) (hp : ∀ i, p i < n) (k : Nat) : orTo f p k < 2 ^ n := by
  induction k with
  | zero => exact Nat.two_pow_pos n
  | succ k ih =>
    unfold orTo; split
    · exact Nat.or_lt_two_pow ih (Nat.pow_lt_pow_right (by decide) (hp k))
    · exact ih

theorem orTo_bit (f : Nat → Bool) (p : Nat → Nat) (k j : Nat) : (orTo f p k).testBit j = true ↔ ∃ i, i < k ∧ f i = true ∧ p i = j := by
  induction k with
  | zero => simp [orTo]
  | succ k ih =>
    unfold orTo
    by_cases hf : f k = true
    · rw [if_pos hf, Nat.testBit_or, Bool.or_eq_true, ih, Nat.testBit_two_pow, decide_eq_true_iff]
      constructor
      · rintro (⟨i, h1, h2, h3⟩ | h)
        · exact ⟨i, by omega, h2, h3⟩
        · exact ⟨k, by omega, hf, h⟩
      · rintro ⟨i, h1, h2, h3⟩
        by_cases e : i = k
        · subst e; exact .inr h3
        · exact .inl ⟨i, by omega, h2, h3⟩
    · rw [if_neg hf, ih]
      constructor
      · rintro ⟨i, h1, h2, h3⟩; exact ⟨i, by omega, h2, h3⟩
      · rintro ⟨i, h1, h2, h3⟩
        have : i ≠ k := by rintro rfl; exact hf h2
        exact ⟨i, by omega, h2, h3⟩

theorem or32_step (f : Nat → Bool) (p : Nat → Nat) (hp : ∀ i, p i < 32) (k : Nat) (h : f k = true) :
    bits .or .u32 (orTo f p k : Int) ((2 : Int) ^ (p k) % 4294967296) = (orTo f p (k + 1) : Int) := by
  rw [pow32_int _ (hp k), u32_or_nat _ _ (orTo_lt f p 32 hp k) (pow_lt_u32 _ (hp k))]
  conv => rhs; unfold orTo
  rw [if_pos h]
theorem orTo_no (f : Nat → Bool) (p : Nat → Nat) (k : Nat) (h : f k = false) : orTo f p (k + 1) = orTo f p k := by
  conv => lhs; unfold orTo
  simp [h]

/-- a word turned to the left by s, below 32 -/
def turnN (x s : Nat) : Nat := x * 2 ^ s % 2 ^ 32 ||| x / 2 ^ (32 - s)

theorem lt32_bit (x j : Nat) (hx : x < 4294967296) (hj : 32 ≤ j) : x.testBit j = false :=
  Nat.testBit_lt_two_pow (Nat.lt_of_lt_of_le hx (by
    have : (4294967296 : Nat) = 2 ^ 32 := by decide
    rw [this]; exact Nat.pow_le_pow_right (by decide) hj))
theorem lt64_bit (x j : Nat) (hx : x < 18446744073709551616) (hj : 64 ≤ j) : x.testBit j = false :=
  Nat.testBit_lt_two_pow (Nat.lt_of_lt_of_le hx (by
    have : (18446744073709551616 : Nat) = 2 ^ 64 := by decide
    rw [this]; exact Nat.pow_le_pow_right (by decide) hj))

theorem turnN_bit (x s j : Nat) : (turnN x s).testBit j = ((decide (j < 32) && (decide (s ≤ j) && x.testBit (j - s))) || x.testBit (j + (32 - s))) := by
  unfold turnN
  rw [Nat.testBit_or, Nat.testBit_mod_two_pow, Nat.testBit_mul_two_pow, Nat.testBit_div_two_pow, Nat.add_comm j]

theorem turnN_lt (x s : Nat) (hx : x < 4294967296) : turnN x s < 4294967296 := by
  unfold turnN
  exact Nat.or_lt_two_pow (n := 32) (Nat.mod_lt _ (Nat.two_pow_pos 32)) (Nat.lt_of_le_of_lt (Nat.div_le_self _ _) hx)

theorem orTo_turn (x s : Nat) (hx : x < 4294967296) (hs : s < 32) : orTo (fun i => x.testBit i) (fun i => (i + s) % 32) 32 = turnN x s := by
  apply Nat.eq_of_testBit_eq
  intro j
  rw [Bool.eq_iff_iff, orTo_bit, turnN_bit]
  by_cases hj : j < 32
  · by_cases h : s ≤ j
    · rw [lt32_bit x (j + (32 - s)) hx (by omega)]
      simp [hj, h]
      constructor
      · rintro ⟨i, h1, h2, h3⟩
        have : i = j - s := by omega
        rw [← this]; exact h2
      · intro h2; exact ⟨j - s, by omega, h2, by omega⟩
    · simp [h]
      constructor
      · rintro ⟨i, h1, h2, h3⟩
        have : i = j + (32 - s) := by omega
        rw [← this]; exact h2
      · intro h2; exact ⟨j + (32 - s), by omega, h2, by omega⟩
  · rw [lt32_bit x (j + (32 - s)) hx (by omega)]
    simp [hj]
    intro i h1 h2 h3
    omega

theorem turnN_back (x s t : Nat) (hx : x < 4294967296) (hs : s < 32) (ht : t < 32) (h : (s + t) % 32 = 0) : turnN (turnN x s) t = x := by
  apply Nat.eq_of_testBit_eq
  intro j
  rw [turnN_bit, turnN_bit, turnN_bit]
  by_cases hj : j < 32
  · by_cases e : s = 0
    · subst e
      have e2 : t = 0 := by omega
      subst e2
      simp [hj, lt32_bit x (j + 32) hx (by omega), lt32_bit x (j + 32 + 32) hx (by omega)]
    · have e2 : t = 32 - s := by omega
      subst e2
      by_cases h1 : 32 - s ≤ j
      · have a1 : ¬ (s ≤ j - (32 - s)) := by omega
        have a2 : j - (32 - s) + (32 - s) = j := by omega
        have a3 : ¬ (j + (32 - (32 - s)) < 32) := by omega
        have a4 : j - (32 - s) < 32 := by omega
        simp [hj, h1, a1, a2, a3, a4, lt32_bit x (j + (32 - (32 - s)) + (32 - s)) hx (by omega)]
      · have a3 : j + (32 - (32 - s)) < 32 := by omega
        have a4 : s ≤ j + (32 - (32 - s)) := by omega
        have a5 : j + (32 - (32 - s)) - s = j := by omega
        have a6 : x.testBit (j + (32 - (32 - s)) + (32 - s)) = false := lt32_bit x _ hx (by omega)
        simp [h1, a3, a4, a5, a6]
  · have a1 : ¬ (j + (32 - t) < 32) := by omega
    simp [hj, a1, lt32_bit x (j + (32 - t) + (32 - s)) hx (by omega), lt32_bit x j hx (by omega)]

/-- a word shifted: to the left, or to the right below 0 -/
def shiftN (x : Nat) (i : Int) : Nat := if i < 0 then x / 2 ^ (-i).toNat else x * 2 ^ i.toNat % 2 ^ 64

theorem shiftN_lt (x : Nat) (i : Int) (hx : x < 18446744073709551616) : shiftN x i < 18446744073709551616 := by
  unfold shiftN; split
  · exact Nat.lt_of_le_of_lt (Nat.div_le_self _ _) hx
  · exact Nat.mod_lt _ (by decide)

theorem shiftN_bit (x : Nat) (i : Int) (j : Nat) (hj : j < 64) : (shiftN x i).testBit j = tb x ((j : Int) - i) := by
  unfold shiftN; split
  · rw [Nat.testBit_div_two_pow]
    have : (j : Int) - i = ((j + (-i).toNat : Nat) : Int) := by omega
    rw [this, tb_nat, Nat.add_comm]
  · rw [Nat.testBit_mod_two_pow, Nat.testBit_mul_two_pow]
    by_cases h : i.toNat ≤ j
    · have : (j : Int) - i = ((j - i.toNat : Nat) : Int) := by omega
      rw [this, tb_nat]; simp [hj, h]
    · rw [tb_neg x _ (by omega)]; simp [h]

theorem pow_ge_u64 (k : Nat) (h : 64 ≤ k) : 18446744073709551616 ≤ 2 ^ k := by
  have : (18446744073709551616 : Nat) = 2 ^ 64 := by decide
  rw [this]; exact Nat.pow_le_pow_right (by decide) h

theorem shiftN_big (x : Nat) (i : Int) (hx : x < 18446744073709551616) (h : i ≤ -64 ∨ 64 ≤ i) : shiftN x i = 0 := by
  apply Nat.eq_of_testBit_eq
  intro j
  by_cases hj : j < 64
  · rw [shiftN_bit x i j hj, Nat.zero_testBit]
    rcases h with h | h
    · exact tb_big x _ hx (by omega)
    · exact tb_neg x _ (by omega)
  · rw [lt64_bit _ j (shiftN_lt x i hx) (by omega), Nat.zero_testBit]

end Go.Proofs.Ytaoglljkghkbpaa
