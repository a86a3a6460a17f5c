/- Plain facts on counted bits: a word taken as eight bytes, and what adding up neighbouring bits, pairs and nibbles in all bytes at once comes to; no program in them. No conditions beyond those that each states. -/
import Derived.Laws.BitsAllLaws
import Derived.Laws.Bits64
import Derived.Test.YtdhbjcnbdfidcaaRows
import Derived.WalkKit
import Derived.ProofKit
import Derived.OpenShut
import Derived.WalkSpells
import Derived.Below

namespace Go.Proofs.Ytdhbjcnbdfidcaa

def tb (x : Nat) (i : Int) : Bool := decide (0 ≤ i) && x.testBit i.toNat

theorem tb_nat (x i : Nat) : tb x (i : Int) = x.testBit i := by simp [tb]
theorem tb_neg (x : Nat) (i : Int) (h : i < 0) : tb x i = false := by
  unfold tb; simp; intro h'; omega
theorem tb_big (x : Nat) (i : Int) (hx : x < 18446744073709551616) (h : 63 < i) : tb x i = false := by
  unfold tb
  have : x.testBit i.toNat = false := Nat.testBit_lt_two_pow (Nat.lt_of_lt_of_le hx (by
    have : (18446744073709551616 : Nat) = 2 ^ 64 := by decide
    rw [this]; exact Nat.pow_le_pow_right (by decide) (by omega)))
  simp [this]

theorem testBit_div (x i : Nat) : x / 2 ^ i % 2 = if x.testBit i then 1 else 0 := by
  rw [Nat.testBit_eq_decide_div_mod_eq]
  have : x / 2 ^ i % 2 < 2 := Nat.mod_lt _ (by decide)
  split <;> simp_all

theorem mod_succ_t (y k : Nat) (h : y.testBit k = true) : y % 2 ^ (k + 1) = y % 2 ^ k + 2 ^ k := by
  rw [Nat.mod_pow_succ, testBit_div, h]; simp
theorem mod_succ_f (y k : Nat) (h : y.testBit k = false) : y % 2 ^ (k + 1) = y % 2 ^ k := by
  rw [Nat.mod_pow_succ, testBit_div, h]; simp

theorem or_pow (a k : Nat) (h : a < 2 ^ k) : a ||| 2 ^ k = a + 2 ^ k := by
  have := Nat.two_pow_add_eq_or_of_lt h 1
  rw [Nat.mul_one] at this
  rw [Nat.or_comm, ← this, Nat.add_comm]

theorem pow_lt_u64 (k : Nat) (h : k < 64) : 2 ^ k < 18446744073709551616 := by
  have : (18446744073709551616 : Nat) = 2 ^ 64 := by decide
  rw [this]; exact Nat.pow_lt_pow_right (by decide) h
theorem pow_lt_u32 (k : Nat) (h : k < 32) : 2 ^ k < 4294967296 := by
  have : (4294967296 : Nat) = 2 ^ 32 := by decide
  rw [this]; exact Nat.pow_lt_pow_right (by decide) h
theorem mod_lt_u64 (y k : Nat) (h : k ≤ 64) : y % 2 ^ k < 18446744073709551616 := by
  have : (18446744073709551616 : Nat) = 2 ^ 64 := by decide
  rw [this]; exact Nat.lt_of_lt_of_le (Nat.mod_lt _ (Nat.two_pow_pos k)) (Nat.pow_le_pow_right (by decide) h)
theorem mod64 (y : Nat) (h : y < 18446744073709551616) : y % 2 ^ 64 = y := Nat.mod_eq_of_lt (by omega)

theorem wrapU64 (n : Nat) (h : n < 18446744073709551616) : IntKind.u64.wrap (n : Int) = n := by
  rw [IntKind.wrap_u64]; omega
theorem wrapU32 (n : Nat) (h : n < 4294967296) : IntKind.u32.wrap (n : Int) = n := by
  rw [IntKind.wrap_u32']; omega

/-- the lowest bits of a number: what a loop that lays bit by bit has laid behind k rounds -/
def lowN (y k : Nat) : Nat := y % 2 ^ k
theorem lowN_zero (y : Nat) : lowN y 0 = 0 := by simp [lowN, Nat.mod_one]
theorem lowN_full (y : Nat) (h : y < 18446744073709551616) : lowN y 64 = y := mod64 y h
theorem lowN_lt (y k : Nat) (h : k ≤ 64) : lowN y k < 18446744073709551616 := mod_lt_u64 y k h
theorem lowN_bit (y k j : Nat) : (lowN y k).testBit j = (decide (j < k) && y.testBit j) := Nat.testBit_mod_two_pow y k j
theorem pow64_int (k : Nat) (h : k < 64) : ((2 : Int) ^ k % 18446744073709551616) = ((2 ^ k : Nat) : Int) := by
  have := pow_lt_u64 k h
  have e : ((2 ^ k : Nat) : Int) = (2 : Int) ^ k := by simp
  rw [← e]; generalize 2 ^ k = n at *; omega
theorem pow32_int (k : Nat) (h : k < 32) : ((2 : Int) ^ k % 4294967296) = ((2 ^ k : Nat) : Int) := by
  have := pow_lt_u32 k h
  have e : ((2 ^ k : Nat) : Int) = (2 : Int) ^ k := by simp
  rw [← e]; generalize 2 ^ k = n at *; omega
/-- one round of a loop that lays bit by bit -/
theorem or_step (y k : Nat) (h : y.testBit k = true) (hk : k < 64) :
    bits .or .u64 (lowN y k : Int) ((2 : Int) ^ k % 18446744073709551616) = (lowN y (k + 1) : Int) := by
  rw [pow64_int k hk, u64_or_nat _ _ (lowN_lt _ _ (by omega)) (pow_lt_u64 k hk)]
  unfold lowN
  rw [or_pow _ _ (Nat.mod_lt _ (Nat.two_pow_pos k)), mod_succ_t y k h]
theorem lowN_no (y k : Nat) (h : y.testBit k = false) : lowN y (k + 1) = lowN y k := mod_succ_f y k h

def orTo (f : Nat → Bool) (p : Nat → Nat) : Nat → Nat
  | 0 => 0
  | k + 1 => if f k then orTo f p k ||| 2 ^ p k else orTo f p k

theorem orTo_lt (f : Nat → Bool) (p : Nat → Nat) (n : Nat) (hp : ∀ i, p i < n) (k : Nat) : orTo f p k < 2 ^ n := by
  induction k with
  | zero => exact Nat.two_pow_pos n
  | succ k ih =>
    unfold orTo; split
    · exact Nat.or_lt_two_pow ih (Nat.pow_lt_pow_right (by decide) (hp k))
    · exact ih

theorem orTo_bit (f : Nat → Bool) (p : Nat → Nat) (k j : Nat) : (orTo f p k).testBit j = true ↔ ∃ i, i < k ∧ f i = true ∧ p i = j := by
  induction k with
  | zero => simp [orTo]
  | succ k ih =>
    unfold orTo
    by_cases hf : f k = true
    · rw [if_pos hf, Nat.testBit_or, Bool.or_eq_true, ih, Nat.testBit_two_pow, decide_eq_true_iff]
      constructor
      · rintro (⟨i, h1, h2, h3⟩ | h)
        · exact ⟨i, by omega, h2, h3⟩
        · exact ⟨k, by omega, hf, h⟩
      · rintro ⟨i, h1, h2, h3⟩
        by_cases e : i = k
        · subst e; exact .inr h3
        · exact .inl ⟨i, by omega, h2, h3⟩
    · rw [if_neg hf, ih]
      constructor
      · rintro ⟨i, h1, h2, h3⟩; exact ⟨i, by omega, h2, h3⟩
      · rintro ⟨i, h1, h2, h3⟩
        have : i ≠ k := by rintro rfl; exact hf h2
        exact ⟨i, by omega, h2, h3⟩

theorem or32_step (f : Nat → Bool) (p : Nat → Nat) (hp : ∀ i, p i < 32) (k : Nat) (h : f k = true) :
    bits .or .u32 (orTo f p k : Int) ((2 : Int) ^ (p k) % 4294967296) = (orTo f p (k + 1) : Int) := by
  rw [pow32_int _ (hp k), u32_or_nat _ _ (orTo_lt f p 32 hp k) (pow_lt_u32 _ (hp k))]
  conv => rhs; unfold orTo
  rw [if_pos h]
theorem orTo_no (f : Nat → Bool) (p : Nat → Nat) (k : Nat) (h : f k = false) : orTo f p (k + 1) = orTo f p k := by
  conv => lhs; unfold orTo
  simp [h]

/-- a word turned to the left by s, below 32 -/
def turnN (x s : Nat) : Nat := x * 2 ^ s % 2 ^ 32 ||| x / 2 ^ (32 - s)

theorem lt32_bit (x j : Nat) (hx : x < 4294967296) (hj : 32 ≤ j) : x.testBit j = false :=
  Nat.testBit_lt_two_pow (Nat.lt_of_lt_of_le hx (by
    have : (4294967296 : Nat) = 2 ^ 32 := by decide
    rw [this]; exact Nat.pow_le_pow_right (by decide) hj))
theorem lt64_bit (x j : Nat) (hx : x < 18446744073709551616) (hj : 64 ≤ j) : x.testBit j = false :=
  Nat.testBit_lt_two_pow (Nat.lt_of_lt_of_le hx (by
    have : (18446744073709551616 : Nat) = 2 ^ 64 := by decide
    rw [this]; exact Nat.pow_le_pow_right (by decide) hj))

theorem turnN_bit (x s j : Nat) : (turnN x s).testBit j = ((decide (j < 32) && (decide (s ≤ j) && x.testBit (j - s))) || x.testBit (j + (32 - s))) := by
  unfold turnN
  rw [Nat.testBit_or, Nat.testBit_mod_two_pow, Nat.testBit_mul_two_pow, Nat.testBit_div_two_pow, Nat.add_comm j]

theorem turnN_lt (x s : Nat) (hx : x < 4294967296) : turnN x s < 4294967296 := by
  unfold turnN
  exact Nat.or_lt_two_pow (n := 32) (Nat.mod_lt _ (Nat.two_pow_pos 32)) (Nat.lt_of_le_of_lt (Nat.div_le_self _ _) hx)

theorem orTo_turn (x s : Nat) (hx : x < 4294967296) (hs : s < 32) : orTo (fun i => x.testBit i) (fun i => (i + s) % 32) 32 = turnN x s := by
  apply Nat.eq_of_testBit_eq
  intro j
  rw [Bool.eq_iff_iff, orTo_bit, turnN_bit]
  by_cases hj : j < 32
  · by_cases h : s ≤ j
    · rw [lt32_bit x (j + (32 - s)) hx (by omega)]
      simp [hj, h]
      constructor
      · rintro ⟨i, h1, h2, h3⟩
        have : i = j - s := by omega
        rw [← this]; exact h2
      · intro h2; exact ⟨j - s, by omega, h2, by omega⟩
    · simp [h]
      constructor
      · rintro ⟨i, h1, h2, h3⟩
        have : i = j + (32 - s) := by omega
        rw [← this]; exact h2
      · intro h2; exact ⟨j + (32 - s), by omega, h2, by omega⟩
  · rw [lt32_bit x (j + (32 - s)) hx (by omega)]
    simp [hj]
    intro i h1 h2 h3
    omega

theorem turnN_back (x s t : Nat) (hx : x < 4294967296) (hs : s < 32) (ht : t < 32) (h : (s + t) % 32 = 0) : turnN (turnN x s) t = x := by
  apply Nat.eq_of_testBit_eq
  intro j
  rw [turnN_bit, turnN_bit, turnN_bit]
  by_cases hj : j < 32
  · by_cases e : s = 0
    · subst e
      have e2 : t = 0 := by omega
      subst e2
      simp [hj, lt32_bit x (j + 32) hx (by omega), lt32_bit x (j + 32 + 32) hx (by omega)]
    · have e2 : t = 32 - s := by omega
      subst e2
      by_cases h1 : 32 - s ≤ j
      · have a1 : ¬ (s ≤ j - (32 - s)) := by omega
        have a2 : j - (32 - s) + (32 - s) = j := by omega
        have a3 : ¬ (j + (32 - (32 - s)) < 32) := by omega
        have a4 : j - (32 - s) < 32 := by omega
        simp [hj, h1, a1, a2, a3, a4, lt32_bit x (j + (32 - (32 - s)) + (32 - s)) hx (by omega)]
      · have a3 : j + (32 - (32 - s)) < 32 := by omega
        have a4 : s ≤ j + (32 - (32 - s)) := by omega
        have a5 : j + (32 - (32 - s)) - s = j := by omega
        have a6 : x.testBit (j + (32 - (32 - s)) + (32 - s)) = false := lt32_bit x _ hx (by omega)
        simp [h1, a3, a4, a5, a6]
  · have a1 : ¬ (j + (32 - t) < 32) := by omega
    simp [hj, a1, lt32_bit x (j + (32 - t) + (32 - s)) hx (by omega), lt32_bit x j hx (by omega)]

/-- a word shifted: to the left, or to the right below 0 -/
def shiftN (x : Nat) (i : Int) : Nat := if i < 0 then x / 2 ^ (-i).toNat else x * 2 ^ i.toNat % 2 ^ 64

theorem shiftN_lt (x : Nat) (i : Int) (hx : x < 18446744073709551616) : shiftN x i < 18446744073709551616 := by
  unfold shiftN; split
  · exact Nat.lt_of_le_of_lt (Nat.div_le_self _ _) hx
  · exact Nat.mod_lt _ (by decide)

theorem shiftN_bit (x : Nat) (i : Int) (j : Nat) (hj : j < 64) : (shiftN x i).testBit j = tb x ((j : Int) - i) := by
  unfold shiftN; split
  · rw [Nat.testBit_div_two_pow]
    have : (j : Int) - i = ((j + (-i).toNat : Nat) : Int) := by omega
    rw [this, tb_nat, Nat.add_comm]
  · rw [Nat.testBit_mod_two_pow, Nat.testBit_mul_two_pow]
    by_cases h : i.toNat ≤ j
    · have : (j : Int) - i = ((j - i.toNat : Nat) : Int) := by omega
      rw [this, tb_nat]; simp [hj, h]
    · rw [tb_neg x _ (by omega)]; simp [h]

theorem pow_ge_u64 (k : Nat) (h : 64 ≤ k) : 18446744073709551616 ≤ 2 ^ k := by
  have : (18446744073709551616 : Nat) = 2 ^ 64 := by decide
  rw [this]; exact Nat.pow_le_pow_right (by decide) h

theorem shiftN_big (x : Nat) (i : Int) (hx : x < 18446744073709551616) (h : i ≤ -64 ∨ 64 ≤ i) : shiftN x i = 0 := by
  apply Nat.eq_of_testBit_eq
  intro j
  by_cases hj : j < 64
  · rw [shiftN_bit x i j hj, Nat.zero_testBit]
    rcases h with h | h
    · exact tb_big x _ hx (by omega)
    · exact tb_neg x _ (by omega)
  · rw [lt64_bit _ j (shiftN_lt x i hx) (by omega), Nat.zero_testBit]

end Go.Proofs.Ytdhbjcnbdfidcaa

namespace Go.Proofs.Ytdhbjcnbdfidcaa

/-- a turned word, by its upper and its lower part -/
theorem turnN_parts (x s L : Nat) (hs : s ≤ 32) (hL : L = 2 ^ (32 - s)) (hx : x < 4294967296) : turnN x s = 2 ^ s * (x % L) + x / L := by
  have hM : (2 : Nat) ^ 32 = L * 2 ^ s := by rw [hL, ← Nat.pow_add]; congr 1; omega
  unfold turnN
  rw [hM, Nat.mul_mod_mul_right, ← hL, Nat.mul_comm (x % L), Nat.two_pow_add_eq_or_of_lt]
  rw [Nat.div_lt_iff_lt_mul (by rw [hL]; exact Nat.two_pow_pos _), Nat.mul_comm, ← hM]
  exact hx

theorem turnN_zero (x : Nat) (hx : x < 4294967296) : turnN x 0 = x := by
  rw [turnN_parts x 0 4294967296 (by decide) (by decide) hx]; omega

/-- one bit more -/
theorem turn_step (x s : Nat) (hs : s < 32) (hx : x < 4294967296) :
    turnN x (s + 1) = if 2147483648 ≤ turnN x s then 2 * turnN x s % 4294967296 + 1 else 2 * turnN x s := by
  obtain ⟨t, ht⟩ : ∃ t, t + s = 31 := ⟨31 - s, by omega⟩
  have e1 : 32 - s = t + 1 := by omega
  have e2 : 32 - (s + 1) = t := by omega
  rw [turnN_parts x s (2 ^ (t + 1)) (by omega) (by rw [e1]) hx, turnN_parts x (s + 1) (2 ^ t) (by omega) (by rw [e2]) hx]
  have hKL : 2 ^ s * 2 ^ t = 2147483648 := by rw [← Nat.pow_add, Nat.add_comm s t, ht]
  have p1 : (2 : Nat) ^ (t + 1) = 2 * 2 ^ t := by rw [Nat.pow_succ, Nat.mul_comm]
  have p2 : (2 : Nat) ^ (s + 1) = 2 * 2 ^ s := by rw [Nat.pow_succ, Nat.mul_comm]
  rw [p1, p2]
  have hK : 0 < 2 ^ s := Nat.two_pow_pos s
  have hL : 0 < 2 ^ t := Nat.two_pow_pos t
  generalize 2 ^ s = K at *
  generalize 2 ^ t = L at *
  have d1 : x / (2 * L) = x / L / 2 := by rw [Nat.mul_comm 2 L, Nat.div_div_eq_div_mul]
  have m1 : x % (2 * L) = x % L + L * (x / L % 2) := by rw [Nat.mul_comm 2 L, Nat.mod_mul]
  have hl : x % L < L := Nat.mod_lt _ hL
  have hh : x / L / 2 < K := by
    rw [Nat.div_lt_iff_lt_mul (by decide), Nat.div_lt_iff_lt_mul hL]
    have : K * 2 * L = 2 * (K * L) := by rw [Nat.mul_assoc, Nat.mul_comm 2 L, ← Nat.mul_assoc, Nat.mul_comm]
    rw [this, hKL]; omega
  have hb : x / L = 2 * (x / L / 2) + x / L % 2 := by omega
  have hb2 : x / L % 2 < 2 := Nat.mod_lt _ (by decide)
  rw [d1, m1]
  generalize x % L = l at *
  generalize x / L / 2 = h at *
  generalize hq : x / L % 2 = b at *
  rw [hb]
  have hKl : K * l + K ≤ K * L := by
    have : K * (l + 1) ≤ K * L := Nat.mul_le_mul_left K hl
    rw [Nat.mul_add, Nat.mul_one] at this; exact this
  rw [hKL] at hKl
  have e3 : K * (l + L * b) = K * l + 2147483648 * b := by rw [Nat.mul_add, ← Nat.mul_assoc, hKL]
  have e4 : 2 * K * l = 2 * (K * l) := Nat.mul_assoc 2 K l
  rw [e3, e4]
  generalize K * l = m at *
  have hb3 : b = 0 ∨ b = 1 := by omega
  rcases hb3 with rfl | rfl
  · rw [if_neg (by omega)]; omega
  · rw [if_pos (by omega)]; omega

def add32 (a b : Nat) : Nat := (a + b) % 4294967296
def sub32 (a b : Nat) : Nat := (a + (4294967296 - b)) % 4294967296
theorem add32_lt (a b : Nat) : add32 a b < 4294967296 := Nat.mod_lt _ (by decide)
theorem sub32_lt (a b : Nat) : sub32 a b < 4294967296 := Nat.mod_lt _ (by decide)
theorem add32_int (a b : Nat) : ((a : Int) + (b : Int)) % 4294967296 = (add32 a b : Int) := by unfold add32; omega
theorem sub32_int (a b : Nat) (hb : b < 4294967296) : ((a : Int) - (b : Int)) % 4294967296 = (sub32 a b : Int) := by unfold sub32; omega
theorem sub_add (a b : Nat) (ha : a < 4294967296) (hb : b < 4294967296) : sub32 (add32 a b) b = a := by unfold sub32 add32; omega
theorem add_sub (a b : Nat) (ha : a < 4294967296) (hb : b < 4294967296) : add32 (sub32 a b) b = a := by unfold sub32 add32; omega
theorem xor_lt32 (a b : Nat) (ha : a < 4294967296) (hb : b < 4294967296) : a ^^^ b < 4294967296 := Nat.xor_lt_two_pow (n := 32) ha hb
theorem xor_xor (a b : Nat) : (a ^^^ b) ^^^ b = a := by rw [Nat.xor_assoc, Nat.xor_self, Nat.xor_zero]
theorem turn_xor_back (x y s t : Nat) (hx : x < 4294967296) (hy : y < 4294967296) (hs : s < 32) (ht : t < 32) (h : (s + t) % 32 = 0) : turnN (turnN (x ^^^ y) s) t ^^^ y = x := by
  rw [turnN_back _ s t (xor_lt32 x y hx hy) hs ht h, xor_xor]
theorem turn_back_xor (x y s t : Nat) (hx : x < 4294967296) (hs : s < 32) (ht : t < 32) (h : (s + t) % 32 = 0) : turnN ((turnN x s ^^^ y) ^^^ y) t = x := by
  rw [xor_xor, turnN_back _ s t hx hs ht h]


/-- four words -/
structure Q4 where
  a : Nat
  b : Nat
  c : Nat
  d : Nat
  deriving DecidableEq
def Q4.ok (q : Q4) : Prop := q.a < 4294967296 ∧ q.b < 4294967296 ∧ q.c < 4294967296 ∧ q.d < 4294967296

def half (q : Q4) (s t : Nat) : Q4 :=
  ⟨add32 q.a q.b, turnN (q.b ^^^ add32 q.c (turnN (q.d ^^^ add32 q.a q.b) s)) t, add32 q.c (turnN (q.d ^^^ add32 q.a q.b) s), turnN (q.d ^^^ add32 q.a q.b) s⟩
def unhalf (q : Q4) (s t : Nat) : Q4 :=
  ⟨sub32 q.a (turnN q.b t ^^^ q.c), turnN q.b t ^^^ q.c, sub32 q.c q.d, turnN q.d s ^^^ q.a⟩
def quarterN (q : Q4) : Q4 := half (half q 16 12) 8 7
def undoN (q : Q4) : Q4 := unhalf (unhalf q 24 25) 16 20

theorem half_ok (q : Q4) (s t : Nat) (h : q.ok) : (half q s t).ok := by
  obtain ⟨h1, h2, h3, h4⟩ := h
  refine ⟨add32_lt _ _, turnN_lt _ _ (xor_lt32 _ _ h2 (add32_lt _ _)), add32_lt _ _, turnN_lt _ _ (xor_lt32 _ _ h4 (add32_lt _ _))⟩
theorem unhalf_ok (q : Q4) (s t : Nat) (h : q.ok) : (unhalf q s t).ok := by
  obtain ⟨h1, h2, h3, h4⟩ := h
  exact ⟨sub32_lt _ _, xor_lt32 _ _ (turnN_lt _ _ h2) h3, sub32_lt _ _, xor_lt32 _ _ (turnN_lt _ _ h4) h1⟩
theorem quarter_ok (q : Q4) (h : q.ok) : (quarterN q).ok := half_ok _ _ _ (half_ok _ _ _ h)
theorem undo_ok (q : Q4) (h : q.ok) : (undoN q).ok := unhalf_ok _ _ _ (unhalf_ok _ _ _ h)

theorem unhalf_half (q : Q4) (s t s' t' : Nat) (h : q.ok) (hs : s < 32) (hs' : s' < 32) (ht : t < 32) (ht' : t' < 32) (e1 : (s + s') % 32 = 0) (e2 : (t + t') % 32 = 0) :
    unhalf (half q s t) s' t' = q := by
  obtain ⟨h1, h2, h3, h4⟩ := h
  obtain ⟨a, b, c, d⟩ := q
  simp only [half, unhalf] at *
  have x1 := add32_lt a b
  have x2 := turn_xor_back d (add32 a b) s s' h4 x1 hs hs' e1
  have x3 : turnN (d ^^^ add32 a b) s < 4294967296 := turnN_lt _ _ (xor_lt32 _ _ h4 x1)
  rw [x2, turn_xor_back b _ t t' h2 (add32_lt _ _) ht ht' e2, sub_add a b h1 h2, sub_add c _ h3 x3]
theorem half_unhalf (q : Q4) (s t s' t' : Nat) (h : q.ok) (hs : s < 32) (hs' : s' < 32) (ht : t < 32) (ht' : t' < 32) (e1 : (s + s') % 32 = 0) (e2 : (t + t') % 32 = 0) :
    half (unhalf q s' t') s t = q := by
  obtain ⟨h1, h2, h3, h4⟩ := h
  obtain ⟨a, b, c, d⟩ := q
  simp only [half, unhalf] at *
  have x1 : turnN b t' ^^^ c < 4294967296 := xor_lt32 _ _ (turnN_lt _ _ h2) h3
  rw [add_sub a _ h1 x1, turn_back_xor d a s' s h4 hs' hs (by omega), add_sub c d h3 h4, turn_back_xor b c t' t h2 ht' ht (by omega)]

theorem undo_quarter (q : Q4) (h : q.ok) : undoN (quarterN q) = q := by
  unfold undoN quarterN
  rw [unhalf_half _ 8 7 24 25 (half_ok _ _ _ h) (by decide) (by decide) (by decide) (by decide) (by decide) (by decide),
    unhalf_half _ 16 12 16 20 h (by decide) (by decide) (by decide) (by decide) (by decide) (by decide)]
theorem quarter_undo (q : Q4) (h : q.ok) : quarterN (undoN q) = q := by
  unfold undoN quarterN
  rw [half_unhalf _ 16 12 16 20 (unhalf_ok _ _ _ h) (by decide) (by decide) (by decide) (by decide) (by decide) (by decide),
    half_unhalf _ 8 7 24 25 h (by decide) (by decide) (by decide) (by decide) (by decide) (by decide)]
theorem quarter_known : quarterN ⟨286331153, 16909060, 2609737539, 19088743⟩ = ⟨3928658676, 3407673550, 1166100270, 1484899515⟩ := by decide +kernel
theorem quarter_zero : quarterN ⟨0, 0, 0, 0⟩ = ⟨0, 0, 0, 0⟩ := by decide +kernel

end Go.Proofs.Ytdhbjcnbdfidcaa

namespace Go.Proofs.Ytdhbjcnbdfidcaa
open Go.RowKit

theorem ret_int {k : IntKind} {a b : Int} (h : a = b) : Ending.returned (.int k a) = .returned (.int k b) := by rw [h]

theorem ret_int2 {k : IntKind} {a b : Int} {v : Value} (h : a = b) : Ending.returned (.tuple #[.int k a, v]) = .returned (.tuple #[.int k b, v]) := by rw [h]

theorem and31 (i : Int) : bits .and .u64 (IntKind.u64.wrap i) 31 = ((i % 32).toNat : Int) := by
  have h1 := IntKind.wrap_u64 i
  obtain ⟨n, hn⟩ := Int.eq_ofNat_of_zero_le (a := IntKind.u64.wrap i) (by omega)
  have h2 : n < 18446744073709551616 := by omega
  have h3 : (n : Int) % 32 = i % 32 := by omega
  rw [hn]
  have := u64_and_nat n 31 h2 (by decide)
  rw [show ((31 : Nat) : Int) = (31 : Int) from rfl] at this
  show bits .and .u64 (n : Int) 31 = _
  rw [this, nat_mask5, ← h3]; omega

theorem turn_val (x s : Nat) (hx : x < 4294967296) :
    bits .or .u32 ((x : Int) * 2 ^ s % 4294967296) ((x : Int) / 2 ^ (32 - s)) = (turnN x s : Int) := by
  have e1 : ((x : Int) * 2 ^ s % 4294967296) = ((x * 2 ^ s % 2 ^ 32 : Nat) : Int) := by simp
  have e2 : ((x : Int) / 2 ^ (32 - s)) = ((x / 2 ^ (32 - s) : Nat) : Int) := by simp
  rw [e1, e2, u32_or_nat _ _ (Nat.mod_lt _ (by decide)) (Nat.lt_of_le_of_lt (Nat.div_le_self _ _) hx)]
  rfl

theorem top_yes (x s y : Nat) (hs : s < 32) (hx : x < 4294967296) (hy : turnN x s = y) (h : 2147483648 ≤ y) : (y : Int) * 2 % 4294967296 + 1 = (turnN x (s + 1) : Int) := by
  have e := turn_step x s hs hx
  have l := turnN_lt x s hx
  rw [hy] at e l
  rw [if_pos h] at e
  rw [e]; omega
theorem top_no (x s y : Nat) (hs : s < 32) (hx : x < 4294967296) (hy : turnN x s = y) (h : ¬ 2147483648 ≤ y) : (y : Int) * 2 = (turnN x (s + 1) : Int) := by
  have e := turn_step x s hs hx
  rw [hy] at e
  rw [if_neg h] at e
  rw [e]; omega

end Go.Proofs.Ytdhbjcnbdfidcaa

namespace Go.Proofs.Ytdhbjcnbdfidcaa

theorem min64_pow_div (x n : Nat) (hx : x < 18446744073709551616) : x / 2 ^ min n 64 = x / 2 ^ n := by
  by_cases h : n ≤ 64
  · rw [Nat.min_eq_left h]
  · rw [Nat.min_eq_right (by omega), Nat.div_eq_of_lt (by omega), Nat.div_eq_of_lt (Nat.lt_of_lt_of_le hx (pow_ge_u64 n (by omega)))]

theorem shr_val (x : Nat) (i : Int) (hx : x < 18446744073709551616) (h : i < 0) : (x : Int) / 2 ^ min (-i).toNat 64 = (shiftN x i : Int) := by
  unfold shiftN
  rw [if_pos h, ← min64_pow_div x _ hx]
  simp

theorem mod_mul_pow (x n : Nat) : x * 2 ^ min n 64 % 2 ^ 64 = x * 2 ^ n % 2 ^ 64 := by
  by_cases h : n ≤ 64
  · rw [Nat.min_eq_left h]
  · rw [Nat.min_eq_right (by omega)]
    have : n = 64 + (n - 64) := by omega
    rw [this, Nat.pow_add, ← Nat.mul_assoc, Nat.mul_mod_left, Nat.mul_right_comm, Nat.mul_mod_left]

theorem shl_val (x : Nat) (i : Int) (h : 0 ≤ i) : IntKind.u64.wrap ((x : Int) * 2 ^ min i.toNat 64) = (shiftN x i : Int) := by
  unfold shiftN
  rw [if_neg (by omega), IntKind.wrap_u64, ← mod_mul_pow]
  simp

/-- a number with a sign shifted: to the left, or to the right below 0 -/
def leanZ (x i : Int) : Int := if i < 0 then x / 2 ^ min (-i).toNat 64 else IntKind.i64.wrap (x * 2 ^ min i.toNat 64)

theorem wrapI64 (a : Int) : IntKind.i64.wrap a = if a % 18446744073709551616 ≥ 9223372036854775808 then a % 18446744073709551616 - 18446744073709551616 else a % 18446744073709551616 := by
  simp [IntKind.wrap, IntKind.bits, IntKind.signed]
theorem wrapI64_congr (a b : Int) (h : a % 18446744073709551616 = b % 18446744073709551616) : IntKind.i64.wrap a = IntKind.i64.wrap b := by
  rw [wrapI64, wrapI64, h]
theorem wrapI64_id (a : Int) (h1 : -9223372036854775808 ≤ a) (h2 : a < 9223372036854775808) : IntKind.i64.wrap a = a := by
  rw [wrapI64]; split <;> omega

/-- to the left: the same whether the sign is kept or not -/
theorem lean_left (x i : Int) (u : Nat) (hu : IntKind.u64.wrap x = u) (h : 0 ≤ i) : IntKind.i64.wrap (shiftN u i : Int) = leanZ x i := by
  unfold leanZ
  rw [if_neg (by omega)]
  apply wrapI64_congr
  rw [← shl_val u i h, IntKind.wrap_u64, ← hu, IntKind.wrap_u64]
  rw [Int.emod_emod_of_dvd _ (Int.dvd_refl _), Int.mul_emod, Int.emod_emod_of_dvd _ (Int.dvd_refl _), ← Int.mul_emod]

theorem lean_big (x i : Int) (h : 64 ≤ i) : leanZ x i = 0 := by
  unfold leanZ
  rw [if_neg (by omega), Nat.min_eq_right (by omega), wrapI64]
  have : x * 2 ^ 64 % 18446744073709551616 = 0 := by omega
  rw [this]; rfl

/-- to the right, of what is not below 0 -/
theorem lean_right (x i : Int) (u : Nat) (hu : IntKind.u64.wrap x = u) (h0 : 0 ≤ x) (h1 : x < 9223372036854775808) (h : i < 0) :
    IntKind.i64.wrap (shiftN u i : Int) = leanZ x i := by
  have e : (u : Int) = x := by rw [← hu, IntKind.wrap_u64]; omega
  have hu2 : u < 18446744073709551616 := by omega
  unfold leanZ
  rw [if_pos h, ← shr_val u i hu2 h, e]
  apply wrapI64_id
  · have : (0 : Int) ≤ x / 2 ^ min (-i).toNat 64 := Int.ediv_nonneg h0 (Int.pow_nonneg (by decide))
    omega
  · have : x / 2 ^ min (-i).toNat 64 ≤ x := Int.ediv_le_self _ h0
    omega

theorem small_div (x : Int) (n : Nat) (h1 : -9223372036854775808 ≤ x) (h2 : x < 9223372036854775808) (hn : 63 ≤ n) : x / 2 ^ n = x / 2 ^ 63 := by
  have hp : (9223372036854775808 : Int) ≤ 2 ^ n := by
    have : (2 : Int) ^ n = 2 ^ 63 * 2 ^ (n - 63) := by rw [← Int.pow_add]; congr 1; omega
    rw [this]
    have : (1 : Int) ≤ 2 ^ (n - 63) := Int.pow_pos (by decide)
    omega
  generalize (2 : Int) ^ n = p at *
  by_cases hx : 0 ≤ x
  · rw [Int.ediv_eq_zero_of_lt hx (by omega), Int.ediv_eq_zero_of_lt hx (by omega)]
  · have e1 : x / p = -1 := by
      rw [Int.ediv_eq_iff_of_pos (by omega)]; omega
    rw [e1]; omega

theorem lean_far (x i : Int) (h1 : -9223372036854775808 ≤ x) (h2 : x < 9223372036854775808) (h : i ≤ -64) : leanZ x i = leanZ x (-63) := by
  unfold leanZ
  rw [if_pos (by omega), if_pos (by omega), small_div x _ h1 h2 (by omega), small_div x (min (- -63 : Int).toNat 64) h1 h2 (by decide)]

def fillN (u n k : Nat) : Nat := u / 2 ^ n + (2 ^ k - 2 ^ (64 - n))

theorem div_lt_pow (u n : Nat) (hu : u < 18446744073709551616) (hn : n ≤ 64) : u / 2 ^ n < 2 ^ (64 - n) := by
  apply Nat.div_lt_of_lt_mul
  rw [← Nat.pow_add]
  have : n + (64 - n) = 64 := by omega
  rw [this]; exact hu

theorem fill_start (u n : Nat) : fillN u n (64 - n) = u / 2 ^ n := by simp [fillN]
theorem fill_step (u n k : Nat) (hu : u < 18446744073709551616) (hn : n ≤ 64) (h : 64 - n ≤ k) (hk : k < 64) :
    bits .or .u64 (fillN u n k : Int) ((2 : Int) ^ k % 18446744073709551616) = (fillN u n (k + 1) : Int) := by
  have a := div_lt_pow u n hu hn
  have b : 2 ^ (64 - n) ≤ 2 ^ k := Nat.pow_le_pow_right (by decide) h
  have c := pow_lt_u64 k hk
  have d : 2 ^ (k + 1) = 2 ^ k * 2 := Nat.pow_succ 2 k
  have e : fillN u n k < 2 ^ k := by
    unfold fillN
    generalize u / 2 ^ n = q at *; generalize 2 ^ (64 - n) = r at *; generalize 2 ^ k = s at *; omega
  rw [pow64_int k hk, u64_or_nat _ _ (Nat.lt_trans e c) c, or_pow _ _ e]
  unfold fillN
  rw [d]
  generalize u / 2 ^ n = q at *; generalize 2 ^ (64 - n) = r at *; generalize 2 ^ k = s at *; omega

theorem fill_end (x : Int) (u n : Nat) (hu : IntKind.u64.wrap x = u) (h0 : x < 0) (h1 : -9223372036854775808 ≤ x) (hn : 1 ≤ n) (hn2 : n ≤ 63) :
    IntKind.i64.wrap (fillN u n 64 : Int) = leanZ x (-(n : Int)) := by
  have e : (u : Int) = x + 18446744073709551616 := by rw [← hu, IntKind.wrap_u64]; omega
  have hu2 : u < 18446744073709551616 := by omega
  have a := div_lt_pow u n hu2 (by omega)
  have b : 2 ^ (64 - n) ≤ 2 ^ 63 := Nat.pow_le_pow_right (by decide) (by omega)
  have c : 2 ^ (63 - n) ≤ u / 2 ^ n := by
    rw [Nat.le_div_iff_mul_le (Nat.two_pow_pos n), ← Nat.pow_add]
    have : 63 - n + n = 63 := by omega
    rw [this]; omega
  have d : 2 ^ (64 - n) = 2 ^ (63 - n) * 2 := by rw [← Nat.pow_succ]; congr 1; omega
  have q : x / 2 ^ n = ((u / 2 ^ n : Nat) : Int) - ((2 ^ (64 - n) : Nat) : Int) := by
    have f : x = (u : Int) + 2 ^ n * (-((2 ^ (64 - n) : Nat) : Int)) := by
      have g : (2 : Int) ^ n * ((2 ^ (64 - n) : Nat) : Int) = 18446744073709551616 := by
        have : ((2 : Int) ^ n * ((2 ^ (64 - n) : Nat) : Int)) = ((2 ^ n * 2 ^ (64 - n) : Nat) : Int) := by simp
        rw [this, ← Nat.pow_add]
        have : n + (64 - n) = 64 := by omega
        rw [this]; rfl
      rw [Int.mul_neg, g]; omega
    rw [f, Int.add_mul_ediv_left _ _ (by have : (0 : Int) < 2 ^ n := Int.pow_pos (by decide); omega)]
    simp; omega
  unfold leanZ
  rw [if_pos (by omega)]
  have : min (- -(n : Int)).toNat 64 = n := by omega
  rw [this, q, wrapI64]
  unfold fillN
  have p64 : (2 : Nat) ^ 64 = 18446744073709551616 := by decide
  have p63 : (2 : Nat) ^ 63 = 9223372036854775808 := by decide
  rw [p64]; rw [p63] at b
  generalize u / 2 ^ n = q at *; generalize 2 ^ (64 - n) = r at *; generalize 2 ^ (63 - n) = r' at *
  split <;> omega

/-- the lowest b bits as a number with a sign -/
def extZ (x b : Nat) : Int := if x.testBit (b - 1) then ((x % 2 ^ b : Nat) : Int) - ((2 ^ b : Nat) : Int) else ((x % 2 ^ b : Nat) : Int)
/-- the same, as its 64 bits -/
def extN (x b : Nat) : Nat := if x.testBit (b - 1) then 2 ^ b * (2 ^ (64 - b) - 1) + x % 2 ^ b else x % 2 ^ b

theorem pow_split (b : Nat) (h2 : b ≤ 64) : 2 ^ b * 2 ^ (64 - b) = 18446744073709551616 := by
  rw [← Nat.pow_add]
  have : b + (64 - b) = 64 := by omega
  rw [this]
theorem half_split (b : Nat) (h1 : 1 ≤ b) : 2 ^ b = 2 ^ (b - 1) * 2 := by
  rw [← Nat.pow_succ]; congr 1; omega
theorem low_half_t (x b : Nat) (h1 : 1 ≤ b) (h : x.testBit (b - 1) = true) : 2 ^ (b - 1) ≤ x % 2 ^ b := by
  have := mod_succ_t x (b - 1) h
  have e : b - 1 + 1 = b := by omega
  rw [e] at this; rw [this]; exact Nat.le_add_left _ _
theorem low_half_f (x b : Nat) (h1 : 1 ≤ b) (h : x.testBit (b - 1) = false) : x % 2 ^ b < 2 ^ (b - 1) := by
  have := mod_succ_f x (b - 1) h
  have e : b - 1 + 1 = b := by omega
  rw [e] at this; rw [this]; exact Nat.mod_lt _ (Nat.two_pow_pos _)

theorem extN_bit (x b j : Nat) (h1 : 1 ≤ b) (h2 : b ≤ 64) (hj : j < 64) : (extN x b).testBit j = if b ≤ j then x.testBit (b - 1) else x.testBit j := by
  unfold extN
  by_cases h : x.testBit (b - 1) = true
  · rw [if_pos h, Nat.testBit_two_pow_mul_add _ (Nat.mod_lt _ (Nat.two_pow_pos b)), Nat.testBit_two_pow_sub_one, Nat.testBit_mod_two_pow]
    by_cases hb : b ≤ j
    · rw [if_neg (by omega), if_pos hb, h, decide_eq_true_iff]; omega
    · rw [if_pos (by omega), if_neg hb]; simp; intro _; omega
  · rw [if_neg h, Nat.testBit_mod_two_pow]
    by_cases hb : b ≤ j
    · rw [if_pos hb]; simp at h; rw [h]; simp; omega
    · rw [if_neg hb]; simp; intro _; omega

theorem extN_lt (x b : Nat) (h2 : b ≤ 64) : extN x b < 18446744073709551616 := by
  have a := pow_split b h2
  have c : x % 2 ^ b < 2 ^ b := Nat.mod_lt _ (Nat.two_pow_pos b)
  have d : 2 ^ b ≤ 18446744073709551616 := by
    have : (18446744073709551616 : Nat) = 2 ^ 64 := by decide
    rw [this]; exact Nat.pow_le_pow_right (by decide) h2
  unfold extN
  split
  · rw [Nat.mul_sub, a, Nat.mul_one]
    generalize 2 ^ b = q at *; generalize x % q = m at *; omega
  · omega

theorem extN_wrap (x b : Nat) (h1 : 1 ≤ b) (h2 : b ≤ 64) : IntKind.i64.wrap (extN x b : Int) = extZ x b := by
  have a := pow_split b h2
  have c : x % 2 ^ b < 2 ^ b := Nat.mod_lt _ (Nat.two_pow_pos b)
  have hh := half_split b h1
  have d : 2 ^ b ≤ 18446744073709551616 := by
    have : (18446744073709551616 : Nat) = 2 ^ 64 := by decide
    rw [this]; exact Nat.pow_le_pow_right (by decide) h2
  rw [wrapI64]
  unfold extN extZ
  by_cases h : x.testBit (b - 1) = true
  · have g := low_half_t x b h1 h
    rw [if_pos h, if_pos h, Nat.mul_sub, a, Nat.mul_one]
    generalize x % 2 ^ b = m at *; generalize 2 ^ b = q at *; generalize 2 ^ (b - 1) = p at *
    split <;> omega
  · have g := low_half_f x b h1 (by simpa using h)
    rw [if_neg h, if_neg h]
    generalize x % 2 ^ b = m at *; generalize 2 ^ b = q at *; generalize 2 ^ (b - 1) = p at *
    split <;> omega

theorem ext_val (x b : Nat) (h1 : 1 ≤ b) (h2 : b ≤ 64) : IntKind.i64.wrap (IntKind.u64.wrap ((x : Int) * 2 ^ (64 - b))) / 2 ^ (64 - b) = extZ x b := by
  have a := pow_split b h2
  have e1 : IntKind.u64.wrap ((x : Int) * 2 ^ (64 - b)) = ((x % 2 ^ b * 2 ^ (64 - b) : Nat) : Int) := by
    have : ((x : Int) * 2 ^ (64 - b)) = ((x * 2 ^ (64 - b) : Nat) : Int) := by simp
    rw [this, IntKind.wrap_u64, ← Nat.mul_mod_mul_right, a]; rfl
  have p1 : ((2 : Int) ^ (64 - b)) = ((2 ^ (64 - b) : Nat) : Int) := by simp
  have pp : 0 < 2 ^ (64 - b) := Nat.two_pow_pos _
  have hh := half_split b h1
  have c : x % 2 ^ b < 2 ^ b := Nat.mod_lt _ (Nat.two_pow_pos b)
  have q1 : x % 2 ^ b * 2 ^ (64 - b) < 18446744073709551616 := by
    rw [← a]; exact Nat.mul_lt_mul_of_pos_right c pp
  have q2 : 2 ^ (b - 1) * 2 ^ (64 - b) = 9223372036854775808 := by
    rw [← Nat.pow_add]
    have : b - 1 + (64 - b) = 63 := by omega
    rw [this]
  rw [e1, wrapI64, p1]
  unfold extZ
  by_cases h : x.testBit (b - 1) = true
  · have g := low_half_t x b h1 h
    have g2 : 9223372036854775808 ≤ x % 2 ^ b * 2 ^ (64 - b) := by rw [← q2]; exact Nat.mul_le_mul_right _ g
    rw [if_pos h, if_pos (by omega)]
    have e2 : (((x % 2 ^ b * 2 ^ (64 - b) : Nat) : Int) % 18446744073709551616 - 18446744073709551616) = (((x % 2 ^ b : Nat) : Int) - ((2 ^ b : Nat) : Int)) * ((2 ^ (64 - b) : Nat) : Int) := by
      rw [Int.sub_mul, ← Int.natCast_mul, ← Int.natCast_mul, a]; omega
    rw [e2, Int.mul_ediv_cancel _ (by omega)]
  · have g := low_half_f x b h1 (by simpa using h)
    have g2 : x % 2 ^ b * 2 ^ (64 - b) < 9223372036854775808 := by rw [← q2]; exact Nat.mul_lt_mul_of_pos_right g pp
    rw [if_neg h, if_neg (by omega)]
    have e2 : (((x % 2 ^ b * 2 ^ (64 - b) : Nat) : Int) % 18446744073709551616) = ((x % 2 ^ b : Nat) : Int) * ((2 ^ (64 - b) : Nat) : Int) := by
      rw [← Int.natCast_mul]; omega
    rw [e2, Int.mul_ediv_cancel _ (by omega)]

/-- b bits that are 1 -/
def onesN (b : Nat) : Nat := 2 ^ b - 1
theorem onesN_lt (b : Nat) (h2 : b ≤ 64) : onesN b < 18446744073709551616 := by
  have d : 2 ^ b ≤ 18446744073709551616 := by
    have : (18446744073709551616 : Nat) = 2 ^ 64 := by decide
    rw [this]; exact Nat.pow_le_pow_right (by decide) h2
  have := Nat.two_pow_pos b
  unfold onesN; omega
theorem ones_val (b : Nat) (h2 : b ≤ 64) : (18446744073709551615 : Int) / 2 ^ (64 - b) = (onesN b : Int) := by
  have a := pow_split b h2
  have pp : 0 < 2 ^ (64 - b) := Nat.two_pow_pos _
  have qq : 0 < 2 ^ b := Nat.two_pow_pos _
  have p1 : ((2 : Int) ^ (64 - b)) = ((2 ^ (64 - b) : Nat) : Int) := by simp
  rw [p1, show (18446744073709551615 : Int) = ((18446744073709551615 : Nat) : Int) from rfl, ← Int.natCast_ediv]
  congr 1
  unfold onesN
  rw [Nat.div_eq_iff pp]
  generalize 2 ^ (64 - b) = r at *
  rw [Nat.sub_mul, a]; omega
theorem and_ones (u b : Nat) (hu : u < 18446744073709551616) (h2 : b ≤ 64) : bits .and .u64 (u : Int) (onesN b : Int) = (lowN u b : Int) := by
  rw [u64_and_nat u (onesN b) hu (onesN_lt b h2)]
  unfold onesN lowN
  rw [Nat.and_two_pow_sub_one_eq_mod]

end Go.Proofs.Ytdhbjcnbdfidcaa

namespace Go.Proofs.Ytdhbjcnbdfidcaa

/-- how many of the lowest k bits are 1 -/
def onesTo (x : Nat) : Nat → Nat
  | 0 => 0
  | k + 1 => onesTo x k + if x.testBit k then 1 else 0
theorem onesTo_le (x k : Nat) : onesTo x k ≤ k := by
  induction k with
  | zero => exact Nat.le_refl _
  | succ k ih => unfold onesTo; split <;> omega
theorem onesTo_lo (b v k : Nat) (hb : b < 256) (hk : k ≤ 8) : onesTo (b + 256 * v) k = onesTo b k := by
  induction k with
  | zero => rfl
  | succ k ih =>
    unfold onesTo
    rw [ih (by omega)]
    have e : (b + 256 * v).testBit k = b.testBit k := by
      have h := Nat.testBit_two_pow_mul_add v (show b < 2 ^ 8 from hb) k
      rw [show (2 : Nat) ^ 8 = 256 from rfl, if_pos (by omega), Nat.add_comm] at h
      exact h
    rw [e]
theorem onesTo_hi (b v k : Nat) (hb : b < 256) : onesTo (b + 256 * v) (8 + k) = onesTo b 8 + onesTo v k := by
  induction k with
  | zero => exact onesTo_lo b v 8 hb (by decide)
  | succ k ih =>
    rw [show 8 + (k + 1) = (8 + k) + 1 from rfl]
    conv => lhs; unfold onesTo
    conv => rhs; rhs; unfold onesTo
    rw [ih]
    have e : (b + 256 * v).testBit (8 + k) = v.testBit k := by
      have h := Nat.testBit_two_pow_mul_add v (show b < 2 ^ 8 from hb) (8 + k)
      rw [show (2 : Nat) ^ 8 = 256 from rfl, if_neg (by omega), Nat.add_comm, Nat.add_sub_cancel_left] at h
      exact h
    rw [e]; omega

/-- a word out of bytes, the lowest first -/
def val : List Nat → Nat
  | [] => 0
  | b :: r => b + 256 * val r
def sum : List Nat → Nat
  | [] => 0
  | b :: r => b + sum r
theorem onesTo_val : ∀ l : List Nat, (∀ b ∈ l, b < 256) → onesTo (val l) (8 * l.length) = sum (l.map fun b => onesTo b 8)
  | [], _ => rfl
  | b :: r, h => by
    have ih := onesTo_val r (fun c hc => h c (List.mem_cons_of_mem _ hc))
    simp only [val, List.length_cons, List.map_cons, sum]
    rw [show 8 * (r.length + 1) = 8 + 8 * r.length by omega, onesTo_hi b (val r) _ (h b List.mem_cons_self), ih]

theorem and_split (a b c d m : Nat) (ha : a < 2 ^ m) (hc : c < 2 ^ m) : (a + 2 ^ m * b) &&& (c + 2 ^ m * d) = (a &&& c) + 2 ^ m * (b &&& d) := by
  apply Nat.eq_of_testBit_eq
  intro j
  have hac : a &&& c < 2 ^ m := Nat.lt_of_le_of_lt Nat.and_le_left ha
  rw [Nat.testBit_and, Nat.add_comm a, Nat.add_comm c, Nat.add_comm (a &&& c), Nat.testBit_two_pow_mul_add _ ha, Nat.testBit_two_pow_mul_add _ hc, Nat.testBit_two_pow_mul_add _ hac]
  by_cases h : j < m
  · simp [h]
  · simp [h]
theorem and256 (a b c d : Nat) (ha : a < 256) (hc : c < 256) : (a + 256 * b) &&& (c + 256 * d) = (a &&& c) + 256 * (b &&& d) := and_split a b c d 8 ha hc

def rep (M : Nat) : Nat → Nat
  | 0 => 0
  | n + 1 => M + 256 * rep M n

/-- bits of all bytes at once: shifted to the right by s, under a mask that lets none of the next byte in -/
theorem shift_mask (s M : Nat) (hs : s ≤ 8) (hM : M < 2 ^ (8 - s)) : ∀ l : List Nat, (∀ b ∈ l, b < 256) → (val l / 2 ^ s) &&& rep M l.length = val (l.map fun b => (b / 2 ^ s) &&& M)
  | [], _ => by simp [val, rep]
  | b :: r, h => by
    have ih := shift_mask s M hs hM r (fun c hc => h c (List.mem_cons_of_mem _ hc))
    have hb := h b List.mem_cons_self
    simp only [val, List.length_cons, List.map_cons, rep]
    have p : 2 ^ s * 2 ^ (8 - s) = 256 := by
      rw [← Nat.pow_add]
      have : s + (8 - s) = 8 := by omega
      rw [this]
    have p0 := Nat.two_pow_pos s
    have p1 := Nat.two_pow_pos (8 - s)
    have q1 : b / 2 ^ s < 2 ^ (8 - s) := Nat.div_lt_of_lt_mul (by rw [p]; exact hb)
    have q2 : val r % 2 ^ s < 2 ^ s := Nat.mod_lt _ p0
    have e1 : (b + 256 * val r) / 2 ^ s = (b / 2 ^ s + 2 ^ (8 - s) * (val r % 2 ^ s)) + 256 * (val r / 2 ^ s) := by
      have f1 : b + 256 * val r = b + 2 ^ s * (2 ^ (8 - s) * val r) := by rw [← Nat.mul_assoc, p]
      rw [f1, Nat.add_mul_div_left _ _ p0]
      have f2 := Nat.div_add_mod (val r) (2 ^ s)
      have f3 : 2 ^ (8 - s) * val r = 256 * (val r / 2 ^ s) + 2 ^ (8 - s) * (val r % 2 ^ s) := by
        conv => lhs; rw [← f2]
        rw [Nat.mul_add, ← Nat.mul_assoc, Nat.mul_comm (2 ^ (8 - s)), p]
      omega
    have q3 : b / 2 ^ s + 2 ^ (8 - s) * (val r % 2 ^ s) < 256 := by
      have g1 : 2 ^ (8 - s) * (val r % 2 ^ s) ≤ 2 ^ (8 - s) * (2 ^ s - 1) := Nat.mul_le_mul_left _ (by omega)
      rw [Nat.mul_sub, Nat.mul_comm _ (2 ^ s), p, Nat.mul_one] at g1
      generalize 2 ^ (8 - s) * (val r % 2 ^ s) = z at *
      have : 2 ^ (8 - s) ≤ 256 := by rw [← p]; exact Nat.le_mul_of_pos_left _ p0
      omega
    have q4 : M < 256 := Nat.lt_of_lt_of_le hM (by rw [← p]; exact Nat.le_mul_of_pos_left _ p0)
    have e2 : (b / 2 ^ s + 2 ^ (8 - s) * (val r % 2 ^ s)) &&& M = (b / 2 ^ s) &&& M := by
      have := and_split (b / 2 ^ s) (val r % 2 ^ s) M 0 (8 - s) q1 hM
      simpa using this
    rw [e1, and256 _ _ _ _ q3 q4, e2, ih]

theorem val_add : ∀ l : List Nat, ∀ f g : Nat → Nat, val (l.map f) + val (l.map g) = val (l.map fun b => f b + g b)
  | [], _, _ => rfl
  | b :: r, f, g => by
    have := val_add r f g
    simp only [List.map_cons, val]; omega

/-- the third step: nibbles that are small are added with no mask ahead -/
theorem nibbles : ∀ l : List Nat, (∀ b ∈ l, b / 16 ≤ 4 ∧ b % 16 ≤ 4) → (val l / 16 + val l) &&& rep 15 l.length = val (l.map fun b => (b / 16 + b) &&& 15)
  | [], _ => by simp [val, rep]
  | b :: r, h => by
    have hr := fun c hc => h c (List.mem_cons_of_mem b hc)
    have ih := nibbles r hr
    have hb := h b List.mem_cons_self
    simp only [val, List.length_cons, List.map_cons, rep]
    have hv : val r % 16 ≤ 4 := by
      match r, hr with
      | [], _ => simp [val]
      | c :: r', hr => have := (hr c List.mem_cons_self).2; simp only [val]; omega
    have e1 : (b + 256 * val r) / 16 + (b + 256 * val r) = (b / 16 + b + 16 * (val r % 16)) + 256 * (val r / 16 + val r) := by omega
    have e2 : (b / 16 + b + 16 * (val r % 16)) &&& 15 = (b / 16 + b) &&& 15 := by
      rw [Nat.and_two_pow_sub_one_eq_mod _ 4, Nat.and_two_pow_sub_one_eq_mod _ 4]; omega
    rw [e1, and256 _ _ _ _ (by omega) (by decide), e2, ih]

def f1 (b : Nat) : Nat := ((b / 2) &&& 85) + (b &&& 85)
def f2 (b : Nat) : Nat := ((b / 4) &&& 51) + (b &&& 51)
def f3 (b : Nat) : Nat := (b / 16 + b) &&& 15
theorem bytes_ok : ∀ b : Fin 256, f1 b.val < 256 ∧ f2 (f1 b.val) / 16 ≤ 4 ∧ f2 (f1 b.val) % 16 ≤ 4 ∧ f3 (f2 (f1 b.val)) = onesTo b.val 8 := by decide +kernel

def bytesOf (x : Nat) : List Nat := [x % 256, x / 256 % 256, x / 65536 % 256, x / 16777216 % 256, x / 4294967296 % 256, x / 1099511627776 % 256, x / 281474976710656 % 256, x / 72057594037927936 % 256]
theorem bytesOf_lt (x : Nat) : ∀ b ∈ bytesOf x, b < 256 := by
  intro b hb
  simp only [bytesOf, List.mem_cons, List.not_mem_nil, or_false] at hb
  rcases hb with h | h | h | h | h | h | h | h <;> omega
theorem val_bytesOf (x : Nat) (hx : x < 18446744073709551616) : val (bytesOf x) = x := by
  simp only [bytesOf, val]; omega

theorem step1 (x : Nat) (hx : x < 18446744073709551616) : ((x / 2) &&& 6148914691236517205) + (x &&& 6148914691236517205) = val ((bytesOf x).map f1) := by
  have h := bytesOf_lt x
  have a := shift_mask 1 85 (by decide) (by decide) (bytesOf x) h
  have b := shift_mask 0 85 (by decide) (by decide) (bytesOf x) h
  rw [val_bytesOf x hx] at a b
  have r : rep 85 (bytesOf x).length = 6148914691236517205 := show rep 85 8 = 6148914691236517205 by decide
  rw [r] at a b
  simp only [Nat.pow_zero, Nat.div_one] at b
  rw [show (2 : Nat) ^ 1 = 2 from rfl] at a
  rw [a, b, val_add]; rfl
theorem step2 (l : List Nat) (hl : l.length = 8) (h : ∀ b ∈ l, b < 256) : ((val l / 4) &&& 3689348814741910323) + (val l &&& 3689348814741910323) = val (l.map f2) := by
  have a := shift_mask 2 51 (by decide) (by decide) l h
  have b := shift_mask 0 51 (by decide) (by decide) l h
  have r : rep 51 l.length = 3689348814741910323 := by rw [hl]; decide
  rw [r] at a b
  simp only [Nat.pow_zero, Nat.div_one] at b
  rw [show (2 : Nat) ^ 2 = 4 from rfl] at a
  rw [a, b, val_add]; rfl
theorem step3 (l : List Nat) (hl : l.length = 8) (h : ∀ b ∈ l, b / 16 ≤ 4 ∧ b % 16 ≤ 4) : (val l / 16 + val l) &&& 1085102592571150095 = val (l.map f3) := by
  have a := nibbles l h
  have r : rep 15 l.length = 1085102592571150095 := by rw [hl]; decide
  rw [r] at a
  exact a

theorem div_low (a m R : Nat) (h : a < m) : (a + m * R) / m = R := by
  rw [Nat.add_mul_div_left _ _ (by omega), Nat.div_eq_of_lt h, Nat.zero_add]

/-- the last steps: eight bytes of at most 8 each are added up -/
theorem fold8 (p0 p1 p2 p3 p4 p5 p6 p7 : Nat) (h0 : p0 ≤ 8) (h1 : p1 ≤ 8) (h2 : p2 ≤ 8) (h3 : p3 ≤ 8) (h4 : p4 ≤ 8) (h5 : p5 ≤ 8) (h6 : p6 ≤ 8) (h7 : p7 ≤ 8)
    (y z1 z2 z3 : Nat) (hy : y = val [p0, p1, p2, p3, p4, p5, p6, p7]) (hz1 : z1 = y + y / 256) (hz2 : z2 = z1 + z1 / 65536) (hz3 : z3 = z2 + z2 / 4294967296) :
    y < 18446744073709551616 ∧ z1 < 18446744073709551616 ∧ z2 < 18446744073709551616 ∧ z3 < 9223372036854775808 ∧ z3 % 128 = p0 + p1 + p2 + p3 + p4 + p5 + p6 + p7 := by
  simp only [val] at hy
  have e1 : y / 256 = p1 + 256 * (p2 + 256 * (p3 + 256 * (p4 + 256 * (p5 + 256 * (p6 + 256 * (p7 + 256 * 0)))))) := by
    rw [hy]; exact div_low _ _ _ (by omega)
  have k1 : z1 = ((p0 + p1) + 256 * (p1 + p2)) + 65536 * ((p2 + p3) + 256 * ((p3 + p4) + 256 * ((p4 + p5) + 256 * ((p5 + p6) + 256 * ((p6 + p7) + 256 * p7))))) := by
    rw [hz1, e1, hy]; clear e1 hz1 hz2 hz3 hy; omega
  have e2 : z1 / 65536 = (p2 + p3) + 256 * ((p3 + p4) + 256 * ((p4 + p5) + 256 * ((p5 + p6) + 256 * ((p6 + p7) + 256 * p7)))) := by
    rw [k1]; exact div_low _ _ _ (by omega)
  have k2 : z2 = ((p0 + p1 + p2 + p3) + 256 * (p1 + p2 + p3 + p4) + 65536 * (p2 + p3 + p4 + p5) + 16777216 * (p3 + p4 + p5 + p6)) + 4294967296 * ((p4 + p5 + p6 + p7) + 256 * (p5 + p6 + p7) + 65536 * (p6 + p7) + 16777216 * p7) := by
    rw [hz2, e2, k1]; clear e1 e2 k1 hz1 hz2 hz3 hy; omega
  have e3 : z2 / 4294967296 = (p4 + p5 + p6 + p7) + 256 * (p5 + p6 + p7) + 65536 * (p6 + p7) + 16777216 * p7 := by
    rw [k2]; exact div_low _ _ _ (by omega)
  have k3 : z3 = (p0 + p1 + p2 + p3 + p4 + p5 + p6 + p7) + 128 * (2 * (p1 + p2 + p3 + p4 + p5 + p6 + p7) + 512 * (p2 + p3 + p4 + p5 + p6 + p7) + 131072 * (p3 + p4 + p5 + p6 + p7) + 33554432 * ((p4 + p5 + p6 + p7) + 256 * (p5 + p6 + p7) + 65536 * (p6 + p7) + 16777216 * p7)) := by
    rw [hz3, e3, k2]; clear e1 e2 e3 k1 k2 hz1 hz2 hz3 hy; omega
  refine ⟨?_, ?_, ?_, ?_, ?_⟩
  · rw [hy]; clear e1 e2 e3 k1 k2 k3 hz1 hz2 hz3 hy; omega
  · rw [k1]; clear e1 e2 e3 k1 k2 k3 hz1 hz2 hz3 hy; omega
  · rw [k2]; clear e1 e2 e3 k1 k2 k3 hz1 hz2 hz3 hy; omega
  · rw [k3]; clear e1 e2 e3 k1 k2 k3 hz1 hz2 hz3 hy; omega
  · rw [k3, Nat.add_mul_mod_self_left, Nat.mod_eq_of_lt]; clear e1 e2 e3 k1 k2 k3 hz1 hz2 hz3 hy; omega

end Go.Proofs.Ytdhbjcnbdfidcaa
