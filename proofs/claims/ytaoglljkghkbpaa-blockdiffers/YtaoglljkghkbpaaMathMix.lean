/- Plain facts on words of 32 bits, with no program in them: a word turned bit by bit, a quarter of four words and its undoing, each of which undoes the other. No conditions beyond those that each states. -/
import Derived.Test.YtaoglljkghkbpaaMath
namespace Go.Proofs.Ytaoglljkghkbpaa

/-- a turned word, by its upper and its lower part -/
theorem turnN_parts (x s L : Nat) (hs : s ≤ 32) (hL : L = 2 ^ (32 - s)) (hx : x < 4294967296) : turnN x s = 2 ^ s * (x % L) + x / L := by
  have hM : (2 : Nat) ^ 32 = L * 2 ^ s := by rw [hL, ← Nat.pow_add]; congr 1; omega
  unfold turnN
  rw [hM, Nat.mul_mod_mul_right, ← hL, Nat.mul_comm (x % L), Nat.two_pow_add_eq_or_of_lt]
  rw [Nat.div_lt_iff_lt_mul (by rw [hL]; exact Nat.two_pow_pos _), Nat.mul_comm, ← hM]
  exact hx

theorem turnN_zero (x : Nat) (hx : x < 4294967296) : turnN x 0 = x := by
  rw [turnN_parts x 0 4294967296 (by decide) (by decide) hx]; omega

/-- one bit more -/
theorem turn_step (x s : Nat) (hs : s < 32) (hx : x < 4294967296) :
    turnN x (s + 1) = if 2147483648 ≤ turnN x s then 2 * turnN x s % 4294967296 + 1 else 2 * turnN x s := by
  obtain ⟨t, ht⟩ : ∃ t, t + s = 31 := ⟨31 - s, by omega⟩
  have e1 : 32 - s = t + 1 := by omega
  have e2 : 32 - (s + 1) = t := by omega
  rw [turnN_parts x s (2 ^ (t + 1)) (by omega) (by rw [e1]) hx, turnN_parts x (s + 1) (2 ^ t) (by omega) (by rw [e2]) hx]
  have hKL : 2 ^ s * 2 ^ t = 2147483648 := by rw [← Nat.pow_add, Nat.add_comm s t, ht]
  have p1 : (2 : Nat) ^ (t + 1) = 2 * 2 ^ t := by rw [Nat.pow_succ, Nat.mul_comm]
  have p2 : (2 : Nat) ^ (s + 1) = 2 * 2 ^ s := by rw [Nat.pow_succ, Nat.mul_comm]
  rw [p1, p2]
  have hK : 0 < 2 ^ s := Nat.two_pow_pos s
  have hL : 0 < 2 ^ t := Nat.two_pow_pos t
  generalize 2 ^ s = K at *
  generalize 2 ^ t = L at *
  have d1 : x / (2 * L) = x / L / 2 := by rw [Nat.mul_comm 2 L, Nat.div_div_eq_div_mul]
  have m1 : x % (2 * L) = x % L + L * (x / L % 2) := by rw [Nat.mul_comm 2 L, Nat.mod_mul]
  have hl : x % L < L := Nat.mod_lt _ hL
  have hh : x / L / 2 < K := by
    rw [Nat.div_lt_iff_lt_mul (by decide), Nat.div_lt_iff_lt_mul hL]
    have : K * 2 * L = 2 * (K * L) := by rw [Nat.mul_assoc, Nat.mul_comm 2 L, ← Nat.mul_assoc, Nat.mul_comm]
    rw [this, hKL]; omega
  have hb : x / L = 2 * (x / L / 2) + x / L % 2 := by omega
  have hb2 : x / L % 2 < 2 := Nat.mod_lt _ (by decide)
  rw [d1, m1]
  generalize x % L = l at *
  generalize x / L / 2 = h at *
  generalize hq : x / L % 2 = b at *
  rw [hb]
  have hKl : K * l + K ≤ K * L := by
    have : K * (l + 1) ≤ K * L := Nat.mul_le_mul_left K hl
    rw [Nat.mul_add, Nat.mul_one] at this; exact this
  rw [hKL] at hKl
  have e3 : K * (l + L * b) = K * l + 2147483648 * b := by rw [Nat.mul_add, ← Nat.mul_assoc, hKL]
  have e4 : 2 * K * l = 2 * (K * l) := Nat.mul_assoc 2 K l
  rw [e3, e4]
  generalize K * l = m at *
  have hb3 : b = 0 ∨ b = 1 := by omega
  rcases hb3 with rfl | rfl
  · rw [if_neg (by omega)]; omega
  · rw [if_pos (by omega)]; omega

def add32 (a b : Nat) : Nat := (a + b) % 4294967296
def sub32 (a b : Nat) : Nat := (a + (4294967296 - b)) % 4294967296
theorem add32_lt (a b : Nat) : add32 a b < 4294967296 := Nat.mod_lt _ (by decide)
theorem sub32_lt (a b : Nat) : sub32 a b < 4294967296 := Nat.mod_lt _ (by decide)
theorem add32_int (a b : Nat) : ((a : Int) + (b : Int)) % 4294967296 = (add32 a b : Int) := by unfold add32; omega
theorem sub32_int (a b : Nat) (hb : b < 4294967296) : ((a : Int) - (b : Int)) % 4294967296 = (sub32 a b : Int) := by unfold sub32; omega
theorem sub_add (a b : Nat) (ha : a < 4294967296) (hb : b < 4294967296) : sub32 (add32 a b) b = a := by unfold sub32 add32; omega
theorem add_sub (a b : Nat) (ha : a < 4294967296) (hb : b < 4294967296) : add32 (sub32 a b) b = a := by unfold sub32 add32; omega
theorem xor_lt32 (a b : Nat) (ha : a < 4294967296) (hb : b < 4294967296) : a ^^^ b < 4294967296 := Nat.xor_lt_two_pow (n := 32) ha hb
theorem xor_xor (a b : Nat) : (a ^^^ b) ^^^ b = a := by rw [Nat.xor_assoc, Nat.xor_self, Nat.xor_zero]
theorem turn_xor_back (x y s t : Nat) (hx : x < 4294967296) (hy : y < 4294967296) (hs : s < 32) (ht : t < 32) (h : (s + t) % 32 = 0) : turnN (turnN (x ^^^ y) s) t ^^^ y = x := by
  rw [turnN_back _ s t (xor_lt32 x y hx hy) hs ht h, xor_xor]
theorem turn_back_xor (x y s t : Nat) (hx : x < 4294967296) (hs : s < 32) (ht : t < 32) (h : (s + t) % 32 = 0) : turnN ((turnN x s ^^^ y) ^^^ y) t = x := by
  rw [xor_xor, turnN_back _ s t hx hs ht h]


/-- four words -/
structure Q4 where
  a : Nat
  b : Nat
  c : Nat
  d : Nat
  deriving DecidableEq
def Q4.ok (q : Q4) : Prop := q.a < 4294967296 ∧ q.b < 4294967296 ∧ q.c < 4294967296 ∧ q.d < 4294967296

def half (q : Q4) (s t : Nat) : Q4 :=
  ⟨add32 q.a q.b, turnN (q.b ^^^ add32 q.c (turnN (q.d ^^^ add32 q.a q.b) s)) t, add32 q.c (turnN (q.d ^^^ add32 q.a q.b) s), turnN (q.d ^^^ add32 q.a q.b) s⟩
def unhalf (q : Q4) (s t : Nat) : Q4 :=
  ⟨sub32 q.a (turnN q.b t ^^^ q.c), turnN q.b t ^^^ q.c, sub32 q.c q.d, turnN q.d s ^^^ q.a⟩
def quarterN (q : Q4) : Q4 := half (half q 16 12) 8 7
def undoN (q : Q4) : Q4 := unhalf (unhalf q 24 25) 16 20

theorem half_ok (q : Q4) (s t : Nat) (h : q.ok) : (half q s t).ok := by
  obtain ⟨h1, h2, h3, h4⟩ := h
  refine ⟨add32_lt _ _, turnN_lt _ _ (xor_lt32 _ _ h2 (add32_lt _ _)), add32_lt _ _, turnN_lt _ _ (xor_lt32 _ _ h4 (add32_lt _ _))⟩
theorem unhalf_ok (q : Q4) (s t : Nat) (h : q.ok) : (unhalf q s t).ok := by
  obtain ⟨h1, h2, h3, h4⟩ := h
  exact ⟨sub32_lt _ _, xor_lt32 _ _ (turnN_lt _ _ h2) h3, sub32_lt _ _, xor_lt32 _ _ (turnN_lt _ _ h4) h1⟩
theorem quarter_ok (q : Q4) (h : q.ok) : (quarterN q).ok := half_ok _ _ _ (half_ok _ _ _ h)
theorem undo_ok (q : Q4) (h : q.ok) : (undoN q).ok := unhalf_ok _ _ _ (unhalf_ok _ _ _ h)

theorem unhalf_half (q : Q4) (s t s' t' : Nat) (h : q.ok) (hs : s < 32) (hs' : s' < 32) (ht : t < 32) (ht' : t' < 32) (e1 : (s + s') % 32 = 0) (e2 : (t + t') % 32 = 0) :
    unhalf (half q s t) s' t' = q := by
  obtain ⟨h1, h2, h3, h4⟩ := h
  obtain ⟨a, b, c, d⟩ := q
  simp only [half, unhalf] at *
  have x1 := add32_lt a b
  have x2 := turn_xor_back d (add32 a b) s s' h4 x1 hs hs' e1
  have x3 : turnN (d ^^^ add32 a b) s < 4294967296 := turnN_lt _ _ (xor_lt32 _ _ h4 x1)
  rw [x2, turn_xor_back b _ t t' h2 (add32_lt _ _) ht ht' e2, sub_add a b h1 h2, sub_add c _ h3 x3]
theorem half_unhalf (q : Q4) (s t s' t' : Nat) (h : q.ok) (hs : s < 32) (hs' : s' < 32) (ht : t < 32) (ht' : t' < 32) (e1 : (s + s') % 32 = 0) (e2 : (t + t') % 32 = 0) :
    half (unhalf q s' t') s t = q := by
  obtain ⟨h1, h2, h3, h4⟩ := h
  obtain ⟨a, b, c, d⟩ := q
  simp only [half, unhalf] at *
  have x1 : turnN b t' ^^^ c < 4294967296 := xor_lt32 _ _ (turnN_lt _ _ h2) h3
  rw [add_sub a _ h1 x1, turn_back_xor d a s' s h4 hs' hs (by omega), add_sub c d h3 h4, turn_back_xor b c t' t h2 ht' ht (by omega)]

theorem undo_quarter (q : Q4) (h : q.ok) : undoN (quarterN q) = q := by
  unfold undoN quarterN
  rw [unhalf_half _ 8 7 24 25 (half_ok _ _ _ h) (by decide) (by decide) (by decide) (by decide) (by decide) (by decide),
    unhalf_half _ 16 12 16 20 h (by decide) (by decide) (by decide) (by decide) (by decide) (by decide)]
theorem quarter_undo (q : Q4) (h : q.ok) : quarterN (undoN q) = q := by
  unfold undoN quarterN
  rw [half_unhalf _ 16 12 16 20 (unhalf_ok _ _ _ h) (by decide) (by decide) (by decide) (by decide) (by decide) (by decide),
    half_unhalf _ 8 7 24 25 h (by decide) (by decide) (by decide) (by decide) (by decide) (by decide)]
theorem quarter_known : quarterN ⟨286331153, 16909060, 2609737539, 19088743⟩ = ⟨3928658676, 3407673550, 1166100270, 1484899515⟩ := by decide +kernel
theorem quarter_zero : quarterN ⟨0, 0, 0, 0⟩ = ⟨0, 0, 0, 0⟩ := by decide +kernel

end Go.Proofs.Ytaoglljkghkbpaa
