/- Plain facts on counted bits: a word taken as eight bytes, and what adding up neighbouring bits, pairs and nibbles in all bytes at once comes to; no program in them. No conditions beyond those that each states. -/
import Derived.Test.YtaoglljkghkbpaaMathSign
namespace Go.Proofs.Ytaoglljkghkbpaa

/-- how many of the lowest k bits are 1 -/
def onesTo (x : Nat) : Nat → Nat
  | 0 => 0
  | k + 1 => onesTo x k + if x.testBit k then 1 else 0
theorem onesTo_le (x k : Nat) : onesTo x k ≤ k := by
  induction k with
  | zero => exact Nat.le_refl _
  | succ k ih => unfold onesTo; split <;> omega
theorem onesTo_lo (b v k : Nat) (hb : b < 256) (hk : k ≤ 8) : onesTo (b + 256 * v) k = onesTo b k := by
  induction k with
  | zero => rfl
  | succ k ih =>
    unfold onesTo
    rw [ih (by omega)]
    have e : (b + 256 * v).testBit k = b.testBit k := by
      have h := Nat.testBit_two_pow_mul_add v (show b < 2 ^ 8 from hb) k
      rw [show (2 : Nat) ^ 8 = 256 from rfl, if_pos (by omega), Nat.add_comm] at h
      exact h
    rw [e]
theorem onesTo_hi (b v k : Nat) (hb : b < 256) : onesTo (b + 256 * v) (8 + k) = onesTo b 8 + onesTo v k := by
  induction k with
  | zero => exact onesTo_lo b v 8 hb (by decide)
  | succ k ih =>
    rw [show 8 + (k + 1) = (8 + k) + 1 from rfl]
    conv => lhs; unfold onesTo
    conv => rhs; rhs; unfold onesTo
    rw [ih]
    have e : (b + 256 * v).testBit (8 + k) = v.testBit k := by
      have h := Nat.testBit_two_pow_mul_add v (show b < 2 ^ 8 from hb) (8 + k)
      rw [show (2 : Nat) ^ 8 = 256 from rfl, if_neg (by omega), Nat.add_comm, Nat.add_sub_cancel_left] at h
      exact h
    rw [e]; omega

/-- a word out of bytes, the lowest first -/
def val : List Nat → Nat
  | [] => 0
  | b :: r => b + 256 * val r
def sum : List Nat → Nat
  | [] => 0
  | b :: r => b + sum r
theorem onesTo_val : ∀ l : List Nat, (∀ b ∈ l, b < 256) → onesTo (val l) (8 * l.length) = sum (l.map fun b => onesTo b 8)
  | [], _ => rfl
  | b :: r, h => by
    have ih := onesTo_val r (fun c hc => h c (List.mem_cons_of_mem _ hc))
    simp only [val, List.length_cons, List.map_cons, sum]
    rw [show 8 * (r.length + 1) = 8 + 8 * r.length by omega, onesTo_hi b (val r) _ (h b List.mem_cons_self), ih]

theorem and_split (a b c d m : Nat) (ha : a < 2 ^ m) (hc : c < 2 ^ m) : (a + 2 ^ m * b) &&& (c + 2 ^ m * d) = (a &&& c) + 2 ^ m * (b &&& d) := by
  apply Nat.eq_of_testBit_eq
  intro j
  have hac : a &&& c < 2 ^ m := Nat.lt_of_le_of_lt Nat.and_le_left ha
  rw [Nat.testBit_and, Nat.add_comm a, Nat.add_comm c, Nat.add_comm (a &&& c), Nat.testBit_two_pow_mul_add _ ha, Nat.testBit_two_pow_mul_add _ hc, Nat.testBit_two_pow_mul_add _ hac]
  by_cases h : j < m
  · simp [h]
  · simp [h]
theorem and256 (a b c d : Nat) (ha : a < 256) (hc : c < 256) : (a + 256 * b) &&& (c + 256 * d) = (a &&& c) + 256 * (b &&& d) := and_split a b c d 8 ha hc

def rep (M : Nat) : Nat → Nat
  | 0 => 0
  | n + 1 => M + 256 * rep M n

/-- bits of all bytes at once: shifted to the right by s, under a mask that lets none of the next byte in -/
theorem shift_mask (s M : Nat) (hs : s ≤ 8) (hM : M < 2 ^ (8 - s)) : ∀ l : List Nat, (∀ b ∈ l, b < 256) → (val l / 2 ^ s) &&& rep M l.length = val (l.map fun b => (b / 2 ^ s) &&& M)
  | [], _ => by simp [val, rep]
  | b :: r, h => by
    have ih := shift_mask s M hs hM r (fun c hc => h c (List.mem_cons_of_mem _ hc))
    have hb := h b List.mem_cons_self
    simp only [val, List.length_cons, List.map_cons, rep]
    have p : 2 ^ s * 2 ^ (8 - s) = 256 := by
      rw [← Nat.pow_add]
      have : s + (8 - s) = 8 := by omega
      rw [this]
    have p0 := Nat.two_pow_pos s
    have p1 := Nat.two_pow_pos (8 - s)
    have q1 : b / 2 ^ s < 2 ^ (8 - s) := Nat.div_lt_of_lt_mul (by rw [p]; exact hb)
    have q2 : val r % 2 ^ s < 2 ^ s := Nat.mod_lt _ p0
    have e1 : (b + 256 * val r) / 2 ^ s = (b / 2 ^ s + 2 ^ (8 - s) * (val r % 2 ^ s)) + 256 * (val r / 2 ^ s) := by
      have f1 : b + 256 * val r = b + 2 ^ s * (2 ^ (8 - s) * val r) := by rw [← Nat.mul_assoc, p]
      rw [f1, Nat.add_mul_div_left _ _ p0]
      have f2 := Nat.div_add_mod (val r) (2 ^ s)
      have f3 : 2 ^ (8 - s) * val r = 256 * (val r / 2 ^ s) + 2 ^ (8 - s) * (val r % 2 ^ s) := by
        conv => lhs; rw [← f2]
        rw [Nat.mul_add, ← Nat.mul_assoc, Nat.mul_comm (2 ^ (8 - s)), p]
      omega
    have q3 : b / 2 ^ s + 2 ^ (8 - s) * (val r % 2 ^ s) < 256 := by
      have g1 : 2 ^ (8 - s) * (val r % 2 ^ s) ≤ 2 ^ (8 - s) * (2 ^ s - 1) := Nat.mul_le_mul_left _ (by omega)
      rw [Nat.mul_sub, Nat.mul_comm _ (2 ^ s), p, Nat.mul_one] at g1
      generalize 2 ^ (8 - s) * (val r % 2 ^ s) = z at *
      have : 2 ^ (8 - s) ≤ 256 := by rw [← p]; exact Nat.le_mul_of_pos_left _ p0
      omega
    have q4 : M < 256 := Nat.lt_of_lt_of_le hM (by rw [← p]; exact Nat.le_mul_of_pos_left _ p0)
    have e2 : (b / 2 ^ s + 2 ^ (8 - s) * (val r % 2 ^ s)) &&& M = (b / 2 ^ s) &&& M := by
      have := and_split (b / 2 ^ s) (val r % 2 ^ s) M 0 (8 - s) q1 hM
      simpa using this
    rw [e1, and256 _ _ _ _ q3 q4, e2, ih]

theorem val_add : ∀ l : List Nat, ∀ f g : Nat → Nat, val (l.map f) + val (l.map g) = val (l.map fun b => f b + g b)
  | [], _, _ => rfl
  | b :: r, f, g => by
    have := val_add r f g
    simp only [List.map_cons, val]; omega

/-- the third step: nibbles that are small are added with no mask ahead -/
theorem nibbles : ∀ l : List Nat, (∀ b ∈ l, b / 16 ≤ 4 ∧ b % 16 ≤ 4) → (val l / 16 + val l) &&& rep 15 l.length = val (l.map fun b => (b / 16 + b) &&& 15)
  | [], _ => by simp [val, rep]
  | b :: r, h => by
    have hr := fun c hc => h c (List.mem_cons_of_mem b hc)
    have ih := nibbles r hr
    have hb := h b List.mem_cons_self
    simp only [val, List.length_cons, List.map_cons, rep]
    have hv : val r % 16 ≤ 4 := by
      match r, hr with
      | [], _ => simp [val]
      | c :: r', hr => have := (hr c List.mem_cons_self).2; simp only [val]; omega
    have e1 : (b + 256 * val r) / 16 + (b + 256 * val r) = (b / 16 + b + 16 * (val r % 16)) + 256 * (val r / 16 + val r) := by omega
    have e2 : (b / 16 + b + 16 * (val r % 16)) &&& 15 = (b / 16 + b) &&& 15 := by
      rw [Nat.and_two_pow_sub_one_eq_mod _ 4, Nat.and_two_pow_sub_one_eq_mod _ 4]; omega
    rw [e1, and256 _ _ _ _ (by omega) (by decide), e2, ih]

def f1 (b : Nat) : Nat := ((b / 2) &&& 85) + (b &&& 85)
def f2 (b : Nat) : Nat := ((b / 4) &&& 51) + (b &&& 51)
def f3 (b : Nat) : Nat := (b / 16 + b) &&& 15
theorem bytes_ok : ∀ b : Fin 256, f1 b.val < 256 ∧ f2 (f1 b.val) / 16 ≤ 4 ∧ f2 (f1 b.val) % 16 ≤ 4 ∧ f3 (f2 (f1 b.val)) = onesTo b.val 8 := by decide +kernel

def bytesOf (x : Nat) : List Nat := [x % 256, x / 256 % 256, x / 65536 % 256, x / 16777216 % 256, x / 4294967296 % 256, x / 1099511627776 % 256, x / 281474976710656 % 256, x / 72057594037927936 % 256]
theorem bytesOf_lt (x : Nat) : ∀ b ∈ bytesOf x, b < 256 := by
  intro b hb
  simp only [bytesOf, List.mem_cons, List.not_mem_nil, or_false] at hb
  rcases hb with h | h | h | h | h | h | h | h <;> omega
theorem val_bytesOf (x : Nat) (hx : x < 18446744073709551616) : val (bytesOf x) = x := by
  simp only [bytesOf, val]; omega

theorem step1 (x : Nat) (hx : x < 18446744073709551616) : ((x / 2) &&& 6148914691236517205) + (x &&& 6148914691236517205) = val ((bytesOf x).map f1) := by
  have h := bytesOf_lt x
  have a := shift_mask 1 85 (by decide) (by decide) (bytesOf x) h
  have b := shift_mask 0 85 (by decide) (by decide) (bytesOf x) h
  rw [val_bytesOf x hx] at a b
  have r : rep 85 (bytesOf x).length = 6148914691236517205 := show rep 85 8 = 6148914691236517205 by decide
  rw [r] at a b
  simp only [Nat.pow_zero, Nat.div_one] at b
  rw [show (2 : Nat) ^ 1 = 2 from rfl] at a
  rw [a, b, val_add]; rfl
theorem step2 (l : List Nat) (hl : l.length = 8) (h : ∀ b ∈ l, b < 256) : ((val l / 4) &&& 3689348814741910323) + (val l &&& 3689348814741910323) = val (l.map f2) := by
  have a := shift_mask 2 51 (by decide) (by decide) l h
  have b := shift_mask 0 51 (by decide) (by decide) l h
  have r : rep 51 l.length = 3689348814741910323 := by rw [hl]; decide
  rw [r] at a b
  simp only [Nat.pow_zero, Nat.div_one] at b
  rw [show (2 : Nat) ^ 2 = 4 from rfl] at a
  rw [a, b, val_add]; rfl
theorem step3 (l : List Nat) (hl : l.length = 8) (h : ∀ b ∈ l, b / 16 ≤ 4 ∧ b % 16 ≤ 4) : (val l / 16 + val l) &&& 1085102592571150095 = val (l.map f3) := by
  have a := nibbles l h
  have r : rep 15 l.length = 1085102592571150095 := by rw [hl]; decide
  rw [r] at a
  exact a

theorem div_low (a m R : Nat) (h : a < m) : (a + m * R) / m = R := by
  rw [Nat.add_mul_div_left _ _ (by omega), Nat.div_eq_of_lt h, Nat.zero_add]

/-- the last steps: eight bytes of at most 8 each are added up -/
theorem fold8 (p0 p1 p2 p3 p4 p5 p6 p7 : Nat) (h0 : p0 ≤ 8) (h1 : p1 ≤ 8) (h2 : p2 ≤ 8) (h3 : p3 ≤ 8) (h4 : p4 ≤ 8) (h5 : p5 ≤ 8) (h6 : p6 ≤ 8) (h7 : p7 ≤ 8)
    (y z1 z2 z3 : Nat) (hy : y = val [p0, p1, p2, p3, p4, p5, p6, p7]) (hz1 : z1 = y + y / 256) (hz2 : z2 = z1 + z1 / 65536) (hz3 : z3 = z2 + z2 / 4294967296) :
    y < 18446744073709551616 ∧ z1 < 18446744073709551616 ∧ z2 < 18446744073709551616 ∧ z3 < 9223372036854775808 ∧ z3 % 128 = p0 + p1 + p2 + p3 + p4 + p5 + p6 + p7 := by
  simp only [val] at hy
  have e1 : y / 256 = p1 + 256 * (p2 + 256 * (p3 + 256 * (p4 + 256 * (p5 + 256 * (p6 + 256 * (p7 + 256 * 0)))))) := by
    rw [hy]; exact div_low _ _ _ (by omega)
  have k1 : z1 = ((p0 + p1) + 256 * (p1 + p2)) + 65536 * ((p2 + p3) + 256 * ((p3 + p4) + 256 * ((p4 + p5) + 256 * ((p5 + p6) + 256 * ((p6 + p7) + 256 * p7))))) := by
    rw [hz1, e1, hy]; clear e1 hz1 hz2 hz3 hy; omega
  have e2 : z1 / 65536 = (p2 + p3) + 256 * ((p3 + p4) + 256 * ((p4 + p5) + 256 * ((p5 + p6) + 256 * ((p6 + p7) + 256 * p7)))) := by
    rw [k1]; exact div_low _ _ _ (by omega)
  have k2 : z2 = ((p0 + p1 + p2 + p3) + 256 * (p1 + p2 + p3 + p4) + 65536 * (p2 + p3 + p4 + p5) + 16777216 * (p3 + p4 + p5 + p6)) + 4294967296 * ((p4 + p5 + p6 + p7) + 256 * (p5 + p6 + p7) + 65536 * (p6 + p7) + 16777216 * p7) := by
    rw [hz2, e2, k1]; clear e1 e2 k1 hz1 hz2 hz3 hy; omega
  have e3 : z2 / 4294967296 = (p4 + p5 + p6 + p7) + 256 * (p5 + p6 + p7) + 65536 * (p6 + p7) + 16777216 * p7 := by
    rw [k2]; exact div_low _ _ _ (by omega)
  have k3 : z3 = (p0 + p1 + p2 + p3 + p4 + p5 + p6 + p7) + 128 * (2 * (p1 + p2 + p3 + p4 + p5 + p6 + p7) + 512 * (p2 + p3 + p4 + p5 + p6 + p7) + 131072 * (p3 + p4 + p5 + p6 + p7) + 33554432 * ((p4 + p5 + p6 + p7) + 256 * (p5 + p6 + p7) + 65536 * (p6 + p7) + 16777216 * p7)) := by
    rw [hz3, e3, k2]; clear e1 e2 e3 k1 k2 hz1 hz2 hz3 hy; omega
  refine ⟨?_, ?_, ?_, ?_, ?_⟩
  · rw [hy]; clear e1 e2 e3 k1 k2 k3 hz1 hz2 hz3 hy; omega
  · rw [k1]; clear e1 e2 e3 k1 k2 k3 hz1 hz2 hz3 hy; omega
  · rw [k2]; clear e1 e2 e3 k1 k2 k3 hz1 hz2 hz3 hy; omega
  · rw [k3]; clear e1 e2 e3 k1 k2 k3 hz1 hz2 hz3 hy; omega
  · rw [k3, Nat.add_mul_mod_self_left, Nat.mod_eq_of_lt]; clear e1 e2 e3 k1 k2 k3 hz1 hz2 hz3 hy; omega

end Go.Proofs.Ytaoglljkghkbpaa
