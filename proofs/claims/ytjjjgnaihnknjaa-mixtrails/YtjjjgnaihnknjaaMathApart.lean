/- In how many bits words and states differ, in plain numbers; no program in it. No conditions beyond those that each fact states. -/
import Derived.Test.YtjjjgnaihnknjaaMathState
namespace Go.Proofs.Ytjjjgnaihnknjaa

theorem onesTo_succ (x k : Nat) : onesTo x (k + 1) = onesTo x k + if x.testBit k then 1 else 0 := rfl
theorem onesTo_half (x k : Nat) : onesTo x (k + 1) = x % 2 + onesTo (x / 2) k := by
  induction k with
  | zero =>
    have : x.testBit 0 = decide (x % 2 = 1) := by simp [Nat.testBit_zero]
    simp only [onesTo, this]
    by_cases h : x % 2 = 1
    · simp [h]
    · have : x % 2 = 0 := by omega
      simp [this]
  | succ k ih =>
    rw [onesTo_succ, ih, onesTo_succ (x / 2) k, Nat.testBit_succ]
    omega
theorem onesTo_zero (k : Nat) : onesTo 0 k = 0 := by
  induction k with
  | zero => rfl
  | succ k ih => rw [onesTo_succ, ih]; simp
theorem onesTo_more (x : Nat) (hx : x < 4294967296) : ∀ k, onesTo x (32 + k) = onesTo x 32
  | 0 => rfl
  | k + 1 => by
    rw [show 32 + (k + 1) = (32 + k) + 1 from rfl, onesTo_succ, onesTo_more x hx k, lt32_bit x (32 + k) hx (by omega)]; rfl
theorem ones_le32 (x : Nat) (hx : x < 4294967296) : onesTo x 64 ≤ 32 := by
  rw [show 64 = 32 + 32 from rfl, onesTo_more x hx 32]; exact onesTo_le x 32
/-- one bit less -/
theorem ones_step (x : Nat) (hx : x < 4294967296) : onesTo x 64 = x % 2 + onesTo (x / 2) 64 := by
  rw [show 64 = 63 + 1 from rfl, onesTo_half x 63]
  have e1 : onesTo (x / 2) 63 = onesTo (x / 2) 32 := onesTo_more (x / 2) (by omega) 31
  have e2 : onesTo (x / 2) 64 = onesTo (x / 2) 32 := onesTo_more (x / 2) (by omega) 32
  rw [e1, show 63 + 1 = 64 from rfl, e2]
theorem ones_eq_zero (x k : Nat) (h : onesTo x k = 0) : ∀ i, i < k → x.testBit i = false := by
  induction k with
  | zero => intro i hi; omega
  | succ k ih =>
    rw [onesTo_succ] at h
    intro i hi
    by_cases e : i = k
    · subst e
      cases hb : x.testBit i with
      | false => rfl
      | true => rw [hb] at h; simp at h
    · exact ih (by omega) i (by omega)
theorem ones_zero_iff (x : Nat) (hx : x < 4294967296) : onesTo x 64 = 0 ↔ x = 0 := by
  constructor
  · intro h
    apply Nat.eq_of_testBit_eq
    intro i
    rw [Nat.zero_testBit]
    by_cases hi : i < 64
    · exact ones_eq_zero x 64 h i hi
    · exact lt32_bit x i hx (by omega)
  · rintro rfl; exact onesTo_zero 64
theorem ones_tri (x y z k : Nat) : onesTo (x ^^^ z) k ≤ onesTo (x ^^^ y) k + onesTo (y ^^^ z) k := by
  induction k with
  | zero => exact Nat.le_refl _
  | succ k ih =>
    rw [onesTo_succ, onesTo_succ, onesTo_succ]
    simp only [Nat.testBit_xor]
    cases x.testBit k <;> cases y.testBit k <;> cases z.testBit k <;> simp <;> omega
theorem onesTo_pow (b : Nat) : ∀ k, onesTo (2 ^ b) k = if b < k then 1 else 0
  | 0 => by simp [onesTo]
  | k + 1 => by
    rw [onesTo_succ, onesTo_pow b k, Nat.testBit_two_pow]
    by_cases h1 : b < k
    · have h2 : b < k + 1 := by omega
      have h3 : ¬ b = k := by omega
      simp [h1, h2, h3]
    · by_cases h2 : b = k
      · simp [h2]
      · have h3 : ¬ b < k + 1 := by omega
        simp [h1, h2, h3]

/-- in how many bits of their first k words two states differ -/
def apartTo (a b : St) : Nat → Nat
  | 0 => 0
  | k + 1 => apartTo a b k + onesTo (a.at k ^^^ b.at k) 64
def apartN (a b : St) : Nat := apartTo a b 16

theorem St.at_big (s : St) (i : Nat) (h : 16 ≤ i) : s.at i = 0 := by
  unfold St.at
  split <;> first | omega | rfl
theorem apartTo_le (a b : St) (ha : a.ok) (hb : b.ok) (k : Nat) : apartTo a b k ≤ 32 * k := by
  induction k with
  | zero => exact Nat.le_refl _
  | succ k ih =>
    unfold apartTo
    have := ones_le32 _ (xor_lt32 _ _ (a.at_lt ha k) (b.at_lt hb k))
    omega
theorem apart_le (a b : St) (ha : a.ok) (hb : b.ok) : apartN a b ≤ 512 := apartTo_le a b ha hb 16
theorem apartTo_self (a : St) (k : Nat) : apartTo a a k = 0 := by
  induction k with
  | zero => rfl
  | succ k ih => unfold apartTo; rw [ih, Nat.xor_self, onesTo_zero]
theorem apartTo_comm (a b : St) (k : Nat) : apartTo a b k = apartTo b a k := by
  induction k with
  | zero => rfl
  | succ k ih => unfold apartTo; rw [ih, Nat.xor_comm]
theorem apartTo_tri (a b c : St) (k : Nat) : apartTo a c k ≤ apartTo a b k + apartTo b c k := by
  induction k with
  | zero => exact Nat.le_refl _
  | succ k ih =>
    unfold apartTo
    have := ones_tri (a.at k) (b.at k) (c.at k) 64
    omega
theorem apartTo_zero (a b : St) (ha : a.ok) (hb : b.ok) (k : Nat) (h : apartTo a b k = 0) : ∀ i, i < k → a.at i = b.at i := by
  induction k with
  | zero => intro i hi; omega
  | succ k ih =>
    unfold apartTo at h
    intro i hi
    by_cases e : i = k
    · subst e
      have h1 : onesTo (a.at i ^^^ b.at i) 64 = 0 := by omega
      have h2 := (ones_zero_iff _ (xor_lt32 _ _ (a.at_lt ha i) (b.at_lt hb i))).1 h1
      have h3 := xor_xor (a.at i) (b.at i)
      rw [h2, Nat.zero_xor] at h3
      exact h3.symm
    · exact ih (by omega) i (by omega)
theorem St.ext_at (a b : St) (h : ∀ i, i < 16 → a.at i = b.at i) : a = b := by
  refine stA_inj a b ?_
  apply Array.ext_getElem?
  intro i
  by_cases hi : i < 16
  · rw [stA_at a i hi, stA_at b i hi, h i hi]
  · rw [Array.getElem?_eq_none (by rw [stA_size]; omega), Array.getElem?_eq_none (by rw [stA_size]; omega)]
theorem apart_zero_iff (a b : St) (ha : a.ok) (hb : b.ok) : apartN a b = 0 ↔ a = b := by
  constructor
  · intro h; exact St.ext_at a b (apartTo_zero a b ha hb 16 h)
  · rintro rfl; exact apartTo_self a 16

/-- a state with a word put at a place -/
def St.set (s : St) (i : Nat) (x : Nat) : St :=
  ⟨if i = 0 then x else s.x0, if i = 1 then x else s.x1, if i = 2 then x else s.x2, if i = 3 then x else s.x3, if i = 4 then x else s.x4, if i = 5 then x else s.x5, if i = 6 then x else s.x6, if i = 7 then x else s.x7,
   if i = 8 then x else s.x8, if i = 9 then x else s.x9, if i = 10 then x else s.x10, if i = 11 then x else s.x11, if i = 12 then x else s.x12, if i = 13 then x else s.x13, if i = 14 then x else s.x14, if i = 15 then x else s.x15⟩
theorem St.at_set (s : St) (i j x : Nat) (hi : i < 16) : (s.set i x).at j = if i = j then x else s.at j := by
  rcases j with _ | _ | _ | _ | _ | _ | _ | _ | _ | _ | _ | _ | _ | _ | _ | _ | j
  all_goals first | rfl | (rw [if_neg (by omega)]; rfl)
theorem St.set_ok (s : St) (h : s.ok) (i x : Nat) (hx : x < 4294967296) : (s.set i x).ok := by
  obtain ⟨h0, h1, h2, h3, h4, h5, h6, h7, h8, h9, h10, h11, h12, h13, h14, h15⟩ := h
  unfold St.set St.ok
  refine ⟨?_, ?_, ?_, ?_, ?_, ?_, ?_, ?_, ?_, ?_, ?_, ?_, ?_, ?_, ?_, ?_⟩ <;> (dsimp only; split <;> assumption)
theorem stA_set (s : St) (i x : Nat) (hi : i < 16) : (stA s).setIfInBounds i (.int .u32 (x : Int)) = stA (s.set i x) := by
  apply Array.ext_getElem?
  intro j
  by_cases hj : j < 16
  · rw [stA_at (s.set i x) j hj, St.at_set s i j x hi, Array.getElem?_setIfInBounds]
    by_cases e : i = j
    · subst e; rw [if_pos rfl, if_pos (by rw [stA_size]; exact hi), if_pos rfl]
    · rw [if_neg e, if_neg e, stA_at s j hj]
  · rw [Array.getElem?_eq_none (by simp [stA_size]; omega), Array.getElem?_eq_none (by rw [stA_size]; omega)]

/-- a state with one bit turned over -/
def flip (s : St) (b : Nat) : St := s.set (b / 32) (s.at (b / 32) ^^^ 2 ^ (b % 32))
theorem flip_ok (s : St) (h : s.ok) (b : Nat) : (flip s b).ok := s.set_ok h _ _ (xor_lt32 _ _ (s.at_lt h _) (pow_lt_u32 _ (Nat.mod_lt _ (by decide))))
theorem apartTo_set (s : St) (i x : Nat) (hi : i < 16) (k : Nat) : apartTo s (s.set i x) k = if i < k then onesTo (s.at i ^^^ x) 64 else 0 := by
  induction k with
  | zero => simp [apartTo]
  | succ k ih =>
    unfold apartTo
    rw [ih, St.at_set s i k x hi]
    by_cases e : i = k
    · subst e; simp
    · rw [if_neg e, Nat.xor_self, onesTo_zero]
      by_cases h1 : i < k
      · rw [if_pos h1, if_pos (by omega)]; omega
      · rw [if_neg h1, if_neg (by omega)]
theorem apart_flip (s : St) (b : Nat) (hb : b < 512) : apartN s (flip s b) = 1 := by
  unfold apartN flip
  rw [apartTo_set s _ _ (by omega), if_pos (by omega), ← Nat.xor_assoc, Nat.xor_self, Nat.zero_xor, onesTo_pow, if_pos (by omega)]
theorem flip_ne (s : St) (hs : s.ok) (b : Nat) (hb : b < 512) : s ≠ flip s b := fun e => by
  have h := apart_flip s b hb
  rw [(apart_zero_iff s (flip s b) hs (flip_ok s hs b)).2 e] at h
  cases h
/-- the trail's numbers -/
def trailN (s : St) (b k : Nat) : Nat := apartN (fwd s k) (fwd (flip s b) k)
theorem trail_zero (s : St) (b : Nat) (hb : b < 512) : trailN s b 0 = 1 := apart_flip s b hb
theorem trail_pos (s : St) (hs : s.ok) (b k : Nat) (hb : b < 512) : 1 ≤ trailN s b k := by
  have h1 : trailN s b k ≠ 0 := fun e => by
    have h2 := (apart_zero_iff _ _ (fwd_ok s hs k) (fwd_ok _ (flip_ok s hs b) k)).1 e
    exact flip_ne s hs b hb (fwd_inj k s _ hs (flip_ok s hs b) h2)
  omega
theorem trail_le (s : St) (hs : s.ok) (b k : Nat) : trailN s b k ≤ 512 := apart_le _ _ (fwd_ok s hs k) (fwd_ok _ (flip_ok s hs b) k)

end Go.Proofs.Ytjjjgnaihnknjaa
