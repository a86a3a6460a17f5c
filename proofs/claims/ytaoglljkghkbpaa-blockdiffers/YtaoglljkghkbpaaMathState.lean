/- A state of sixteen words, rounds there and back, and in how many bits two states differ, in plain numbers; no program in it. No conditions beyond those that each fact states. -/
import Derived.Test.YtaoglljkghkbpaaMathMix
import Derived.Test.YtaoglljkghkbpaaMathCount
namespace Go.Proofs.Ytaoglljkghkbpaa

structure St where
  x0 : Nat
  x1 : Nat
  x2 : Nat
  x3 : Nat
  x4 : Nat
  x5 : Nat
  x6 : Nat
  x7 : Nat
  x8 : Nat
  x9 : Nat
  x10 : Nat
  x11 : Nat
  x12 : Nat
  x13 : Nat
  x14 : Nat
  x15 : Nat
  deriving DecidableEq

def St.ok (s : St) : Prop := s.x0 < 4294967296 ∧ s.x1 < 4294967296 ∧ s.x2 < 4294967296 ∧ s.x3 < 4294967296 ∧ s.x4 < 4294967296 ∧ s.x5 < 4294967296 ∧ s.x6 < 4294967296 ∧ s.x7 < 4294967296 ∧ s.x8 < 4294967296 ∧ s.x9 < 4294967296 ∧ s.x10 < 4294967296 ∧ s.x11 < 4294967296 ∧ s.x12 < 4294967296 ∧ s.x13 < 4294967296 ∧ s.x14 < 4294967296 ∧ s.x15 < 4294967296
def stA (s : St) : Array Value := #[.int .u32 (s.x0 : Int), .int .u32 (s.x1 : Int), .int .u32 (s.x2 : Int), .int .u32 (s.x3 : Int), .int .u32 (s.x4 : Int), .int .u32 (s.x5 : Int), .int .u32 (s.x6 : Int), .int .u32 (s.x7 : Int), .int .u32 (s.x8 : Int), .int .u32 (s.x9 : Int), .int .u32 (s.x10 : Int), .int .u32 (s.x11 : Int), .int .u32 (s.x12 : Int), .int .u32 (s.x13 : Int), .int .u32 (s.x14 : Int), .int .u32 (s.x15 : Int)]
def roundN : Bool → St → St
  | false, s => ⟨(quarterN ⟨s.x0, s.x4, s.x8, s.x12⟩).a, (quarterN ⟨s.x1, s.x5, s.x9, s.x13⟩).a, (quarterN ⟨s.x2, s.x6, s.x10, s.x14⟩).a, (quarterN ⟨s.x3, s.x7, s.x11, s.x15⟩).a, (quarterN ⟨s.x0, s.x4, s.x8, s.x12⟩).b, (quarterN ⟨s.x1, s.x5, s.x9, s.x13⟩).b, (quarterN ⟨s.x2, s.x6, s.x10, s.x14⟩).b, (quarterN ⟨s.x3, s.x7, s.x11, s.x15⟩).b, (quarterN ⟨s.x0, s.x4, s.x8, s.x12⟩).c, (quarterN ⟨s.x1, s.x5, s.x9, s.x13⟩).c, (quarterN ⟨s.x2, s.x6, s.x10, s.x14⟩).c, (quarterN ⟨s.x3, s.x7, s.x11, s.x15⟩).c, (quarterN ⟨s.x0, s.x4, s.x8, s.x12⟩).d, (quarterN ⟨s.x1, s.x5, s.x9, s.x13⟩).d, (quarterN ⟨s.x2, s.x6, s.x10, s.x14⟩).d, (quarterN ⟨s.x3, s.x7, s.x11, s.x15⟩).d⟩
  | true, s => ⟨(quarterN ⟨s.x0, s.x5, s.x10, s.x15⟩).a, (quarterN ⟨s.x1, s.x6, s.x11, s.x12⟩).a, (quarterN ⟨s.x2, s.x7, s.x8, s.x13⟩).a, (quarterN ⟨s.x3, s.x4, s.x9, s.x14⟩).a, (quarterN ⟨s.x3, s.x4, s.x9, s.x14⟩).b, (quarterN ⟨s.x0, s.x5, s.x10, s.x15⟩).b, (quarterN ⟨s.x1, s.x6, s.x11, s.x12⟩).b, (quarterN ⟨s.x2, s.x7, s.x8, s.x13⟩).b, (quarterN ⟨s.x2, s.x7, s.x8, s.x13⟩).c, (quarterN ⟨s.x3, s.x4, s.x9, s.x14⟩).c, (quarterN ⟨s.x0, s.x5, s.x10, s.x15⟩).c, (quarterN ⟨s.x1, s.x6, s.x11, s.x12⟩).c, (quarterN ⟨s.x1, s.x6, s.x11, s.x12⟩).d, (quarterN ⟨s.x2, s.x7, s.x8, s.x13⟩).d, (quarterN ⟨s.x3, s.x4, s.x9, s.x14⟩).d, (quarterN ⟨s.x0, s.x5, s.x10, s.x15⟩).d⟩
def unroundN : Bool → St → St
  | false, s => ⟨(undoN ⟨s.x0, s.x4, s.x8, s.x12⟩).a, (undoN ⟨s.x1, s.x5, s.x9, s.x13⟩).a, (undoN ⟨s.x2, s.x6, s.x10, s.x14⟩).a, (undoN ⟨s.x3, s.x7, s.x11, s.x15⟩).a, (undoN ⟨s.x0, s.x4, s.x8, s.x12⟩).b, (undoN ⟨s.x1, s.x5, s.x9, s.x13⟩).b, (undoN ⟨s.x2, s.x6, s.x10, s.x14⟩).b, (undoN ⟨s.x3, s.x7, s.x11, s.x15⟩).b, (undoN ⟨s.x0, s.x4, s.x8, s.x12⟩).c, (undoN ⟨s.x1, s.x5, s.x9, s.x13⟩).c, (undoN ⟨s.x2, s.x6, s.x10, s.x14⟩).c, (undoN ⟨s.x3, s.x7, s.x11, s.x15⟩).c, (undoN ⟨s.x0, s.x4, s.x8, s.x12⟩).d, (undoN ⟨s.x1, s.x5, s.x9, s.x13⟩).d, (undoN ⟨s.x2, s.x6, s.x10, s.x14⟩).d, (undoN ⟨s.x3, s.x7, s.x11, s.x15⟩).d⟩
  | true, s => ⟨(undoN ⟨s.x0, s.x5, s.x10, s.x15⟩).a, (undoN ⟨s.x1, s.x6, s.x11, s.x12⟩).a, (undoN ⟨s.x2, s.x7, s.x8, s.x13⟩).a, (undoN ⟨s.x3, s.x4, s.x9, s.x14⟩).a, (undoN ⟨s.x3, s.x4, s.x9, s.x14⟩).b, (undoN ⟨s.x0, s.x5, s.x10, s.x15⟩).b, (undoN ⟨s.x1, s.x6, s.x11, s.x12⟩).b, (undoN ⟨s.x2, s.x7, s.x8, s.x13⟩).b, (undoN ⟨s.x2, s.x7, s.x8, s.x13⟩).c, (undoN ⟨s.x3, s.x4, s.x9, s.x14⟩).c, (undoN ⟨s.x0, s.x5, s.x10, s.x15⟩).c, (undoN ⟨s.x1, s.x6, s.x11, s.x12⟩).c, (undoN ⟨s.x1, s.x6, s.x11, s.x12⟩).d, (undoN ⟨s.x2, s.x7, s.x8, s.x13⟩).d, (undoN ⟨s.x3, s.x4, s.x9, s.x14⟩).d, (undoN ⟨s.x0, s.x5, s.x10, s.x15⟩).d⟩
def St.zero : St := ⟨0, 0, 0, 0, 0, 0, 0, 0, 0, 0, 0, 0, 0, 0, 0, 0⟩

theorem q_ok (a b c d : Nat) (ha : a < 4294967296) (hb : b < 4294967296) (hc : c < 4294967296) (hd : d < 4294967296) : (quarterN ⟨a, b, c, d⟩).ok := quarter_ok _ ⟨ha, hb, hc, hd⟩
theorem u_ok (a b c d : Nat) (ha : a < 4294967296) (hb : b < 4294967296) (hc : c < 4294967296) (hd : d < 4294967296) : (undoN ⟨a, b, c, d⟩).ok := undo_ok _ ⟨ha, hb, hc, hd⟩
theorem uq (a b c d : Nat) (ha : a < 4294967296) (hb : b < 4294967296) (hc : c < 4294967296) (hd : d < 4294967296) :
    undoN ⟨(quarterN ⟨a, b, c, d⟩).a, (quarterN ⟨a, b, c, d⟩).b, (quarterN ⟨a, b, c, d⟩).c, (quarterN ⟨a, b, c, d⟩).d⟩ = ⟨a, b, c, d⟩ := undo_quarter _ ⟨ha, hb, hc, hd⟩
theorem qu (a b c d : Nat) (ha : a < 4294967296) (hb : b < 4294967296) (hc : c < 4294967296) (hd : d < 4294967296) :
    quarterN ⟨(undoN ⟨a, b, c, d⟩).a, (undoN ⟨a, b, c, d⟩).b, (undoN ⟨a, b, c, d⟩).c, (undoN ⟨a, b, c, d⟩).d⟩ = ⟨a, b, c, d⟩ := quarter_undo _ ⟨ha, hb, hc, hd⟩

theorem round_ok (odd : Bool) (s : St) (h : s.ok) : (roundN odd s).ok := by
  obtain ⟨h0, h1, h2, h3, h4, h5, h6, h7, h8, h9, h10, h11, h12, h13, h14, h15⟩ := h
  cases odd
  · have q0 := q_ok _ _ _ _ h0 h4 h8 h12
    have q1 := q_ok _ _ _ _ h1 h5 h9 h13
    have q2 := q_ok _ _ _ _ h2 h6 h10 h14
    have q3 := q_ok _ _ _ _ h3 h7 h11 h15
    exact ⟨q0.1, q1.1, q2.1, q3.1, q0.2.1, q1.2.1, q2.2.1, q3.2.1, q0.2.2.1, q1.2.2.1, q2.2.2.1, q3.2.2.1, q0.2.2.2, q1.2.2.2, q2.2.2.2, q3.2.2.2⟩
  · have q0 := q_ok _ _ _ _ h0 h5 h10 h15
    have q1 := q_ok _ _ _ _ h1 h6 h11 h12
    have q2 := q_ok _ _ _ _ h2 h7 h8 h13
    have q3 := q_ok _ _ _ _ h3 h4 h9 h14
    exact ⟨q0.1, q1.1, q2.1, q3.1, q3.2.1, q0.2.1, q1.2.1, q2.2.1, q2.2.2.1, q3.2.2.1, q0.2.2.1, q1.2.2.1, q1.2.2.2, q2.2.2.2, q3.2.2.2, q0.2.2.2⟩
theorem unround_ok (odd : Bool) (s : St) (h : s.ok) : (unroundN odd s).ok := by
  obtain ⟨h0, h1, h2, h3, h4, h5, h6, h7, h8, h9, h10, h11, h12, h13, h14, h15⟩ := h
  cases odd
  · have q0 := u_ok _ _ _ _ h0 h4 h8 h12
    have q1 := u_ok _ _ _ _ h1 h5 h9 h13
    have q2 := u_ok _ _ _ _ h2 h6 h10 h14
    have q3 := u_ok _ _ _ _ h3 h7 h11 h15
    exact ⟨q0.1, q1.1, q2.1, q3.1, q0.2.1, q1.2.1, q2.2.1, q3.2.1, q0.2.2.1, q1.2.2.1, q2.2.2.1, q3.2.2.1, q0.2.2.2, q1.2.2.2, q2.2.2.2, q3.2.2.2⟩
  · have q0 := u_ok _ _ _ _ h0 h5 h10 h15
    have q1 := u_ok _ _ _ _ h1 h6 h11 h12
    have q2 := u_ok _ _ _ _ h2 h7 h8 h13
    have q3 := u_ok _ _ _ _ h3 h4 h9 h14
    exact ⟨q0.1, q1.1, q2.1, q3.1, q3.2.1, q0.2.1, q1.2.1, q2.2.1, q2.2.2.1, q3.2.2.1, q0.2.2.1, q1.2.2.1, q1.2.2.2, q2.2.2.2, q3.2.2.2, q0.2.2.2⟩
theorem unround_round (odd : Bool) (s : St) (h : s.ok) : unroundN odd (roundN odd s) = s := by
  obtain ⟨h0, h1, h2, h3, h4, h5, h6, h7, h8, h9, h10, h11, h12, h13, h14, h15⟩ := h
  obtain ⟨x0, x1, x2, x3, x4, x5, x6, x7, x8, x9, x10, x11, x12, x13, x14, x15⟩ := s
  cases odd
  · simp only [unroundN, roundN, uq _ _ _ _ h0 h4 h8 h12, uq _ _ _ _ h1 h5 h9 h13, uq _ _ _ _ h2 h6 h10 h14, uq _ _ _ _ h3 h7 h11 h15]
  · simp only [unroundN, roundN, uq _ _ _ _ h0 h5 h10 h15, uq _ _ _ _ h1 h6 h11 h12, uq _ _ _ _ h2 h7 h8 h13, uq _ _ _ _ h3 h4 h9 h14]
theorem round_unround (odd : Bool) (s : St) (h : s.ok) : roundN odd (unroundN odd s) = s := by
  obtain ⟨h0, h1, h2, h3, h4, h5, h6, h7, h8, h9, h10, h11, h12, h13, h14, h15⟩ := h
  obtain ⟨x0, x1, x2, x3, x4, x5, x6, x7, x8, x9, x10, x11, x12, x13, x14, x15⟩ := s
  cases odd
  · simp only [roundN, unroundN, qu _ _ _ _ h0 h4 h8 h12, qu _ _ _ _ h1 h5 h9 h13, qu _ _ _ _ h2 h6 h10 h14, qu _ _ _ _ h3 h7 h11 h15]
  · simp only [roundN, unroundN, qu _ _ _ _ h0 h5 h10 h15, qu _ _ _ _ h1 h6 h11 h12, qu _ _ _ _ h2 h7 h8 h13, qu _ _ _ _ h3 h4 h9 h14]
theorem round_zero (odd : Bool) : roundN odd St.zero = St.zero := by
  cases odd <;> simp only [roundN, St.zero, quarter_zero]

/-- a state behind k rounds -/
def fwd (s : St) : Nat → St
  | 0 => s
  | k + 1 => roundN (decide (k % 2 = 1)) (fwd s k)
/-- a state of which k of n rounds are undone, the last one first -/
def bk (n : Nat) (s : St) : Nat → St
  | 0 => s
  | k + 1 => unroundN (decide ((n - 1 - k) % 2 = 1)) (bk n s k)
theorem fwd_ok (s : St) (h : s.ok) (k : Nat) : (fwd s k).ok := by
  induction k with
  | zero => exact h
  | succ k ih => exact round_ok _ _ ih
theorem bk_ok (n : Nat) (s : St) (h : s.ok) (k : Nat) : (bk n s k).ok := by
  induction k with
  | zero => exact h
  | succ k ih => exact unround_ok _ _ ih
theorem bk_fwd (n : Nat) (s : St) (h : s.ok) (k : Nat) (hk : k ≤ n) : bk n (fwd s n) k = fwd s (n - k) := by
  induction k with
  | zero => rfl
  | succ k ih =>
    show unroundN _ (bk n (fwd s n) k) = _
    rw [ih (by omega)]
    have e : n - k = (n - (k + 1)) + 1 := by omega
    have e2 : n - 1 - k = n - (k + 1) := by omega
    rw [e, e2]
    exact unround_round _ _ (fwd_ok s h _)
theorem back_forth (n : Nat) (s : St) (h : s.ok) : bk n (fwd s n) n = s := by
  rw [bk_fwd n s h n (Nat.le_refl n), Nat.sub_self]; rfl
theorem fwd_bk (n : Nat) (s : St) (h : s.ok) (j : Nat) (hj : j ≤ n) : fwd (bk n s n) j = bk n s (n - j) := by
  induction j with
  | zero => rfl
  | succ j ih =>
    show roundN _ (fwd (bk n s n) j) = _
    rw [ih (by omega)]
    have e : n - j = (n - (j + 1)) + 1 := by omega
    rw [e]
    show roundN _ (unroundN _ (bk n s (n - (j + 1)))) = _
    have e2 : n - 1 - (n - (j + 1)) = j := by omega
    rw [e2]
    exact round_unround _ _ (bk_ok n s h _)
theorem forth_back (n : Nat) (s : St) (h : s.ok) : fwd (bk n s n) n = s := by
  rw [fwd_bk n s h n (Nat.le_refl n), Nat.sub_self]; rfl
theorem fwd_zero (k : Nat) : fwd St.zero k = St.zero := by
  induction k with
  | zero => rfl
  | succ k ih => show roundN _ (fwd St.zero k) = _; rw [ih, round_zero]
theorem fwd_inj (n : Nat) (s t : St) (hs : s.ok) (ht : t.ok) (h : fwd s n = fwd t n) : s = t := by
  rw [← back_forth n s hs, h, back_forth n t ht]

theorem stA_size (s : St) : (stA s).size = 16 := rfl
theorem stA_inj (s t : St) (h : stA s = stA t) : s = t := by
  obtain ⟨x0, x1, x2, x3, x4, x5, x6, x7, x8, x9, x10, x11, x12, x13, x14, x15⟩ := s
  obtain ⟨y0, y1, y2, y3, y4, y5, y6, y7, y8, y9, y10, y11, y12, y13, y14, y15⟩ := t
  simp only [stA, Array.mk.injEq, List.cons.injEq, Value.int.injEq, Int.natCast_inj, true_and, and_true] at h
  simp only [St.mk.injEq]
  exact h

/-- the word at a place -/
def St.at (s : St) : Nat → Nat
  | 0 => s.x0
  | 1 => s.x1
  | 2 => s.x2
  | 3 => s.x3
  | 4 => s.x4
  | 5 => s.x5
  | 6 => s.x6
  | 7 => s.x7
  | 8 => s.x8
  | 9 => s.x9
  | 10 => s.x10
  | 11 => s.x11
  | 12 => s.x12
  | 13 => s.x13
  | 14 => s.x14
  | 15 => s.x15
  | _ => 0
theorem stA_at (s : St) (i : Nat) (h : i < 16) : (stA s)[i]? = some (.int .u32 (s.at i : Int)) := by
  rcases i with _ | _ | _ | _ | _ | _ | _ | _ | _ | _ | _ | _ | _ | _ | _ | _ | i
  all_goals first | rfl | (exfalso; omega)
theorem St.at_lt (s : St) (h : s.ok) (i : Nat) : s.at i < 4294967296 := by
  obtain ⟨h0, h1, h2, h3, h4, h5, h6, h7, h8, h9, h10, h11, h12, h13, h14, h15⟩ := h
  rcases i with _ | _ | _ | _ | _ | _ | _ | _ | _ | _ | _ | _ | _ | _ | _ | _ | i
  all_goals first | assumption | exact Nat.zero_lt_succ _

end Go.Proofs.Ytaoglljkghkbpaa
