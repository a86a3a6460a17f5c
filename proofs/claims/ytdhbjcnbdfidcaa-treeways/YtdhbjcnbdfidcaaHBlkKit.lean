/- Blocks of 256 bytes told by a function of the place; texts told by their bytes; a text copied into a block, and bytes made a text. No condition beyond those that each fact states. -/
import Derived.Test.YtdhbjcnbdfidcaaHMathCount
import Derived.Laws.Rows
import Derived.Laws.Tables
import Derived.Laws.CopyOwn
import Derived.Below
import Derived.Deep.MidRow
import Derived.Test.YtdhbjcnbdfidcaaRows
import Derived.ChangeKeysEq
import Derived.WalkKit
import Derived.Laws.BytesArg
import Derived.Laws.ResultCell
import Derived.Handy

namespace Go.Proofs.Ytdhbjcnbdfidcaa

structure St where
  x0 : Nat
  x1 : Nat
  x2 : Nat
  x3 : Nat
  x4 : Nat
  x5 : Nat
  x6 : Nat
  x7 : Nat
  x8 : Nat
  x9 : Nat
  x10 : Nat
  x11 : Nat
  x12 : Nat
  x13 : Nat
  x14 : Nat
  x15 : Nat
  deriving DecidableEq

def St.ok (s : St) : Prop := s.x0 < 4294967296 ∧ s.x1 < 4294967296 ∧ s.x2 < 4294967296 ∧ s.x3 < 4294967296 ∧ s.x4 < 4294967296 ∧ s.x5 < 4294967296 ∧ s.x6 < 4294967296 ∧ s.x7 < 4294967296 ∧ s.x8 < 4294967296 ∧ s.x9 < 4294967296 ∧ s.x10 < 4294967296 ∧ s.x11 < 4294967296 ∧ s.x12 < 4294967296 ∧ s.x13 < 4294967296 ∧ s.x14 < 4294967296 ∧ s.x15 < 4294967296
def stA (s : St) : Array Value := #[.int .u32 (s.x0 : Int), .int .u32 (s.x1 : Int), .int .u32 (s.x2 : Int), .int .u32 (s.x3 : Int), .int .u32 (s.x4 : Int), .int .u32 (s.x5 : Int), .int .u32 (s.x6 : Int), .int .u32 (s.x7 : Int), .int .u32 (s.x8 : Int), .int .u32 (s.x9 : Int), .int .u32 (s.x10 : Int), .int .u32 (s.x11 : Int), .int .u32 (s.x12 : Int), .int .u32 (s.x13 : Int), .int .u32 (s.x14 : Int), .int .u32 (s.x15 : Int)]
def roundN : Bool → St → St
  | false, s => ⟨(quarterN ⟨s.x0, s.x4, s.x8, s.x12⟩).a, (quarterN ⟨s.x1, s.x5, s.x9, s.x13⟩).a, (quarterN ⟨s.x2, s.x6, s.x10, s.x14⟩).a, (quarterN ⟨s.x3, s.x7, s.x11, s.x15⟩).a, (quarterN ⟨s.x0, s.x4, s.x8, s.x12⟩).b, (quarterN ⟨s.x1, s.x5, s.x9, s.x13⟩).b, (quarterN ⟨s.x2, s.x6, s.x10, s.x14⟩).b, (quarterN ⟨s.x3, s.x7, s.x11, s.x15⟩).b, (quarterN ⟨s.x0, s.x4, s.x8, s.x12⟩).c, (quarterN ⟨s.x1, s.x5, s.x9, s.x13⟩).c, (quarterN ⟨s.x2, s.x6, s.x10, s.x14⟩).c, (quarterN ⟨s.x3, s.x7, s.x11, s.x15⟩).c, (quarterN ⟨s.x0, s.x4, s.x8, s.x12⟩).d, (quarterN ⟨s.x1, s.x5, s.x9, s.x13⟩).d, (quarterN ⟨s.x2, s.x6, s.x10, s.x14⟩).d, (quarterN ⟨s.x3, s.x7, s.x11, s.x15⟩).d⟩
  | true, s => ⟨(quarterN ⟨s.x0, s.x5, s.x10, s.x15⟩).a, (quarterN ⟨s.x1, s.x6, s.x11, s.x12⟩).a, (quarterN ⟨s.x2, s.x7, s.x8, s.x13⟩).a, (quarterN ⟨s.x3, s.x4, s.x9, s.x14⟩).a, (quarterN ⟨s.x3, s.x4, s.x9, s.x14⟩).b, (quarterN ⟨s.x0, s.x5, s.x10, s.x15⟩).b, (quarterN ⟨s.x1, s.x6, s.x11, s.x12⟩).b, (quarterN ⟨s.x2, s.x7, s.x8, s.x13⟩).b, (quarterN ⟨s.x2, s.x7, s.x8, s.x13⟩).c, (quarterN ⟨s.x3, s.x4, s.x9, s.x14⟩).c, (quarterN ⟨s.x0, s.x5, s.x10, s.x15⟩).c, (quarterN ⟨s.x1, s.x6, s.x11, s.x12⟩).c, (quarterN ⟨s.x1, s.x6, s.x11, s.x12⟩).d, (quarterN ⟨s.x2, s.x7, s.x8, s.x13⟩).d, (quarterN ⟨s.x3, s.x4, s.x9, s.x14⟩).d, (quarterN ⟨s.x0, s.x5, s.x10, s.x15⟩).d⟩
def unroundN : Bool → St → St
  | false, s => ⟨(undoN ⟨s.x0, s.x4, s.x8, s.x12⟩).a, (undoN ⟨s.x1, s.x5, s.x9, s.x13⟩).a, (undoN ⟨s.x2, s.x6, s.x10, s.x14⟩).a, (undoN ⟨s.x3, s.x7, s.x11, s.x15⟩).a, (undoN ⟨s.x0, s.x4, s.x8, s.x12⟩).b, (undoN ⟨s.x1, s.x5, s.x9, s.x13⟩).b, (undoN ⟨s.x2, s.x6, s.x10, s.x14⟩).b, (undoN ⟨s.x3, s.x7, s.x11, s.x15⟩).b, (undoN ⟨s.x0, s.x4, s.x8, s.x12⟩).c, (undoN ⟨s.x1, s.x5, s.x9, s.x13⟩).c, (undoN ⟨s.x2, s.x6, s.x10, s.x14⟩).c, (undoN ⟨s.x3, s.x7, s.x11, s.x15⟩).c, (undoN ⟨s.x0, s.x4, s.x8, s.x12⟩).d, (undoN ⟨s.x1, s.x5, s.x9, s.x13⟩).d, (undoN ⟨s.x2, s.x6, s.x10, s.x14⟩).d, (undoN ⟨s.x3, s.x7, s.x11, s.x15⟩).d⟩
  | true, s => ⟨(undoN ⟨s.x0, s.x5, s.x10, s.x15⟩).a, (undoN ⟨s.x1, s.x6, s.x11, s.x12⟩).a, (undoN ⟨s.x2, s.x7, s.x8, s.x13⟩).a, (undoN ⟨s.x3, s.x4, s.x9, s.x14⟩).a, (undoN ⟨s.x3, s.x4, s.x9, s.x14⟩).b, (undoN ⟨s.x0, s.x5, s.x10, s.x15⟩).b, (undoN ⟨s.x1, s.x6, s.x11, s.x12⟩).b, (undoN ⟨s.x2, s.x7, s.x8, s.x13⟩).b, (undoN ⟨s.x2, s.x7, s.x8, s.x13⟩).c, (undoN ⟨s.x3, s.x4, s.x9, s.x14⟩).c, (undoN ⟨s.x0, s.x5, s.x10, s.x15⟩).c, (undoN ⟨s.x1, s.x6, s.x11, s.x12⟩).c, (undoN ⟨s.x1, s.x6, s.x11, s.x12⟩).d, (undoN ⟨s.x2, s.x7, s.x8, s.x13⟩).d, (undoN ⟨s.x3, s.x4, s.x9, s.x14⟩).d, (undoN ⟨s.x0, s.x5, s.x10, s.x15⟩).d⟩
def St.zero : St := ⟨0, 0, 0, 0, 0, 0, 0, 0, 0, 0, 0, 0, 0, 0, 0, 0⟩

theorem q_ok (a b c d : Nat) (ha : a < 4294967296) (hb : b < 4294967296) (hc : c < 4294967296) (hd : d < 4294967296) : (quarterN ⟨a, b, c, d⟩).ok := quarter_ok _ ⟨ha, hb, hc, hd⟩
theorem u_ok (a b c d : Nat) (ha : a < 4294967296) (hb : b < 4294967296) (hc : c < 4294967296) (hd : d < 4294967296) : (undoN ⟨a, b, c, d⟩).ok := undo_ok _ ⟨ha, hb, hc, hd⟩
theorem uq (a b c d : Nat) (ha : a < 4294967296) (hb : b < 4294967296) (hc : c < 4294967296) (hd : d < 4294967296) :
    undoN ⟨(quarterN ⟨a, b, c, d⟩).a, (quarterN ⟨a, b, c, d⟩).b, (quarterN ⟨a, b, c, d⟩).c, (quarterN ⟨a, b, c, d⟩).d⟩ = ⟨a, b, c, d⟩ := undo_quarter _ ⟨ha, hb, hc, hd⟩
theorem qu (a b c d : Nat) (ha : a < 4294967296) (hb : b < 4294967296) (hc : c < 4294967296) (hd : d < 4294967296) :
    quarterN ⟨(undoN ⟨a, b, c, d⟩).a, (undoN ⟨a, b, c, d⟩).b, (undoN ⟨a, b, c, d⟩).c, (undoN ⟨a, b, c, d⟩).d⟩ = ⟨a, b, c, d⟩ := quarter_undo _ ⟨ha, hb, hc, hd⟩

theorem round_ok (odd : Bool) (s : St) (h : s.ok) : (roundN odd s).ok := by
  obtain ⟨h0, h1, h2, h3, h4, h5, h6, h7, h8, h9, h10, h11, h12, h13, h14, h15⟩ := h
  cases odd
  · have q0 := q_ok _ _ _ _ h0 h4 h8 h12
    have q1 := q_ok _ _ _ _ h1 h5 h9 h13
    have q2 := q_ok _ _ _ _ h2 h6 h10 h14
    have q3 := q_ok _ _ _ _ h3 h7 h11 h15
    exact ⟨q0.1, q1.1, q2.1, q3.1, q0.2.1, q1.2.1, q2.2.1, q3.2.1, q0.2.2.1, q1.2.2.1, q2.2.2.1, q3.2.2.1, q0.2.2.2, q1.2.2.2, q2.2.2.2, q3.2.2.2⟩
  · have q0 := q_ok _ _ _ _ h0 h5 h10 h15
    have q1 := q_ok _ _ _ _ h1 h6 h11 h12
    have q2 := q_ok _ _ _ _ h2 h7 h8 h13
    have q3 := q_ok _ _ _ _ h3 h4 h9 h14
    exact ⟨q0.1, q1.1, q2.1, q3.1, q3.2.1, q0.2.1, q1.2.1, q2.2.1, q2.2.2.1, q3.2.2.1, q0.2.2.1, q1.2.2.1, q1.2.2.2, q2.2.2.2, q3.2.2.2, q0.2.2.2⟩
theorem unround_ok (odd : Bool) (s : St) (h : s.ok) : (unroundN odd s).ok := by
  obtain ⟨h0, h1, h2, h3, h4, h5, h6, h7, h8, h9, h10, h11, h12, h13, h14, h15⟩ := h
  cases odd
  · have q0 := u_ok _ _ _ _ h0 h4 h8 h12
    have q1 := u_ok _ _ _ _ h1 h5 h9 h13
    have q2 := u_ok _ _ _ _ h2 h6 h10 h14
    have q3 := u_ok _ _ _ _ h3 h7 h11 h15
    exact ⟨q0.1, q1.1, q2.1, q3.1, q0.2.1, q1.2.1, q2.2.1, q3.2.1, q0.2.2.1, q1.2.2.1, q2.2.2.1, q3.2.2.1, q0.2.2.2, q1.2.2.2, q2.2.2.2, q3.2.2.2⟩
  · have q0 := u_ok _ _ _ _ h0 h5 h10 h15
    have q1 := u_ok _ _ _ _ h1 h6 h11 h12
    have q2 := u_ok _ _ _ _ h2 h7 h8 h13
    have q3 := u_ok _ _ _ _ h3 h4 h9 h14
    exact ⟨q0.1, q1.1, q2.1, q3.1, q3.2.1, q0.2.1, q1.2.1, q2.2.1, q2.2.2.1, q3.2.2.1, q0.2.2.1, q1.2.2.1, q1.2.2.2, q2.2.2.2, q3.2.2.2, q0.2.2.2⟩
theorem unround_round (odd : Bool) (s : St) (h : s.ok) : unroundN odd (roundN odd s) = s := by
  obtain ⟨h0, h1, h2, h3, h4, h5, h6, h7, h8, h9, h10, h11, h12, h13, h14, h15⟩ := h
  obtain ⟨x0, x1, x2, x3, x4, x5, x6, x7, x8, x9, x10, x11, x12, x13, x14, x15⟩ := s
  cases odd
  · simp only [unroundN, roundN, uq _ _ _ _ h0 h4 h8 h12, uq _ _ _ _ h1 h5 h9 h13, uq _ _ _ _ h2 h6 h10 h14, uq _ _ _ _ h3 h7 h11 h15]
  · simp only [unroundN, roundN, uq _ _ _ _ h0 h5 h10 h15, uq _ _ _ _ h1 h6 h11 h12, uq _ _ _ _ h2 h7 h8 h13, uq _ _ _ _ h3 h4 h9 h14]
theorem round_unround (odd : Bool) (s : St) (h : s.ok) : roundN odd (unroundN odd s) = s := by
  obtain ⟨h0, h1, h2, h3, h4, h5, h6, h7, h8, h9, h10, h11, h12, h13, h14, h15⟩ := h
  obtain ⟨x0, x1, x2, x3, x4, x5, x6, x7, x8, x9, x10, x11, x12, x13, x14, x15⟩ := s
  cases odd
  · simp only [roundN, unroundN, qu _ _ _ _ h0 h4 h8 h12, qu _ _ _ _ h1 h5 h9 h13, qu _ _ _ _ h2 h6 h10 h14, qu _ _ _ _ h3 h7 h11 h15]
  · simp only [roundN, unroundN, qu _ _ _ _ h0 h5 h10 h15, qu _ _ _ _ h1 h6 h11 h12, qu _ _ _ _ h2 h7 h8 h13, qu _ _ _ _ h3 h4 h9 h14]
theorem round_zero (odd : Bool) : roundN odd St.zero = St.zero := by
  cases odd <;> simp only [roundN, St.zero, quarter_zero]

/-- a state behind k rounds -/
def fwd (s : St) : Nat → St
  | 0 => s
  | k + 1 => roundN (decide (k % 2 = 1)) (fwd s k)
/-- a state of which k of n rounds are undone, the last one first -/
def bk (n : Nat) (s : St) : Nat → St
  | 0 => s
  | k + 1 => unroundN (decide ((n - 1 - k) % 2 = 1)) (bk n s k)
theorem fwd_ok (s : St) (h : s.ok) (k : Nat) : (fwd s k).ok := by
  induction k with
  | zero => exact h
  | succ k ih => exact round_ok _ _ ih
theorem bk_ok (n : Nat) (s : St) (h : s.ok) (k : Nat) : (bk n s k).ok := by
  induction k with
  | zero => exact h
  | succ k ih => exact unround_ok _ _ ih
theorem bk_fwd (n : Nat) (s : St) (h : s.ok) (k : Nat) (hk : k ≤ n) : bk n (fwd s n) k = fwd s (n - k) := by
  induction k with
  | zero => rfl
  | succ k ih =>
    show unroundN _ (bk n (fwd s n) k) = _
    rw [ih (by omega)]
    have e : n - k = (n - (k + 1)) + 1 := by omega
    have e2 : n - 1 - k = n - (k + 1) := by omega
    rw [e, e2]
    exact unround_round _ _ (fwd_ok s h _)
theorem back_forth (n : Nat) (s : St) (h : s.ok) : bk n (fwd s n) n = s := by
  rw [bk_fwd n s h n (Nat.le_refl n), Nat.sub_self]; rfl
theorem fwd_bk (n : Nat) (s : St) (h : s.ok) (j : Nat) (hj : j ≤ n) : fwd (bk n s n) j = bk n s (n - j) := by
  induction j with
  | zero => rfl
  | succ j ih =>
    show roundN _ (fwd (bk n s n) j) = _
    rw [ih (by omega)]
    have e : n - j = (n - (j + 1)) + 1 := by omega
    rw [e]
    show roundN _ (unroundN _ (bk n s (n - (j + 1)))) = _
    have e2 : n - 1 - (n - (j + 1)) = j := by omega
    rw [e2]
    exact round_unround _ _ (bk_ok n s h _)
theorem forth_back (n : Nat) (s : St) (h : s.ok) : fwd (bk n s n) n = s := by
  rw [fwd_bk n s h n (Nat.le_refl n), Nat.sub_self]; rfl
theorem fwd_zero (k : Nat) : fwd St.zero k = St.zero := by
  induction k with
  | zero => rfl
  | succ k ih => show roundN _ (fwd St.zero k) = _; rw [ih, round_zero]
theorem fwd_inj (n : Nat) (s t : St) (hs : s.ok) (ht : t.ok) (h : fwd s n = fwd t n) : s = t := by
  rw [← back_forth n s hs, h, back_forth n t ht]

theorem stA_size (s : St) : (stA s).size = 16 := rfl
theorem stA_inj (s t : St) (h : stA s = stA t) : s = t := by
  obtain ⟨x0, x1, x2, x3, x4, x5, x6, x7, x8, x9, x10, x11, x12, x13, x14, x15⟩ := s
  obtain ⟨y0, y1, y2, y3, y4, y5, y6, y7, y8, y9, y10, y11, y12, y13, y14, y15⟩ := t
  simp only [stA, Array.mk.injEq, List.cons.injEq, Value.int.injEq, Int.natCast_inj, true_and, and_true] at h
  simp only [St.mk.injEq]
  exact h

/-- the word at a place -/
def St.at (s : St) : Nat → Nat
  | 0 => s.x0
  | 1 => s.x1
  | 2 => s.x2
  | 3 => s.x3
  | 4 => s.x4
  | 5 => s.x5
  | 6 => s.x6
  | 7 => s.x7
  | 8 => s.x8
  | 9 => s.x9
  | 10 => s.x10
  | 11 => s.x11
  | 12 => s.x12
  | 13 => s.x13
  | 14 => s.x14
  | 15 => s.x15
  | _ => 0
theorem stA_at (s : St) (i : Nat) (h : i < 16) : (stA s)[i]? = some (.int .u32 (s.at i : Int)) := by
  rcases i with _ | _ | _ | _ | _ | _ | _ | _ | _ | _ | _ | _ | _ | _ | _ | _ | i
  all_goals first | rfl | (exfalso; omega)
theorem St.at_lt (s : St) (h : s.ok) (i : Nat) : s.at i < 4294967296 := by
  obtain ⟨h0, h1, h2, h3, h4, h5, h6, h7, h8, h9, h10, h11, h12, h13, h14, h15⟩ := h
  rcases i with _ | _ | _ | _ | _ | _ | _ | _ | _ | _ | _ | _ | _ | _ | _ | _ | i
  all_goals first | assumption | exact Nat.zero_lt_succ _

end Go.Proofs.Ytdhbjcnbdfidcaa

namespace Go.Proofs.Ytdhbjcnbdfidcaa
open Go Go.RowKit

/-- block g holds the cells, of type t -/
def Blk (w : World) (g : Nat) (t : TypeId) (cs : Array Value) : Prop := w.heap[g]? = some (.cells cs t (0, 0))

theorem Blk.lt {w : World} {g : Nat} {t : TypeId} {cs : Array Value} (h : Blk w g t cs) : g < w.heap.size := (Array.getElem?_eq_some_iff.1 h).1
theorem Blk.below {w w' : World} {g B : Nat} {t : TypeId} {cs : Array Value} (h : Blk w g t cs) (hb : Below B w w') (hg : g < B) : Blk w' g t cs := by
  unfold Blk at *; rw [hb.block g hg]; exact h
theorem Blk.drew {w : World} {g : Nat} {t : TypeId} {cs : Array Value} (h : Blk w g t cs) : Blk w.drew g t cs := h
theorem Blk.alloc {w : World} {g : Nat} {t : TypeId} {cs : Array Value} (h : Blk w g t cs) (o : Obj) : Blk (w.alloc o) g t cs := by
  have := h.lt
  unfold Blk at *; rw [Below.heap_alloc w o g this]; exact h
theorem Blk.new (w : World) (t : TypeId) (cs : Array Value) : Blk (w.alloc (.cells cs t)) w.heap.size t cs := heap_alloc_new w _
theorem Blk.set {w : World} {g : Nat} {t : TypeId} {old : Array Value} (h : Blk w g t old) (cs : Array Value) : Blk (w.setRow g cs) g t cs := setRow_heap w g old cs t _ h
theorem Blk.other {w : World} {g k : Nat} {t : TypeId} {old : Array Value} (h : Blk w k t old) (cs : Array Value) (hk : k ≠ g) : Blk (w.setRow g cs) k t old := by
  unfold Blk at *; rw [setRow_other w g k cs hk]; exact h
theorem Blk.cell {w : World} {g : Nat} {t : TypeId} {cs : Array Value} (h : Blk w g t cs) (i : Nat) : w.cell? ⟨g, i, none⟩ = cs[i]? := cell_of_row _ _ i cs t (0, 0) h

theorem Blk.load {P : Program} {w : World} {g : Nat} {t : TypeId} {cs : Array Value} (h : Blk w g t cs) {n : Nat} (hn : cs.size = n) :
    (loadCellsFrom ⟨g, 0, none⟩ 0 n #[]).run P w = .ok cs w := by
  subst hn
  have := run_loadCells_list (P := P) w ⟨g, 0, none⟩ cs.toList (fun j v hv => by
    have hadd : (⟨g, 0, none⟩ : Addr).add j = ⟨g, j, none⟩ := by unfold Addr.add; split <;> simp_all
    rw [hadd, h.cell]
    simpa using hv)
  simpa [loadCells] using this
theorem Blk.store {P : Program} {w : World} {g : Nat} {t : TypeId} {old : Array Value} (h : Blk w g t old) (cs : Array Value) (hn : old.size = cs.size) (h1 : ∀ v ∈ cs.toList, v.oneCell' = true) :
    (storeCells ⟨g, 0, none⟩ cs.toList 0).run P w = .ok () (w.setRow g cs) := by
  have := run_storeCells_from (P := P) g t cs.toList 0 old w h (by simp; omega) h1
  rw [this]; simp
theorem stA_one (s : St) : ∀ v ∈ (stA s).toList, v.oneCell' = true := by
  intro v hv
  simp only [stA, List.mem_cons, List.not_mem_nil, or_false] at hv
  rcases hv with h | h | h | h | h | h | h | h | h | h | h | h | h | h | h | h <;> (subst h; rfl)

-- sixteen cells
/-- sixteen cells, of a state -/
structure Cells (w : World) (g : Nat) (s : St) : Prop where
  c0 : w.cell? ⟨g, 0, none⟩ = some (.int .u32 (s.x0 : Int))
  c1 : w.cell? ⟨g, 1, none⟩ = some (.int .u32 (s.x1 : Int))
  c2 : w.cell? ⟨g, 2, none⟩ = some (.int .u32 (s.x2 : Int))
  c3 : w.cell? ⟨g, 3, none⟩ = some (.int .u32 (s.x3 : Int))
  c4 : w.cell? ⟨g, 4, none⟩ = some (.int .u32 (s.x4 : Int))
  c5 : w.cell? ⟨g, 5, none⟩ = some (.int .u32 (s.x5 : Int))
  c6 : w.cell? ⟨g, 6, none⟩ = some (.int .u32 (s.x6 : Int))
  c7 : w.cell? ⟨g, 7, none⟩ = some (.int .u32 (s.x7 : Int))
  c8 : w.cell? ⟨g, 8, none⟩ = some (.int .u32 (s.x8 : Int))
  c9 : w.cell? ⟨g, 9, none⟩ = some (.int .u32 (s.x9 : Int))
  c10 : w.cell? ⟨g, 10, none⟩ = some (.int .u32 (s.x10 : Int))
  c11 : w.cell? ⟨g, 11, none⟩ = some (.int .u32 (s.x11 : Int))
  c12 : w.cell? ⟨g, 12, none⟩ = some (.int .u32 (s.x12 : Int))
  c13 : w.cell? ⟨g, 13, none⟩ = some (.int .u32 (s.x13 : Int))
  c14 : w.cell? ⟨g, 14, none⟩ = some (.int .u32 (s.x14 : Int))
  c15 : w.cell? ⟨g, 15, none⟩ = some (.int .u32 (s.x15 : Int))
/-- sixteen cells that may be written -/
structure Frees (w : World) (g : Nat) : Prop where
  f0 : w.frozen? ⟨g, 0, none⟩ = false
  f1 : w.frozen? ⟨g, 1, none⟩ = false
  f2 : w.frozen? ⟨g, 2, none⟩ = false
  f3 : w.frozen? ⟨g, 3, none⟩ = false
  f4 : w.frozen? ⟨g, 4, none⟩ = false
  f5 : w.frozen? ⟨g, 5, none⟩ = false
  f6 : w.frozen? ⟨g, 6, none⟩ = false
  f7 : w.frozen? ⟨g, 7, none⟩ = false
  f8 : w.frozen? ⟨g, 8, none⟩ = false
  f9 : w.frozen? ⟨g, 9, none⟩ = false
  f10 : w.frozen? ⟨g, 10, none⟩ = false
  f11 : w.frozen? ⟨g, 11, none⟩ = false
  f12 : w.frozen? ⟨g, 12, none⟩ = false
  f13 : w.frozen? ⟨g, 13, none⟩ = false
  f14 : w.frozen? ⟨g, 14, none⟩ = false
  f15 : w.frozen? ⟨g, 15, none⟩ = false
theorem Blk.cells {w : World} {g : Nat} {t : TypeId} {s : St} (h : Blk w g t (stA s)) : Cells w g s :=
  ⟨by rw [h.cell]; rfl, by rw [h.cell]; rfl, by rw [h.cell]; rfl, by rw [h.cell]; rfl, by rw [h.cell]; rfl, by rw [h.cell]; rfl, by rw [h.cell]; rfl, by rw [h.cell]; rfl, by rw [h.cell]; rfl, by rw [h.cell]; rfl, by rw [h.cell]; rfl, by rw [h.cell]; rfl, by rw [h.cell]; rfl, by rw [h.cell]; rfl, by rw [h.cell]; rfl, by rw [h.cell]; rfl⟩
theorem Blk.frees {w : World} {g : Nat} {t : TypeId} {cs : Array Value} (h : Blk w g t cs) : Frees w g := by
  have : ∀ i, w.frozen? ⟨g, i, none⟩ = false := fun i => by unfold Blk at h; simp [World.frozen?, h]
  exact ⟨this 0, this 1, this 2, this 3, this 4, this 5, this 6, this 7, this 8, this 9, this 10, this 11, this 12, this 13, this 14, this 15⟩
theorem Blk.put {w : World} {g : Nat} {t : TypeId} {cs : Array Value} (h : Blk w g t cs) (i : Nat) (v : Value) : Blk (w.setCell ⟨g, i, none⟩ v) g t (cs.setIfInBounds i v) := by
  rw [setCell_eq_setRow w g i cs t (0, 0) v h]; exact h.set _
theorem Blk.put_other {w : World} {g k : Nat} {t : TypeId} {cs : Array Value} (h : Blk w k t cs) (i : Nat) (v : Value) (hk : k ≠ g) : Blk (w.setCell ⟨g, i, none⟩ v) k t cs := by
  unfold Blk at *; rw [Below.heap_setCell w ⟨g, i, none⟩ v k hk]; exact h
/-- a world, and sixteen cells of a block written one by one -/
def put16 (w : World) (g : Nat) (s : St) : World :=
  (((((((((((((((w.setCell ⟨g, 0, none⟩ (.int .u32 (s.x0 : Int))).setCell ⟨g, 1, none⟩ (.int .u32 (s.x1 : Int))).setCell ⟨g, 2, none⟩ (.int .u32 (s.x2 : Int))).setCell ⟨g, 3, none⟩ (.int .u32 (s.x3 : Int))).setCell ⟨g, 4, none⟩ (.int .u32 (s.x4 : Int))).setCell ⟨g, 5, none⟩ (.int .u32 (s.x5 : Int))).setCell ⟨g, 6, none⟩ (.int .u32 (s.x6 : Int))).setCell ⟨g, 7, none⟩ (.int .u32 (s.x7 : Int))).setCell ⟨g, 8, none⟩ (.int .u32 (s.x8 : Int))).setCell ⟨g, 9, none⟩ (.int .u32 (s.x9 : Int))).setCell ⟨g, 10, none⟩ (.int .u32 (s.x10 : Int))).setCell ⟨g, 11, none⟩ (.int .u32 (s.x11 : Int))).setCell ⟨g, 12, none⟩ (.int .u32 (s.x12 : Int))).setCell ⟨g, 13, none⟩ (.int .u32 (s.x13 : Int))).setCell ⟨g, 14, none⟩ (.int .u32 (s.x14 : Int))).setCell ⟨g, 15, none⟩ (.int .u32 (s.x15 : Int))
theorem blk_put16 {w : World} {g : Nat} {t : TypeId} {o : St} (h : Blk w g t (stA o)) (s : St) : Blk (put16 w g s) g t (stA s) := by
  have := (((((((((((((((h.put 0 (.int .u32 (s.x0 : Int))).put 1 (.int .u32 (s.x1 : Int))).put 2 (.int .u32 (s.x2 : Int))).put 3 (.int .u32 (s.x3 : Int))).put 4 (.int .u32 (s.x4 : Int))).put 5 (.int .u32 (s.x5 : Int))).put 6 (.int .u32 (s.x6 : Int))).put 7 (.int .u32 (s.x7 : Int))).put 8 (.int .u32 (s.x8 : Int))).put 9 (.int .u32 (s.x9 : Int))).put 10 (.int .u32 (s.x10 : Int))).put 11 (.int .u32 (s.x11 : Int))).put 12 (.int .u32 (s.x12 : Int))).put 13 (.int .u32 (s.x13 : Int))).put 14 (.int .u32 (s.x14 : Int))).put 15 (.int .u32 (s.x15 : Int))
  simp only [stA, List.setIfInBounds_toArray, List.set_cons_zero, List.set_cons_succ] at this
  unfold put16
  exact this
theorem blk_put16_other {w : World} {g k : Nat} {t : TypeId} {cs : Array Value} (h : Blk w k t cs) (s : St) (hk : k ≠ g) : Blk (put16 w g s) k t cs := by
  have := (((((((((((((((h.put_other 0 (.int .u32 (s.x0 : Int)) hk).put_other 1 (.int .u32 (s.x1 : Int)) hk).put_other 2 (.int .u32 (s.x2 : Int)) hk).put_other 3 (.int .u32 (s.x3 : Int)) hk).put_other 4 (.int .u32 (s.x4 : Int)) hk).put_other 5 (.int .u32 (s.x5 : Int)) hk).put_other 6 (.int .u32 (s.x6 : Int)) hk).put_other 7 (.int .u32 (s.x7 : Int)) hk).put_other 8 (.int .u32 (s.x8 : Int)) hk).put_other 9 (.int .u32 (s.x9 : Int)) hk).put_other 10 (.int .u32 (s.x10 : Int)) hk).put_other 11 (.int .u32 (s.x11 : Int)) hk).put_other 12 (.int .u32 (s.x12 : Int)) hk).put_other 13 (.int .u32 (s.x13 : Int)) hk).put_other 14 (.int .u32 (s.x14 : Int)) hk).put_other 15 (.int .u32 (s.x15 : Int)) hk
  exact this
theorem below_put16 {B g : Nat} {w0 w : World} (h : Below B w0 w) (hg : B ≤ g) (s : St) : Below B w0 (put16 w g s) := by
  have := (((((((((((((((h.setCell (p := ⟨g, 0, none⟩) hg (.int .u32 (s.x0 : Int))).setCell (p := ⟨g, 1, none⟩) hg (.int .u32 (s.x1 : Int))).setCell (p := ⟨g, 2, none⟩) hg (.int .u32 (s.x2 : Int))).setCell (p := ⟨g, 3, none⟩) hg (.int .u32 (s.x3 : Int))).setCell (p := ⟨g, 4, none⟩) hg (.int .u32 (s.x4 : Int))).setCell (p := ⟨g, 5, none⟩) hg (.int .u32 (s.x5 : Int))).setCell (p := ⟨g, 6, none⟩) hg (.int .u32 (s.x6 : Int))).setCell (p := ⟨g, 7, none⟩) hg (.int .u32 (s.x7 : Int))).setCell (p := ⟨g, 8, none⟩) hg (.int .u32 (s.x8 : Int))).setCell (p := ⟨g, 9, none⟩) hg (.int .u32 (s.x9 : Int))).setCell (p := ⟨g, 10, none⟩) hg (.int .u32 (s.x10 : Int))).setCell (p := ⟨g, 11, none⟩) hg (.int .u32 (s.x11 : Int))).setCell (p := ⟨g, 12, none⟩) hg (.int .u32 (s.x12 : Int))).setCell (p := ⟨g, 13, none⟩) hg (.int .u32 (s.x13 : Int))).setCell (p := ⟨g, 14, none⟩) hg (.int .u32 (s.x14 : Int))).setCell (p := ⟨g, 15, none⟩) hg (.int .u32 (s.x15 : Int))
  exact this

end Go.Proofs.Ytdhbjcnbdfidcaa

namespace Go.Proofs.Ytdhbjcnbdfidcaa
open Go Go.RowKit

def va (n : Nat) (f : Nat → Value) : Array Value := ((List.range n).map f).toArray
theorem va_size (n : Nat) (f : Nat → Value) : (va n f).size = n := by simp [va]
theorem va_at {n : Nat} (f : Nat → Value) {i : Nat} (h : i < n) : (va n f)[i]? = some (f i) := by simp [va, h]
theorem va_ext {n : Nat} {f : Nat → Value} {a : Array Value} (hs : a.size = n) (h : ∀ i, i < n → a[i]? = some (f i)) : a = va n f := by
  apply Array.ext_getElem?
  intro i
  by_cases hi : i < n
  · rw [h i hi, va_at f hi]
  · rw [Array.getElem?_eq_none (by omega), Array.getElem?_eq_none (by rw [va_size]; omega)]
theorem va_congr {n : Nat} {f g : Nat → Value} (h : ∀ i, i < n → f i = g i) : va n f = va n g :=
  va_ext (va_size n f) fun i hi => by rw [va_at f hi, h i hi]
def upd (f : Nat → Value) (i : Nat) (v : Value) : Nat → Value := fun j => if j = i then v else f j
theorem va_set (n : Nat) (f : Nat → Value) (i : Nat) (v : Value) : (va n f).setIfInBounds i v = va n (upd f i v) := by
  refine va_ext (by simp [va_size]) fun j hj => ?_
  rw [Array.getElem?_setIfInBounds, va_size]
  unfold upd
  by_cases h : i = j
  · subst h; simp [hj]
  · rw [if_neg h, if_neg (fun e => h e.symm), va_at f hj]
theorem va_toList (n : Nat) (f : Nat → Value) : (va n f).toList = (List.range n).map f := by simp [va]
theorem va_one {n : Nat} {f : Nat → Value} (h : ∀ i, i < n → (f i).oneCell' = true) : (va n f).all (·.oneCell') = true := by
  refine all_oneCell_toArray fun v hv => ?_
  obtain ⟨i, hi, rfl⟩ := List.mem_map.1 hv
  exact h i (List.mem_range.1 hi)
def iv (k : IntKind) (f : Nat → Nat) : Nat → Value := fun i => .int k (f i : Int)
theorem iv_one (k : IntKind) (f : Nat → Nat) (n : Nat) : (va n (iv k f)).all (·.oneCell') = true := va_one fun _ _ => rfl
def updN (f : Nat → Nat) (i v : Nat) : Nat → Nat := fun j => if j = i then v else f j
theorem upd_iv (k : IntKind) (f : Nat → Nat) (i v : Nat) : upd (iv k f) i (.int k (v : Int)) = iv k (updN f i v) := by
  funext j
  unfold upd iv updN
  by_cases h : j = i
  · rw [if_pos h, if_pos h]
  · rw [if_neg h, if_neg h]
theorem va_iv_inj {k : IntKind} {n : Nat} {f g : Nat → Nat} (h : va n (iv k f) = va n (iv k g)) : ∀ i, i < n → f i = g i := fun i hi => by
  have h1 := va_at (iv k f) hi
  rw [h, va_at (iv k g) hi] at h1
  unfold iv at h1
  injection h1 with h1
  injection h1 with _ h1
  omega
/-- the first k places told by f, the others by g -/
def fupN (k : Nat) (f g : Nat → Nat) : Nat → Nat := fun j => if j < k then f j else g j
theorem fup_zero (f g : Nat → Nat) : fupN 0 f g = g := by
  funext j
  exact if_neg (by omega)
theorem fup_step (κ : IntKind) (n k : Nat) (f g : Nat → Nat) : va n (upd (iv κ (fupN k f g)) k (.int κ (f k : Int))) = va n (iv κ (fupN (k + 1) f g)) := by
  rw [upd_iv]
  congr 2
  funext j
  unfold updN fupN
  by_cases h : j = k
  · subst h; rw [if_pos rfl, if_pos (by omega)]
  · rw [if_neg h]
    by_cases h2 : j < k
    · rw [if_pos h2, if_pos (by omega)]
    · rw [if_neg h2, if_neg (by omega)]
theorem fup_all (κ : IntKind) (n k : Nat) (f g : Nat → Nat) (h : n ≤ k) : va n (iv κ (fupN k f g)) = va n (iv κ f) := va_congr fun j hj => by
  show Value.int κ ((fupN k f g j : Nat) : Int) = Value.int κ (f j : Int)
  rw [show fupN k f g j = f j from if_pos (by omega)]
/-- a run of values laid over the places from o on -/
def over (f : Nat → Value) (o : Nat) (vs : List Value) : Nat → Value := fun i => if o ≤ i ∧ i < o + vs.length then vs.getD (i - o) undef else f i
theorem over_nil (f : Nat → Value) (o : Nat) : over f o [] = f := by
  funext i
  unfold over
  rw [if_neg (by simp)]
theorem over_cons (f : Nat → Value) (o : Nat) (v : Value) (vs : List Value) : over (upd f o v) (o + 1) vs = over f o (v :: vs) := by
  funext i
  unfold over upd
  by_cases h0 : i = o
  · subst h0
    rw [if_neg (by omega), if_pos rfl, if_pos (by simp)]
    simp
  · by_cases h1 : o + 1 ≤ i ∧ i < o + 1 + vs.length
    · rw [if_pos h1, if_pos (by simp; omega)]
      obtain ⟨k, hk⟩ : ∃ k, i - o = k + 1 := ⟨i - o - 1, by omega⟩
      rw [hk, show i - (o + 1) = k from by omega]; simp
    · rw [if_neg h1, if_neg h0, if_neg (by simp; omega)]
theorem Blk.cells_put {g t n : Nat} : ∀ (vs : List Value) (o : Nat) (w : World) (f : Nat → Value), Blk w g t (va n f) → Blk (w.setCells g o vs) g t (va n (over f o vs))
  | [], o, w, f, h => by rw [over_nil]; exact h
  | v :: vs, o, w, f, h => by
    rw [World.setCells, ← over_cons]
    refine Blk.cells_put vs (o + 1) _ _ ?_
    have := h.put o v
    rw [va_set] at this
    exact this
theorem Blk.cells_other {g k t : Nat} {cs : Array Value} (hk : k ≠ g) : ∀ (vs : List Value) (o : Nat) (w : World), Blk w k t cs → Blk (w.setCells g o vs) k t cs
  | [], _, _, h => h
  | v :: vs, o, w, h => by
    rw [World.setCells]
    exact Blk.cells_other hk vs (o + 1) _ (h.put_other o v hk)
theorem below_setCells {B g : Nat} {w0 : World} (hg : B ≤ g) : ∀ (vs : List Value) (o : Nat) (w : World), Below B w0 w → Below B w0 (w.setCells g o vs)
  | [], _, _, h => h
  | v :: vs, o, w, h => by
    rw [World.setCells]
    exact below_setCells hg vs (o + 1) _ (h.setCell (p := ⟨g, o, none⟩) hg v)
theorem size_setCells {g : Nat} : ∀ (vs : List Value) (o : Nat) (w : World), (w.setCells g o vs).heap.size = w.heap.size
  | [], _, _ => rfl
  | v :: vs, o, w => by
    rw [World.setCells, size_setCells vs (o + 1)]
    simp
theorem Blk.range {w : World} {g t n : Nat} {f : Nat → Value} (h : Blk w g t (va n f)) (o m : Nat) (hm : o + m ≤ n) : w.rangeAt g o ((List.range m).map fun j => f (o + j)) := fun j v hv => by
  rw [h.cell]
  have hj : j < m := by
    have := (List.getElem?_eq_some_iff.1 hv).1
    simpa using this
  rw [va_at f (by omega)]
  simpa [hj] using hv
theorem Blk.there {w : World} {g t : Nat} {cs : Array Value} (h : Blk w g t cs) (o m : Nat) (hm : o + m ≤ cs.size) : w.there g o m := fun j hj => by
  refine ⟨?_, ?_⟩
  · rw [h.cell, Array.getElem?_eq_getElem (by omega)]; rfl
  · have := h; unfold Blk at this; simp [World.frozen?, this]
theorem Blk.frozen {w : World} {g t : Nat} {cs : Array Value} (h : Blk w g t cs) (i : Nat) : w.frozen? ⟨g, i, none⟩ = false := by
  have := h; unfold Blk at this; simp [World.frozen?, this]
theorem Blk.cv {w : World} {g t n : Nat} {f : Nat → Value} (h : Blk w g t (va n f)) {i : Nat} (hi : i < n) : w.cell? ⟨g, i, none⟩ = some (f i) := by rw [h.cell, va_at f hi]
end Go.Proofs.Ytdhbjcnbdfidcaa

namespace Go.Proofs.Ytdhbjcnbdfidcaa
open Go Go.RowKit

/-- F, and from place a on m places of G -/
def overF (F : Nat → Value) (a m : Nat) (G : Nat → Value) : Nat → Value := fun i => if a ≤ i ∧ i < a + m then G (i - a) else F i
theorem splice_range (n a m : Nat) (F G : Nat → Value) (h : a + m ≤ n) :
    splice ((List.range n).map F) a ((List.range m).map G) = (List.range n).map (overF F a m G) := by
  apply List.ext_getElem?
  intro i
  unfold splice
  have l1 : (((List.range n).map F).take a).length = a := by simp; omega
  have l2 : ((List.range m).map G).length = m := by simp
  by_cases h1 : i < a
  · rw [List.getElem?_append_left (by omega), List.getElem?_take_of_lt h1]
    have : overF F a m G i = F i := if_neg (by omega)
    simp [show i < n by omega, this]
  · rw [List.getElem?_append_right (by omega), l1]
    by_cases h2 : i < a + m
    · rw [List.getElem?_append_left (by omega)]
      have : overF F a m G i = G (i - a) := if_pos (by omega)
      simp [show i < n by omega, show i - a < m by omega, this]
    · rw [List.getElem?_append_right (by omega), List.getElem?_drop, l2, show a + m + (i - a - m) = i from by omega]
      have : overF F a m G i = F i := if_neg (by omega)
      by_cases h3 : i < n
      · simp [h3, this]
      · simp [h3]
theorem splice_va (n a m : Nat) (F G : Nat → Value) (h : a + m ≤ n) : (splice ((List.range n).map F) a ((List.range m).map G)).toArray = va n (overF F a m G) := by
  rw [splice_range n a m F G h]; rfl
theorem over_fup (κ : IntKind) (n a m : Nat) (f g : Nat → Nat) : va n (overF (iv κ (fupN a f g)) a m fun j => .int κ ((f (a + j) : Nat) : Int)) = va n (iv κ (fupN (a + m) f g)) := va_congr fun i hi => by
  show overF (iv κ (fupN a f g)) a m (fun j => .int κ ((f (a + j) : Nat) : Int)) i = Value.int κ ((fupN (a + m) f g i : Nat) : Int)
  unfold overF fupN
  by_cases h1 : a ≤ i ∧ i < a + m
  · rw [if_pos h1, if_pos h1.2]
    show Value.int κ ((f (a + (i - a)) : Nat) : Int) = _
    rw [show a + (i - a) = i from by omega]
  · rw [if_neg h1]
    show Value.int κ ((if i < a then f i else g i : Nat) : Int) = _
    by_cases h2 : i < a
    · rw [if_pos h2, if_pos (by omega)]
    · rw [if_neg h2, if_neg (by omega)]
theorem mem_iv_one (κ : IntKind) (m : Nat) (f : Nat → Nat) : ∀ v ∈ (List.range m).map (fun j => Value.int κ ((f j : Nat) : Int)), v.oneCell' = true := fun v hv => by
  obtain ⟨j, _, rfl⟩ := List.mem_map.1 hv
  rfl
end Go.Proofs.Ytdhbjcnbdfidcaa

namespace Go.Proofs.Ytdhbjcnbdfidcaa
open Go Go.RowKit

theorem run_items {P : Program} {w : World} {e : TypeId} {k : IntKind} (d : Nat) (he : P.underlying e = some (.int k)) (f g : Nat → Int) (xs ys : Array Value) :
    ∀ is : List Nat, (∀ i ∈ is, xs[i]? = some (.int k (f i)) ∧ ys[i]? = some (.int k (g i))) → (Op.eqItems (d + 1) e 1 xs ys is).run P w = .ok (is.all fun i => f i == g i) w
  | [], _ => by simp [Op.eqItems]
  | i :: is, h => by
    obtain ⟨h1, h2⟩ := h i (by simp)
    have ih := run_items (w := w) d he f g xs ys is fun j hj => h j (by simp [hj])
    have p1 : (part e xs (i * 1)).run P w = .ok (.int k (f i)) w := by
      simp [part, isAgg, run_underlying he, h1]
    have p2 : (part e ys (i * 1)).run P w = .ok (.int k (g i)) w := by
      simp [part, isAgg, run_underlying he, h2]
    have p3 : (Op.equalIn (d + 1) e (.int k (f i)) (.int k (g i))).run P w = .ok (f i == g i) w := by
      simp [Op.equalIn, run_underlying he]
    simp only [Op.eqItems, Sem.run_bind, p1, p2, p3, Result.andThen_ok]
    by_cases hq : f i = g i
    · simp only [hq, beq_self_eq_true, Bool.not_true, Bool.false_eq_true, if_false, ih, List.all_cons, Bool.true_and]
    · have : (f i == g i) = false := by simpa using hq
      simp only [this, Bool.not_false, if_true, Sem.run_pure, List.all_cons, Bool.false_and]

set_option maxRecDepth 100000 in
theorem eq_state (t : TypeId) (ht : Try.prog.underlying t = some (.array 16 32)) (a b : St) (w : World) : (Op.equalIn 10000 t (.agg (stA a)) (.agg (stA b))).run Try.prog w = .ok (decide (a = b)) w := by
  obtain ⟨i, hi⟩ : ∃ i, Try.prog.info? 32 = some i := Option.isSome_iff_exists.1 (by kernel_rfl)
  have hc : Try.prog.cellsOf 32 = 1 := by kernel_rfl
  rw [show (10000 : Nat) = 9998 + 1 + 1 from rfl, run_equalIn_array w (9998 + 1) (stA a) (stA b) ht hi, hc,
    run_items 9998 Try.underlying32 (fun i => (a.at i : Int)) (fun i => (b.at i : Int)) _ _ _ (fun i hi => ⟨stA_at a i (by simpa using hi), stA_at b i (by simpa using hi)⟩)]
  congr 1
  rw [Bool.eq_iff_iff, List.all_eq_true, decide_eq_true_eq]
  constructor
  · intro h
    refine stA_inj a b ?_
    apply Array.ext_getElem?
    intro i
    by_cases hi : i < 16
    · rw [stA_at a i hi, stA_at b i hi]
      have := h i (by simpa using hi)
      simp only [beq_iff_eq] at this
      rw [this]
    · rw [Array.getElem?_eq_none (by rw [stA_size]; omega), Array.getElem?_eq_none (by rw [stA_size]; omega)]
  · rintro rfl i _
    simp

end Go.Proofs.Ytdhbjcnbdfidcaa

namespace Go.Proofs.Ytdhbjcnbdfidcaa
set_option linter.unusedVariables false
open Go Go.RowKit

/-- a block's value -/
def bkV (f : Nat → Nat) : Value := .agg (va 256 (iv .u8 f))
/-- the byte of a text at a place -/
def tbyte (s : ByteArray) (i : Nat) : Nat := (s.data.toList.getD i 0).toNat
theorem tbyte_lt (s : ByteArray) (j : Nat) : tbyte s j < 256 := UInt8.toNat_lt _
theorem tbyte_out (s : ByteArray) (j : Nat) (h : s.size ≤ j) : tbyte s j = 0 := by
  unfold tbyte
  have : s.data.toList.length = s.size := Array.length_toList
  rw [List.getD_eq_getElem?_getD, List.getElem?_eq_none (by omega)]
  rfl
/-- n bytes as a text -/
def strN (f : Nat → Nat) (n : Nat) : ByteArray := strOfNums ((List.range n).map fun i => (f i : Int))
theorem strN_size (f : Nat → Nat) (n : Nat) : (strN f n).size = n := by unfold strN; rw [strOfNums_size]; simp
theorem strN_at (f : Nat → Nat) (n j : Nat) (hj : j < n) (hf : f j < 256) : tbyte (strN f n) j = f j := by
  unfold tbyte strN
  rw [strOfNums_data, List.getD_eq_getElem?_getD]
  simp [hj]
  omega
theorem text_ext {s t : ByteArray} (h1 : s.size = t.size) (h2 : ∀ j, j < s.size → tbyte s j = tbyte t j) : s = t := by
  have e : s.data = t.data := by
    apply Array.ext
    · exact h1
    · intro i hi1 hi2
      have := h2 i hi1
      unfold tbyte at this
      rw [List.getD_eq_getElem?_getD, List.getD_eq_getElem?_getD, List.getElem?_eq_getElem (by simpa using hi1), List.getElem?_eq_getElem (by simpa using hi2)] at this
      have h3 : (s.data[i]).toNat = (t.data[i]).toNat := by simpa using this
      exact UInt8.toNat_inj.1 h3
  cases s; cases t; simp_all
theorem strN_congr {f g : Nat → Nat} {n : Nat} (h : ∀ j, j < n → f j = g j) : strN f n = strN g n := by
  unfold strN
  congr 1
  exact List.map_congr_left fun j hj => by rw [h j (List.mem_range.1 hj)]
theorem strN_text (s : ByteArray) : strN (tbyte s) s.size = s := text_ext (strN_size _ _) fun j hj => by
  rw [strN_size] at hj
  exact strN_at _ _ j hj (tbyte_lt _ _)
theorem tbyte_extract (s : ByteArray) (a b j : Nat) (hb : b ≤ s.size) (h : a + j < b) : tbyte (s.extract a b) j = tbyte s (a + j) := by
  unfold tbyte
  have hs : s.data.toList.length = s.size := Array.length_toList
  rw [ByteArray.data_extract]
  simp only [List.getD_eq_getElem?_getD, Array.toList_extract, List.extract_eq_take_drop]
  rw [List.getElem?_take, List.getElem?_drop, if_pos (by omega)]
theorem extract_size (s : ByteArray) (a b : Nat) (hb : b ≤ s.size) : (s.extract a b).size = b - a := by
  rw [ByteArray.size_extract]
  omega
/-- n bytes as values -/
def byL (f : Nat → Nat) (m : Nat) : List Value := (List.range m).map fun j => Value.int .u8 ((f j : Nat) : Int)
theorem byL_length (f : Nat → Nat) (m : Nat) : (byL f m).length = m := by simp [byL]
theorem byL_at (f : Nat → Nat) (m j : Nat) (h : j < m) : (byL f m)[j]? = some (.int .u8 ((f j : Nat) : Int)) := by simp [byL, h]
theorem byL_succ (f : Nat → Nat) (m : Nat) : byL f (m + 1) = byL f m ++ [Value.int .u8 ((f m : Nat) : Int)] := by simp [byL, List.range_succ]
theorem byL_congr {f g : Nat → Nat} {m : Nat} (h : ∀ j, j < m → f j = g j) : byL f m = byL g m := List.map_congr_left fun j hj => by rw [h j (List.mem_range.1 hj)]
theorem byL_add (f : Nat → Nat) (m : Nat) : ∀ k, byL f (m + k) = byL f m ++ byL (fun j => f (m + j)) k
  | 0 => by simp [byL]
  | k + 1 => by rw [← Nat.add_assoc, byL_succ, byL_add f m k, byL_succ, List.append_assoc]
theorem text_prefix (s : ByteArray) (n : Nat) (h : n ≤ s.size) : List.take n (List.map (fun b : UInt8 => Value.int .u8 (b.toNat : Int)) s.data.toList) = byL (tbyte s) n := by
  have hs : s.data.toList.length = s.size := Array.length_toList
  apply List.ext_getElem?
  intro i
  by_cases hi : i < n
  · rw [byL_at _ _ _ hi, List.getElem?_take_of_lt hi, List.getElem?_map, List.getElem?_eq_getElem (by omega)]
    unfold tbyte
    rw [List.getD_eq_getElem?_getD, List.getElem?_eq_getElem (by omega)]
    rfl
  · rw [List.getElem?_eq_none (by rw [List.length_take]; omega), List.getElem?_eq_none (by rw [byL_length]; omega)]
section
variable {P : Program}
theorem run_copy_text (w : World) (dT sT ty elem : TypeId) (g o dLen dCap : Nat) (s : ByteArray) (cur : Array Value) (t : TypeId) (n : Nat)
    (hu : P.underlying dT = some (.slice elem)) (hs : (P.info? elem).map (·.size) = some 1)
    (hg : w.heap[g]? = some (.cells cur t (0, 0))) (hn : n = Nat.min s.size dLen) (hfit : o + n ≤ cur.size) :
    (Builtin.copy_ #[dT, sT] ty #[.slice (some ⟨g, o, none⟩) dLen dCap, .string s]).run P w =
      .ok (goInt n) (w.setRow g (splice cur.toList o (byL (tbyte s) n)).toArray) := by
  have hns : n ≤ s.size := by rw [hn]; exact Nat.min_le_left _ _
  have eL := text_prefix s n hns
  have hst := run_storeCells_at P g o t (List.take n (List.map (fun b : UInt8 => Value.int .u8 (b.toNat : Int)) s.data.toList)) 0 cur w hg (by rw [eL, byL_length]; simpa using hfit) (by rw [eL]; exact mem_iv_one _ _ _)
  have e2 : (w.setRow g (cur.toList.take (o + 0) ++ List.take n (List.map (fun b : UInt8 => Value.int .u8 (b.toNat : Int)) s.data.toList) ++ cur.toList.drop (o + 0 + (List.take n (List.map (fun b : UInt8 => Value.int .u8 (b.toNat : Int)) s.data.toList)).length)).toArray) = w.setRow g (splice cur.toList o (byL (tbyte s) n)).toArray := by
    rw [eL]
    unfold splice
    rw [List.append_assoc, Nat.add_zero]
  rw [e2] at hst
  cases hq : P.info? elem with
  | none => simp [hq] at hs
  | some i =>
    have hi : i.size = 1 := by simpa [hq] using hs
    generalize w.setRow g (splice cur.toList o (byL (tbyte s) n)).toArray = W at *
    simp [Builtin.copy_, run_underlying hu, Builtin.lenOf, Builtin.firstCells, sizeOf, typeInfo, hq, ← hn, hst]
/-- a text copied, as one operation -/
theorem wpList_copy_text {ops : Array Oper} {rest : List Oper} {o : Oper} {a : Act} {w : World} {Q : Exit → Act → World → Prop} (hgd : o.guard = none) (d s : Operand) (dT sT : TypeId)
    (ho : o.op = .call { callee := .builtin .copy, args := #[d, s], argTypes := #[dT, sT] }) (elem : TypeId) (hu : P.underlying dT = some (.slice elem)) (hsz : (P.info? elem).map (·.size) = some 1)
    (g off dLen dCap : Nat) (str : ByteArray) (hd : a.eval d = .slice (some ⟨g, off, none⟩) dLen dCap) (hs : a.eval s = .string str)
    (cur : Array Value) (t : TypeId) (hg : w.heap[g]? = some (.cells cur t (0, 0))) (n : Nat) (hn : n = Nat.min str.size dLen) (hfit : off + n ≤ cur.size)
    (h : wpList P ops Q rest (a.put o.dst (goInt n)) (w.setRow g (splice cur.toList off (byL (tbyte str) n)).toArray)) :
    wpList P ops Q (o :: rest) a w := by
  have hrun := run_copy_text (P := P) w dT sT o.type elem g off dLen dCap str cur t n hu hsz hg hn hfit
  refine wpList_plain hgd fun K hK => ?_
  unfold Oper.wp
  simp [execOp, ho, resolve, invoke, builtin, hd, hs, hrun, Result.andThen]
  exact hK _ _ h
theorem step_copy_text {ops : Array Oper} {o : Oper} {a : Act} {w : World} {K : Act → World → Prop} {Q : Exit → Act → World → Prop} {E : Prop} (hgd : o.guard = none) (d s : Operand) (dT sT : TypeId)
    (ho : o.op = .call { callee := .builtin .copy, args := #[d, s], argTypes := #[dT, sT] }) (elem : TypeId) (hu : P.underlying dT = some (.slice elem)) (hsz : (P.info? elem).map (·.size) = some 1)
    (g off dLen dCap : Nat) (str : ByteArray) (hd : a.eval d = .slice (some ⟨g, off, none⟩) dLen dCap) (hs : a.eval s = .string str)
    (cur : Array Value) (t : TypeId) (hg : w.heap[g]? = some (.cells cur t (0, 0))) (n : Nat) (hn : n = Nat.min str.size dLen) (hfit : off + n ≤ cur.size)
    (h : K (a.put o.dst (goInt n)) (w.setRow g (splice cur.toList off (byL (tbyte str) n)).toArray)) :
    if Region.wanted o (yielded ops a.tmps) = true then Oper.wp P o a w K Q else E := by
  have hw : Region.wanted o (yielded ops a.tmps) = true := by simp [Region.wanted, hgd]
  rw [if_pos hw]
  have hrun := run_copy_text (P := P) w dT sT o.type elem g off dLen dCap str cur t n hu hsz hg hn hfit
  unfold Oper.wp
  simp [execOp, ho, resolve, invoke, builtin, hd, hs, hrun, Result.andThen]
  exact h
theorem run_bytes_text (w : World) (src e dst : TypeId) (hs : P.underlying src = some (.slice e)) (he : P.underlying e = some (.int .u8)) (hd : P.underlying dst = some .string) {g t N : Nat} {f : Nat → Nat} (h : Blk w g t (va N (iv .u8 f))) (o n c : Nat) (hn : o + n ≤ N) :
    (convert src dst (.slice (some ⟨g, o, none⟩) n c)).run P w = .ok (.string (strN (fun j => f (o + j)) n)) w :=
  run_convert_bytes_arg w src e hs he g o n c _ (by simp) (fun i hi => by
    rw [h.cv (i := o + i) (by omega)]
    simp [List.getD_eq_getElem?_getD, hi, iv]) dst hd
theorem eq_bytes (t e : TypeId) (n : Nat) (ht : P.underlying t = some (.array n e)) (he : P.underlying e = some (.int .u8)) (hi : (P.info? e).map (·.size) = some 1) (hc : P.cellsOf e = 1) (f g : Nat → Nat) (w : World) :
    (Op.equalIn 10000 t (.agg (va n (iv .u8 f))) (.agg (va n (iv .u8 g)))).run P w = .ok (decide (∀ i, i < n → f i = g i)) w := by
  obtain ⟨i, hi'⟩ : ∃ i, P.info? e = some i := by
    cases hq : P.info? e with
    | none => simp [hq] at hi
    | some i => exact ⟨i, rfl⟩
  rw [show (10000 : Nat) = 9998 + 1 + 1 from rfl, run_equalIn_array w (9998 + 1) (va n (iv .u8 f)) (va n (iv .u8 g)) ht hi', hc,
    run_items 9998 he (fun i => ((f i : Nat) : Int)) (fun i => ((g i : Nat) : Int)) (va n (iv .u8 f)) (va n (iv .u8 g)) _ (fun i hi => ⟨va_at (iv .u8 f) (by simpa using hi), va_at (iv .u8 g) (by simpa using hi)⟩)]
  congr 1
  rw [Bool.eq_iff_iff, List.all_eq_true, decide_eq_true_eq]
  constructor
  · intro h i hi
    have := h i (by simpa using hi)
    simp only [beq_iff_eq] at this
    omega
  · intro h i hi
    have := h i (by simpa using hi)
    simp [this]
end
/-- n bytes laid into a block from place r on -/
def putAt (p : Nat → Nat) (r n : Nat) (b : Nat → Nat) : Nat → Nat := fun j => if r ≤ j ∧ j < r + n then b (j - r) else p j
theorem putAt_lt {p b : Nat → Nat} {r n : Nat} (hp : ∀ i, p i < 256) (hb : ∀ i, b i < 256) : ∀ i, putAt p r n b i < 256 := fun i => by
  unfold putAt
  split
  · exact hb _
  · exact hp _
theorem splice_put (N r n : Nat) (p b : Nat → Nat) (h : r + n ≤ N) : (splice (va N (iv .u8 p)).toList r (byL b n)).toArray = va N (iv .u8 (putAt p r n b)) := by
  rw [va_toList]
  refine Eq.trans (by rfl) ((splice_va N r n (iv .u8 p) (fun j => Value.int .u8 ((b j : Nat) : Int)) h).trans ?_)
  refine va_congr fun i hi => ?_
  unfold overF iv putAt
  by_cases h1 : r ≤ i ∧ i < r + n
  · rw [if_pos h1, if_pos h1]
  · rw [if_neg h1, if_neg h1]
/-- two blocks are the same -/
abbrev bkSame (f g : Nat → Nat) : Prop := ∀ i, i < 256 → f i = g i
theorem bkV_congr {f g : Nat → Nat} (h : bkSame f g) : bkV f = bkV g := by
  unfold bkV
  rw [va_congr (f := iv .u8 f) (g := iv .u8 g) fun i hi => by unfold iv; rw [h i hi]]
theorem eq_bk (t : TypeId) (ht : Try.prog.underlying t = some (.array 256 5)) (f g : Nat → Nat) (w : World) : (Op.equalIn 10000 t (bkV f) (bkV g)).run Try.prog w = .ok (decide (bkSame f g)) w :=
  eq_bytes t 5 256 ht Try.underlying5 (by kernel_rfl) (by kernel_rfl) f g w
theorem sizeBk : (Try.prog.info? 60).map (·.size) = some 256 := by kernel_rfl
theorem ksizeU8 : (Try.prog.info? 5).map (·.size) = some 1 := by kernel_rfl
theorem zero_bk (w : World) : (zeroValue 60).run Try.prog w = .ok (.agg (va 256 (iv .u8 fun _ => 0))) w := by
  have h : (Try.prog.info? 60).bind (·.zero) = some (.agg (va 256 (iv .u8 fun _ => 0))) := by kernel_rfl
  cases hq : Try.prog.info? 60 with
  | none => simp [hq] at h
  | some i =>
    have hi : i.zero = some (.agg (va 256 (iv .u8 fun _ => 0))) := by simpa [hq] using h
    simp [zeroValue, typeInfo, hq, hi]
theorem Blk.new1 (w : World) (o : Obj) (t : TypeId) (cs : Array Value) : Blk ((w.alloc o).alloc (.cells cs t)) (w.heap.size + 1) t cs := by
  have := Blk.new (w.alloc o) t cs
  rwa [show (w.alloc o).heap.size = w.heap.size + 1 by simp] at this
theorem Blk.new2 (w : World) (o o' : Obj) (t : TypeId) (cs : Array Value) : Blk (((w.alloc o).alloc o').alloc (.cells cs t)) (w.heap.size + 2) t cs := by
  have := Blk.new1 (w.alloc o) o' t cs
  rwa [show (w.alloc o).heap.size + 1 = w.heap.size + 2 by simp] at this
theorem below_new1 (w : World) (o : Obj) : Below w.heap.size w (w.alloc o) := (Below.refl _ _).alloc (Nat.le_refl _) _
theorem below_new2 (w : World) (o o' : Obj) : Below w.heap.size w ((w.alloc o).alloc o') := (below_new1 w o).alloc (by simp) _
theorem below_new3 (w : World) (o o' o'' : Obj) : Below w.heap.size w (((w.alloc o).alloc o').alloc o'') := (below_new2 w o o').alloc (by simp; omega) _
theorem wpList_load_rowg {P : Program} {ops : Array Oper} {rest : List Oper} {o : Oper} {a : Act} {w : World} {Q : Exit → Act → World → Prop} (hw : Region.wanted o (yielded ops a.tmps) = true) (ty : TypeId) (x : Operand) (ho : o.op = .load ty x)
    (g : Nat) (hx : a.eval x = .pointer (some ⟨g, 0, none⟩)) (t : TypeId) (cs : Array Value) (fr : Nat × Nat) (d : TypeDesc) (hg : w.heap[g]? = some (.cells cs t fr))
    (hu : P.underlying ty = some d) (hd : (match d with | .struct _ | .array _ _ => true | _ => false) = true) (hi : (P.info? ty).map (·.size) = some cs.size)
    (h : wpList P ops Q rest (a.put o.dst (.agg cs)) w) : wpList P ops Q (o :: rest) a w :=
  wpList_step fun K hK => by
    rw [if_pos hw]
    exact wp_load_row ty x ho g hx t cs fr d hg hu hd hi (hK _ _ h)
theorem results_row2 {P : Program} {fn : Func} {p u : Tmp} {ty : TypeId} (h : fn.results = #[.cell p ty, .tmp u]) (tmps : Array Value) (w : World) (g : Nat) (t : TypeId) (cs : Array Value) (fr : Nat × Nat) (d : TypeDesc)
    (hp : tmps.getD p undef = .pointer (some ⟨g, 0, none⟩)) (hg : w.heap[g]? = some (.cells cs t fr))
    (hu : P.underlying ty = some d) (hd : (match d with | .struct _ | .array _ _ => true | _ => false) = true) (hi : (P.info? ty).map (·.size) = some cs.size) :
    (results fn tmps).run P w = .ok (.tuple #[.agg cs, tmps.getD u undef]) w := by
  have hp' : tmps[p]?.getD undef = .pointer (some ⟨g, 0, none⟩) := by simpa using hp
  simp [results_cell_tmp h, hp', asAddr, run_loadVar_row w g t ty cs fr d hg hu hd hi]
theorem va_ne {n : Nat} (f : Nat → Value) (h : 0 < n) : ¬ va n f = #[] := fun e => by
  have := va_size n f
  rw [e] at this
  simp at this
  omega
end Go.Proofs.Ytdhbjcnbdfidcaa
