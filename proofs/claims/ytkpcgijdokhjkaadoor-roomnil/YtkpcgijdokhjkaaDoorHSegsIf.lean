/- As the law for a region in parts, and an operation may be taken ahead that is shown to yield its value in every world whose memory below B is as it was. No program in it. -/
import Derived.Laws.BitsAllLaws
import Derived.Laws.Bits64
import Derived.Laws.Rows
import Derived.Laws.Tables
import Derived.Laws.CopyOwn
import Derived.Below
import Derived.Deep.MidRow
import Derived.Test.YtkpcgijdokhjkaaDoorRows
import Derived.Handy
import Derived.Lib.Tables
import Derived.Lib.BitFns
import Derived.Lib.TrailingZeros
import Derived.WalkKit
import Derived.ProofKit
import Derived.OpenShut
import Derived.WalkSpells
import Derived.ChangeKeysEq
import Derived.Laws.BytesArg
import Derived.Laws.ResultCell
import Derived.ArgAppend
import Derived.Deep.Light
import Derived.OrdersHeld
import Derived.Tactics
import Derived.Laws.World

namespace Go.Proofs.YtkpcgijdokhjkaaDoor

theorem pow_lt_u64 (k : Nat) (h : k < 64) : 2 ^ k < 18446744073709551616 := by
  have : (18446744073709551616 : Nat) = 2 ^ 64 := by decide
  rw [this]; exact Nat.pow_lt_pow_right (by decide) h
theorem wrapU64 (n : Nat) (h : n < 18446744073709551616) : IntKind.u64.wrap (n : Int) = n := by
  rw [IntKind.wrap_u64]; omega
theorem lt64_bit (x j : Nat) (hx : x < 18446744073709551616) (hj : 64 ≤ j) : x.testBit j = false :=
  Nat.testBit_lt_two_pow (Nat.lt_of_lt_of_le hx (by
    have : (18446744073709551616 : Nat) = 2 ^ 64 := by decide
    rw [this]; exact Nat.pow_le_pow_right (by decide) hj))

end Go.Proofs.YtkpcgijdokhjkaaDoor

namespace Go.Proofs.YtkpcgijdokhjkaaDoor

theorem wrapI64 (a : Int) : IntKind.i64.wrap a = if a % 18446744073709551616 ≥ 9223372036854775808 then a % 18446744073709551616 - 18446744073709551616 else a % 18446744073709551616 := by
  simp [IntKind.wrap, IntKind.bits, IntKind.signed]
theorem wrapI64_id (a : Int) (h1 : -9223372036854775808 ≤ a) (h2 : a < 9223372036854775808) : IntKind.i64.wrap a = a := by
  rw [wrapI64]; split <;> omega

end Go.Proofs.YtkpcgijdokhjkaaDoor

namespace Go.Proofs.YtkpcgijdokhjkaaDoor

def sum : List Nat → Nat
  | [] => 0
  | b :: r => b + sum r
def f3 (b : Nat) : Nat := (b / 16 + b) &&& 15
end Go.Proofs.YtkpcgijdokhjkaaDoor

namespace Go.Proofs.YtkpcgijdokhjkaaDoor

/-- four words -/
structure Q4 where
  a : Nat
  b : Nat
  c : Nat
  d : Nat
  deriving DecidableEq
def Q4.ok (q : Q4) : Prop := q.a < 4294967296 ∧ q.b < 4294967296 ∧ q.c < 4294967296 ∧ q.d < 4294967296

end Go.Proofs.YtkpcgijdokhjkaaDoor

namespace Go.Proofs.YtkpcgijdokhjkaaDoor

structure St where
  x0 : Nat
  x1 : Nat
  x2 : Nat
  x3 : Nat
  x4 : Nat
  x5 : Nat
  x6 : Nat
  x7 : Nat
  x8 : Nat
  x9 : Nat
  x10 : Nat
  x11 : Nat
  x12 : Nat
  x13 : Nat
  x14 : Nat
  x15 : Nat
  deriving DecidableEq

def St.ok (s : St) : Prop := s.x0 < 4294967296 ∧ s.x1 < 4294967296 ∧ s.x2 < 4294967296 ∧ s.x3 < 4294967296 ∧ s.x4 < 4294967296 ∧ s.x5 < 4294967296 ∧ s.x6 < 4294967296 ∧ s.x7 < 4294967296 ∧ s.x8 < 4294967296 ∧ s.x9 < 4294967296 ∧ s.x10 < 4294967296 ∧ s.x11 < 4294967296 ∧ s.x12 < 4294967296 ∧ s.x13 < 4294967296 ∧ s.x14 < 4294967296 ∧ s.x15 < 4294967296
def stA (s : St) : Array Value := #[.int .u32 (s.x0 : Int), .int .u32 (s.x1 : Int), .int .u32 (s.x2 : Int), .int .u32 (s.x3 : Int), .int .u32 (s.x4 : Int), .int .u32 (s.x5 : Int), .int .u32 (s.x6 : Int), .int .u32 (s.x7 : Int), .int .u32 (s.x8 : Int), .int .u32 (s.x9 : Int), .int .u32 (s.x10 : Int), .int .u32 (s.x11 : Int), .int .u32 (s.x12 : Int), .int .u32 (s.x13 : Int), .int .u32 (s.x14 : Int), .int .u32 (s.x15 : Int)]
def St.zero : St := ⟨0, 0, 0, 0, 0, 0, 0, 0, 0, 0, 0, 0, 0, 0, 0, 0⟩

/-- the word at a place -/
def St.at (s : St) : Nat → Nat
  | 0 => s.x0
  | 1 => s.x1
  | 2 => s.x2
  | 3 => s.x3
  | 4 => s.x4
  | 5 => s.x5
  | 6 => s.x6
  | 7 => s.x7
  | 8 => s.x8
  | 9 => s.x9
  | 10 => s.x10
  | 11 => s.x11
  | 12 => s.x12
  | 13 => s.x13
  | 14 => s.x14
  | 15 => s.x15
  | _ => 0
end Go.Proofs.YtkpcgijdokhjkaaDoor

namespace Go.Proofs.YtkpcgijdokhjkaaDoor
open Go Go.RowKit

/-- block g holds the cells, of type t -/
def Blk (w : World) (g : Nat) (t : TypeId) (cs : Array Value) : Prop := w.heap[g]? = some (.cells cs t (0, 0))

theorem Blk.lt {w : World} {g : Nat} {t : TypeId} {cs : Array Value} (h : Blk w g t cs) : g < w.heap.size := (Array.getElem?_eq_some_iff.1 h).1
theorem Blk.below {w w' : World} {g B : Nat} {t : TypeId} {cs : Array Value} (h : Blk w g t cs) (hb : Below B w w') (hg : g < B) : Blk w' g t cs := by
  unfold Blk at *; rw [hb.block g hg]; exact h
theorem Blk.drew {w : World} {g : Nat} {t : TypeId} {cs : Array Value} (h : Blk w g t cs) : Blk w.drew g t cs := h
theorem Blk.alloc {w : World} {g : Nat} {t : TypeId} {cs : Array Value} (h : Blk w g t cs) (o : Obj) : Blk (w.alloc o) g t cs := by
  have := h.lt
  unfold Blk at *; rw [Below.heap_alloc w o g this]; exact h
theorem Blk.new (w : World) (t : TypeId) (cs : Array Value) : Blk (w.alloc (.cells cs t)) w.heap.size t cs := heap_alloc_new w _
theorem Blk.set {w : World} {g : Nat} {t : TypeId} {old : Array Value} (h : Blk w g t old) (cs : Array Value) : Blk (w.setRow g cs) g t cs := setRow_heap w g old cs t _ h
theorem Blk.cell {w : World} {g : Nat} {t : TypeId} {cs : Array Value} (h : Blk w g t cs) (i : Nat) : w.cell? ⟨g, i, none⟩ = cs[i]? := cell_of_row _ _ i cs t (0, 0) h

theorem Blk.load {P : Program} {w : World} {g : Nat} {t : TypeId} {cs : Array Value} (h : Blk w g t cs) {n : Nat} (hn : cs.size = n) :
    (loadCellsFrom ⟨g, 0, none⟩ 0 n #[]).run P w = .ok cs w := by
  subst hn
  have := run_loadCells_list (P := P) w ⟨g, 0, none⟩ cs.toList (fun j v hv => by
    have hadd : (⟨g, 0, none⟩ : Addr).add j = ⟨g, j, none⟩ := by unfold Addr.add; split <;> simp_all
    rw [hadd, h.cell]
    simpa using hv)
  simpa [loadCells] using this
/-- sixteen cells, of a state -/
structure Cells (w : World) (g : Nat) (s : St) : Prop where
  c0 : w.cell? ⟨g, 0, none⟩ = some (.int .u32 (s.x0 : Int))
  c1 : w.cell? ⟨g, 1, none⟩ = some (.int .u32 (s.x1 : Int))
  c2 : w.cell? ⟨g, 2, none⟩ = some (.int .u32 (s.x2 : Int))
  c3 : w.cell? ⟨g, 3, none⟩ = some (.int .u32 (s.x3 : Int))
  c4 : w.cell? ⟨g, 4, none⟩ = some (.int .u32 (s.x4 : Int))
  c5 : w.cell? ⟨g, 5, none⟩ = some (.int .u32 (s.x5 : Int))
  c6 : w.cell? ⟨g, 6, none⟩ = some (.int .u32 (s.x6 : Int))
  c7 : w.cell? ⟨g, 7, none⟩ = some (.int .u32 (s.x7 : Int))
  c8 : w.cell? ⟨g, 8, none⟩ = some (.int .u32 (s.x8 : Int))
  c9 : w.cell? ⟨g, 9, none⟩ = some (.int .u32 (s.x9 : Int))
  c10 : w.cell? ⟨g, 10, none⟩ = some (.int .u32 (s.x10 : Int))
  c11 : w.cell? ⟨g, 11, none⟩ = some (.int .u32 (s.x11 : Int))
  c12 : w.cell? ⟨g, 12, none⟩ = some (.int .u32 (s.x12 : Int))
  c13 : w.cell? ⟨g, 13, none⟩ = some (.int .u32 (s.x13 : Int))
  c14 : w.cell? ⟨g, 14, none⟩ = some (.int .u32 (s.x14 : Int))
  c15 : w.cell? ⟨g, 15, none⟩ = some (.int .u32 (s.x15 : Int))
theorem Blk.cells {w : World} {g : Nat} {t : TypeId} {s : St} (h : Blk w g t (stA s)) : Cells w g s :=
  ⟨by rw [h.cell]; rfl, by rw [h.cell]; rfl, by rw [h.cell]; rfl, by rw [h.cell]; rfl, by rw [h.cell]; rfl, by rw [h.cell]; rfl, by rw [h.cell]; rfl, by rw [h.cell]; rfl, by rw [h.cell]; rfl, by rw [h.cell]; rfl, by rw [h.cell]; rfl, by rw [h.cell]; rfl, by rw [h.cell]; rfl, by rw [h.cell]; rfl, by rw [h.cell]; rfl, by rw [h.cell]; rfl⟩
theorem Blk.put {w : World} {g : Nat} {t : TypeId} {cs : Array Value} (h : Blk w g t cs) (i : Nat) (v : Value) : Blk (w.setCell ⟨g, i, none⟩ v) g t (cs.setIfInBounds i v) := by
  rw [setCell_eq_setRow w g i cs t (0, 0) v h]; exact h.set _
theorem Blk.put_other {w : World} {g k : Nat} {t : TypeId} {cs : Array Value} (h : Blk w k t cs) (i : Nat) (v : Value) (hk : k ≠ g) : Blk (w.setCell ⟨g, i, none⟩ v) k t cs := by
  unfold Blk at *; rw [Below.heap_setCell w ⟨g, i, none⟩ v k hk]; exact h
end Go.Proofs.YtkpcgijdokhjkaaDoor

namespace Go.Proofs.YtkpcgijdokhjkaaDoor
open Go Go.RowKit

def va (n : Nat) (f : Nat → Value) : Array Value := ((List.range n).map f).toArray
theorem va_size (n : Nat) (f : Nat → Value) : (va n f).size = n := by simp [va]
theorem va_at {n : Nat} (f : Nat → Value) {i : Nat} (h : i < n) : (va n f)[i]? = some (f i) := by simp [va, h]
theorem va_ext {n : Nat} {f : Nat → Value} {a : Array Value} (hs : a.size = n) (h : ∀ i, i < n → a[i]? = some (f i)) : a = va n f := by
  apply Array.ext_getElem?
  intro i
  by_cases hi : i < n
  · rw [h i hi, va_at f hi]
  · rw [Array.getElem?_eq_none (by omega), Array.getElem?_eq_none (by rw [va_size]; omega)]
theorem va_toList (n : Nat) (f : Nat → Value) : (va n f).toList = (List.range n).map f := by simp [va]
def iv (k : IntKind) (f : Nat → Nat) : Nat → Value := fun i => .int k (f i : Int)
def updN (f : Nat → Nat) (i v : Nat) : Nat → Nat := fun j => if j = i then v else f j
/-- a run of values laid over the places from o on -/
def over (f : Nat → Value) (o : Nat) (vs : List Value) : Nat → Value := fun i => if o ≤ i ∧ i < o + vs.length then vs.getD (i - o) undef else f i
theorem Blk.range {w : World} {g t n : Nat} {f : Nat → Value} (h : Blk w g t (va n f)) (o m : Nat) (hm : o + m ≤ n) : w.rangeAt g o ((List.range m).map fun j => f (o + j)) := fun j v hv => by
  rw [h.cell]
  have hj : j < m := by
    have := (List.getElem?_eq_some_iff.1 hv).1
    simpa using this
  rw [va_at f (by omega)]
  simpa [hj] using hv
theorem Blk.frozen {w : World} {g t : Nat} {cs : Array Value} (h : Blk w g t cs) (i : Nat) : w.frozen? ⟨g, i, none⟩ = false := by
  have := h; unfold Blk at this; simp [World.frozen?, this]
end Go.Proofs.YtkpcgijdokhjkaaDoor

namespace Go.Proofs.YtkpcgijdokhjkaaDoor
open Go Go.RowKit
set_option linter.unusedVariables false

/-- the bit of a place, of words of 64 -/
def bitF (W : Nat → Nat) (p : Nat) : Bool := (W (p / 64)).testBit (p % 64)
def notN (b : Nat) : Nat := 18446744073709551615 - b
theorem notN_bit (b j : Nat) (hb : b < 18446744073709551616) (hj : j < 64) : (notN b).testBit j = !b.testBit j := by
  have e : notN b = 2 ^ 64 - (b + 1) := by unfold notN; omega
  rw [e, Nat.testBit_two_pow_sub_succ (by omega)]
  simp [hj]
theorem and_lt64 (a b : Nat) (ha : a < 18446744073709551616) : a &&& b < 18446744073709551616 := Nat.lt_of_le_of_lt Nat.and_le_left ha
theorem or_lt64 (a b : Nat) (ha : a < 18446744073709551616) (hb : b < 18446744073709551616) : a ||| b < 18446744073709551616 := Nat.or_lt_two_pow (n := 64) (by omega) (by omega)
theorem xor_lt64 (a b : Nat) (ha : a < 18446744073709551616) (hb : b < 18446744073709551616) : a ^^^ b < 18446744073709551616 := Nat.xor_lt_two_pow (n := 64) (by omega) (by omega)
theorem word_ext {a b : Nat} (ha : a < 18446744073709551616) (hb : b < 18446744073709551616) (h : ∀ j, j < 64 → a.testBit j = b.testBit j) : a = b := by
  apply Nat.eq_of_testBit_eq
  intro j
  by_cases hj : j < 64
  · exact h j hj
  · rw [lt64_bit a j ha (by omega), lt64_bit b j hb (by omega)]
theorem bitF_at (W : Nat → Nat) (i j : Nat) (hj : j < 64) : bitF W (64 * i + j) = (W i).testBit j := by
  unfold bitF
  rw [show (64 * i + j) / 64 = i from by omega, show (64 * i + j) % 64 = j from by omega]
/-- one bit made 1, made 0 -/
def putW (W : Nat → Nat) (p : Nat) : Nat → Nat := updN W (p / 64) (W (p / 64) ||| 2 ^ (p % 64))
theorem bitF_put (W : Nat → Nat) (p q : Nat) : bitF (putW W p) q = (decide (q = p) || bitF W q) := by
  unfold bitF putW updN
  by_cases h : q / 64 = p / 64
  · rw [if_pos h, Nat.testBit_or, Nat.testBit_two_pow, h]
    by_cases h2 : q = p
    · subst h2; simp
    · have : ¬ p % 64 = q % 64 := by omega
      simp [h2, this]
  · rw [if_neg h]
    have : ¬ q = p := fun e => h (by rw [e])
    simp [this]
theorem putW_lt {W : Nat → Nat} (h : ∀ i, W i < 18446744073709551616) (p : Nat) : ∀ i, putW W p i < 18446744073709551616 := fun i => by
  unfold putW updN
  split
  · exact or_lt64 _ _ (h _) (pow_lt_u64 _ (by omega))
  · exact h i
/-- whether a bit is one, as the program asks -/
theorem and_pow_ne (x k : Nat) : (((x &&& 2 ^ k : Nat) : Int) == 0) = !x.testBit k := by
  have e : x &&& 2 ^ k = if x.testBit k then 2 ^ k else 0 := by
    apply Nat.eq_of_testBit_eq
    intro j
    rw [Nat.testBit_and, Nat.testBit_two_pow]
    by_cases h : k = j
    · subst h
      cases hb : x.testBit k <;> simp
    · cases hb : x.testBit k <;> simp [h]
  rw [e]
  cases hb : x.testBit k
  · simp
  · simp only [if_true, Bool.not_true, beq_eq_false_iff_ne]
    have := Nat.two_pow_pos k
    omega
/-- two tables of words that hold the same bits -/
theorem words_ext {V W : Nat → Nat} (hV : ∀ i, V i < 18446744073709551616) (hW : ∀ i, W i < 18446744073709551616) (h : ∀ p, bitF V p = bitF W p) (i : Nat) : V i = W i :=
  word_ext (hV i) (hW i) fun j hj => by rw [← bitF_at V i j hj, ← bitF_at W i j hj, h]

/-- the least place from a on, below n, that is this -/
structure NextIs (F : Nat → Bool) (is : Bool) (n a : Nat) (r : Int) : Prop where
  none : r = -1 → ∀ p, a ≤ p → p < n → F p = !is
  some : r ≠ -1 → ∃ p : Nat, r = (p : Int) ∧ a ≤ p ∧ p < n ∧ F p = is ∧ ∀ q, a ≤ q → q < p → F q = !is
theorem NextIs.uniq {F : Nat → Bool} {is : Bool} {n a : Nat} {r s : Int} (h : NextIs F is n a r) (k : NextIs F is n a s) : r = s := by
  have flip : ∀ b : Bool, b = is → b = !is → False := fun b h1 h2 => by rw [h1] at h2; cases is <;> exact absurd h2 (by decide)
  by_cases hr : r = -1
  · by_cases hs : s = -1
    · rw [hr, hs]
    · obtain ⟨p, e, h1, h2, h3, h4⟩ := k.some hs
      exact absurd (h.none hr p h1 h2) (fun q => flip _ h3 q)
  · obtain ⟨p, e, h1, h2, h3, h4⟩ := h.some hr
    by_cases hs : s = -1
    · exact absurd (k.none hs p h1 h2) (fun q => flip _ h3 q)
    · obtain ⟨p', e', h1', h2', h3', h4'⟩ := k.some hs
      rcases Nat.lt_trichotomy p p' with hl | rfl | hl
      · exact absurd (h4' p h1 hl) (fun q => flip _ h3 q)
      · rw [e, e']
      · exact absurd (h4 p' h1' hl) (fun q => flip _ h3' q)
def nextZ (F : Nat → Bool) (is : Bool) (a : Nat) : Nat → Int
  | 0 => -1
  | m + 1 => if F a = is then (a : Int) else nextZ F is (a + 1) m
theorem nextZ_is (F : Nat → Bool) (is : Bool) : ∀ (m a : Nat), NextIs F is (a + m) a (nextZ F is a m)
  | 0, a => ⟨fun _ p h1 h2 => by omega, fun h => absurd rfl h⟩
  | m + 1, a => by
    have ih := nextZ_is F is m (a + 1)
    rw [show a + 1 + m = a + (m + 1) from by omega] at ih
    unfold nextZ
    by_cases h : F a = is
    · rw [if_pos h]
      exact ⟨fun e => by omega, fun _ => ⟨a, rfl, Nat.le_refl _, by omega, h, fun q h1 h2 => by omega⟩⟩
    · rw [if_neg h]
      have hn : F a = !is := by
        cases h1 : F a <;> cases is <;> first | rfl | exact absurd h1 h
      refine ⟨fun e p h1 h2 => ?_, fun e => ?_⟩
      · by_cases hp : p = a
        · rw [hp]; exact hn
        · exact ih.none e p (by omega) h2
      · obtain ⟨p, e1, h1, h2, h3, h4⟩ := ih.some e
        refine ⟨p, e1, by omega, h2, h3, fun q q1 q2 => ?_⟩
        by_cases hq : q = a
        · rw [hq]; exact hn
        · exact h4 q (by omega) q2
/-- the same, of a map of n places -/
def nxt (F : Nat → Bool) (is : Bool) (n a : Nat) : Int := nextZ F is a (n - a)
theorem nxt_is (F : Nat → Bool) (is : Bool) (n a : Nat) : NextIs F is n a (nxt F is n a) := by
  by_cases h : a ≤ n
  · have := nextZ_is F is (n - a) a
    rw [show a + (n - a) = n from by omega] at this
    exact this
  · refine ⟨fun _ p h1 h2 => by omega, fun e => absurd ?_ e⟩
    unfold nxt
    rw [show n - a = 0 from by omega]
    rfl
theorem nxt_eq {F : Nat → Bool} {is : Bool} {n a : Nat} {r : Int} (h : NextIs F is n a r) : r = nxt F is n a := h.uniq (nxt_is F is n a)
theorem nxt_congr {F G : Nat → Bool} {n : Nat} (h : ∀ p, p < n → F p = G p) (is : Bool) (a : Nat) : nxt F is n a = nxt G is n a := by
  refine nxt_eq ⟨fun e p h1 h2 => ?_, fun e => ?_⟩
  · rw [← h p h2]; exact (nxt_is F is n a).none e p h1 h2
  · obtain ⟨p, e1, h1, h2, h3, h4⟩ := (nxt_is F is n a).some e
    exact ⟨p, e1, h1, h2, (h p h2).symm.trans h3, fun q q1 q2 => (h q (by omega)).symm.trans (h4 q q1 q2)⟩

end Go.Proofs.YtkpcgijdokhjkaaDoor

namespace Go.Proofs.YtkpcgijdokhjkaaDoor

/-- the lowest one -/
theorem low_at (x : Nat) (hx : x < 18446744073709551616) (h0 : x ≠ 0) : x.testBit (Lib.ctz 64 x) = true ∧ (∀ j, j < Lib.ctz 64 x → x.testBit j = false) ∧ Lib.ctz 64 x < 64 := by
  have e : Lib.ctz 64 x = Lib.ctzFrom 64 x := by simp [Lib.ctz, h0]
  obtain ⟨m, hm, hk⟩ := Lib.ctzFrom_spec 64 x (by omega) hx
  rw [e]
  generalize Lib.ctzFrom 64 x = k at *
  refine ⟨?_, ?_, hk⟩
  · rw [hm, Nat.mul_comm, Nat.testBit_mul_two_pow]; simp [Nat.testBit_zero]
  · intro j hj
    rw [hm, Nat.mul_comm, Nat.testBit_mul_two_pow]; simp; intro; omega

end Go.Proofs.YtkpcgijdokhjkaaDoor

namespace Go.Proofs.YtkpcgijdokhjkaaDoor
open Go.RowKit
set_option linter.unusedVariables false

theorem w64 (a : Int) : wrap64 a = IntKind.i64.wrap a := (IntWalk.i64_left a).symm

end Go.Proofs.YtkpcgijdokhjkaaDoor

namespace Go.Proofs.YtkpcgijdokhjkaaDoor
open Go.RowKit

theorem ret_int {k : IntKind} {a b : Int} (h : a = b) : Ending.returned (.int k a) = .returned (.int k b) := by rw [h]

theorem ret_int2 {k : IntKind} {a b : Int} {v : Value} (h : a = b) : Ending.returned (.tuple #[.int k a, v]) = .returned (.tuple #[.int k b, v]) := by rw [h]

end Go.Proofs.YtkpcgijdokhjkaaDoor

namespace Go.Proofs.YtkpcgijdokhjkaaDoor
set_option linter.unusedVariables false
open Go Go.RowKit

section
variable {P : Program}
end
theorem Blk.new1 (w : World) (o : Obj) (t : TypeId) (cs : Array Value) : Blk ((w.alloc o).alloc (.cells cs t)) (w.heap.size + 1) t cs := by
  have := Blk.new (w.alloc o) t cs
  rwa [show (w.alloc o).heap.size = w.heap.size + 1 by simp] at this
theorem below_new1 (w : World) (o : Obj) : Below w.heap.size w (w.alloc o) := (Below.refl _ _).alloc (Nat.le_refl _) _
theorem below_new2 (w : World) (o o' : Obj) : Below w.heap.size w ((w.alloc o).alloc o') := (below_new1 w o).alloc (by simp) _
end Go.Proofs.YtkpcgijdokhjkaaDoor

namespace Go.Proofs.YtkpcgijdokhjkaaDoor
open Go Go.RowKit
set_option linter.unusedVariables false

theorem kown_mono {w : World} {B B' e size n : Nat} {v : Value} {xs : List Value} (h : w.ownsRow B e size v n xs) (hB : B' ≤ B) : w.ownsRow B' e size v n xs :=
  ⟨h.1, h.2.imp id fun ⟨g, cap, cur, a, b, r⟩ => ⟨g, cap, cur, a, Nat.le_trans hB b, r⟩⟩
theorem kown_form {w : World} {B e size n : Nat} {v : Value} {xs : List Value} (h : w.ownsRow B e size v n xs) (hn : 0 < n) : ∃ g cap, v = .slice (some ⟨g, 0, none⟩) n cap ∧ B ≤ g ∧ g < w.heap.size := by
  rcases h.2 with ⟨_, h0⟩ | ⟨g, cap, cur, rfl, hb, hg, _⟩
  · omega
  · exact ⟨g, cap, rfl, hb, (Array.getElem?_eq_some_iff.1 hg).1⟩
theorem kown_kept {w w' : World} {B e size n : Nat} {v : Value} {xs : List Value} (h : w.ownsRow B e size v n xs) (hk : ∀ k, B ≤ k → v.ownBlock = some k → w'.heap[k]? = w.heap[k]?) : w'.ownsRow B e size v n xs := by
  refine ⟨h.1, ?_⟩
  rcases h.2 with hn | ⟨g, cap, cur, rfl, hg, hgg, rest⟩
  · exact .inl hn
  · exact .inr ⟨g, cap, cur, rfl, hg, (hk g hg rfl).trans hgg, rest⟩
end Go.Proofs.YtkpcgijdokhjkaaDoor

namespace Go.Proofs.YtkpcgijdokhjkaaDoor
open Go Go.RowKit
set_option linter.unusedVariables false
set_option linter.unusedSimpArgs false

/-- how many leaves -/
def lvN (n : Nat) : Nat := (n + 1023) / 1024
theorem over10_any (n : Nat) (hn : n ≤ 8192) (w : World) :
    Calls Tryd.prog 73 #[.int .i64 (n : Int), .int .i64 10] w fun e w' => e = .returned (.tuple #[.int .i64 (lvN n : Int), .int .i64 0]) ∧ w' = w := by
  by_cases h : n % 1024 = 0
  · have ht : (wrap64 ((n : Int) / 1024 * 1024) != (n : Int)) = false := by
      rw [w64, wrapI64_id _ (by omega) (by omega)]
      simp; omega
    have H : Hid ((n : Int) / 1024 = (lvN n : Int)) := by
      show (n : Int) / 1024 = (lvN n : Int)
      unfold lvN; omega
    clear h hn
    go_enter Tryd.func73, Tryd.ntmps73
    go_wp2
    go_ret2
    exact ⟨ret_int2 H.out, rfl⟩
  · have ht : (wrap64 ((n : Int) / 1024 * 1024) != (n : Int)) = true := by
      rw [w64, wrapI64_id _ (by omega) (by omega), bne_iff_ne]
      omega
    have H : Hid (wrap64 ((n : Int) / 1024 + 1) = (lvN n : Int)) := by
      show wrap64 ((n : Int) / 1024 + 1) = (lvN n : Int)
      rw [w64, wrapI64_id _ (by omega) (by omega)]; unfold lvN; omega
    clear h hn
    go_enter Tryd.func73, Tryd.ntmps73
    go_wp2
    go_ret2
    exact ⟨ret_int2 H.out, rfl⟩
theorem leaves_any (n : Nat) (hn : n ≤ 8192) (w : World) :
    Calls Tryd.prog 54 #[.int .i64 (n : Int)] w fun e w' => e = .returned (.int .i64 (lvN n : Int)) ∧ w' = w := by
  go_enter Tryd.func54, Tryd.ntmps54
  go_wp2_with fail
  refine (over10_any n hn _).mono ?_
  rintro e w' ⟨rfl, rfl⟩
  go_wp2
  go_ret
  exact ⟨rfl, rfl⟩
theorem one_any (p : Nat) (hp : p ≤ 8192) (w : World) :
    Calls Tryd.prog 57 #[.int .i64 (p : Int)] w fun e w' => e = .returned (.int .u64 ((2 ^ (p % 64) : Nat) : Int)) ∧ w' = w := by
  have e1 : ((p : Int).tmod 64) = ((p % 64 : Nat) : Int) := by
    rw [Int.tmod_eq_emod_of_nonneg (by omega)]; omega
  have h1 : p % 64 < 64 := by omega
  have H : Hid (IntKind.u64.wrap ((2 : Int) ^ (p % 64)) = ((2 ^ (p % 64) : Nat) : Int)) := by
    show IntKind.u64.wrap ((2 : Int) ^ (p % 64)) = ((2 ^ (p % 64) : Nat) : Int)
    rw [← wrapU64 _ (pow_lt_u64 _ h1)]
    simp
  generalize hm : p % 64 = m at *
  clear hm
  go_enter Tryd.func57, Tryd.ntmps57
  go_wp2
  go_ret
  exact ⟨ret_int H.out, rfl⟩
/-- the table of Go's package math/bits in its variable -/
def TabAt (w : World) : Prop := ∀ j, j < 64 → w.cell? ⟨0, j, none⟩ = some (.int .u8 ((Lib.deBruijn64tab.getD j 0 : Nat) : Int))
theorem TabAt.below {w w' : World} {B : Nat} (hT : TabAt w) (h0 : 0 < B) (hb : Below B w w') : TabAt w' := fun j hj => (hb.cell (p := ⟨0, j, none⟩) h0).trans (hT j hj)
set_option maxHeartbeats 1000000 in
theorem tz_walk (x n p idx k : Nat) (w : World) (hx0 : ((x : Int) == 0) = false)
    (r1 : IntKind.u64.wrap (-(x : Int)) = (n : Int)) (r2 : bits .and .u64 (x : Int) (n : Int) = (p : Int)) (r3 : IntKind.u64.wrap ((p : Int) * 285870213051353865) / 288230376151711744 = (idx : Int))
    (hi : idx < 64) (hk : k < 64) (hcell : w.cell? ⟨0, idx, none⟩ = some (.int .u8 (k : Int))) :
    Calls Tryd.prog 82 #[.int .u64 (x : Int)] w fun e w' => e = .returned (.int .i64 (k : Int)) ∧ w' = w := by
  go_enter Tryd.func82, Tryd.ntmps82
  go_wp2
  go_ret
  exact ⟨rfl, rfl⟩
theorem tz64_any (x : Nat) (hx : x < 18446744073709551616) (hx0 : x ≠ 0) (w : World) (hT : TabAt w) :
    Calls Tryd.prog 82 #[.int .u64 (x : Int)] w fun e w' => e = .returned (.int .i64 (Lib.ctz 64 x : Int)) ∧ w' = w := by
  obtain ⟨hlow, hk⟩ := Lib.lowest_bit 64 x hx0 hx
  obtain ⟨hi, htab⟩ := Lib.deBruijn64_at _ hk
  have hcell := hT _ hi
  rw [htab] at hcell
  refine tz_walk x (18446744073709551616 - x) (2 ^ Lib.ctz 64 x) _ _ w (by simp; omega) ?_ ?_ ?_ hi hk hcell
  · rw [IntKind.wrap_u64]; omega
  · rw [u64_and_nat x _ hx (by omega)]; exact congrArg _ hlow
  · rw [IntKind.wrap_u64, Int.natCast_ediv, Int.natCast_emod, Int.natCast_mul]; rfl
set_option maxHeartbeats 400000 in
theorem low_any (x : Nat) (hx : x < 18446744073709551616) (h0 : x ≠ 0) (w : World) (hT : TabAt w) :
    Calls Tryd.prog 75 #[.int .u64 (x : Int)] w fun e w' => e = .returned (.int .i64 (Lib.ctz 64 x : Int)) ∧ w' = w := by
  have e0 : ((x : Int) == 0) = false := by simp; omega
  go_enter Tryd.func75, Tryd.ntmps75
  go_wp2_with fail
  refine (tz64_any x hx h0 _ hT).mono ?_
  rintro e w' ⟨rfl, rfl⟩
  go_wp2
  go_ret
  exact ⟨rfl, rfl⟩
end Go.Proofs.YtkpcgijdokhjkaaDoor

namespace Go.Proofs.YtkpcgijdokhjkaaDoor
open Go

section
variable {P : Program} {ops : Array Oper} {Q : Exit → Act → World → Prop} {md : Region.Mode}

/-- only the plain way out -/
def Strict (Q : Exit → Act → World → Prop) : Exit → Act → World → Prop := fun e a w => e = .normal ∧ Q .normal a w
theorem Strict.imp (e : Exit) (a : Act) (w : World) (h : Strict Q e a w) : Q e a w := by
  obtain ⟨rfl, h⟩ := h; exact h
theorem Strict.noOut : ¬ LetsOut (Strict Q) := by
  rintro ⟨a, w, h, _⟩; cases h

/-- what is run leaves the world, and would do the same in any world -/
def Pur {α : Type} (P : Program) (s : Sem α) : Prop := ∀ w n w', s.run P w = .ok n w' → w' = w ∧ ∀ w2, s.run P w2 = .ok n w2
/-- what is run leaves the world -/
def Rds {α : Type} (P : Program) (s : Sem α) : Prop := ∀ w n w', s.run P w = .ok n w' → w' = w
/-- what is run never ends well -/
def Nev {α : Type} (P : Program) (s : Sem α) : Prop := ∀ w n w', s.run P w ≠ .ok n w'

theorem Nev.pur {α : Type} {s : Sem α} (h : Nev P s) : Pur P s := fun w n w' e => absurd e (h w n w')
theorem pur_pure {α : Type} (x : α) : Pur P (pure x : Sem α) := fun w n w' e => by
  rw [Sem.run_pure] at e; cases e; exact ⟨rfl, fun w2 => by rw [Sem.run_pure]⟩
theorem pur_halt {α : Type} (h : Halt) : Pur P (Sem.halt h : Sem α) := fun w n w' e => by simp [Sem.run] at e
theorem Pur.bind {α β : Type} {s : Sem α} {f : α → Sem β} (h : Pur P s) (hf : ∀ x, Pur P (f x)) : Pur P (s >>= f) := fun w n w' e => by
  rw [Sem.run_bind] at e
  cases hs : s.run P w with
  | ok x w1 =>
    rw [hs] at e
    obtain ⟨rfl, h2⟩ := h w x w1 hs
    simp only [Result.andThen_ok] at e
    obtain ⟨rfl, h3⟩ := hf x _ _ _ e
    exact ⟨rfl, fun w2 => by rw [Sem.run_bind, h2 w2]; simp only [Result.andThen_ok]; exact h3 w2⟩
  | halt x w1 => rw [hs] at e; simp [Result.andThen] at e
theorem Rds.bind {α β : Type} {s : Sem α} {f : α → Sem β} (h : Rds P s) (hf : ∀ x, Rds P (f x)) : Rds P (s >>= f) := fun w n w' e => by
  rw [Sem.run_bind] at e
  cases hs : s.run P w with
  | ok x w1 =>
    rw [hs] at e
    have h2 := h w x w1 hs
    subst h2
    simp only [Result.andThen_ok] at e
    exact hf x _ _ _ e
  | halt x w1 => rw [hs] at e; simp [Result.andThen] at e
theorem Nev.bind {α β : Type} {s : Sem α} {f : α → Sem β} (hf : ∀ x, Nev P (f x)) : Nev P (s >>= f) := fun w n w' e => by
  rw [Sem.run_bind] at e
  cases hs : s.run P w with
  | ok x w1 => rw [hs] at e; simp only [Result.andThen_ok] at e; exact hf x _ _ _ e
  | halt x w1 => rw [hs] at e; simp [Result.andThen] at e
theorem pur_program : Pur P program := fun w n w' e => by
  simp only [program, Sem.run] at e; cases e; exact ⟨rfl, fun w2 => by simp only [program, Sem.run]⟩
theorem nev_bounds {α : Type} (k : IntKind) (x y : Int) (c : BoundsCode) : Nev P (boundsPanic k x y c : Sem α) := by
  have J : ∀ s : Bool, Nev P (runtimePanic (.bounds (IntKind.i64.wrap x) y s c) : Sem α) := fun s => by
    unfold runtimePanic
    refine Nev.bind fun p => ?_
    intro w n w' e
    simp [goPanic] at e
  unfold boundsPanic
  dsimp only
  split <;> exact Nev.bind fun s => J s
theorem pur_underlying (t : TypeId) : Pur P (underlying t) := by
  unfold underlying
  refine pur_program.bind fun p => ?_
  cases p.underlying t with
  | none => exact pur_halt _
  | some d => exact pur_pure d
theorem pur_sizeOf (t : TypeId) : Pur P (sizeOf t) := by
  unfold sizeOf typeInfo
  refine Pur.bind (pur_program.bind fun p => ?_) fun i => pur_pure _
  cases p.info? t with
  | none => exact pur_halt _
  | some d => exact pur_pure d
theorem pur_sure (v : Value) : Pur P (Instr.sureAddr v) := by
  unfold Instr.sureAddr
  split
  · exact pur_pure _
  · exact pur_halt _
theorem pur_index (t : TypeId) (x i : Value) : Pur P (Instr.indexAt t x i) := by
  unfold Instr.indexAt
  refine Pur.bind ?_ fun ki => ?_
  · unfold asIntOf; split
    · exact pur_pure _
    · exact pur_halt _
    · exact pur_halt _
  · refine (pur_underlying t).bind fun d => ?_
    dsimp only
    split
    · refine (pur_sure _).bind fun _ => (pur_pure _).bind fun q => ?_
      refine (pur_underlying t).bind fun d2 => ?_
      split
      · split
        · exact (pur_sizeOf _).bind fun _ => pur_pure _
        · split <;> split <;> first | exact pur_halt _ | exact (nev_bounds _ _ _ _).pur
      · exact (nev_bounds _ _ _ _).pur
    · refine (pur_pure _).bind fun q => ?_
      refine (pur_underlying t).bind fun d2 => ?_
      split
      · split
        · exact (pur_sizeOf _).bind fun _ => pur_pure _
        · split <;> split <;> first | exact pur_halt _ | exact (nev_bounds _ _ _ _).pur
      · exact (nev_bounds _ _ _ _).pur
    · refine (pur_halt _).bind fun q => ?_
      refine (pur_underlying t).bind fun d2 => ?_
      split
      · split
        · exact (pur_sizeOf _).bind fun _ => pur_pure _
        · split <;> split <;> first | exact pur_halt _ | exact (nev_bounds _ _ _ _).pur
      · exact (nev_bounds _ _ _ _).pur
theorem pur_extract (v : Value) (i : Nat) : Pur P (Instr.extract v i) := by
  unfold Instr.extract
  split
  · split
    · exact pur_pure _
    · exact pur_halt _
  · exact pur_halt _
/-- an operation that yields its value in whatever world -/
def kindW (o : Oper) : Bool := match o.op with
  | .move _ => true
  | .extract .. => true
  | .indexAddr .. => true
  | _ => false
theorem kindW_run {o : Oper} (h : kindW o = true) (ρ : Operand → Value) : Pur P (execOp ρ o) ∧ ∀ w n w', (execOp ρ o).run P w = .ok n w' → ∃ v, n = .value v := by
  unfold kindW at h
  split at h <;> rename_i hop
  · unfold execOp; simp only [hop]
    exact ⟨pur_pure _, fun w n w' e => by rw [Sem.run_pure] at e; cases e; exact ⟨_, rfl⟩⟩
  · unfold execOp; simp only [hop]
    exact ⟨(pur_extract _ _).bind fun v => pur_pure _, fun w n w' e => by
      rw [Sem.run_bind] at e
      cases hs : (Instr.extract (ρ _) _).run P w with
      | ok x w1 => rw [hs] at e; simp only [Result.andThen_ok, Sem.run_pure] at e; cases e; exact ⟨_, rfl⟩
      | halt x w1 => rw [hs] at e; simp [Result.andThen] at e⟩
  · unfold execOp; simp only [hop]
    exact ⟨(pur_index _ _ _).bind fun v => pur_pure _, fun w n w' e => by
      rw [Sem.run_bind] at e
      cases hs : (Instr.indexAt _ (ρ _) (ρ _)).run P w with
      | ok x w1 => rw [hs] at e; simp only [Result.andThen_ok, Sem.run_pure] at e; cases e; exact ⟨_, rfl⟩
      | halt x w1 => rw [hs] at e; simp [Result.andThen] at e⟩
  · cases h

theorem strict_frame (d : Option Tmp) (v : Value) : ∀ c a w, Strict Q (.panic c) (a.put d v) w → Strict Q (.panic c) a w := fun c a w h => absurd h.1 (by intro e; cases e)

/-- which operations wait for number i, as far as the edges that go back tell -/
def waitArr (md : Region.Mode) (ops : Array Oper) (listed : Array Bool) (i : Nat) : Array Bool :=
  (List.range ops.size).foldl (fun wt j => wt.push (j == i || (!listed.getD j true && match ops[j]? with
    | some o => o.after.any fun e => Region.binds md e && wt.getD e.on false
    | none => false))) #[]
end
end Go.Proofs.YtkpcgijdokhjkaaDoor

namespace Go.Proofs.YtkpcgijdokhjkaaDoor
open Go Go.RowKit

section
variable {P : Program} {ops : Array Oper} {Q : Exit → Act → World → Prop} {md : Region.Mode} {S : World → Prop} {W : Nat → Bool}

/-- whatever order is picked, and S holds behind every operation outside W -/
def wpAnyW (P : Program) (md : Region.Mode) (ops : Array Oper) (Q : Exit → Act → World → Prop) (S : World → Prop) (W : Nat → Bool) : Nat → Array Bool → Act → World → Prop
  | 0, listed, a, w => Region.ready md ops listed = [] ∧ Q .normal a w
  | fuel + 1, listed, a, w =>
    (Region.ready md ops listed = [] → Q .normal a w) ∧
    ∀ i ∈ Region.ready md ops listed, wpOp P ops Q i (fun a' w' => (W i = false → S w') ∧ wpAnyW P md ops Q S W fuel (listed.setIfInBounds i true) a' w') a w

theorem wpAny_of_W : ∀ (fuel : Nat) (listed : Array Bool) (a : Act) (w : World), wpAnyW P md ops Q S W fuel listed a w → wpAny P md ops Q fuel listed a w
  | 0, _, _, _, h => h
  | fuel + 1, _, _, _, h => ⟨h.1, fun i hi => wpOp_mono (fun a' w' h' => wpAny_of_W fuel _ a' w' h'.2) (h.2 i hi)⟩

theorem wpAnyW_take {i : Nat} {oi : Oper} {v : Value} (hi : ops[i]? = some oi) (hsel : ∀ (j : Nat) (o : Oper) cs b, ops[j]? = some o → o.op ≠ .select cs b) (wt : Nat → Bool)
    (hQ : ∀ c a w, Q (.panic c) (a.put oi.dst v) w → Q (.panic c) a w)
    (hB : ∀ j oj, ops[j]? = some oj → wt j = true → j ≠ i → ∃ e ∈ oj.after, Region.binds md e = true ∧ wt e.on = true) (hW : ∀ j oj, ops[j]? = some oj → W j = true → wt j = true) (hWi : W i = false) :
    ∀ (fuel : Nat) (listed : Array Bool) (a : Act) (w : World),
      (∀ j oj, ops[j]? = some oj → j ≠ i → listed.getD j true = false → (∀ e ∈ oj.after, Region.binds md e = true → e.on ≠ i) → oi.apart ops oj = true) →
      (∀ j, wt j = true → listed.getD j true = false) →
      i ∈ Region.ready md ops listed → YieldsIf P ops S oi v a → S w →
      wpAnyW P md ops Q S W fuel (listed.setIfInBounds i true) (a.put oi.dst v) w → wpAnyW P md ops Q S W (fuel + 1) listed a w := by
  intro fuel
  induction fuel with
  | zero =>
    intro listed a w _ _ hr hy hS H
    refine ⟨fun h => (by rw [h] at hr; cases hr), fun j hj => ?_⟩
    by_cases hji : j = i
    · subst hji; exact hy.wpOp hi hS ⟨fun _ => hS, H⟩
    · have := ready_mono hj hji
      rw [H.1] at this
      cases this
  | succ fuel ih =>
    intro listed a w hfree hC hr hy hS H
    refine ⟨fun h => (by rw [h] at hr; cases hr), fun j hj => ?_⟩
    by_cases hji : j = i
    · subst hji; exact hy.wpOp hi hS ⟨fun _ => hS, H⟩
    · have h1 := H.2 j (ready_mono hj hji)
      obtain ⟨hjun, oj, hoj, hall⟩ := mem_ready.1 hj
      have hpend : ∀ k, listed.getD k true = false → listed.getD k false = true → False := fun k h0 h1 => by
        rcases Nat.lt_or_ge k listed.size with h' | h'
        · simp [h'] at h0 h1; rw [h0] at h1; cases h1
        · simp [Array.getElem?_eq_none h'] at h1
      have hnot : ∀ e ∈ oj.after, Region.binds md e = true → e.on ≠ i := fun e he hb heq => by
        have h1 := hall e he hb
        rw [heq] at h1
        exact hpend i (mem_ready.1 hr).1 h1
      have hwt : wt j = false := by
        cases hq : wt j with
        | false => rfl
        | true =>
          obtain ⟨e, he, hb, hw⟩ := hB j oj hoj hq hji
          exact (hpend e.on (hC _ hw) (hall e he hb)).elim
      have hWj : W j = false := by
        cases hq : W j with
        | false => rfl
        | true => rw [hW j oj hoj hq] at hwt; cases hwt
      have h2 := wpOp_putIf hoj (hfree j oj hoj hji hjun hnot) (fun cs b => hsel i oi cs b hi) (fun cs b => hsel j oj cs b hoj) hQ hy h1
      refine wpOp_mono (fun a' w' h4 => ?_) h2
      obtain ⟨hy', hS', hK⟩ := h4
      refine ⟨hS', ih (listed.setIfInBounds j true) a' w' (fun k ok hk hki hu hno => hfree k ok hk hki ?_ hno) (fun k hk => ?_) (ready_mono hr (Ne.symm hji)) hy' (hS' hWj) ?_⟩
      · by_cases hjk : j = k
        · subst hjk; exact hjun
        · rw [getD_set_ne true hjk] at hu; exact hu
      · rw [getD_set_ne true (fun e => by subst e; rw [hwt] at hk; cases hk)]; exact hC k hk
      · rw [Array.setIfInBounds_comm _ _ hji]
        exact hK

theorem wpOp_strict {Q' : Exit → Act → World → Prop} {i : Nat} {K : Act → World → Prop} {a : Act} {w : World} (h : wpOp P ops (Strict Q) i K a w) : wpOp P ops (Strict Q') i K a w := by
  unfold wpOp at *
  split
  · rename_i hn; simp only [hn] at h; exact h
  · rename_i o ho
    simp only [ho] at h
    split
    · rename_i hw
      simp only [hw, if_true] at h
      rcases h with h | ⟨_, h⟩
      · refine .inl ?_
        unfold Oper.wp at *
        generalize (execOp a.eval o).run P w = r at *
        cases r with
        | ok n w' =>
          cases n <;> simp only [Oper.upon] at h ⊢ <;> first
            | exact h
            | exact Calls.mono h (fun e w'' he => by
                cases e with
                | returned v => exact he
                | panicked c => exact absurd he.1 (by intro e; cases e)
                | outgrown => exact absurd he Strict.noOut)
        | halt x w' => cases x <;> simp only [Oper.upon, Strict] at h ⊢ <;> first | exact h.elim | exact absurd h.1 (by intro e; cases e)
      · exact absurd h Strict.noOut
    · rename_i hw; simp only [hw] at h; exact h

/-- more operations that yield in whatever world -/
def kindV (o : Oper) : Bool := kindW o || match o.op with
  | .assign _ => true
  | .pick .. => true
  | .unOp .not _ _ => true
  | _ => false
theorem kindV_run {o : Oper} (h : kindV o = true) (ρ : Operand → Value) : Pur P (execOp ρ o) ∧ ∀ w n w', (execOp ρ o).run P w = .ok n w' → ∃ v, n = .value v := by
  unfold kindV at h
  rw [Bool.or_eq_true] at h
  rcases h with h | h
  · exact kindW_run h ρ
  · split at h <;> rename_i hop
    · unfold execOp; simp only [hop]
      exact ⟨pur_pure _, fun w n w' e => by rw [Sem.run_pure] at e; cases e; exact ⟨_, rfl⟩⟩
    · unfold execOp; simp only [hop]
      refine ⟨Pur.bind ?_ fun b => pur_pure _, fun w n w' e => ?_⟩
      · unfold asBool; split
        · exact pur_pure _
        · exact pur_halt _
      · rw [Sem.run_bind] at e
        cases hs : (asBool (ρ _)).run P w with
        | ok x w1 => rw [hs] at e; simp only [Result.andThen_ok, Sem.run_pure] at e; cases e; exact ⟨_, rfl⟩
        | halt x w1 => rw [hs] at e; simp [Result.andThen] at e
    · unfold execOp; simp only [hop]
      refine ⟨Pur.bind ?_ fun b => pur_pure _, fun w n w' e => ?_⟩
      · unfold Op.unary
        split <;> first | exact pur_pure _ | exact pur_halt _ | (rename_i hq; cases hq)
      · rw [Sem.run_bind] at e
        cases hs : (Op.unary .not (ρ _)).run P w with
        | ok x w1 => rw [hs] at e; simp only [Result.andThen_ok, Sem.run_pure] at e; cases e; exact ⟨_, rfl⟩
        | halt x w1 => rw [hs] at e; simp [Result.andThen] at e
    · cases h
/-- a load through a slot of old memory -/
def lowLoad (ops : Array Oper) (lows : List Tmp) (o : Oper) : Bool := match o.op with
  | .load _ (.tmp x) => lows.contains x && ops.all fun o' => o'.dst != some x
  | _ => false
theorem lowLoad_run {o : Oper} {lows : List Tmp} (h : lowLoad ops lows o = true) : ∃ t x, o.op = .load t (.tmp x) ∧ x ∈ lows := by
  unfold lowLoad at h
  split at h
  · rename_i t x hop
    simp only [Bool.and_eq_true, List.contains_eq_mem, decide_eq_true_eq] at h
    exact ⟨t, x, hop, h.1⟩
  · cases h

/-- the check of one operation that is taken ahead -/
def waitW (md : Region.Mode) (ops : Array Oper) (listed : Array Bool) (i : Nat) (W : List Nat) (wt : Array Bool) : Bool :=
  (List.range ops.size).all fun j => match ops[j]? with
    | some o => if wt.getD j false then (j == i || o.after.any fun e => Region.binds md e && wt.getD e.on false && decide (e.on < ops.size)) && !listed.getD j true else !W.contains j
    | none => true
def yieldW (md : Region.Mode) (ops : Array Oper) (listed : Array Bool) (W : List Nat) (i : Nat) : Bool :=
  match ops[i]? with
  | some _ => (Region.ready md ops listed).contains i && Region.free md ops listed i && !W.contains i && waitW md ops listed i W (waitArr md ops listed i)
  | none => false
def takeW (md : Region.Mode) (ops : Array Oper) (listed : Array Bool) (W : List Nat) (lows : List Tmp) (i : Nat) : Bool :=
  match ops[i]? with
  | some o => (Region.ready md ops listed).contains i && Region.free md ops listed i && !W.contains i && (kindV o || lowLoad ops lows o) && waitW md ops listed i W (waitArr md ops listed i)
  | none => false
def forceW (md : Region.Mode) (ops : Array Oper) (listed : Array Bool) (i : Nat) : Bool := Region.ready md ops listed == [i] && (ops[i]?).isSome
/-- operations that are taken ahead, one behind the other -/
def takesB (md : Region.Mode) (ops : Array Oper) (W : List Nat) (lows : List Tmp) : List Nat → Array Bool → Option (Array Bool)
  | [], listed => some listed
  | i :: rest, listed => if takeW md ops listed W lows i then takesB md ops W lows rest (listed.setIfInBounds i true) else none
/-- operations of the tail, one behind the other -/
def tailB (md : Region.Mode) (ops : Array Oper) (W : List Nat) : List Nat → Array Bool → Bool
  | [], listed => (Region.ready md ops listed).isEmpty
  | i :: rest, listed => forceW md ops listed i && W.contains i && tailB md ops W rest (listed.setIfInBounds i true)
/-- the parts: those that are taken ahead, and one that is forced, or one of which it is shown that it yields its value in whatever world -/
def partsB (md : Region.Mode) (ops : Array Oper) (W : List Nat) (lows : List Tmp) : List (List Nat × Nat × Bool) → List Nat → List Nat → Array Bool → Bool
  | [], takes, tail, listed => match takesB md ops W lows takes listed with
    | some l => tailB md ops W tail l
    | none => false
  | p :: rest, takes, tail, listed => match takesB md ops W lows p.1 listed with
    | some l => (if p.2.2 then yieldW md ops l W p.2.1 else forceW md ops l p.2.1 && !W.contains p.2.1) && partsB md ops W lows rest takes tail (l.setIfInBounds p.2.1 true)
    | none => false

def lenOf : List (List Nat × Nat × Bool) → Nat → Nat
  | [], n => n
  | p :: rest, n => p.1.length + (1 + lenOf rest n)

variable {B : Nat} {w0 : World} {lows : List Tmp} {Wl : List Nat}

theorem wpList_one {o : Oper} {rest : List Nat} {i : Nat} (hi : ops[i]? = some o) {a : Act} {w : World} (h : wpList P ops Q ((i :: rest).filterMap fun i => ops[i]?) a w) :
    wpOp P ops Q i (fun a' w' => wpList P ops Q (rest.filterMap fun i => ops[i]?) a' w') a w := by
  rw [List.filterMap_cons_some hi] at h
  unfold wpOp
  simp only [hi]
  unfold wpList at h
  split at h
  · rename_i hw; simp only [hw, if_true]; exact h
  · rename_i hw; simp only [hw]; exact h

theorem has_op {i : Nat} {listed : Array Bool} (hc : takeW md ops listed Wl lows i = true) : ∃ o, ops[i]? = some o := by
  unfold takeW at hc
  cases hq : ops[i]? with
  | none => rw [hq] at hc; cases hc
  | some o => exact ⟨o, rfl⟩
theorem has_op' {i : Nat} {listed : Array Bool} (hc : forceW md ops listed i = true) : ∃ o, ops[i]? = some o := by
  unfold forceW at hc
  rw [Bool.and_eq_true] at hc
  exact Option.isSome_iff_exists.1 hc.2

/-- the check of the whole region -/
def wholeB (ops : Array Oper) (W : List Nat) (lows : List Tmp) (ps : List (List Nat × Nat × Bool)) (takes tail : List Nat) : Bool :=
  lenOf ps (takes.length + tail.length) == ops.size && Region.noSelect ops && (lows.all fun x => ops.all fun o => o.dst != some x) && partsB .any ops W lows ps takes tail (Array.replicate ops.size false)

end
end Go.Proofs.YtkpcgijdokhjkaaDoor

namespace Go.Proofs.YtkpcgijdokhjkaaDoor
open Go Go.RowKit

section
variable {P : Program} {ops : Array Oper} {Q : Exit → Act → World → Prop} {md : Region.Mode} {B : Nat} {w0 : World} {lows : List Tmp} {Wl : List Nat} {S : World → Prop}

/-- the walk, parted -/
def wpPartsI (P : Program) (ops : Array Oper) (Q : Exit → Act → World → Prop) (S : World → Prop) : List (List Nat × Nat × Bool) → List Nat → Act → World → Prop
  | [], final, a, w => wpList P ops (Strict Q) (final.filterMap fun i => ops[i]?) a w
  | (ts, i, false) :: rest, final, a, w => wpList P ops (Strict fun _ a' w' => S w' ∧ wpPartsI P ops Q S rest final a' w') ((ts ++ [i]).filterMap fun i => ops[i]?) a w
  | (ts, i, true) :: rest, final, a, w => wpList P ops (Strict fun _ a' w' => ∃ o v, ops[i]? = some o ∧ YieldsIf P ops S o v a' ∧ wpPartsI P ops Q S rest final (a'.put o.dst v) w') ((ts ++ []).filterMap fun i => ops[i]?) a w

theorem partsI_force {ts final : List Nat} {i : Nat} {rest : List (List Nat × Nat × Bool)} {a : Act} {w : World}
    (h : wpList P ops (Strict fun _ a' w' => S w' ∧ wpPartsI P ops Q S rest final a' w') ((ts ++ [i]).filterMap fun i => ops[i]?) a w) : wpPartsI P ops Q S ((ts, i, false) :: rest) final a w := h
theorem partsI_yield {ts final : List Nat} {i : Nat} {rest : List (List Nat × Nat × Bool)} {a : Act} {w : World}
    (h : wpList P ops (Strict fun _ a' w' => ∃ o v, ops[i]? = some o ∧ YieldsIf P ops S o v a' ∧ wpPartsI P ops Q S rest final (a'.put o.dst v) w') ((ts ++ []).filterMap fun i => ops[i]?) a w) : wpPartsI P ops Q S ((ts, i, true) :: rest) final a w := h
theorem partsI_last {final : List Nat} {a : Act} {w : World} (h : wpList P ops (Strict Q) (final.filterMap fun i => ops[i]?) a w) : wpPartsI P ops Q S [] final a w := h
end
end Go.Proofs.YtkpcgijdokhjkaaDoor
