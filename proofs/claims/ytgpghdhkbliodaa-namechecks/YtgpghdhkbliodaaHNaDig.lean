/- The order in which digits count as numbers, as plain lists of bytes: it is an order. -/
import Derived.Test.YtgpghdhkbliodaaHSegsP
import Derived.Laws.BitsAllLaws
import Derived.Laws.Bits64
import Derived.Laws.Rows
import Derived.Laws.Tables
import Derived.Laws.CopyOwn
import Derived.Below
import Derived.Deep.MidRow
import Derived.Test.YtgpghdhkbliodaaRows
import Derived.ChangeKeysEq
import Derived.WalkKit
import Derived.Laws.BytesArg
import Derived.Laws.ResultCell
import Derived.Handy
import Derived.ProofKit
import Derived.OpenShut
import Derived.WalkSpells
import Derived.BigQuiet
import Derived.Deep.QuietTactic
import Derived.Lib.Bytealg

namespace Go.Proofs.Ytgpghdhkbliodaa
open Go Go.RowKit
section
variable {P : Program} {ops : Array Oper} {Q : Exit → Act → World → Prop} {S : World → Prop}
/-- every order from here on: each operation that is ready may come next (pre) -/
def machB (ops : Array Oper) (pre : Nat → Array Bool → Bool) (fin : Array Bool → Bool) : Nat → Array Bool → Bool
  | 0, l => (Region.ready .any ops l).isEmpty && fin l
  | f + 1, l => !(Region.ready .any ops l).isEmpty && (Region.ready .any ops l).all fun i => pre i l && (ops[i]?).isSome && machB ops pre fin f (l.setIfInBounds i true)
/-- the operations that are taken ahead, then the machine: the check -/
def yieldsB (ops : Array Oper) (pre : Nat → Array Bool → Bool) (fin : Array Bool → Bool) : List Nat → Nat → Array Bool → Bool
  | [], f, l => machB ops pre fin f l
  | i :: ys, f, l => yieldW .any ops l [] i && yieldsB ops pre fin ys f (l.setIfInBounds i true)
/-- .. and the walk -/
def wpYields (P : Program) (ops : Array Oper) (S : World → Prop) (K : Array Bool → Act → Prop) : List Nat → Array Bool → Act → Prop
  | [], l, a => K l a
  | i :: ys, l, a => ∃ o v, ops[i]? = some o ∧ YieldsIf P ops S o v a ∧ wpYields P ops S K ys (l.setIfInBounds i true) (a.put o.dst v)
theorem mach_step {pre : Nat → Array Bool → Bool} {fin : Array Bool → Bool} {R : Array Bool → Act → World → Prop}
    (hstep : ∀ i l a w, pre i l = true → R l a w → wpList P ops (Strict fun _ a' w' => S w' ∧ R (l.setIfInBounds i true) a' w') ([i].filterMap fun i => ops[i]?) a w)
    (hend : ∀ l a w, fin l = true → R l a w → Strict Q .normal a w) :
    ∀ (fuel : Nat) (l : Array Bool) (a : Act) (w : World), machB ops pre fin fuel l = true → R l a w → wpAnyW P .any ops (Strict Q) S (([] : List Nat).contains ·) fuel l a w
  | 0, l, a, w, hg, hR => by
    simp only [machB, Bool.and_eq_true, List.isEmpty_iff] at hg
    exact ⟨hg.1, hend l a w hg.2 hR⟩
  | fuel + 1, l, a, w, hg, hR => by
    unfold machB at hg
    simp only [Bool.and_eq_true, Bool.not_eq_true'] at hg
    refine ⟨fun h => (by rw [h] at hg; exact absurd hg.1 (by decide)), fun i hi => ?_⟩
    have hg2 := hg.2
    rw [List.all_eq_true] at hg2
    have h2 := hg2 i hi
    simp only [Bool.and_eq_true] at h2
    obtain ⟨o, ho⟩ := Option.isSome_iff_exists.1 h2.1.2
    refine wpOp_mono (fun a' w' h' => ?_) (wpOp_strict (wpList_one ho (hstep i l a w h2.1.1 hR)))
    exact ⟨fun _ => h'.2.1, mach_step hstep hend fuel _ a' w' h2.2 h'.2.2⟩
theorem yields_step (hs : Region.noSelect ops = true) {pre : Nat → Array Bool → Bool} {fin : Array Bool → Bool} {K : Array Bool → Act → Prop} {w : World} (hS : S w) {f : Nat}
    (hK : ∀ l a, machB ops pre fin f l = true → K l a → wpAnyW P .any ops (Strict Q) S (([] : List Nat).contains ·) f l a w) :
    ∀ (ys : List Nat) (l : Array Bool) (a : Act), yieldsB ops pre fin ys f l = true → wpYields P ops S K ys l a → wpAnyW P .any ops (Strict Q) S (([] : List Nat).contains ·) (ys.length + f) l a w
  | [], l, a, hb, h => by
    rw [List.length_nil, Nat.zero_add]
    exact hK l a hb h
  | i :: ys, l, a, hb, h => by
    simp only [yieldsB, Bool.and_eq_true] at hb
    obtain ⟨o, v, ho, hy, hn⟩ := h
    have hc := hb.1
    unfold yieldW at hc
    rw [ho] at hc
    simp only [Bool.and_eq_true, Bool.not_eq_true'] at hc
    rw [List.length_cons, show ys.length + 1 + f = ys.length + f + 1 from by omega]
    exact takeS_gen hs ho hc.1.1.1 hc.1.1.2 hc.1.2 hc.2 hy hS (yields_step hs hS hK ys _ _ hb.2 hn)
/-- the whole check -/
def machWhole (ops : Array Oper) (pre : Nat → Array Bool → Bool) (fin : Array Bool → Bool) (ys : List Nat) (f : Nat) : Bool :=
  (ys.length + f == ops.size) && Region.noSelect ops && yieldsB ops pre fin ys f (Array.replicate ops.size false)
/-- THE LAW. -/
theorem wp_region_mach {id : Nat} {a : Act} {w : World} (S : World → Prop) (pre : Nat → Array Bool → Bool) (fin : Array Bool → Bool) (ys : List Nat) (f : Nat) (R : Array Bool → Act → World → Prop)
    (hm : P.follows .mixedOrders = true) (hB : machWhole ops pre fin ys f = true) (hS : S w.drew)
    (hy : wpYields P ops S (fun l a' => R l a' w.drew) ys (Array.replicate ops.size false) a)
    (hstep : ∀ i l a w, pre i l = true → R l a w → wpList P ops (Strict fun _ a' w' => S w' ∧ R (l.setIfInBounds i true) a' w') ([i].filterMap fun i => ops[i]?) a w)
    (hend : ∀ l a w, fin l = true → R l a w → Strict Q .normal a w) : (Code.region id ops true).wp P Q a w := by
  unfold machWhole at hB
  simp only [Bool.and_eq_true, beq_iff_eq] at hB
  obtain ⟨⟨e, hs⟩, hb⟩ := hB
  refine Code.wp_mono Strict.imp (wp_region_any hm ?_)
  rw [← e] at hb hy ⊢
  exact wpAny_of_W _ _ _ _ (yields_step hs hS (fun l a' h1 h2 => mach_step hstep hend f l a' _ h1 h2) ys _ a hb hy)
end
end Go.Proofs.Ytgpghdhkbliodaa

namespace Go.Proofs.Ytgpghdhkbliodaa

/-- four words -/
structure Q4 where
  a : Nat
  b : Nat
  c : Nat
  d : Nat
  deriving DecidableEq
def Q4.ok (q : Q4) : Prop := q.a < 4294967296 ∧ q.b < 4294967296 ∧ q.c < 4294967296 ∧ q.d < 4294967296

end Go.Proofs.Ytgpghdhkbliodaa

namespace Go.Proofs.Ytgpghdhkbliodaa

def sum : List Nat → Nat
  | [] => 0
  | b :: r => b + sum r
def f3 (b : Nat) : Nat := (b / 16 + b) &&& 15
end Go.Proofs.Ytgpghdhkbliodaa

namespace Go.Proofs.Ytgpghdhkbliodaa

structure St where
  x0 : Nat
  x1 : Nat
  x2 : Nat
  x3 : Nat
  x4 : Nat
  x5 : Nat
  x6 : Nat
  x7 : Nat
  x8 : Nat
  x9 : Nat
  x10 : Nat
  x11 : Nat
  x12 : Nat
  x13 : Nat
  x14 : Nat
  x15 : Nat
  deriving DecidableEq

def St.ok (s : St) : Prop := s.x0 < 4294967296 ∧ s.x1 < 4294967296 ∧ s.x2 < 4294967296 ∧ s.x3 < 4294967296 ∧ s.x4 < 4294967296 ∧ s.x5 < 4294967296 ∧ s.x6 < 4294967296 ∧ s.x7 < 4294967296 ∧ s.x8 < 4294967296 ∧ s.x9 < 4294967296 ∧ s.x10 < 4294967296 ∧ s.x11 < 4294967296 ∧ s.x12 < 4294967296 ∧ s.x13 < 4294967296 ∧ s.x14 < 4294967296 ∧ s.x15 < 4294967296
def stA (s : St) : Array Value := #[.int .u32 (s.x0 : Int), .int .u32 (s.x1 : Int), .int .u32 (s.x2 : Int), .int .u32 (s.x3 : Int), .int .u32 (s.x4 : Int), .int .u32 (s.x5 : Int), .int .u32 (s.x6 : Int), .int .u32 (s.x7 : Int), .int .u32 (s.x8 : Int), .int .u32 (s.x9 : Int), .int .u32 (s.x10 : Int), .int .u32 (s.x11 : Int), .int .u32 (s.x12 : Int), .int .u32 (s.x13 : Int), .int .u32 (s.x14 : Int), .int .u32 (s.x15 : Int)]
def St.zero : St := ⟨0, 0, 0, 0, 0, 0, 0, 0, 0, 0, 0, 0, 0, 0, 0, 0⟩

/-- the word at a place -/
def St.at (s : St) : Nat → Nat
  | 0 => s.x0
  | 1 => s.x1
  | 2 => s.x2
  | 3 => s.x3
  | 4 => s.x4
  | 5 => s.x5
  | 6 => s.x6
  | 7 => s.x7
  | 8 => s.x8
  | 9 => s.x9
  | 10 => s.x10
  | 11 => s.x11
  | 12 => s.x12
  | 13 => s.x13
  | 14 => s.x14
  | 15 => s.x15
  | _ => 0
end Go.Proofs.Ytgpghdhkbliodaa

namespace Go.Proofs.Ytgpghdhkbliodaa
open Go Go.RowKit

/-- block g holds the cells, of type t -/
def Blk (w : World) (g : Nat) (t : TypeId) (cs : Array Value) : Prop := w.heap[g]? = some (.cells cs t (0, 0))

theorem Blk.lt {w : World} {g : Nat} {t : TypeId} {cs : Array Value} (h : Blk w g t cs) : g < w.heap.size := (Array.getElem?_eq_some_iff.1 h).1
theorem Blk.below {w w' : World} {g B : Nat} {t : TypeId} {cs : Array Value} (h : Blk w g t cs) (hb : Below B w w') (hg : g < B) : Blk w' g t cs := by
  unfold Blk at *; rw [hb.block g hg]; exact h
theorem Blk.drew {w : World} {g : Nat} {t : TypeId} {cs : Array Value} (h : Blk w g t cs) : Blk w.drew g t cs := h
theorem Blk.alloc {w : World} {g : Nat} {t : TypeId} {cs : Array Value} (h : Blk w g t cs) (o : Obj) : Blk (w.alloc o) g t cs := by
  have := h.lt
  unfold Blk at *; rw [Below.heap_alloc w o g this]; exact h
theorem Blk.new (w : World) (t : TypeId) (cs : Array Value) : Blk (w.alloc (.cells cs t)) w.heap.size t cs := heap_alloc_new w _
theorem Blk.set {w : World} {g : Nat} {t : TypeId} {old : Array Value} (h : Blk w g t old) (cs : Array Value) : Blk (w.setRow g cs) g t cs := setRow_heap w g old cs t _ h
theorem Blk.other {w : World} {g k : Nat} {t : TypeId} {old : Array Value} (h : Blk w k t old) (cs : Array Value) (hk : k ≠ g) : Blk (w.setRow g cs) k t old := by
  unfold Blk at *; rw [setRow_other w g k cs hk]; exact h
theorem Blk.cell {w : World} {g : Nat} {t : TypeId} {cs : Array Value} (h : Blk w g t cs) (i : Nat) : w.cell? ⟨g, i, none⟩ = cs[i]? := cell_of_row _ _ i cs t (0, 0) h

theorem Blk.load {P : Program} {w : World} {g : Nat} {t : TypeId} {cs : Array Value} (h : Blk w g t cs) {n : Nat} (hn : cs.size = n) :
    (loadCellsFrom ⟨g, 0, none⟩ 0 n #[]).run P w = .ok cs w := by
  subst hn
  have := run_loadCells_list (P := P) w ⟨g, 0, none⟩ cs.toList (fun j v hv => by
    have hadd : (⟨g, 0, none⟩ : Addr).add j = ⟨g, j, none⟩ := by unfold Addr.add; split <;> simp_all
    rw [hadd, h.cell]
    simpa using hv)
  simpa [loadCells] using this
/-- sixteen cells, of a state -/
structure Cells (w : World) (g : Nat) (s : St) : Prop where
  c0 : w.cell? ⟨g, 0, none⟩ = some (.int .u32 (s.x0 : Int))
  c1 : w.cell? ⟨g, 1, none⟩ = some (.int .u32 (s.x1 : Int))
  c2 : w.cell? ⟨g, 2, none⟩ = some (.int .u32 (s.x2 : Int))
  c3 : w.cell? ⟨g, 3, none⟩ = some (.int .u32 (s.x3 : Int))
  c4 : w.cell? ⟨g, 4, none⟩ = some (.int .u32 (s.x4 : Int))
  c5 : w.cell? ⟨g, 5, none⟩ = some (.int .u32 (s.x5 : Int))
  c6 : w.cell? ⟨g, 6, none⟩ = some (.int .u32 (s.x6 : Int))
  c7 : w.cell? ⟨g, 7, none⟩ = some (.int .u32 (s.x7 : Int))
  c8 : w.cell? ⟨g, 8, none⟩ = some (.int .u32 (s.x8 : Int))
  c9 : w.cell? ⟨g, 9, none⟩ = some (.int .u32 (s.x9 : Int))
  c10 : w.cell? ⟨g, 10, none⟩ = some (.int .u32 (s.x10 : Int))
  c11 : w.cell? ⟨g, 11, none⟩ = some (.int .u32 (s.x11 : Int))
  c12 : w.cell? ⟨g, 12, none⟩ = some (.int .u32 (s.x12 : Int))
  c13 : w.cell? ⟨g, 13, none⟩ = some (.int .u32 (s.x13 : Int))
  c14 : w.cell? ⟨g, 14, none⟩ = some (.int .u32 (s.x14 : Int))
  c15 : w.cell? ⟨g, 15, none⟩ = some (.int .u32 (s.x15 : Int))
theorem Blk.cells {w : World} {g : Nat} {t : TypeId} {s : St} (h : Blk w g t (stA s)) : Cells w g s :=
  ⟨by rw [h.cell]; rfl, by rw [h.cell]; rfl, by rw [h.cell]; rfl, by rw [h.cell]; rfl, by rw [h.cell]; rfl, by rw [h.cell]; rfl, by rw [h.cell]; rfl, by rw [h.cell]; rfl, by rw [h.cell]; rfl, by rw [h.cell]; rfl, by rw [h.cell]; rfl, by rw [h.cell]; rfl, by rw [h.cell]; rfl, by rw [h.cell]; rfl, by rw [h.cell]; rfl, by rw [h.cell]; rfl⟩
theorem Blk.put {w : World} {g : Nat} {t : TypeId} {cs : Array Value} (h : Blk w g t cs) (i : Nat) (v : Value) : Blk (w.setCell ⟨g, i, none⟩ v) g t (cs.setIfInBounds i v) := by
  rw [setCell_eq_setRow w g i cs t (0, 0) v h]; exact h.set _
end Go.Proofs.Ytgpghdhkbliodaa

namespace Go.Proofs.Ytgpghdhkbliodaa
open Go Go.RowKit

def va (n : Nat) (f : Nat → Value) : Array Value := ((List.range n).map f).toArray
theorem va_size (n : Nat) (f : Nat → Value) : (va n f).size = n := by simp [va]
theorem va_at {n : Nat} (f : Nat → Value) {i : Nat} (h : i < n) : (va n f)[i]? = some (f i) := by simp [va, h]
theorem va_ext {n : Nat} {f : Nat → Value} {a : Array Value} (hs : a.size = n) (h : ∀ i, i < n → a[i]? = some (f i)) : a = va n f := by
  apply Array.ext_getElem?
  intro i
  by_cases hi : i < n
  · rw [h i hi, va_at f hi]
  · rw [Array.getElem?_eq_none (by omega), Array.getElem?_eq_none (by rw [va_size]; omega)]
theorem va_congr {n : Nat} {f g : Nat → Value} (h : ∀ i, i < n → f i = g i) : va n f = va n g :=
  va_ext (va_size n f) fun i hi => by rw [va_at f hi, h i hi]
theorem va_toList (n : Nat) (f : Nat → Value) : (va n f).toList = (List.range n).map f := by simp [va]
theorem va_one {n : Nat} {f : Nat → Value} (h : ∀ i, i < n → (f i).oneCell' = true) : (va n f).all (·.oneCell') = true := by
  refine all_oneCell_toArray fun v hv => ?_
  obtain ⟨i, hi, rfl⟩ := List.mem_map.1 hv
  exact h i (List.mem_range.1 hi)
def iv (k : IntKind) (f : Nat → Nat) : Nat → Value := fun i => .int k (f i : Int)
theorem iv_one (k : IntKind) (f : Nat → Nat) (n : Nat) : (va n (iv k f)).all (·.oneCell') = true := va_one fun _ _ => rfl
/-- a run of values laid over the places from o on -/
def over (f : Nat → Value) (o : Nat) (vs : List Value) : Nat → Value := fun i => if o ≤ i ∧ i < o + vs.length then vs.getD (i - o) undef else f i
theorem Blk.range {w : World} {g t n : Nat} {f : Nat → Value} (h : Blk w g t (va n f)) (o m : Nat) (hm : o + m ≤ n) : w.rangeAt g o ((List.range m).map fun j => f (o + j)) := fun j v hv => by
  rw [h.cell]
  have hj : j < m := by
    have := (List.getElem?_eq_some_iff.1 hv).1
    simpa using this
  rw [va_at f (by omega)]
  simpa [hj] using hv
theorem Blk.cv {w : World} {g t n : Nat} {f : Nat → Value} (h : Blk w g t (va n f)) {i : Nat} (hi : i < n) : w.cell? ⟨g, i, none⟩ = some (f i) := by rw [h.cell, va_at f hi]
end Go.Proofs.Ytgpghdhkbliodaa

namespace Go.Proofs.Ytgpghdhkbliodaa
open Go Go.RowKit

/-- F, and from place a on m places of G -/
def overF (F : Nat → Value) (a m : Nat) (G : Nat → Value) : Nat → Value := fun i => if a ≤ i ∧ i < a + m then G (i - a) else F i
theorem splice_range (n a m : Nat) (F G : Nat → Value) (h : a + m ≤ n) :
    splice ((List.range n).map F) a ((List.range m).map G) = (List.range n).map (overF F a m G) := by
  apply List.ext_getElem?
  intro i
  unfold splice
  have l1 : (((List.range n).map F).take a).length = a := by simp; omega
  have l2 : ((List.range m).map G).length = m := by simp
  by_cases h1 : i < a
  · rw [List.getElem?_append_left (by omega), List.getElem?_take_of_lt h1]
    have : overF F a m G i = F i := if_neg (by omega)
    simp [show i < n by omega, this]
  · rw [List.getElem?_append_right (by omega), l1]
    by_cases h2 : i < a + m
    · rw [List.getElem?_append_left (by omega)]
      have : overF F a m G i = G (i - a) := if_pos (by omega)
      simp [show i < n by omega, show i - a < m by omega, this]
    · rw [List.getElem?_append_right (by omega), List.getElem?_drop, l2, show a + m + (i - a - m) = i from by omega]
      have : overF F a m G i = F i := if_neg (by omega)
      by_cases h3 : i < n
      · simp [h3, this]
      · simp [h3]
theorem splice_va (n a m : Nat) (F G : Nat → Value) (h : a + m ≤ n) : (splice ((List.range n).map F) a ((List.range m).map G)).toArray = va n (overF F a m G) := by
  rw [splice_range n a m F G h]; rfl
theorem mem_iv_one (κ : IntKind) (m : Nat) (f : Nat → Nat) : ∀ v ∈ (List.range m).map (fun j => Value.int κ ((f j : Nat) : Int)), v.oneCell' = true := fun v hv => by
  obtain ⟨j, _, rfl⟩ := List.mem_map.1 hv
  rfl
end Go.Proofs.Ytgpghdhkbliodaa

namespace Go.Proofs.Ytgpghdhkbliodaa
set_option linter.unusedVariables false
open Go Go.RowKit

/-- the byte of a text at a place -/
def tbyte (s : ByteArray) (i : Nat) : Nat := (s.data.toList.getD i 0).toNat
/-- n bytes as a text -/
def strN (f : Nat → Nat) (n : Nat) : ByteArray := strOfNums ((List.range n).map fun i => (f i : Int))
theorem strN_size (f : Nat → Nat) (n : Nat) : (strN f n).size = n := by unfold strN; rw [strOfNums_size]; simp
theorem strN_congr {f g : Nat → Nat} {n : Nat} (h : ∀ j, j < n → f j = g j) : strN f n = strN g n := by
  unfold strN
  congr 1
  exact List.map_congr_left fun j hj => by rw [h j (List.mem_range.1 hj)]
/-- n bytes as values -/
def byL (f : Nat → Nat) (m : Nat) : List Value := (List.range m).map fun j => Value.int .u8 ((f j : Nat) : Int)
theorem byL_length (f : Nat → Nat) (m : Nat) : (byL f m).length = m := by simp [byL]
theorem byL_at (f : Nat → Nat) (m j : Nat) (h : j < m) : (byL f m)[j]? = some (.int .u8 ((f j : Nat) : Int)) := by simp [byL, h]
theorem text_prefix (s : ByteArray) (n : Nat) (h : n ≤ s.size) : List.take n (List.map (fun b : UInt8 => Value.int .u8 (b.toNat : Int)) s.data.toList) = byL (tbyte s) n := by
  have hs : s.data.toList.length = s.size := Array.length_toList
  apply List.ext_getElem?
  intro i
  by_cases hi : i < n
  · rw [byL_at _ _ _ hi, List.getElem?_take_of_lt hi, List.getElem?_map, List.getElem?_eq_getElem (by omega)]
    unfold tbyte
    rw [List.getD_eq_getElem?_getD, List.getElem?_eq_getElem (by omega)]
    rfl
  · rw [List.getElem?_eq_none (by rw [List.length_take]; omega), List.getElem?_eq_none (by rw [byL_length]; omega)]
section
variable {P : Program}
theorem run_copy_text (w : World) (dT sT ty elem : TypeId) (g o dLen dCap : Nat) (s : ByteArray) (cur : Array Value) (t : TypeId) (n : Nat)
    (hu : P.underlying dT = some (.slice elem)) (hs : (P.info? elem).map (·.size) = some 1)
    (hg : w.heap[g]? = some (.cells cur t (0, 0))) (hn : n = Nat.min s.size dLen) (hfit : o + n ≤ cur.size) :
    (Builtin.copy_ #[dT, sT] ty #[.slice (some ⟨g, o, none⟩) dLen dCap, .string s]).run P w =
      .ok (goInt n) (w.setRow g (splice cur.toList o (byL (tbyte s) n)).toArray) := by
  have hns : n ≤ s.size := by rw [hn]; exact Nat.min_le_left _ _
  have eL := text_prefix s n hns
  have hst := run_storeCells_at P g o t (List.take n (List.map (fun b : UInt8 => Value.int .u8 (b.toNat : Int)) s.data.toList)) 0 cur w hg (by rw [eL, byL_length]; simpa using hfit) (by rw [eL]; exact mem_iv_one _ _ _)
  have e2 : (w.setRow g (cur.toList.take (o + 0) ++ List.take n (List.map (fun b : UInt8 => Value.int .u8 (b.toNat : Int)) s.data.toList) ++ cur.toList.drop (o + 0 + (List.take n (List.map (fun b : UInt8 => Value.int .u8 (b.toNat : Int)) s.data.toList)).length)).toArray) = w.setRow g (splice cur.toList o (byL (tbyte s) n)).toArray := by
    rw [eL]
    unfold splice
    rw [List.append_assoc, Nat.add_zero]
  rw [e2] at hst
  cases hq : P.info? elem with
  | none => simp [hq] at hs
  | some i =>
    have hi : i.size = 1 := by simpa [hq] using hs
    generalize w.setRow g (splice cur.toList o (byL (tbyte s) n)).toArray = W at *
    simp [Builtin.copy_, run_underlying hu, Builtin.lenOf, Builtin.firstCells, sizeOf, typeInfo, hq, ← hn, hst]
theorem run_bytes_text (w : World) (src e dst : TypeId) (hs : P.underlying src = some (.slice e)) (he : P.underlying e = some (.int .u8)) (hd : P.underlying dst = some .string) {g t N : Nat} {f : Nat → Nat} (h : Blk w g t (va N (iv .u8 f))) (o n c : Nat) (hn : o + n ≤ N) :
    (convert src dst (.slice (some ⟨g, o, none⟩) n c)).run P w = .ok (.string (strN (fun j => f (o + j)) n)) w :=
  run_convert_bytes_arg w src e hs he g o n c _ (by simp) (fun i hi => by
    rw [h.cv (i := o + i) (by omega)]
    simp [List.getD_eq_getElem?_getD, hi, iv]) dst hd
end
/-- n bytes laid into a block from place r on -/
def putAt (p : Nat → Nat) (r n : Nat) (b : Nat → Nat) : Nat → Nat := fun j => if r ≤ j ∧ j < r + n then b (j - r) else p j
theorem splice_put (N r n : Nat) (p b : Nat → Nat) (h : r + n ≤ N) : (splice (va N (iv .u8 p)).toList r (byL b n)).toArray = va N (iv .u8 (putAt p r n b)) := by
  rw [va_toList]
  refine Eq.trans (by rfl) ((splice_va N r n (iv .u8 p) (fun j => Value.int .u8 ((b j : Nat) : Int)) h).trans ?_)
  refine va_congr fun i hi => ?_
  unfold overF iv putAt
  by_cases h1 : r ≤ i ∧ i < r + n
  · rw [if_pos h1, if_pos h1]
  · rw [if_neg h1, if_neg h1]
theorem ksizeU8 : (Try.prog.info? 5).map (·.size) = some 1 := by kernel_rfl
theorem below_new1 (w : World) (o : Obj) : Below w.heap.size w (w.alloc o) := (Below.refl _ _).alloc (Nat.le_refl _) _
end Go.Proofs.Ytgpghdhkbliodaa

namespace Go.Proofs.Ytgpghdhkbliodaa
open Go.RowKit

set_option maxHeartbeats 1000000 in
theorem bytes16_any (x : Nat) (w : World) :
    Calls Try.prog 23 #[.int .u16 (x : Int)] w fun e w' => e = .returned (.agg #[.int .u8 ((x % 256 : Nat) : Int), .int .u8 ((x / 256 % 256 : Nat) : Int)]) ∧ Below w.heap.size w w' := by
  go_enter Try.func23, Try.ntmps23
  go_wp2
  go_rounds 3
  go_returns
  refine ⟨by simp, ?_⟩
  go_grown

set_option maxHeartbeats 1000000 in
theorem bytes32_any (x : Nat) (w : World) :
    Calls Try.prog 22 #[.int .u32 (x : Int)] w fun e w' => e = .returned (.agg #[.int .u8 ((x % 256 : Nat) : Int), .int .u8 ((x / 256 % 256 : Nat) : Int), .int .u8 ((x / 65536 % 256 : Nat) : Int), .int .u8 ((x / 16777216 % 256 : Nat) : Int)]) ∧ Below w.heap.size w w' := by
  go_enter Try.func22, Try.ntmps22
  go_wp2
  go_rounds 5
  go_returns
  refine ⟨by simp, ?_⟩
  go_grown

end Go.Proofs.Ytgpghdhkbliodaa

namespace Go.Proofs.Ytgpghdhkbliodaa
set_option maxRecDepth 20000
open Go Go.RowKit
set_option linter.unusedVariables false
set_option linter.unusedSimpArgs false
/-- a number's bytes, the lowest first -/
def nb (x j : Nat) : Nat := x / 256 ^ j % 256
/-- an entry's bytes -/
def entF (i : Nat) (s : ByteArray) (j : Nat) : Nat :=
  if j < 4 then nb i j else if j < 6 then nb s.size (j - 4) else if j < 8 then 0 else if j < 8 + s.size then tbyte s (j - 8) else 0
theorem bytes32_nb (x : Nat) (w : World) : Calls Try.prog 22 #[.int .u32 (x : Int)] w fun e w' => e = .returned (.agg (va 4 (iv .u8 (nb x)))) ∧ Below w.heap.size w w' := by
  have h : va 4 (iv .u8 (nb x)) = #[.int .u8 ((x % 256 : Nat) : Int), .int .u8 ((x / 256 % 256 : Nat) : Int), .int .u8 ((x / 65536 % 256 : Nat) : Int), .int .u8 ((x / 16777216 % 256 : Nat) : Int)] := by
    show #[iv .u8 (nb x) 0, iv .u8 (nb x) 1, iv .u8 (nb x) 2, iv .u8 (nb x) 3] = _
    simp [iv, nb]
  rw [h]
  exact bytes32_any x w
theorem bytes16_nb (x : Nat) (w : World) : Calls Try.prog 23 #[.int .u16 (x : Int)] w fun e w' => e = .returned (.agg (va 2 (iv .u8 (nb x)))) ∧ Below w.heap.size w w' := by
  have h : va 2 (iv .u8 (nb x)) = #[.int .u8 ((x % 256 : Nat) : Int), .int .u8 ((x / 256 % 256 : Nat) : Int)] := by
    show #[iv .u8 (nb x) 0, iv .u8 (nb x) 1] = _
    simp [iv, nb]
  rw [h]
  exact bytes16_any x w
theorem wrap_u32 (i : Nat) (h : i < 4294967296) : IntKind.u32.wrap (i : Int) = (i : Int) := by
  unfold IntKind.wrap
  simp only [IntKind.bits, IntKind.signed]
  have : ((i : Int)) % (2 ^ 32) = (i : Int) := by omega
  simp [this]
  omega
theorem wrap_u16 (i : Nat) (h : i < 65536) : IntKind.u16.wrap (i : Int) = (i : Int) := by
  unfold IntKind.wrap
  simp only [IntKind.bits, IntKind.signed]
  have : ((i : Int)) % (2 ^ 16) = (i : Int) := by omega
  simp [this]
  omega
theorem sizeB4 : (Try.prog.info? 44).map (·.size) = some 4 := by kernel_rfl
theorem sizeB2 : (Try.prog.info? 47).map (·.size) = some 2 := by kernel_rfl
theorem copy_blk {w : World} {ty : TypeId} {g o dLen dCap g2 n sCap N : Nat} {T T2 : TypeId} {p f : Nat → Nat} (hb : Blk w g T (va N (iv .u8 p))) (hb2 : Blk w g2 T2 (va n (iv .u8 f))) (hn : n ≤ dLen) (hfit : o + n ≤ N) :
    (Builtin.copy_ #[51, 51] ty #[.slice (some ⟨g, o, none⟩) dLen dCap, .slice (some ⟨g2, 0, none⟩) n sCap]).run Try.prog w = .ok (goInt n) (w.setRow g (va N (iv .u8 (putAt p o n f)))) := by
  have hl : (byL f n).length = n := byL_length f n
  have h := run_copy_row (P := Try.prog) w 51 51 ty 5 g o dLen dCap ⟨g2, 0, none⟩ n sCap _ T (byL f n) Try.underlying51 ksizeU8 hb (by rw [hl]; show n = min n dLen; omega)
    (fun j v hv => by
      have hj : j < n := by have := (List.getElem?_eq_some_iff.1 hv).1; rw [hl] at this; exact this
      rw [byL_at f n j hj] at hv
      cases hv
      rw [show (⟨g2, 0, none⟩ : Addr).add j = ⟨g2, j, none⟩ from by rcases j with _ | j <;> simp [Addr.add]]
      exact hb2.cv hj) (by rw [hl, va_size]; exact hfit) (mem_iv_one _ _ _)
  rw [hl] at h
  rw [h, ← splice_put N o n p f hfit]
  unfold splice
  rw [hl, List.append_assoc]
theorem zero_e64 (w : World) : (zeroValue 50).run Try.prog w = .ok (.agg (va 64 (iv .u8 fun _ => 0))) w := by
  have h : (Try.prog.info? 50).map (·.zero) = some (some (.agg (va 64 (iv .u8 fun _ => 0)))) := by kernel_rfl
  cases hq : Try.prog.info? 50 with
  | none => simp [hq] at h
  | some i =>
    have hz : i.zero = some (.agg (va 64 (iv .u8 fun _ => 0))) := by simpa [hq] using h
    simp [zeroValue, typeInfo, hq, hz]
theorem put_ent (i : Nat) (s : ByteArray) (j : Nat) : putAt (putAt (putAt (fun _ => 0) 0 4 (nb i)) 4 2 (nb s.size)) 8 s.size (tbyte s) j = entF i s j := by
  unfold putAt entF
  by_cases h0 : j < 4
  · rw [if_pos h0, if_neg (by omega), if_neg (by omega), if_pos (by omega), Nat.sub_zero]
  · by_cases h1 : j < 6
    · rw [if_neg h0, if_pos h1, if_neg (by omega), if_pos (by omega)]
    · rw [if_neg h0, if_neg h1]
      by_cases h2 : j < 8
      · rw [if_pos h2, if_neg (by omega), if_neg (by omega), if_neg (by omega)]
      · rw [if_neg h2]
        by_cases h3 : j < 8 + s.size
        · rw [if_pos h3, if_pos (by omega)]
        · rw [if_neg h3, if_neg (by omega), if_neg (by omega), if_neg (by omega)]
theorem gs_eq {l : Array Bool} {i n : Nat} (h : l.size = n) (hi : i < n) : (l.setIfInBounds i true).getD i false = true := by
  simp [Array.getD, h, hi]
theorem gs_ne {l : Array Bool} {i j : Nat} (h : i ≠ j) : (l.setIfInBounds i true).getD j false = l.getD j false := by
  rw [Array.getD_eq_getD_getElem?, Array.getD_eq_getD_getElem?, Array.getElem?_setIfInBounds, if_neg h]
abbrev lkV (i : Int) (s : ByteArray) : Value := .agg #[.int .i64 i, .string s]
/-- what has been done of the region with two calls and two boxes -/
def encR (w : World) (i : Nat) (s : ByteArray) (l : Array Bool) (a : Act) (W : World) : Prop :=
  ∃ (x25 x30 x5 x6 : Value) (g5 g6 : Nat), a = ({ tmps := #[lkV (i : Int) s, Value.pointer (some ⟨w.heap.size, 0, none⟩), Value.string ⟨#[]⟩, Value.int .i64 0, Value.int .i64 0, x5, x6, undef, Value.pointer (some ⟨w.heap.size, 0, none⟩), Value.int .i64 (i : Int), Value.bool false, Value.bool false, Value.pointer (some ⟨w.heap.size, 0, none⟩), Value.int .i64 (i : Int), Value.bool false, Value.bool false, Value.pointer (some ⟨w.heap.size, 1, none⟩), Value.string s, Value.int .i64 0, Value.int .i64 0, Value.bool false, undef, Value.pointer (some ⟨w.heap.size, 0, none⟩), Value.int .i64 (i : Int), Value.int .u32 (i : Int), x25, Value.pointer (some ⟨w.heap.size, 1, none⟩), Value.string s, Value.int .i64 (s.size : Int), Value.int .u16 (s.size : Int), x30, undef, undef, undef, undef, undef, undef, undef, undef, undef, undef, undef, undef], defers := [] } : Act) ∧ Hid (l.size = 13 ∧ Blk W w.heap.size 35 #[.int .i64 (i : Int), .string s] ∧ Below w.heap.size w W ∧ (l.getD 3 false = true → x25 = .agg (va 4 (iv .u8 (nb i)))) ∧ (l.getD 8 false = true → x30 = .agg (va 2 (iv .u8 (nb s.size)))) ∧
    (l.getD 9 false = true → x5 = .pointer (some ⟨g5, 0, none⟩) ∧ w.heap.size < g5 ∧ Blk W g5 44 (va 4 (iv .u8 (if l.getD 11 false then nb i else fun _ => 0)))) ∧
    (l.getD 10 false = true → x6 = .pointer (some ⟨g6, 0, none⟩) ∧ w.heap.size < g6 ∧ Blk W g6 47 (va 2 (iv .u8 (if l.getD 12 false then nb s.size else fun _ => 0)))) ∧
    (l.getD 9 false = true → l.getD 10 false = true → g5 ≠ g6))
section
variable (s : ByteArray)
set_option maxHeartbeats 4000000 in
theorem encode_ok (i : Nat) (h1 : 1 ≤ i) (h2 : i ≤ 4096) (hn : isName s.data.toList = true) (w : World) :
    Calls Try.prog 14 #[lkV (i : Int) s] w fun e w' => e = .returned (.tuple #[.string (strN (entF i s) 64), .int .i64 0]) ∧ Below w.heap.size w w' := by
  have h56 : s.size ≤ 56 := by rw [Lib.size_eq]; exact (isName_len hn).2
  have HB : Hid (Below w.heap.size w (w.alloc (.cells #[.int .i64 (i : Int), .string s] 35))) := below_new1 _ _
  have HBX : Hid (Blk (w.alloc (.cells #[.int .i64 (i : Int), .string s] 35)) w.heap.size 35 #[.int .i64 (i : Int), .string s]) := Blk.new _ _ _
  have HC : Hid (∀ w : World, Calls Try.prog 7 #[.string s] w fun e w' => e = .returned (.int .i64 0) ∧ Below w.heap.size w w') := fun w => by
    have := check_any s w
    rw [show nameE s.data.toList = 0 from by unfold nameE; rw [hn]; rfl] at this
    exact this
  clear hn
  have i1 : ¬ ((i : Int) < 1) := by omega
  have i2 : ¬ ((4096 : Int) < (i : Int)) := by omega
  have hw1 : IntKind.u32.wrap (i : Int) = (i : Int) := wrap_u32 i (by omega)
  have hw2 : IntKind.u16.wrap (s.size : Int) = (s.size : Int) := wrap_u16 s.size (by omega)
  go_enter Try.func14, Try.ntmps14
  go_wp2_with fail
  refine (HC.out _).mono ?_
  intro e w2 hw2
  obtain ⟨he2, hw2⟩ := hw2
  subst he2
  have HB2 : Hid (Below w.heap.size w w2 ∧ Blk w2 w.heap.size 35 #[.int .i64 (i : Int), .string s]) := ⟨HB.out.trans (hw2.mono HB.out.size), HBX.out.below hw2 (by simp)⟩
  clear hw2 HB HBX HC
  go_wp2_with fail
  refine wp_region_mach (fun W => Blk W w.heap.size 35 #[.int .i64 (i : Int), .string s]) (fun i l => match i with | 3 => true | 8 => true | 9 => !l.getD 9 false && !l.getD 11 false | 10 => !l.getD 10 false && !l.getD 12 false | 11 => l.getD 3 false && l.getD 9 false | 12 => l.getD 8 false && l.getD 10 false | _ => false)
    (fun l => l.getD 3 false && l.getD 8 false && l.getD 9 false && l.getD 10 false && l.getD 11 false && l.getD 12 false) [0, 1, 2, 4, 5, 6, 7] 6 (encR w i s) (by kernel_rfl) (by kernel_rfl) HB2.out.2.drew ?_ ?_ ?_
  · refine ⟨_, Value.pointer (some ⟨w.heap.size, 0, none⟩), rfl, Or.inl ⟨by rfl, fun W hW => by go_simp⟩, ?_⟩
    simp only [Act.put, List.setIfInBounds_toArray, List.set_cons_zero, List.set_cons_succ]
    refine ⟨_, Value.int .i64 (i : Int), rfl, Or.inl ⟨by rfl, fun W hW => by have hW1 : W.cell? ⟨w.heap.size, 0, none⟩ = some (.int .i64 (i : Int)) := hW.cell 0; go_simp⟩, ?_⟩
    simp only [Act.put, List.setIfInBounds_toArray, List.set_cons_zero, List.set_cons_succ]
    refine ⟨_, Value.int .u32 (i : Int), rfl, Or.inl ⟨by rfl, fun W hW => by go_simp⟩, ?_⟩
    simp only [Act.put, List.setIfInBounds_toArray, List.set_cons_zero, List.set_cons_succ]
    refine ⟨_, Value.pointer (some ⟨w.heap.size, 1, none⟩), rfl, Or.inl ⟨by rfl, fun W hW => by go_simp⟩, ?_⟩
    simp only [Act.put, List.setIfInBounds_toArray, List.set_cons_zero, List.set_cons_succ]
    refine ⟨_, Value.string s, rfl, Or.inl ⟨by rfl, fun W hW => by have hW1 : W.cell? ⟨w.heap.size, 1, none⟩ = some (.string s) := hW.cell 1; go_simp⟩, ?_⟩
    simp only [Act.put, List.setIfInBounds_toArray, List.set_cons_zero, List.set_cons_succ]
    refine ⟨_, Value.int .i64 (s.size : Int), rfl, Or.inl ⟨by rfl, fun W hW => by go_simp⟩, ?_⟩
    simp only [Act.put, List.setIfInBounds_toArray, List.set_cons_zero, List.set_cons_succ]
    refine ⟨_, Value.int .u16 (s.size : Int), rfl, Or.inl ⟨by rfl, fun W hW => by go_simp⟩, ?_⟩
    simp only [Act.put, List.setIfInBounds_toArray, List.set_cons_zero, List.set_cons_succ]
    exact ⟨undef, undef, undef, undef, 0, 0, rfl, rfl, HB2.out.2.drew, HB2.out.1.drew, fun h => absurd (show false = true from h) (by decide), fun h => absurd (show false = true from h) (by decide), fun h => absurd (show false = true from h) (by decide), fun h => absurd (show false = true from h) (by decide), fun h => absurd (show false = true from h) (by decide)⟩
  · intro j l a W hp hR
    obtain ⟨x25, x30, x5, x6, g5, g6, rfl, H⟩ := hR
    have hj : j = 3 ∨ j = 8 ∨ j = 9 ∨ j = 10 ∨ j = 11 ∨ j = 12 := by
      split at hp <;> simp_all
    obtain ⟨hsz, hbox, hbel, h3, h8, h9, h10, hne⟩ := H.out
    have HS : Hid (W.heap.size = W.heap.size) := rfl
    clear H
    rcases hj with rfl | rfl | rfl | rfl | rfl | rfl
    · clear hp
      simp only [List.cons_append, List.nil_append, List.append_nil, List.filterMap_cons, List.filterMap_nil, List.getElem?_toArray, List.getElem?_cons_zero, List.getElem?_cons_succ]
      go_wp2_with fail
      refine (bytes32_nb i _).mono ?_
      intro e w3 hw3
      obtain ⟨he3, hb3⟩ := hw3
      subst he3
      have HX : Hid (Blk w3 w.heap.size 35 #[.int .i64 (i : Int), .string s]) := hbox.below hb3 hbox.lt
      have HR : Hid (_ ∧ _ ∧ _ ∧ _ ∧ _ ∧ _) := ⟨hsz, hbel.trans (hb3.mono hbel.size), h8, fun h => (⟨(h9 h).1, (h9 h).2.1, (h9 h).2.2.below hb3 (h9 h).2.2.lt⟩ : _ ∧ _ ∧ Blk w3 g5 _ _), fun h => (⟨(h10 h).1, (h10 h).2.1, (h10 h).2.2.below hb3 (h10 h).2.2.lt⟩ : _ ∧ _ ∧ Blk w3 g6 _ _), hne⟩
      clear hbox hbel h3 h8 h9 h10 hne hb3
      go_wp2_with fail
      refine ⟨rfl, HX.out, _, x30, x5, x6, g5, g6, rfl, ?_⟩
      obtain ⟨hsz, hbel, h8, h9, h10, hne⟩ := HR.out
      refine ⟨by simpa using hsz, HX.out, hbel, fun _ => rfl, ?_, ?_, ?_, ?_⟩
      · rw [gs_ne (by decide)]; exact h8
      · rw [gs_ne (by decide), gs_ne (by decide)]; exact h9
      · rw [gs_ne (by decide), gs_ne (by decide)]; exact h10
      · rw [gs_ne (by decide), gs_ne (by decide)]; exact hne
    · clear hp
      simp only [List.cons_append, List.nil_append, List.append_nil, List.filterMap_cons, List.filterMap_nil, List.getElem?_toArray, List.getElem?_cons_zero, List.getElem?_cons_succ]
      go_wp2_with fail
      refine (bytes16_nb s.size _).mono ?_
      intro e w3 hw3
      obtain ⟨he3, hb3⟩ := hw3
      subst he3
      have HX : Hid (Blk w3 w.heap.size 35 #[.int .i64 (i : Int), .string s]) := hbox.below hb3 hbox.lt
      have HR : Hid (_ ∧ _ ∧ _ ∧ _ ∧ _ ∧ _) := ⟨hsz, hbel.trans (hb3.mono hbel.size), h3, fun h => (⟨(h9 h).1, (h9 h).2.1, (h9 h).2.2.below hb3 (h9 h).2.2.lt⟩ : _ ∧ _ ∧ Blk w3 g5 _ _), fun h => (⟨(h10 h).1, (h10 h).2.1, (h10 h).2.2.below hb3 (h10 h).2.2.lt⟩ : _ ∧ _ ∧ Blk w3 g6 _ _), hne⟩
      clear hbox hbel h3 h8 h9 h10 hne hb3
      go_wp2_with fail
      refine ⟨rfl, HX.out, x25, _, x5, x6, g5, g6, rfl, ?_⟩
      obtain ⟨hsz, hbel, h3, h9, h10, hne⟩ := HR.out
      refine ⟨by simpa using hsz, HX.out, hbel, ?_, fun _ => rfl, ?_, ?_, ?_⟩
      · rw [gs_ne (by decide)]; exact h3
      · rw [gs_ne (by decide), gs_ne (by decide)]; exact h9
      · rw [gs_ne (by decide), gs_ne (by decide)]; exact h10
      · rw [gs_ne (by decide), gs_ne (by decide)]; exact hne
    · simp only [Bool.and_eq_true, Bool.not_eq_true'] at hp
      have hp11 := hp.2
      simp only [List.cons_append, List.nil_append, List.append_nil, List.filterMap_cons, List.filterMap_nil, List.getElem?_toArray, List.getElem?_cons_zero, List.getElem?_cons_succ]
      go_wp2_with fail
      refine ⟨rfl, hbox.alloc _, x25, x30, _, x6, W.heap.size, g6, rfl, ?_⟩
      refine ⟨by simpa using hsz, hbox.alloc _, hbel.alloc hbel.size _, ?_, ?_, fun _ => ⟨rfl, by have := hbox.lt; omega, by rw [gs_ne (by decide), hp11]; exact Blk.new _ _ _⟩, ?_, fun _ h => by rw [gs_ne (by decide)] at h; have := (h10 h).2.2.lt; omega⟩
      · rw [gs_ne (by decide)]; exact h3
      · rw [gs_ne (by decide)]; exact h8
      · rw [gs_ne (by decide), gs_ne (by decide)]; exact fun h => ⟨(h10 h).1, (h10 h).2.1, (h10 h).2.2.alloc _⟩
    · simp only [Bool.and_eq_true, Bool.not_eq_true'] at hp
      have hp11 := hp.2
      simp only [List.cons_append, List.nil_append, List.append_nil, List.filterMap_cons, List.filterMap_nil, List.getElem?_toArray, List.getElem?_cons_zero, List.getElem?_cons_succ]
      go_wp2_with fail
      refine ⟨rfl, hbox.alloc _, x25, x30, x5, _, g5, W.heap.size, rfl, ?_⟩
      refine ⟨by simpa using hsz, hbox.alloc _, hbel.alloc hbel.size _, ?_, ?_, ?_, fun _ => ⟨rfl, by have := hbox.lt; omega, by rw [gs_ne (by decide), hp11]; exact Blk.new _ _ _⟩, fun h _ => by rw [gs_ne (by decide)] at h; have := (h9 h).2.2.lt; omega⟩
      · rw [gs_ne (by decide)]; exact h3
      · rw [gs_ne (by decide)]; exact h8
      · rw [gs_ne (by decide), gs_ne (by decide)]; exact fun h => ⟨(h9 h).1, (h9 h).2.1, (h9 h).2.2.alloc _⟩
    · simp only [Bool.and_eq_true] at hp
      obtain rfl := h3 hp.1
      obtain ⟨rfl, hgl, hblk⟩ := h9 hp.2
      simp only [List.cons_append, List.nil_append, List.append_nil, List.filterMap_cons, List.filterMap_nil, List.getElem?_toArray, List.getElem?_cons_zero, List.getElem?_cons_succ]
      (refine wpList_store_row (by rfl) 44 _ _ (by rfl) (g5) (va 4 (iv .u8 (nb i))) (by rfl) (by rfl) 44 _ hblk (sizeB4.trans (by rw [va_size])) (by simp only [va_size]) (iv_one _ _ _) ?_; simp only [Act.put, List.setIfInBounds_toArray, List.set_cons_zero, List.set_cons_succ])
      refine ⟨rfl, hbox.other _ (by omega), _, x30, _, x6, g5, g6, rfl, ?_⟩
      refine ⟨by simpa using hsz, hbox.other _ (by omega), below_setRow hbel (by omega) _, fun _ => rfl, fun h => by rw [gs_ne (by decide)] at h; exact h8 h, fun _ => ⟨rfl, hgl, by rw [gs_eq hsz (by decide)]; exact hblk.set _⟩, fun h => by rw [gs_ne (by decide)] at h; rw [gs_ne (by decide)]; exact ⟨(h10 h).1, (h10 h).2.1, (h10 h).2.2.other _ (fun e => (hne hp.2 h) e.symm)⟩, fun h h' => by rw [gs_ne (by decide)] at h h'; exact hne h h'⟩
    · simp only [Bool.and_eq_true] at hp
      obtain rfl := h8 hp.1
      obtain ⟨rfl, hgl, hblk⟩ := h10 hp.2
      simp only [List.cons_append, List.nil_append, List.append_nil, List.filterMap_cons, List.filterMap_nil, List.getElem?_toArray, List.getElem?_cons_zero, List.getElem?_cons_succ]
      (refine wpList_store_row (by rfl) 47 _ _ (by rfl) (g6) (va 2 (iv .u8 (nb s.size))) (by rfl) (by rfl) 47 _ hblk (sizeB2.trans (by rw [va_size])) (by simp only [va_size]) (iv_one _ _ _) ?_; simp only [Act.put, List.setIfInBounds_toArray, List.set_cons_zero, List.set_cons_succ])
      refine ⟨rfl, hbox.other _ (by omega), x25, _, x5, _, g5, g6, rfl, ?_⟩
      refine ⟨by simpa using hsz, hbox.other _ (by omega), below_setRow hbel (by omega) _, fun h => by rw [gs_ne (by decide)] at h; exact h3 h, fun _ => rfl, fun h => by rw [gs_ne (by decide)] at h; rw [gs_ne (by decide)]; exact ⟨(h9 h).1, (h9 h).2.1, (h9 h).2.2.other _ (fun e => (hne h hp.2) e)⟩, fun _ => ⟨rfl, hgl, by rw [gs_eq hsz (by decide)]; exact hblk.set _⟩, fun h h' => by rw [gs_ne (by decide)] at h h'; exact hne h h'⟩
  · intro l a W hp hR
    obtain ⟨x25, x30, x5, x6, g5, g6, rfl, H⟩ := hR
    simp only [Bool.and_eq_true] at hp
    obtain ⟨⟨⟨⟨⟨p3, p8⟩, p9⟩, p10⟩, p11⟩, p12⟩ := hp
    obtain ⟨hsz, hbox, hbel, h3, h8, h9, h10, hne⟩ := H.out
    clear H
    obtain ⟨rfl, hg5, hk5⟩ := h9 p9
    obtain ⟨rfl, hg6, hk6⟩ := h10 p10
    have hn := hne p9 p10
    rw [p11, if_pos rfl] at hk5
    rw [p12, if_pos rfl] at hk6
    obtain rfl := h3 p3
    obtain rfl := h8 p8
    refine ⟨rfl, ?_⟩
    have HZ : Hid (_ ∧ _ ∧ _ ∧ _) := ⟨hbox, hbel, hk5, hk6⟩
    clear h3 h8 h9 h10 hne p3 p8 p9 p10 p11 p12 hsz hbox hbel hk5 hk6 l
    have HZ2 : Hid (Blk (W.alloc (.cells (va 64 (iv .u8 fun _ => 0)) 50)) W.heap.size 50 (va 64 (iv .u8 fun _ => 0)) ∧ Blk (W.alloc (.cells (va 64 (iv .u8 fun _ => 0)) 50)) w.heap.size 35 #[.int .i64 (i : Int), .string s] ∧ Below w.heap.size w (W.alloc (.cells (va 64 (iv .u8 fun _ => 0)) 50)) ∧ Blk (W.alloc (.cells (va 64 (iv .u8 fun _ => 0)) 50)) g5 44 (va 4 (iv .u8 (nb i))) ∧ Blk (W.alloc (.cells (va 64 (iv .u8 fun _ => 0)) 50)) g6 47 (va 2 (iv .u8 (nb s.size))) ∧ w.heap.size < W.heap.size ∧ g5 < W.heap.size ∧ g6 < W.heap.size) :=
      ⟨Blk.new _ _ _, HZ.out.1.alloc _, HZ.out.2.1.alloc HZ.out.2.1.size _, HZ.out.2.2.1.alloc _, HZ.out.2.2.2.alloc _, HZ.out.1.lt, HZ.out.2.2.1.lt, HZ.out.2.2.2.lt⟩
    have hz := zero_e64
    go_wp2_with fail
    generalize W.alloc (.cells (va 64 (iv .u8 fun _ => 0)) 50) = W7 at HZ2 ⊢
    generalize W.heap.size = g7 at HZ2 ⊢
    clear hz HZ
    have h7 : w.heap.size < g7 ∧ g5 < g7 ∧ g6 < g7 := HZ2.out.2.2.2.2.2
    have hc1 := fun ty => copy_blk (ty := ty) (o := 0) (dLen := 4) (dCap := 64) (sCap := 4) HZ2.out.1.drew HZ2.out.2.2.2.1.drew (by decide) (by decide)
    have HZ3 : Hid (_ ∧ _ ∧ _ ∧ _) := ⟨HZ2.out.1.drew.set (va 64 (iv .u8 (putAt (fun _ => 0) 0 4 (nb i)))), HZ2.out.2.1.drew.other (g := g7) (va 64 (iv .u8 (putAt (fun _ => 0) 0 4 (nb i)))) (by omega), HZ2.out.2.2.2.2.1.drew.other (g := g7) (va 64 (iv .u8 (putAt (fun _ => 0) 0 4 (nb i)))) (by omega), below_setRow HZ2.out.2.2.1.drew (Nat.le_of_lt h7.1) (va 64 (iv .u8 (putAt (fun _ => 0) 0 4 (nb i))))⟩
    go_region
    generalize W7.drew.setRow g7 (va 64 (iv .u8 (putAt (fun _ => 0) 0 4 (nb i)))) = W8 at HZ3 ⊢
    clear hc1 HZ2
    go_wp2_with fail
    have hc2 := fun ty => copy_blk (ty := ty) (o := 4) (dLen := 2) (dCap := 60) (sCap := 2) HZ3.out.1.drew HZ3.out.2.2.1.drew (by decide) (by decide)
    have HF : ∀ j, j < 64 → putAt (putAt (putAt (fun _ => 0) 0 4 (nb i)) 4 2 (nb s.size)) 8 s.size (tbyte s) j = entF i s j := fun j hj => put_ent i s j
    generalize putAt (fun _ => 0) 0 4 (nb i) = P1 at *
    have HZ4 : Hid (_ ∧ _ ∧ _) := ⟨HZ3.out.1.drew.set (va 64 (iv .u8 (putAt P1 4 2 (nb s.size)))), HZ3.out.2.1.drew.other (g := g7) (va 64 (iv .u8 (putAt P1 4 2 (nb s.size)))) (by omega), below_setRow HZ3.out.2.2.2.drew (Nat.le_of_lt h7.1) (va 64 (iv .u8 (putAt P1 4 2 (nb s.size))))⟩
    go_region
    generalize W8.drew.setRow g7 (va 64 (iv .u8 (putAt P1 4 2 (nb s.size)))) = W9 at HZ4 ⊢
    clear hc2 HZ3
    go_wp2_with fail
    have hc3 := fun ty => run_copy_text (P := Try.prog) W9.drew 51 9 ty 5 g7 8 56 56 s _ 50 s.size Try.underlying51 ksizeU8 HZ4.out.1.drew (by show _ = min _ _; omega) (by rw [va_size]; omega)
    generalize HP2 : putAt P1 4 2 (nb s.size) = P2 at *
    have hcell : W9.cell? ⟨w.heap.size, 1, none⟩ = some (.string s) := HZ4.out.2.1.cell 1
    have hcell2 : W9.drew.cell? ⟨w.heap.size, 1, none⟩ = some (.string s) := hcell
    simp only [splice_put 64 8 s.size P2 (tbyte s) (by omega)] at hc3
    have HZ5 : Hid (_ ∧ _) := ⟨HZ4.out.1.drew.set (va 64 (iv .u8 (putAt P2 8 s.size (tbyte s)))), below_setRow HZ4.out.2.2.drew (Nat.le_of_lt h7.1) (va 64 (iv .u8 (putAt P2 8 s.size (tbyte s))))⟩
    go_region
    generalize W9.drew.setRow g7 (va 64 (iv .u8 (putAt P2 8 s.size (tbyte s)))) = W10 at HZ5 ⊢
    clear hc3 hcell hcell2 HZ4
    have hr := run_bytes_text (P := Try.prog) W10 51 5 9 Try.underlying51 Try.underlying5 Try.underlying9 HZ5.out.1 0 64 64 (by omega)
    have HE : Hid (strN (fun j => putAt P2 8 s.size (tbyte s) (0 + j)) 64 = strN (entF i s) 64) := strN_congr fun j hj => by
      rw [Nat.zero_add]
      exact HF j hj
    generalize strN (fun j => putAt P2 8 s.size (tbyte s) (0 + j)) 64 = tx at hr HE
    go_wp2_with fail
    go_ret2
    exact ⟨by rw [← HE.out]; rfl, HZ5.out.2⟩
end
end Go.Proofs.Ytgpghdhkbliodaa

namespace Go.Proofs.Ytgpghdhkbliodaa
set_option maxRecDepth 20000
open Go Go.RowKit
set_option linter.unusedVariables false
set_option linter.unusedSimpArgs false
set_option maxHeartbeats 4000000 in
theorem awake13_any (w : World) : Calls Try.prog 6 #[] w fun e w' => e = .returned (.bool true) ∧ Below w.heap.size w w' := by
  have HE : Hid (∀ w : World, Calls Try.prog 14 #[.agg #[.int .i64 1, .string ⟨#[97]⟩]] w fun e w' => e = .returned (.tuple #[.string (strN (entF 1 ⟨#[97]⟩) 64), .int .i64 0]) ∧ Below w.heap.size w w') := fun w => encode_ok ⟨#[97]⟩ 1 (by decide) (by decide) (by decide) w
  have HC1 : Hid (∀ w : World, Calls Try.prog 7 #[.string ⟨#[97]⟩] w fun e w' => e = .returned (.int .i64 0) ∧ Below w.heap.size w w') := fun w => check_any ⟨#[97]⟩ w
  have HC2 : Hid (∀ w : World, Calls Try.prog 7 #[.string ⟨#[47]⟩] w fun e w' => e = .returned (.int .i64 130) ∧ Below w.heap.size w w') := fun w => check_any ⟨#[47]⟩ w
  have hz := strN_size (entF 1 ⟨#[97]⟩) 64
  generalize strN (entF 1 ⟨#[97]⟩) 64 = tx at HE hz
  go_enter Try.func6, Try.ntmps6
  go_wp2_with fail
  refine (HE.out _).mono ?_
  intro e w2 hw2
  obtain ⟨he2, hw2⟩ := hw2
  subst he2
  go_wp2_with fail
  refine (HC1.out _).mono ?_
  intro e w3 hw3
  obtain ⟨he3, hw3⟩ := hw3
  subst he3
  have hb3 : Below w.heap.size w w3 := hw2.trans (hw3.mono hw2.size)
  clear hw2 hw3
  go_wp2_with fail
  refine (HC2.out _).mono ?_
  intro e w4 hw4
  obtain ⟨he4, hw4⟩ := hw4
  subst he4
  have HB4 : Hid (Below w.heap.size w w4) := hb3.trans (hw4.mono hb3.size)
  clear hb3 hw4
  go_wp2_with fail
  go_ret
  exact ⟨rfl, HB4.out⟩
end Go.Proofs.Ytgpghdhkbliodaa

namespace Go.Nam
open Go.Lib

def lexN : List Nat → List Nat → Int
  | [], [] => 0
  | [], _ :: _ => -1
  | _ :: _, [] => 1
  | a :: x, b :: y => if a < b then -1 else if b < a then 1 else lexN x y

theorem lexN_flip : ∀ x y : List Nat, lexN y x = - lexN x y
  | [], [] => rfl
  | [], _ :: _ => rfl
  | _ :: _, [] => rfl
  | a :: x, b :: y => by
    have ih := lexN_flip x y
    simp only [lexN]
    repeat' split
    all_goals first | omega | rfl

theorem lexN_one : ∀ x y : List Nat, lexN x y = -1 ∨ lexN x y = 0 ∨ lexN x y = 1
  | [], [] => by simp [lexN]
  | [], _ :: _ => by simp [lexN]
  | _ :: _, [] => by simp [lexN]
  | a :: x, b :: y => by
    have ih := lexN_one x y
    simp only [lexN]
    repeat' split
    all_goals first | omega | exact ih

/-- The library's order of bytes is this one. -/
theorem cmp_lex : ∀ x y : List UInt8, compareBytes x y = lexN (x.map (·.toNat)) (y.map (·.toNat))
  | [], [] => rfl
  | [], _ :: _ => rfl
  | _ :: _, [] => rfl
  | a :: x, b :: y => by
    have ih := cmp_lex x y
    simp only [compareBytes, List.map_cons, lexN, ih, UInt8.lt_iff_toNat_lt]

theorem cmp_flip (a b : List UInt8) : compareBytes b a = - compareBytes a b := by rw [cmp_lex, cmp_lex, lexN_flip]

theorem cmp_one (a b : List UInt8) : compareBytes a b = -1 ∨ compareBytes a b = 0 ∨ compareBytes a b = 1 := by rw [cmp_lex]; exact lexN_one _ _
end Go.Nam
