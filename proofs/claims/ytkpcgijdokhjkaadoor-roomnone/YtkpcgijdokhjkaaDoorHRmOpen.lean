/- A slice of numbers of 32 bits as an argument, and a number with one, opened: no condition but that it is one. -/
import Derived.Test.YtkpcgijdokhjkaaDoorHRmKit
import Derived.Handy
import Derived.RangeFuncNested
import Derived.RangeFuncBound
import Derived.RangeFuncCalls
import Derived.RangeFuncLeaves
import Derived.Shelf.Abstract
import Derived.Shelf.RegionOpen
import Derived.WalkKit
import Derived.OwnWalkIn
import Derived.TacticsInMore
import Derived.LoopNIn
import Derived.LoopIn
import Derived.RangeFuncFrom
import Derived.RangeFuncBox
import Derived.RangeFuncWrites
import Derived.Maps.AppendAt
import Derived.OpenShut
import Derived.Test.YtkpcgijdokhjkaaDoorRows
import Derived.ProofKit
import Derived.Carry
import Derived.Deep.Slices
import Derived.Lib.SmallJoins
import Derived.SizedLaws

namespace Go.Proofs.YtkpcgijdokhjkaaDoor
open Go Go.RowKit
set_option linter.unusedVariables false
set_option linter.unusedSimpArgs false
/-- a slice of numbers of 32 bits, handed in -/
def IsU32s (w : World) (a : Option Addr) (N : Nat) (A : Nat → Nat) : Prop :=
  ∀ i, i < N → A i < 4294967296 ∧ ∃ b o, a = some ⟨b, o, none⟩ ∧ b < w.heap.size ∧ w.cell? ⟨b, o + i, none⟩ = some (.int .u32 (A i : Int))
theorem IsU32s.below {w w' : World} {a : Option Addr} {N : Nat} {A : Nat → Nat} (h : IsU32s w a N A) (hb : Below w.heap.size w w') : IsU32s w' a N A := fun i hi => by
  obtain ⟨h0, b, o, e, h1, h2⟩ := h i hi
  have hblk := hb.block b h1
  refine ⟨h0, b, o, e, Nat.lt_of_lt_of_le h1 hb.size, ?_⟩
  rw [← h2]; simp [World.cell?, hblk]
/-- whether a block is among the first of them -/
def memA (A : Nat → Nat) : Nat → Nat → Bool
  | 0, _ => false
  | k + 1, q => if q = A k then true else memA A k q
def OkAt (A : Nat → Nat) (n m : Nat) : Prop := A m ≠ 0 ∧ A m < n ∧ memA A m (A m) = false
def GoodA (A : Nat → Nat) (n k : Nat) : Prop := ∀ i, i < k → OkAt A n i
theorem GoodA.succ {A : Nat → Nat} {n k : Nat} (h : GoodA A n k) (hk : OkAt A n k) : GoodA A n (k + 1) := fun i hi => by
  by_cases e : i = k
  · rw [e]; exact hk
  · exact h i (by omega)
theorem mem_zero {A : Nat → Nat} {n : Nat} : ∀ {k : Nat}, GoodA A n k → memA A k 0 = false
  | 0, _ => rfl
  | k + 1, h => by
    unfold memA
    rw [if_neg (Ne.symm (h k (by omega)).1)]
    exact mem_zero fun i hi => h i (by omega)
section
variable {w w' : World} {P : Nat → Prop} {r n gu bu cu gn bn cn : Nat} {U X : Nat → Nat} {F G : Nat → Bool}
theorem rmaybe_yes (n : Nat) (h1 : 16 ≤ n) (h2 : n ≤ 8192) (w : World) : Calls Tryd.prog 51 #[.int .i64 (n : Int)] w fun e w' => e = .returned (.bool true) ∧ w' = w := by
  have a1 : (16 : Int) ≤ (n : Int) := by omega
  have a2 : (n : Int) ≤ 8192 := by omega
  go_enter Tryd.func51, Tryd.ntmps51
  go_wp2_with fail
  go_ret
  exact ⟨by simp [a2], rfl⟩
theorem rstanding_any {B g b c : Nat} {W : Nat → Nat} (h : BM w B g n b c W) (h16 : 16 ≤ n) (hz : bitF W 0 = false) (hg : P g) (hb : P b) (hP : ∀ k, w.heap.size ≤ k → P k) : Calls Tryd.prog 52 #[.pointer (some ⟨g, 0, none⟩)] w fun e w' => ∃ r, e = .returned (.pointer (some ⟨r, 0, none⟩)) ∧ RoomIs w' P r n (bitF W) (bitF W) ∧ Below w.heap.size w w' := by
  have HC := bclone_any w h
  have HF : Hid (∀ (V : World) (g' b' c' : Nat), BM V w.heap.size g' n b' c' W → Below w.heap.size w V → RoomIs (V.alloc (.cells #[.pointer (some ⟨g, 0, none⟩), .pointer (some ⟨g', 0, none⟩)] 81)) P V.heap.size n (bitF W) (bitF W) ∧ Below w.heap.size w (V.alloc (.cells #[.pointer (some ⟨g, 0, none⟩), .pointer (some ⟨g', 0, none⟩)] 81))) := fun V g' b' c' hM hB => by
    have hV := h.below hB
    have hgl := h.glt
    have hbl := h.blt.2
    have hg' := hM.gB
    have hb' := hM.blt
    have hgg := hM.glt
    have hne := hM.ne
    have hs := hB.size
    have hba : Below V.heap.size V (V.alloc (.cells #[.pointer (some ⟨g, 0, none⟩), .pointer (some ⟨g', 0, none⟩)] 81)) := below_new1 _ _
    refine ⟨⟨g, b, c, g', b', c', W, W, ⟨Blk.new _ _ _, (hV.mono (Nat.zero_le _)).below hba, (hM.mono (Nat.zero_le _)).below hba, ⟨hP _ (by omega), hg, hb, hP _ hg', hP _ hb'.1⟩, ⟨by omega, by omega, by omega, by omega, by omega, by omega, by omega, by omega⟩, ⟨hz, hz⟩, h16⟩, fun _ => rfl, fun _ => rfl⟩, hB.trans (hba.mono hs)⟩
  clear h
  go_enter Tryd.func52, Tryd.ntmps52
  go_wp2_with fail
  refine HC.mono ?_
  rintro e w1 ⟨g', b', c', rfl, hM, hB⟩
  have hh := HF.out w1 g' b' c' hM hB
  clear HF hM
  go_wp2_with fail
  go_ret
  exact ⟨_, rfl, hh.1, hh.2⟩
set_option maxHeartbeats 4000000 in
theorem rnew_any (h1 : 16 ≤ n) (h2 : n ≤ 8192) (a : Option Addr) (N cc : Nat) (hN : N ≤ 9223372036854775807) (A : Nat → Nat) (w : World) (hD : IsU32s w a N A) : Calls Tryd.prog 29 #[.int .i64 (n : Int), .slice a N cc] w fun e w' =>
    ((∃ r, e = .returned (.tuple #[.pointer (some ⟨r, 0, none⟩), .int .i64 0, .int .i64 0]) ∧ GoodA A n N ∧ RoomIs w' (fun k => w.heap.size ≤ k) r n (memA A N) (memA A N)) ∨
    (∃ m : Nat, m < N ∧ e = .returned (.tuple #[.pointer none, .int .i64 (m : Int), .int .i64 121]) ∧ GoodA A n m ∧ ¬ OkAt A n m)) ∧ Below w.heap.size w w' := by
  have HM := rmaybe_yes n h1 h2 w
  have HN := newM_ok n (by omega) h2 w
  have HD : Hid (∀ V : World, Below w.heap.size w V → IsU32s V a N A) := fun V hV => hD.below hV
  clear hD
  go_enter Tryd.func29, Tryd.ntmps29
  go_wp2_with fail
  refine HM.mono ?_
  rintro e w0 ⟨rfl, rfl⟩
  go_wp2_with fail
  refine HN.mono ?_
  rintro e w1 ⟨g, b0, c0, rfl, hM0, hb0⟩
  go_wp2_with fail
  go_loopw [21] (fun t wr => ∃ j : Nat, j ≤ N ∧ t = .int .i64 (j : Int) ∧ GoodA A n j ∧ (∃ b c W, BM wr w0.heap.size g n b c W ∧ ∀ q, bitF W q = memA A j q) ∧ Below w0.heap.size w0 wr) (fun t _ => N - (intOf t).toNat)
  case atStart => exact ⟨0, by omega, rfl, fun i hi => by omega, ⟨_, _, _, hM0, fun q => bitF_zero q⟩, hb0⟩
  case round =>
    clear hM0 hb0 HN HM
    obtain ⟨j, hj, rfl, hal, ⟨b, c, W, hM, hbits⟩, hb⟩ := hrel
    by_cases hlt : j < N
    · obtain ⟨hau, ab, ao, rfl, hab, cw⟩ := HD.out wr hb j hlt
      have j0 : (0 : Int) ≤ (j : Int) := by omega
      have j1 : (j : Int) < (N : Int) := by omega
      have HJ : Hid (j < N ∧ N ≤ 9223372036854775807) := ⟨hlt, hN⟩
      by_cases hz : A j = 0
      · rw [hz] at cw
        have HBAD : Hid (¬ OkAt A n j) := fun h => h.1 hz
        clear hM hbits
        go_wp2_with fail
        go_ret3
        exact ⟨.inr ⟨j, HJ.out.1, rfl, hal, HBAD.out⟩, hb⟩
      · have hzi : ¬ ((A j : Int) = 0) := by omega
        by_cases hok : A j < n ∧ memA A j (A j) = false
        · have HS := set_new wr hM (A j) hok.1 (by rw [hbits]; exact hok.2)
          have HON : Hid (∀ q, bitF (putW W (A j)) q = memA A (j + 1) q) := fun q => by
            rw [put_if', hbits]
            rfl
          have HAL : Hid (GoodA A n (j + 1)) := hal.succ ⟨hz, hok⟩
          have HB : Hid (∀ V, Only b wr V → Below w0.heap.size w0 V) := fun V ho => hb.trans (ho.below hb.size hM.blt.1)
          clear hM hbits hal hb hok
          generalize A j = aj at *
          go_wp2_with fail
          refine HS.mono ?_
          rintro e3 w3 ⟨rfl, hM3, ho3⟩
          have hb3 := HB.out w3 ho3
          go_wp2_with fail
          go_roundw
          case rel => exact ⟨j + 1, HJ.out.1, by first | rfl | go_num | simp, HAL.out, ⟨b, c, _, hM3, HON.out⟩, hb3⟩
          case measure => simp [intOf]; have := HJ.out; omega
        · have HBAD : Hid (¬ OkAt A n j) := fun h => hok ⟨h.2.1, h.2.2⟩
          have HS := set_not wr hM (A j : Int) (by
            by_cases hn : A j < n
            · refine .inr (.inr ⟨by omega, by omega, ?_⟩)
              rw [Int.toNat_natCast, hbits]
              cases hm : memA A j (A j) with
              | true => rfl
              | false => exact absurd ⟨hn, hm⟩ hok
            · exact .inr (.inl (by omega)))
          clear hM hbits hok
          generalize A j = aj at *
          go_wp2_with fail
          refine HS.mono ?_
          rintro e3 w3 ⟨rfl, m3, rfl⟩
          go_wp2_with fail
          go_ret3
          exact ⟨.inr ⟨j, HJ.out.1, rfl, hal, HBAD.out⟩, below_dN hb m3⟩
    · obtain rfl : j = N := by omega
      have j1 : ¬ ((j : Int) < (j : Int)) := by omega
      have HS := rstanding_any (P := fun k => w0.heap.size ≤ k) hM h1 (by rw [hbits]; exact mem_zero hal) hM.gB hM.blt.1 (fun k hk => Nat.le_trans hb.size hk)
      have HRR : Hid (∀ V r, RoomIs V (fun k => w0.heap.size ≤ k) r n (bitF W) (bitF W) → RoomIs V (fun k => w0.heap.size ≤ k) r n (memA A j) (memA A j)) := fun V r h => by
        rw [show bitF W = memA A j from funext hbits] at h
        exact h
      clear hM hbits
      go_wp2_with fail
      refine HS.mono ?_
      rintro e w4 ⟨r, rfl, hR4, hb4⟩
      have hh := HRR.out w4 r hR4
      clear hR4 HRR
      go_wp2_with fail
      go_ret3
      exact ⟨.inl ⟨r, rfl, hal, hh⟩, hb.trans (hb4.mono hb.size)⟩
end
end Go.Proofs.YtkpcgijdokhjkaaDoor

namespace Go.Proofs.YtkpcgijdokhjkaaDoor
open Go Go.RowKit Go.Shelf
set_option linter.unusedVariables false
set_option linter.unusedSimpArgs false
attribute [local go_sem] Oper.semAt_some
/-- all blocks but one stay -/
structure Kept (x B : Nat) (w w' : World) : Prop where
  size : w.heap.size ≤ w'.heap.size
  block : ∀ k, k < B → k ≠ x → w'.heap[k]? = w.heap[k]?
theorem Kept.trans {x B : Nat} {w v u : World} (h : Kept x B w v) (k : Kept x B v u) : Kept x B w u := ⟨Nat.le_trans h.size k.size, fun j hj hn => (k.block j hj hn).trans (h.block j hj hn)⟩
theorem Kept.of_below {x B : Nat} {w w' : World} (h : Below B w w') : Kept x B w w' := ⟨h.size, fun k hk _ => h.block k hk⟩
theorem Kept.refl (x B : Nat) (w : World) : Kept x B w w := ⟨Nat.le_refl _, fun _ _ _ => rfl⟩
end Go.Proofs.YtkpcgijdokhjkaaDoor

namespace Go.Proofs.YtkpcgijdokhjkaaDoor
open Go Go.RowKit
set_option linter.unusedVariables false
set_option linter.unusedSimpArgs false
def boL (F : Nat → Bool) (n : Nat) : List Value := (List.range n).map fun i => Value.bool (F i)
theorem boL_at (F : Nat → Bool) (n i : Nat) (h : i < n) : (boL F n)[i]? = some (.bool (F i)) := by simp [boL, h]
theorem boL_len (F : Nat → Bool) (n : Nat) : (boL F n).length = n := by simp [boL]
theorem boL_congr {F G : Nat → Bool} {n : Nat} (h : ∀ i, i < n → F i = G i) : boL F n = boL G n := List.map_congr_left fun i hi => by rw [h i (List.mem_range.1 hi)]
theorem boL_set (F : Nat → Bool) (n i : Nat) (x : Bool) : (boL F n).set i (.bool x) = boL (fun j => if j = i then x else F j) n := by
  apply List.ext_getElem?
  intro j
  rw [List.getElem?_set]
  by_cases hj : j < n
  · rw [boL_at (fun j => if j = i then x else F j) _ _ hj]
    by_cases he : i = j
    · subst he
      rw [if_pos rfl, boL_len, if_pos hj]
      simp
    · rw [if_neg he, boL_at _ _ _ hj]
      simp [Ne.symm he]
  · have e1 : (boL F n)[j]? = none := List.getElem?_eq_none (by rw [boL_len]; omega)
    have e2 : (boL (fun j => if j = i then x else F j) n)[j]? = none := List.getElem?_eq_none (by rw [boL_len]; omega)
    rw [e1, e2, boL_len]
    split
    · rw [if_neg (by omega)]
    · rfl
/-- a list of n bools in block k -/
structure BA (w : World) (B k n c : Nat) (F : Nat → Bool) : Prop where
  n2 : n ≤ 8192
  row : w.ownsRow B 4 1 (.slice (some ⟨k, 0, none⟩) n c) n (boL F n)
section
variable {w w' : World} {B k n c : Nat} {F : Nat → Bool}
theorem BA.lt (h : BA w B k n c F) : B ≤ k ∧ k < w.heap.size := h.row.lt k rfl
theorem BA.keep (h : BA w B k n c F) (hk : w'.heap[k]? = w.heap[k]?) : BA w' B k n c F := ⟨h.n2, kown_kept h.row fun j _ hv => by
    have : j = k := by simp [Value.ownBlock] at hv; omega
    subst this
    exact hk⟩
theorem BA.below (h : BA w B k n c F) (hb : Below w.heap.size w w') : BA w' B k n c F := h.keep (hb.block k h.lt.2)
theorem BA.only {b : Nat} (h : BA w B k n c F) (ho : Only b w w') (hne : k ≠ b) : BA w' B k n c F := h.keep (ho.block k h.lt.2 hne)
theorem BA.dN (h : BA w B k n c F) (m : Nat) : BA (w.drewN m) B k n c F := h.keep rfl
theorem BA.mono {B' : Nat} (h : BA w B k n c F) (hB : B' ≤ B) : BA w B' k n c F := ⟨h.n2, kown_mono h.row hB⟩
theorem BA.congr {G : Nat → Bool} (h : BA w B k n c F) (he : ∀ i, i < n → F i = G i) : BA w B k n c G := ⟨h.n2, by rw [← boL_congr he]; exact h.row⟩
theorem BA.at (h : BA w B k n c F) {i : Nat} (hi : i < n) : w.cell? ⟨k, i, none⟩ = some (.bool (F i)) := by rw [h.row.cellAt i (by omega), boL_at _ _ _ hi]
theorem BA.frozen (h : BA w B k n c F) (i : Nat) : w.frozen? ⟨k, i, none⟩ = false := h.row.frozenAt i
theorem BA.put (h : BA w B k n c F) (i : Nat) (x : Bool) : BA (w.setCell ⟨k, i, none⟩ (.bool x)) B k n c (fun j => if j = i then x else F j) := ⟨h.n2, by
  have := (h.row.stored i (.bool x)).1
  rw [boL_set] at this
  exact this⟩
theorem BA.ne {g n' b' c' : Nat} {W : Nat → Nat} (h : BA w B k n c F) {B' : Nat} (hM : BM w B' g n' b' c' W) : k ≠ g ∧ k ≠ b' := by
  rcases h.row.2 with ⟨hn, _⟩ | ⟨g', cap', cur, hv, hb, hg, _⟩
  · cases hn
  · injection hv with hv1 hv2 hv3
    injection hv1 with hv1
    injection hv1 with hv1
    subst hv1
    refine ⟨fun e => ?_, fun e => ?_⟩
    · rw [e] at hg
      have := hM.cells
      unfold Blk at this
      rw [hg] at this
      injection this with this
      injection this with h1 h2
      exact absurd h2 (by decide)
    · rcases hM.row.2 with ⟨hn, _⟩ | ⟨g2, cap2, cur2, hv2, hb2, hg2, _⟩
      · cases hn
      · injection hv2 with hw1 hw2 hw3
        injection hw1 with hw1
        injection hw1 with hw1
        subst hw1
        rw [e, hg2] at hg
        injection hg with hg
        injection hg with h1 h2
        exact absurd h2 (by decide)
end
end Go.Proofs.YtkpcgijdokhjkaaDoor

namespace Go.Proofs.YtkpcgijdokhjkaaDoor
open Go Go.RowKit
set_option linter.unusedVariables false
set_option linter.unusedSimpArgs false
/-- a slice of deeds, handed in -/
def IsDeeds (w : World) (a : Option Addr) (N : Nat) (K A Z : Nat → Int) : Prop :=
  ∀ i, i < N → ∃ b o, a = some ⟨b, o, none⟩ ∧ b < w.heap.size ∧ w.cell? ⟨b, o + i * 3, none⟩ = some (.int .i64 (K i)) ∧ w.cell? ⟨b, o + i * 3 + 1, none⟩ = some (.int .i64 (A i)) ∧ w.cell? ⟨b, o + i * 3 + 2, none⟩ = some (.int .i64 (Z i)) ∧ (-9223372036854775808 ≤ A i ∧ A i ≤ 9223372036854775807) ∧ (-9223372036854775808 ≤ Z i ∧ Z i ≤ 9223372036854775807)
theorem IsDeeds.below {w w' : World} {a : Option Addr} {N : Nat} {K A Z : Nat → Int} (h : IsDeeds w a N K A Z) (hb : Below w.heap.size w w') : IsDeeds w' a N K A Z := fun i hi => by
  obtain ⟨b, o, e, h1, h2, h3, h4, h5⟩ := h i hi
  have hblk := hb.block b h1
  refine ⟨b, o, e, Nat.lt_of_lt_of_le h1 hb.size, ?_, ?_, ?_, h5⟩
  · rw [← h2]; simp [World.cell?, hblk]
  · rw [← h3]; simp [World.cell?, hblk]
  · rw [← h4]; simp [World.cell?, hblk]
/-- a map and the list of what it must say -/
structure MK (w : World) (B g n b c k : Nat) (W : Nat → Nat) : Prop where
  m : BM w B g n b c W
  a : BA w B k n n (bitF W)
def Pl (w : World) (B n k : Nat) (v : Value) : Prop := ∃ g b c W, v = .pointer (some ⟨g, 0, none⟩) ∧ MK w B g n b c k W
section
variable {w w' : World} {B g n b c k : Nat} {W : Nat → Nat}
theorem MK.dN (h : MK w B g n b c k W) (m : Nat) : MK (w.drewN m) B g n b c k W := ⟨h.m.dN m, h.a.dN m⟩
theorem MK.below (h : MK w B g n b c k W) (hb : Below w.heap.size w w') : MK w' B g n b c k W := ⟨h.m.below hb, h.a.below hb⟩
/-- behind a Set: the list's bool laid, too -/
theorem MK.put (hA : BA w B k n n (bitF W)) {p : Nat} {x : Bool} {V : Nat → Nat} (hM : BM w B g n b c V) (he : ∀ q, bitF V q = if q = p then x else bitF W q) : MK (w.setCell ⟨k, p, none⟩ (.bool x)) B g n b c k V := by
  have h1 := hA.ne hM
  refine ⟨hM.only (Only.set w k p (.bool x)) h1.1 h1.2, ?_⟩
  exact (hA.put p x).congr fun i hi => (he i).symm
end
end Go.Proofs.YtkpcgijdokhjkaaDoor

namespace Go.Proofs.YtkpcgijdokhjkaaDoor
open Go Go.RowKit
set_option linter.unusedVariables false
set_option linter.unusedSimpArgs false
/-- a slice of integers, handed in -/
def IsPlaces (w : World) (a : Option Addr) (N : Nat) (A : Nat → Int) : Prop :=
  ∀ i, i < N → ∃ b o, a = some ⟨b, o, none⟩ ∧ b < w.heap.size ∧ w.cell? ⟨b, o + i, none⟩ = some (.int .i64 (A i))
theorem IsPlaces.below {w w' : World} {a : Option Addr} {N : Nat} {A : Nat → Int} (h : IsPlaces w a N A) (hb : Below w.heap.size w w') : IsPlaces w' a N A := fun i hi => by
  obtain ⟨b, o, e, h1, h2⟩ := h i hi
  have hblk := hb.block b h1
  refine ⟨b, o, e, Nat.lt_of_lt_of_le h1 hb.size, ?_⟩
  rw [← h2]; simp [World.cell?, hblk]
/-- whether a place is among the first of them -/
def onF (A : Nat → Int) : Nat → Nat → Bool
  | 0, _ => false
  | k + 1, q => if (q : Int) = A k then true else onF A k q
def AllIn (A : Nat → Int) (n k : Nat) : Prop := ∀ i, i < k → 0 ≤ A i ∧ A i < (n : Int)
theorem AllIn.succ {A : Nat → Int} {n k : Nat} (h : AllIn A n k) (hk : 0 ≤ A k ∧ A k < (n : Int)) : AllIn A n (k + 1) := fun i hi => by
  by_cases e : i = k
  · rw [e]; exact hk
  · exact h i (by omega)
section
variable {n : Nat}
theorem of_no (p : Int) (hp : p < 1 ∨ 8192 < p) (v : Value) (w : World) : Calls Tryd.prog 66 #[.int .i64 p, v] w fun e w' => e = .returned (.tuple #[.pointer none, .int .i64 1]) ∧ w' = w := by
  have HN := newM_no p hp
  go_enter Tryd.func66, Tryd.ntmps66
  go_wp2_with fail
  refine (HN _).mono ?_
  rintro e w' ⟨rfl, rfl⟩
  go_wp2_with fail
  go_ret2
  exact ⟨rfl, rfl⟩
def OnM (w : World) (B g n : Nat) (A : Nat → Int) (k : Nat) : Prop := ∃ b c W, BM w B g n b c W ∧ ∀ q, bitF W q = onF A k q
theorem OnM.below {w w' : World} {B g n : Nat} {A : Nat → Int} {k : Nat} (h : OnM w B g n A k) (hb : Below w.heap.size w w') : OnM w' B g n A k := by
  obtain ⟨b, c, W, hM, hq⟩ := h
  exact ⟨b, c, W, hM.below hb, hq⟩
end
end Go.Proofs.YtkpcgijdokhjkaaDoor

namespace Go.Proofs.YtkpcgijdokhjkaaDoor
open Go Go.RowKit Go.Shelf
set_option linter.unusedVariables false
set_option linter.unusedSimpArgs false
set_option maxHeartbeats 4000000 in
theorem neither0 (w : World) : Calls Tryd.prog 41 #[.pointer none, .pointer none] w fun e w' => e = .returned (.tuple #[.pointer none, .int .i64 1]) ∧ w' = w := by
  go_enter Tryd.func41, Tryd.ntmps41
  go_wp2_with fail
  refine (nwith2 _ _).mono ?_
  rintro e w' ⟨rfl, rfl⟩
  go_wp2_with fail
  go_ret2
  exact ⟨rfl, rfl⟩
set_option maxHeartbeats 4000000 in
theorem ncross0 (w : World) : Calls Tryd.prog 69 #[.pointer none, .pointer none] w fun e w' => e = .returned (.tuple #[.pointer none, .int .i64 1]) ∧ w' = w := by
  go_enter Tryd.func69, Tryd.ntmps69
  go_wp2_with fail
  refine (nwith2 _ _).mono ?_
  rintro e w' ⟨rfl, rfl⟩
  go_wp2_with fail
  go_ret2
  exact ⟨rfl, rfl⟩
set_option maxHeartbeats 4000000 in
theorem rnmaps (w : World) : Calls Tryd.prog 40 #[.pointer none] w fun e w' => e = .returned (.tuple #[.pointer none, .pointer none]) ∧ w' = w := by
  go_enter Tryd.func40, Tryd.ntmps40
  go_wp2_with fail
  go_ret2
  exact ⟨rfl, rfl⟩
set_option maxHeartbeats 4000000 in
theorem rnblocks (w : World) : Calls Tryd.prog 18 #[.pointer none] w fun e w' => e = .returned (.int .i64 0) ∧ w' = w := by
  go_enter Tryd.func18, Tryd.ntmps18
  go_wp2_with fail
  refine (rnmaps _).mono ?_
  rintro e w' ⟨rfl, rfl⟩
  go_wp2_with fail
  refine (nsize _).mono ?_
  rintro e w' ⟨rfl, rfl⟩
  go_wp2_with fail
  go_ret
  exact ⟨rfl, rfl⟩
set_option maxHeartbeats 4000000 in
theorem rnlet (p : Nat) (hp : p < 4294967296) (w : World) : Calls Tryd.prog 13 #[.pointer none, .int .u32 (p : Int)] w fun e w' => e = .returned (.int .i64 121) ∧ ∃ m, w' = w.drewN m := by
  go_enter Tryd.func13, Tryd.ntmps13
  go_wp2_with fail
  refine (rnmaps _).mono ?_
  rintro e w' ⟨rfl, rfl⟩
  go_wp2_with fail
  refine (nclear (p : Int) _).mono ?_
  rintro e w' ⟨rfl, m2, rfl⟩
  go_wp2_with fail
  go_ret
  exact ⟨rfl, _, rfl⟩
set_option maxHeartbeats 4000000 in
theorem rnnumbers (w : World) : Calls Tryd.prog 67 #[.pointer none] w fun e w' => e = .returned (.pointer none) ∧ w' = w := by
  go_enter Tryd.func67, Tryd.ntmps67
  go_wp2_with fail
  refine (rnblocks _).mono ?_
  rintro e w' ⟨rfl, rfl⟩
  go_wp2_with fail
  refine (newM_no 0 (by decide) _).mono ?_
  rintro e w' ⟨rfl, rfl⟩
  go_wp2_with fail
  refine (rnblocks _).mono ?_
  rintro e w' ⟨rfl, rfl⟩
  go_wp2_with fail
  refine (nfill 1 0 _).mono ?_
  rintro e w' ⟨rfl, rfl⟩
  go_wp2_with fail
  go_ret
  exact ⟨rfl, rfl⟩
set_option maxHeartbeats 4000000 in
theorem rnin (s : Int) (w : World) : Calls Tryd.prog 45 #[.pointer none, .int .i64 s] w fun e w' => e = .returned (.pointer none) ∧ Below w.heap.size w w' := by
  by_cases h0 : s = 0
  · subst h0
    go_enter Tryd.func45, Tryd.ntmps45
    go_wp2_with fail
    refine (rnmaps _).mono ?_
    rintro e w' ⟨rfl, rfl⟩
    go_wp2_with fail
    refine (rnblocks _).mono ?_
    rintro e w' ⟨rfl, rfl⟩
    go_wp2_with fail
    refine (of_no 0 (by decide) _ _).mono ?_
    rintro e w2 ⟨rfl, rfl⟩
    go_wp2_with fail
    go_ret
    exact ⟨rfl, below_new1 _ _⟩
  by_cases h1 : s = 1
  · subst h1
    go_enter Tryd.func45, Tryd.ntmps45
    go_wp2_with fail
    refine (rnmaps _).mono ?_
    rintro e w' ⟨rfl, rfl⟩
    go_wp2_with fail
    refine (neither0 _).mono ?_
    rintro e w' ⟨rfl, rfl⟩
    go_wp2_with fail
    refine (rnnumbers _).mono ?_
    rintro e w' ⟨rfl, rfl⟩
    go_wp2_with fail
    refine (nless _).mono ?_
    rintro e w' ⟨rfl, rfl⟩
    go_wp2_with fail
    go_ret
    exact ⟨rfl, Below.refl _ _⟩
  by_cases h2 : s = 2
  · subst h2
    go_enter Tryd.func45, Tryd.ntmps45
    go_wp2_with fail
    refine (rnmaps _).mono ?_
    rintro e w' ⟨rfl, rfl⟩
    go_wp2_with fail
    refine (ncross0 _).mono ?_
    rintro e w' ⟨rfl, rfl⟩
    go_wp2_with fail
    go_ret
    exact ⟨rfl, Below.refl _ _⟩
  by_cases h3 : s = 3
  · subst h3
    go_enter Tryd.func45, Tryd.ntmps45
    go_wp2_with fail
    refine (rnmaps _).mono ?_
    rintro e w' ⟨rfl, rfl⟩
    go_wp2_with fail
    refine (nless _).mono ?_
    rintro e w' ⟨rfl, rfl⟩
    go_wp2_with fail
    go_ret
    exact ⟨rfl, Below.refl _ _⟩
  by_cases h4 : s = 4
  · subst h4
    go_enter Tryd.func45, Tryd.ntmps45
    go_wp2_with fail
    refine (rnmaps _).mono ?_
    rintro e w' ⟨rfl, rfl⟩
    go_wp2_with fail
    refine (nless _).mono ?_
    rintro e w' ⟨rfl, rfl⟩
    go_wp2_with fail
    go_ret
    exact ⟨rfl, Below.refl _ _⟩
  · go_enter Tryd.func45, Tryd.ntmps45
    go_wp2_with fail
    refine (rnmaps _).mono ?_
    rintro e w' ⟨rfl, rfl⟩
    go_wp2_with fail
    go_ret
    exact ⟨rfl, Below.refl _ _⟩
set_option maxHeartbeats 4000000 in
theorem rnruns (s : Int) (w : World) : Calls Tryd.prog 23 #[.pointer none, .int .i64 s] w fun e w' => e = .returned (.slice none 0 0) ∧ Below w.heap.size w w' := by
  go_enter Tryd.func23, Tryd.ntmps23
  go_wp2_with fail
  refine (rnin s _).mono ?_
  rintro e v1 ⟨rfl, hb1⟩
  go_wp2_with fail
  refine (nruns _).mono ?_
  rintro e w' ⟨rfl, rfl⟩
  go_wp2_with fail
  go_ret
  exact ⟨rfl, hb1⟩
set_option maxHeartbeats 4000000 in
theorem rnlongest (s : Int) (w : World) : Calls Tryd.prog 22 #[.pointer none, .int .i64 s] w fun e w' => e = .returned (.tuple #[.int .u32 0, .int .i64 0]) ∧ Below w.heap.size w w' := by
  go_enter Tryd.func22, Tryd.ntmps22
  go_wp2_with fail
  refine (rnruns s _).mono ?_
  rintro e w1 ⟨rfl, hb1⟩
  go_wp2_with fail
  go_loop [15, 6, 7] (fun i x y => i = .int .i64 0 ∧ x = .int .i64 0 ∧ y = .int .i64 0) (fun _ _ _ => 0)
  case atStart => exact ⟨rfl, rfl, rfl⟩
  case round =>
    obtain ⟨rfl, rfl, rfl⟩ := hrel
    go_wp2_with fail
    go_ret2
    exact ⟨rfl, hb1⟩
set_option maxHeartbeats 4000000 in
theorem rncopy (w : World) : Calls Tryd.prog 19 #[.pointer none] w fun e w' => e = .returned (.pointer none) ∧ w' = w := by
  go_enter Tryd.func19, Tryd.ntmps19
  go_wp2_with fail
  go_ret
  exact ⟨rfl, rfl⟩
set_option maxHeartbeats 4000000 in
theorem rntakemany (p : Int) (w : World) : Calls Tryd.prog 20 #[.pointer none, .int .i64 p] w fun e w' => e = .returned (.tuple #[.slice none 0 0, .int .i64 (if p < 0 then 1 else 3)]) ∧ w' = w := by
  by_cases hp : p < 0
  · rw [if_pos hp]
    go_enter Tryd.func20, Tryd.ntmps20
    go_wp2_with fail
    go_ret2
    exact ⟨rfl, rfl⟩
  · rw [if_neg hp]
    go_enter Tryd.func20, Tryd.ntmps20
    go_wp2_with fail
    go_ret2
    exact ⟨rfl, rfl⟩
set_option maxHeartbeats 4000000 in
theorem rnleteach (a : Option Addr) (N cc : Nat) (A : Nat → Nat) (w : World) (hD : IsU32s w a N A) : Calls Tryd.prog 49 #[.pointer none, .slice a N cc] w fun e w' => e = .returned (.tuple #[.int .i64 0, .int .i64 (if N = 0 then 0 else 121)]) ∧ ∃ m, w' = w.drewN m := by
  by_cases hN : N = 0
  · subst hN
    go_enter Tryd.func49, Tryd.ntmps49
    go_wp2_with fail
    go_loop [11] (fun i => i = .int .i64 0) (fun _ => 0)
    case atStart => rfl
    case round =>
      obtain rfl := hrel
      go_wp2_with fail
      go_ret2
      exact ⟨rfl, 0, rfl⟩
  · rw [if_neg hN]
    obtain ⟨hx, b, o, rfl, hb, cw0⟩ := hD 0 (by omega)
    have cw : w.cell? ⟨b, o, none⟩ = some (.int .u32 (A 0 : Int)) := cw0
    clear cw0
    have j1 : (0 : Int) < (N : Int) := by omega
    clear hD
    generalize A 0 = x at *
    go_enter Tryd.func49, Tryd.ntmps49
    go_wp2_with fail
    go_loop [11] (fun i => i = .int .i64 0) (fun _ => 0)
    case atStart => rfl
    case round =>
      obtain rfl := hrel
      go_wp2_with fail
      refine (rnlet x hx _).mono ?_
      rintro e w1 ⟨rfl, m, rfl⟩
      go_wp2_with fail
      go_ret2
      exact ⟨rfl, m, rfl⟩
set_option maxHeartbeats 4000000 in
theorem rnletall (a : Option Addr) (N cc : Nat) (A : Nat → Nat) (w : World) (hD : IsU32s w a N A) : Calls Tryd.prog 21 #[.pointer none, .slice a N cc] w fun e w' => e = .returned (.tuple #[.int .i64 0, .int .i64 (if N = 0 then 0 else 121)]) ∧ ∃ m, w' = w.drewN m := by
  have H1 := rnleteach a N cc A w hD
  have H2 : Hid (∀ m, Calls Tryd.prog 49 #[.pointer none, .slice a N cc] (w.drewN m) fun e w' => e = .returned (.tuple #[.int .i64 0, .int .i64 (if N = 0 then 0 else 121)]) ∧ ∃ m', w' = (w.drewN m).drewN m') := fun m => rnleteach a N cc A _ (hD.below (below_dN (Below.refl _ _) m))
  clear hD
  by_cases hN : N = 0
  · subst hN
    simp only [if_true] at H1 H2 ⊢
    go_enter Tryd.func21, Tryd.ntmps21
    go_wp2_with fail
    refine (rncopy _).mono ?_
    rintro e w1 ⟨rfl, rfl⟩
    go_wp2_with fail
    refine H1.mono ?_
    rintro e w2 ⟨rfl, m, rfl⟩
    go_wp2_with fail
    refine (H2.out m).mono ?_
    rintro e w3 ⟨rfl, m3, rfl⟩
    go_wp2_with fail
    go_ret2
    exact ⟨rfl, _, rfl⟩
  · simp only [hN, if_false] at H1 H2 ⊢
    go_enter Tryd.func21, Tryd.ntmps21
    go_wp2_with fail
    refine (rncopy _).mono ?_
    rintro e w1 ⟨rfl, rfl⟩
    go_wp2_with fail
    refine H1.mono ?_
    rintro e w2 ⟨rfl, m, rfl⟩
    go_wp2_with fail
    go_ret2
    exact ⟨rfl, m, rfl⟩
theorem a12_ok : ∀ m, m < 2 → OkAt (fun i => i + 1) 16 m := fun m hm => by
  match m, hm with
  | 0, _ => exact ⟨by decide, by decide, by decide⟩
  | 1, _ => exact ⟨by decide, by decide, by decide⟩
theorem a12_free : freeF (memA (fun i => i + 1) 2) (memA (fun i => i + 1) 2) 16 = 3 := by decide
set_option maxHeartbeats 4000000 in
theorem awake12_any (w : World) (hT : TabAt w) (h0 : 0 < w.heap.size) : Calls Tryd.prog 9 #[] w fun e w' => e = .returned (.bool true) ∧ Below w.heap.size w w' := by
  have hb1 : Below w.heap.size w (w.alloc (.cells #[.int .u32 1, .int .u32 2] 22)) := below_new1 _ _
  have hI : IsU32s (w.alloc (.cells #[.int .u32 1, .int .u32 2] 22)) (some ⟨w.heap.size, 0, none⟩) 2 (fun i => i + 1) := fun i hi => by
    have hblk : Blk (w.alloc (.cells #[.int .u32 1, .int .u32 2] 22)) w.heap.size 22 #[.int .u32 1, .int .u32 2] := Blk.new _ _ _
    match i, hi with
    | 0, _ => exact ⟨by decide, w.heap.size, 0, rfl, hblk.lt, by rw [hblk.cell]; rfl⟩
    | 1, _ => exact ⟨by decide, w.heap.size, 0, rfl, hblk.lt, by rw [hblk.cell]; rfl⟩
  have HN : Hid (Calls Tryd.prog 29 #[.int .i64 16, .slice (some ⟨w.heap.size, 0, none⟩) 2 2] (w.alloc (.cells #[.int .u32 1, .int .u32 2] 22)) fun e w' => ∃ r, e = .returned (.tuple #[.pointer (some ⟨r, 0, none⟩), .int .i64 0, .int .i64 0]) ∧ RoomIs w' (fun k => w.heap.size ≤ k) r 16 (memA (fun i => i + 1) 2) (memA (fun i => i + 1) 2) ∧ Below w.heap.size w w') := by
    refine (rnew_any (n := 16) (by decide) (by decide) (some ⟨w.heap.size, 0, none⟩) 2 2 (by decide) (fun i => i + 1) _ hI).mono ?_
    rintro e w' ⟨⟨r, rfl, _, hR⟩ | ⟨m, hm, rfl, _, hbad⟩, hb⟩
    · refine ⟨r, rfl, ?_, hb1.trans (hb.mono hb1.size)⟩
      obtain ⟨gu, bu, cu, gn, bn, cn, U, X, hRM, h1, h2⟩ := hR
      have hs := hb1.size
      exact ⟨gu, bu, cu, gn, bn, cn, U, X, ⟨hRM.cells, hRM.u, hRM.x, ⟨Nat.le_trans hs hRM.own.1, Nat.le_trans hs hRM.own.2.1, Nat.le_trans hs hRM.own.2.2.1, Nat.le_trans hs hRM.own.2.2.2.1, Nat.le_trans hs hRM.own.2.2.2.2⟩, hRM.ne, hRM.z, hRM.n16⟩, h1, h2⟩
    · exact absurd (a12_ok m hm) hbad
  clear hI
  go_enter Tryd.func9, Tryd.ntmps9
  go_wp2_with fail
  refine HN.out.mono ?_
  rintro e w2 ⟨r, rfl, hR2, hb2⟩
  have HTK : Hid (Calls Tryd.prog 12 #[.pointer (some ⟨r, 0, none⟩)] w2 fun e w' => e = .returned (.tuple #[.int .u32 3, .int .i64 0]) ∧ RoomIs w' (fun k => w.heap.size ≤ k) r 16 (memA (fun i => i + 1) 2) (fun q => if q = 3 then true else memA (fun i => i + 1) 2 q) ∧ Below w.heap.size w w') := by
    refine (rtake_any (hT.below h0 hb2) (Nat.lt_of_lt_of_le h0 hb2.size) hR2).mono ?_
    rintro e w' (⟨hf, _⟩ | ⟨p, hf, _, _, _, _, rfl, hR, hTc⟩)
    · rw [a12_free] at hf
      cases hf
    · rw [a12_free] at hf
      obtain rfl : p = 3 := by omega
      exact ⟨rfl, hR, hb2.trans (hTc.below hb2.size fun k hk => by omega)⟩
  clear hR2 HN hb1
  go_wp2_with fail
  refine HTK.out.mono ?_
  rintro e w3 ⟨rfl, hR3, hb3⟩
  have HST : Hid (Calls Tryd.prog 14 #[.pointer (some ⟨r, 0, none⟩), .int .u32 3] w3 fun e w' => e = .returned (.int .i64 3) ∧ ∃ m, w' = w3.drewN m) := rstate_any hR3 3 (by decide)
  clear hR3 HTK hb2
  go_wp2_with fail
  refine HST.out.mono ?_
  rintro e w4 ⟨rfl, m, rfl⟩
  go_wp2_with fail
  go_ret
  exact ⟨rfl, below_dN hb3 m⟩
end Go.Proofs.YtkpcgijdokhjkaaDoor

namespace Go.Proofs.YtkpcgijdokhjkaaDoor
open Go Go.RowKit Go.Shelf Go.ChangeShapes
set_option linter.unusedVariables false
set_option linter.unusedSimpArgs false
set_option maxHeartbeats 4000000 in
theorem roomNone_zero (i : Int) (a : Option Addr) (cc : Nat) (A : Nat → Nat) (w : World) (h0 : 0 < w.heap.size) (hT : TabAt w) (hD : IsU32s w a 0 A) : Calls Tryd.prog 4 #[.agg #[.int .i64 i, .slice a 0 cc]] w fun e w' => e = .returned (.bool true) ∧ Below w.heap.size w w' := by
  have hb1 : Below w.heap.size w (w.alloc (.cells #[.int .i64 i, .slice a 0 cc] 39)) := below_new1 _ _
  have hk : Blk (w.alloc (.cells #[.int .i64 i, .slice a 0 cc] 39)) w.heap.size 39 #[.int .i64 i, .slice a 0 cc] := Blk.new _ _ _
  have hD1 := hD.below hb1
  have HT : Hid (TabAt w) := hT
  have k0 : (w.alloc (.cells #[.int .i64 i, .slice a 0 cc] 39)).cell? ⟨w.heap.size, 0, none⟩ = some (.int .i64 i) := by rw [hk.cell]; rfl
  have k1 : (w.alloc (.cells #[.int .i64 i, .slice a 0 cc] 39)).cell? ⟨w.heap.size, 1, none⟩ = some (.slice a 0 cc) := by rw [hk.cell]; rfl
  have HKB : Hid (∀ V, Below (w.alloc (.cells #[.int .i64 i, .slice a 0 cc] 39)).heap.size (w.alloc (.cells #[.int .i64 i, .slice a 0 cc] 39)) V → V.cell? ⟨w.heap.size, 0, none⟩ = some (.int .i64 i) ∧ V.cell? ⟨w.heap.size, 1, none⟩ = some (.slice a 0 cc)) := fun V hV => by
    have hq := hk.below hV hk.lt
    exact ⟨by rw [hq.cell]; rfl, by rw [hq.cell]; rfl⟩
  clear hD hT hk
  have HTM : Hid (∀ w : World, Calls Tryd.prog 20 #[.pointer none, .int .i64 i] w fun e w' => e = .returned (.tuple #[.slice none 0 0, .int .i64 (if i < 0 then 1 else 3)]) ∧ w' = w) := fun w => rntakemany i w
  have HLA : Hid (Calls Tryd.prog 21 #[.pointer none, .slice a 0 cc] (w.alloc (.cells #[.int .i64 i, .slice a 0 cc] 39)) fun e w' => e = .returned (.tuple #[.int .i64 0, .int .i64 0]) ∧ ∃ m, w' = (w.alloc (.cells #[.int .i64 i, .slice a 0 cc] 39)).drewN m) := by
    have := rnletall a 0 cc A _ hD1
    simp only [if_true] at this
    exact this
  clear hD1
  by_cases hi : i < 0
  all_goals
    first | simp only [hi, if_true] at HTM | simp only [hi, if_false] at HTM
    go_enter Tryd.func4, Tryd.ntmps4
    go_wp2_with fail
    refine (HTM.out _).mono ?_
    rintro e w2 ⟨rfl, rfl⟩
    go_wp2_with fail
    refine HLA.out.mono ?_
    rintro e w3 ⟨rfl, m, rfl⟩
    have hb3 : Below w.heap.size w ((w.alloc (.cells #[.int .i64 i, .slice a 0 cc] 39)).drewN m) := below_dN hb1 m
    obtain ⟨k30, k31⟩ := HKB.out _ (below_dN (Below.refl _ _) m)
    have HKB3 : Hid (∀ V, Below ((w.alloc (.cells #[.int .i64 i, .slice a 0 cc] 39)).drewN m).heap.size ((w.alloc (.cells #[.int .i64 i, .slice a 0 cc] 39)).drewN m) V → V.cell? ⟨w.heap.size, 0, none⟩ = some (.int .i64 i) ∧ V.cell? ⟨w.heap.size, 1, none⟩ = some (.slice a 0 cc)) := fun V hV => HKB.out V ⟨hV.os, hV.tape, hV.output, hV.size, hV.block⟩
    clear k0 k1 hb1 HKB HTM HLA
    generalize (w.alloc (.cells #[.int .i64 i, .slice a 0 cc] 39)).drewN m = w3 at *
    go_wp2_with fail
    refine (rnlongest i _).mono ?_
    rintro e w4 ⟨rfl, hb4⟩
    obtain ⟨k40, k41⟩ := HKB3.out _ hb4
    replace hb3 := hb3.trans (hb4.mono hb3.size)
    have HKB4 : Hid (∀ V, Below w4.heap.size w4 V → V.cell? ⟨w.heap.size, 0, none⟩ = some (.int .i64 i)) := fun V hV => (HKB3.out V (hb4.trans (hV.mono hb4.size))).1
    clear k30 k31 HKB3 hb4
    have HAW := awake12_any w4 (HT.out.below h0 hb3) (Nat.lt_of_lt_of_le h0 hb3.size)
    go_wp2_with fail
    refine HAW.mono ?_
    rintro e w5 ⟨rfl, hb5⟩
    have k50 := HKB4.out _ hb5
    replace hb3 := hb3.trans (hb5.mono hb3.size)
    clear k40 k41 HKB4 hb5 HAW
    go_wp2_with fail
    refine (rnruns i _).mono ?_
    rintro e w6 ⟨rfl, hb6⟩
    replace hb3 := hb3.trans (hb6.mono hb3.size)
    go_wp2_with fail
    go_ret
    exact ⟨rfl, hb3⟩
set_option maxHeartbeats 4000000 in
theorem roomNone_more (i : Int) (a : Option Addr) (N cc : Nat) (hn : ¬ N = 0) (A : Nat → Nat) (w : World) (h0 : 0 < w.heap.size) (hT : TabAt w) (hD : IsU32s w a N A) : Calls Tryd.prog 4 #[.agg #[.int .i64 i, .slice a N cc]] w fun e w' => e = .returned (.bool true) ∧ Below w.heap.size w w' := by
  have hb1 : Below w.heap.size w (w.alloc (.cells #[.int .i64 i, .slice a N cc] 39)) := below_new1 _ _
  have hk : Blk (w.alloc (.cells #[.int .i64 i, .slice a N cc] 39)) w.heap.size 39 #[.int .i64 i, .slice a N cc] := Blk.new _ _ _
  have hD1 := hD.below hb1
  have HT : Hid (TabAt w) := hT
  have k0 : (w.alloc (.cells #[.int .i64 i, .slice a N cc] 39)).cell? ⟨w.heap.size, 0, none⟩ = some (.int .i64 i) := by rw [hk.cell]; rfl
  have k1 : (w.alloc (.cells #[.int .i64 i, .slice a N cc] 39)).cell? ⟨w.heap.size, 1, none⟩ = some (.slice a N cc) := by rw [hk.cell]; rfl
  have HKB : Hid (∀ V, Below (w.alloc (.cells #[.int .i64 i, .slice a N cc] 39)).heap.size (w.alloc (.cells #[.int .i64 i, .slice a N cc] 39)) V → V.cell? ⟨w.heap.size, 0, none⟩ = some (.int .i64 i) ∧ V.cell? ⟨w.heap.size, 1, none⟩ = some (.slice a N cc)) := fun V hV => by
    have hq := hk.below hV hk.lt
    exact ⟨by rw [hq.cell]; rfl, by rw [hq.cell]; rfl⟩
  clear hD hT hk
  have HTM : Hid (∀ w : World, Calls Tryd.prog 20 #[.pointer none, .int .i64 i] w fun e w' => e = .returned (.tuple #[.slice none 0 0, .int .i64 (if i < 0 then 1 else 3)]) ∧ w' = w) := fun w => rntakemany i w
  have HLA : Hid (Calls Tryd.prog 21 #[.pointer none, .slice a N cc] (w.alloc (.cells #[.int .i64 i, .slice a N cc] 39)) fun e w' => e = .returned (.tuple #[.int .i64 0, .int .i64 121]) ∧ ∃ m, w' = (w.alloc (.cells #[.int .i64 i, .slice a N cc] 39)).drewN m) := by
    have := rnletall a N cc A _ hD1
    simp only [hn, if_false] at this
    exact this
  clear hD1
  have hNi : ¬ ((N : Int) = 0) := by omega
  by_cases hi : i < 0
  all_goals
    first | simp only [hi, if_true] at HTM | simp only [hi, if_false] at HTM
    go_enter Tryd.func4, Tryd.ntmps4
    go_wp2_with fail
    refine (HTM.out _).mono ?_
    rintro e w2 ⟨rfl, rfl⟩
    go_wp2_with fail
    refine HLA.out.mono ?_
    rintro e w3 ⟨rfl, m, rfl⟩
    have hb3 : Below w.heap.size w ((w.alloc (.cells #[.int .i64 i, .slice a N cc] 39)).drewN m) := below_dN hb1 m
    obtain ⟨k30, k31⟩ := HKB.out _ (below_dN (Below.refl _ _) m)
    have HKB3 : Hid (∀ V, Below ((w.alloc (.cells #[.int .i64 i, .slice a N cc] 39)).drewN m).heap.size ((w.alloc (.cells #[.int .i64 i, .slice a N cc] 39)).drewN m) V → V.cell? ⟨w.heap.size, 0, none⟩ = some (.int .i64 i) ∧ V.cell? ⟨w.heap.size, 1, none⟩ = some (.slice a N cc)) := fun V hV => HKB.out V ⟨hV.os, hV.tape, hV.output, hV.size, hV.block⟩
    clear k0 k1 hb1 HKB HTM HLA
    generalize (w.alloc (.cells #[.int .i64 i, .slice a N cc] 39)).drewN m = w3 at *
    go_wp2_with fail
    refine (rnlongest i _).mono ?_
    rintro e w4 ⟨rfl, hb4⟩
    obtain ⟨k40, k41⟩ := HKB3.out _ hb4
    replace hb3 := hb3.trans (hb4.mono hb3.size)
    have HKB4 : Hid (∀ V, Below w4.heap.size w4 V → V.cell? ⟨w.heap.size, 0, none⟩ = some (.int .i64 i)) := fun V hV => (HKB3.out V (hb4.trans (hV.mono hb4.size))).1
    clear k30 k31 HKB3 hb4
    have HAW := awake12_any w4 (HT.out.below h0 hb3) (Nat.lt_of_lt_of_le h0 hb3.size)
    go_wp2_with fail
    refine HAW.mono ?_
    rintro e w5 ⟨rfl, hb5⟩
    have k50 := HKB4.out _ hb5
    replace hb3 := hb3.trans (hb5.mono hb3.size)
    clear k40 k41 HKB4 hb5 HAW
    go_wp2_with fail
    refine (rnruns i _).mono ?_
    rintro e w6 ⟨rfl, hb6⟩
    replace hb3 := hb3.trans (hb6.mono hb3.size)
    go_wp2_with fail
    go_ret
    exact ⟨rfl, hb3⟩
theorem roomNoneLaw (i : Int) (a : Option Addr) (N cc : Nat) (A : Nat → Nat) (w : World) (h0 : 0 < w.heap.size) (hT : TabAt w) (hD : IsU32s w a N A) : Calls Tryd.prog 4 #[.agg #[.int .i64 i, .slice a N cc]] w fun e w' => e = .returned (.bool true) ∧ Below w.heap.size w w' := by
  by_cases hn : N = 0
  · subst hn
    exact roomNone_zero i a cc A w h0 hT hD
  · exact roomNone_more i a N cc hn A w h0 hT hD
end Go.Proofs.YtkpcgijdokhjkaaDoor

namespace Go.Proofs.YtkpcgijdokhjkaaDoor
open Go.ChangeShapes Go.WideShapes Go.ChangeAt Go.RowKit Go.Joins
set_option linter.unusedVariables false
theorem ucell_lt {w : World} {a : Addr} {v : Value} (h : w.cell? a = some v) : a.block < w.heap.size := by
  obtain ⟨e, n, hs, _⟩ := World.shape?_of_cell? h
  unfold World.shape? at hs
  cases hb : w.heap[a.block]? with
  | none => simp [hb] at hs
  | some o => exact (Array.getElem?_eq_some_iff.1 hb).1
set_option maxRecDepth 100000 in
theorem open_u32s {H : Type} {enc : TypeId × Value → H} {W : World} {a0 : Option Addr} {len cap fuel : Nat} {x : DataW H × List MemPlace}
    (hf : DataW.trod enc Tryd.prog W 0 (fun _ => true) true fuel 31 [.slice a0 len cap] = some x) (hsz : ∀ n ∈ x.1.weights Tryd.prog 31, n ≤ reachBytes) :
    ∃ (A : Nat → Nat), len ≤ 9223372036854775807 ∧ IsU32s W a0 len A := by
  rcases Deep.open_slice Tryd.underlying31 hf with ⟨hcs, hx⟩ | ⟨a, len', cap', m, n, D, Pl, hcs, _, hl, hm, hmm, hx, hel⟩
  · simp at hcs
    obtain ⟨rfl, rfl, rfl⟩ := hcs
    exact ⟨fun _ => 0, by omega, fun i hi => absurd hi (by omega)⟩
  · simp at hcs
    obtain ⟨rfl, rfl, rfl⟩ := hcs
    subst hx
    simp only [if_true] at hmm
    subst hmm
    have hu := Tryd.underlying31
    have hby : Tryd.prog.bytesOf 22 = 4 := by kernel_rfl
    have hw0 := hsz ((((List.range len).map D).length + ((List.range (m - len)).map fun j => D (len + j)).length) * Tryd.prog.bytesOf 22) (by simp [DataW.weights, hu])
    rw [hby] at hw0
    simp only [List.length_map, List.length_range] at hw0
    have hlen4 : len ≤ 9223372036854775807 := by
      unfold reachBytes at hw0
      omega
    have hce : Tryd.prog.cellsOf 22 = 1 := by kernel_rfl
    have hsp : 0 < len → a.spot = none := fun h0 => by
      obtain ⟨cs', h1, _⟩ := hel 0 (by omega)
      rw [hce] at h1
      obtain ⟨_, hcl, hcell⟩ := World.cells?_some h1
      match cs', hcl with
      | [v0], _ => simpa [Addr.add] using World.cell?_spot (hcell 0 (by omega))
    have each : ∀ i, ∃ q : Nat, i < len → q < 4294967296 ∧ ∃ b o, a = ⟨b, o, none⟩ ∧ b < W.heap.size ∧ W.cell? ⟨b, o + i, none⟩ = some (.int .u32 (q : Int)) := by
      intro i
      by_cases hi : i < len
      · obtain ⟨cs', h1, h2⟩ := hel i (by omega)
        rw [hce] at h1
        obtain ⟨_, hcl, hcell⟩ := World.cells?_some h1
        match cs', hcl with
        | [v0], _ =>
          obtain ⟨p, e0, _, w0⟩ := DataW.trod_int Tryd.underlying22 h2
          simp at e0
          subst e0
          have hbd := bounds_u32 w0
          obtain ⟨q, rfl⟩ := Int.eq_ofNat_of_zero_le hbd.1
          refine ⟨q, fun _ => ⟨by omega, ?_⟩⟩
          have c0 := hcell 0 (by decide)
          obtain ⟨b, off, spot⟩ := a
          have hspot : spot = none := hsp (by omega)
          subst hspot
          simp only [Addr.add_mid, List.getElem?_cons_zero, Nat.mul_one, Nat.add_zero] at c0
          exact ⟨b, off, rfl, ucell_lt c0, c0⟩
      · exact ⟨0, fun h => absurd h hi⟩
    refine ⟨fun i => Classical.choose (each i), hlen4, fun i hi => ?_⟩
    obtain ⟨hq, b, o, rfl, h1, h2⟩ := Classical.choose_spec (each i) hi
    exact ⟨hq, b, o, rfl, h1, h2⟩
set_option maxRecDepth 100000 in
theorem open_many {H : Type} {enc : TypeId × Value → H} {W : World} {base : Nat} {v : Value} {d : DataW H} {p : List MemPlace} (hval : Value.okWide Tryd.prog W .any base 39 v)
    (h : DataW.Trod enc Tryd.prog W 0 (fun _ => true) true 39 v d p) (hsz : ∀ n ∈ d.weights Tryd.prog 39, n ≤ reachBytes) :
    ∃ (i : Int) (a : Option Addr) (N c : Nat) (A : Nat → Nat), v = .agg #[.int .i64 i, .slice a N c] ∧ (Lit.int .i64 i).wf = true ∧ N ≤ 9223372036854775807 ∧ IsU32s W a N A := by
  obtain ⟨c0, c1, y0, y1, m, rfl, rfl, rfl, hy0, hy1⟩ := open_agg2 Tryd.underlying39 (by kernel_rfl) (show Tryd.prog.cellsOf 39 = 2 by kernel_rfl) hval h
  obtain ⟨i, e0, _, w0⟩ := DataW.trod_int Tryd.underlying3 hy0
  simp at e0
  subst e0
  have hsz1 : ∀ n ∈ y1.1.weights Tryd.prog 31, n ≤ reachBytes := fun n hn => by
    refine hsz n ?_
    simp [DataW.weights, Tryd.underlying39]
    exact DataW.weights_mem_each (j := 1) (t := 31) (d := y1.fst) rfl rfl n hn
  have hfm : ∃ a N c, c1 = .slice a N c := by
    rcases Deep.open_slice Tryd.underlying31 hy1 with ⟨hcs, _⟩ | ⟨a, len', cap', _, _, _, _, hcs, _⟩
    · simp at hcs
      exact ⟨_, _, _, hcs⟩
    · simp at hcs
      exact ⟨_, _, _, hcs⟩
  obtain ⟨a, N, c, rfl⟩ := hfm
  obtain ⟨A, hN, hD⟩ := open_u32s hy1 hsz1
  exact ⟨i, a, N, c, A, rfl, w0, hN, hD⟩
end Go.Proofs.YtkpcgijdokhjkaaDoor
