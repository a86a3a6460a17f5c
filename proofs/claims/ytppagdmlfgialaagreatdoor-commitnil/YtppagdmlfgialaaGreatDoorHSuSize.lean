/- The least heights of the table and of the map. -/
import Derived.Test.YtppagdmlfgialaaGreatDoorHRmKit
import Derived.Handy
import Derived.Test.YtppagdmlfgialaaGreatDoorHIoRSize
import Derived.RangeFuncNested
import Derived.RangeFuncBound
import Derived.RangeFuncCalls
import Derived.RangeFuncLeaves
import Derived.Shelf.Abstract
import Derived.Shelf.RegionOpen
import Derived.WalkKit
import Derived.OwnWalkIn
import Derived.TacticsInMore
import Derived.LoopNIn
import Derived.LoopIn
import Derived.RangeFuncFrom
import Derived.RangeFuncBox
import Derived.RangeFuncWrites
import Derived.Maps.AppendAt
import Derived.Test.YtppagdmlfgialaaGreatDoorHSegsP
import Derived.Test.YtppagdmlfgialaaGreatDoorHSuKit

namespace Go.Proofs.YtppagdmlfgialaaGreatDoor
open Go Go.RowKit
set_option linter.unusedVariables false
set_option linter.unusedSimpArgs false
/-- a slice of numbers of 32 bits, handed in -/
def IsU32s (w : World) (a : Option Addr) (N : Nat) (A : Nat → Nat) : Prop :=
  ∀ i, i < N → A i < 4294967296 ∧ ∃ b o, a = some ⟨b, o, none⟩ ∧ b < w.heap.size ∧ w.cell? ⟨b, o + i, none⟩ = some (.int .u32 (A i : Int))
theorem IsU32s.below {w w' : World} {a : Option Addr} {N : Nat} {A : Nat → Nat} (h : IsU32s w a N A) (hb : Below w.heap.size w w') : IsU32s w' a N A := fun i hi => by
  obtain ⟨h0, b, o, e, h1, h2⟩ := h i hi
  have hblk := hb.block b h1
  refine ⟨h0, b, o, e, Nat.lt_of_lt_of_le h1 hb.size, ?_⟩
  rw [← h2]; simp [World.cell?, hblk]
/-- whether a block is among the first of them -/
def memA (A : Nat → Nat) : Nat → Nat → Bool
  | 0, _ => false
  | k + 1, q => if q = A k then true else memA A k q
def OkAt (A : Nat → Nat) (n m : Nat) : Prop := A m ≠ 0 ∧ A m < n ∧ memA A m (A m) = false
def GoodA (A : Nat → Nat) (n k : Nat) : Prop := ∀ i, i < k → OkAt A n i
theorem GoodA.succ {A : Nat → Nat} {n k : Nat} (h : GoodA A n k) (hk : OkAt A n k) : GoodA A n (k + 1) := fun i hi => by
  by_cases e : i = k
  · rw [e]; exact hk
  · exact h i (by omega)
theorem mem_zero {A : Nat → Nat} {n : Nat} : ∀ {k : Nat}, GoodA A n k → memA A k 0 = false
  | 0, _ => rfl
  | k + 1, h => by
    unfold memA
    rw [if_neg (Ne.symm (h k (by omega)).1)]
    exact mem_zero fun i hi => h i (by omega)
section
variable {w w' : World} {P : Nat → Prop} {r n gu bu cu gn bn cn : Nat} {U X : Nat → Nat} {F G : Nat → Bool}
theorem rmaybe_yes (n : Nat) (h1 : 16 ≤ n) (h2 : n ≤ 8192) (w : World) : Calls Tryz.prog 54 #[.int .i64 (n : Int)] w fun e w' => e = .returned (.bool true) ∧ w' = w := by
  have a1 : (16 : Int) ≤ (n : Int) := by omega
  have a2 : (n : Int) ≤ 8192 := by omega
  go_enter Tryz.func54, Tryz.ntmps54
  go_wp2_with fail
  go_ret
  exact ⟨by simp [a2], rfl⟩
theorem rstanding_any {B g b c : Nat} {W : Nat → Nat} (h : BM w B g n b c W) (h16 : 16 ≤ n) (hz : bitF W 0 = false) (hg : P g) (hb : P b) (hP : ∀ k, w.heap.size ≤ k → P k) : Calls Tryz.prog 57 #[.pointer (some ⟨g, 0, none⟩)] w fun e w' => ∃ r, e = .returned (.pointer (some ⟨r, 0, none⟩)) ∧ RoomIs w' P r n (bitF W) (bitF W) ∧ Below w.heap.size w w' := by
  have HC := bclone_any w h
  have HF : Hid (∀ (V : World) (g' b' c' : Nat), BM V w.heap.size g' n b' c' W → Below w.heap.size w V → RoomIs (V.alloc (.cells #[.pointer (some ⟨g, 0, none⟩), .pointer (some ⟨g', 0, none⟩)] 178)) P V.heap.size n (bitF W) (bitF W) ∧ Below w.heap.size w (V.alloc (.cells #[.pointer (some ⟨g, 0, none⟩), .pointer (some ⟨g', 0, none⟩)] 178))) := fun V g' b' c' hM hB => by
    have hV := h.below hB
    have hgl := h.glt
    have hbl := h.blt.2
    have hg' := hM.gB
    have hb' := hM.blt
    have hgg := hM.glt
    have hne := hM.ne
    have hs := hB.size
    have hba : Below V.heap.size V (V.alloc (.cells #[.pointer (some ⟨g, 0, none⟩), .pointer (some ⟨g', 0, none⟩)] 178)) := below_new1 _ _
    refine ⟨⟨g, b, c, g', b', c', W, W, ⟨Blk.new _ _ _, (hV.mono (Nat.zero_le _)).below hba, (hM.mono (Nat.zero_le _)).below hba, ⟨hP _ (by omega), hg, hb, hP _ hg', hP _ hb'.1⟩, ⟨by omega, by omega, by omega, by omega, by omega, by omega, by omega, by omega⟩, ⟨hz, hz⟩, h16⟩, fun _ => rfl, fun _ => rfl⟩, hB.trans (hba.mono hs)⟩
  clear h
  go_enter Tryz.func57, Tryz.ntmps57
  go_wp2_with fail
  refine HC.mono ?_
  rintro e w1 ⟨g', b', c', rfl, hM, hB⟩
  have hh := HF.out w1 g' b' c' hM hB
  clear HF hM
  go_wp2_with fail
  go_ret
  exact ⟨_, rfl, hh.1, hh.2⟩
set_option maxHeartbeats 4000000 in
theorem rnew_any (h1 : 16 ≤ n) (h2 : n ≤ 8192) (a : Option Addr) (N cc : Nat) (hN : N ≤ 9223372036854775807) (A : Nat → Nat) (w : World) (hD : IsU32s w a N A) : Calls Tryz.prog 26 #[.int .i64 (n : Int), .slice a N cc] w fun e w' =>
    ((∃ r, e = .returned (.tuple #[.pointer (some ⟨r, 0, none⟩), .int .i64 0, .int .i64 0]) ∧ GoodA A n N ∧ RoomIs w' (fun k => w.heap.size ≤ k) r n (memA A N) (memA A N)) ∨
    (∃ m : Nat, m < N ∧ e = .returned (.tuple #[.pointer none, .int .i64 (m : Int), .int .i64 121]) ∧ GoodA A n m ∧ ¬ OkAt A n m)) ∧ Below w.heap.size w w' := by
  have HM := rmaybe_yes n h1 h2 w
  have HN := newM_ok n (by omega) h2 w
  have HD : Hid (∀ V : World, Below w.heap.size w V → IsU32s V a N A) := fun V hV => hD.below hV
  clear hD
  go_enter Tryz.func26, Tryz.ntmps26
  go_wp2_with fail
  refine HM.mono ?_
  rintro e w0 ⟨rfl, rfl⟩
  go_wp2_with fail
  refine HN.mono ?_
  rintro e w1 ⟨g, b0, c0, rfl, hM0, hb0⟩
  go_wp2_with fail
  go_loopw [21] (fun t wr => ∃ j : Nat, j ≤ N ∧ t = .int .i64 (j : Int) ∧ GoodA A n j ∧ (∃ b c W, BM wr w0.heap.size g n b c W ∧ ∀ q, bitF W q = memA A j q) ∧ Below w0.heap.size w0 wr) (fun t _ => N - (intOf t).toNat)
  case atStart => exact ⟨0, by omega, rfl, fun i hi => by omega, ⟨_, _, _, hM0, fun q => bitF_zero q⟩, hb0⟩
  case round =>
    clear hM0 hb0 HN HM
    obtain ⟨j, hj, rfl, hal, ⟨b, c, W, hM, hbits⟩, hb⟩ := hrel
    by_cases hlt : j < N
    · obtain ⟨hau, ab, ao, rfl, hab, cw⟩ := HD.out wr hb j hlt
      have j0 : (0 : Int) ≤ (j : Int) := by omega
      have j1 : (j : Int) < (N : Int) := by omega
      have HJ : Hid (j < N ∧ N ≤ 9223372036854775807) := ⟨hlt, hN⟩
      by_cases hz : A j = 0
      · rw [hz] at cw
        have HBAD : Hid (¬ OkAt A n j) := fun h => h.1 hz
        clear hM hbits
        go_wp2_with fail
        go_ret3
        exact ⟨.inr ⟨j, HJ.out.1, rfl, hal, HBAD.out⟩, hb⟩
      · have hzi : ¬ ((A j : Int) = 0) := by omega
        by_cases hok : A j < n ∧ memA A j (A j) = false
        · have HS := set_new wr hM (A j) hok.1 (by rw [hbits]; exact hok.2)
          have HON : Hid (∀ q, bitF (putW W (A j)) q = memA A (j + 1) q) := fun q => by
            rw [put_if', hbits]
            rfl
          have HAL : Hid (GoodA A n (j + 1)) := hal.succ ⟨hz, hok⟩
          have HB : Hid (∀ V, Only b wr V → Below w0.heap.size w0 V) := fun V ho => hb.trans (ho.below hb.size hM.blt.1)
          clear hM hbits hal hb hok
          generalize A j = aj at *
          go_wp2_with fail
          refine HS.mono ?_
          rintro e3 w3 ⟨rfl, hM3, ho3⟩
          have hb3 := HB.out w3 ho3
          go_wp2_with fail
          go_roundw
          case rel => exact ⟨j + 1, HJ.out.1, by first | rfl | go_num | simp, HAL.out, ⟨b, c, _, hM3, HON.out⟩, hb3⟩
          case measure => simp [intOf]; have := HJ.out; omega
        · have HBAD : Hid (¬ OkAt A n j) := fun h => hok ⟨h.2.1, h.2.2⟩
          have HS := set_not wr hM (A j : Int) (by
            by_cases hn : A j < n
            · refine .inr (.inr ⟨by omega, by omega, ?_⟩)
              rw [Int.toNat_natCast, hbits]
              cases hm : memA A j (A j) with
              | true => rfl
              | false => exact absurd ⟨hn, hm⟩ hok
            · exact .inr (.inl (by omega)))
          clear hM hbits hok
          generalize A j = aj at *
          go_wp2_with fail
          refine HS.mono ?_
          rintro e3 w3 ⟨rfl, m3, rfl⟩
          go_wp2_with fail
          go_ret3
          exact ⟨.inr ⟨j, HJ.out.1, rfl, hal, HBAD.out⟩, below_dN hb m3⟩
    · obtain rfl : j = N := by omega
      have j1 : ¬ ((j : Int) < (j : Int)) := by omega
      have HS := rstanding_any (P := fun k => w0.heap.size ≤ k) hM h1 (by rw [hbits]; exact mem_zero hal) hM.gB hM.blt.1 (fun k hk => Nat.le_trans hb.size hk)
      have HRR : Hid (∀ V r, RoomIs V (fun k => w0.heap.size ≤ k) r n (bitF W) (bitF W) → RoomIs V (fun k => w0.heap.size ≤ k) r n (memA A j) (memA A j)) := fun V r h => by
        rw [show bitF W = memA A j from funext hbits] at h
        exact h
      clear hM hbits
      go_wp2_with fail
      refine HS.mono ?_
      rintro e w4 ⟨r, rfl, hR4, hb4⟩
      have hh := HRR.out w4 r hR4
      clear hR4 HRR
      go_wp2_with fail
      go_ret3
      exact ⟨.inl ⟨r, rfl, hal, hh⟩, hb.trans (hb4.mono hb.size)⟩
end
end Go.Proofs.YtppagdmlfgialaaGreatDoor

namespace Go.Proofs.YtppagdmlfgialaaGreatDoor
open Go Go.RowKit Go.Shelf
set_option linter.unusedVariables false
set_option linter.unusedSimpArgs false
attribute [local go_sem] Oper.semAt_some
/-- all blocks but one stay -/
structure Kept (x B : Nat) (w w' : World) : Prop where
  size : w.heap.size ≤ w'.heap.size
  block : ∀ k, k < B → k ≠ x → w'.heap[k]? = w.heap[k]?
theorem Kept.trans {x B : Nat} {w v u : World} (h : Kept x B w v) (k : Kept x B v u) : Kept x B w u := ⟨Nat.le_trans h.size k.size, fun j hj hn => (k.block j hj hn).trans (h.block j hj hn)⟩
theorem Kept.of_below {x B : Nat} {w w' : World} (h : Below B w w') : Kept x B w w' := ⟨h.size, fun k hk _ => h.block k hk⟩
theorem Kept.refl (x B : Nat) (w : World) : Kept x B w w := ⟨Nat.le_refl _, fun _ _ _ => rfl⟩
end Go.Proofs.YtppagdmlfgialaaGreatDoor

namespace Go.Proofs.YtppagdmlfgialaaGreatDoor
open Go Go.RowKit
set_option linter.unusedVariables false
set_option linter.unusedSimpArgs false
/-- a slice of deeds, handed in -/
def IsDeeds (w : World) (a : Option Addr) (N : Nat) (K A Z : Nat → Int) : Prop :=
  ∀ i, i < N → ∃ b o, a = some ⟨b, o, none⟩ ∧ b < w.heap.size ∧ w.cell? ⟨b, o + i * 3, none⟩ = some (.int .i64 (K i)) ∧ w.cell? ⟨b, o + i * 3 + 1, none⟩ = some (.int .i64 (A i)) ∧ w.cell? ⟨b, o + i * 3 + 2, none⟩ = some (.int .i64 (Z i)) ∧ (-9223372036854775808 ≤ A i ∧ A i ≤ 9223372036854775807) ∧ (-9223372036854775808 ≤ Z i ∧ Z i ≤ 9223372036854775807)
theorem IsDeeds.below {w w' : World} {a : Option Addr} {N : Nat} {K A Z : Nat → Int} (h : IsDeeds w a N K A Z) (hb : Below w.heap.size w w') : IsDeeds w' a N K A Z := fun i hi => by
  obtain ⟨b, o, e, h1, h2, h3, h4, h5⟩ := h i hi
  have hblk := hb.block b h1
  refine ⟨b, o, e, Nat.lt_of_lt_of_le h1 hb.size, ?_, ?_, ?_, h5⟩
  · rw [← h2]; simp [World.cell?, hblk]
  · rw [← h3]; simp [World.cell?, hblk]
  · rw [← h4]; simp [World.cell?, hblk]
/-- a map and the list of what it must say -/
structure MK (w : World) (B g n b c k : Nat) (W : Nat → Nat) : Prop where
  m : BM w B g n b c W
  a : BA w B k n n (bitF W)
section
variable {w w' : World} {B g n b c k : Nat} {W : Nat → Nat}
theorem MK.dN (h : MK w B g n b c k W) (m : Nat) : MK (w.drewN m) B g n b c k W := ⟨h.m.dN m, h.a.dN m⟩
theorem MK.below (h : MK w B g n b c k W) (hb : Below w.heap.size w w') : MK w' B g n b c k W := ⟨h.m.below hb, h.a.below hb⟩
/-- behind a Set: the list's bool laid, too -/
theorem MK.put (hA : BA w B k n n (bitF W)) {p : Nat} {x : Bool} {V : Nat → Nat} (hM : BM w B g n b c V) (he : ∀ q, bitF V q = if q = p then x else bitF W q) : MK (w.setCell ⟨k, p, none⟩ (.bool x)) B g n b c k V := by
  have h1 := hA.ne hM
  refine ⟨hM.only (Only.set w k p (.bool x)) h1.1 h1.2, ?_⟩
  exact (hA.put p x).congr fun i hi => (he i).symm
theorem put_if (W : Nat → Nat) (p q : Nat) : bitF (putW W p) q = if q = p then true else bitF W q := by
  rw [bitF_put]; by_cases h : q = p <;> simp [h]
end
end Go.Proofs.YtppagdmlfgialaaGreatDoor

namespace Go.Proofs.YtppagdmlfgialaaGreatDoor
open Go Go.RowKit
set_option linter.unusedVariables false
set_option linter.unusedSimpArgs false
/-- a slice of integers, handed in -/
def IsPlaces (w : World) (a : Option Addr) (N : Nat) (A : Nat → Int) : Prop :=
  ∀ i, i < N → ∃ b o, a = some ⟨b, o, none⟩ ∧ b < w.heap.size ∧ w.cell? ⟨b, o + i, none⟩ = some (.int .i64 (A i))
theorem IsPlaces.below {w w' : World} {a : Option Addr} {N : Nat} {A : Nat → Int} (h : IsPlaces w a N A) (hb : Below w.heap.size w w') : IsPlaces w' a N A := fun i hi => by
  obtain ⟨b, o, e, h1, h2⟩ := h i hi
  have hblk := hb.block b h1
  refine ⟨b, o, e, Nat.lt_of_lt_of_le h1 hb.size, ?_⟩
  rw [← h2]; simp [World.cell?, hblk]
/-- whether a place is among the first of them -/
def onF (A : Nat → Int) : Nat → Nat → Bool
  | 0, _ => false
  | k + 1, q => if (q : Int) = A k then true else onF A k q
def AllIn (A : Nat → Int) (n k : Nat) : Prop := ∀ i, i < k → 0 ≤ A i ∧ A i < (n : Int)
theorem AllIn.succ {A : Nat → Int} {n k : Nat} (h : AllIn A n k) (hk : 0 ≤ A k ∧ A k < (n : Int)) : AllIn A n (k + 1) := fun i hi => by
  by_cases e : i = k
  · rw [e]; exact hk
  · exact h i (by omega)
theorem on_put {A : Nat → Int} {k p : Nat} (hp : A k = (p : Int)) (W : Nat → Nat) (h : ∀ q, bitF W q = onF A k q) (q : Nat) : bitF (putW W p) q = onF A (k + 1) q := by
  rw [put_if, h]
  show _ = if (q : Int) = A k then true else onF A k q
  rw [hp]
  by_cases e : q = p
  · simp [e]
  · rw [if_neg e, if_neg (by omega)]
section
variable {n : Nat}
def OnM (w : World) (B g n : Nat) (A : Nat → Int) (k : Nat) : Prop := ∃ b c W, BM w B g n b c W ∧ ∀ q, bitF W q = onF A k q
set_option maxHeartbeats 4000000 in
theorem of_ok (h1 : 1 ≤ n) (h2 : n ≤ 8192) (a : Option Addr) (N cc : Nat) (hN : N ≤ 9223372036854775807) (A : Nat → Int) (hall : AllIn A n N) (w : World) (hD : IsPlaces w a N A) : Calls Tryz.prog 219 #[.int .i64 (n : Int), .slice a N cc] w fun e w' => ∃ g, e = .returned (.tuple #[.pointer (some ⟨g, 0, none⟩), .int .i64 0]) ∧ OnM w' w.heap.size g n A N ∧ Below w.heap.size w w' := by
  have HN := newM_ok n h1 h2 w
  have HALL : Hid (AllIn A n N) := hall
  have HD : Hid (∀ V : World, Below w.heap.size w V → IsPlaces V a N A) := fun V hV => hD.below hV
  clear hD
  go_enter Tryz.func219, Tryz.ntmps219
  go_wp2_with fail
  refine HN.mono ?_
  rintro e w1 ⟨g, b0, c0, rfl, hM0, hb0⟩
  go_wp2_with fail
  go_loopw [20] (fun t wr => ∃ j : Nat, j ≤ N ∧ t = .int .i64 (j : Int) ∧ AllIn A n j ∧ OnM wr w.heap.size g n A j ∧ Below w.heap.size w wr) (fun t _ => N - (intOf t).toNat)
  case atStart => exact ⟨0, by omega, rfl, fun i hi => by omega, ⟨_, _, _, hM0, fun q => bitF_zero q⟩, hb0⟩
  case round =>
    clear hM0 hb0 HN
    obtain ⟨j, hj, rfl, hal, ⟨b, c, W, hM, hbits⟩, hb⟩ := hrel
    by_cases hlt : j < N
    · obtain ⟨ab, ao, rfl, hab, cw⟩ := HD.out wr hb j hlt
      have j0 : (0 : Int) ≤ (j : Int) := by omega
      have j1 : (j : Int) < (N : Int) := by omega
      by_cases hin : 0 ≤ A j ∧ A j < (n : Int)
      · obtain ⟨p, hp⟩ := Int.eq_ofNat_of_zero_le hin.1
        rw [hp] at cw hin
        have hpn : p < n := by omega
        have HI := inside_yes wr hM p hpn
        have HS := set_in wr hM p hpn
        have HON : Hid (∀ q, bitF (putW W p) q = onF A (j + 1) q) := fun q => on_put hp W hbits q
        have HAL : Hid (AllIn A n (j + 1)) := hal.succ (by rw [hp]; exact hin)
        have HB : Hid (∀ V, Only b wr V → Below w.heap.size w V) := fun V ho => hb.trans (ho.below hb.size hM.blt.1)
        have HJ : Hid (j < N ∧ N ≤ 9223372036854775807) := ⟨hlt, hN⟩
        clear hM hbits hal hb hin hp
        go_wp2_with fail
        refine HI.mono ?_
        intro e2 w2 hw2
        obtain ⟨he2, hw2⟩ := hw2
        subst he2
        subst hw2
        go_wp2_with fail
        refine HS.mono ?_
        rintro e3 w3 ⟨rfl, hM3, ho3⟩
        have hb3 := HB.out w3 ho3
        go_wp2_with fail
        go_roundw
        case rel => exact ⟨j + 1, HJ.out.1, by first | rfl | go_num | simp, HAL.out, ⟨b, c, _, hM3, HON.out⟩, hb3⟩
        case measure => simp [intOf]; have := HJ.out; omega
      · exact absurd (HALL.out j hlt) hin
    · obtain rfl : j = N := by omega
      have j1 : ¬ ((j : Int) < (j : Int)) := by omega
      have HO : Hid (OnM wr w.heap.size g n A j) := ⟨b, c, W, hM, hbits⟩
      clear hM hbits
      go_wp2_with fail
      go_ret2
      exact ⟨g, rfl, HO.out, hb⟩
theorem OnM.below {w w' : World} {B g n : Nat} {A : Nat → Int} {k : Nat} (h : OnM w B g n A k) (hb : Below w.heap.size w w') : OnM w' B g n A k := by
  obtain ⟨b, c, W, hM, hq⟩ := h
  exact ⟨b, c, W, hM.below hb, hq⟩
end
end Go.Proofs.YtppagdmlfgialaaGreatDoor

namespace Go.Proofs.YtppagdmlfgialaaGreatDoor
open Go Go.RowKit Go.Shelf
set_option linter.unusedVariables false
set_option linter.unusedSimpArgs false
/-- whether a block has a state -/
def qinF (F G : Nat → Bool) (n : Nat) (s : Int) (p : Nat) : Bool := decide (p < n) && decide ((stAt F G n p : Int) = s)
/-- what in answers -/
def InMap (w' : World) (B n : Nat) (I : Nat → Bool) (mv : Value) : Prop := (mv = .pointer none ∧ ∀ p, I p = false) ∨ ∃ (g b c : Nat) (V : Nat → Nat), mv = .pointer (some ⟨g, 0, none⟩) ∧ BM w' B g n b c V ∧ ∀ p, bitF V p = I p
section
variable {w w' : World} {P : Nat → Prop} {r n gu bu cu gn bn cn : Nat} {U X : Nat → Nat} {F G : Nat → Bool}
theorem inF_zero (hn : 1 ≤ n) (p : Nat) : qinF F G n 0 p = decide (p = 0) := by
  unfold qinF stAt stN
  by_cases h : p = 0
  · subst h
    rw [if_pos (.inl rfl)]
    simp
    omega
  · by_cases h2 : n ≤ p
    · simp [h]
      omega
    · rw [if_neg (by omega)]
      cases F p <;> cases G p <;> simp [h]
theorem inF_pos (s : Int) (hs : 1 ≤ s) (hF0 : ∀ p, n ≤ p → F p = false) (hG0 : ∀ p, n ≤ p → G p = false) (p : Nat) : qinF F G n s p = (decide (1 ≤ p) && decide (p < n) && decide ((stN F G p : Int) = s)) := by
  unfold qinF stAt
  by_cases h : p = 0
  · subst h
    rw [if_pos (.inl rfl)]
    simp
    omega
  · by_cases h2 : n ≤ p
    · rw [if_pos (.inr h2)]
      have : ¬ p < n := by omega
      simp [this]
    · rw [if_neg (by omega)]
      have : 1 ≤ p := by omega
      simp [this]
theorem inF_not (s : Int) (hs : s < 0 ∨ 4 < s) (p : Nat) : qinF F G n s p = false := by
  unfold qinF stAt stN
  split
  · simp
    omega
  · cases F p <;> cases G p <;> simp <;> omega
set_option maxHeartbeats 4000000 in
theorem rnumbers_any (h : RM w P r n gu bu cu gn bn cn U X) : Calls Tryz.prog 220 #[.pointer (some ⟨r, 0, none⟩)] w fun e w' => ∃ g b c V, e = .returned (.pointer (some ⟨g, 0, none⟩)) ∧ BM w' w.heap.size g n b c V ∧ (∀ p, bitF V p = (decide (1 ≤ p) && decide (p < n))) ∧ Below w.heap.size w w' := by
  have HB := rblocks_any h
  have hn := h.n16
  have hn2 := h.x.n2
  have HN : Hid (∀ m, Calls Tryz.prog 55 #[.int .i64 (n : Int)] (w.drewN m) fun e w' => ∃ g b c, e = .returned (.tuple #[.pointer (some ⟨g, 0, none⟩), .int .i64 0]) ∧ BM w' w.heap.size g n b c (fun _ => 0) ∧ Below w.heap.size w w') := fun m => by
    refine (newM_ok n (by omega) hn2 (w.drewN m)).mono ?_
    rintro e w' ⟨g, b, c, rfl, hM, hb⟩
    exact ⟨g, b, c, rfl, hM, ⟨hb.os, hb.tape, hb.output, hb.size, hb.block⟩⟩
  have HB2 : Hid (∀ V, Below w.heap.size w V → Calls Tryz.prog 109 #[.pointer (some ⟨r, 0, none⟩)] V fun e w' => e = .returned (.int .i64 (n : Int)) ∧ ∃ m, w' = V.drewN m) := fun V hV => rblocks_any (h.below hV)
  clear h
  go_enter Tryz.func220, Tryz.ntmps220
  go_wp2_with fail
  refine HB.mono ?_
  rintro e w1 ⟨rfl, m1, rfl⟩
  go_wp2_with fail
  refine (HN.out m1).mono ?_
  rintro e w2 ⟨g, b, c, rfl, hM2, hb2⟩
  have HB3 := HB2.out w2 hb2
  have HM2 : Hid (BM w2 w.heap.size g n b c (fun _ => 0)) := hM2
  clear hM2 HB HN HB2
  go_wp2_with fail
  refine HB3.mono ?_
  rintro e w3 ⟨rfl, m3, rfl⟩
  have HFI := fill_ok _ (HM2.out.dN m3) 1 n (by omega) (Nat.le_refl _)
  have hb3 : Below w.heap.size w (w2.drewN m3) := below_dN hb2 m3
  have HFI2 : Hid (Calls Tryz.prog 272 #[.pointer (some ⟨g, 0, none⟩), .int .i64 1, .int .i64 (n : Int)] (w2.drewN m3) fun e w' => e = .returned (.int .i64 0) ∧ ∃ V, BM w' w.heap.size g n b c V ∧ (∀ p, bitF V p = (decide (1 ≤ p) && decide (p < n))) ∧ Below w.heap.size w w') := by
    refine HFI.mono ?_
    rintro e w' ⟨rfl, V, hM, hV, hO⟩
    refine ⟨rfl, V, hM, fun p => ?_, hb3.trans (hO.below hb3.size hM.blt.1)⟩
    rw [hV]
    unfold filF
    rw [bitF_zero, Bool.or_false]
  clear HB3 HM2 HFI hb2 hb3
  go_wp2_with fail
  refine HFI2.out.mono ?_
  rintro e w4 ⟨rfl, V, hM4, hV4, hb4⟩
  go_wp2_with fail
  go_ret
  exact ⟨g, b, c, V, rfl, hM4, hV4, hb4⟩
set_option maxHeartbeats 4000000 in
theorem rin_2 (h : RoomIs w P r n F G) : Calls Tryz.prog 161 #[.pointer (some ⟨r, 0, none⟩), .int .i64 2] w fun e w' => ∃ mv, e = .returned mv ∧ InMap w' w.heap.size n (qinF F G n 2) mv ∧ Below w.heap.size w w' := by
  obtain ⟨gu, bu, cu, gn, bn, cn, U, X, hR, hF, hG⟩ := h
  have HM := rmaps_any hR
  have hF0 : ∀ p, n ≤ p → F p = false := fun p hp => by rw [← hF]; exact hR.u.tail p hp
  have hG0 : ∀ p, n ≤ p → G p = false := fun p hp => by rw [← hG]; exact hR.x.tail p hp
  have hz : F 0 = false ∧ G 0 = false := ⟨by rw [← hF]; exact hR.z.1, by rw [← hG]; exact hR.z.2⟩
  have HZ : Hid (F 0 = false ∧ G 0 = false) := hz
  have HF0 : Hid ((∀ p, n ≤ p → F p = false) ∧ (∀ p, n ≤ p → G p = false) ∧ (∀ p, bitF U p = F p) ∧ (∀ p, bitF X p = G p)) := ⟨hF0, hG0, hF, hG⟩
  have HW : Hid (∀ m, Calls Tryz.prog 222 #[.pointer (some ⟨gu, 0, none⟩), .pointer (some ⟨gn, 0, none⟩)] (w.drewN m) fun e w' => ∃ g2, e = .returned (.tuple #[.pointer (some ⟨g2, 0, none⟩), .int .i64 0]) ∧ Made (w.drewN m) w' g2 n fun p => bitF U p && bitF X p) := fun m => cross_like _ (hR.u.dN m) (hR.x.dN m)
  clear hR hF hG hF0 hG0 hz
  go_enter Tryz.func161, Tryz.ntmps161
  go_wp2_with fail
  refine HM.mono ?_
  rintro e w1 ⟨rfl, m1, rfl⟩
  go_wp2_with fail
  refine (HW.out m1).mono ?_
  rintro e w2 ⟨g2, rfl, ⟨b2, c2, V, hV, hVb⟩, hb2⟩
  have HH : Hid (_ ∧ _) := ⟨hV, hVb⟩
  clear hV hVb
  go_wp2_with fail
  go_ret
  obtain ⟨hV, hVb⟩ := HH.out
  refine ⟨_, rfl, .inr ⟨g2, b2, c2, V, rfl, hV, fun p => ?_⟩, ⟨hb2.os, hb2.tape, hb2.output, hb2.size, hb2.block⟩⟩
  obtain ⟨f0, g0, hF, hG⟩ := HF0.out
  rw [hVb, inF_pos 2 (by decide) f0 g0, hF, hG]
  unfold stN
  by_cases h1 : p = 0
  · subst h1
    rw [HZ.out.1, HZ.out.2]
    simp
  · have h1' : 1 ≤ p := by omega
    by_cases h2 : p < n
    · cases F p <;> cases G p <;> simp [h1', h2]
    · rw [f0 p (by omega), g0 p (by omega)]
      simp
set_option maxHeartbeats 4000000 in
theorem rin_3 (h : RoomIs w P r n F G) : Calls Tryz.prog 161 #[.pointer (some ⟨r, 0, none⟩), .int .i64 3] w fun e w' => ∃ mv, e = .returned mv ∧ InMap w' w.heap.size n (qinF F G n 3) mv ∧ Below w.heap.size w w' := by
  obtain ⟨gu, bu, cu, gn, bn, cn, U, X, hR, hF, hG⟩ := h
  have HM := rmaps_any hR
  have hF0 : ∀ p, n ≤ p → F p = false := fun p hp => by rw [← hF]; exact hR.u.tail p hp
  have hG0 : ∀ p, n ≤ p → G p = false := fun p hp => by rw [← hG]; exact hR.x.tail p hp
  have hz : F 0 = false ∧ G 0 = false := ⟨by rw [← hF]; exact hR.z.1, by rw [← hG]; exact hR.z.2⟩
  have HZ : Hid (F 0 = false ∧ G 0 = false) := hz
  have HF0 : Hid ((∀ p, n ≤ p → F p = false) ∧ (∀ p, n ≤ p → G p = false) ∧ (∀ p, bitF U p = F p) ∧ (∀ p, bitF X p = G p)) := ⟨hF0, hG0, hF, hG⟩
  have HW : Hid (∀ m, Calls Tryz.prog 221 #[.pointer (some ⟨gn, 0, none⟩), .pointer (some ⟨gu, 0, none⟩)] (w.drewN m) fun e w' => ∃ g2, e = .returned (.tuple #[.pointer (some ⟨g2, 0, none⟩), .int .i64 0]) ∧ Made (w.drewN m) w' g2 n fun p => bitF X p && !bitF U p) := fun m => less_like _ (hR.x.dN m) (hR.u.dN m)
  clear hR hF hG hF0 hG0 hz
  go_enter Tryz.func161, Tryz.ntmps161
  go_wp2_with fail
  refine HM.mono ?_
  rintro e w1 ⟨rfl, m1, rfl⟩
  go_wp2_with fail
  refine (HW.out m1).mono ?_
  rintro e w2 ⟨g2, rfl, ⟨b2, c2, V, hV, hVb⟩, hb2⟩
  have HH : Hid (_ ∧ _) := ⟨hV, hVb⟩
  clear hV hVb
  go_wp2_with fail
  go_ret
  obtain ⟨hV, hVb⟩ := HH.out
  refine ⟨_, rfl, .inr ⟨g2, b2, c2, V, rfl, hV, fun p => ?_⟩, ⟨hb2.os, hb2.tape, hb2.output, hb2.size, hb2.block⟩⟩
  obtain ⟨f0, g0, hF, hG⟩ := HF0.out
  rw [hVb, inF_pos 3 (by decide) f0 g0, hF, hG]
  unfold stN
  by_cases h1 : p = 0
  · subst h1
    rw [HZ.out.1, HZ.out.2]
    simp
  · have h1' : 1 ≤ p := by omega
    by_cases h2 : p < n
    · cases F p <;> cases G p <;> simp [h1', h2]
    · rw [f0 p (by omega), g0 p (by omega)]
      simp
set_option maxHeartbeats 4000000 in
theorem rin_4 (h : RoomIs w P r n F G) : Calls Tryz.prog 161 #[.pointer (some ⟨r, 0, none⟩), .int .i64 4] w fun e w' => ∃ mv, e = .returned mv ∧ InMap w' w.heap.size n (qinF F G n 4) mv ∧ Below w.heap.size w w' := by
  obtain ⟨gu, bu, cu, gn, bn, cn, U, X, hR, hF, hG⟩ := h
  have HM := rmaps_any hR
  have hF0 : ∀ p, n ≤ p → F p = false := fun p hp => by rw [← hF]; exact hR.u.tail p hp
  have hG0 : ∀ p, n ≤ p → G p = false := fun p hp => by rw [← hG]; exact hR.x.tail p hp
  have hz : F 0 = false ∧ G 0 = false := ⟨by rw [← hF]; exact hR.z.1, by rw [← hG]; exact hR.z.2⟩
  have HZ : Hid (F 0 = false ∧ G 0 = false) := hz
  have HF0 : Hid ((∀ p, n ≤ p → F p = false) ∧ (∀ p, n ≤ p → G p = false) ∧ (∀ p, bitF U p = F p) ∧ (∀ p, bitF X p = G p)) := ⟨hF0, hG0, hF, hG⟩
  have HW : Hid (∀ m, Calls Tryz.prog 221 #[.pointer (some ⟨gu, 0, none⟩), .pointer (some ⟨gn, 0, none⟩)] (w.drewN m) fun e w' => ∃ g2, e = .returned (.tuple #[.pointer (some ⟨g2, 0, none⟩), .int .i64 0]) ∧ Made (w.drewN m) w' g2 n fun p => bitF U p && !bitF X p) := fun m => less_like _ (hR.u.dN m) (hR.x.dN m)
  clear hR hF hG hF0 hG0 hz
  go_enter Tryz.func161, Tryz.ntmps161
  go_wp2_with fail
  refine HM.mono ?_
  rintro e w1 ⟨rfl, m1, rfl⟩
  go_wp2_with fail
  refine (HW.out m1).mono ?_
  rintro e w2 ⟨g2, rfl, ⟨b2, c2, V, hV, hVb⟩, hb2⟩
  have HH : Hid (_ ∧ _) := ⟨hV, hVb⟩
  clear hV hVb
  go_wp2_with fail
  go_ret
  obtain ⟨hV, hVb⟩ := HH.out
  refine ⟨_, rfl, .inr ⟨g2, b2, c2, V, rfl, hV, fun p => ?_⟩, ⟨hb2.os, hb2.tape, hb2.output, hb2.size, hb2.block⟩⟩
  obtain ⟨f0, g0, hF, hG⟩ := HF0.out
  rw [hVb, inF_pos 4 (by decide) f0 g0, hF, hG]
  unfold stN
  by_cases h1 : p = 0
  · subst h1
    rw [HZ.out.1, HZ.out.2]
    simp
  · have h1' : 1 ≤ p := by omega
    by_cases h2 : p < n
    · cases F p <;> cases G p <;> simp [h1', h2]
    · rw [f0 p (by omega), g0 p (by omega)]
      simp
set_option maxHeartbeats 4000000 in
theorem rin_1 (h : RoomIs w P r n F G) : Calls Tryz.prog 161 #[.pointer (some ⟨r, 0, none⟩), .int .i64 1] w fun e w' => ∃ mv, e = .returned mv ∧ InMap w' w.heap.size n (qinF F G n 1) mv ∧ Below w.heap.size w w' := by
  obtain ⟨gu, bu, cu, gn, bn, cn, U, X, hR, hF, hG⟩ := h
  have HM := rmaps_any hR
  have hF0 : ∀ p, n ≤ p → F p = false := fun p hp => by rw [← hF]; exact hR.u.tail p hp
  have hG0 : ∀ p, n ≤ p → G p = false := fun p hp => by rw [← hG]; exact hR.x.tail p hp
  have hz : F 0 = false ∧ G 0 = false := ⟨by rw [← hF]; exact hR.z.1, by rw [← hG]; exact hR.z.2⟩
  have HZ : Hid (F 0 = false ∧ G 0 = false) := hz
  have HF0 : Hid ((∀ p, n ≤ p → F p = false) ∧ (∀ p, n ≤ p → G p = false) ∧ (∀ p, bitF U p = F p) ∧ (∀ p, bitF X p = G p)) := ⟨hF0, hG0, hF, hG⟩
  have HW : Hid (∀ m, Calls Tryz.prog 174 #[.pointer (some ⟨gu, 0, none⟩), .pointer (some ⟨gn, 0, none⟩)] (w.drewN m) fun e w' => ∃ g2, e = .returned (.tuple #[.pointer (some ⟨g2, 0, none⟩), .int .i64 0]) ∧ Made (w.drewN m) w' g2 n fun p => bitF U p || bitF X p) := fun m => either_like _ (hR.u.dN m) (hR.x.dN m)
  have HN : Hid (∀ V, Below w.heap.size w V → Calls Tryz.prog 220 #[.pointer (some ⟨r, 0, none⟩)] V fun e w' => ∃ g b c W, e = .returned (.pointer (some ⟨g, 0, none⟩)) ∧ BM w' V.heap.size g n b c W ∧ (∀ p, bitF W p = (decide (1 ≤ p) && decide (p < n))) ∧ Below V.heap.size V w') := fun V hV => rnumbers_any (hR.below hV)
  clear hR hF hG hF0 hG0 hz
  go_enter Tryz.func161, Tryz.ntmps161
  go_wp2_with fail
  refine HM.mono ?_
  rintro e w1 ⟨rfl, m1, rfl⟩
  go_wp2_with fail
  refine (HW.out m1).mono ?_
  rintro e w2 ⟨g2, rfl, ⟨b2, c2, V, hV, hVb⟩, hb2'⟩
  have hb2 : Below w.heap.size w w2 := ⟨hb2'.os, hb2'.tape, hb2'.output, hb2'.size, hb2'.block⟩
  have HV : Hid (_ ∧ _) := ⟨hV, hVb⟩
  have HN2 := HN.out w2 hb2
  clear hV hVb hb2' HW HM HN
  go_wp2_with fail
  refine HN2.mono ?_
  rintro e w3 ⟨g3, b3, c3, V3, rfl, hM3, hV3, hb3⟩
  have HL := less_like w3 hM3 (HV.out.1.below hb3)
  have HV3 : Hid (∀ p, bitF V3 p = (decide (1 ≤ p) && decide (p < n))) := hV3
  have hbw3 : Below w.heap.size w w3 := hb2.trans (hb3.mono hb2.size)
  clear hM3 hV3 HN2 hb2 hb3
  go_wp2_with fail
  refine HL.mono ?_
  rintro e w4 ⟨g4, rfl, ⟨b4, c4, V4, hM4, hV4⟩, hb4⟩
  have HH : Hid (_ ∧ _) := ⟨hM4, hV4⟩
  have hbw4 : Below w.heap.size w w4 := hbw3.trans (hb4.mono hbw3.size)
  have hs3 := hbw3.size
  clear hM4 hV4 HL hb4 hbw3
  go_wp2_with fail
  go_ret
  obtain ⟨hM4, hV4⟩ := HH.out
  refine ⟨_, rfl, .inr ⟨g4, b4, c4, V4, rfl, hM4.mono hs3, fun p => ?_⟩, hbw4⟩
  obtain ⟨f0, g0, hF, hG⟩ := HF0.out
  have hVb := HV.out.2 p
  rw [hV4, HV3.out, hVb, inF_pos 1 (by decide) f0 g0]
  show (_ && !(bitF U p || bitF X p)) = _
  rw [hF, hG]
  unfold stN
  cases F p <;> cases G p <;> simp
set_option maxHeartbeats 4000000 in
theorem rin_0 (h : RoomIs w P r n F G) : Calls Tryz.prog 161 #[.pointer (some ⟨r, 0, none⟩), .int .i64 0] w fun e w' => ∃ mv, e = .returned mv ∧ InMap w' w.heap.size n (qinF F G n 0) mv ∧ Below w.heap.size w w' := by
  obtain ⟨gu, bu, cu, gn, bn, cn, U, X, hR, hF, hG⟩ := h
  have HM := rmaps_any hR
  have hF0 : ∀ p, n ≤ p → F p = false := fun p hp => by rw [← hF]; exact hR.u.tail p hp
  have hG0 : ∀ p, n ≤ p → G p = false := fun p hp => by rw [← hG]; exact hR.x.tail p hp
  have hz : F 0 = false ∧ G 0 = false := ⟨by rw [← hF]; exact hR.z.1, by rw [← hG]; exact hR.z.2⟩
  have HZ : Hid (F 0 = false ∧ G 0 = false) := hz
  have HF0 : Hid ((∀ p, n ≤ p → F p = false) ∧ (∀ p, n ≤ p → G p = false) ∧ (∀ p, bitF U p = F p) ∧ (∀ p, bitF X p = G p)) := ⟨hF0, hG0, hF, hG⟩
  have hn := hR.n16
  have hn2 := hR.x.n2
  have HB : Hid (∀ m, Calls Tryz.prog 109 #[.pointer (some ⟨r, 0, none⟩)] (w.drewN m) fun e w' => e = .returned (.int .i64 (n : Int)) ∧ ∃ m', w' = w.drewN m') := fun m => by
    refine (rblocks_any (hR.dN m)).mono ?_
    rintro e w' ⟨rfl, m', rfl⟩
    exact ⟨rfl, _, World.drewN_drewN ..⟩
  have HO : Hid (∀ m, Calls Tryz.prog 219 #[.int .i64 (n : Int), .slice (some ⟨w.heap.size, 0, none⟩) 1 1] ((w.drewN m).alloc (.cells #[.int .i64 0] 3)) fun e w' => ∃ g b c W, e = .returned (.tuple #[.pointer (some ⟨g, 0, none⟩), .int .i64 0]) ∧ BM w' w.heap.size g n b c W ∧ (∀ p, bitF W p = decide (p = 0)) ∧ Below w.heap.size w w') := fun m => by
    have hblk : Blk ((w.drewN m).alloc (.cells #[.int .i64 0] 3)) w.heap.size 3 #[.int .i64 0] := Blk.new _ _ _
    have hb1 : Below w.heap.size w ((w.drewN m).alloc (.cells #[.int .i64 0] 3)) := (below_dN (Below.refl _ _) m).alloc (Nat.le_refl _) _
    refine (of_ok (n := n) (by omega) hn2 (some ⟨w.heap.size, 0, none⟩) 1 1 (by decide) (fun _ => 0) (fun i hi => ⟨Int.le_refl 0, by show (0 : Int) < (n : Int); omega⟩) _ (fun i hi => ?_)).mono ?_
    · match i, hi with
      | 0, _ => exact ⟨w.heap.size, 0, rfl, hblk.lt, by rw [hblk.cell]; rfl⟩
    · rintro e w' ⟨g, rfl, ⟨b, c, W, hM, hW⟩, hb⟩
      refine ⟨g, b, c, W, rfl, hM.mono hb1.size, fun p => ?_, hb1.trans (hb.mono hb1.size)⟩
      rw [hW]
      show (if (p : Int) = 0 then true else false) = _
      by_cases h : p = 0
      · simp [h]
      · rw [if_neg (by omega)]
        simp [h]
  have HI : Hid (∀ p, qinF F G n 0 p = decide (p = 0)) := fun p => inF_zero (by omega) p
  clear hR hF hG hF0 hG0 hz
  go_enter Tryz.func161, Tryz.ntmps161
  go_wp2_with fail
  refine HM.mono ?_
  rintro e w1 ⟨rfl, m1, rfl⟩
  go_wp2_with fail
  refine (HB.out m1).mono ?_
  rintro e w2 ⟨rfl, m2, rfl⟩
  have HO2 := HO.out m2
  clear HO HB HM
  go_wp2_with fail
  refine HO2.mono ?_
  rintro e w3 ⟨g, b, c, W, rfl, hM3, hW3, hb3⟩
  have HH : Hid (_ ∧ _) := ⟨hM3, hW3⟩
  clear hM3 hW3 HO2
  go_wp2_with fail
  go_ret
  exact ⟨_, rfl, .inr ⟨g, b, c, W, rfl, HH.out.1, fun p => by rw [HI.out]; exact HH.out.2 p⟩, hb3⟩
set_option maxHeartbeats 4000000 in
theorem rin_not (h : RoomIs w P r n F G) (s : Int) (hs : s < 0 ∨ 4 < s) : Calls Tryz.prog 161 #[.pointer (some ⟨r, 0, none⟩), .int .i64 s] w fun e w' => ∃ mv, e = .returned mv ∧ InMap w' w.heap.size n (qinF F G n s) mv ∧ Below w.heap.size w w' := by
  obtain ⟨gu, bu, cu, gn, bn, cn, U, X, hR, hF, hG⟩ := h
  have HM := rmaps_any hR
  have n0 : ¬ s = 0 := by omega
  have n1 : ¬ s = 1 := by omega
  have n2 : ¬ s = 2 := by omega
  have n3 : ¬ s = 3 := by omega
  have n4 : ¬ s = 4 := by omega
  have HI : Hid (∀ p, qinF F G n s p = false) := fun p => inF_not s hs p
  clear hR hF hG hs
  go_enter Tryz.func161, Tryz.ntmps161
  go_wp2_with fail
  refine HM.mono ?_
  rintro e w1 ⟨rfl, m1, rfl⟩
  go_wp2_with fail
  go_ret
  exact ⟨_, rfl, .inl ⟨rfl, HI.out⟩, below_dN (Below.refl _ _) m1⟩
theorem rin_any (h : RoomIs w P r n F G) (s : Int) : Calls Tryz.prog 161 #[.pointer (some ⟨r, 0, none⟩), .int .i64 s] w fun e w' => ∃ mv, e = .returned mv ∧ InMap w' w.heap.size n (qinF F G n s) mv ∧ Below w.heap.size w w' := by
  by_cases hs : s < 0 ∨ 4 < s
  · exact rin_not h s hs
  · have : s = 0 ∨ s = 1 ∨ s = 2 ∨ s = 3 ∨ s = 4 := by omega
    rcases this with rfl | rfl | rfl | rfl | rfl
    · exact rin_0 h
    · exact rin_1 h
    · exact rin_2 h
    · exact rin_3 h
    · exact rin_4 h
theorem rcountR_any (h : RoomIs w P r n F G) (s : Int) : Calls Tryz.prog 110 #[.pointer (some ⟨r, 0, none⟩), .int .i64 s] w fun e w' => e = .returned (.int .i64 (cntF (qinF F G n s) n : Int)) ∧ Below w.heap.size w w' := by
  have HI := rin_any h s
  clear h
  go_enter Tryz.func110, Tryz.ntmps110
  go_wp2_with fail
  refine HI.mono ?_
  rintro e w1 ⟨mv, rfl, hM, hb⟩
  rcases hM with ⟨rfl, h0⟩ | ⟨g, b, c, V, rfl, hM, hV⟩
  · have hc : cntF (qinF F G n s) n = 0 := by
      exact cntF_none (qinF F G n s) n fun p _ => h0 p
    go_wp2_with fail
    refine (ncount _).mono ?_
    rintro e w2 ⟨rfl, rfl⟩
    go_wp2_with fail
    go_ret
    exact ⟨by rw [hc]; rfl, hb⟩
  · have HC := count_any w1 hM
    rw [cntF_congr (G := qinF F G n s) fun i _ => hV i] at HC
    clear hM hV
    go_wp2_with fail
    refine HC.mono ?_
    rintro e w2 ⟨rfl, rfl⟩
    go_wp2_with fail
    go_ret
    exact ⟨rfl, hb⟩
end
end Go.Proofs.YtppagdmlfgialaaGreatDoor

namespace Go.Proofs.YtppagdmlfgialaaGreatDoor
open Go Go.RowKit
set_option linter.unusedSimpArgs false
set_option linter.unusedVariables false
set_option maxHeartbeats 4000000 in
theorem sleast4 (n : Int) (h0 : -9223372036854775808 ≤ n) (hn : n ≤ 16384) (w : World) : Calls Tryz.prog 218 #[.int .i64 4, .int .i64 n] w fun e w' => e = .returned (.int .i64 (hL 4 n)) ∧ w' = w := by
  by_cases c0 : n ≤ 4
  · have HE : Hid (hL 4 n = 0) := by show hL 4 n = 0; unfold hL; rw [if_pos (by omega)]
    have s0 : ¬ ((4 : Int) < n) := by omega
    clear hn c0
    rw [HE.out]
    clear HE
    go_enter Tryz.func218, Tryz.ntmps218
    go_wp2
    go_rounds 1
    go_returns
    exact ⟨by simp, rfl⟩
  · skip
    by_cases c1 : n ≤ 16
    · have HE : Hid (hL 4 n = 1) := by show hL 4 n = 1; unfold hL; rw [if_neg (by omega)]; rw [if_pos (by omega)]
      have s0 : ¬ ((16 : Int) < n) := by omega
      have g0 : (4 : Int) < n := by omega
      clear hn c0 c1
      rw [HE.out]
      clear HE
      go_enter Tryz.func218, Tryz.ntmps218
      go_wp2
      go_rounds 2
      go_returns
      exact ⟨by simp, rfl⟩
    · skip
      by_cases c2 : n ≤ 64
      · have HE : Hid (hL 4 n = 2) := by show hL 4 n = 2; unfold hL; rw [if_neg (by omega)]; rw [if_neg (by omega)]; rw [if_pos (by omega)]
        have s0 : ¬ ((64 : Int) < n) := by omega
        have g0 : (4 : Int) < n := by omega
        have g1 : (16 : Int) < n := by omega
        clear hn c0 c1 c2
        rw [HE.out]
        clear HE
        go_enter Tryz.func218, Tryz.ntmps218
        go_wp2
        go_rounds 3
        go_returns
        exact ⟨by simp, rfl⟩
      · skip
        by_cases c3 : n ≤ 256
        · have HE : Hid (hL 4 n = 3) := by show hL 4 n = 3; unfold hL; rw [if_neg (by omega)]; rw [if_neg (by omega)]; rw [if_neg (by omega)]; rw [if_pos (by omega)]
          have s0 : ¬ ((256 : Int) < n) := by omega
          have g0 : (4 : Int) < n := by omega
          have g1 : (16 : Int) < n := by omega
          have g2 : (64 : Int) < n := by omega
          clear hn c0 c1 c2 c3
          rw [HE.out]
          clear HE
          go_enter Tryz.func218, Tryz.ntmps218
          go_wp2
          go_rounds 4
          go_returns
          exact ⟨by simp, rfl⟩
        · skip
          by_cases c4 : n ≤ 1024
          · have HE : Hid (hL 4 n = 4) := by show hL 4 n = 4; unfold hL; rw [if_neg (by omega)]; rw [if_neg (by omega)]; rw [if_neg (by omega)]; rw [if_neg (by omega)]; rw [if_pos (by omega)]
            have s0 : ¬ ((1024 : Int) < n) := by omega
            have g0 : (4 : Int) < n := by omega
            have g1 : (16 : Int) < n := by omega
            have g2 : (64 : Int) < n := by omega
            have g3 : (256 : Int) < n := by omega
            clear hn c0 c1 c2 c3 c4
            rw [HE.out]
            clear HE
            go_enter Tryz.func218, Tryz.ntmps218
            go_wp2
            go_rounds 5
            go_returns
            exact ⟨by simp, rfl⟩
          · skip
            by_cases c5 : n ≤ 4096
            · have HE : Hid (hL 4 n = 5) := by show hL 4 n = 5; unfold hL; rw [if_neg (by omega)]; rw [if_neg (by omega)]; rw [if_neg (by omega)]; rw [if_neg (by omega)]; rw [if_neg (by omega)]; rw [if_pos (by omega)]
              have s0 : ¬ ((4096 : Int) < n) := by omega
              have g0 : (4 : Int) < n := by omega
              have g1 : (16 : Int) < n := by omega
              have g2 : (64 : Int) < n := by omega
              have g3 : (256 : Int) < n := by omega
              have g4 : (1024 : Int) < n := by omega
              clear hn c0 c1 c2 c3 c4 c5
              rw [HE.out]
              clear HE
              go_enter Tryz.func218, Tryz.ntmps218
              go_wp2
              go_rounds 6
              go_returns
              exact ⟨by simp, rfl⟩
            · skip
              have HE : Hid (hL 4 n = 6) := by show hL 4 n = 6; unfold hL; rw [if_neg (by omega)]; rw [if_neg (by omega)]; rw [if_neg (by omega)]; rw [if_neg (by omega)]; rw [if_neg (by omega)]; rw [if_neg (by omega)]
              have s0 : ¬ ((16384 : Int) < n) := by omega
              have g0 : (4 : Int) < n := by omega
              have g1 : (16 : Int) < n := by omega
              have g2 : (64 : Int) < n := by omega
              have g3 : (256 : Int) < n := by omega
              have g4 : (1024 : Int) < n := by omega
              have g5 : (4096 : Int) < n := by omega
              clear hn c0 c1 c2 c3 c4 c5
              rw [HE.out]
              clear HE
              go_enter Tryz.func218, Tryz.ntmps218
              go_wp2
              go_rounds 7
              go_returns
              exact ⟨by simp, rfl⟩
set_option maxHeartbeats 4000000 in
theorem sleast1k (n : Int) (h0 : -9223372036854775808 ≤ n) (hn : n ≤ 4194304) (w : World) : Calls Tryz.prog 218 #[.int .i64 1024, .int .i64 n] w fun e w' => e = .returned (.int .i64 (hL 1024 n)) ∧ w' = w := by
  by_cases c0 : n ≤ 1024
  · have HE : Hid (hL 1024 n = 0) := by show hL 1024 n = 0; unfold hL; rw [if_pos (by omega)]
    have s0 : ¬ ((1024 : Int) < n) := by omega
    clear hn c0
    rw [HE.out]
    clear HE
    go_enter Tryz.func218, Tryz.ntmps218
    go_wp2
    go_rounds 1
    go_returns
    exact ⟨by simp, rfl⟩
  · skip
    by_cases c1 : n ≤ 4096
    · have HE : Hid (hL 1024 n = 1) := by show hL 1024 n = 1; unfold hL; rw [if_neg (by omega)]; rw [if_pos (by omega)]
      have s0 : ¬ ((4096 : Int) < n) := by omega
      have g0 : (1024 : Int) < n := by omega
      clear hn c0 c1
      rw [HE.out]
      clear HE
      go_enter Tryz.func218, Tryz.ntmps218
      go_wp2
      go_rounds 2
      go_returns
      exact ⟨by simp, rfl⟩
    · skip
      by_cases c2 : n ≤ 16384
      · have HE : Hid (hL 1024 n = 2) := by show hL 1024 n = 2; unfold hL; rw [if_neg (by omega)]; rw [if_neg (by omega)]; rw [if_pos (by omega)]
        have s0 : ¬ ((16384 : Int) < n) := by omega
        have g0 : (1024 : Int) < n := by omega
        have g1 : (4096 : Int) < n := by omega
        clear hn c0 c1 c2
        rw [HE.out]
        clear HE
        go_enter Tryz.func218, Tryz.ntmps218
        go_wp2
        go_rounds 3
        go_returns
        exact ⟨by simp, rfl⟩
      · skip
        by_cases c3 : n ≤ 65536
        · have HE : Hid (hL 1024 n = 3) := by show hL 1024 n = 3; unfold hL; rw [if_neg (by omega)]; rw [if_neg (by omega)]; rw [if_neg (by omega)]; rw [if_pos (by omega)]
          have s0 : ¬ ((65536 : Int) < n) := by omega
          have g0 : (1024 : Int) < n := by omega
          have g1 : (4096 : Int) < n := by omega
          have g2 : (16384 : Int) < n := by omega
          clear hn c0 c1 c2 c3
          rw [HE.out]
          clear HE
          go_enter Tryz.func218, Tryz.ntmps218
          go_wp2
          go_rounds 4
          go_returns
          exact ⟨by simp, rfl⟩
        · skip
          by_cases c4 : n ≤ 262144
          · have HE : Hid (hL 1024 n = 4) := by show hL 1024 n = 4; unfold hL; rw [if_neg (by omega)]; rw [if_neg (by omega)]; rw [if_neg (by omega)]; rw [if_neg (by omega)]; rw [if_pos (by omega)]
            have s0 : ¬ ((262144 : Int) < n) := by omega
            have g0 : (1024 : Int) < n := by omega
            have g1 : (4096 : Int) < n := by omega
            have g2 : (16384 : Int) < n := by omega
            have g3 : (65536 : Int) < n := by omega
            clear hn c0 c1 c2 c3 c4
            rw [HE.out]
            clear HE
            go_enter Tryz.func218, Tryz.ntmps218
            go_wp2
            go_rounds 5
            go_returns
            exact ⟨by simp, rfl⟩
          · skip
            by_cases c5 : n ≤ 1048576
            · have HE : Hid (hL 1024 n = 5) := by show hL 1024 n = 5; unfold hL; rw [if_neg (by omega)]; rw [if_neg (by omega)]; rw [if_neg (by omega)]; rw [if_neg (by omega)]; rw [if_neg (by omega)]; rw [if_pos (by omega)]
              have s0 : ¬ ((1048576 : Int) < n) := by omega
              have g0 : (1024 : Int) < n := by omega
              have g1 : (4096 : Int) < n := by omega
              have g2 : (16384 : Int) < n := by omega
              have g3 : (65536 : Int) < n := by omega
              have g4 : (262144 : Int) < n := by omega
              clear hn c0 c1 c2 c3 c4 c5
              rw [HE.out]
              clear HE
              go_enter Tryz.func218, Tryz.ntmps218
              go_wp2
              go_rounds 6
              go_returns
              exact ⟨by simp, rfl⟩
            · skip
              have HE : Hid (hL 1024 n = 6) := by show hL 1024 n = 6; unfold hL; rw [if_neg (by omega)]; rw [if_neg (by omega)]; rw [if_neg (by omega)]; rw [if_neg (by omega)]; rw [if_neg (by omega)]; rw [if_neg (by omega)]
              have s0 : ¬ ((4194304 : Int) < n) := by omega
              have g0 : (1024 : Int) < n := by omega
              have g1 : (4096 : Int) < n := by omega
              have g2 : (16384 : Int) < n := by omega
              have g3 : (65536 : Int) < n := by omega
              have g4 : (262144 : Int) < n := by omega
              have g5 : (1048576 : Int) < n := by omega
              clear hn c0 c1 c2 c3 c4 c5
              rw [HE.out]
              clear HE
              go_enter Tryz.func218, Tryz.ntmps218
              go_wp2
              go_rounds 7
              go_returns
              exact ⟨by simp, rfl⟩
theorem hL_1k (n : Int) (h0 : 0 ≤ n) : hL 1 ((n + 1023) / 1024) = hL 1024 n := by
  unfold hL
  by_cases c0 : n ≤ 1024
  · rw [if_pos c0, if_pos (by omega)]
  · rw [if_neg c0, if_neg (by omega)]
    by_cases c1 : n ≤ 4 * 1024
    · rw [if_pos c1, if_pos (by omega)]
    · rw [if_neg c1, if_neg (by omega)]
      by_cases c2 : n ≤ 16 * 1024
      · rw [if_pos c2, if_pos (by omega)]
      · rw [if_neg c2, if_neg (by omega)]
        by_cases c3 : n ≤ 64 * 1024
        · rw [if_pos c3, if_pos (by omega)]
        · rw [if_neg c3, if_neg (by omega)]
          by_cases c4 : n ≤ 256 * 1024
          · rw [if_pos c4, if_pos (by omega)]
          · rw [if_neg c4, if_neg (by omega)]
            by_cases c5 : n ≤ 1024 * 1024
            · rw [if_pos c5, if_pos (by omega)]
            · rw [if_neg c5, if_neg (by omega)]
end Go.Proofs.YtppagdmlfgialaaGreatDoor
