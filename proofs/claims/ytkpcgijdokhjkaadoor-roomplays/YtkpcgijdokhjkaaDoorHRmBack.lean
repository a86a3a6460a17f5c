/- What a room tells, loaded again. -/
import Derived.Test.YtkpcgijdokhjkaaDoorHRmLvs
import Derived.Handy
import Derived.Test.YtkpcgijdokhjkaaDoorHDigBytes
import Derived.Test.YtkpcgijdokhjkaaDoorRows
import Derived.WalkKit
import Derived.ProofKit
import Derived.OpenShut
import Derived.Carry
import Derived.Deep.Slices
import Derived.Lib.SmallJoins
import Derived.SizedLaws
import Derived.Test.YtkpcgijdokhjkaaDoorHRmNil
import Derived.Test.YtkpcgijdokhjkaaDoorHBiSeek
import Derived.Laws.AppendOwnNone

namespace Go.Proofs.YtkpcgijdokhjkaaDoor
open Go Go.RowKit
set_option linter.unusedVariables false
set_option linter.unusedSimpArgs false
section
variable {w : World} {P : Nat → Prop} {r n B k c : Nat} {F G : Nat → Bool} {f : Nat → Int}
set_option maxRecDepth 100000 in
set_option maxHeartbeats 8000000 in
theorem stands_any (hT : TabAt w) (h0 : 0 < w.heap.size) (h : RoomIs w P r n F G) (hS : SA w B k n c f) (hf : ∀ p, p < n → f p = tieS F G n p) (a : Option Addr) (M cc : Nat) (hM : M ≤ 9223372036854775807) (A : Nat → Nat) (hD : IsU32s w a M A) : Calls Tryd.prog 36 #[.pointer (some ⟨r, 0, none⟩), .slice (some ⟨k, 0, none⟩) n c, .slice a M cc] w fun e w' => e = .returned (.bool true) ∧ Below w.heap.size w w' := by
  obtain ⟨hn16, hn2, hF00, hG00, hF0, hG0⟩ := h.facts
  have HA : Hid (∀ X, Below w.heap.size w X → RoomIs X P r n F G ∧ SA X B k n c f ∧ TabAt X ∧ 0 < X.heap.size ∧ IsU32s X a M A) := fun X hX => ⟨h.below hX, hS.below hX, hT.below h0 hX, Nat.lt_of_lt_of_le h0 hX.size, hD.below hX⟩
  have HL : Hid (∀ s : Int, onesL (fun p => decide (f p = s)) n = onesL (inF F G n s) n) := fun s => ones_eq fun p hp => by rw [hf p hp]; exact tie_list s hp
  have HXL : Hid (∀ I : Nat → Bool, (onesL I n).length ≤ 8192) := fun I => by
    unfold onesL
    exact Nat.le_trans (List.length_filter_le _ _) (by rw [List.length_range]; exact hn2)
  have HK : Hid (∀ p, (decide (p < n) && keptB (f p)) = G p) := fun p => by
    by_cases hp : p < n
    · rw [hf p hp]
      have := tie_let (F := F) hp hG00
      unfold keptB
      cases hg : G p with
      | true =>
        rcases this.2 hg with e | e <;> simp [e, hp]
      | false =>
        have hq : ¬ (tieS F G n p = 2 ∨ tieS F G n p = 3) := fun q => by rw [this.1 q] at hg; cases hg
        have q2 : ¬ tieS F G n p = 2 := fun q => hq (.inl q)
        have q3 : ¬ tieS F G n p = 3 := fun q => hq (.inr q)
        simp [q2, q3]
    · rw [hG0 p (by omega)]
      simp [hp]
  have HST : Hid (∀ p, (if p < n then f p else 0) = (stAt F G n p : Int)) := fun p => by
    by_cases hp : p < n
    · rw [if_pos hp, hf p hp]
      rfl
    · have := tie_state (F := F) (G := G) (n := n) (p := p)
      rw [if_neg hp] at this ⊢
      exact this
  obtain ⟨gu, bu, cu, gn, bn, cn, U, X0, hR0, _, _⟩ := h
  have HBL := rblocks_any hR0
  clear hS hf hT hD hR0
  go_enter Tryd.func36, Tryd.ntmps36
  go_wp2_with fail
  refine HBL.mono ?_
  rintro e w1 ⟨rfl, m1, rfl⟩
  have hb1 : Below w.heap.size w (w.drewN m1) := below_dN (Below.refl _ _) m1
  generalize w.drewN m1 = w1 at *
  clear HBL
  go_wp2_with fail
  go_loopw [7] (fun t wr => Hid (∃ s : Int, -1 ≤ s ∧ s ≤ 6 ∧ t = .int .i64 s ∧ Below w.heap.size w wr)) (fun t _ => (6 - intOf t).toNat)
  case atStart => exact ⟨-1, by decide, by decide, rfl, hb1⟩
  case round =>
    clear hb1
    obtain ⟨s, hs1, hs2, rfl, hb⟩ := Hid.out hrel
    clear hrel
    by_cases hs5 : s ≤ 5
    · have HR1 := rrlist_any (HA.out wr hb).2.1 s
      rw [HL.out s] at HR1
      have HJ : Hid (-1 ≤ s ∧ s ≤ 5) := ⟨hs1, hs5⟩
      have HB : Hid (Below w.heap.size w wr) := hb
      clear hb
      go_wp2_with fail
      refine HR1.mono ?_
      rintro e w2 ⟨v1, rfl, ho1, hb2⟩
      have hbw2 := HB.out.trans (hb2.mono HB.out.size)
      have HR2 := rlist_any (HA.out w2 hbw2).2.2.1 (HA.out w2 hbw2).2.2.2.1 (HA.out w2 hbw2).1 s
      have HO1 : Hid (∀ X, Below w2.heap.size w2 X → X.ownsRow w.heap.size 22 1 v1 (onesL (inF F G n s) n).length (u32L (onesL (inF F G n s) n))) := fun X hX => kown_below (kown_mono ho1 HB.out.size) hX
      clear HR1 ho1 hb2
      go_wp2_with fail
      refine HR2.mono ?_
      rintro e w3 ⟨v2, rfl, ho2, _, hb3⟩
      have hbw3 := hbw2.trans (hb3.mono hbw2.size)
      have HC := rcountR_any (HA.out w3 hbw3).1 s
      rw [← ones_len] at HC
      have HO2 : Hid (∀ X, Below w3.heap.size w3 X → X.ownsRow w.heap.size 22 1 v1 (onesL (inF F G n s) n).length (u32L (onesL (inF F G n s) n)) ∧ X.ownsRow w.heap.size 22 1 v2 (onesL (inF F G n s) n).length (u32L (onesL (inF F G n s) n)) ∧ Below w.heap.size w X) := fun X hX => ⟨HO1.out X (hb3.trans (hX.mono hb3.size)), kown_below (kown_mono ho2 hbw2.size) hX, hbw3.trans (hX.mono hbw3.size)⟩
      have hll := HXL.out (inF F G n s)
      clear HR2 HO1 ho2 hb3 hbw2 hbw3
      obtain ⟨a1, p1, rfl⟩ := kown_slice (HO2.out w3 (Below.refl _ _)).1
      obtain ⟨a2, p2, rfl⟩ := kown_slice (HO2.out w3 (Below.refl _ _)).2.1
      go_wp2_with fail
      refine HC.mono ?_
      rintro e w4 ⟨rfl, hb4⟩
      obtain ⟨o1, o2, hbw4⟩ := HO2.out w4 hb4
      obtain ⟨a3, p3, e3, hI1⟩ := own_u32 o1
      obtain ⟨a4, p4, e4, hI2⟩ := own_u32 o2
      injection e3 with e31 e32 e33
      subst e31
      subst e33
      injection e4 with e41 e42 e43
      subst e41
      subst e43
      have HSM : Hid (Calls Tryd.prog 31 #[.slice a2 (onesL (inF F G n s) n).length p2, .slice a1 (onesL (inF F G n s) n).length p1] w4 fun e w' => e = .returned (.bool true) ∧ Below w4.heap.size w4 w') := by
        have := sameU_any _ p2 p1 (by omega) a2 a1 _ _ w4 hI2 hI1
        rw [decide_eq_true (fun i _ => rfl)] at this
        exact this
      have HO4 : Hid (w4.ownsRow w.heap.size 22 1 (.slice a2 (onesL (inF F G n s) n).length p2) (onesL (inF F G n s) n).length (u32L (onesL (inF F G n s) n)) ∧ Below w.heap.size w w4) := ⟨o2, hbw4⟩
      clear HC HO2 hb4 o1 o2 hbw4 hI1 hI2
      generalize onesL (inF F G n s) n = xs at *
      go_wp2_with fail
      refine HSM.out.mono ?_
      rintro e w5 ⟨rfl, hb5⟩
      have HO5 : Hid (w5.ownsRow w.heap.size 22 1 (.slice a2 xs.length p2) xs.length (u32L xs) ∧ Below w.heap.size w w5) := ⟨kown_below HO4.out.1 hb5, HO4.out.2.trans (hb5.mono HO4.out.2.size)⟩
      clear HSM HO4 hb5
      go_wp2_with fail
      go_loopw [44] (fun t wr => Hid (∃ (j : Nat) (ys : List Value), j ≤ xs.length ∧ t = .int .i64 (j : Int) ∧ wr.ownsRow w.heap.size 22 1 (.slice a2 xs.length p2) xs.length ys ∧ Below w.heap.size w wr)) (fun t _ => xs.length - (intOf t).toNat)
      case atStart => exact ⟨0, _, by omega, rfl, HO5.out.1, HO5.out.2⟩
      case round =>
        clear HO5
        obtain ⟨j, ys, hj, rfl, hown, hb⟩ := Hid.out hrel
        clear hrel
        by_cases hlt : j < xs.length
        · obtain ⟨gv, capv, hv, hg1, hg2⟩ := kown_form hown (by omega)
          injection hv with hv1 hv2 hv3
          subst hv1
          subst hv3
          have hyl : ys.length = xs.length * 1 := hown.1
          have c2 : wr.cell? ⟨gv, j, none⟩ = some (ys[j]'(by omega)) := by rw [hown.cellAt j (by omega), List.getElem?_eq_getElem (by omega)]
          have f2 := hown.frozenAt j
          have j0 : (0 : Int) ≤ (j : Int) := by omega
          have j1 : (j : Int) < (xs.length : Int) := by omega
          have HE : Hid (_ ∧ Below w.heap.size w (wr.setCell ⟨gv, j, none⟩ (.int .u32 0)) ∧ j < xs.length) := ⟨(hown.stored j (.int .u32 0)).1, hb.setCell (p := ⟨gv, j, none⟩) hg1 _, hlt⟩
          generalize (ys[j]'(by omega)) = yv at c2
          clear hown hb hg1 hg2 hyl
          go_wp2_with fail
          go_roundw
          case rel => exact ⟨j + 1, _, HE.out.2.2, by first | rfl | go_num | simp, HE.out.1, HE.out.2.1⟩
          case measure => simp [intOf]; have := HE.out.2.2; omega
        · have j1 : ¬ ((j : Int) < (xs.length : Int)) := by omega
          have HE : Hid (Below w.heap.size w wr) := hb
          clear hown hb
          go_wp2_with fail
          go_roundw
          case rel => exact ⟨s + 1, by have := HJ.out; omega, by have := HJ.out; omega, by first | rfl | go_num | simp, HE.out⟩
          case measure => simp [intOf]; have := HJ.out; omega
    · obtain rfl : s = 6 := by omega
      have HB : Hid (Below w.heap.size w wr) := hb
      clear hb hs1 hs2 hs5 HL HXL
      go_wp2_with fail
      go_loopw [53] (fun t wr => Hid (∃ j : Nat, j ≤ M ∧ t = .int .i64 (j : Int) ∧ Below w.heap.size w wr)) (fun t _ => M - (intOf t).toNat)
      case atStart => exact ⟨0, by omega, rfl, HB.out⟩
      case round =>
        clear HB
        obtain ⟨j, hj, rfl, hb⟩ := Hid.out hrel
        clear hrel
        by_cases hlt : j < M
        · obtain ⟨u1, b1, o1, rfl, l1, r1⟩ := (HA.out wr hb).2.2.2.2 j hlt
          have k0 : (0 : Int) ≤ (j : Int) := by omega
          have k1 : (j : Int) < (M : Int) := by omega
          have HR := rstate_any (HA.out wr hb).1 (A j) u1
          have HRR : Hid (∀ m, Calls Tryd.prog 60 #[.slice (some ⟨k, 0, none⟩) n c, .int .u32 (A j : Int)] (wr.drewN m) fun e w' => e = .returned (.int .i64 (stAt F G n (A j) : Int)) ∧ w' = wr.drewN m) := fun m => by
            have := rrstate_any (HA.out _ (below_dN hb m)).2.1 (A j) u1
            rw [HST.out (A j)] at this
            exact this
          have HJ : Hid (j < M ∧ Below w.heap.size w wr) := ⟨hlt, hb⟩
          clear hb
          generalize (stAt F G n (A j) : Int) = z at *
          generalize (A j : Int) = x at *
          go_wp2_with fail
          refine HR.mono ?_
          rintro e w2 ⟨rfl, m2, rfl⟩
          have HR2 := HRR.out m2
          have HB2 : Hid (Below w.heap.size w (wr.drewN m2)) := below_dN HJ.out.2 m2
          clear HR HRR
          generalize wr.drewN m2 = w2 at *
          go_wp2_with fail
          refine HR2.mono ?_
          rintro e w3 ⟨rfl, rfl⟩
          clear HR2
          go_wp2_with fail
          go_roundw
          case rel => exact ⟨j + 1, HJ.out.1, by first | rfl | go_num | simp, HB2.out⟩
          case measure => simp [intOf]; have := HJ.out.1; omega
        · have j1 : ¬ ((j : Int) < (M : Int)) := by omega
          have HLL := lawLeaves_any (by omega) (HA.out wr hb).2.1
          have HB : Hid (Below w.heap.size w wr ∧ lvN n ≤ 9223372036854775807) := ⟨hb, by have := lvN_le hn2; omega⟩
          clear hb HST hlt
          go_wp2_with fail
          refine HLL.mono ?_
          rintro e w2 ⟨v, W, rfl, hWl, hWb, ho2, hb2⟩
          have hbw2 := HB.out.1.trans (hb2.mono HB.out.1.size)
          have HRL := rleaves_any (HA.out w2 hbw2).1
          have HW : Hid ((∀ i, W i < 18446744073709551616) ∧ (∀ p, bitF W p = G p) ∧ (∀ X, Below w2.heap.size w2 X → X.ownsRow w.heap.size 93 256 v (lvN n) (byL (lvsF W) (lvN n * 256)))) := ⟨hWl, fun p => (hWb p).trans (HK.out p), fun X hX => kown_below (kown_mono ho2 HB.out.1.size) hX⟩
          clear hWl hWb ho2 hb2 HLL HK
          obtain ⟨a1, p1, rfl⟩ := kown_slice (HW.out.2.2 w2 (Below.refl _ _))
          go_wp2_with fail
          refine HRL.mono ?_
          rintro e w3 ⟨v2, X, rfl, hXl, hXb, ho3, hb3⟩
          have hbw3 := hbw2.trans (hb3.mono hbw2.size)
          obtain rfl : X = W := funext (words_ext hXl HW.out.1 fun p => (hXb p).trans (HW.out.2.1 p).symm)
          obtain ⟨a2, p2, rfl, hI2⟩ := own_blks ho3
          obtain ⟨a3, p3, e3, hI3⟩ := own_blks (HW.out.2.2 w3 hb3)
          injection e3 with e31 e32 e33
          subst e31
          subst e33
          have HQ : Hid (Calls Tryd.prog 28 #[.slice a2 (lvN n) p2, .slice a1 (lvN n) p1] w3 fun e w' => e = .returned (.bool true) ∧ Below w3.heap.size w3 w') := by
            have := lawBlocks_any (lvN n) p2 p1 HB.out.2 a2 a1 _ _ w3 hI2 hI3
            rw [decide_eq_true (fun i _ j _ => rfl)] at this
            exact this
          clear hI2 hI3 ho3 hXl hXb HRL HW
          go_wp2_with fail
          refine HQ.out.mono ?_
          rintro e w4 ⟨rfl, hb4⟩
          have hbw4 := hbw3.trans (hb4.mono hbw3.size)
          go_wp2_with fail
          go_ret
          exact ⟨rfl, hbw4⟩
end
end Go.Proofs.YtkpcgijdokhjkaaDoor

namespace Go.Proofs.YtkpcgijdokhjkaaDoor
open Go Go.RowKit
set_option linter.unusedVariables false
set_option linter.unusedSimpArgs false
section
variable {w V V' : World} {P : Nat → Prop} {r n k c k' c' : Nat} {F G F' G' : Nat → Bool} {f g : Nat → Int}
/-- a room in a world V that grew out of w, with the document's states f in block k, which is not the room's -/
structure RS (w V : World) (P : Nat → Prop) (r n : Nat) (F G : Nat → Bool) (k c : Nat) (f : Nat → Int) : Prop where
  room : RoomIs V P r n F G
  sa : SA V w.heap.size k n c f
  out : ¬ P k
  up : ∀ j, V.heap.size ≤ j → P j
  low : ∀ j, j < w.heap.size → ¬ P j
  big : Below w.heap.size w V
theorem RS.gap (h : RS w V P r n F G k c f) (hb : Below V.heap.size V V') : RS w V' (fun j => (j < V.heap.size ∧ P j) ∨ V'.heap.size ≤ j) r n F G k c f := by
  refine ⟨(h.room.reown fun j hj hp => .inl ⟨hj, hp⟩).below hb, h.sa.below hb, ?_, fun j hj => .inr hj, fun j hj => ?_, h.big.trans (hb.mono h.big.size)⟩
  · rintro (⟨_, hp⟩ | hp)
    · exact h.out hp
    · have := h.sa.lt.2
      have := hb.size
      omega
  · rintro (⟨_, hp⟩ | hp)
    · exact h.low j hj hp
    · have := h.big.size
      have := hb.size
      omega
theorem RS.turn (h : RS w V P r n F G k c f) (ha : RoomIs V' P r n F' G') (ht : Touch P V V') : RS w V' P r n F' G' k c f :=
  ⟨ha, h.sa.keep (ht.block k h.sa.lt.2 h.out), h.out, fun j hj => h.up j (Nat.le_trans ht.size hj), h.low, h.big.trans (ht.below h.big.size h.low)⟩
/-- the document's states are new ones -/
theorem RS.next (h : RS w V P r n F G k c f) (hb : Below V.heap.size V V') (hs : SA V' V.heap.size k' n c' g) : RS w V' (fun j => (j < V.heap.size ∧ P j) ∨ V'.heap.size ≤ j) r n F G k' c' g := by
  have hg := h.gap hb
  refine ⟨hg.room, hs.mono h.big.size, ?_, hg.up, hg.low, hg.big⟩
  have := hs.lt
  rintro (⟨hp, _⟩ | hp) <;> omega
theorem RS.tied (h : RS w V P r n F G k c f) (he : ∀ p, p < n → f p = g p) : RS w V P r n F G k c g := ⟨h.room, h.sa.congr he, h.out, h.up, h.low, h.big⟩
theorem RS.made (hV : Below w.heap.size w V) (h : RoomIs V (fun j => w.heap.size ≤ j) r n F G) (hb : Below V.heap.size V V') (hs : SA V' V.heap.size k n c f) : RS w V' (fun j => (w.heap.size ≤ j ∧ j < V.heap.size) ∨ V'.heap.size ≤ j) r n F G k c f := by
  have := hs.lt
  have := hb.size
  have := hV.size
  refine ⟨(h.reown fun j hj hp => .inl ⟨hp, hj⟩).below hb, hs.mono hV.size, ?_, fun j hj => .inr hj, fun j hj => ?_, hV.trans (hb.mono hV.size)⟩
  · rintro (⟨_, hp⟩ | hp) <;> omega
  · rintro (⟨hp, _⟩ | hp) <;> omega
theorem RS.mono {u : World} (h : RS w V P r n F G k c f) (hb : Below u.heap.size u w) : RS u V P r n F G k c f := ⟨h.room, h.sa.mono hb.size, h.out, h.up, fun j hj => h.low j (Nat.lt_of_lt_of_le hj hb.size), hb.trans (h.big.mono hb.size)⟩
/-- a block that is neither the room's nor the states' turns -/
theorem RS.poke {g : Nat} (h : RS w V P r n F G k c f) (ho : Only g V V') (hg : ¬ P g) (hk : g ≠ k) (hw : w.heap.size ≤ g) : RS w V' P r n F G k c f :=
  ⟨h.room.apart (Touch.of_only (P := fun j => j = g) ho rfl) (fun j hj e => hg (e ▸ hj)), h.sa.only ho (fun e => hk e.symm), h.out, fun j hj => h.up j (Nat.le_trans ho.size hj), h.low, h.big.trans ((Touch.of_only (P := fun j => j = g) ho rfl).below h.big.size fun j hj e => by omega)⟩
end
end Go.Proofs.YtkpcgijdokhjkaaDoor

namespace Go.Proofs.YtkpcgijdokhjkaaDoor
open Go.ChangeShapes Go.WideShapes Go.ChangeAt Go.RowKit Go.Joins
set_option linter.unusedVariables false
theorem ucell_lt {w : World} {a : Addr} {v : Value} (h : w.cell? a = some v) : a.block < w.heap.size := by
  obtain ⟨e, n, hs, _⟩ := World.shape?_of_cell? h
  unfold World.shape? at hs
  cases hb : w.heap[a.block]? with
  | none => simp [hb] at hs
  | some o => exact (Array.getElem?_eq_some_iff.1 hb).1
end Go.Proofs.YtkpcgijdokhjkaaDoor

namespace Go.Proofs.YtkpcgijdokhjkaaDoor
open Go.ChangeShapes Go.WideShapes Go.ChangeAt Go.RowKit Go.Joins
set_option linter.unusedVariables false
def IsActs (w : World) (a : Option Addr) (N : Nat) (K : Nat → Int) (A : Nat → Nat) : Prop :=
  ∀ i, i < N → A i < 4294967296 ∧ (-9223372036854775808 ≤ K i ∧ K i ≤ 9223372036854775807) ∧ ∃ b o, a = some ⟨b, o, none⟩ ∧ b < w.heap.size ∧ w.cell? ⟨b, o + i * 2, none⟩ = some (.int .i64 (K i)) ∧ w.cell? ⟨b, o + i * 2 + 1, none⟩ = some (.int .u32 (A i : Int))
theorem IsActs.below {w w' : World} {a : Option Addr} {N : Nat} {K : Nat → Int} {A : Nat → Nat} (h : IsActs w a N K A) (hb : Below w.heap.size w w') : IsActs w' a N K A := fun i hi => by
  obtain ⟨h0, hk, b, o, e, h1, h2, h3⟩ := h i hi
  have hblk := hb.block b h1
  refine ⟨h0, hk, b, o, e, Nat.lt_of_lt_of_le h1 hb.size, ?_, ?_⟩
  · rw [← h2]; simp [World.cell?, hblk]
  · rw [← h3]; simp [World.cell?, hblk]
set_option maxRecDepth 100000 in
theorem open_acts {H : Type} {enc : TypeId × Value → H} {W : World} {a0 : Option Addr} {len cap fuel : Nat} {x : DataW H × List MemPlace}
    (hf : DataW.trod enc Tryd.prog W 0 (fun _ => true) true fuel 57 [.slice a0 len cap] = some x) (hsz : ∀ n ∈ x.1.weights Tryd.prog 57, n ≤ reachBytes) :
    ∃ (K : Nat → Int) (A : Nat → Nat), len ≤ 9223372036854775807 ∧ IsActs W a0 len K A := by
  rcases Deep.open_slice Tryd.underlying57 hf with ⟨hcs, hx⟩ | ⟨a, len', cap', m, n, D, Pl, hcs, _, hl, hm, hmm, hx, hel⟩
  · simp at hcs
    obtain ⟨rfl, rfl, rfl⟩ := hcs
    exact ⟨fun _ => 0, fun _ => 0, by omega, fun i hi => absurd hi (by omega)⟩
  · simp at hcs
    obtain ⟨rfl, rfl, rfl⟩ := hcs
    subst hx
    simp only [if_true] at hmm
    subst hmm
    have hu := Tryd.underlying57
    have hby : Tryd.prog.bytesOf 65 = 16 := by kernel_rfl
    have hw0 := hsz ((((List.range len).map D).length + ((List.range (m - len)).map fun j => D (len + j)).length) * Tryd.prog.bytesOf 65) (by simp [DataW.weights, hu])
    rw [hby] at hw0
    simp only [List.length_map, List.length_range] at hw0
    have hlen4 : len ≤ 9223372036854775807 := by
      unfold reachBytes at hw0
      omega
    have hce : Tryd.prog.cellsOf 65 = 2 := by kernel_rfl
    have hci : Tryd.prog.cellsOf 3 = 1 := by kernel_rfl
    have hcu : Tryd.prog.cellsOf 22 = 1 := by kernel_rfl
    have hsp : 0 < len → a.spot = none := fun h0 => by
      obtain ⟨cs', h1, _⟩ := hel 0 (by omega)
      rw [hce] at h1
      obtain ⟨_, hcl, hcell⟩ := World.cells?_some h1
      match cs', hcl with
      | [v0, v1], _ => simpa [Addr.add] using World.cell?_spot (hcell 0 (by omega))
    have each : ∀ i, ∃ q : Int × Nat, i < len → q.2 < 4294967296 ∧ (-9223372036854775808 ≤ q.1 ∧ q.1 ≤ 9223372036854775807) ∧ ∃ b o, a = ⟨b, o, none⟩ ∧ b < W.heap.size ∧ W.cell? ⟨b, o + i * 2, none⟩ = some (.int .i64 q.1) ∧ W.cell? ⟨b, o + i * 2 + 1, none⟩ = some (.int .u32 (q.2 : Int)) := by
      intro i
      by_cases hi : i < len
      · obtain ⟨cs', h1, h2⟩ := hel i (by omega)
        rw [hce] at h1
        obtain ⟨_, hcl, hcell⟩ := World.cells?_some h1
        obtain ⟨xs, k, hk, hxy, _, hxl, hfs⟩ := DataW.trod_struct Tryd.underlying65 h2
        match xs, hxl, cs', hcl with
        | [y0, y1], _, [v0, v1], _ =>
          have g0 := hfs 0 _ rfl
          have g1 := hfs 1 _ rfl
          simp [hci, hcu] at g0 g1
          obtain ⟨p, e0, _, w0⟩ := DataW.trod_int Tryd.underlying3 g0
          obtain ⟨r, e1, _, w1⟩ := DataW.trod_int Tryd.underlying22 g1
          simp at e0 e1
          subst e0 e1
          have hbd := bounds_u32 w1
          obtain ⟨q, rfl⟩ := Int.eq_ofNat_of_zero_le hbd.1
          refine ⟨(p, q), fun _ => ⟨by show q < 4294967296; omega, bounds_i64 w0, ?_⟩⟩
          have c0 := hcell 0 (by decide)
          have c1 := hcell 1 (by decide)
          obtain ⟨b, off, spot⟩ := a
          have hspot : spot = none := hsp (by omega)
          subst hspot
          simp only [Addr.add_mid, List.getElem?_cons_zero, List.getElem?_cons_succ] at c0 c1
          exact ⟨b, off, rfl, ucell_lt c0, c0, c1⟩
      · exact ⟨(0, 0), fun h => absurd h hi⟩
    refine ⟨fun i => (Classical.choose (each i)).1, fun i => (Classical.choose (each i)).2, hlen4, fun i hi => ?_⟩
    obtain ⟨hq, hk, b, o, rfl, h1, h2⟩ := Classical.choose_spec (each i) hi
    exact ⟨hq, hk, b, o, rfl, h1, h2⟩
end Go.Proofs.YtkpcgijdokhjkaaDoor

namespace Go.Proofs.YtkpcgijdokhjkaaDoor
open Go.ChangeShapes Go.WideShapes Go.ChangeAt Go.RowKit Go.Joins
set_option linter.unusedVariables false
set_option maxRecDepth 100000 in
theorem open_u32x {H : Type} {enc : TypeId × Value → H} {W : World} {a0 : Option Addr} {len cap fuel : Nat} {x : DataW H × List MemPlace}
    (hf : DataW.trod enc Tryd.prog W 0 (fun _ => true) true fuel 31 [.slice a0 len cap] = some x) (hsz : ∀ n ∈ x.1.weights Tryd.prog 31, n ≤ reachBytes) :
    ∃ (A : Nat → Nat), len ≤ 9223372036854775807 ∧ len * 4 ≤ 140737488351232 ∧ (a0 = none → len = 0 ∧ cap = 0) ∧ IsU32s W a0 len A := by
  rcases Deep.open_slice Tryd.underlying31 hf with ⟨hcs, hx⟩ | ⟨a, len', cap', m, n, D, Pl, hcs, _, hl, hm, hmm, hx, hel⟩
  · simp at hcs
    obtain ⟨rfl, rfl, rfl⟩ := hcs
    exact ⟨fun _ => 0, by omega, by omega, fun _ => ⟨rfl, rfl⟩, fun i hi => absurd hi (by omega)⟩
  · simp at hcs
    obtain ⟨rfl, rfl, rfl⟩ := hcs
    subst hx
    simp only [if_true] at hmm
    subst hmm
    have hu := Tryd.underlying31
    have hby : Tryd.prog.bytesOf 22 = 4 := by kernel_rfl
    have hw0 := hsz ((((List.range len).map D).length + ((List.range (m - len)).map fun j => D (len + j)).length) * Tryd.prog.bytesOf 22) (by simp [DataW.weights, hu])
    rw [hby] at hw0
    simp only [List.length_map, List.length_range] at hw0
    have hlen4 : len * 4 ≤ 140737488351232 := by
      unfold reachBytes at hw0
      omega
    have hce : Tryd.prog.cellsOf 22 = 1 := by kernel_rfl
    have hsp : 0 < len → a.spot = none := fun h0 => by
      obtain ⟨cs', h1, _⟩ := hel 0 (by omega)
      rw [hce] at h1
      obtain ⟨_, hcl, hcell⟩ := World.cells?_some h1
      match cs', hcl with
      | [v0], _ => simpa [Addr.add] using World.cell?_spot (hcell 0 (by omega))
    have each : ∀ i, ∃ q : Nat, i < len → q < 4294967296 ∧ ∃ b o, a = ⟨b, o, none⟩ ∧ b < W.heap.size ∧ W.cell? ⟨b, o + i, none⟩ = some (.int .u32 (q : Int)) := by
      intro i
      by_cases hi : i < len
      · obtain ⟨cs', h1, h2⟩ := hel i (by omega)
        rw [hce] at h1
        obtain ⟨_, hcl, hcell⟩ := World.cells?_some h1
        match cs', hcl with
        | [v0], _ =>
          obtain ⟨p, e0, _, w0⟩ := DataW.trod_int Tryd.underlying22 h2
          simp at e0
          subst e0
          have hbd := bounds_u32 w0
          obtain ⟨q, rfl⟩ := Int.eq_ofNat_of_zero_le hbd.1
          refine ⟨q, fun _ => ⟨by omega, ?_⟩⟩
          have c0 := hcell 0 (by decide)
          obtain ⟨b, off, spot⟩ := a
          have hspot : spot = none := hsp (by omega)
          subst hspot
          simp only [Addr.add_mid, List.getElem?_cons_zero, Nat.mul_one, Nat.add_zero] at c0
          exact ⟨b, off, rfl, ucell_lt c0, c0⟩
      · exact ⟨0, fun h => absurd h hi⟩
    refine ⟨fun i => Classical.choose (each i), by omega, hlen4, fun e => by simp at e, fun i hi => ?_⟩
    obtain ⟨hq, b, o, rfl, h1, h2⟩ := Classical.choose_spec (each i) hi
    exact ⟨hq, b, o, rfl, h1, h2⟩
theorem wpList_append_u32s {P : Program} {ops : Array Oper} {rest : List Oper} {o : Oper} {a : Act} {w : World} {Q : Exit → Act → World → Prop} (hgd : o.guard = none) (s x : Operand) (t : TypeId)
    (ho : o.op = .call { callee := .builtin .append, args := #[s, x], argTypes := #[t, t] }) (B : Nat) (e : TypeId) (i : TypeInfo) (z : Value) (ht : P.underlying t = some (.slice e)) (hi : P.info? e = some i) (hz : i.zero = some z) (hsize : i.size = 1) (hby : i.bytes = 4) (hzs : z.cells.size = 1)
    (v : Value) (hs : a.eval s = v) (hown : w.ownsRow B e 1 v 0 []) (a1 : Option Addr) (n c : Nat) (A : Nat → Nat) (hx : a.eval x = .slice a1 n c) (hA : IsU32s w a1 n A) (hN : a1 = none → n = 0 ∧ c = 0) (hn : n * 4 ≤ 140737488351232) (hbase : B ≤ w.heap.size)
    (h : ∀ v' w', w'.ownsRow B e 1 v' n ((List.range n).map fun j => .int .u32 (A j : Int)) → Below B w w' → wpList P ops Q rest (a.put o.dst v') w') : wpList P ops Q (o :: rest) a w := by
  cases a1 with
  | none =>
    obtain ⟨rfl, rfl⟩ := hN rfl
    exact wpList_append_own_none hgd s x t ho B e i 1 ht hi v 0 [] hs hown hx (h v w hown (Below.refl _ _))
  | some ad =>
    have hv := hown.lt
    refine bi_append_at hgd s x t ho B e i z 1 4 ht hi hz hsize hby hzs (by decide) v 0 [] hs hown ad n c ((List.range n).map fun j => .int .u32 (A j : Int)) hx (by simp) (fun j u hu => ?_) (fun u hu => ?_) (by unfold maxLen; omega) (by omega) hbase fun v' w' h1 h2 _ => ?_
    · have hj : j < n := by
        have := (List.getElem?_eq_some_iff.1 hu).1
        simpa using this
      obtain ⟨_, b, o, e1, _, c0⟩ := hA j hj
      injection e1 with e2
      subst e2
      simp [hj] at hu
      subst hu
      rw [Addr.add_mid]
      exact c0
    · obtain ⟨j, _, rfl⟩ := List.mem_map.1 hu
      rfl
    · rw [List.nil_append, Nat.zero_add] at h1
      exact h v' w' h1 ((Below.refl _ _).grown h2 hbase (fun k hk => (hv k hk).1))
end Go.Proofs.YtkpcgijdokhjkaaDoor

namespace Go.Proofs.YtkpcgijdokhjkaaDoor
open Go Go.RowKit
set_option linter.unusedVariables false
set_option linter.unusedSimpArgs false
theorem own_u32s {V : World} {B n : Nat} {v : Value} {A : Nat → Nat} (h : V.ownsRow B 22 1 v n ((List.range n).map fun j => .int .u32 (A j : Int))) (hA : ∀ j, j < n → A j < 4294967296) : ∃ a cap, v = .slice a n cap ∧ IsU32s V a n A := by
  obtain ⟨a, cap, rfl⟩ := kown_slice h
  refine ⟨a, cap, rfl, fun i hi => ⟨hA i hi, ?_⟩⟩
  obtain ⟨g, cap', hv, hg1, hg2⟩ := kown_form h (by omega)
  injection hv with hv1 hv2 hv3
  subst hv1
  refine ⟨g, 0, rfl, hg2, ?_⟩
  subst hv3
  rw [Nat.zero_add, h.cellAt i (by omega)]
  simp [hi]
set_option maxRecDepth 100000 in
set_option maxHeartbeats 16000000 in
theorem plays_bad (p : Int) (a : Option Addr) (N cc : Nat) (hN : N ≤ 9223372036854775807) (hN4 : N * 4 ≤ 140737488351232) (hNn : a = none → N = 0 ∧ cc = 0) (A : Nat → Nat) (v : Value) (w : World) (h0 : 0 < w.heap.size) (hT : TabAt w) (hD : IsU32s w a N A) (m er : Int) (her : er ≠ 0)
    (hNew : ∀ V a' c', IsU32s V a' N A → Calls Tryd.prog 29 #[.int .i64 p, .slice a' N c'] V fun e w' => e = .returned (.tuple #[.pointer none, .int .i64 m, .int .i64 er]) ∧ Below V.heap.size V w')
    (hRef : ∀ V a' c', IsU32s V a' N A → Calls Tryd.prog 30 #[.int .i64 p, .slice a' N c'] V fun e w' => e = .returned (.tuple #[.slice none 0 0, .int .i64 m, .int .i64 er]) ∧ Below V.heap.size V w') :
    Calls Tryd.prog 6 #[.int .i64 p, .slice a N cc, v] w fun e w' => e = .returned (.bool true) ∧ Below w.heap.size w w' := by
  obtain ⟨i0, hi, hz0, hz1, hz2⟩ := info_parts infoU32
  have HA := awake12_any w hT h0
  have HD : Hid (∀ V, Below w.heap.size w V → IsU32s V a N A) := fun V hV => hD.below hV
  have HLT : Hid (∀ j, j < N → A j < 4294967296) := fun j hj => (hD j hj).1
  have HNEW : Hid _ := hNew
  have HREF : Hid _ := hRef
  have HER : Hid (er ≠ 0) := her
  clear hT hD hNew hRef
  go_enter Tryd.func6, Tryd.ntmps6
  go_wp2_with fail
  refine HA.mono ?_
  rintro e w1 ⟨rfl, hb1⟩
  have hbA : Below w1.heap.size w1 (w1.alloc (.cells #[] 22)) := below_new1 _ _
  have HOWN : Hid ((w1.alloc (.cells #[] 22)).ownsRow w1.heap.size 22 1 (.slice (some ⟨w1.heap.size, 0, none⟩) 0 0) 0 []) := kown_empty (Blk.new w1 22 #[]) (Nat.le_refl _)
  have hbwA := hb1.trans (hbA.mono hb1.size)
  have HD1 : Hid (IsU32s (w1.alloc (.cells #[] 22)) a N A) := HD.out _ hbwA
  have HBA : Hid (Below w.heap.size w w1 ∧ Below w1.heap.size w1 (w1.alloc (.cells #[] 22))) := ⟨hb1, hbA⟩
  clear HA hb1 hbA hbwA
  go_wp2_with (first
    | (at_builtin; refine wpList_append_u32s rfl _ _ 31 rfl w1.heap.size 22 i0 (.int .u32 0) Tryd.underlying31 hi hz0 hz1 hz2 rfl _ rfl HOWN.out a N cc A rfl HD1.out hNn hN4 (by simp) ?_)
    | go_in)
  intro v2 w2 hown2 hb2
  have hbw2 : Below w.heap.size w w2 := HBA.out.1.trans ((HBA.out.2.mono HBA.out.1.size).trans (hb2.mono HBA.out.1.size))
  obtain ⟨a2, c2, rfl, hI2⟩ := own_u32s hown2 HLT.out
  have HN2 := HNEW.out w2 a2 c2 hI2
  have HB2 : Hid (Below w.heap.size w w2 ∧ IsU32s w2 a2 N A) := ⟨hbw2, hI2⟩
  clear hb2 hbw2 hown2 hI2 HOWN HD1 HBA
  go_wp2_with fail
  refine HN2.mono ?_
  rintro e w3 ⟨rfl, hb3⟩
  have hbw3 := HB2.out.1.trans (hb3.mono HB2.out.1.size)
  have HN3 := HREF.out w3 a cc (HD.out w3 hbw3)
  have HI3 : Hid (Below w.heap.size w w3 ∧ IsU32s w3 a2 N A) := ⟨hbw3, HB2.out.2.below hb3⟩
  clear HN2 hb3 hbw3 HB2
  go_wp2_with fail
  refine HN3.mono ?_
  rintro e w4 ⟨rfl, hb4⟩
  have hbw4 := HI3.out.1.trans (hb4.mono HI3.out.1.size)
  have HSM : Hid (Calls Tryd.prog 31 #[.slice a2 N c2, .slice a N cc] w4 fun e w' => e = .returned (.bool true) ∧ Below w4.heap.size w4 w') := by
    have := sameU_any N c2 cc hN a2 a _ _ w4 (HI3.out.2.below hb4) (HD.out w4 hbw4)
    rw [decide_eq_true (fun i _ => rfl)] at this
    exact this
  have HB4 : Hid (Below w.heap.size w w4) := hbw4
  clear HN3 hb4 hbw4 HI3
  have her0 : (er == 0) = false := by simp [her]
  go_wp2_with fail
  refine HSM.out.mono ?_
  rintro e w5 ⟨rfl, hb5⟩
  have hbw5 := HB4.out.trans (hb5.mono HB4.out.size)
  clear HSM hb5 HB4
  go_wp2_with fail
  go_ret
  exact ⟨rfl, hbw5⟩
end Go.Proofs.YtkpcgijdokhjkaaDoor

namespace Go.Proofs.YtkpcgijdokhjkaaDoor
open Go Go.RowKit
set_option linter.unusedVariables false
set_option linter.unusedSimpArgs false
section
variable {w V V' : World} {P : Nat → Prop} {r n k c k' c' av z : Nat} {F G F' G' : Nat → Bool} {f g : Nat → Int}
structure RA (w V : World) (P : Nat → Prop) (r n : Nat) (F G : Nat → Bool) (k c : Nat) (f : Nat → Int) (av z : Nat) : Prop where
  s : RS w V P r n F G k c f
  cell : V.cell? ⟨av, 1, none⟩ = some (.int .u32 (z : Int))
  lt : av < V.heap.size
  off : ¬ P av
theorem cell_kept {b o : Nat} {x : Value} (h : V.cell? ⟨b, o, none⟩ = some x) (hk : V'.heap[b]? = V.heap[b]?) : V'.cell? ⟨b, o, none⟩ = some x := by
  rw [← h]; simp [World.cell?, hk]
theorem RA.gap (h : RA w V P r n F G k c f av z) (hb : Below V.heap.size V V') : RA w V' (fun j => (j < V.heap.size ∧ P j) ∨ V'.heap.size ≤ j) r n F G k c f av z := by
  refine ⟨h.s.gap hb, cell_kept h.cell (hb.block av h.lt), Nat.lt_of_lt_of_le h.lt hb.size, ?_⟩
  rintro (⟨_, hp⟩ | hp)
  · exact h.off hp
  · have := h.lt
    have := hb.size
    omega
theorem RA.turn (h : RA w V P r n F G k c f av z) (ha : RoomIs V' P r n F' G') (ht : Touch P V V') : RA w V' P r n F' G' k c f av z :=
  ⟨h.s.turn ha ht, cell_kept h.cell (ht.block av h.lt h.off), Nat.lt_of_lt_of_le h.lt ht.size, h.off⟩
theorem RA.next (h : RA w V P r n F G k c f av z) (hb : Below V.heap.size V V') (hs : SA V' V.heap.size k' n c' g) : RA w V' (fun j => (j < V.heap.size ∧ P j) ∨ V'.heap.size ≤ j) r n F G k' c' g av z :=
  ⟨h.s.next hb hs, (h.gap hb).cell, (h.gap hb).lt, (h.gap hb).off⟩
theorem RA.tied (h : RA w V P r n F G k c f av z) (he : ∀ p, p < n → f p = g p) : RA w V P r n F G k c g av z := ⟨h.s.tied he, h.cell, h.lt, h.off⟩
theorem RS.deed (h : RS w V P r n F G k c f) (q : Int) (z : Nat) : RA w (V.alloc (.cells #[.int .i64 q, .int .u32 (z : Int)] 65)) (fun j => (j < V.heap.size ∧ P j) ∨ (V.alloc (.cells #[.int .i64 q, .int .u32 (z : Int)] 65)).heap.size ≤ j) r n F G k c f V.heap.size z := by
  have hblk : Blk (V.alloc (.cells #[.int .i64 q, .int .u32 (z : Int)] 65)) V.heap.size 65 #[.int .i64 q, .int .u32 (z : Int)] := Blk.new _ _ _
  refine ⟨h.gap (below_new1 _ _), (hblk.cell 1).trans rfl, hblk.lt, ?_⟩
  have := hblk.lt
  rintro (⟨hp, _⟩ | hp) <;> omega
def fourA (z n i : Nat) : Nat := if i = 0 then z else if i = 1 then 0 else if i = 2 then n else n - 1
theorem four_any (hT : TabAt w) (h0 : 0 < w.heap.size) (h : RA w V P r n F G k c (tieS F G n) av z) (hz : z < 4294967296) : Calls Tryd.prog 36 #[.pointer (some ⟨r, 0, none⟩), .slice (some ⟨k, 0, none⟩) n c, .slice (some ⟨V.heap.size, 0, none⟩) 4 4] (V.alloc (.cells #[.int .u32 (z : Int), .int .u32 0, .int .u32 (n : Int), .int .u32 ((n : Int) - 1)] 22)) fun e w' => e = .returned (.bool true) ∧ RS w w' (fun j => (j < V.heap.size ∧ P j) ∨ w'.heap.size ≤ j) r n F G k c (tieS F G n) := by
  obtain ⟨hn16, hn2, _, _, _, _⟩ := h.s.room.facts
  have hblk : Blk (V.alloc (.cells #[.int .u32 (z : Int), .int .u32 0, .int .u32 (n : Int), .int .u32 ((n : Int) - 1)] 22)) V.heap.size 22 #[.int .u32 (z : Int), .int .u32 0, .int .u32 (n : Int), .int .u32 ((n : Int) - 1)] := Blk.new _ _ _
  have hbA : Below V.heap.size V (V.alloc (.cells #[.int .u32 (z : Int), .int .u32 0, .int .u32 (n : Int), .int .u32 ((n : Int) - 1)] 22)) := below_new1 _ _
  have hg := h.s.gap hbA
  have hw := hg.big
  refine (stands_any (hT.below h0 hw) (Nat.lt_of_lt_of_le h0 hw.size) hg.room hg.sa (fun p hp => rfl) _ 4 4 (by decide) (fourA z n) fun i hi => ?_).mono ?_
  · have hc : i = 0 ∨ i = 1 ∨ i = 2 ∨ i = 3 := by omega
    rcases hc with rfl | rfl | rfl | rfl
    · exact ⟨hz, _, 0, rfl, hblk.lt, (hblk.cell 0).trans rfl⟩
    · exact ⟨by show 0 < 4294967296; decide, _, 0, rfl, hblk.lt, (hblk.cell 1).trans rfl⟩
    · exact ⟨by show n < _; omega, _, 0, rfl, hblk.lt, (hblk.cell 2).trans rfl⟩
    · refine ⟨by show n - 1 < _; omega, _, 0, rfl, hblk.lt, (hblk.cell 3).trans ?_⟩
      show some (Value.int .u32 ((n : Int) - 1)) = some (Value.int .u32 ((n - 1 : Nat) : Int))
      rw [show ((n - 1 : Nat) : Int) = (n : Int) - 1 by omega]
  · rintro e w' ⟨rfl, hb⟩
    exact ⟨rfl, h.s.gap (hbA.trans (hb.mono hbA.size))⟩
theorem ask_any (hT : TabAt w) (h0 : 0 < w.heap.size) {Pr : Nat → Prop} {rc : Nat} (hR : RoomIs V Pr rc n F G) (h : RA w V P r n F G k c (tieS F G n) av z) (hz : z < 4294967296) : Calls Tryd.prog 36 #[.pointer (some ⟨rc, 0, none⟩), .slice (some ⟨k, 0, none⟩) n c, .slice (some ⟨V.heap.size, 0, none⟩) 1 1] (V.alloc (.cells #[.int .u32 (z : Int)] 22)) fun e w' => e = .returned (.bool true) ∧ Below V.heap.size V w' := by
  have hblk : Blk (V.alloc (.cells #[.int .u32 (z : Int)] 22)) V.heap.size 22 #[.int .u32 (z : Int)] := Blk.new _ _ _
  have hbA : Below V.heap.size V (V.alloc (.cells #[.int .u32 (z : Int)] 22)) := below_new1 _ _
  have hg := h.s.gap hbA
  have hw := hg.big
  refine (stands_any (hT.below h0 hw) (Nat.lt_of_lt_of_le h0 hw.size) (hR.below hbA) hg.sa (fun p hp => rfl) _ 1 1 (by decide) (fun _ => z) fun i hi => ?_).mono ?_
  · obtain rfl : i = 0 := by omega
    exact ⟨hz, _, 0, rfl, hblk.lt, (hblk.cell 0).trans rfl⟩
  · rintro e w' ⟨rfl, hb⟩
    exact ⟨rfl, hbA.trans (hb.mono hbA.size)⟩
end
end Go.Proofs.YtkpcgijdokhjkaaDoor

namespace Go.Proofs.YtkpcgijdokhjkaaDoor
open Go Go.RowKit
set_option linter.unusedVariables false
set_option linter.unusedSimpArgs false
theorem dig_bit (x m t : Nat) (ht : t < 8) : (dig x m).testBit t = x.testBit (8 * m + t) := by
  unfold dig
  rw [show (256 : Nat) ^ m = 2 ^ (8 * m) by rw [show (256 : Nat) = 2 ^ 8 from rfl, ← Nat.pow_mul], show (256 : Nat) = 2 ^ 8 from rfl, Nat.testBit_mod_two_pow, Nat.testBit_div_two_pow]
  simp [ht]
  congr 1
  omega
theorem lf_lt (W : Nat → Nat) (k : Nat) (j : Nat) : lfF W k 16 j < 256 := by
  rw [lf_byte W k 16 (Nat.le_refl _)]
  split
  · exact dig_lt _ _
  · show putAt _ _ _ _ j < 256
    unfold putAt
    split
    · exact tbyte_lt _ _
    · exact tbyte_lt _ _
theorem lvs_lt (W : Nat → Nat) (x : Nat) : lvsF W x < 256 := lf_lt _ _ _
theorem lvs_bit (W : Nat → Nat) (p : Nat) : bitL (fun i j => lvsF W (256 * i + j)) p = bitF W p := by
  unfold bitL lvsF bitF
  show (lfF W ((256 * (p / 1024) + (128 + p % 1024 / 8)) / 256) 16 ((256 * (p / 1024) + (128 + p % 1024 / 8)) % 256)).testBit (p % 1024 % 8) = _
  rw [show (256 * (p / 1024) + (128 + p % 1024 / 8)) / 256 = p / 1024 by omega, show (256 * (p / 1024) + (128 + p % 1024 / 8)) % 256 = 128 + p % 1024 / 8 by omega, lf_byte W _ 16 (Nat.le_refl _), if_pos (by omega), dig_bit _ _ _ (by omega)]
  rw [show 16 * (p / 1024) + (128 + p % 1024 / 8 - 128) / 8 = p / 64 by omega, show 8 * ((128 + p % 1024 / 8 - 128) % 8) + p % 1024 % 8 = p % 64 by omega]
theorem lvs_good {n : Nat} {X W : Nat → Nat} (hX : ∀ i, X i < 18446744073709551616) (hW : ∀ i, W i < 18446744073709551616) (hb : ∀ p, bitF W p = bitF X p) : GoodW n (fun i j => lvsF X (256 * i + j)) W := by
  obtain rfl : W = X := funext (words_ext hW hX hb)
  intro i hi j hj
  show _ = lfF W ((256 * i + j) / 256) 16 ((256 * i + j) % 256)
  rw [show (256 * i + j) / 256 = i by omega, show (256 * i + j) % 256 = j by omega]
theorem inF_same (F : Nat → Bool) (n : Nat) (s : Int) (hs : s = 3 ∨ s = 4) (p : Nat) : inF F F n s p = false := by
  unfold inF stAt stN
  rcases hs with rfl | rfl <;> (cases F p <;> simp <;> (try split) <;> simp <;> (try split) <;> simp)
end Go.Proofs.YtkpcgijdokhjkaaDoor
