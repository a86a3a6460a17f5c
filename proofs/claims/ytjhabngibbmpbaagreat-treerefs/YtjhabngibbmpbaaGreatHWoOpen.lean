/- A world of a tree as an argument, opened: a height, leaves, places, two numbers; no condition but that it is one. -/
import Derived.Test.YtjhabngibbmpbaaGreatHTrRef
import Derived.Handy
import Derived.Test.YtjhabngibbmpbaaGreatHNdBlock
import Derived.BigQuiet
import Derived.Deep.QuietTactic
import Derived.Test.YtjhabngibbmpbaaGreatHWoMade
import Derived.Test.YtjhabngibbmpbaaGreatHLvTop
import Derived.Test.YtjhabngibbmpbaaGreatRows
import Derived.WalkKit
import Derived.ProofKit
import Derived.OpenShut
import Derived.Carry
import Derived.Deep.Slices
import Derived.Lib.SmallJoins
import Derived.SizedLaws

namespace Go.Proofs.YtjhabngibbmpbaaGreat
open Go Go.RowKit
set_option linter.unusedSimpArgs false
set_option linter.unusedVariables false

/-- is a position outside of a tree of that height? -/
def outP (h l p : Int) : Prop := l < 0 ∨ h < l ∨ p < 0 ∨ ((4 ^ (h - l).toNat : Nat) : Int) ≤ p
instance (h l p : Int) : Decidable (outP h l p) := by unfold outP; infer_instance
/-- the way to a position -/
def wayTo9 (h l p : Int) : List Nat := (List.range (h - l).toNat).map (wayN (h - l).toNat p.toNat)
instance (h : Int) (R : Rf) : Decidable (trOk h R) := by unfold trOk; infer_instance
/-- what Ref answers -/
def refV (F : Nat → Nat) (N : Nat) (h : Int) (R : Rf) (l p : Int) : Rf × Int := if trOk h R then (if outP h l p then (rf0, 90) else folR F N h R (wayTo9 h l p)) else (rf0, 1)
section
variable {B g N c m room i : Nat} {F : Nat → Nat} {U : Nat → Prop}
theorem ref9_any (h : Int) (R : Rf) (hR : R.1 < 4294967296) (hD : okD R.2) (hF : ∀ a, F a < 256) (l p : Int) (hi : i < 34359738368) (w : World) (H : TD w B g N F c m room i U) : Calls Tryz.prog 19 #[.pointer (some ⟨c, 0, none⟩), .agg (trC h R), .int .i64 l, .int .i64 p] w fun x w' => x = .returned (.tuple #[.agg (rfC (refV F N h R l p).1), .int .i64 (refV F N h R l p).2]) ∧ TDStep w w' B g N F c m room (i + 6) U := by
  have no : ∀ er : Int, er ≠ 0 → refV F N h R l p = (rf0, er) → (∀ w, Calls Tryz.prog 42 #[.agg (trC h R), .int .i64 l, .int .i64 p] w fun x w' => x = .returned (.tuple #[.slice none 0 0, .int .i64 er]) ∧ Below w.heap.size w w') → Calls Tryz.prog 19 #[.pointer (some ⟨c, 0, none⟩), .agg (trC h R), .int .i64 l, .int .i64 p] w fun x w' => x = .returned (.tuple #[.agg (rfC (refV F N h R l p).1), .int .i64 (refV F N h R l p).2]) ∧ TDStep w w' B g N F c m room (i + 6) U := fun er h1 h2 h3 => by
    rw [h2]
    exact (ref_no h R l p er h1 h3 _ w).mono fun x w' ⟨e, hb⟩ => ⟨e, .of_below (H.mono (by omega)) hb⟩
  by_cases hok : trOk h R
  · by_cases hout : outP h l p
    · refine no 90 (by decide) (by unfold refV; rw [if_pos hok, if_pos hout]) ?_
      rcases hout with h1 | h1 | h1
      · exact wayTo_lo h R hR hD hok l p h1
      · exact wayTo_hi h R hR hD hok l p h1
      · by_cases l0 : l < 0
        · exact wayTo_lo h R hR hD hok l p l0
        · by_cases l1 : h < l
          · exact wayTo_hi h R hR hD hok l p l1
          · exact wayTo_place h R hR hD hok l p ⟨by omega, by omega⟩ (h - l).toNat (by omega) h1
    · unfold outP at hout
      have hl : 0 ≤ l ∧ l ≤ h := ⟨by omega, by omega⟩
      have hp : 0 ≤ p := by omega
      have := ref_ok h R hR hD hF hok l p.toNat hl (h - l).toNat (by omega) (by omega) hi w H
      rw [Int.toNat_of_nonneg hp] at this
      have e : refV F N h R l p = folR F N h R ((List.range (h - l).toNat).map (wayN (h - l).toNat p.toNat)) := by
        unfold refV wayTo9
        rw [if_pos hok, if_neg (show ¬ outP h l p from hout)]
      rw [e]
      exact this
  · exact no 1 (by decide) (by unfold refV; rw [if_neg hok]) (wayTo_arg h R hR hD hok l p)
end
end Go.Proofs.YtjhabngibbmpbaaGreat

namespace Go.Proofs.YtjhabngibbmpbaaGreat
open Go Go.RowKit
set_option linter.unusedSimpArgs false
set_option linter.unusedVariables false

set_option maxRecDepth 100000 in
set_option maxHeartbeats 4000000 in
theorem awake9_any (w : World) : Calls Tryz.prog 12 #[] w fun e w' => e = .returned (.bool true) ∧ Below w.heap.size w w' := by
  have hW : Hid (Calls Tryz.prog 39 #[.int .i64 2, .int .i64 6] w fun e w' => e = .returned (.tuple #[.slice (some ⟨w.heap.size, 0, none⟩) 2 2, .int .i64 0]) ∧ Blk w' w.heap.size 3 (va 2 (iv .i64 (wayN 2 6))) ∧ Below w.heap.size w w') := way_ok 2 6 (by decide) (by decide) w
  have hC : Hid (∀ w : World, Calls Tryz.prog 40 #[.int .i64 3] w fun e w' => e = .returned (.tuple #[.int .i64 64, .int .i64 0]) ∧ w = w') := fun w => capacity_ok 3 64 (by decide) (by decide) w
  go_enter Tryz.func12, Tryz.ntmps12
  go_wp2_with fail
  refine hW.out.mono ?_
  rintro e w1 ⟨rfl, b1, hb1⟩
  have c0 : w1.cell? ⟨w.heap.size, 0, none⟩ = some (.int .i64 1) := b1.cv (by decide)
  have c1 : w1.cell? ⟨w.heap.size, 1, none⟩ = some (.int .i64 2) := b1.cv (by decide)
  go_wp2_with fail
  refine (hC.out w1).mono ?_
  rintro e _ ⟨rfl, rfl⟩
  go_wp2_with fail
  go_ret
  exact ⟨rfl, hb1⟩
end Go.Proofs.YtjhabngibbmpbaaGreat

namespace Go.Proofs.YtjhabngibbmpbaaGreat
open Go Go.RowKit
set_option linter.unusedSimpArgs false
set_option linter.unusedVariables false

theorem sizeWo : (Tryz.prog.info? 25).map (·.size) = some 5 := by kernel_rfl
theorem woC_size (h : Int) (a : Option Addr) (n c : Nat) (ab : Option Addr) (nb cb : Nat) (tu ca : Int) : (woC h a n c ab nb cb tu ca).size = 5 := rfl
theorem IsBlks.keptBy {w w' : World} {b o n : Nat} {L : Nat → Nat → Nat} (h : IsBlks w (some ⟨b, o, none⟩) n L) (hs : w.heap.size ≤ w'.heap.size) (hk : w'.heap[b]? = w.heap[b]?) : IsBlks w' (some ⟨b, o, none⟩) n L := fun i hi => by
  obtain ⟨b', o', e, h1, h2⟩ := h i hi
  injection e with e
  injection e with e1 e2
  subst e1 e2
  exact ⟨b, o, rfl, Nat.lt_of_lt_of_le h1 hs, fun j v hv => by
    rw [← h2 j v hv]
    simp only [World.cell?, hk]⟩
/-- what the statements have behind made: a cache on a quiet disk, the image, the tree in a block -/
structure TW (w : World) (B g N : Nat) (F : Nat → Nat) (c m room i : Nat) (U : Nat → Prop) (ib xt : Nat) (h : Int) (R : Rf) : Prop where
  td : TD w B g N F c m room i U
  img : IsBlks w (some ⟨ib, 0, none⟩) N fun i => blkAt F i
  tr : Blk w xt 33 (trC h R)
  hib : ¬ U ib
  hxt : ¬ U xt
  bib : ib < w.heap.size
theorem TW.below {w w' : World} {B g N c m room i ib xt : Nat} {F : Nat → Nat} {U : Nat → Prop} {h : Int} {R : Rf} (H : TW w B g N F c m room i U ib xt h R) (hb : Below w.heap.size w w') : TW w' B g N F c m room i U ib xt h R := ⟨H.td.below hb, H.img.below hb, H.tr.below hb H.tr.lt, H.hib, H.hxt, Nat.lt_of_lt_of_le H.bib hb.size⟩
theorem TW.step {w w' : World} {B g N c m room i j ib xt : Nat} {F : Nat → Nat} {U : Nat → Prop} {h : Int} {R : Rf} (H : TW w B g N F c m room i U ib xt h R) (hs : TDStep w w' B g N F c m room j U) : ∃ V, TW w' B g N F c m room j V ib xt h R ∧ Turns U w w' ∧ ∀ x, V x → U x ∨ w.heap.size ≤ x := by
  obtain ⟨V, h1, h2, h3⟩ := hs
  refine ⟨V, ⟨h1, H.img.keptBy h2.size (h2.block ib H.bib H.hib), h2.blk H.tr H.hxt, fun z => ?_, fun z => ?_, Nat.lt_of_lt_of_le H.bib h2.size⟩, h2, h3⟩
  · rcases h3 _ z with y | y
    · exact H.hib y
    · have := H.bib
      omega
  · rcases h3 _ z with y | y
    · exact H.hxt y
    · have := H.tr.lt
      omega
end Go.Proofs.YtjhabngibbmpbaaGreat

namespace Go.Proofs.YtjhabngibbmpbaaGreat
open Go Go.RowKit
set_option linter.unusedSimpArgs false
set_option linter.unusedVariables false

set_option maxRecDepth 100000 in
set_option maxHeartbeats 8000000 in
theorem treeRefsLaw {h : Int} {a : Option Addr} {n c : Nat} {ab : Option Addr} {nb cb : Nat} {tu ca : Int} {A : Nat → Int} {Y : Nat → Nat} {Z : Nat → Int} (l p : Int) (hl : -9223372036854775808 ≤ l ∧ l ≤ 9223372036854775807) (hp : -9223372036854775808 ≤ p ∧ p ≤ 9223372036854775807) (w : World) (HW : Wo w h a n ab nb tu ca A Y Z) : Calls Tryz.prog 4 #[.agg (woC h a n c ab nb cb tu ca), .int .i64 l, .int .i64 p] w fun e w' => e = .returned (.bool true) ∧ Below w.heap.size w w' := by
  have hz := rtop_zero
  have hzr := zero_ref
  have hzrr := zero_rref
  have hb1 : Below w.heap.size w (w.alloc (.cells (woC h a n c ab nb cb tu ca) 25)) := below_new1 _ _
  have b1 : Blk (w.alloc (.cells (woC h a n c ab nb cb tu ca) 25)) w.heap.size 25 (woC h a n c ab nb cb tu ca) := Blk.new _ _ _
  have HMd : Hid (∀ V, Below w.heap.size w V → Calls Tryz.prog 11 #[.agg (woC h a n c ab nb cb tu ca)] V (MadeP V h n nb tu A Y)) := fun V hV => made_any V (HW.below hV)
  have HL : Hid ((-9223372036854775808 ≤ l ∧ l ≤ 9223372036854775807) ∧ -9223372036854775808 ≤ p ∧ p ≤ 9223372036854775807) := ⟨hl, hp⟩
  clear hl hp HW
  go_enter Tryz.func4, Tryz.ntmps4
  go_wp2_with (first
    | (refine wpList_load_rowg (by rfl) 25 _ (by rfl) (w.heap.size) (by rfl) 25 (woC h a n c ab nb cb tu ca) (0, 0) _ (by exact b1) Tryz.underlying25 (by rfl) (sizeWo.trans (by rw [woC_size])) ?_; simp only [Act.put, List.setIfInBounds_toArray, List.set_cons_zero, List.set_cons_succ])
    | fail)
  generalize (w.alloc (.cells (woC h a n c ab nb cb tu ca) 25)) = w1 at *
  refine (HMd.out _ hb1).mono ?_
  rintro e w2 ⟨cp, ib, N, ic, g, m, room, B, F, U, h', R, rfl, htd, hBi, himg, hF, hh, hR, _, hb2⟩
  have q0 : Blk (w2.alloc (.cells (trC 0 rf0) 33)) w2.heap.size 33 (trC 0 rf0) := Blk.new _ _ _
  have hst := Blk.store (P := Tryz.prog) q0 (trC h' R) (by simp only [trC_size]) (arr_mem (trC_all _ _))
  have hvs := trC_size h' R
  have hbq : Below w2.heap.size w2 ((w2.alloc (.cells (trC 0 rf0) 33)).setRow w2.heap.size (trC h' R)) := below_setRow (below_new1 _ _) (Nat.le_refl _) _
  have HTW : Hid (TW ((w2.alloc (.cells (trC 0 rf0) 33)).setRow w2.heap.size (trC h' R)) B g N F cp m room 0 U ib w2.heap.size h' R) := ⟨htd.below hbq, himg.below hbq, q0.set _, fun z => by have := (htd.lt _ z).1; omega, fun z => by have := (htd.lt _ z).2; omega, by have h1 := htd.hB; have h2 := hbq.size; omega⟩
  have HBB : Hid (w.heap.size ≤ B) := Nat.le_trans hb1.size hBi.1
  have HB2 : Hid (Below w.heap.size w ((w2.alloc (.cells (trC 0 rf0) 33)).setRow w2.heap.size (trC h' R))) := (hb1.trans (hb2.mono hb1.size)).trans (hbq.mono (hb1.trans (hb2.mono hb1.size)).size)
  have HF : Hid (∀ x, F x < 256) := hF
  have HH : Hid ((0 ≤ h' ∧ h' ≤ 7) ∧ R.1 < 4294967296 ∧ okD R.2) := ⟨hh, hR⟩
  clear htd hBi himg hF hh hR hb1 hb2 hbq HMd b1
  go_upto_region 2 with fail
  clear q0 hst hvs
  generalize ((w2.alloc (.cells (trC 0 rf0) 33)).setRow w2.heap.size (trC h' R)) = w3 at *
  generalize w2.heap.size = xt at *
  go_wp2_with fail
  refine (awake9_any w3).mono ?_
  rintro e w4 ⟨rfl, hb4⟩
  have HT4 : Hid (TW w4 B g N F cp m room 0 U ib xt h' R) := HTW.out.below hb4
  have HB4 : Hid (Below w.heap.size w w4) := HB2.out.trans (hb4.mono HB2.out.size)
  have t4 := HT4.out.tr
  clear HTW hb4 HB2
  go_wp2_with (first
    | (refine wpList_load_rowg (by rfl) 33 _ (by rfl) (xt) (by rfl) 33 (trC h' R) (0, 0) _ (by exact t4) Tryz.underlying33 (by rfl) (rsizeTr.trans (by rw [trC_size])) ?_; simp only [Act.put, List.setIfInBounds_toArray, List.set_cons_zero, List.set_cons_succ])
    | fail)
  refine (given_tree h' R w4).mono ?_
  rintro e w5 ⟨rfl, hb5⟩
  have HT5 : Hid (TW w5 B g N F cp m room 0 U ib xt h' R) := HT4.out.below hb5
  have HB5 : Hid (Below w.heap.size w w5) := HB4.out.trans (hb5.mono HB4.out.size)
  clear hb5 HT4 HB4 t4
  go_wp2_with fail
  refine (ref9_any h' R HH.out.2.1 HH.out.2.2 HF.out l p (by decide) w5 HT5.out.td).mono ?_
  rintro e w6 ⟨rfl, hs6⟩
  obtain ⟨V, ht6, hm6, hv6⟩ := HT5.out.step hs6
  obtain ⟨a1, a2, hrv⟩ : ∃ a1 a2, refV F N h' R l p = (a1, a2) := ⟨_, _, rfl⟩
  have HRV : Hid (refV F N h' R l p = (a1, a2)) := hrv
  rw [hrv]
  have q0 : Blk (w6.alloc (.cells (rfC rf0) 44)) w6.heap.size 44 (rfC rf0) := Blk.new _ _ _
  have hst := Blk.store (P := Tryz.prog) q0 (rfC a1) (by simp only [rfC_size]) (arr_mem (rfC_all _))
  have hvs := rfC_size a1
  have hbq : Below w6.heap.size w6 ((w6.alloc (.cells (rfC rf0) 44)).setRow w6.heap.size (rfC a1)) := below_setRow (below_new1 _ _) (Nat.le_refl _) _
  have HB6 : Hid (Below w.heap.size w w6) := HB5.out.trans (hm6.below (B := w.heap.size) HB5.out.size fun z hz => by have h1 := (HT5.out.td.lt z hz).1; have h2 := HBB.out; omega)
  have HT7 : Hid (TW ((w6.alloc (.cells (rfC rf0) 44)).setRow w6.heap.size (rfC a1)) B g N F cp m room (0 + 6) V ib xt h' R) := ht6.below hbq
  have HR7 : Hid (Blk ((w6.alloc (.cells (rfC rf0) 44)).setRow w6.heap.size (rfC a1)) w6.heap.size 44 (rfC a1)) := q0.set _
  have HB7 : Hid (Below w.heap.size w ((w6.alloc (.cells (rfC rf0) 44)).setRow w6.heap.size (rfC a1))) := HB6.out.trans (hbq.mono HB6.out.size)
  clear hs6 ht6 hm6 hv6 hrv hbq HB5 HT5
  go_upto_region 5 with fail
  clear q0 hst hvs
  generalize ((w6.alloc (.cells (rfC rf0) 44)).setRow w6.heap.size (rfC a1)) = w7 at *
  generalize w6.heap.size = rt at *
  have t7 := HT7.out.tr
  go_wp2_with (first
    | (refine wpList_load_rowg (by rfl) 33 _ (by rfl) (xt) (by rfl) 33 (trC h' R) (0, 0) _ (by exact t7) Tryz.underlying33 (by rfl) (rsizeTr.trans (by rw [trC_size])) ?_; simp only [Act.put, List.setIfInBounds_toArray, List.set_cons_zero, List.set_cons_succ])
    | fail)
  refine (rtright_any h' R w7).mono ?_
  rintro e w8 ⟨rfl, hb8⟩
  have HT8 : Hid (TW w8 B g N F cp m room (0 + 6) V ib xt h' R) := HT7.out.below hb8
  have HR8 : Hid (Blk w8 rt 44 (rfC a1)) := HR7.out.below hb8 HR7.out.lt
  have HB8 : Hid (Below w.heap.size w w8) := HB7.out.trans (hb8.mono HB7.out.size)
  clear hb8 HT7 HR7 HB7 t7 HB6
  by_cases hok : trOk h' R
  · rw [decide_eq_true hok]
    have HIN : Hid (0 ≤ h' ∧ h' ≤ 6) := ⟨hok.2.1, hok.2.2⟩
    have z8 : w8.cell? ⟨xt, 0, none⟩ = some (.int .i64 h') := (HT8.out.tr.cell 0).trans (va_at (trF h' R) (by decide))
    go_upto_region 7 with fail
    go_cut [68] (fun v wx => v = .bool (decide (outP h' l p)) ∧ w8 = wx)
    case first =>
      by_cases g0 : l < 0
      · have hd : decide (outP h' l p) = true := decide_eq_true (.inl g0)
        go_wp2_with fail
        go_meet
        exact ⟨by rw [hd], rfl⟩
      · by_cases g1 : h' < l
        · have hd : decide (outP h' l p) = true := decide_eq_true (.inr (.inl g1))
          go_wp2_with fail
          go_meet
          exact ⟨by rw [hd], rfl⟩
        · by_cases g2 : p < 0
          · have hd : decide (outP h' l p) = true := decide_eq_true (.inr (.inr (.inl g2)))
            go_wp2_with fail
            go_meet
            exact ⟨by rw [hd], rfl⟩
          · have hw : wrap64 (h' - l) = h' - l := wrap64_at _ (by have := HIN.out; omega)
            obtain ⟨q, hq⟩ : ∃ q : Nat, h' - l = (q : Int) := ⟨(h' - l).toNat, by omega⟩
            obtain ⟨c4, hc4⟩ : ∃ c4, 4 ^ q = c4 := ⟨_, rfl⟩
            have HCap : Hid (∀ w, Calls Tryz.prog 17 #[.int .i64 (h' - l)] w fun e w' => e = .returned (.int .i64 (c4 : Int)) ∧ w = w') := fun w => by
              rw [hq]
              exact refCap_any q c4 (by have := HIN.out; omega) hc4 w
            have HOut : Hid (outP h' l p ↔ (c4 : Int) ≤ p) := by
              show outP h' l p ↔ _
              unfold outP
              rw [hq, Int.toNat_natCast, hc4]
              omega
            clear hq hc4
            go_wp2_with fail
            refine (HCap.out _).mono ?_
            rintro e w9 ⟨rfl, rfl⟩
            go_wp2_with fail
            go_meet
            exact ⟨by rw [decide_eq_decide.2 HOut.out], rfl⟩
    case rest =>
      obtain ⟨rfl, rfl⟩ := hcut
      by_cases hout : outP h' l p
      · have r8 := HR8.out
        have e1 : a1 = rf0 ∧ a2 = 90 := by
          have := HRV.out
          unfold refV at this
          rw [if_pos hok, if_pos hout] at this
          exact ⟨(Prod.mk.inj this).1.symm, (Prod.mk.inj this).2.symm⟩
        obtain ⟨rfl, rfl⟩ := e1
        have heq : ∀ W, (Op.equalIn 10000 44 (.agg (rfC rf0)) (.agg (rfC rf0))).run Tryz.prog W = .ok true W := fun W => by
          have := eq_ref 9997 rf0 rf0 W
          rw [decide_eq_true rfl] at this
          exact this
        rw [decide_eq_true hout]
        go_wp2_with (first
          | (refine wpList_load_rowg (by rfl) 44 _ (by rfl) (rt) (by rfl) 44 (rfC rf0) (0, 0) _ (by exact r8) Tryz.underlying44 (by rfl) (tsizeRef.trans (by rw [rfC_size])) ?_; simp only [Act.put, List.setIfInBounds_toArray, List.set_cons_zero, List.set_cons_succ])
          | fail)
        go_ret
        exact ⟨rfl, HB8.out⟩
      · rw [decide_eq_false hout]
        have t8 := HT8.out.tr
        have h1 := HIN.out
        unfold outP at hout
        obtain ⟨pn, rfl⟩ := Int.eq_ofNat_of_zero_le (show 0 ≤ p by omega)
        have hfol : folR F N h' R ((List.range (h' - l).toNat).map (wayN (h' - l).toNat pn)) = (a1, a2) := by
          have := HRV.out
          unfold refV wayTo9 at this
          rw [if_pos hok, if_neg (show ¬ outP h' l (pn : Int) from hout), Int.toNat_natCast] at this
          exact this
        have HDn : Hid (Calls Tryz.prog 20 #[.slice (some ⟨ib, 0, none⟩) N ic, .agg (trC h' R), .int .i64 l, .int .i64 (pn : Int)] w8 fun x w' => ∃ a c nn, x = .returned (.tuple #[.agg (rfC a1), .slice a nn c, .int .i64 a2]) ∧ (a2 = 0 → nn = (folB F N h' R ((List.range (h' - l).toNat).map (wayN (h' - l).toNat pn))).length ∧ w'.ownsRow w8.heap.size 37 256 (.slice a (folB F N h' R ((List.range (h' - l).toNat).map (wayN (h' - l).toNat pn))).length c) (folB F N h' R ((List.range (h' - l).toNat).map (wayN (h' - l).toNat pn))).length (bkL (folB F N h' R ((List.range (h' - l).toNat).map (wayN (h' - l).toNat pn))))) ∧ Below w8.heap.size w8 w') :=
          rdown_any h' R HH.out.2.1 HF.out h1 l pn ⟨by omega, by omega⟩ (h' - l).toNat (by omega) (by omega) a1 a2 hfol _ rfl (some ⟨ib, 0, none⟩) ic HT8.out.td.nN w8 HT8.out.img
        clear hfol hout h1 hok
        go_wp2_with (first
          | (refine wpList_load_rowg (by rfl) 33 _ (by rfl) (xt) (by rfl) 33 (trC h' R) (0, 0) _ (by exact t8) Tryz.underlying33 (by rfl) (rsizeTr.trans (by rw [trC_size])) ?_; simp only [Act.put, List.setIfInBounds_toArray, List.set_cons_zero, List.set_cons_succ])
          | fail)
        refine HDn.out.mono ?_
        rintro e w9 ⟨da, dc, dn, rfl, _, hb9⟩
        have q0 : Blk (w9.alloc (.cells (rfC rf0) 31)) w9.heap.size 31 (rfC rf0) := Blk.new _ _ _
        have hst := Blk.store (P := Tryz.prog) q0 (rfC a1) (by simp only [rfC_size]) (arr_mem (rfC_all _))
        have hvs := rfC_size a1
        have hbq : Below w9.heap.size w9 ((w9.alloc (.cells (rfC rf0) 31)).setRow w9.heap.size (rfC a1)) := below_setRow (below_new1 _ _) (Nat.le_refl _) _
        have hb10 := hb9.trans (hbq.mono hb9.size)
        have r10 : Blk ((w9.alloc (.cells (rfC rf0) 31)).setRow w9.heap.size (rfC a1)) rt 44 (rfC a1) := HR8.out.below hb10 HR8.out.lt
        have d10 : Blk ((w9.alloc (.cells (rfC rf0) 31)).setRow w9.heap.size (rfC a1)) w9.heap.size 31 (rfC a1) := q0.set _
        have HB10 : Hid (Below w.heap.size w ((w9.alloc (.cells (rfC rf0) 31)).setRow w9.heap.size (rfC a1))) := HB8.out.trans (hb10.mono HB8.out.size)
        have HEQ : ∀ W, (Op.equalIn 10000 44 (.agg (rfC a1)) (.agg (rfC a1))).run Tryz.prog W = .ok true W := fun W => by
          have := eq_ref 9997 a1 a1 W
          rw [decide_eq_true rfl] at this
          exact this
        clear hb9 hbq hb10 HT8 HR8 HB8 HDn t8 z8
        go_upto_region 10 with fail
        clear q0 hst hvs
        generalize ((w9.alloc (.cells (rfC rf0) 31)).setRow w9.heap.size (rfC a1)) = w10 at *
        generalize w9.heap.size = dt at *
        refine wp_region_partsS (fun W => Blk W rt 44 (rfC a1) ∧ Blk W dt 31 (rfC a1)) [([], 0, true), ([], 1, false), ([], 2, false), ([], 3, false), ([4, 5, 6], 7, false)] [8, 9] [] (by kernel_rfl) (by kernel_rfl) ⟨r10, d10⟩ (partsI_yield ?_)
        simp only [List.cons_append, List.nil_append, List.append_nil, List.filterMap_cons, List.filterMap_nil, List.getElem?_toArray, List.getElem?_cons_zero, List.getElem?_cons_succ]
        go_wp2_with fail
        refine ⟨rfl, _, .agg (rfC a1), rfl, kyields_load (by rfl) 44 _ (by rfl) rt 33 (rfF a1.1 a1.2) (by rfl) _ 44 (fun W hW => hW.1) Tryz.underlying44 rfl tsizeRef, partsI_force ?_⟩
        simp only [Act.put, List.setIfInBounds_toArray, List.set_cons_zero, List.set_cons_succ]
        simp only [List.cons_append, List.nil_append, List.append_nil, List.filterMap_cons, List.filterMap_nil, List.getElem?_toArray, List.getElem?_cons_zero, List.getElem?_cons_succ]
        (refine wpList_load_rowg (by rfl) 31 _ (by rfl) (dt) (by rfl) 31 (rfC a1) (0, 0) _ (by exact d10) Tryz.underlying31 (by rfl) (rsizeRef.trans (by rw [rfC_size])) ?_; simp only [Act.put, List.setIfInBounds_toArray, List.set_cons_zero, List.set_cons_succ])
        go_wp2_with fail
        refine ⟨rfl, ⟨r10, d10⟩, partsI_force ?_⟩
        simp only [List.cons_append, List.nil_append, List.append_nil, List.filterMap_cons, List.filterMap_nil, List.getElem?_toArray, List.getElem?_cons_zero, List.getElem?_cons_succ]
        go_wp2_with fail
        refine (lref_any a1 _).mono ?_
        rintro e w11 ⟨rfl, hb11⟩
        have r11 : Blk w11 rt 44 (rfC a1) := Blk.below (show Blk w10.drew rt _ _ from r10) hb11 r10.lt
        have d11 : Blk w11 dt 31 (rfC a1) := Blk.below (show Blk w10.drew dt _ _ from d10) hb11 d10.lt
        have HB11 : Hid (Below w.heap.size w w11) := HB10.out.drew.trans (hb11.mono HB10.out.drew.size)
        clear hb11
        go_wp2_with fail
        refine ⟨rfl, ⟨r11, d11⟩, partsI_force ?_⟩
        simp only [List.cons_append, List.nil_append, List.append_nil, List.filterMap_cons, List.filterMap_nil, List.getElem?_toArray, List.getElem?_cons_zero, List.getElem?_cons_succ]
        go_wp2_with fail
        refine ⟨rfl, ⟨r11, d11⟩, partsI_force ?_⟩
        simp only [List.cons_append, List.nil_append, List.append_nil, List.filterMap_cons, List.filterMap_nil, List.getElem?_toArray, List.getElem?_cons_zero, List.getElem?_cons_succ]
        go_wp2_with fail
        refine ⟨rfl, ⟨r11, d11⟩, partsI_last ?_⟩
        simp only [List.cons_append, List.nil_append, List.append_nil, List.filterMap_cons, List.filterMap_nil, List.getElem?_toArray, List.getElem?_cons_zero, List.getElem?_cons_succ]
        go_wp2_with fail
        refine ⟨rfl, ?_⟩
        go_wp2_with fail
        go_ret
        exact ⟨by simp, HB11.out⟩
  · rw [decide_eq_false hok]
    have r8 := HR8.out
    have e1 : a1 = rf0 ∧ a2 = 1 := by
      have := HRV.out
      unfold refV at this
      rw [if_neg hok] at this
      exact ⟨(Prod.mk.inj this).1.symm, (Prod.mk.inj this).2.symm⟩
    obtain ⟨rfl, rfl⟩ := e1
    have heq : ∀ W, (Op.equalIn 10000 44 (.agg (rfC rf0)) (.agg (rfC rf0))).run Tryz.prog W = .ok true W := fun W => by
      have := eq_ref 9997 rf0 rf0 W
      rw [decide_eq_true rfl] at this
      exact this
    go_wp2_with (first
      | (refine wpList_load_rowg (by rfl) 44 _ (by rfl) (rt) (by rfl) 44 (rfC rf0) (0, 0) _ (by exact r8) Tryz.underlying44 (by rfl) (tsizeRef.trans (by rw [rfC_size])) ?_; simp only [Act.put, List.setIfInBounds_toArray, List.set_cons_zero, List.set_cons_succ])
      | fail)
    go_ret
    exact ⟨rfl, HB8.out⟩
end Go.Proofs.YtjhabngibbmpbaaGreat

namespace Go.Proofs.YtjhabngibbmpbaaGreat
open Go.ChangeShapes Go.WideShapes Go.ChangeAt Go.RowKit Go.Joins
set_option linter.unusedVariables false
set_option linter.unusedSimpArgs false
theorem wcell_lt {w : World} {a : Addr} {v : Value} (h : w.cell? a = some v) : a.block < w.heap.size := by
  obtain ⟨e, n, hs, _⟩ := World.shape?_of_cell? h
  unfold World.shape? at hs
  cases hb : w.heap[a.block]? with
  | none => simp [hb] at hs
  | some o => exact (Array.getElem?_eq_some_iff.1 hb).1
set_option maxRecDepth 100000 in
theorem open_fills {H : Type} {enc : TypeId × Value → H} {W : World} {a0 : Option Addr} {len cap fuel : Nat} {x : DataW H × List MemPlace}
    (hf : DataW.trod enc Tryz.prog W 0 (fun _ => true) true fuel 22 [.slice a0 len cap] = some x) (hsz : ∀ n ∈ x.1.weights Tryz.prog 22, n ≤ reachBytes) :
    ∃ (A : Nat → Int) (Y : Nat → Nat), len ≤ 9223372036854775807 ∧ IsFl W a0 len A Y := by
  rcases Deep.open_slice Tryz.underlying22 hf with ⟨hcs, hx⟩ | ⟨a, len', cap', m, n, D, Pl, hcs, _, hl, hm, hmm, hx, hel⟩
  · simp at hcs
    obtain ⟨rfl, rfl, rfl⟩ := hcs
    exact ⟨fun _ => 0, fun _ => 0, by omega, fun i hi => absurd hi (by omega)⟩
  · simp at hcs
    obtain ⟨rfl, rfl, rfl⟩ := hcs
    subst hx
    simp only [if_true] at hmm
    subst hmm
    have hu := Tryz.underlying22
    have hby : Tryz.prog.bytesOf 83 = 16 := by kernel_rfl
    have hw0 := hsz ((((List.range len).map D).length + ((List.range (m - len)).map fun j => D (len + j)).length) * Tryz.prog.bytesOf 83) (by simp [DataW.weights, hu])
    rw [hby] at hw0
    simp only [List.length_map, List.length_range] at hw0
    have hlen4 : len ≤ 9223372036854775807 := by
      unfold reachBytes at hw0
      omega
    have hce : Tryz.prog.cellsOf 83 = 2 := by kernel_rfl
    have hci : Tryz.prog.cellsOf 3 = 1 := by kernel_rfl
    have hcu : Tryz.prog.cellsOf 5 = 1 := by kernel_rfl
    have hsp : 0 < len → a.spot = none := fun h0 => by
      obtain ⟨cs', h1, _⟩ := hel 0 (by omega)
      rw [hce] at h1
      obtain ⟨_, hcl, hcell⟩ := World.cells?_some h1
      match cs', hcl with
      | [v0, v1], _ => simpa [Addr.add] using World.cell?_spot (hcell 0 (by omega))
    have each : ∀ i, ∃ q : Int × Nat, i < len → ∃ b o, a = ⟨b, o, none⟩ ∧ b < W.heap.size ∧ W.cell? ⟨b, o + i * 2, none⟩ = some (.int .i64 q.1) ∧ W.cell? ⟨b, o + i * 2 + 1, none⟩ = some (.int .u8 ((q.2 : Nat) : Int)) ∧ q.2 < 256 ∧ (-9223372036854775808 ≤ q.1 ∧ q.1 ≤ 9223372036854775807) := by
      intro i
      by_cases hi : i < len
      · obtain ⟨cs', h1, h2⟩ := hel i (by omega)
        rw [hce] at h1
        obtain ⟨_, hcl, hcell⟩ := World.cells?_some h1
        obtain ⟨xs, k, hk, hxy, _, hxl, hfs⟩ := DataW.trod_struct Tryz.underlying83 h2
        match xs, hxl, cs', hcl with
        | [y0, y1], _, [v0, v1], _ =>
          have g0 := hfs 0 _ rfl
          have g1 := hfs 1 _ rfl
          simp [hci, hcu] at g0 g1
          obtain ⟨p, e0, _, w0⟩ := DataW.trod_int Tryz.underlying3 g0
          obtain ⟨q, e1, _, w1⟩ := DataW.trod_int Tryz.underlying5 g1
          simp at e0 e1
          subst e0 e1
          have hb8 := bounds_u8 w1
          obtain ⟨q, rfl⟩ := Int.eq_ofNat_of_zero_le hb8.1
          refine ⟨(p, q), fun _ => ?_⟩
          have c0 := hcell 0 (by decide)
          have c1 := hcell 1 (by decide)
          obtain ⟨b, off, spot⟩ := a
          have hspot : spot = none := hsp (by omega)
          subst hspot
          simp only [Addr.add_mid, List.getElem?_cons_zero, List.getElem?_cons_succ] at c0 c1
          exact ⟨b, off, rfl, wcell_lt c0, c0, c1, by omega, bounds_i64 w0⟩
      · exact ⟨(0, 0), fun h => absurd h hi⟩
    refine ⟨fun i => (Classical.choose (each i)).1, fun i => (Classical.choose (each i)).2, hlen4, fun i hi => ?_⟩
    obtain ⟨b, o, rfl, h1, h2, h3, h4, h5⟩ := Classical.choose_spec (each i) hi
    exact ⟨b, o, rfl, h1, h2, h3, h4, h5⟩
set_option maxRecDepth 100000 in
theorem open_ints9 {H : Type} {enc : TypeId × Value → H} {W : World} {a0 : Option Addr} {len cap fuel : Nat} {x : DataW H × List MemPlace}
    (hf : DataW.trod enc Tryz.prog W 0 (fun _ => true) true fuel 23 [.slice a0 len cap] = some x) (hsz : ∀ n ∈ x.1.weights Tryz.prog 23, n ≤ reachBytes) :
    ∃ (A : Nat → Int), len ≤ 9223372036854775807 ∧ IsIn W a0 len A := by
  rcases Deep.open_slice Tryz.underlying23 hf with ⟨hcs, hx⟩ | ⟨a, len', cap', m, n, D, Pl, hcs, _, hl, hm, hmm, hx, hel⟩
  · simp at hcs
    obtain ⟨rfl, rfl, rfl⟩ := hcs
    exact ⟨fun _ => 0, by omega, fun i hi => absurd hi (by omega)⟩
  · simp at hcs
    obtain ⟨rfl, rfl, rfl⟩ := hcs
    subst hx
    simp only [if_true] at hmm
    subst hmm
    have hu := Tryz.underlying23
    have hby : Tryz.prog.bytesOf 3 = 8 := by kernel_rfl
    have hw0 := hsz ((((List.range len).map D).length + ((List.range (m - len)).map fun j => D (len + j)).length) * Tryz.prog.bytesOf 3) (by simp [DataW.weights, hu])
    rw [hby] at hw0
    simp only [List.length_map, List.length_range] at hw0
    have hlen4 : len ≤ 9223372036854775807 := by
      unfold reachBytes at hw0
      omega
    have hce : Tryz.prog.cellsOf 3 = 1 := by kernel_rfl
    have hsp : 0 < len → a.spot = none := fun h0 => by
      obtain ⟨cs', h1, _⟩ := hel 0 (by omega)
      rw [hce] at h1
      obtain ⟨_, hcl, hcell⟩ := World.cells?_some h1
      match cs', hcl with
      | [v0], _ => simpa [Addr.add] using World.cell?_spot (hcell 0 (by omega))
    have each : ∀ i, ∃ q : Int, i < len → ∃ b o, a = ⟨b, o, none⟩ ∧ b < W.heap.size ∧ W.cell? ⟨b, o + i, none⟩ = some (.int .i64 q) ∧ (-9223372036854775808 ≤ q ∧ q ≤ 9223372036854775807) := by
      intro i
      by_cases hi : i < len
      · obtain ⟨cs', h1, h2⟩ := hel i (by omega)
        rw [hce] at h1
        obtain ⟨_, hcl, hcell⟩ := World.cells?_some h1
        match cs', hcl with
        | [v0], _ =>
          obtain ⟨p, e0, _, w0⟩ := DataW.trod_int Tryz.underlying3 h2
          simp at e0
          subst e0
          refine ⟨p, fun _ => ?_⟩
          have c0 := hcell 0 (by decide)
          obtain ⟨b, off, spot⟩ := a
          have hspot : spot = none := hsp (by omega)
          subst hspot
          simp only [Addr.add_mid, List.getElem?_cons_zero, Nat.mul_one, Nat.add_zero] at c0
          exact ⟨b, off, rfl, wcell_lt c0, c0, bounds_i64 w0⟩
      · exact ⟨0, fun h => absurd h hi⟩
    refine ⟨fun i => Classical.choose (each i), hlen4, fun i hi => ?_⟩
    obtain ⟨b, o, rfl, h1, h2, h3⟩ := Classical.choose_spec (each i) hi
    exact ⟨b, o, rfl, h1, h2, h3⟩
set_option maxRecDepth 100000 in
theorem open_world {H : Type} {enc : TypeId × Value → H} {W : World} {r : Reach} {b0 : Nat} {v : Value} {d : DataW H} {p : List MemPlace}
    (hv : Value.okWide Tryz.prog W r b0 25 v) (h : DataW.Trod enc Tryz.prog W 0 (fun _ => true) true 25 v d p) (hsz : ∀ n ∈ d.weights Tryz.prog 25, n ≤ reachBytes) :
    ∃ (h : Int) (a : Option Addr) (n c : Nat) (ab : Option Addr) (nb cb : Nat) (tu ca : Int) (A : Nat → Int) (Y : Nat → Nat) (Z : Nat → Int), v = .agg (woC h a n c ab nb cb tu ca) ∧ Wo W h a n ab nb tu ca A Y Z := by
  obtain ⟨cs, rfl, hcs⟩ := okWide_struct Tryz.underlying25 hv
  obtain ⟨fuel, hf⟩ := h
  have hc : Tryz.prog.cellsOf 25 = 5 := by kernel_rfl
  rw [hc] at hcs
  have hcf : Tryz.prog.cellsOf 22 = 1 := by kernel_rfl
  have hcn : Tryz.prog.cellsOf 23 = 1 := by kernel_rfl
  have hci : Tryz.prog.cellsOf 3 = 1 := by kernel_rfl
  obtain ⟨xs, k, hk, hxy, _, hxl, hfs⟩ := DataW.trod_struct Tryz.underlying25 hf
  obtain ⟨l, rfl⟩ : ∃ l : List Value, cs = l.toArray := ⟨cs.toList, by simp⟩
  have hl : l.length = 5 := by simpa using hcs
  match xs, hxl, l, hl with
  | [y0, y1, y2, y3, y4], _, [v0, v1, v2, v3, v4], _ =>
    have g0 := hfs 0 _ rfl
    have g1 := hfs 1 _ rfl
    have g2 := hfs 2 _ rfl
    have g3 := hfs 3 _ rfl
    have g4 := hfs 4 _ rfl
    simp [hcf, hcn, hci, Value.cells] at g0 g1 g2 g3 g4
    obtain ⟨h, e0, _, w0⟩ := DataW.trod_int Tryz.underlying3 g0
    obtain ⟨tu, e3, _, w3⟩ := DataW.trod_int Tryz.underlying3 g3
    obtain ⟨ca, e4, _, w4⟩ := DataW.trod_int Tryz.underlying3 g4
    simp at e0 e3 e4
    subst e0 e3 e4
    have hD : d = .agg [y0.1, y1.1, y2.1, y3.1, y4.1] := by
      have := congrArg Prod.fst hxy
      simpa using this
    have hf1 : ∃ a N c, v1 = .slice a N c := by
      rcases Deep.open_slice Tryz.underlying22 g1 with ⟨hcs, _⟩ | ⟨a, len', cap', _, _, _, _, hcs, _⟩
      · simp at hcs
        exact ⟨_, _, _, hcs⟩
      · simp at hcs
        exact ⟨_, _, _, hcs⟩
    have hf2 : ∃ a N c, v2 = .slice a N c := by
      rcases Deep.open_slice Tryz.underlying23 g2 with ⟨hcs, _⟩ | ⟨a, len', cap', _, _, _, _, hcs, _⟩
      · simp at hcs
        exact ⟨_, _, _, hcs⟩
      · simp at hcs
        exact ⟨_, _, _, hcs⟩
    obtain ⟨a, n, c, rfl⟩ := hf1
    obtain ⟨ab, nb, cb, rfl⟩ := hf2
    obtain ⟨A, Y, h1, h2⟩ := open_fills (x := y1) g1 (fun n hn => by
      refine hsz n ?_
      rw [hD]
      simp only [DataW.weights, Tryz.underlying25]
      exact DataW.weights_mem_each (j := 1) (t := 22) (d := y1.1) rfl rfl n hn)
    obtain ⟨Z, h3, h4⟩ := open_ints9 (x := y2) g2 (fun n hn => by
      refine hsz n ?_
      rw [hD]
      simp only [DataW.weights, Tryz.underlying25]
      exact DataW.weights_mem_each (j := 2) (t := 23) (d := y2.1) rfl rfl n hn)
    exact ⟨h, a, n, c, ab, nb, cb, tu, ca, A, Y, Z, rfl, ⟨h1, h3, h2, h4, bounds_i64 w0, bounds_i64 w3, bounds_i64 w4⟩⟩
end Go.Proofs.YtjhabngibbmpbaaGreat
