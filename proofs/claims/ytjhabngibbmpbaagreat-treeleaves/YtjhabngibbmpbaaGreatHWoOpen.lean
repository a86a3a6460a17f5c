/- A world of a tree as an argument, opened: a height, leaves, places, two numbers; no condition but that it is one. -/
import Derived.Test.YtjhabngibbmpbaaGreatHTrFolM
import Derived.Test.YtjhabngibbmpbaaGreatHTrRLv
import Derived.Test.YtjhabngibbmpbaaGreatHSegsIf
import Derived.Test.YtjhabngibbmpbaaGreatRows
import Derived.WalkKit
import Derived.ProofKit
import Derived.OpenShut
import Derived.Carry
import Derived.Deep.Slices
import Derived.Lib.SmallJoins
import Derived.SizedLaws
import Derived.Test.YtjhabngibbmpbaaGreatHTrRef

namespace Go.Proofs.YtjhabngibbmpbaaGreat
theorem sgLHWoOpen : (∀ (α : Type) (a : α) (l r : List α), (a :: l) ++ r = a :: (l ++ r)) ∧ (∀ (α : Type) (l : List α), [] ++ l = l) ∧ (∀ (α : Type) (l : List α), l ++ [] = l) ∧ (∀ (α β : Type) (f : α → Option β) (a : α) (l : List α), (a :: l).filterMap f = match f a with | none => l.filterMap f | some b => b :: l.filterMap f) ∧ (∀ (α β : Type) (f : α → Option β), [].filterMap f = []) ∧ (∀ (α : Type) (l : List α) (i : Nat), l.toArray[i]? = l[i]?) ∧ (∀ (α : Type) (a : α) (l : List α), (a :: l)[0]? = some a) ∧ (∀ (α : Type) (a : α) (l : List α) (i : Nat), (a :: l)[i + 1]? = l[i]?) :=
  ⟨fun _ _ _ _ => List.cons_append, fun _ _ => List.nil_append _, fun _ _ => List.append_nil _, fun _ _ _ _ _ => List.filterMap_cons, fun _ _ _ => List.filterMap_nil, fun _ _ _ => List.getElem?_toArray, fun _ _ _ => List.getElem?_cons_zero, fun _ _ _ _ => List.getElem?_cons_succ⟩
theorem sgPHWoOpen : (∀ (α : Type) (l : List α) (i : Nat) (a : α), l.toArray.setIfInBounds i a = (l.set i a).toArray) ∧ (∀ (α : Type) (a b : α) (l : List α), (a :: l).set 0 b = b :: l) ∧ (∀ (α : Type) (a b : α) (l : List α) (i : Nat), (a :: l).set (i + 1) b = a :: l.set i b) :=
  ⟨fun _ _ _ _ => List.setIfInBounds_toArray _ _ _, fun _ _ _ _ => List.set_cons_zero, fun _ _ _ _ _ => List.set_cons_succ⟩
end Go.Proofs.YtjhabngibbmpbaaGreat
namespace Go.Proofs.YtjhabngibbmpbaaGreat
open Go Go.RowKit
set_option linter.unusedSimpArgs false
set_option linter.unusedVariables false
set_option maxRecDepth 100000 in
set_option maxHeartbeats 16000000 in
theorem treeLeavesLaw {h : Int} {a : Option Addr} {n c : Nat} {ab : Option Addr} {nb cb : Nat} {tu ca : Int} {A : Nat → Int} {Y : Nat → Nat} {Z : Nat → Int} (p : Int) (hp : -9223372036854775808 ≤ p ∧ p ≤ 9223372036854775807) (w : World) (HW : Wo w h a n ab nb tu ca A Y Z) : Calls Tryz.prog 3 #[.agg (woC h a n c ab nb cb tu ca), .int .i64 p] w fun e w' => e = .returned (.bool true) ∧ Below w.heap.size w w' := by
  have hz := rtop_zero
  have hzr := zero_ref
  have hzrr := zero_rref
  have hzb := zero_bk
  have hzbr := rzero_bk
  have hb1 : Below w.heap.size w (w.alloc (.cells (woC h a n c ab nb cb tu ca) 25)) := below_new1 _ _
  have b1 : Blk (w.alloc (.cells (woC h a n c ab nb cb tu ca) 25)) w.heap.size 25 (woC h a n c ab nb cb tu ca) := Blk.new _ _ _
  have HMd : Hid (∀ V, Below w.heap.size w V → Calls Tryz.prog 11 #[.agg (woC h a n c ab nb cb tu ca)] V (MadeP V h n nb tu A Y)) := fun V hV => made_any V (HW.below hV)
  have HL : Hid (-9223372036854775808 ≤ p ∧ p ≤ 9223372036854775807) := hp
  clear hp HW
  go_enter Tryz.func3, Tryz.ntmps3
  go_wp2_with (first
    | (refine wpList_load_rowg (by rfl) 25 _ (by rfl) (w.heap.size) (by rfl) 25 (woC h a n c ab nb cb tu ca) (0, 0) _ (by exact b1) Tryz.underlying25 (by rfl) (sizeWo.trans (by rw [woC_size])) ?_; simp only [Act.put, sgPHWoOpen])
    | fail)
  generalize (w.alloc (.cells (woC h a n c ab nb cb tu ca) 25)) = w1 at *
  refine (HMd.out _ hb1).mono ?_
  rintro e w2 ⟨cp, ib, N, ic, g, m, room, B, F, U, h', R, rfl, htd, hBi, himg, hF, hh, hR, _, hb2⟩
  have q0 : Blk (w2.alloc (.cells (trC 0 rf0) 33)) w2.heap.size 33 (trC 0 rf0) := Blk.new _ _ _
  have hst := Blk.store (P := Tryz.prog) q0 (trC h' R) (by simp only [trC_size]) (arr_mem (trC_all _ _))
  have hvs := trC_size h' R
  have hbq : Below w2.heap.size w2 ((w2.alloc (.cells (trC 0 rf0) 33)).setRow w2.heap.size (trC h' R)) := below_setRow (below_new1 _ _) (Nat.le_refl _) _
  have HTW : Hid (TW ((w2.alloc (.cells (trC 0 rf0) 33)).setRow w2.heap.size (trC h' R)) B g N F cp m room 0 U ib w2.heap.size h' R) := ⟨htd.below hbq, himg.below hbq, q0.set _, fun z => by have := (htd.lt _ z).1; omega, fun z => by have := (htd.lt _ z).2; omega, by have h1 := htd.hB; have h2 := hbq.size; omega⟩
  have HBB : Hid (w.heap.size ≤ B) := Nat.le_trans hb1.size hBi.1
  have HB2 : Hid (Below w.heap.size w ((w2.alloc (.cells (trC 0 rf0) 33)).setRow w2.heap.size (trC h' R))) := (hb1.trans (hb2.mono hb1.size)).trans (hbq.mono (hb1.trans (hb2.mono hb1.size)).size)
  have HF : Hid (∀ x, F x < 256) := hF
  have HH : Hid ((0 ≤ h' ∧ h' ≤ 7) ∧ R.1 < 4294967296 ∧ okD R.2) := ⟨hh, hR⟩
  clear htd hBi himg hF hh hR hb1 hb2 hbq HMd b1
  go_upto_region 2 with fail
  clear q0 hst hvs
  generalize ((w2.alloc (.cells (trC 0 rf0) 33)).setRow w2.heap.size (trC h' R)) = w3 at *
  generalize w2.heap.size = xt at *
  go_wp2_with fail
  refine (awake9_any w3).mono ?_
  rintro e w4 ⟨rfl, hb4⟩
  have HT4 : Hid (TW w4 B g N F cp m room 0 U ib xt h' R) := HTW.out.below hb4
  have HB4 : Hid (Below w.heap.size w w4) := HB2.out.trans (hb4.mono HB2.out.size)
  have t4 := HT4.out.tr
  clear HTW hb4 HB2
  go_wp2_with (first
    | (refine wpList_load_rowg (by rfl) 33 _ (by rfl) (xt) (by rfl) 33 (trC h' R) (0, 0) _ (by exact t4) Tryz.underlying33 (by rfl) (rsizeTr.trans (by rw [trC_size])) ?_; simp only [Act.put, sgPHWoOpen])
    | fail)
  refine (given_tree h' R w4).mono ?_
  rintro e w5 ⟨rfl, hb5⟩
  have HT5 : Hid (TW w5 B g N F cp m room 0 U ib xt h' R) := HT4.out.below hb5
  have HB5 : Hid (Below w.heap.size w w5) := HB4.out.trans (hb5.mono HB4.out.size)
  clear hb5 HT4 HB4 t4
  go_wp2_with fail
  refine (leaf9_any h' R HH.out.2.1 HH.out.2.2 HF.out p (by decide) w5 HT5.out.td).mono ?_
  rintro e w6 ⟨rfl, hs6⟩
  obtain ⟨V, ht6, hm6, hv6⟩ := HT5.out.step hs6
  obtain ⟨lv, hlv⟩ : ∃ lv, (leafV F N h' R p).1 = lv := ⟨_, rfl⟩
  obtain ⟨le, hle⟩ : ∃ le, (leafV F N h' R p).2 = le := ⟨_, rfl⟩
  have HLV : Hid ((leafV F N h' R p).1 = lv ∧ (leafV F N h' R p).2 = le) := ⟨hlv, hle⟩
  rw [hlv, hle]
  have q0 : Blk (w6.alloc (.cells (va 256 (iv .u8 fun _ => 0)) 38)) w6.heap.size 38 (va 256 (iv .u8 fun _ => 0)) := Blk.new _ _ _
  have hbq : Below w6.heap.size w6 ((w6.alloc (.cells (va 256 (iv .u8 fun _ => 0)) 38)).setRow w6.heap.size (va 256 (iv .u8 lv))) := below_setRow (below_new1 _ _) (Nat.le_refl _) _
  have HB6 : Hid (Below w.heap.size w w6) := HB5.out.trans (hm6.below (B := w.heap.size) HB5.out.size fun z hz => by have h1 := (HT5.out.td.lt z hz).1; have h2 := HBB.out; omega)
  have HT7 : Hid (TW ((w6.alloc (.cells (va 256 (iv .u8 fun _ => 0)) 38)).setRow w6.heap.size (va 256 (iv .u8 lv))) B g N F cp m room (0 + 7) V ib xt h' R) := ht6.below hbq
  have HL7 : Hid (Blk ((w6.alloc (.cells (va 256 (iv .u8 fun _ => 0)) 38)).setRow w6.heap.size (va 256 (iv .u8 lv))) w6.heap.size 38 (va 256 (iv .u8 lv))) := q0.set _
  have HB7 : Hid (Below w.heap.size w ((w6.alloc (.cells (va 256 (iv .u8 fun _ => 0)) 38)).setRow w6.heap.size (va 256 (iv .u8 lv)))) := HB6.out.trans (hbq.mono HB6.out.size)
  have HVL : Hid (¬ V w6.heap.size) := fun z => by have := (ht6.td.lt _ z).2; omega
  clear hs6 ht6 hm6 hv6 hlv hle hbq HB5 HT5
  go_upto_region 5 with (first
    | (refine wpList_store_row (by rfl) 38 _ _ (by rfl) (w6.heap.size) (va 256 (iv .u8 lv)) (by rfl) (by rfl) 38 _ q0 (sizeBk.trans (by rw [va_size])) (by simp only [va_size]) (iv_one _ _ _) ?_; simp only [Act.put, sgPHWoOpen])
    | fail)
  clear q0
  generalize ((w6.alloc (.cells (va 256 (iv .u8 fun _ => 0)) 38)).setRow w6.heap.size (va 256 (iv .u8 lv))) = w7 at *
  generalize w6.heap.size = lb at *
  have t7 := HT7.out.tr
  go_wp2_with (first
    | (refine wpList_load_rowg (by rfl) 33 _ (by rfl) (xt) (by rfl) 33 (trC h' R) (0, 0) _ (by exact t7) Tryz.underlying33 (by rfl) (rsizeTr.trans (by rw [trC_size])) ?_; simp only [Act.put, sgPHWoOpen])
    | fail)
  refine (given_tree h' R w7).mono ?_
  rintro e w8 ⟨rfl, hb8⟩
  have HT8 : Hid (TW w8 B g N F cp m room (0 + 7) V ib xt h' R) := HT7.out.below hb8
  have HB8 : Hid (Below w.heap.size w w8) := HB7.out.trans (hb8.mono HB7.out.size)
  have HL8 : Hid (Blk w8 lb 38 (va 256 (iv .u8 lv))) := HL7.out.below hb8 HL7.out.lt
  clear hb8 HT7 HB7 HL7 t7 HB6
  go_wp2_with fail
  refine (blocks9_any h' R HH.out.2.1 HH.out.2.2 HF.out p (by decide) w8 HT8.out.td).mono ?_
  rintro e w9 ⟨v, rfl, ho9, hs9⟩
  obtain ⟨V9, ht9, hm9, hv9⟩ := HT8.out.step hs9
  obtain ⟨L, hL⟩ : ∃ L, (blocksV F N h' R p).1 = L := ⟨_, rfl⟩
  obtain ⟨be, hbe⟩ : ∃ be, (blocksV F N h' R p).2 = be := ⟨_, rfl⟩
  rw [hL] at ho9
  rw [hbe]
  obtain ⟨va9, vc9, rfl⟩ := kown_slice ho9
  have HBV : Hid ((blocksV F N h' R p).1 = L ∧ (blocksV F N h' R p).2 = be) := ⟨hL, hbe⟩
  have HT9 : Hid (TW w9 B g N F cp m room (0 + 7 + 7) V9 ib xt h' R) := ht9
  have HL9 : Hid (Blk w9 lb 38 (va 256 (iv .u8 lv))) := hm9.blk HL8.out HVL.out
  have HB9 : Hid (Below w.heap.size w w9) := HB8.out.trans (hm9.below (B := w.heap.size) HB8.out.size fun z hz => by have h1 := (HT8.out.td.lt z hz).1; have h2 := HBB.out; omega)
  have HO9 : Hid (w9.ownsRow w8.heap.size 38 256 (.slice va9 L.length vc9) L.length (bkL L)) := ho9
  obtain ⟨ln, hln⟩ : ∃ ln, L.length = ln := ⟨_, rfl⟩
  have HLN : Hid (L.length = ln) := hln
  rw [hln]
  clear hs9 ht9 hm9 hv9 hL hbe ho9 hln HT8 HB8 HL8 HVL
  have t9 := HT9.out.tr
  go_wp2_with (first
    | (refine wpList_load_rowg (by rfl) 33 _ (by rfl) (xt) (by rfl) 33 (trC h' R) (0, 0) _ (by exact t9) Tryz.underlying33 (by rfl) (rsizeTr.trans (by rw [trC_size])) ?_; simp only [Act.put, sgPHWoOpen])
    | fail)
  refine (rtright_any h' R w9).mono ?_
  rintro e w12 ⟨rfl, hb12⟩
  have HT12 : Hid (TW w12 B g N F cp m room (0 + 7 + 7) V9 ib xt h' R) := HT9.out.below hb12
  have HL12 : Hid (Blk w12 lb 38 (va 256 (iv .u8 lv))) := HL9.out.below hb12 HL9.out.lt
  have HB12 : Hid (Below w.heap.size w w12) := HB9.out.trans (hb12.mono HB9.out.size)
  have HO12 : Hid (w12.ownsRow w8.heap.size 38 256 (.slice va9 L.length vc9) L.length (bkL L)) := kown_below HO9.out hb12
  clear hb12 HT9 HL9 HB9 HO9 t9
  have heq : ∀ W, (Op.equalIn 10000 38 (.agg (va 256 (iv .u8 fun _ => 0))) (.agg (va 256 (iv .u8 fun _ => 0)))).run Tryz.prog W = .ok true W := fun W => by
    have := eq_bk 38 Tryz.underlying38 (fun _ => 0) (fun _ => 0) W
    rw [decide_eq_true (show bkSame (fun _ => 0) (fun _ => 0) from fun i hi => rfl)] at this
    exact this
  by_cases hok : trOk h' R
  · rw [decide_eq_true hok]
    have HIN : Hid (0 ≤ h' ∧ h' ≤ 6) := ⟨hok.2.1, hok.2.2⟩
    have z12 : w12.cell? ⟨xt, 0, none⟩ = some (.int .i64 h') := (HT12.out.tr.cell 0).trans (va_at (trF h' R) (by decide))
    go_upto_region 8 with fail
    go_cut [73] (fun v wx => v = .bool (decide (outP h' 0 p)) ∧ w12 = wx)
    case first =>
      by_cases g2 : p < 0
      · have hd : decide (outP h' 0 p) = true := decide_eq_true (.inr (.inr (.inl g2)))
        go_wp2_with fail
        go_meet
        exact ⟨by rw [hd], rfl⟩
      · obtain ⟨q, hq⟩ : ∃ q : Nat, h' = (q : Int) := ⟨h'.toNat, by have := HIN.out; omega⟩
        obtain ⟨c4, hc4⟩ : ∃ c4, 4 ^ q = c4 := ⟨_, rfl⟩
        have HCap : Hid (∀ w, Calls Tryz.prog 17 #[.int .i64 h'] w fun e w' => e = .returned (.int .i64 (c4 : Int)) ∧ w = w') := fun w => by
          rw [hq]
          exact refCap_any q c4 (by have := HIN.out; omega) hc4 w
        have HOut : Hid (outP h' 0 p ↔ (c4 : Int) ≤ p) := by
          show outP h' 0 p ↔ _
          have h7 := HIN.out
          unfold outP
          rw [show h' - 0 = h' by omega, hq, Int.toNat_natCast, hc4]
          omega
        clear hq hc4
        go_wp2_with fail
        refine (HCap.out _).mono ?_
        rintro e w9 ⟨rfl, rfl⟩
        go_wp2_with fail
        go_meet
        exact ⟨by rw [decide_eq_decide.2 HOut.out], rfl⟩
    case rest =>
      obtain ⟨rfl, rfl⟩ := hcut
      have l12 := HL12.out
      by_cases hout : outP h' 0 p
      · have e1 : lv = (fun _ => 0) ∧ le = 90 ∧ L = [] ∧ be = 90 := by
          have h1 := HLV.out
          have h2 := HBV.out
          unfold leafV refV at h1
          unfold blocksV at h2
          rw [if_pos hok, if_pos hout] at h1 h2
          rw [if_neg (by decide)] at h1
          exact ⟨h1.1.symm, h1.2.symm, h2.1.symm, h2.2.symm⟩
        obtain ⟨rfl, rfl, rfl, rfl⟩ := e1
        obtain rfl : 0 = ln := HLN.out
        rw [decide_eq_true hout]
        go_wp2_with (first
          | (refine wpList_load_row (by rfl) 38 _ (by rfl) (lb) (by rfl) 38 (va 256 (iv .u8 (fun _ => 0))) (0, 0) _ l12 Tryz.underlying38 (by rfl) (sizeBk.trans (by rw [va_size])) ?_; simp only [Act.put, sgPHWoOpen])
          | fail)
        go_ret
        exact ⟨rfl, HB12.out⟩
      · rw [decide_eq_false hout]
        have t12 := HT12.out.tr
        have h1 := HIN.out
        obtain ⟨pn, rfl⟩ : ∃ pn : Nat, p = (pn : Int) := ⟨p.toNat, by unfold outP at hout; omega⟩
        obtain ⟨hbe, hbn, hb7⟩ := blocksV_err F N h' R pn hok hout
        rw [HLV.out.2, HBV.out.2] at hbe
        rw [HLV.out.2, HBV.out.1] at hbn
        rw [HBV.out.1] at hb7
        subst hbe
        have HLf := rleaf9_any h' R HH.out.2.1 HF.out hok pn hout (some ⟨ib, 0, none⟩) ic HT12.out.td.nN w12 HT12.out.img
        rw [HLV.out.1, HLV.out.2, HBV.out.1] at HLf
        have HLF : Hid (Calls Tryz.prog 18 #[.slice (some ⟨ib, 0, none⟩) N ic, .agg (trC h' R), .int .i64 (pn : Int)] w12 fun x w' => ∃ a c nn, x = .returned (.tuple #[.agg (va 256 (iv .u8 lv)), .slice a nn c, .int .i64 be]) ∧ (be = 0 → nn = L.length ∧ w'.ownsRow w12.heap.size 37 256 (.slice a L.length c) L.length (bkL L)) ∧ Below w12.heap.size w12 w') := HLf
        have HBN : Hid ((be ≠ 0 → L = []) ∧ L.length ≤ 7) := ⟨hbn, hb7⟩
        clear HLf hbn hb7 hout h1 hok z12
        go_wp2_with (first
          | (refine wpList_load_rowg (by rfl) 33 _ (by rfl) (xt) (by rfl) 33 (trC h' R) (0, 0) _ (by exact t12) Tryz.underlying33 (by rfl) (rsizeTr.trans (by rw [trC_size])) ?_; simp only [Act.put, sgPHWoOpen])
          | fail)
        refine HLF.out.mono ?_
        rintro e w13 ⟨da, dc, dn, rfl, hd13, hb13⟩
        have q0 : Blk (w13.alloc (.cells (va 256 (iv .u8 fun _ => 0)) 37)) w13.heap.size 37 (va 256 (iv .u8 fun _ => 0)) := Blk.new _ _ _
        have hbq : Below w13.heap.size w13 ((w13.alloc (.cells (va 256 (iv .u8 fun _ => 0)) 37)).setRow w13.heap.size (va 256 (iv .u8 lv))) := below_setRow (below_new1 _ _) (Nat.le_refl _) _
        have hb14 := hb13.trans (hbq.mono hb13.size)
        have l14 : Blk ((w13.alloc (.cells (va 256 (iv .u8 fun _ => 0)) 37)).setRow w13.heap.size (va 256 (iv .u8 lv))) lb 38 (va 256 (iv .u8 lv)) := HL12.out.below hb14 HL12.out.lt
        have d14 : Blk ((w13.alloc (.cells (va 256 (iv .u8 fun _ => 0)) 37)).setRow w13.heap.size (va 256 (iv .u8 lv))) w13.heap.size 37 (va 256 (iv .u8 lv)) := q0.set _
        have HB14 : Hid (Below w.heap.size w ((w13.alloc (.cells (va 256 (iv .u8 fun _ => 0)) 37)).setRow w13.heap.size (va 256 (iv .u8 lv)))) := HB12.out.trans (hb14.mono HB12.out.size)
        have HO14 : Hid (((w13.alloc (.cells (va 256 (iv .u8 fun _ => 0)) 37)).setRow w13.heap.size (va 256 (iv .u8 lv))).ownsRow w8.heap.size 38 256 (.slice va9 L.length vc9) L.length (bkL L)) := kown_below HO12.out hb14
        have HD14 : Hid (be = 0 → dn = L.length ∧ ((w13.alloc (.cells (va 256 (iv .u8 fun _ => 0)) 37)).setRow w13.heap.size (va 256 (iv .u8 lv))).ownsRow w12.heap.size 37 256 (.slice da L.length dc) L.length (bkL L)) := fun u => ⟨(hd13 u).1, kown_below (hd13 u).2 hbq⟩
        have HEQ : ∀ W, (Op.equalIn 10000 38 (.agg (va 256 (iv .u8 lv))) (.agg (va 256 (iv .u8 lv)))).run Tryz.prog W = .ok true W := fun W => by
          have := eq_bk 38 Tryz.underlying38 lv lv W
          rw [decide_eq_true (show bkSame lv lv from fun i hi => rfl)] at this
          exact this
        clear hd13 hb13 hbq hb14 HLF HL12 HO12 HT12 t12 l12
        go_upto_region 11 with (first
          | (refine wpList_store_row (by rfl) 37 _ _ (by rfl) (w13.heap.size) (va 256 (iv .u8 lv)) (by rfl) (by rfl) 37 (_) (by exact q0) (rsizeBk.trans (by rw [va_size])) (by simp only [va_size]) (iv_one _ _ _) ?_; simp only [Act.put, sgPHWoOpen])
          | fail)
        clear q0
        generalize ((w13.alloc (.cells (va 256 (iv .u8 fun _ => 0)) 37)).setRow w13.heap.size (va 256 (iv .u8 lv))) = w14 at *
        generalize w13.heap.size = db at *
        by_cases he0 : be = 0
        · subst he0
          obtain ⟨hdn, hod⟩ := HD14.out rfl
          rw [HLN.out] at hdn
          subst hdn
          have HID : Hid (IsBlks w14 va9 dn (fun i => L.getD i fun _ => 0) ∧ IsBlks w14 da dn (fun i => L.getD i fun _ => 0)) := by
            have h1 := own_isb HO14.out
            have h2 := own_isb hod
            rw [HLN.out] at h1 h2
            exact ⟨h1, h2⟩
          have HS7 : Hid (dn ≤ 7) := HLN.out ▸ HBN.out.2
          clear hod HD14 HO14
          go_wp2_with (first
            | (refine wpList_load_rowg (by rfl) 38 _ (by rfl) (lb) (by rfl) 38 (va 256 (iv .u8 lv)) (0, 0) _ (by exact l14) Tryz.underlying38 (by rfl) (sizeBk.trans (by rw [va_size])) ?_; simp only [Act.put, sgPHWoOpen])
            | (refine wpList_load_rowg (by rfl) 37 _ (by rfl) (db) (by rfl) 37 (va 256 (iv .u8 lv)) (0, 0) _ (by exact d14) Tryz.underlying37 (by rfl) (rsizeBk.trans (by rw [va_size])) ?_; simp only [Act.put, sgPHWoOpen])
            | fail)
          have l15 := l14
          clear l14 d14
          go_loopw [16] (fun t wr => Hid (∃ k : Nat, k ≤ dn ∧ t = .int .i64 (k : Int) ∧ Below w14.heap.size w14 wr)) (fun t _ => dn - (intOf t).toNat)
          case atStart => exact ⟨0, by omega, rfl, Below.refl _ _⟩
          case round =>
            obtain ⟨k, hk, rfl, hb⟩ := Hid.out hrel
            clear hrel
            by_cases hlt : k < dn
            · obtain ⟨b1, o1, hva, l1, r1⟩ := HID.out.1.below hb k hlt
              obtain ⟨b2, o2, hda, l2, r2⟩ := HID.out.2.below hb k hlt
              subst hva hda
              have hS7 := HS7.out
              have q1 : wr.rangeAt b1 (o1 + k * 256) ((List.range 256).map (iv .u8 (L.getD k fun _ => 0))) := r1
              have q2 : wr.rangeAt b2 (o2 + k * 256) ((List.range 256).map (iv .u8 (L.getD k fun _ => 0))) := r2
              clear r1 r2
              generalize (L.getD k fun _ => 0) = f at q1 q2
              have R1 : Hid (wr.rangeAt b1 (o1 + k * 256) ((List.range 256).map (iv .u8 f))) := q1
              have R2 : Hid (wr.rangeAt b2 (o2 + k * 256) ((List.range 256).map (iv .u8 f))) := q2
              have k0 : (0 : Int) ≤ (k : Int) := by omega
              have k1 : (k : Int) < (dn : Int) := by omega
              have hq : ∀ w, (Op.equalIn 10000 38 (.agg (va 256 (iv .u8 f))) (.agg (va 256 (iv .u8 f)))).run Tryz.prog w = .ok true w := fun w => by
                have := eq_bk 38 Tryz.underlying38 f f w
                rw [decide_eq_true (show bkSame f f from fun i hi => rfl)] at this
                exact this
              clear q1 q2
              go_wp2_with fail
              refine wp_region_partsI [] [([0, 1, 2, 4, 5, 6], 3, true), ([], 7, false), ([], 8, false)] [] [] (wr.heap.size) (by kernel_rfl) (by kernel_rfl) (fun _ hx => nomatch hx) (partsI_yield ?_)
              simp only [sgLHWoOpen]
              have hS : Below (wr.heap.size) wr wr.drew := (Below.refl _ _).drew
              go_wp2_with fail
              refine ⟨rfl, _, .agg (va 256 (iv .u8 f)), rfl, yieldsIf_load_mid (by rfl) 38 _ (by rfl) (b1) (o1 + k * 256) (by rfl) ((List.range 256).map (iv .u8 f)) _ (fun W hW => range_below R1.out hW l1) Tryz.underlying38 rfl (sizeBk.trans (by simp)), partsI_force ?_⟩
              simp only [Act.put, sgPHWoOpen]
              simp only [sgLHWoOpen]
              refine wpList_load_blk (by rfl) 37 _ (by rfl) (b2) (o2 + k * 256) 256 (iv .u8 f) (by rfl) _ (range_below R2.out hS l2) Tryz.underlying37 rfl rsizeBk ?_
              simp only [Act.put, sgPHWoOpen]
              go_wp2_with fail
              refine ⟨rfl, hS, partsI_force ?_⟩
              simp only [sgLHWoOpen]
              go_wp2_with fail
              refine ⟨rfl, hS, partsI_last ?_⟩
              simp only [sgLHWoOpen]
              refine ⟨rfl, ?_⟩
              go_wp2_with fail
              go_roundw
              case rel => exact ⟨k + 1, hlt, by first | rfl | go_num | simp, hb.trans (hS.mono hb.size)⟩
              case measure => simp [intOf]; omega
            · obtain rfl : k = dn := by omega
              have j1 : ¬ ((k : Int) < (k : Int)) := by omega
              go_wp2_with fail
              go_ret
              exact ⟨rfl, HB14.out.trans (hb.mono HB14.out.size)⟩
        · obtain rfl : L = [] := HBN.out.1 he0
          obtain rfl : 0 = ln := HLN.out
          have hne2 : (be != 0) = true := by simp [he0]
          have hne3 : decide (be = 0) = false := decide_eq_false he0
          go_wp2_with (first
            | (refine wpList_load_rowg (by rfl) 38 _ (by rfl) (lb) (by rfl) 38 (va 256 (iv .u8 lv)) (0, 0) _ (by exact l14) Tryz.underlying38 (by rfl) (sizeBk.trans (by rw [va_size])) ?_; simp only [Act.put, sgPHWoOpen])
            | (refine wpList_load_rowg (by rfl) 37 _ (by rfl) (db) (by rfl) 37 (va 256 (iv .u8 lv)) (0, 0) _ (by exact d14) Tryz.underlying37 (by rfl) (rsizeBk.trans (by rw [va_size])) ?_; simp only [Act.put, sgPHWoOpen])
            | fail)
          go_loopw [16] (fun t wr => t = .int .i64 0 ∧ Below w14.heap.size w14 wr) (fun t _ => 0)
          case atStart => exact ⟨rfl, Below.refl _ _⟩
          case round =>
            obtain ⟨rfl, hb⟩ := hrel
            go_wp2_with fail
            go_ret
            exact ⟨rfl, HB14.out.trans (hb.mono HB14.out.size)⟩
  · rw [decide_eq_false hok]
    have l12 := HL12.out
    have e1 : lv = (fun _ => 0) ∧ le = 1 ∧ L = [] ∧ be = 1 := by
      have h1 := HLV.out
      have h2 := HBV.out
      unfold leafV refV at h1
      unfold blocksV at h2
      rw [if_neg hok] at h1 h2
      rw [if_neg (by decide)] at h1
      exact ⟨h1.1.symm, h1.2.symm, h2.1.symm, h2.2.symm⟩
    obtain ⟨rfl, rfl, rfl, rfl⟩ := e1
    obtain rfl : 0 = ln := HLN.out
    go_wp2_with (first
      | (refine wpList_load_row (by rfl) 38 _ (by rfl) (lb) (by rfl) 38 (va 256 (iv .u8 (fun _ => 0))) (0, 0) _ l12 Tryz.underlying38 (by rfl) (sizeBk.trans (by rw [va_size])) ?_; simp only [Act.put, sgPHWoOpen])
      | fail)
    go_ret
    exact ⟨rfl, HB12.out⟩
end Go.Proofs.YtjhabngibbmpbaaGreat

namespace Go.Proofs.YtjhabngibbmpbaaGreat
open Go.ChangeShapes Go.WideShapes Go.ChangeAt Go.RowKit Go.Joins
set_option linter.unusedVariables false
set_option linter.unusedSimpArgs false
theorem wcell_lt {w : World} {a : Addr} {v : Value} (h : w.cell? a = some v) : a.block < w.heap.size := by
  obtain ⟨e, n, hs, _⟩ := World.shape?_of_cell? h
  unfold World.shape? at hs
  cases hb : w.heap[a.block]? with
  | none => simp [hb] at hs
  | some o => exact (Array.getElem?_eq_some_iff.1 hb).1
set_option maxRecDepth 100000 in
theorem open_fills {H : Type} {enc : TypeId × Value → H} {W : World} {a0 : Option Addr} {len cap fuel : Nat} {x : DataW H × List MemPlace}
    (hf : DataW.trod enc Tryz.prog W 0 (fun _ => true) true fuel 22 [.slice a0 len cap] = some x) (hsz : ∀ n ∈ x.1.weights Tryz.prog 22, n ≤ reachBytes) :
    ∃ (A : Nat → Int) (Y : Nat → Nat), len ≤ 9223372036854775807 ∧ IsFl W a0 len A Y := by
  rcases Deep.open_slice Tryz.underlying22 hf with ⟨hcs, hx⟩ | ⟨a, len', cap', m, n, D, Pl, hcs, _, hl, hm, hmm, hx, hel⟩
  · simp at hcs
    obtain ⟨rfl, rfl, rfl⟩ := hcs
    exact ⟨fun _ => 0, fun _ => 0, by omega, fun i hi => absurd hi (by omega)⟩
  · simp at hcs
    obtain ⟨rfl, rfl, rfl⟩ := hcs
    subst hx
    simp only [if_true] at hmm
    subst hmm
    have hu := Tryz.underlying22
    have hby : Tryz.prog.bytesOf 83 = 16 := by kernel_rfl
    have hw0 := hsz ((((List.range len).map D).length + ((List.range (m - len)).map fun j => D (len + j)).length) * Tryz.prog.bytesOf 83) (by simp [DataW.weights, hu])
    rw [hby] at hw0
    simp only [List.length_map, List.length_range] at hw0
    have hlen4 : len ≤ 9223372036854775807 := by
      unfold reachBytes at hw0
      omega
    have hce : Tryz.prog.cellsOf 83 = 2 := by kernel_rfl
    have hci : Tryz.prog.cellsOf 3 = 1 := by kernel_rfl
    have hcu : Tryz.prog.cellsOf 5 = 1 := by kernel_rfl
    have hsp : 0 < len → a.spot = none := fun h0 => by
      obtain ⟨cs', h1, _⟩ := hel 0 (by omega)
      rw [hce] at h1
      obtain ⟨_, hcl, hcell⟩ := World.cells?_some h1
      match cs', hcl with
      | [v0, v1], _ => simpa [Addr.add] using World.cell?_spot (hcell 0 (by omega))
    have each : ∀ i, ∃ q : Int × Nat, i < len → ∃ b o, a = ⟨b, o, none⟩ ∧ b < W.heap.size ∧ W.cell? ⟨b, o + i * 2, none⟩ = some (.int .i64 q.1) ∧ W.cell? ⟨b, o + i * 2 + 1, none⟩ = some (.int .u8 ((q.2 : Nat) : Int)) ∧ q.2 < 256 ∧ (-9223372036854775808 ≤ q.1 ∧ q.1 ≤ 9223372036854775807) := by
      intro i
      by_cases hi : i < len
      · obtain ⟨cs', h1, h2⟩ := hel i (by omega)
        rw [hce] at h1
        obtain ⟨_, hcl, hcell⟩ := World.cells?_some h1
        obtain ⟨xs, k, hk, hxy, _, hxl, hfs⟩ := DataW.trod_struct Tryz.underlying83 h2
        match xs, hxl, cs', hcl with
        | [y0, y1], _, [v0, v1], _ =>
          have g0 := hfs 0 _ rfl
          have g1 := hfs 1 _ rfl
          simp [hci, hcu] at g0 g1
          obtain ⟨p, e0, _, w0⟩ := DataW.trod_int Tryz.underlying3 g0
          obtain ⟨q, e1, _, w1⟩ := DataW.trod_int Tryz.underlying5 g1
          simp at e0 e1
          subst e0 e1
          have hb8 := bounds_u8 w1
          obtain ⟨q, rfl⟩ := Int.eq_ofNat_of_zero_le hb8.1
          refine ⟨(p, q), fun _ => ?_⟩
          have c0 := hcell 0 (by decide)
          have c1 := hcell 1 (by decide)
          obtain ⟨b, off, spot⟩ := a
          have hspot : spot = none := hsp (by omega)
          subst hspot
          simp only [Addr.add_mid, List.getElem?_cons_zero, List.getElem?_cons_succ] at c0 c1
          exact ⟨b, off, rfl, wcell_lt c0, c0, c1, by omega, bounds_i64 w0⟩
      · exact ⟨(0, 0), fun h => absurd h hi⟩
    refine ⟨fun i => (Classical.choose (each i)).1, fun i => (Classical.choose (each i)).2, hlen4, fun i hi => ?_⟩
    obtain ⟨b, o, rfl, h1, h2, h3, h4, h5⟩ := Classical.choose_spec (each i) hi
    exact ⟨b, o, rfl, h1, h2, h3, h4, h5⟩
set_option maxRecDepth 100000 in
theorem open_ints9 {H : Type} {enc : TypeId × Value → H} {W : World} {a0 : Option Addr} {len cap fuel : Nat} {x : DataW H × List MemPlace}
    (hf : DataW.trod enc Tryz.prog W 0 (fun _ => true) true fuel 23 [.slice a0 len cap] = some x) (hsz : ∀ n ∈ x.1.weights Tryz.prog 23, n ≤ reachBytes) :
    ∃ (A : Nat → Int), len ≤ 9223372036854775807 ∧ IsIn W a0 len A := by
  rcases Deep.open_slice Tryz.underlying23 hf with ⟨hcs, hx⟩ | ⟨a, len', cap', m, n, D, Pl, hcs, _, hl, hm, hmm, hx, hel⟩
  · simp at hcs
    obtain ⟨rfl, rfl, rfl⟩ := hcs
    exact ⟨fun _ => 0, by omega, fun i hi => absurd hi (by omega)⟩
  · simp at hcs
    obtain ⟨rfl, rfl, rfl⟩ := hcs
    subst hx
    simp only [if_true] at hmm
    subst hmm
    have hu := Tryz.underlying23
    have hby : Tryz.prog.bytesOf 3 = 8 := by kernel_rfl
    have hw0 := hsz ((((List.range len).map D).length + ((List.range (m - len)).map fun j => D (len + j)).length) * Tryz.prog.bytesOf 3) (by simp [DataW.weights, hu])
    rw [hby] at hw0
    simp only [List.length_map, List.length_range] at hw0
    have hlen4 : len ≤ 9223372036854775807 := by
      unfold reachBytes at hw0
      omega
    have hce : Tryz.prog.cellsOf 3 = 1 := by kernel_rfl
    have hsp : 0 < len → a.spot = none := fun h0 => by
      obtain ⟨cs', h1, _⟩ := hel 0 (by omega)
      rw [hce] at h1
      obtain ⟨_, hcl, hcell⟩ := World.cells?_some h1
      match cs', hcl with
      | [v0], _ => simpa [Addr.add] using World.cell?_spot (hcell 0 (by omega))
    have each : ∀ i, ∃ q : Int, i < len → ∃ b o, a = ⟨b, o, none⟩ ∧ b < W.heap.size ∧ W.cell? ⟨b, o + i, none⟩ = some (.int .i64 q) ∧ (-9223372036854775808 ≤ q ∧ q ≤ 9223372036854775807) := by
      intro i
      by_cases hi : i < len
      · obtain ⟨cs', h1, h2⟩ := hel i (by omega)
        rw [hce] at h1
        obtain ⟨_, hcl, hcell⟩ := World.cells?_some h1
        match cs', hcl with
        | [v0], _ =>
          obtain ⟨p, e0, _, w0⟩ := DataW.trod_int Tryz.underlying3 h2
          simp at e0
          subst e0
          refine ⟨p, fun _ => ?_⟩
          have c0 := hcell 0 (by decide)
          obtain ⟨b, off, spot⟩ := a
          have hspot : spot = none := hsp (by omega)
          subst hspot
          simp only [Addr.add_mid, List.getElem?_cons_zero, Nat.mul_one, Nat.add_zero] at c0
          exact ⟨b, off, rfl, wcell_lt c0, c0, bounds_i64 w0⟩
      · exact ⟨0, fun h => absurd h hi⟩
    refine ⟨fun i => Classical.choose (each i), hlen4, fun i hi => ?_⟩
    obtain ⟨b, o, rfl, h1, h2, h3⟩ := Classical.choose_spec (each i) hi
    exact ⟨b, o, rfl, h1, h2, h3⟩
set_option maxRecDepth 100000 in
theorem open_world {H : Type} {enc : TypeId × Value → H} {W : World} {r : Reach} {b0 : Nat} {v : Value} {d : DataW H} {p : List MemPlace}
    (hv : Value.okWide Tryz.prog W r b0 25 v) (h : DataW.Trod enc Tryz.prog W 0 (fun _ => true) true 25 v d p) (hsz : ∀ n ∈ d.weights Tryz.prog 25, n ≤ reachBytes) :
    ∃ (h : Int) (a : Option Addr) (n c : Nat) (ab : Option Addr) (nb cb : Nat) (tu ca : Int) (A : Nat → Int) (Y : Nat → Nat) (Z : Nat → Int), v = .agg (woC h a n c ab nb cb tu ca) ∧ Wo W h a n ab nb tu ca A Y Z := by
  obtain ⟨cs, rfl, hcs⟩ := okWide_struct Tryz.underlying25 hv
  obtain ⟨fuel, hf⟩ := h
  have hc : Tryz.prog.cellsOf 25 = 5 := by kernel_rfl
  rw [hc] at hcs
  have hcf : Tryz.prog.cellsOf 22 = 1 := by kernel_rfl
  have hcn : Tryz.prog.cellsOf 23 = 1 := by kernel_rfl
  have hci : Tryz.prog.cellsOf 3 = 1 := by kernel_rfl
  obtain ⟨xs, k, hk, hxy, _, hxl, hfs⟩ := DataW.trod_struct Tryz.underlying25 hf
  obtain ⟨l, rfl⟩ : ∃ l : List Value, cs = l.toArray := ⟨cs.toList, by simp⟩
  have hl : l.length = 5 := by simpa using hcs
  match xs, hxl, l, hl with
  | [y0, y1, y2, y3, y4], _, [v0, v1, v2, v3, v4], _ =>
    have g0 := hfs 0 _ rfl
    have g1 := hfs 1 _ rfl
    have g2 := hfs 2 _ rfl
    have g3 := hfs 3 _ rfl
    have g4 := hfs 4 _ rfl
    simp [hcf, hcn, hci, Value.cells] at g0 g1 g2 g3 g4
    obtain ⟨h, e0, _, w0⟩ := DataW.trod_int Tryz.underlying3 g0
    obtain ⟨tu, e3, _, w3⟩ := DataW.trod_int Tryz.underlying3 g3
    obtain ⟨ca, e4, _, w4⟩ := DataW.trod_int Tryz.underlying3 g4
    simp at e0 e3 e4
    subst e0 e3 e4
    have hD : d = .agg [y0.1, y1.1, y2.1, y3.1, y4.1] := by
      have := congrArg Prod.fst hxy
      simpa using this
    have hf1 : ∃ a N c, v1 = .slice a N c := by
      rcases Deep.open_slice Tryz.underlying22 g1 with ⟨hcs, _⟩ | ⟨a, len', cap', _, _, _, _, hcs, _⟩
      · simp at hcs
        exact ⟨_, _, _, hcs⟩
      · simp at hcs
        exact ⟨_, _, _, hcs⟩
    have hf2 : ∃ a N c, v2 = .slice a N c := by
      rcases Deep.open_slice Tryz.underlying23 g2 with ⟨hcs, _⟩ | ⟨a, len', cap', _, _, _, _, hcs, _⟩
      · simp at hcs
        exact ⟨_, _, _, hcs⟩
      · simp at hcs
        exact ⟨_, _, _, hcs⟩
    obtain ⟨a, n, c, rfl⟩ := hf1
    obtain ⟨ab, nb, cb, rfl⟩ := hf2
    obtain ⟨A, Y, h1, h2⟩ := open_fills (x := y1) g1 (fun n hn => by
      refine hsz n ?_
      rw [hD]
      simp only [DataW.weights, Tryz.underlying25]
      exact DataW.weights_mem_each (j := 1) (t := 22) (d := y1.1) rfl rfl n hn)
    obtain ⟨Z, h3, h4⟩ := open_ints9 (x := y2) g2 (fun n hn => by
      refine hsz n ?_
      rw [hD]
      simp only [DataW.weights, Tryz.underlying25]
      exact DataW.weights_mem_each (j := 2) (t := 23) (d := y2.1) rfl rfl n hn)
    exact ⟨h, a, n, c, ab, nb, cb, tu, ca, A, Y, Z, rfl, ⟨h1, h3, h2, h4, bounds_i64 w0, bounds_i64 w3, bounds_i64 w4⟩⟩
end Go.Proofs.YtjhabngibbmpbaaGreat
