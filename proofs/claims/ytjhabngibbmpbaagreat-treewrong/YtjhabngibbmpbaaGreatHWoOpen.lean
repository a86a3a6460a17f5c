/- A world of a tree as an argument, opened: a height, leaves, places, two numbers; no condition but that it is one. -/
import Derived.Test.YtjhabngibbmpbaaGreatHTrDf
import Derived.Test.YtjhabngibbmpbaaGreatHTrSm
import Derived.Test.YtjhabngibbmpbaaGreatRows
import Derived.WalkKit
import Derived.ProofKit
import Derived.OpenShut
import Derived.Carry
import Derived.Deep.Slices
import Derived.Lib.SmallJoins
import Derived.SizedLaws
import Derived.Test.YtjhabngibbmpbaaGreatHTrRef

namespace Go.Proofs.YtjhabngibbmpbaaGreat
theorem sgLHWoOpen : (∀ (α : Type) (a : α) (l r : List α), (a :: l) ++ r = a :: (l ++ r)) ∧ (∀ (α : Type) (l : List α), [] ++ l = l) ∧ (∀ (α : Type) (l : List α), l ++ [] = l) ∧ (∀ (α β : Type) (f : α → Option β) (a : α) (l : List α), (a :: l).filterMap f = match f a with | none => l.filterMap f | some b => b :: l.filterMap f) ∧ (∀ (α β : Type) (f : α → Option β), [].filterMap f = []) ∧ (∀ (α : Type) (l : List α) (i : Nat), l.toArray[i]? = l[i]?) ∧ (∀ (α : Type) (a : α) (l : List α), (a :: l)[0]? = some a) ∧ (∀ (α : Type) (a : α) (l : List α) (i : Nat), (a :: l)[i + 1]? = l[i]?) :=
  ⟨fun _ _ _ _ => List.cons_append, fun _ _ => List.nil_append _, fun _ _ => List.append_nil _, fun _ _ _ _ _ => List.filterMap_cons, fun _ _ _ => List.filterMap_nil, fun _ _ _ => List.getElem?_toArray, fun _ _ _ => List.getElem?_cons_zero, fun _ _ _ _ => List.getElem?_cons_succ⟩
theorem sgPHWoOpen : (∀ (α : Type) (l : List α) (i : Nat) (a : α), l.toArray.setIfInBounds i a = (l.set i a).toArray) ∧ (∀ (α : Type) (a b : α) (l : List α), (a :: l).set 0 b = b :: l) ∧ (∀ (α : Type) (a b : α) (l : List α) (i : Nat), (a :: l).set (i + 1) b = a :: l.set i b) :=
  ⟨fun _ _ _ _ => List.setIfInBounds_toArray _ _ _, fun _ _ _ _ => List.set_cons_zero, fun _ _ _ _ _ => List.set_cons_succ⟩
end Go.Proofs.YtjhabngibbmpbaaGreat
namespace Go.Proofs.YtjhabngibbmpbaaGreat
open Go Go.RowKit
set_option linter.unusedSimpArgs false
set_option linter.unusedVariables false
theorem built_t0 : Tryz.prog.built 46 [] = some (trC 0 rf0) := by kernel_rfl
theorem built_t1 (h : Int) : Tryz.prog.built 46 [(0, .int .i64 h)] = some (trC h rf0) := by kernel_rfl
set_option maxRecDepth 100000 in
set_option maxHeartbeats 16000000 in
theorem treeWrongLaw {h : Int} {a : Option Addr} {n c : Nat} {ab : Option Addr} {nb cb : Nat} {tu ca : Int} {A : Nat → Int} {Y : Nat → Nat} {Z : Nat → Int} (hg : Int) (hhg : -9223372036854775808 ≤ hg ∧ hg ≤ 9223372036854775807) (w : World) (HW : Wo w h a n ab nb tu ca A Y Z) : Calls Tryz.prog 10 #[.agg (woC h a n c ab nb cb tu ca), .int .i64 hg] w fun e w' => e = .returned (.bool true) ∧ Below w.heap.size w w' := by
  clear hhg
  have hz := rtop_zero
  have hzr := zero_ref
  have hzt := zero_tr
  have hzrr := zero_rref
  have hb1 : Below w.heap.size w (w.alloc (.cells (woC h a n c ab nb cb tu ca) 25)) := below_new1 _ _
  have b1 : Blk (w.alloc (.cells (woC h a n c ab nb cb tu ca) 25)) w.heap.size 25 (woC h a n c ab nb cb tu ca) := Blk.new _ _ _
  have HMd : Hid (∀ V, Below w.heap.size w V → Calls Tryz.prog 11 #[.agg (woC h a n c ab nb cb tu ca)] V (MadeP V h n nb tu A Y)) := fun V hV => made_any V (HW.below hV)
  clear HW
  go_enter Tryz.func10, Tryz.ntmps10
  go_wp2_with (first
    | (refine wpList_load_rowg (by rfl) 25 _ (by rfl) (w.heap.size) (by rfl) 25 (woC h a n c ab nb cb tu ca) (0, 0) _ (by exact b1) Tryz.underlying25 (by rfl) (sizeWo.trans (by rw [woC_size])) ?_; simp only [Act.put, sgPHWoOpen])
    | fail)
  generalize (w.alloc (.cells (woC h a n c ab nb cb tu ca) 25)) = w1 at *
  refine (HMd.out _ hb1).mono ?_
  rintro e w2 ⟨cp, ib, N, ic, g, m, room, B, F, U, h', R, rfl, htd, hBi, himg, hF, hh, hR, _, hb2⟩
  have q0 : Blk (w2.alloc (.cells (trC 0 rf0) 33)) w2.heap.size 33 (trC 0 rf0) := Blk.new _ _ _
  have hst := Blk.store (P := Tryz.prog) q0 (trC h' R) (by simp only [trC_size]) (arr_mem (trC_all _ _))
  have hvs := trC_size h' R
  have hbq : Below w2.heap.size w2 ((w2.alloc (.cells (trC 0 rf0) 33)).setRow w2.heap.size (trC h' R)) := below_setRow (below_new1 _ _) (Nat.le_refl _) _
  have HTW : Hid (TW ((w2.alloc (.cells (trC 0 rf0) 33)).setRow w2.heap.size (trC h' R)) B g N F cp m room 0 U ib w2.heap.size h' R) := ⟨htd.below hbq, himg.below hbq, q0.set _, fun z => by have := (htd.lt _ z).1; omega, fun z => by have := (htd.lt _ z).2; omega, by have h1 := htd.hB; have h2 := hbq.size; omega⟩
  have HBB : Hid (w.heap.size ≤ B) := Nat.le_trans hb1.size hBi.1
  have HB2 : Hid (Below w.heap.size w ((w2.alloc (.cells (trC 0 rf0) 33)).setRow w2.heap.size (trC h' R))) := (hb1.trans (hb2.mono hb1.size)).trans (hbq.mono (hb1.trans (hb2.mono hb1.size)).size)
  have HF : Hid (∀ x, F x < 256) := hF
  have HH : Hid ((0 ≤ h' ∧ h' ≤ 7) ∧ R.1 < 4294967296 ∧ okD R.2) := ⟨hh, hR⟩
  clear htd hBi himg hF hh hR hb1 hb2 hbq HMd b1
  go_upto_region 2 with fail
  clear q0 hst hvs
  generalize ((w2.alloc (.cells (trC 0 rf0) 33)).setRow w2.heap.size (trC h' R)) = w3 at *
  generalize w2.heap.size = xt at *
  go_wp2_with fail
  refine (awake9_any w3).mono ?_
  rintro e w4 ⟨rfl, hb4⟩
  have HT4 : Hid (TW w4 B g N F cp m room 0 U ib xt h' R) := HTW.out.below hb4
  have HB4 : Hid (Below w.heap.size w w4) := HB2.out.trans (hb4.mono HB2.out.size)
  have t4 := HT4.out.tr
  clear HTW hb4 HB2
  have HBT : Hid (Tryz.prog.built 46 [(0, .int .i64 hg)] = some (trC hg rf0)) := built_t1 hg
  have HBT0 : Hid (Tryz.prog.built 46 [] = some (trC 0 rf0)) := built_t0
  have q0 : Blk (w4.alloc (.cells (trC 0 rf0) 46)) w4.heap.size 46 (trC 0 rf0) := Blk.new _ _ _
  have w5b : Blk ((w4.alloc (.cells (trC 0 rf0) 46)).setRow w4.heap.size (trC hg rf0)) w4.heap.size 46 (trC hg rf0) := q0.set _
  have hb45 : Below w4.heap.size w4 ((w4.alloc (.cells (trC 0 rf0) 46)).setRow w4.heap.size (trC hg rf0)) := below_setRow (below_new1 _ _) (Nat.le_refl _) _
  have HT5 : Hid (TW ((w4.alloc (.cells (trC 0 rf0) 46)).setRow w4.heap.size (trC hg rf0)) B g N F cp m room 0 U ib xt h' R) := HT4.out.below hb45
  have HB5 : Hid (Below w.heap.size w ((w4.alloc (.cells (trC 0 rf0) 46)).setRow w4.heap.size (trC hg rf0))) := HB4.out.trans (hb45.mono HB4.out.size)
  have HNU : Hid (¬ U w4.heap.size) := fun u => by have := (HT4.out.td.lt _ u).2; omega
  have HD1 : Hid (∀ w, TD w B g N F cp m room 0 U → Calls Tryz.prog 32 #[.pointer (some ⟨cp, 0, none⟩), .agg (trC h' R), .agg (trC hg rf0)] w fun e w' => DfP w w' B g N F cp m room 0 U e [] (if trOk h' R ∧ 0 ≤ hg ∧ hg ≤ 6 then 0 else 1)) := fun w hw => by
    by_cases hgd : trOk h' R ∧ 0 ≤ hg ∧ hg ≤ 6
    · rw [if_pos hgd]
      exact diff_nil h' hg R HH.out.2 hgd.2 hgd.1 w hw
    · rw [if_neg hgd]
      exact (diff_bad h' hg R rf0 HH.out.2 ⟨by decide, okD_zero⟩ (fun q => hgd ⟨q.1, q.2.2⟩) _ w).mono fun e w' ⟨e1, hb⟩ => ⟨_, e1, ⟨rfl, .inl ⟨rfl, rfl⟩⟩, U, hw.below hb, .of_below hb, fun _ => .inl, fun k q => by simp [Value.ownBlock] at q⟩
  have HD2 : Hid (∀ (U : Nat → Prop) w, TD w B g N F cp m room 0 U → Calls Tryz.prog 33 #[.pointer (some ⟨cp, 0, none⟩), .agg (trC hg rf0), .agg (trC h' R)] w fun e w' => (∃ bb ff, e = .returned (.tuple #[.bool bb, .int .i64 ff]) ∧ (¬ (trOk h' R ∧ 0 ≤ hg ∧ hg ≤ 6) → ff = 1)) ∧ TDStep w w' B g N F cp m room (0 + 6 + 10922) U) := fun U w hw => by
    by_cases hgd : trOk h' R ∧ 0 ≤ hg ∧ hg ≤ 6
    · exact (same_ok hg h' rf0 R _ _ (0 + 6 + 10922) (fun w h1 => diff_none HF.out hg h' R HH.out.2 hgd.2 hgd.1 (by decide) w h1) (fun V w h1 => diff_nil h' hg R HH.out.2 hgd.2 hgd.1 w h1) w hw).mono fun e w' ⟨⟨bb, f, e1⟩, h2⟩ => ⟨⟨bb, f, e1, fun q => absurd hgd q⟩, h2⟩
    · exact (same_bad hg h' rf0 R ⟨by decide, okD_zero⟩ HH.out.2 (fun q => hgd ⟨q.2, q.1.2⟩) _ w).mono fun e w' ⟨e1, hb⟩ => ⟨⟨_, _, e1, fun _ => rfl⟩, .of_below (hw.mono (by omega)) hb⟩
  have HD3 : Hid (∀ (i : Nat) (U : Nat → Prop) w, i < 100000 → trOk h' R → TD w B g N F cp m room i U → Calls Tryz.prog 32 #[.pointer (some ⟨cp, 0, none⟩), .agg (trC 0 rf0), .agg (trC h' R)] w fun e w' => DfP w w' B g N F cp m room (i + 6 + 10922) U e (allV F N h' R).1 (allV F N h' R).2) := fun i U w hi hok h1 => diff_none HF.out 0 h' R HH.out.2 (by decide) hok (Nat.lt_of_lt_of_le hi (by decide)) w h1
  clear hb45 HT4 HB4 t4
  go_upto_region 5 with (first
    | (refine wpList_build_at (by rfl) 46 _ (by rfl) [(0, .int .i64 hg)] (by rfl) (trC hg rf0) (by exact HBT.out) ?_; simp only [Act.put, sgPHWoOpen])
    | (refine wpList_store_row (by rfl) 46 _ _ (by rfl) (w4.heap.size) (trC hg rf0) (by rfl) (by rfl) 46 (_) (by exact q0) (sizeTr.trans (by rw [trC_size])) (by simp only [trC_size]) (trC_all _ _) ?_; simp only [Act.put, sgPHWoOpen])
    | fail)
  clear q0 HBT
  have hS := And.intro HT5.out.tr w5b
  clear w5b
  generalize ((w4.alloc (.cells (trC 0 rf0) 46)).setRow w4.heap.size (trC hg rf0)) = w5 at *
  generalize w4.heap.size = wb at *
  obtain ⟨e1, he1⟩ : ∃ e1 : Int, (if trOk h' R ∧ 0 ≤ hg ∧ hg ≤ 6 then (0 : Int) else 1) = e1 := ⟨_, rfl⟩
  rw [he1] at HD1
  have HE1 : Hid ((if trOk h' R ∧ 0 ≤ hg ∧ hg ≤ 6 then (0 : Int) else 1) = e1) := he1
  clear he1
  have HWB5 : Hid (wb < w5.heap.size) := hS.2.lt
  have hS : Blk w5.drew xt 33 (trC h' R) ∧ Blk w5.drew wb 46 (trC hg rf0) := hS
  refine wp_region_partsS (fun W => Blk W xt 33 (trC h' R) ∧ Blk W wb 46 (trC hg rf0)) [([0], 1, true), ([], 3, true), ([], 2, false), ([], 4, false)] [5, 6, 7, 8, 9] [] (by kernel_rfl) (by kernel_rfl) hS (partsI_yield ?_)
  simp only [sgLHWoOpen]
  go_wp2_with fail
  refine ⟨rfl, _, .agg (trC h' R), rfl, kyields_load (by rfl) 33 _ (by rfl) xt 34 (trF h' R) (by rfl) _ 33 (fun W hW => hW.1) Tryz.underlying33 rfl rsizeTr, partsI_yield ?_⟩
  simp only [Act.put, sgPHWoOpen]
  simp only [sgLHWoOpen]
  go_wp2_with fail
  refine ⟨rfl, _, .agg (trC hg rf0), rfl, kyields_load (by rfl) 46 _ (by rfl) wb 34 (trF hg rf0) (by rfl) _ 46 (fun W hW => hW.2) Tryz.underlying46 rfl sizeTr, partsI_force ?_⟩
  simp only [Act.put, sgPHWoOpen]
  simp only [sgLHWoOpen]
  go_wp2_with fail
  refine (given_tree h' R _).mono ?_
  rintro e w6 ⟨rfl, hbg⟩
  have hw6 := (⟨hS.1.below hbg hS.1.lt, hS.2.below hbg hS.2.lt⟩ : Blk w6 xt 33 (trC h' R) ∧ Blk w6 wb 46 (trC hg rf0))
  have HBw6 : Hid (Below w5.heap.size w5 w6) := (Below.refl _ _).drew.trans (hbg.mono (Below.refl w5.heap.size w5).drew.size)
  clear hbg hS
  go_wp2_with fail
  refine ⟨rfl, hw6, partsI_force ?_⟩
  simp only [sgLHWoOpen]
  go_wp2_with fail
  refine (HD1.out w6 (HT5.out.td.below HBw6.out)).mono ?_
  rintro e w7 ⟨v7, rfl, ho7, V7, hd7, ht7, hv7, ha7⟩
  have hS7 := (⟨ht7.blk hw6.1 HT5.out.hxt, ht7.blk hw6.2 HNU.out⟩ : Blk w7 xt 33 (trC h' R) ∧ Blk w7 wb 46 (trC hg rf0))
  go_wp2_with fail
  refine ⟨rfl, hS7, partsI_last ?_⟩
  simp only [sgLHWoOpen]
  go_wp2_with fail
  refine ⟨rfl, ?_⟩
  obtain ⟨la, lc, rfl⟩ := kown_slice ho7
  have ht57 : Turns U w5 w7 := (Turns.of_below (S := U) HBw6.out).trans ht7 fun b q => .inl q
  have hv57 : ∀ x, V7 x → U x ∨ w5.heap.size ≤ x := fun x q => (hv7 x q).imp id fun u => Nat.le_trans HBw6.out.size u
  have HT7 : Hid (TW w7 B g N F cp m room 0 V7 ib xt h' R) := HT5.out.stepV hd7 ht57 hv57
  have HB7 : Hid (Below w.heap.size w w7) := HB5.out.trans (ht57.below (B := w.heap.size) HB5.out.size fun z hz => by have h1 := (HT5.out.td.lt z hz).1; have h2 := HBB.out; omega)
  have HNU7 : Hid (¬ V7 wb) := fun u => by
    rcases hv57 wb u with q | q
    · exact HNU.out q
    · have h3 := HWB5.out
      omega
  have hS0 := hS7
  clear ho7 hd7 ht7 hv7 ha7 ht57 hv57 hS7 HT5 HB5 HD1
  simp only [List.length_nil]
  go_upto_region 6 with fail
  have hS : Blk w7.drew xt 33 (trC h' R) ∧ Blk w7.drew wb 46 (trC hg rf0) := hS0
  clear hS0
  refine wp_region_partsS (fun W => Blk W xt 33 (trC h' R) ∧ Blk W wb 46 (trC hg rf0)) [([0], 1, true), ([], 2, false), ([], 3, false), ([], 4, false)] [5, 6, 7, 8, 9] [] (by kernel_rfl) (by kernel_rfl) hS (partsI_yield ?_)
  simp only [sgLHWoOpen]
  go_wp2_with fail
  refine ⟨rfl, _, .agg (trC hg rf0), rfl, kyields_load (by rfl) 46 _ (by rfl) wb 34 (trF hg rf0) (by rfl) _ 46 (fun W hW => hW.2) Tryz.underlying46 rfl sizeTr, partsI_force ?_⟩
  simp only [Act.put, sgPHWoOpen]
  simp only [sgLHWoOpen]
  have hx6 := hS.1
  (refine wpList_load_rowg (by rfl) 33 _ (by rfl) (xt) (by rfl) 33 (trC h' R) (0, 0) _ (by exact hx6) Tryz.underlying33 (by rfl) (rsizeTr.trans (by rw [trC_size])) ?_; simp only [Act.put, sgPHWoOpen])
  go_wp2_with fail
  clear hx6
  refine ⟨rfl, hS, partsI_force ?_⟩
  simp only [sgLHWoOpen]
  go_wp2_with fail
  refine (given_tree h' R _).mono ?_
  rintro e w8 ⟨rfl, hbg⟩
  have hw8 := (⟨hS.1.below hbg hS.1.lt, hS.2.below hbg hS.2.lt⟩ : Blk w8 xt 33 (trC h' R) ∧ Blk w8 wb 46 (trC hg rf0))
  have HBw8 : Hid (Below w7.heap.size w7 w8) := (Below.refl _ _).drew.trans (hbg.mono (Below.refl w7.heap.size w7).drew.size)
  clear hbg hS
  go_wp2_with fail
  refine ⟨rfl, hw8, partsI_force ?_⟩
  simp only [sgLHWoOpen]
  go_wp2_with fail
  refine (HD2.out V7 w8 (HT7.out.td.below HBw8.out)).mono ?_
  rintro e w9 ⟨⟨bb, ff, rfl, hff⟩, V9, hd9, ht9, hv9⟩
  have hS9 := (⟨ht9.blk hw8.1 HT7.out.hxt, ht9.blk hw8.2 HNU7.out⟩ : Blk w9 xt 33 (trC h' R) ∧ Blk w9 wb 46 (trC hg rf0))
  go_wp2_with fail
  refine ⟨rfl, hS9, partsI_last ?_⟩
  simp only [sgLHWoOpen]
  go_wp2_with fail
  refine ⟨rfl, ?_⟩
  have ht79 : Turns V7 w7 w9 := (Turns.of_below (S := V7) HBw8.out).trans ht9 fun b q => .inl q
  have hv79 : ∀ x, V9 x → V7 x ∨ w7.heap.size ≤ x := fun x q => (hv9 x q).imp id fun u => Nat.le_trans HBw8.out.size u
  have HT9 : Hid (TW w9 B g N F cp m room (0 + 6 + 10922) V9 ib xt h' R) := HT7.out.stepV hd9 ht79 hv79
  have HB9 : Hid (Below w.heap.size w w9) := HB7.out.trans (ht79.below (B := w.heap.size) HB7.out.size fun z hz => by have h1 := (HT7.out.td.lt z hz).1; have h2 := HBB.out; omega)
  have HFF : Hid (¬ (trOk h' R ∧ 0 ≤ hg ∧ hg ≤ 6) → ff = 1) := hff
  clear hd9 ht9 hv9 ht79 hv79 hS9 HT7 HB7 HD2 hff
  have t9 := HT9.out.tr
  go_upto_region 7 with fail
  go_cut [59] (fun v wx => v = .bool (decide (¬ (trOk h' R ∧ 0 ≤ hg ∧ hg ≤ 6))) ∧ Hid (Below w9.heap.size w9 wx))
  case first =>
    go_wp2_with (first
      | (refine wpList_load_rowg (by rfl) 33 _ (by rfl) (xt) (by rfl) 33 (trC h' R) (0, 0) _ (by exact t9) Tryz.underlying33 (by rfl) (rsizeTr.trans (by rw [trC_size])) ?_; simp only [Act.put, sgPHWoOpen])
      | fail)
    refine (rtright_any h' R w9).mono ?_
    rintro e wa ⟨rfl, hba⟩
    by_cases hok : trOk h' R
    · rw [decide_eq_true hok]
      by_cases g0 : hg < 0
      · have hd : decide (¬ (trOk h' R ∧ 0 ≤ hg ∧ hg ≤ 6)) = true := decide_eq_true fun q => by omega
        go_wp2_with fail
        go_meet
        exact ⟨by rw [hd], hba⟩
      · by_cases g1 : 6 < hg
        · have hd : decide (¬ (trOk h' R ∧ 0 ≤ hg ∧ hg ≤ 6)) = true := decide_eq_true fun q => by omega
          go_wp2_with fail
          go_meet
          exact ⟨by rw [hd], hba⟩
        · have hd : decide (¬ (trOk h' R ∧ 0 ≤ hg ∧ hg ≤ 6)) = false := decide_eq_false fun q => q ⟨hok, by omega, by omega⟩
          go_wp2_with fail
          go_meet
          exact ⟨by rw [hd]; first | rfl | (rw [decide_eq_false (show ¬ hg < 0 by omega), decide_eq_false (show ¬ 6 < hg by omega)]; rfl), hba⟩
    · rw [decide_eq_false hok]
      have hd : decide (¬ (trOk h' R ∧ 0 ≤ hg ∧ hg ≤ 6)) = true := decide_eq_true fun q => hok q.1
      go_wp2_with fail
      go_meet
      exact ⟨by rw [hd], hba⟩
  case rest =>
    obtain ⟨rfl, hcut⟩ := hcut
    obtain ⟨wa, rfl⟩ : ∃ u, u = wc := ⟨_, rfl⟩
    have HTa : Hid (TW wa B g N F cp m room (0 + 6 + 10922) V9 ib xt h' R) := HT9.out.below hcut
    have HBa : Hid (Below w.heap.size w wa) := HB9.out.trans (Hid.out hcut |>.mono HB9.out.size)
    clear hcut HT9 HB9 t9
    by_cases hgd : trOk h' R ∧ 0 ≤ hg ∧ hg ≤ 6
    · rw [decide_eq_false (fun q => q hgd)]
      obtain rfl : 0 = e1 := by
        have := HE1.out
        rw [if_pos hgd] at this
        exact this
      have HOK : Hid (trOk h' R) := hgd.1
      clear hgd HFF HE1
      obtain ⟨Lv, er, hav⟩ : ∃ Lv er, allV F N h' R = (Lv, er) := ⟨_, _, rfl⟩
      have HAV : Hid (allV F N h' R = (Lv, er)) := hav
      have HD4 : Hid (∀ w, TD w B g N F cp m room (0 + 6 + 10922) V9 → Calls Tryz.prog 32 #[.pointer (some ⟨cp, 0, none⟩), .agg (trC 0 rf0), .agg (trC h' R)] w fun e w' => DfP w w' B g N F cp m room (0 + 6 + 10922 + 6 + 10922) V9 e Lv er) := fun w h1 => by
        have := HD3.out (0 + 6 + 10922) V9 w (by decide) HOK.out h1
        rw [hav] at this
        exact this
      clear hav HD3
      have ta := HTa.out.tr
      go_wp2_with (first
        | (refine wpList_build_at (by rfl) 46 _ (by rfl) [] (by rfl) (trC 0 rf0) (by exact HBT0.out) ?_; simp only [Act.put, sgPHWoOpen])
        | (refine wpList_load_rowg (by rfl) 33 _ (by rfl) (xt) (by rfl) 33 (trC h' R) (0, 0) _ (by exact ta) Tryz.underlying33 (by rfl) (rsizeTr.trans (by rw [trC_size])) ?_; simp only [Act.put, sgPHWoOpen])
        | fail)
      refine (given_tree h' R wa).mono ?_
      rintro e wd ⟨rfl, hbd⟩
      have HTd : Hid (TW wd B g N F cp m room (0 + 6 + 10922) V9 ib xt h' R) := HTa.out.below hbd
      have HBd : Hid (Below w.heap.size w wd) := HBa.out.trans (hbd.mono HBa.out.size)
      clear hbd ta HTa HBa
      go_wp2_with fail
      refine (HD4.out wd HTd.out.td).mono ?_
      rintro e we ⟨v, rfl, hoe, Ve, hde, hte, hve, _⟩
      obtain ⟨ma, mc, rfl⟩ := kown_slice hoe
      obtain ⟨K, hK⟩ : ∃ K, Lv.length = K := ⟨_, rfl⟩
      have HK : Hid (Lv.length = K) := hK
      rw [hK]
      have HTe : Hid (TW we B g N F cp m room (0 + 6 + 10922 + 6 + 10922) Ve ib xt h' R) := HTd.out.stepV hde hte hve
      have HBe : Hid (Below w.heap.size w we) := HBd.out.trans (hte.below (B := w.heap.size) HBd.out.size fun z hz => by have h1 := (HTd.out.td.lt z hz).1; have h2 := HBB.out; omega)
      clear hoe hde hte hve hK HTd HBd HD4
      have te := HTe.out.tr
      have HRA : Hid (Calls Tryz.prog 27 #[.slice (some ⟨ib, 0, none⟩) N ic, .agg (trC h' R)] we (BnP we (evR F N h' R).1 (evR F N h' R).2)) := by
        obtain ⟨hn, hhn⟩ := Int.eq_ofNat_of_zero_le HOK.out.2.1
        have := rall9_any HF.out HTe.out.td.nN (some ⟨ib, 0, none⟩) ic hn (by have := HOK.out.2.2; omega) R HH.out.2.1 we HTe.out.img
        rw [← show evR F N h' R = bnR F N hn 0 R by
          unfold evR
          rw [if_pos HOK.out, hhn, Int.toNat_natCast], ← hhn] at this
        exact this
      have HAV2 : Hid ((if (evR F N h' R).2 = 0 then ((evR F N h' R).1, (0 : Int)) else ([], (evR F N h' R).2)) = (Lv, er)) := HAV.out
      clear HAV HTe
      generalize evR F N h' R = ev at *
      obtain ⟨Lw, ew⟩ := ev
      go_wp2_with (first
        | (refine wpList_load_rowg (by rfl) 33 _ (by rfl) (xt) (by rfl) 33 (trC h' R) (0, 0) _ (by exact te) Tryz.underlying33 (by rfl) (rsizeTr.trans (by rw [trC_size])) ?_; simp only [Act.put, sgPHWoOpen])
        | fail)
      refine HRA.out.mono ?_
      rintro e wf ⟨ab, cw, rfl, hof, hbf⟩
      have HBf : Hid (Below w.heap.size w wf) := HBe.out.trans (hbf.mono HBe.out.size)
      clear hof hbf te HRA HBe
      by_cases he0 : ew = 0
      · subst he0
        obtain ⟨rfl, rfl⟩ : Lw = Lv ∧ 0 = er := by
          have := HAV2.out
          simpa using this
        simp only [HK.out]
        go_wp2_with fail
        go_ret
        exact ⟨by simp, HBf.out⟩
      · obtain ⟨rfl, rfl⟩ : [] = Lv ∧ ew = er := by
          have := HAV2.out
          simp only [if_neg he0] at this
          exact Prod.mk.inj this
        obtain rfl : 0 = K := HK.out
        have hne2 : (ew != 0) = true := by simp [he0]
        have hne3 : decide (ew = 0) = false := decide_eq_false he0
        go_wp2_with fail
        go_ret
        exact ⟨by simp [he0], HBf.out⟩
    · rw [decide_eq_true hgd]
      obtain rfl : 1 = e1 := by
        have := HE1.out
        rw [if_neg hgd] at this
        exact this
      obtain rfl : ff = 1 := HFF.out hgd
      clear hgd HFF HE1 HD3
      go_wp2_with fail
      go_ret
      exact ⟨rfl, HBa.out⟩
end Go.Proofs.YtjhabngibbmpbaaGreat

namespace Go.Proofs.YtjhabngibbmpbaaGreat
open Go.ChangeShapes Go.WideShapes Go.ChangeAt Go.RowKit Go.Joins
set_option linter.unusedVariables false
set_option linter.unusedSimpArgs false
theorem wcell_lt {w : World} {a : Addr} {v : Value} (h : w.cell? a = some v) : a.block < w.heap.size := by
  obtain ⟨e, n, hs, _⟩ := World.shape?_of_cell? h
  unfold World.shape? at hs
  cases hb : w.heap[a.block]? with
  | none => simp [hb] at hs
  | some o => exact (Array.getElem?_eq_some_iff.1 hb).1
set_option maxRecDepth 100000 in
theorem open_fills {H : Type} {enc : TypeId × Value → H} {W : World} {a0 : Option Addr} {len cap fuel : Nat} {x : DataW H × List MemPlace}
    (hf : DataW.trod enc Tryz.prog W 0 (fun _ => true) true fuel 22 [.slice a0 len cap] = some x) (hsz : ∀ n ∈ x.1.weights Tryz.prog 22, n ≤ reachBytes) :
    ∃ (A : Nat → Int) (Y : Nat → Nat), len ≤ 9223372036854775807 ∧ IsFl W a0 len A Y := by
  rcases Deep.open_slice Tryz.underlying22 hf with ⟨hcs, hx⟩ | ⟨a, len', cap', m, n, D, Pl, hcs, _, hl, hm, hmm, hx, hel⟩
  · simp at hcs
    obtain ⟨rfl, rfl, rfl⟩ := hcs
    exact ⟨fun _ => 0, fun _ => 0, by omega, fun i hi => absurd hi (by omega)⟩
  · simp at hcs
    obtain ⟨rfl, rfl, rfl⟩ := hcs
    subst hx
    simp only [if_true] at hmm
    subst hmm
    have hu := Tryz.underlying22
    have hby : Tryz.prog.bytesOf 83 = 16 := by kernel_rfl
    have hw0 := hsz ((((List.range len).map D).length + ((List.range (m - len)).map fun j => D (len + j)).length) * Tryz.prog.bytesOf 83) (by simp [DataW.weights, hu])
    rw [hby] at hw0
    simp only [List.length_map, List.length_range] at hw0
    have hlen4 : len ≤ 9223372036854775807 := by
      unfold reachBytes at hw0
      omega
    have hce : Tryz.prog.cellsOf 83 = 2 := by kernel_rfl
    have hci : Tryz.prog.cellsOf 3 = 1 := by kernel_rfl
    have hcu : Tryz.prog.cellsOf 5 = 1 := by kernel_rfl
    have hsp : 0 < len → a.spot = none := fun h0 => by
      obtain ⟨cs', h1, _⟩ := hel 0 (by omega)
      rw [hce] at h1
      obtain ⟨_, hcl, hcell⟩ := World.cells?_some h1
      match cs', hcl with
      | [v0, v1], _ => simpa [Addr.add] using World.cell?_spot (hcell 0 (by omega))
    have each : ∀ i, ∃ q : Int × Nat, i < len → ∃ b o, a = ⟨b, o, none⟩ ∧ b < W.heap.size ∧ W.cell? ⟨b, o + i * 2, none⟩ = some (.int .i64 q.1) ∧ W.cell? ⟨b, o + i * 2 + 1, none⟩ = some (.int .u8 ((q.2 : Nat) : Int)) ∧ q.2 < 256 ∧ (-9223372036854775808 ≤ q.1 ∧ q.1 ≤ 9223372036854775807) := by
      intro i
      by_cases hi : i < len
      · obtain ⟨cs', h1, h2⟩ := hel i (by omega)
        rw [hce] at h1
        obtain ⟨_, hcl, hcell⟩ := World.cells?_some h1
        obtain ⟨xs, k, hk, hxy, _, hxl, hfs⟩ := DataW.trod_struct Tryz.underlying83 h2
        match xs, hxl, cs', hcl with
        | [y0, y1], _, [v0, v1], _ =>
          have g0 := hfs 0 _ rfl
          have g1 := hfs 1 _ rfl
          simp [hci, hcu] at g0 g1
          obtain ⟨p, e0, _, w0⟩ := DataW.trod_int Tryz.underlying3 g0
          obtain ⟨q, e1, _, w1⟩ := DataW.trod_int Tryz.underlying5 g1
          simp at e0 e1
          subst e0 e1
          have hb8 := bounds_u8 w1
          obtain ⟨q, rfl⟩ := Int.eq_ofNat_of_zero_le hb8.1
          refine ⟨(p, q), fun _ => ?_⟩
          have c0 := hcell 0 (by decide)
          have c1 := hcell 1 (by decide)
          obtain ⟨b, off, spot⟩ := a
          have hspot : spot = none := hsp (by omega)
          subst hspot
          simp only [Addr.add_mid, List.getElem?_cons_zero, List.getElem?_cons_succ] at c0 c1
          exact ⟨b, off, rfl, wcell_lt c0, c0, c1, by omega, bounds_i64 w0⟩
      · exact ⟨(0, 0), fun h => absurd h hi⟩
    refine ⟨fun i => (Classical.choose (each i)).1, fun i => (Classical.choose (each i)).2, hlen4, fun i hi => ?_⟩
    obtain ⟨b, o, rfl, h1, h2, h3, h4, h5⟩ := Classical.choose_spec (each i) hi
    exact ⟨b, o, rfl, h1, h2, h3, h4, h5⟩
set_option maxRecDepth 100000 in
theorem open_ints9 {H : Type} {enc : TypeId × Value → H} {W : World} {a0 : Option Addr} {len cap fuel : Nat} {x : DataW H × List MemPlace}
    (hf : DataW.trod enc Tryz.prog W 0 (fun _ => true) true fuel 23 [.slice a0 len cap] = some x) (hsz : ∀ n ∈ x.1.weights Tryz.prog 23, n ≤ reachBytes) :
    ∃ (A : Nat → Int), len ≤ 9223372036854775807 ∧ IsIn W a0 len A := by
  rcases Deep.open_slice Tryz.underlying23 hf with ⟨hcs, hx⟩ | ⟨a, len', cap', m, n, D, Pl, hcs, _, hl, hm, hmm, hx, hel⟩
  · simp at hcs
    obtain ⟨rfl, rfl, rfl⟩ := hcs
    exact ⟨fun _ => 0, by omega, fun i hi => absurd hi (by omega)⟩
  · simp at hcs
    obtain ⟨rfl, rfl, rfl⟩ := hcs
    subst hx
    simp only [if_true] at hmm
    subst hmm
    have hu := Tryz.underlying23
    have hby : Tryz.prog.bytesOf 3 = 8 := by kernel_rfl
    have hw0 := hsz ((((List.range len).map D).length + ((List.range (m - len)).map fun j => D (len + j)).length) * Tryz.prog.bytesOf 3) (by simp [DataW.weights, hu])
    rw [hby] at hw0
    simp only [List.length_map, List.length_range] at hw0
    have hlen4 : len ≤ 9223372036854775807 := by
      unfold reachBytes at hw0
      omega
    have hce : Tryz.prog.cellsOf 3 = 1 := by kernel_rfl
    have hsp : 0 < len → a.spot = none := fun h0 => by
      obtain ⟨cs', h1, _⟩ := hel 0 (by omega)
      rw [hce] at h1
      obtain ⟨_, hcl, hcell⟩ := World.cells?_some h1
      match cs', hcl with
      | [v0], _ => simpa [Addr.add] using World.cell?_spot (hcell 0 (by omega))
    have each : ∀ i, ∃ q : Int, i < len → ∃ b o, a = ⟨b, o, none⟩ ∧ b < W.heap.size ∧ W.cell? ⟨b, o + i, none⟩ = some (.int .i64 q) ∧ (-9223372036854775808 ≤ q ∧ q ≤ 9223372036854775807) := by
      intro i
      by_cases hi : i < len
      · obtain ⟨cs', h1, h2⟩ := hel i (by omega)
        rw [hce] at h1
        obtain ⟨_, hcl, hcell⟩ := World.cells?_some h1
        match cs', hcl with
        | [v0], _ =>
          obtain ⟨p, e0, _, w0⟩ := DataW.trod_int Tryz.underlying3 h2
          simp at e0
          subst e0
          refine ⟨p, fun _ => ?_⟩
          have c0 := hcell 0 (by decide)
          obtain ⟨b, off, spot⟩ := a
          have hspot : spot = none := hsp (by omega)
          subst hspot
          simp only [Addr.add_mid, List.getElem?_cons_zero, Nat.mul_one, Nat.add_zero] at c0
          exact ⟨b, off, rfl, wcell_lt c0, c0, bounds_i64 w0⟩
      · exact ⟨0, fun h => absurd h hi⟩
    refine ⟨fun i => Classical.choose (each i), hlen4, fun i hi => ?_⟩
    obtain ⟨b, o, rfl, h1, h2, h3⟩ := Classical.choose_spec (each i) hi
    exact ⟨b, o, rfl, h1, h2, h3⟩
set_option maxRecDepth 100000 in
theorem open_world {H : Type} {enc : TypeId × Value → H} {W : World} {r : Reach} {b0 : Nat} {v : Value} {d : DataW H} {p : List MemPlace}
    (hv : Value.okWide Tryz.prog W r b0 25 v) (h : DataW.Trod enc Tryz.prog W 0 (fun _ => true) true 25 v d p) (hsz : ∀ n ∈ d.weights Tryz.prog 25, n ≤ reachBytes) :
    ∃ (h : Int) (a : Option Addr) (n c : Nat) (ab : Option Addr) (nb cb : Nat) (tu ca : Int) (A : Nat → Int) (Y : Nat → Nat) (Z : Nat → Int), v = .agg (woC h a n c ab nb cb tu ca) ∧ Wo W h a n ab nb tu ca A Y Z := by
  obtain ⟨cs, rfl, hcs⟩ := okWide_struct Tryz.underlying25 hv
  obtain ⟨fuel, hf⟩ := h
  have hc : Tryz.prog.cellsOf 25 = 5 := by kernel_rfl
  rw [hc] at hcs
  have hcf : Tryz.prog.cellsOf 22 = 1 := by kernel_rfl
  have hcn : Tryz.prog.cellsOf 23 = 1 := by kernel_rfl
  have hci : Tryz.prog.cellsOf 3 = 1 := by kernel_rfl
  obtain ⟨xs, k, hk, hxy, _, hxl, hfs⟩ := DataW.trod_struct Tryz.underlying25 hf
  obtain ⟨l, rfl⟩ : ∃ l : List Value, cs = l.toArray := ⟨cs.toList, by simp⟩
  have hl : l.length = 5 := by simpa using hcs
  match xs, hxl, l, hl with
  | [y0, y1, y2, y3, y4], _, [v0, v1, v2, v3, v4], _ =>
    have g0 := hfs 0 _ rfl
    have g1 := hfs 1 _ rfl
    have g2 := hfs 2 _ rfl
    have g3 := hfs 3 _ rfl
    have g4 := hfs 4 _ rfl
    simp [hcf, hcn, hci, Value.cells] at g0 g1 g2 g3 g4
    obtain ⟨h, e0, _, w0⟩ := DataW.trod_int Tryz.underlying3 g0
    obtain ⟨tu, e3, _, w3⟩ := DataW.trod_int Tryz.underlying3 g3
    obtain ⟨ca, e4, _, w4⟩ := DataW.trod_int Tryz.underlying3 g4
    simp at e0 e3 e4
    subst e0 e3 e4
    have hD : d = .agg [y0.1, y1.1, y2.1, y3.1, y4.1] := by
      have := congrArg Prod.fst hxy
      simpa using this
    have hf1 : ∃ a N c, v1 = .slice a N c := by
      rcases Deep.open_slice Tryz.underlying22 g1 with ⟨hcs, _⟩ | ⟨a, len', cap', _, _, _, _, hcs, _⟩
      · simp at hcs
        exact ⟨_, _, _, hcs⟩
      · simp at hcs
        exact ⟨_, _, _, hcs⟩
    have hf2 : ∃ a N c, v2 = .slice a N c := by
      rcases Deep.open_slice Tryz.underlying23 g2 with ⟨hcs, _⟩ | ⟨a, len', cap', _, _, _, _, hcs, _⟩
      · simp at hcs
        exact ⟨_, _, _, hcs⟩
      · simp at hcs
        exact ⟨_, _, _, hcs⟩
    obtain ⟨a, n, c, rfl⟩ := hf1
    obtain ⟨ab, nb, cb, rfl⟩ := hf2
    obtain ⟨A, Y, h1, h2⟩ := open_fills (x := y1) g1 (fun n hn => by
      refine hsz n ?_
      rw [hD]
      simp only [DataW.weights, Tryz.underlying25]
      exact DataW.weights_mem_each (j := 1) (t := 22) (d := y1.1) rfl rfl n hn)
    obtain ⟨Z, h3, h4⟩ := open_ints9 (x := y2) g2 (fun n hn => by
      refine hsz n ?_
      rw [hD]
      simp only [DataW.weights, Tryz.underlying25]
      exact DataW.weights_mem_each (j := 2) (t := 23) (d := y2.1) rfl rfl n hn)
    exact ⟨h, a, n, c, ab, nb, cb, tu, ca, A, Y, Z, rfl, ⟨h1, h3, h2, h4, bounds_i64 w0, bounds_i64 w3, bounds_i64 w4⟩⟩
end Go.Proofs.YtjhabngibbmpbaaGreat
