/- The statement TreeQuiet: called with whatever world it returns true. -/
import Derived.Test.YtiofonffmplfmaaGreatHTrQuM

namespace Go.Proofs.YtiofonffmplfmaaGreat
theorem sgLHTreeQuietLaw : (∀ (α : Type) (a : α) (l r : List α), (a :: l) ++ r = a :: (l ++ r)) ∧ (∀ (α : Type) (l : List α), [] ++ l = l) ∧ (∀ (α : Type) (l : List α), l ++ [] = l) ∧ (∀ (α β : Type) (f : α → Option β) (a : α) (l : List α), (a :: l).filterMap f = match f a with | none => l.filterMap f | some b => b :: l.filterMap f) ∧ (∀ (α β : Type) (f : α → Option β), [].filterMap f = []) ∧ (∀ (α : Type) (l : List α) (i : Nat), l.toArray[i]? = l[i]?) ∧ (∀ (α : Type) (a : α) (l : List α), (a :: l)[0]? = some a) ∧ (∀ (α : Type) (a : α) (l : List α) (i : Nat), (a :: l)[i + 1]? = l[i]?) :=
  ⟨fun _ _ _ _ => List.cons_append, fun _ _ => List.nil_append _, fun _ _ => List.append_nil _, fun _ _ _ _ _ => List.filterMap_cons, fun _ _ _ => List.filterMap_nil, fun _ _ _ => List.getElem?_toArray, fun _ _ _ => List.getElem?_cons_zero, fun _ _ _ _ => List.getElem?_cons_succ⟩
theorem sgPHTreeQuietLaw : (∀ (α : Type) (l : List α) (i : Nat) (a : α), l.toArray.setIfInBounds i a = (l.set i a).toArray) ∧ (∀ (α : Type) (a b : α) (l : List α), (a :: l).set 0 b = b :: l) ∧ (∀ (α : Type) (a b : α) (l : List α) (i : Nat), (a :: l).set (i + 1) b = a :: l.set i b) :=
  ⟨fun _ _ _ _ => List.setIfInBounds_toArray _ _ _, fun _ _ _ _ => List.set_cons_zero, fun _ _ _ _ _ => List.set_cons_succ⟩
end Go.Proofs.YtiofonffmplfmaaGreat
namespace Go.Proofs.YtiofonffmplfmaaGreat
open Go Go.RowKit
set_option linter.unusedSimpArgs false
set_option linter.unusedVariables false
set_option maxRecDepth 100000 in
set_option maxHeartbeats 16000000 in
theorem treeQuietLaw {h : Int} {a : Option Addr} {n c : Nat} {ab : Option Addr} {nb cb : Nat} {tu ca : Int} {A : Nat → Int} {Y : Nat → Nat} {Z : Nat → Int} (w : World) (HW : Wo w h a n ab nb tu ca A Y Z) : Calls Tryz.prog 4 #[.agg (woC h a n c ab nb cb tu ca)] w fun e w' => e = .returned (.bool true) ∧ Below w.heap.size w w' := by
  have hz := rtop_zero
  have hzr := zero_ref
  have hzrr := zero_rref
  have hzb := zero_bk
  have hzbr := rzero_bk
  have hmm := @run_makeMap Tryz.prog
  have hb1 : Below w.heap.size w (w.alloc (.cells (woC h a n c ab nb cb tu ca) 25)) := below_new1 _ _
  have hb2 : Below w.heap.size w (w.alloc (.cells (((woC h a n c ab nb cb tu ca).setIfInBounds 2 (.slice none 0 0)).setIfInBounds 3 (.int .i64 0)) 25)) := below_new1 _ _
  have b1 : Blk (w.alloc (.cells (woC h a n c ab nb cb tu ca) 25)) w.heap.size 25 (woC h a n c ab nb cb tu ca) := Blk.new _ _ _
  have b2 : Blk (w.alloc (.cells (((woC h a n c ab nb cb tu ca).setIfInBounds 2 (.slice none 0 0)).setIfInBounds 3 (.int .i64 0)) 25)) w.heap.size 25 (woC h a n c none 0 0 0 ca) := Blk.new _ _ _
  have HQ : Hid (Wo w h a n none 0 0 ca A Y Z) := ⟨HW.hn, by omega, HW.fl, fun i hi => absurd hi (Nat.not_lt_zero i), HW.ht, by omega, HW.hca⟩
  have HMd : Hid (∀ V, Below w.heap.size w V → Calls Tryz.prog 6 #[.agg (woC h a n c none 0 0 0 ca)] V (MadeP V h n 0 0 A Y)) := fun V hV => made_any V (HQ.out.below hV)
  obtain ⟨x0, x1, x2, x3, x4⟩ := wo_cells b1
  clear HW hb1
  go_enter Tryz.func4, Tryz.ntmps4
  go_upto_region 2 with fail
  clear x0 x1 x2 x3 x4 b1
  generalize (w.alloc (.cells (((woC h a n c ab nb cb tu ca).setIfInBounds 2 (.slice none 0 0)).setIfInBounds 3 (.int .i64 0)) 25)) = w1 at *
  go_wp2_with (first
    | (refine wpList_load_rowg (by rfl) 25 _ (by rfl) (w.heap.size) (by rfl) 25 (woC h a n c none 0 0 0 ca) (0, 0) _ (by exact b2) Tryz.underlying25 (by rfl) (sizeWo.trans (by rw [woC_size])) ?_; simp only [Act.put, sgPHTreeQuietLaw])
    | fail)
  refine (HMd.out _ hb2).mono ?_
  rintro e w2 ⟨cp, ib, N, ic, g, m, room, B, F, U, h', R, rfl, htd, hBi, himg, hF, hh, hR, hsem, hb3⟩
  obtain ⟨hh1, hhas⟩ := hsem rfl (by decide) (by decide) (by decide)
  have hk6 : hgtW h ≤ 6 := by unfold hgtW; split <;> omega
  subst hh1
  generalize hgtW h = k at *
  clear hh
  have q0 : Blk (w2.alloc (.cells (trC 0 rf0) 33)) w2.heap.size 33 (trC 0 rf0) := Blk.new _ _ _
  have hst := Blk.store (P := Tryz.prog) q0 (trC (k : Int) R) (by simp only [trC_size]) (arr_mem (trC_all _ _))
  have hvs := trC_size (k : Int) R
  have hbq : Below w2.heap.size w2 ((w2.alloc (.cells (trC 0 rf0) 33)).setRow w2.heap.size (trC (k : Int) R)) := below_setRow (below_new1 _ _) (Nat.le_refl _) _
  have HTW : Hid (TW ((w2.alloc (.cells (trC 0 rf0) 33)).setRow w2.heap.size (trC (k : Int) R)) B g N F cp m room 0 U ib w2.heap.size (k : Int) R) := ⟨htd.below hbq, himg.below hbq, q0.set _, fun z => by have := (htd.lt _ z).1; omega, fun z => by have := (htd.lt _ z).2; omega, by have h1 := htd.hB; have h2 := hbq.size; omega⟩
  have HBB : Hid (w.heap.size ≤ B) := Nat.le_trans hb2.size hBi.1
  have HB2 : Hid (Below w.heap.size w ((w2.alloc (.cells (trC 0 rf0) 33)).setRow w2.heap.size (trC (k : Int) R))) := (hb2.trans (hb3.mono hb2.size)).trans (hbq.mono (hb2.trans (hb3.mono hb2.size)).size)
  have HWB : Hid (Blk ((w2.alloc (.cells (trC 0 rf0) 33)).setRow w2.heap.size (trC (k : Int) R)) w.heap.size 25 (woC h a n c none 0 0 0 ca)) := b2.below (hb3.trans (hbq.mono hb3.size)) b2.lt
  have HXL : Hid (w.heap.size < w2.heap.size) := Nat.lt_of_lt_of_le b2.lt hb3.size
  have HF : Hid (∀ x, F x < 256) := hF
  have HK : Hid (k ≤ 6) := hk6
  have HH : Hid (R.1 < 4294967296 ∧ okD R.2) := hR
  obtain ⟨c4, hc4⟩ : ∃ c4, 4 ^ k = c4 := ⟨_, rfl⟩
  have HC4 : Hid (4 ^ k = c4 ∧ 1 ≤ c4 ∧ c4 ≤ 4096) := ⟨hc4, by rw [← hc4]; exact pow4_pos k, by rw [← hc4]; exact pow4_le k hk6⟩
  have HCap : Hid (∀ w, Calls Tryz.prog 11 #[.int .i64 (k : Int)] w fun e w' => e = .returned (.int .i64 (c4 : Int)) ∧ w = w') := fun w => refCap_any k c4 hk6 hc4 w
  have HSem : Hid (Has F N k R fun q _ => (fillG c4 A Y (min n 40) ((q : Nat) : Int)).getD 0) := by
    rw [← hc4]
    exact hhas
  clear htd hBi himg hF hR hb2 hb3 hbq HMd b2 hk6 hc4 hhas
  go_upto_region 3 with fail
  clear q0 hst hvs
  generalize ((w2.alloc (.cells (trC 0 rf0) 33)).setRow w2.heap.size (trC (k : Int) R)) = w3 at *
  generalize w2.heap.size = xt at *
  go_wp2_with fail
  refine (awake9_any w3).mono ?_
  rintro e w4 ⟨rfl, hb4⟩
  have HT4 : Hid (TW w4 B g N F cp m room 0 U ib xt (k : Int) R) := HTW.out.below hb4
  have HB0 : Hid (Below w.heap.size w w4) := HB2.out.trans (hb4.mono HB2.out.size)
  have HW4 : Hid (Blk w4 w.heap.size 25 (woC h a n c none 0 0 0 ca)) := HWB.out.below hb4 HWB.out.lt
  have z4 : w4.cell? ⟨xt, 0, none⟩ = some (.int .i64 (k : Int)) := (HT4.out.tr.cell 0).trans (va_at (trF (k : Int) R) (by decide))
  clear HTW hb4 HB2 HWB
  go_wp2_with fail
  refine (HCap.out _).mono ?_
  rintro e w5 ⟨rfl, rfl⟩
  clear z4
  have hbm : Below w4.heap.size w4 (w4.alloc (.map #[] 0)) := (Below.refl _ w4).alloc (Nat.le_refl _) _
  have HM0 : Hid (JM byV (w4.alloc (.map #[] 0)) w4.heap.size []) := JM.new (heap_alloc_new _ _)
  have HBm : Hid (Below w4.heap.size w4 (w4.alloc (.map #[] 0))) := hbm
  clear hbm
  go_upto_region 7 with fail
  generalize (w4.alloc (.map #[] 0)) = w6 at *
  obtain ⟨mb, hmb⟩ : ∃ mb, mb = w4.heap.size := ⟨_, rfl⟩
  have HMB : Hid (mb = w4.heap.size) := hmb
  rw [← hmb] at HM0 ⊢
  clear hmb
  go_wp2_with fail
  go_loopw [9] (fun v9 wr => Hid (∃ (i : Nat) (L : List (Int × Nat)), v9 = .int .i64 (i : Int) ∧ i ≤ n ∧ i ≤ 40 ∧ JM byV wr mb L ∧ QFs c4 A Y i L ∧ Below w4.heap.size w4 wr)) (fun v9 _ => 40 - (intOf v9).toNat)
  case atStart => exact ⟨0, [], rfl, by omega, by omega, HM0.out, QFs.zero _ _ _, HBm.out⟩
  case round =>
    clear HM0 HBm
    obtain ⟨U0, rfl⟩ : ∃ u, u = wr := ⟨_, rfl⟩
    obtain ⟨i, L, rfl, hin, hi40, hm, hfs, hb⟩ := Hid.out hrel
    have HM : Hid (JM byV U0 mb L) := hm
    have HFS : Hid (QFs c4 A Y i L) := hfs
    have HB : Hid (Below w4.heap.size w4 U0) := hb
    obtain ⟨_, x1, _, _, _⟩ := wo_cells (HW4.out.below hb HW4.out.lt)
    clear hrel hm hfs hb
    go_upto_region 8 with fail
    go_cut [48] (fun v wx => v = .bool (decide (i < n ∧ i < 40)) ∧ U0 = wx)
    case first =>
      by_cases h1 : i < n
      · have h1' : (i : Int) < (n : Int) := by omega
        by_cases h2 : i < 40
        · have h2' : (i : Int) < 40 := by omega
          go_wp2_with fail
          go_meet
          exact ⟨by rw [decide_eq_true (show i < n ∧ i < 40 from ⟨h1, h2⟩)], rfl⟩
        · have h2' : ¬ (i : Int) < 40 := by omega
          go_wp2_with fail
          go_meet
          exact ⟨by rw [decide_eq_false (show ¬ (i < n ∧ i < 40) from fun u => h2 u.2)], rfl⟩
      · have h1' : ¬ (i : Int) < (n : Int) := by omega
        go_wp2_with fail
        go_meet
        exact ⟨by rw [decide_eq_false (show ¬ (i < n ∧ i < 40) from fun u => h1 u.1)], rfl⟩
    case rest =>
      obtain ⟨rfl, rfl⟩ := hcut
      by_cases hlt : i < n ∧ i < 40
      · rw [decide_eq_true hlt]
        have HWO : Hid (Wo w h a n none 0 0 ca A Y Z) := HQ.out
        have HC : Hid (1 ≤ c4 ∧ c4 ≤ 4096) := HC4.out.2
        go_upto_region 10 with fail
        have HFL := HWO.out.fl i hlt.1
        obtain ⟨fb, fo, rfl, hfb, f0, f1, hy, hA⟩ := HFL
        have i0 : (0 : Int) ≤ (i : Int) := by omega
        have i1 : (i : Int) < (n : Int) := by omega
        have hcz : ¬ c4 = 0 := by have := HC4.out.2.1; omega
        have htm := tmod_in HC4.out.2.1 (A i)
        have hadd : IntKind.i64.wrap ((A i).tmod (c4 : Int) + (c4 : Int)) = (A i).tmod (c4 : Int) + (c4 : Int) := by
          have := HC4.out.2.2
          rw [IntKind.wrap_i64]
          omega
        have hS : (fun W : World => W.cell? ⟨w.heap.size, 1, none⟩ = some (.slice (some ⟨fb, fo, none⟩) n c) ∧ W.cell? ⟨fb, fo + i * 2, none⟩ = some (.int .i64 (A i)) ∧ W.cell? ⟨fb, fo + i * 2 + 1, none⟩ = some (.int .u8 ((Y i : Nat) : Int))) U0.drew := ⟨x1, by rw [show U0.drew.cell? ⟨fb, fo + i * 2, none⟩ = w.cell? ⟨fb, fo + i * 2, none⟩ from (HB0.out.trans (HB.out.mono HB0.out.size)).drew.cell (p := ⟨fb, fo + i * 2, none⟩) hfb]; exact f0, by rw [show U0.drew.cell? ⟨fb, fo + i * 2 + 1, none⟩ = w.cell? ⟨fb, fo + i * 2 + 1, none⟩ from (HB0.out.trans (HB.out.mono HB0.out.size)).drew.cell (p := ⟨fb, fo + i * 2 + 1, none⟩) hfb]; exact f1⟩
        have HY : Hid (Y i < 256) := hy
        clear htm hA f0 f1 hy
        refine wp_region_partsS (fun W => W.cell? ⟨w.heap.size, 1, none⟩ = some (.slice (some ⟨fb, fo, none⟩) n c) ∧ W.cell? ⟨fb, fo + i * 2, none⟩ = some (.int .i64 (A i)) ∧ W.cell? ⟨fb, fo + i * 2 + 1, none⟩ = some (.int .u8 ((Y i : Nat) : Int))) [([0, 3, 7, 9, 11, 15], 1, true), ([], 2, true), ([4], 5, true), ([], 6, true), ([], 8, true), ([], 10, true), ([], 12, true), ([], 13, false), ([], 14, false), ([16], 17, false), ([], 18, false)] [] [19] (by kernel_rfl) (by kernel_rfl) hS (partsI_yield ?_)
        simp only [sgLHTreeQuietLaw]
        go_wp2_with fail
        first
          | refine ⟨rfl, _, .pointer (some ⟨w.heap.size, 1, none⟩), rfl, Or.inl ⟨by rfl, fun U hU => by go_simp⟩, partsI_yield ?_⟩
          | refine ⟨rfl, .pointer (some ⟨w.heap.size, 1, none⟩), Or.inl ⟨by rfl, fun U hU => by go_simp⟩, partsI_yield ?_⟩
        simp only [Act.put, sgPHTreeQuietLaw]
        simp only [sgLHTreeQuietLaw]
        go_wp2_with fail
        first
          | refine ⟨rfl, _, .slice (some ⟨fb, fo, none⟩) n c, rfl, Or.inl ⟨by rfl, fun U hU => by have c1 := hU.1; go_simp⟩, partsI_yield ?_⟩
          | refine ⟨rfl, .slice (some ⟨fb, fo, none⟩) n c, Or.inl ⟨by rfl, fun U hU => by have c1 := hU.1; go_simp⟩, partsI_yield ?_⟩
        simp only [Act.put, sgPHTreeQuietLaw]
        simp only [sgLHTreeQuietLaw]
        go_wp2_with fail
        first
          | refine ⟨rfl, _, .pointer (some ⟨fb, fo + i * 2, none⟩), rfl, Or.inl ⟨by rfl, fun U hU => by go_simp⟩, partsI_yield ?_⟩
          | refine ⟨rfl, .pointer (some ⟨fb, fo + i * 2, none⟩), Or.inl ⟨by rfl, fun U hU => by go_simp⟩, partsI_yield ?_⟩
        simp only [Act.put, sgPHTreeQuietLaw]
        simp only [sgLHTreeQuietLaw]
        go_wp2_with fail
        first
          | refine ⟨rfl, _, .int .i64 (A i), rfl, Or.inl ⟨by rfl, fun U hU => by have c1 := hU.2.1; go_simp⟩, partsI_yield ?_⟩
          | refine ⟨rfl, .int .i64 (A i), Or.inl ⟨by rfl, fun U hU => by have c1 := hU.2.1; go_simp⟩, partsI_yield ?_⟩
        simp only [Act.put, sgPHTreeQuietLaw]
        simp only [sgLHTreeQuietLaw]
        go_wp2_with fail
        first
          | refine ⟨rfl, _, .int .i64 ((A i).tmod (c4 : Int)), rfl, Or.inl ⟨by rfl, fun U hU => by go_simp⟩, partsI_yield ?_⟩
          | refine ⟨rfl, .int .i64 ((A i).tmod (c4 : Int)), Or.inl ⟨by rfl, fun U hU => by go_simp⟩, partsI_yield ?_⟩
        simp only [Act.put, sgPHTreeQuietLaw]
        simp only [sgLHTreeQuietLaw]
        go_wp2_with fail
        first
          | refine ⟨rfl, _, .int .i64 ((A i).tmod (c4 : Int) + (c4 : Int)), rfl, Or.inl ⟨by rfl, fun U hU => by go_simp⟩, partsI_yield ?_⟩
          | refine ⟨rfl, .int .i64 ((A i).tmod (c4 : Int) + (c4 : Int)), Or.inl ⟨by rfl, fun U hU => by go_simp⟩, partsI_yield ?_⟩
        simp only [Act.put, sgPHTreeQuietLaw]
        simp only [sgLHTreeQuietLaw]
        go_wp2_with fail
        first
          | refine ⟨rfl, _, .int .i64 (((A i).tmod (c4 : Int) + (c4 : Int)).tmod (c4 : Int)), rfl, Or.inl ⟨by rfl, fun U hU => by go_simp⟩, partsI_force ?_⟩
          | refine ⟨rfl, .int .i64 (((A i).tmod (c4 : Int) + (c4 : Int)).tmod (c4 : Int)), Or.inl ⟨by rfl, fun U hU => by go_simp⟩, partsI_force ?_⟩
        simp only [Act.put, sgPHTreeQuietLaw]
        simp only [sgLHTreeQuietLaw]
        have c1 := hS.1
        have c2 := hS.2.2
        go_wp2_with fail
        refine ⟨rfl, hS, partsI_force ?_⟩
        simp only [sgLHTreeQuietLaw]
        go_wp2_with fail
        refine ⟨rfl, hS, partsI_force ?_⟩
        simp only [sgLHTreeQuietLaw]
        go_wp2_with fail
        refine ⟨rfl, hS, partsI_force ?_⟩
        simp only [sgLHTreeQuietLaw]
        go_wp2_with fail
        obtain ⟨w5, L5, hput, hm5, hfi, ht5⟩ := JM.put (P := Tryz.prog) (V := byV) Tryz.underlying55 Tryz.underlying3 (show JM byV U0.drew mb L from HM.out.keep rfl) (kyN c4 (A i)) (Y i)
        unfold kyN byV at hput
        refine ⟨rfl, hS, partsI_last ?_⟩
        simp only [sgLHTreeQuietLaw]
        go_wp2_with fail
        refine ⟨rfl, ?_⟩
        have HM5 : Hid (JM byV w5 mb L5) := hm5
        have HF5 : Hid (QFs c4 A Y (i + 1) L5) := HFS.out.step hfi
        have HB5 : Hid (Below w4.heap.size w4 w5) := HB.out.drew.trans (ht5.below (B := w4.heap.size) HB.out.drew.size fun b e => by have := HMB.out; omega)
        have HIJ : Hid (i + 1 ≤ n ∧ i + 1 ≤ 40) := ⟨hlt.1, hlt.2⟩
        clear hput hm5 hfi ht5 hS HM HFS HB
        go_wp2_with fail
        go_roundw
        case rel => exact ⟨i + 1, L5, by simp, HIJ.out.1, HIJ.out.2, HM5.out, HF5.out, HB5.out⟩
        case measure =>
          have := HIJ.out.2
          simp [intOf]
          omega
      · rw [decide_eq_false hlt]
        have hi : i = min n 40 := by omega
        subst hi
        clear x1 hlt hin hi40
        have HND : Hid ((L.map (·.1)).Nodup) := HM.out.nd
        have HLN : Hid (L.length ≤ 4096) := Nat.le_trans (HFS.out.len HC4.out.2.1 HND.out) HC4.out.2.2
        have HT0 : Hid (TW U0 B g N F cp m room 0 U ib xt (k : Int) R) := HT4.out.below HB.out
        have HBW : Hid (Below w.heap.size w U0) := HB0.out.trans (HB.out.mono HB0.out.size)
        have HMU : Hid (¬ U mb ∧ ib ≠ mb ∧ xt ≠ mb ∧ mb < U0.heap.size) := ⟨fun z => by have := (HT4.out.td.lt _ z).2; have := HMB.out; omega, fun e => by have := HT4.out.bib; have := HMB.out; omega, fun e => by have := HT4.out.tr.lt; have := HMB.out; omega, HM.out.lt⟩
        clear HT4 HB HB0 HW4 HMB
        go_wp2_with (first | (at_range; refine wpList_range_J (by rfl) _ 55 (by rfl) 3 _ Tryz.underlying55 mb L (by rfl) (by exact HM.out) ?_; intro V1 hit hbw hsz; simp only [Act.put, sgPHTreeQuietLaw]) | fail)
        obtain ⟨s1, hs1⟩ : ∃ s1, s1 = U0.heap.size := ⟨_, rfl⟩
        rw [← hs1] at hit ⊢
        have HIT0 : Hid (ItJ byV V1 s1 mb L []) := hit
        have HT1 : Hid (TW V1 B g N F cp m room 0 U ib xt (k : Int) R) := HT0.out.below hbw
        have HB1 : Hid (Below w.heap.size w V1) := HBW.out.trans (hbw.mono HBW.out.size)
        have HSL : Hid (w.heap.size ≤ s1) := by have := HBW.out.size; show _ ≤ _; omega
        have HS : Hid (¬ U s1 ∧ ib ≠ s1 ∧ xt ≠ s1 ∧ s1 ≠ mb) := ⟨fun z => by have := (HT0.out.td.lt _ z).2; omega, fun e => by have := HT0.out.bib; omega, fun e => by have := HT0.out.tr.lt; omega, fun e => by have := HMU.out.2.2.2; omega⟩
        clear hit hbw hsz HT0 HBW HM hs1
        go_loopw [] (fun wr => Hid (∃ (done : List Int) (j : Nat) (V : Nat → Prop), ItJ byV wr s1 mb L done ∧ j ≤ 10929 * done.length ∧ TW wr B g N F cp m room j V ib xt (k : Int) R ∧ (¬ V s1 ∧ ¬ V mb) ∧ Below w.heap.size w wr)) (fun wr => L.length - itN wr s1)
        case atStart => exact ⟨[], 0, U, HIT0.out, Nat.le_refl _, HT1.out, ⟨HS.out.1, HMU.out.1⟩, HB1.out⟩
        case round =>
          clear HIT0 HT1 HB1
          obtain ⟨U1, rfl⟩ : ∃ u, u = wr := ⟨_, rfl⟩
          obtain ⟨done, j, V, hit, hj, htw, hV, hb⟩ := Hid.out hrel
          have HIT : Hid (ItJ byV U1 s1 mb L done) := hit
          have HJ : Hid (j ≤ 10929 * done.length ∧ done.length ≤ L.length) := ⟨hj, hit.le⟩
          have HTW : Hid (TW U1 B g N F cp m room j V ib xt (k : Int) R) := htw
          have HV : Hid (¬ V s1 ∧ ¬ V mb) := hV
          have HB : Hid (Below w.heap.size w U1) := hb
          have hne : s1 ≠ mb := HS.out.2.2.2
          clear hrel hit hj htw hV hb
          go_upto_region 12 with fail
          refine wp_region_list ?_
          refine wpList_next_J (by rfl) _ (by rfl) s1 mb L done (by rfl) (by exact HIT.out) hne (fun hall => ?_) (fun x xv W2 hxl hxd hit2 hk2 hen => ?_)
          · clear hall hne
            have HMM : Hid (JM byV U1 mb L) := HIT.out.map
            have HJJ : Hid (j ≤ 44765184) := by have h1 := HJ.out; have h2 := HLN.out; show _ ≤ _; omega
            clear HIT HJ
            go_upto_region 18 with fail
            as_aux_lemma =>
              go_wp2_with fail
              go_loopw [16] (fun v16 wr => Hid (∃ (p j : Nat) (V : Nat → Prop), v16 = .int .i64 (p : Int) ∧ p ≤ c4 ∧ p ≤ 30 ∧ j ≤ 44765184 + 7 * p ∧ TW wr B g N F cp m room j V ib xt (k : Int) R ∧ JM byV wr mb L ∧ ¬ V mb ∧ Below w.heap.size w wr)) (fun v16 _ => 30 - (intOf v16).toNat)
              case atStart => exact ⟨0, j, V, rfl, by omega, by omega, HJJ.out, HTW.out, HMM.out, HV.out.2, HB.out⟩
              case round =>
                clear HMM HJJ HTW HV HB
                obtain ⟨U2, rfl⟩ : ∃ u, u = wr := ⟨_, rfl⟩
                obtain ⟨p, j, V, rfl, hp4, hp30, hj, htw, hm, hV, hb⟩ := Hid.out hrel
                have HTW2 : Hid (TW U2 B g N F cp m room j V ib xt (k : Int) R) := htw
                have HM2 : Hid (JM byV U2 mb L) := hm
                have HV : Hid (¬ V mb) := hV
                have HB2 : Hid (Below w.heap.size w U2) := hb
                have HP : Hid (p ≤ c4 ∧ p ≤ 30 ∧ j ≤ 44765184 + 7 * p) := ⟨hp4, hp30, hj⟩
                have HJB : Hid (j + 20000 < 34359000000) := by show _ < _; omega
                clear hrel hp4 hp30 hj htw hm hV hb
                go_upto_region 19 with fail
                go_cut [123] (fun v wx => v = .bool (decide (p < c4 ∧ p < 30)) ∧ U2 = wx)
                case first =>
                  by_cases h1 : p < c4
                  · have h1' : (p : Int) < (c4 : Int) := by omega
                    by_cases h2 : p < 30
                    · have h2' : (p : Int) < 30 := by omega
                      go_wp2_with fail
                      go_meet
                      exact ⟨by rw [decide_eq_true (show p < c4 ∧ p < 30 from ⟨h1, h2⟩)], rfl⟩
                    · have h2' : ¬ (p : Int) < 30 := by omega
                      go_wp2_with fail
                      go_meet
                      exact ⟨by rw [decide_eq_false (show ¬ (p < c4 ∧ p < 30) from fun u => h2 u.2)], rfl⟩
                  · have h1' : ¬ (p : Int) < (c4 : Int) := by omega
                    go_wp2_with fail
                    go_meet
                    exact ⟨by rw [decide_eq_false (show ¬ (p < c4 ∧ p < 30) from fun u => h1 u.1)], rfl⟩
                case rest =>
                  obtain ⟨rfl, rfl⟩ := hcut
                  by_cases hlt : p < c4 ∧ p < 30
                  · rw [decide_eq_true hlt]
                    have HLT : Hid (p < c4 ∧ p < 30) := hlt
                    have HWP : Hid (Value.int .i64 (wrap64 ((p : Int) + 1)) = Value.int .i64 ((p + 1 : Nat) : Int)) := by
                      show _ = _
                      rw [wrap64_at _ (by omega)]
                      rfl
                    clear hlt
                    have hlook := intMap_look (V := byV) (z := .int .u8 0) Tryz.underlying55 Tryz.underlying3 zero_u8q HM2.out.is (p : Int) true
                    rw [if_pos rfl] at hlook
                    go_upto_region 21 with fail
                    rcases hf : findIn (p : Int) L with _ | xv
                    · rw [hf] at hlook
                      simp only [Option.map_none, Option.getD_none, Option.isSome_none] at hlook
                      have HLF : Hid ((leafV F N (k : Int) R (p : Int)).2 = 0 ∧ bkSame (leafV F N (k : Int) R (p : Int)).1 fun _ => 0) := by
                        have h1 := HSem.out.leafAt HK.out (q := p) (by rw [HC4.out.1]; exact HLT.out.1)
                        rw [← HFS.out (p : Int), hf] at h1
                        exact h1
                      clear hf
                      go_upto_region 23 with fail
                      clear hlook
                      as_aux_lemma =>
                        have t8 := HTW2.out.tr
                        go_wp2_with (first
                          | (refine wpList_load_rowg (by rfl) 33 _ (by rfl) (xt) (by rfl) 33 (trC (k : Int) R) (0, 0) _ (by exact t8) Tryz.underlying33 (by rfl) (rsizeTr.trans (by rw [trC_size])) ?_; simp only [Act.put, sgPHTreeQuietLaw])
                          | fail)
                        refine (given_tree (k : Int) R U2).mono ?_
                        rintro e w7 ⟨rfl, hb7⟩
                        have HTW7 : Hid (TW w7 B g N F cp m room j V ib xt (k : Int) R) := HTW2.out.below hb7
                        have HM7 : Hid (JM byV w7 mb L) := HM2.out.below hb7 HM2.out.lt
                        have HB7 : Hid (Below w.heap.size w w7) := HB2.out.trans (hb7.mono HB2.out.size)
                        clear hb7 t8 HTW2 HB2
                        go_wp2_with fail
                        refine (leaf9_any (k : Int) R HH.out.1 HH.out.2 HF.out (p : Int) (by have := HJB.out; omega) w7 HTW7.out.td).mono ?_
                        rintro e w8 ⟨rfl, hs8⟩
                        obtain ⟨V8, hT8, hM8, hV8⟩ := HTW7.out.step hs8
                        have HTW8 : Hid (TW w8 B g N F cp m room (j + 7) V8 ib xt (k : Int) R) := hT8
                        have HM8 : Hid (JM byV w8 mb L) := HM7.out.keep (hM8.block mb HM7.out.lt HV.out)
                        have HV8 : Hid (¬ V8 mb) := fun z => by rcases hV8 _ z with y | y; exact HV.out y; have := HM7.out.lt; omega
                        have HB8 : Hid (Below w.heap.size w w8) := HB7.out.trans (hM8.below (B := w.heap.size) HB7.out.size fun z hz => by have h1 := (HTW7.out.td.lt z hz).1; have h2 := HBB.out; omega)
                        rw [HLF.out.1]
                        obtain ⟨fx, hfx⟩ : ∃ fx, (leafV F N (k : Int) R (p : Int)).1 = fx := ⟨_, rfl⟩
                        have HFX : Hid (bkSame fx fun _ => 0) := by rw [← hfx]; exact HLF.out.2
                        have HLE : Hid ((leafV F N (k : Int) R (p : Int)).2 = 0 ∧ (leafV F N (k : Int) R (p : Int)).1 = fx) := ⟨HLF.out.1, hfx⟩
                        rw [hfx]
                        have q0 : Blk (w8.alloc (.cells (va 256 (iv .u8 fun _ => 0)) 52)) w8.heap.size 52 (va 256 (iv .u8 fun _ => 0)) := Blk.new _ _ _
                        have hbq : Below w8.heap.size w8 ((w8.alloc (.cells (va 256 (iv .u8 fun _ => 0)) 52)).setRow w8.heap.size (va 256 (iv .u8 fx))) := below_setRow (below_new1 _ _) (Nat.le_refl _) _
                        have HX9 : Hid (Blk ((w8.alloc (.cells (va 256 (iv .u8 fun _ => 0)) 52)).setRow w8.heap.size (va 256 (iv .u8 fx))) w8.heap.size 52 (va 256 (iv .u8 fx))) := q0.set _
                        have HTW9 : Hid (TW ((w8.alloc (.cells (va 256 (iv .u8 fun _ => 0)) 52)).setRow w8.heap.size (va 256 (iv .u8 fx))) B g N F cp m room (j + 7) V8 ib xt (k : Int) R) := HTW8.out.below hbq
                        have HM9 : Hid (JM byV ((w8.alloc (.cells (va 256 (iv .u8 fun _ => 0)) 52)).setRow w8.heap.size (va 256 (iv .u8 fx))) mb L) := HM8.out.below hbq HM8.out.lt
                        have HB9 : Hid (Below w.heap.size w ((w8.alloc (.cells (va 256 (iv .u8 fun _ => 0)) 52)).setRow w8.heap.size (va 256 (iv .u8 fx)))) := HB8.out.trans (hbq.mono HB8.out.size)
                        have HXV : Hid (¬ V8 w8.heap.size) := fun z => by have := (HTW8.out.td.lt _ z).2; omega
                        clear HM2 HM7 HM8 HV
                        clear hs8 hT8 hM8 hV8 hfx hbq HLF HTW7 HTW8 HB7 HB8
                        go_upto_region 24 with (first
                          | (refine wpList_store_row (by rfl) 52 _ _ (by rfl) (w8.heap.size) (va 256 (iv .u8 fx)) (by rfl) (by rfl) 52 (_) (by exact q0) (sizeBk.trans (by rw [va_size])) (by simp only [va_size]) (iv_one _ _ _) ?_; simp only [Act.put, sgPHTreeQuietLaw])
                          | fail)
                        clear q0
                        generalize ((w8.alloc (.cells (va 256 (iv .u8 fun _ => 0)) 52)).setRow w8.heap.size (va 256 (iv .u8 fx))) = w9 at *
                        generalize w8.heap.size = xb at *
                        have hq : ∀ w, (Op.equalIn 10000 52 (.agg (va 256 (iv .u8 fx))) (.agg (va 256 (iv .u8 fun _ => 0)))).run Tryz.prog w = .ok true w := fun w => by
                          have := eq_bk 52 Tryz.underlying52 fx (fun _ => 0) w
                          rw [decide_eq_true HFX.out] at this
                          exact this
                        have hx9 := HX9.out
                        have hbz := qu_zero
                        go_wp2_with (first
                          | (refine wpList_load_rowg (by rfl) 52 _ (by rfl) (xb) (by rfl) 52 (va 256 (iv .u8 fx)) (0, 0) _ (by exact hx9) Tryz.underlying52 (by rfl) (sizeBk.trans (by rw [va_size])) ?_; simp only [Act.put, sgPHTreeQuietLaw])
                          | (refine qu_build0 (by rfl) 52 (by rfl) (va 256 (iv .u8 fun _ => 0)) (by exact hbz) ?_; simp only [Act.put, sgPHTreeQuietLaw])
                          | fail)
                        go_roundw
                        case rel => exact ⟨p + 1, j + 7, V8, HWP.out, HLT.out.1, HLT.out.2, by have := HP.out; omega, HTW9.out, HM9.out, HV8.out, HB9.out⟩
                        case measure =>
                          rw [HWP.out]
                          simp [intOf]
                          have := HLT.out.2
                          omega
                    · rw [hf] at hlook
                      simp only [Option.map_some, Option.getD_some, Option.isSome_some] at hlook
                      unfold byV at hlook
                      clear hf
                      go_wp2_with fail
                      go_roundw
                      case rel => exact ⟨p + 1, j, V, HWP.out, HLT.out.1, HLT.out.2, by have := HP.out; omega, HTW2.out, HM2.out, HV.out, HB2.out⟩
                      case measure =>
                        rw [HWP.out]
                        simp [intOf]
                        have := HLT.out.2
                        omega
                  · rw [decide_eq_false hlt]
                    go_wp2_with fail
                    go_ret
                    exact ⟨rfl, HB2.out⟩
          · have HK3 := HFS.out.key HC4.out.2.1 HND.out hxl
            obtain ⟨q, rfl⟩ := Int.eq_ofNat_of_zero_le HK3.1.1
            have HQ4 : Hid (q < 4 ^ k ∧ xv < 256 ∧ fillG c4 A Y (min n 40) (q : Int) = some xv) := ⟨by rw [HC4.out.1]; have := HK3.1.2; omega, by
              obtain ⟨_, _, j, hj, rfl⟩ := HK3
              obtain ⟨_, _, _, _, _, _, h1, _⟩ := HQ.out.fl j (by omega)
              exact h1, HK3.2.1⟩
            have HIT2 : Hid (ItJ byV W2 s1 mb L (done ++ [(q : Int)])) := hit2
            have HTW2 : Hid (TW W2 B g N F cp m room j V ib xt (k : Int) R) := HTW.out.one hk2 HV.out.1 HS.out.2.1 HS.out.2.2.1
            have HB2 : Hid (Below w.heap.size w W2) := HB.out.trans (hk2.below (B := w.heap.size) HB.out.size fun b e => by exact e ▸ HSL.out)
            have HLF : Hid ((leafV F N (k : Int) R (q : Int)).2 = 0 ∧ bkSame (leafV F N (k : Int) R (q : Int)).1 fun _ => xv) := by
              have h1 := HSem.out.leafAt HK.out HQ4.out.1
              rw [HQ4.out.2.2] at h1
              exact h1
            have HNI : Hid (itN U1 s1 = done.length) := HIT.out.num
            clear HK3 hxl hxd hit2 hk2 HIT HTW HB
            go_upto_region 14 with fail
            as_aux_lemma =>
              have HJB : Hid (j + 20000 < 34359000000) := by have h1 := HJ.out; have h2 := HLN.out; show _ < _; omega
              have t8 := HTW2.out.tr
              go_wp2_with (first
                | (refine wpList_load_rowg (by rfl) 33 _ (by rfl) (xt) (by rfl) 33 (trC (k : Int) R) (0, 0) _ (by exact t8) Tryz.underlying33 (by rfl) (rsizeTr.trans (by rw [trC_size])) ?_; simp only [Act.put, sgPHTreeQuietLaw])
                | fail)
              refine (given_tree (k : Int) R W2).mono ?_
              rintro e w7 ⟨rfl, hb7⟩
              have HTW7 : Hid (TW w7 B g N F cp m room j V ib xt (k : Int) R) := HTW2.out.below hb7
              have HIT7 : Hid (ItJ byV w7 s1 mb L (done ++ [(q : Int)])) := HIT2.out.keep (hb7.block s1 HIT2.out.lt.1) (hb7.block mb HIT2.out.lt.2)
              have HB7 : Hid (Below w.heap.size w w7) := HB2.out.trans (hb7.mono HB2.out.size)
              clear hb7 t8 HTW2 HB2
              go_wp2_with fail
              refine (leaf9_any (k : Int) R HH.out.1 HH.out.2 HF.out (q : Int) (by have := HJB.out; omega) w7 HTW7.out.td).mono ?_
              rintro e w8 ⟨rfl, hs8⟩
              obtain ⟨V8, hT8, hM8, hV8⟩ := HTW7.out.step hs8
              have HTW8 : Hid (TW w8 B g N F cp m room (j + 7) V8 ib xt (k : Int) R) := hT8
              have HIT8 : Hid (ItJ byV w8 s1 mb L (done ++ [(q : Int)])) := HIT7.out.keep (hM8.block s1 HIT7.out.lt.1 HV.out.1) (hM8.block mb HIT7.out.lt.2 HV.out.2)
              have HV8 : Hid (¬ V8 s1 ∧ ¬ V8 mb) := ⟨fun z => by rcases hV8 _ z with y | y; exact HV.out.1 y; have := HIT7.out.lt.1; omega, fun z => by rcases hV8 _ z with y | y; exact HV.out.2 y; have := HIT7.out.lt.2; omega⟩
              have HB8 : Hid (Below w.heap.size w w8) := HB7.out.trans (hM8.below (B := w.heap.size) HB7.out.size fun z hz => by have h1 := (HTW7.out.td.lt z hz).1; have h2 := HBB.out; omega)
              rw [HLF.out.1]
              obtain ⟨fx, hfx⟩ : ∃ fx, (leafV F N (k : Int) R (q : Int)).1 = fx := ⟨_, rfl⟩
              have HFX : Hid (bkSame fx fun _ => xv) := by rw [← hfx]; exact HLF.out.2
              have HLE : Hid ((leafV F N (k : Int) R (q : Int)).2 = 0 ∧ (leafV F N (k : Int) R (q : Int)).1 = fx) := ⟨HLF.out.1, hfx⟩
              rw [hfx]
              have q0 : Blk (w8.alloc (.cells (va 256 (iv .u8 fun _ => 0)) 52)) w8.heap.size 52 (va 256 (iv .u8 fun _ => 0)) := Blk.new _ _ _
              have hbq : Below w8.heap.size w8 ((w8.alloc (.cells (va 256 (iv .u8 fun _ => 0)) 52)).setRow w8.heap.size (va 256 (iv .u8 fx))) := below_setRow (below_new1 _ _) (Nat.le_refl _) _
              have HX9 : Hid (Blk ((w8.alloc (.cells (va 256 (iv .u8 fun _ => 0)) 52)).setRow w8.heap.size (va 256 (iv .u8 fx))) w8.heap.size 52 (va 256 (iv .u8 fx))) := q0.set _
              have HTW9 : Hid (TW ((w8.alloc (.cells (va 256 (iv .u8 fun _ => 0)) 52)).setRow w8.heap.size (va 256 (iv .u8 fx))) B g N F cp m room (j + 7) V8 ib xt (k : Int) R) := HTW8.out.below hbq
              have HIT9 : Hid (ItJ byV ((w8.alloc (.cells (va 256 (iv .u8 fun _ => 0)) 52)).setRow w8.heap.size (va 256 (iv .u8 fx))) s1 mb L (done ++ [(q : Int)])) := HIT8.out.keep (hbq.block s1 HIT8.out.lt.1) (hbq.block mb HIT8.out.lt.2)
              have HB9 : Hid (Below w.heap.size w ((w8.alloc (.cells (va 256 (iv .u8 fun _ => 0)) 52)).setRow w8.heap.size (va 256 (iv .u8 fx)))) := HB8.out.trans (hbq.mono HB8.out.size)
              have HXV : Hid (¬ V8 w8.heap.size) := fun z => by have := (HTW8.out.td.lt _ z).2; omega
              clear HIT2 HIT7 HIT8 HV
              clear hs8 hT8 hM8 hV8 hfx hbq HLF HTW7 HTW8 HB7 HB8
              go_upto_region 15 with (first
                | (refine wpList_store_row (by rfl) 52 _ _ (by rfl) (w8.heap.size) (va 256 (iv .u8 fx)) (by rfl) (by rfl) 52 (_) (by exact q0) (sizeBk.trans (by rw [va_size])) (by simp only [va_size]) (iv_one _ _ _) ?_; simp only [Act.put, sgPHTreeQuietLaw])
                | fail)
              clear q0
              generalize ((w8.alloc (.cells (va 256 (iv .u8 fun _ => 0)) 52)).setRow w8.heap.size (va 256 (iv .u8 fx))) = w9 at *
              generalize w8.heap.size = xb at *
              have t10 := HTW9.out.tr
              go_wp2_with (first
                | (refine wpList_load_rowg (by rfl) 33 _ (by rfl) (xt) (by rfl) 33 (trC (k : Int) R) (0, 0) _ (by exact t10) Tryz.underlying33 (by rfl) (rsizeTr.trans (by rw [trC_size])) ?_; simp only [Act.put, sgPHTreeQuietLaw])
                | fail)
              refine (given_tree (k : Int) R w9).mono ?_
              rintro e w11 ⟨rfl, hb11⟩
              have HTW11 : Hid (TW w11 B g N F cp m room (j + 7) V8 ib xt (k : Int) R) := HTW9.out.below hb11
              have HIT11 : Hid (ItJ byV w11 s1 mb L (done ++ [(q : Int)])) := HIT9.out.keep (hb11.block s1 HIT9.out.lt.1) (hb11.block mb HIT9.out.lt.2)
              have HB11 : Hid (Below w.heap.size w w11) := HB9.out.trans (hb11.mono HB9.out.size)
              have HX11 : Hid (Blk w11 xb 52 (va 256 (iv .u8 fx))) := HX9.out.below hb11 HX9.out.lt
              clear hb11 t10 HTW9 HIT9 HB9 HX9
              go_wp2_with fail
              refine (range9_any (k : Int) R (q : Int) 1 HH.out.1 HH.out.2 HF.out ⟨by omega, by have h1 := HQ4.out.1; have h2 := HC4.out; omega⟩ ⟨by decide, by decide⟩ (by have := HJB.out; omega) w11 HTW11.out.td).mono ?_
              rintro e w12 ⟨v12, rfl, V', ht12, hM12, hV12, hl12⟩
              have hs12 : TDStep w11 w12 B g N F cp m room (j + 7 + 10922) V8 := ⟨V', ht12, hM12, hV12⟩
              have hr := rangeR_in (F := F) (N := N) (f := q) (m := 1) (HSem.out.trOk HK.out) (by have := HQ4.out.1; omega)
              rw [show ((1 : Nat) : Int) = 1 from rfl] at hr
              rcases hr with ⟨s, e1, hs⟩ | ⟨er', j1', e1, h0, hj1, hat, hpre⟩
              · rw [e1] at hl12 ⊢
                obtain ⟨lk, rfl, hlk, hVl, hblk⟩ := hl12
                have hs0 := (hs 0 (by omega)).2
                rw [show q + 0 = q from rfl, HLE.out.2] at hs0
                obtain ⟨V12, hT12, _, hV12b⟩ := HTW11.out.step hs12
                have HTW12 : Hid (TW w12 B g N F cp m room (j + 7 + 10922) V' ib xt (k : Int) R) := ⟨ht12, hT12.img, hT12.tr, fun z => by
                  rcases hV12 _ z with y | y
                  · exact HTW11.out.hib y
                  · have := HTW11.out.bib; omega, fun z => by
                  rcases hV12 _ z with y | y
                  · exact HTW11.out.hxt y
                  · have := HTW11.out.tr.lt; omega, hT12.bib⟩
                have HIT12 : Hid (ItJ byV w12 s1 mb L (done ++ [(q : Int)])) := HIT11.out.keep (hM12.block s1 HIT11.out.lt.1 HV8.out.1) (hM12.block mb HIT11.out.lt.2 HV8.out.2)
                have HV12 : Hid (¬ V' s1 ∧ ¬ V' mb) := ⟨fun z => by rcases hV12 _ z with y | y; exact HV8.out.1 y; have := HIT11.out.lt.1; omega, fun z => by rcases hV12 _ z with y | y; exact HV8.out.2 y; have := HIT11.out.lt.2; omega⟩
                have HB12 : Hid (Below w.heap.size w w12) := HB11.out.trans (hM12.below (B := w.heap.size) HB11.out.size fun z hz => by have h1 := (HTW11.out.td.lt z hz).1; have h2 := HBB.out; omega)
                have hx12 : Blk w12 xb 52 (va 256 (iv .u8 fx)) := hM12.blk HX11.out HXV.out
                have HLK : Hid (lk < w12.heap.size) := hblk.lt
                have hS : w12.drew.rangeAt lk 0 ((List.range 256).map (iv .u8 fx)) ∧ Blk w12.drew xb 52 (va 256 (iv .u8 fx)) := ⟨by
                  have h2 := lv_range1 hblk
                  rw [hs0] at h2
                  exact h2, hx12⟩
                have hq1 : ∀ w, (Op.equalIn 10000 52 (.agg (va 256 (iv .u8 fx))) (.agg (va 256 (iv .u8 fun _ => xv)))).run Tryz.prog w = .ok true w := fun w => by
                  have := eq_bk 52 Tryz.underlying52 fx (fun _ => xv) w
                  rw [decide_eq_true HFX.out] at this
                  exact this
                have hq2 : ∀ w, (Op.equalIn 10000 52 (.agg (va 256 (iv .u8 fx))) (.agg (va 256 (iv .u8 fx)))).run Tryz.prog w = .ok true w := fun w => by
                  have := eq_bk 52 Tryz.underlying52 fx fx w
                  rw [decide_eq_true (show bkSame fx fx from fun i hi => rfl)] at this
                  exact this
                clear e1 hs hs0 hT12 hV12b hs12 ht12 hM12 hV12 hlk hVl hblk hx12 HTW11 HIT11 HB11 HX11
                go_wp2_with fail
                refine wp_region_partsS (fun W => W.rangeAt lk 0 ((List.range 256).map (iv .u8 fx)) ∧ Blk W xb 52 (va 256 (iv .u8 fx))) [([], 0, true), ([], 1, true), ([], 2, true), ([], 3, true), ([], 4, true), ([], 5, true), ([], 6, true), ([], 8, true), ([], 7, true), ([], 9, false), ([], 10, true), ([], 11, true), ([], 12, true), ([], 13, true), ([], 14, true), ([], 15, true), ([], 16, true), ([], 17, true), ([], 18, true), ([], 19, true), ([], 20, true), ([], 21, true), ([], 22, true), ([], 23, true)] [] [] (by kernel_rfl) (by kernel_rfl) hS (partsI_yield ?_)
                simp only [sgLHTreeQuietLaw]
                go_wp2_with fail
                refine ⟨rfl, _, .int .i64 0, rfl, Or.inl ⟨by rfl, fun W hW => by go_simp⟩, partsI_yield ?_⟩
                simp only [Act.put, sgPHTreeQuietLaw]
                simp only [sgLHTreeQuietLaw]
                go_wp2_with fail
                refine ⟨rfl, _, .bool false, rfl, Or.inl ⟨by rfl, fun W hW => by go_simp⟩, partsI_yield ?_⟩
                simp only [Act.put, sgPHTreeQuietLaw]
                simp only [sgLHTreeQuietLaw]
                go_wp2_with fail
                refine ⟨rfl, _, .bool false, rfl, Or.inl ⟨by rfl, fun W hW => by go_simp⟩, partsI_yield ?_⟩
                simp only [Act.put, sgPHTreeQuietLaw]
                simp only [sgLHTreeQuietLaw]
                go_wp2_with fail
                refine ⟨rfl, _, .int .i64 0, rfl, Or.inl ⟨by rfl, fun W hW => by go_simp⟩, partsI_yield ?_⟩
                simp only [Act.put, sgPHTreeQuietLaw]
                simp only [sgLHTreeQuietLaw]
                go_wp2_with fail
                refine ⟨rfl, _, .bool false, rfl, Or.inl ⟨by rfl, fun W hW => by go_simp⟩, partsI_yield ?_⟩
                simp only [Act.put, sgPHTreeQuietLaw]
                simp only [sgLHTreeQuietLaw]
                go_wp2_with fail
                refine ⟨rfl, _, .bool false, rfl, Or.inl ⟨by rfl, fun W hW => by go_simp⟩, partsI_yield ?_⟩
                simp only [Act.put, sgPHTreeQuietLaw]
                simp only [sgLHTreeQuietLaw]
                go_wp2_with fail
                refine ⟨rfl, _, .bool false, rfl, Or.inl ⟨by rfl, fun W hW => by go_simp⟩, partsI_yield ?_⟩
                simp only [Act.put, sgPHTreeQuietLaw]
                simp only [sgLHTreeQuietLaw]
                go_wp2_with fail
                refine ⟨rfl, _, byV xv, rfl, Or.inl ⟨by rfl, fun W hW => by go_simp⟩, partsI_yield ?_⟩
                simp only [Act.put, sgPHTreeQuietLaw]
                simp only [sgLHTreeQuietLaw]
                go_wp2_with fail
                refine ⟨rfl, _, .agg (va 256 (iv .u8 fx)), rfl, kyields_load (by rfl) 52 _ (by rfl) (xb) 256 (iv .u8 fx) (by rfl) _ 52 (fun W hW => hW.2) Tryz.underlying52 rfl sizeBk, partsI_force ?_⟩
                simp only [Act.put, sgPHTreeQuietLaw]
                simp only [sgLHTreeQuietLaw]
                refine wpList_hide (by rfl) fun K QQ hK => ?_
                go_wp2_with fail
                refine (filled9_any xv _).mono ?_
                rintro e w14 ⟨rfl, hb14⟩
                have hS14 : w14.rangeAt lk 0 ((List.range 256).map (iv .u8 fx)) ∧ Blk w14 xb 52 (va 256 (iv .u8 fx)) := ⟨fun i v hv => by rw [hb14.cell (p := ⟨lk, 0 + i, none⟩) HLK.out]; exact hS.1 i v hv, hS.2.below hb14 hS.2.lt⟩
                have HB14 : Hid (Below w12.heap.size w12 w14) := (Below.refl _ w12).drew.trans hb14
                clear hb14 hS
                go_wp2_with fail
                refine ⟨rfl, hS14, partsI_yield ?_⟩
                simp only [sgLHTreeQuietLaw]
                go_wp2_with fail
                refine ⟨rfl, _, .bool false, rfl, Or.inl ⟨by rfl, fun W hW => by go_simp⟩, partsI_yield ?_⟩
                simp only [Act.put, sgPHTreeQuietLaw]
                simp only [sgLHTreeQuietLaw]
                go_wp2_with fail
                refine ⟨rfl, _, .bool false, rfl, Or.inl ⟨by rfl, fun W hW => by go_simp⟩, partsI_yield ?_⟩
                simp only [Act.put, sgPHTreeQuietLaw]
                simp only [sgLHTreeQuietLaw]
                go_wp2_with fail
                refine ⟨rfl, _, .bool false, rfl, Or.inl ⟨by rfl, fun W hW => by go_simp⟩, partsI_yield ?_⟩
                simp only [Act.put, sgPHTreeQuietLaw]
                simp only [sgLHTreeQuietLaw]
                go_wp2_with fail
                refine ⟨rfl, _, .slice (some ⟨lk, 0, none⟩) 1 1, rfl, Or.inl ⟨by rfl, fun W hW => by go_simp⟩, partsI_yield ?_⟩
                simp only [Act.put, sgPHTreeQuietLaw]
                simp only [sgLHTreeQuietLaw]
                go_wp2_with fail
                refine ⟨rfl, _, .int .i64 1, rfl, Or.inl ⟨by rfl, fun W hW => by go_simp⟩, partsI_yield ?_⟩
                simp only [Act.put, sgPHTreeQuietLaw]
                simp only [sgLHTreeQuietLaw]
                go_wp2_with fail
                refine ⟨rfl, _, .bool false, rfl, Or.inl ⟨by rfl, fun W hW => by go_simp⟩, partsI_yield ?_⟩
                simp only [Act.put, sgPHTreeQuietLaw]
                simp only [sgLHTreeQuietLaw]
                go_wp2_with fail
                refine ⟨rfl, _, .bool false, rfl, Or.inl ⟨by rfl, fun W hW => by go_simp⟩, partsI_yield ?_⟩
                simp only [Act.put, sgPHTreeQuietLaw]
                simp only [sgLHTreeQuietLaw]
                go_wp2_with fail
                refine ⟨rfl, _, .bool false, rfl, Or.inl ⟨by rfl, fun W hW => by go_simp⟩, partsI_yield ?_⟩
                simp only [Act.put, sgPHTreeQuietLaw]
                simp only [sgLHTreeQuietLaw]
                go_wp2_with fail
                refine ⟨rfl, _, .slice (some ⟨lk, 0, none⟩) 1 1, rfl, Or.inl ⟨by rfl, fun W hW => by go_simp⟩, partsI_yield ?_⟩
                simp only [Act.put, sgPHTreeQuietLaw]
                simp only [sgLHTreeQuietLaw]
                go_wp2_with fail
                refine ⟨rfl, _, .pointer (some ⟨lk, 0, none⟩), rfl, Or.inl ⟨by rfl, fun W hW => by go_simp⟩, partsI_yield ?_⟩
                simp only [Act.put, sgPHTreeQuietLaw]
                simp only [sgLHTreeQuietLaw]
                go_wp2_with fail
                refine ⟨rfl, _, .agg (va 256 (iv .u8 fx)), rfl, yieldsIf_load_mid (by rfl) 52 _ (by rfl) (lk) (0) (by rfl) ((List.range 256).map (iv .u8 fx)) _ (fun W hW => hW.1) Tryz.underlying52 rfl (sizeBk.trans (by simp)), partsI_yield ?_⟩
                simp only [Act.put, sgPHTreeQuietLaw]
                simp only [sgLHTreeQuietLaw]
                go_wp2_with fail
                refine ⟨rfl, _, .agg (va 256 (iv .u8 fx)), rfl, kyields_load (by rfl) 52 _ (by rfl) (xb) 256 (iv .u8 fx) (by rfl) _ 52 (fun W hW => hW.2) Tryz.underlying52 rfl sizeBk, partsI_yield ?_⟩
                simp only [Act.put, sgPHTreeQuietLaw]
                simp only [sgLHTreeQuietLaw]
                go_wp2_with fail
                refine ⟨rfl, _, .bool false, rfl, Or.inl ⟨by rfl, fun W hW => by go_simp⟩, partsI_yield ?_⟩
                simp only [Act.put, sgPHTreeQuietLaw]
                simp only [sgLHTreeQuietLaw]
                go_wp2_with fail
                refine ⟨rfl, _, .bool false, rfl, Or.inl ⟨by rfl, fun W hW => by go_simp⟩, partsI_last ?_⟩
                simp only [Act.put, sgPHTreeQuietLaw]
                simp only [sgLHTreeQuietLaw]
                go_wp2_with fail
                refine ⟨rfl, ?_⟩
                have HTWz : Hid (TW w14 B g N F cp m room (j + 7 + 10922) V' ib xt (k : Int) R) := HTW12.out.below HB14.out
                have HITz : Hid (ItJ byV w14 s1 mb L (done ++ [(q : Int)])) := HIT12.out.keep (HB14.out.block s1 HIT12.out.lt.1) (HB14.out.block mb HIT12.out.lt.2)
                have HBz : Hid (Below w.heap.size w w14) := HB12.out.trans (HB14.out.mono HB12.out.size)
                have HM2 : Hid (L.length - itN w14 s1 < L.length - itN U1 s1) := by
                  have h1 := HITz.out.num
                  have h2 := HITz.out.le
                  have h3 := HNI.out
                  rw [List.length_append, List.length_singleton] at h1 h2
                  show _ < _
                  omega
                have HJz : Hid (j + 7 + 10922 ≤ 10929 * (done ++ [(q : Int)]).length) := by
                  have h1 := HJ.out.1
                  show _ ≤ _
                  rw [List.length_append, List.length_singleton]
                  omega
                clear HTW12 HIT12 HB12 HB14 hS14 hq1 hq2
                go_wp2_with fail
                go_roundw
                case rel => exact ⟨done ++ [(q : Int)], j + 7 + 10922, V', HITz.out, HJz.out, HTWz.out, HV12.out, HBz.out⟩
                case measure => exact HM2.out
              · exfalso
                obtain rfl : j1' = 0 := by omega
                rw [show q + 0 = q from rfl] at hat
                exact h0 (hat.symm.trans HLE.out.1)
end Go.Proofs.YtiofonffmplfmaaGreat
