/- The walk of the statement on which tables may be opened. -/
import Derived.Test.YtbcgpiocigjkoaaGreatHInsAwake
import Derived.Test.YtbcgpiocigjkoaaGreatHIoChk
import Derived.Test.YtbcgpiocigjkoaaGreatHCaLru
import Derived.Deep.DeepCutAuto
import Derived.Deep.Cut
import Derived.Handy

namespace Go.Proofs.YtbcgpiocigjkoaaGreat
open Go Go.RowKit
set_option linter.unusedSimpArgs false
set_option linter.unusedVariables false
instance (h : Int) (R : Rf) (high : Int) : Decidable (mayOpen h R high) := by unfold mayOpen; infer_instance
theorem rsizeRf : (Tryz.prog.info? 40).map (·.size) = some 33 := by kernel_rfl
theorem osizeSum : (Tryz.prog.info? 24).map (·.size) = some 32 := by kernel_rfl
theorem ozero_rf (w : World) : (zeroValue 40).run Tryz.prog w = .ok (.agg (rfC rf0)) w := zero_of (by kernel_rfl) w
theorem obuilt_rf (a : Int) (f : Nat → Nat) : Tryz.prog.built 40 [(0, .int .u32 a), (1, .agg (va 32 (iv .u8 f)))] = some (va 33 fun i => if i = 0 then .int .u32 a else iv .u8 f (i - 1)) := by kernel_rfl
theorem obuilt_rfC (R : Rf) : Tryz.prog.built 40 [(0, .int .u32 (R.1 : Int)), (1, .agg (va 32 (iv .u8 (dF R.2))))] = some (rfC R) := by
  rw [obuilt_rf]
  congr 1
theorem tr_sum {w : World} {b t : Nat} {h : Int} {R : Rf} (H : Blk w b t (trC h R)) : w.rangeAt b 2 ((List.range 32).map (iv .u8 (dF R.2))) := by
  have := Blk.range (n := 34) (f := trF h R) H 2 32 (by decide)
  rw [show ((List.range 32).map fun j => trF h R (2 + j)) = (List.range 32).map (iv .u8 (dF R.2)) from List.map_congr_left fun j hj => ?_] at this
  · exact this
  · unfold trF rfF iv
    rw [if_neg (by omega), if_neg (by omega), show 2 + j - 1 - 1 = j by omega]
theorem tr_c1 {w : World} {b t : Nat} {h : Int} {R : Rf} (H : Blk w b t (trC h R)) : w.cell? ⟨b, 1, none⟩ = some (.int .u32 (R.1 : Int)) := H.cv (n := 34) (by decide)
theorem hL_hgt (n : Nat) (hn : n ≤ 4096) : hL 4 (n : Int) = (hgt ((n + 3) / 4) : Int) := by
  unfold hL hgt
  repeat' split
  all_goals omega
theorem may_bool {h : Int} {R : Rf} {n : Nat} (hB : 0 ≤ h ∧ h ≤ 6 ∧ rOk R = true ∧ 0 ≤ (n : Int) ∧ (n : Int) ≤ 4096) (he : h = hL 4 (n : Int)) : (!decide (0 < n) == decide (R = rf0)) = decide (mayOpen h R (n : Int)) := by
  by_cases h0 : 0 < n
  · have h1 : ¬ ((n : Int) = 0) := by omega
    by_cases hr : R = rf0
    · rw [decide_eq_true h0, decide_eq_true hr, decide_eq_false (p := mayOpen h R (n : Int))]
      · rfl
      · intro hm
        have := hm.2.2.1
        rw [decide_eq_true hr, decide_eq_false h1] at this
        cases this
    · rw [decide_eq_true h0, decide_eq_false hr, decide_eq_true (p := mayOpen h R (n : Int))]
      · rfl
      · exact ⟨hB.2.2.2, he, by rw [decide_eq_false hr, decide_eq_false h1], hB.2.2.1⟩
  · have h1 : (n : Int) = 0 := by omega
    by_cases hr : R = rf0
    · rw [decide_eq_false h0, decide_eq_true hr, decide_eq_true (p := mayOpen h R (n : Int))]
      · rfl
      · exact ⟨hB.2.2.2, he, by rw [decide_eq_true hr, decide_eq_true h1], hB.2.2.1⟩
    · rw [decide_eq_false h0, decide_eq_false hr, decide_eq_false (p := mayOpen h R (n : Int))]
      · rfl
      · intro hm
        have := hm.2.2.1
        rw [decide_eq_false hr, decide_eq_true h1] at this
        cases this
/-- what Open answers -/
def OpenA (h : Int) (R : Rf) (high : Int) (xv : Value) (er : Int) : Prop := (mayOpen h R high ∧ er = 0 ∧ ∃ x, xv = .pointer (some ⟨x, 0, none⟩)) ∨ (¬ mayOpen h R high ∧ er = 1 ∧ xv = .pointer none)
theorem open_any {cp : Option Addr} {h : Int} {R : Rf} {high : Int} (hR : R.1 < 4294967296) (hD : okD R.2) (hh : -9223372036854775808 ≤ high ∧ high ≤ 9223372036854775807) (w : World) : Calls Tryz.prog 7 #[.pointer cp, .agg (trC h R), .int .i64 high] w fun e w' => ∃ xv er, e = .returned (.tuple #[xv, .int .i64 er]) ∧ OpenA h R high xv er ∧ Below w.heap.size w w' := by
  by_cases hm : mayOpen h R high
  · exact (open_ok hR hD hh hm w).mono fun e w' ⟨x, _, _, _, h1, _, _, _, h2⟩ => ⟨_, _, h1, .inl ⟨hm, rfl, x, rfl⟩, h2⟩
  · exact (open_no hR hD hh hm w).mono fun e w' ⟨h1, h2⟩ => ⟨_, _, h1, .inr ⟨hm, rfl, rfl⟩, h2⟩
section
variable {h : Int} {R : Rf} {high : Int}
set_option maxRecDepth 100000 in
set_option maxHeartbeats 8000000 in
theorem inodesOpensLaw (hR : R.1 < 4294967296) (hD : okD R.2) (hh : -9223372036854775808 ≤ high ∧ high ≤ 9223372036854775807) (w : World) : Calls Tryz.prog 3 #[.agg (trC h R), .int .i64 high] w fun e w' => e = .returned (.bool true) ∧ Below w.heap.size w w' := by
  have hz := ozero_rf
  have HN : Hid (∀ w : World, Calls Tryz.prog 5 #[.int .i64 16] w fun e w' => ∃ g, e = .returned (.tuple #[.pointer (some ⟨g, 0, none⟩), .int .i64 0]) ∧ Below w.heap.size w w') := fun w => (diskNew_any 16 (by decide) (by decide) w).mono fun e w' ⟨g, q, h1, _, _, h2⟩ => ⟨g, h1, h2⟩
  have HC : Hid (∀ (g : Nat) (w : World), Calls Tryz.prog 6 #[.pointer (some ⟨g, 0, none⟩), .pointer none, .int .i64 0] w fun e w' => ∃ c, e = .returned (.tuple #[.pointer (some ⟨c, 0, none⟩), .int .i64 0]) ∧ Below w.heap.size w w') := fun g w => (caNew_ok g none 0 (by decide) (by decide) w).mono fun e w' ⟨c, m, h1, _, _, _, h2⟩ => ⟨c, h1, h2⟩
  have HO : Hid (∀ (c : Nat) (w : World), Calls Tryz.prog 7 #[.pointer (some ⟨c, 0, none⟩), .agg (trC h R), .int .i64 high] w fun e w' => ∃ xv er, e = .returned (.tuple #[xv, .int .i64 er]) ∧ OpenA h R high xv er ∧ Below w.heap.size w w') := fun c w => open_any hR hD hh w
  have HRI : Hid (∀ w : World, Calls Tryz.prog 8 #[.agg (rfC R)] w fun e w' => e = .returned (.bool (rOk R)) ∧ Below w.heap.size w w') := rright_any R
  have HNO : Hid (∀ w : World, Calls Tryz.prog 10 #[.agg (rfC R)] w fun e w' => e = .returned (.bool (decide (R = rf0))) ∧ Below w.heap.size w w') := rnone_any R
  have HAW : Hid (∀ w : World, Calls Tryz.prog 11 #[] w fun e w' => e = .returned (.bool true) ∧ Below w.heap.size w w') := awake15_any
  have HBT : Hid (Tryz.prog.built 40 [(0, .int .u32 (R.1 : Int)), (1, .agg (va 32 (iv .u8 (dF R.2))))] = some (rfC R)) := obuilt_rfC R
  have hb1 : Below w.heap.size w (w.alloc (.cells (trC h R) 28)) := below_new1 _ _
  have t1 : Blk (w.alloc (.cells (trC h R) 28)) w.heap.size 28 (trC h R) := Blk.new _ _ _
  clear hR hD
  go_enter Tryz.func3, Tryz.ntmps3
  go_wp2_with fail
  generalize (w.alloc (.cells (trC h R) 28)) = w1 at *
  refine (HN.out _).mono ?_
  rintro e w2 ⟨d, rfl, hb2⟩
  have t2 := t1.below hb2 t1.lt
  have hb12 := hb1.trans (hb2.mono hb1.size)
  clear t1 hb1 hb2 HN
  go_wp2_with fail
  refine (HC.out _ _).mono ?_
  rintro e w3 ⟨c, rfl, hb3⟩
  have t3 := t2.below hb3 t2.lt
  have hb13 := hb12.trans (hb3.mono hb12.size)
  clear t2 hb12 hb3 HC
  go_wp2_with (first
    | (refine wpList_load_rowg (by rfl) 28 _ (by rfl) (w.heap.size) (by rfl) 28 (trC h R) (0, 0) _ (by exact t3) Tryz.underlying28 (by rfl) (sizeTr.trans (by rw [trC_size])) ?_; simp only [Act.put, List.setIfInBounds_toArray, List.set_cons_zero, List.set_cons_succ])
    | fail)
  refine (HO.out _ _).mono ?_
  rintro e w4 ⟨xv, er, rfl, hoa, hb4⟩
  have t4 := t3.below hb4 t3.lt
  have hb14 := hb13.trans (hb4.mono hb13.size)
  have HOA : Hid (OpenA h R high xv er) := hoa
  clear t3 hb13 hb4 HO hoa
  have c1 := tr_c1 t4
  have HRG : Hid (w4.rangeAt w.heap.size 2 ((List.range 32).map (iv .u8 (dF R.2)))) := tr_sum t4
  have r5 : Blk (w4.alloc (.cells (rfC rf0) 40)) w4.heap.size 40 (rfC rf0) := Blk.new _ _ _
  have r5' := r5.set (rfC R)
  have hb5 : Below w4.heap.size w4 ((w4.alloc (.cells (rfC rf0) 40)).setRow w4.heap.size (rfC R)) := below_setRow (below_new1 _ _) (Nat.le_refl _) _
  have t5 := t4.below hb5 t4.lt
  have hb15 := hb14.trans (hb5.mono hb14.size)
  clear hb14 hb5
  go_upto_region 5 with (first
    | (refine wpList_load_blk (by rfl) 24 _ (by rfl) (w.heap.size) (2) 32 (iv .u8 (dF R.2)) (by rfl) _ (by exact HRG.out) Tryz.underlying24 rfl osizeSum ?_; simp only [Act.put, List.setIfInBounds_toArray, List.set_cons_zero, List.set_cons_succ])
    | (refine ca_build2 (by rfl) 40 _ _ (by rfl) (.int .u32 (R.1 : Int)) (.agg (va 32 (iv .u8 (dF R.2)))) (by rfl) (by rfl) (rfC R) (by exact HBT.out) ?_; simp only [Act.put, List.setIfInBounds_toArray, List.set_cons_zero, List.set_cons_succ])
    | (refine wpList_store_row (by rfl) 40 _ _ (by rfl) (w4.heap.size) (rfC R) (by rfl) (by rfl) 40 (_) (by exact r5) (rsizeRf.trans (by rw [rfC_size])) (by simp only [rfC_size]) (rfC_all _) ?_; simp only [Act.put, List.setIfInBounds_toArray, List.set_cons_zero, List.set_cons_succ])
    | fail)
  clear r5 HRG t4 c1 HBT
  generalize ((w4.alloc (.cells (rfC rf0) 40)).setRow w4.heap.size (rfC R)) = w5 at *
  have c0 := ti_c0 t5
  go_cut [12] (fun v wx => v = .bool (decide (0 ≤ h ∧ h ≤ 6 ∧ rOk R = true ∧ 0 ≤ high ∧ high ≤ 4096)) ∧ Blk wx w.heap.size 28 (trC h R) ∧ Blk wx w4.heap.size 40 (rfC R) ∧ Below w.heap.size w wx)
  case first =>
    by_cases g0 : 0 ≤ h
    · by_cases g1 : h ≤ 6
      · obtain ⟨bo, hbo⟩ : ∃ bo, rOk R = bo := ⟨_, rfl⟩
        rw [hbo] at HRI
        go_wp2_with (first
          | (refine wpList_load_rowg (by rfl) 40 _ (by rfl) (w4.heap.size) (by rfl) 40 (rfC R) (0, 0) _ (by exact r5') Tryz.underlying40 (by rfl) (rsizeRf.trans (by rw [rfC_size])) ?_; simp only [Act.put, List.setIfInBounds_toArray, List.set_cons_zero, List.set_cons_succ])
          | fail)
        refine (HRI.out _).mono ?_
        rintro e w6 ⟨rfl, hb6⟩
        have HE : Hid (Blk w6 w.heap.size 28 (trC h R) ∧ Blk w6 w4.heap.size 40 (rfC R) ∧ Below w.heap.size w w6) := ⟨t5.below hb6 t5.lt, r5'.below hb6 r5'.lt, hb15.trans (hb6.mono hb15.size)⟩
        clear hb6 t5 r5' hb15 c0
        cases bo
        · go_wp2_with fail
          go_meet
          refine ⟨?_, HE.out.1, HE.out.2.1, HE.out.2.2⟩
          rw [decide_eq_false (by rintro ⟨_, _, hx, _⟩; rw [hbo] at hx; cases hx)]
        · by_cases g2 : 0 ≤ high
          · by_cases g3 : high ≤ 4096
            · go_wp2_with fail
              go_meet
              exact ⟨by rw [decide_eq_true ⟨g0, g1, hbo, g2, g3⟩], HE.out.1, HE.out.2.1, HE.out.2.2⟩
            · have hq : decide (high ≤ 4096) = false := decide_eq_false g3
              go_wp2_with fail
              go_meet
              refine ⟨?_, HE.out.1, HE.out.2.1, HE.out.2.2⟩
              rw [decide_eq_false (by omega)]
          · have hq : decide (0 ≤ high) = false := decide_eq_false g2
            go_wp2_with fail
            go_meet
            refine ⟨?_, HE.out.1, HE.out.2.1, HE.out.2.2⟩
            rw [decide_eq_false (by omega)]
      · have HE : Hid (Blk w5 w.heap.size 28 (trC h R) ∧ Blk w5 w4.heap.size 40 (rfC R) ∧ Below w.heap.size w w5) := ⟨t5, r5', hb15⟩
        clear t5 r5' hb15
        go_wp2_with fail
        go_meet
        refine ⟨?_, HE.out.1, HE.out.2.1, HE.out.2.2⟩
        rw [decide_eq_false (by omega)]
    · have HE : Hid (Blk w5 w.heap.size 28 (trC h R) ∧ Blk w5 w4.heap.size 40 (rfC R) ∧ Below w.heap.size w w5) := ⟨t5, r5', hb15⟩
      clear t5 r5' hb15
      go_wp2_with fail
      go_meet
      refine ⟨?_, HE.out.1, HE.out.2.1, HE.out.2.2⟩
      rw [decide_eq_false (by omega)]
  case rest =>
    obtain ⟨rfl, t6, r6, hb16⟩ := hcut
    clear t5 r5' hb15 HRI c0
    generalize wc = w6 at *
    go_upto_if 56 with fail
    go_cut [12] (fun v wx => v = .bool (decide (mayOpen h R high)) ∧ Below w.heap.size w wx)
    case first =>
      by_cases hB : 0 ≤ h ∧ h ≤ 6 ∧ rOk R = true ∧ 0 ≤ high ∧ high ≤ 4096
      · rw [decide_eq_true hB]
        obtain ⟨n, rfl⟩ := Int.eq_ofNat_of_zero_le hB.2.2.2.1
        have hn : n ≤ 4096 := by omega
        have hq : ((n : Int) + 3).tdiv 4 = (((n + 3) / 4 : Nat) : Int) := rfl
        have HGT : Hid (∀ w : World, Calls Tryz.prog 9 #[.int .i64 (((n + 3) / 4 : Nat) : Int)] w fun e w' => e = .returned (.int .i64 (hL 4 (n : Int))) ∧ w = w') := fun w => by
          rw [hL_hgt n hn]
          exact refHeight_any ((n + 3) / 4) _ (by omega) rfl w
        have t6d : Blk w6.drew w.heap.size 28 (trC h R) := t6
        have r6d : Blk w6.drew w4.heap.size 40 (rfC R) := r6
        have hS0 : Blk w6.drew w.heap.size 28 (trC h R) ∧ Blk w6.drew w4.heap.size 40 (rfC R) := ⟨t6, r6⟩
        have hb6d : Below w.heap.size w w6.drew := hb16.drew
        clear t6 r6 hb16
        go_wp2_with fail
        by_cases he : h = hL 4 (n : Int)
        · rw [← he] at HGT
          have HMB := may_bool hB he
          have HM : Hid ((!decide (0 < n) == decide (R = rf0)) = decide (mayOpen h R (n : Int))) := HMB
          clear he hB HMB
          generalize decide (R = rf0) = bz at *
          refine wp_region_partsS (fun W => Blk W w.heap.size 28 (trC h R) ∧ Blk W w4.heap.size 40 (rfC R)) [([2], 0, true), ([], 1, true), ([], 3, false), ([], 4, false), ([], 5, false), ([], 6, false), ([7, 8], 9, true), ([], 10, false), ([], 11, false), ([], 12, false)] [13, 14] [] (by kernel_rfl) (by kernel_rfl) hS0 (partsI_yield ?_)
          generalize w6.drew = w7 at *
          simp only [List.cons_append, List.nil_append, List.append_nil, List.filterMap_cons, List.filterMap_nil, List.getElem?_toArray, List.getElem?_cons_zero, List.getElem?_cons_succ]
          go_wp2_with fail
          refine ⟨rfl, _, .pointer (some ⟨w.heap.size, 0, none⟩), rfl, Or.inl ⟨by rfl, fun W hW => by go_simp⟩, partsI_yield ?_⟩
          simp only [Act.put, List.setIfInBounds_toArray, List.set_cons_zero, List.set_cons_succ]
          simp only [List.cons_append, List.nil_append, List.append_nil, List.filterMap_cons, List.filterMap_nil, List.getElem?_toArray, List.getElem?_cons_zero, List.getElem?_cons_succ]
          go_wp2_with fail
          refine ⟨rfl, _, .int .i64 h, rfl, Or.inl ⟨by rfl, fun W hW => by have hW1 := ti_c0 hW.1; go_simp⟩, partsI_force ?_⟩
          simp only [Act.put, List.setIfInBounds_toArray, List.set_cons_zero, List.set_cons_succ]
          simp only [List.cons_append, List.nil_append, List.append_nil, List.filterMap_cons, List.filterMap_nil, List.getElem?_toArray, List.getElem?_cons_zero, List.getElem?_cons_succ]
          go_wp2_with fail
          refine ⟨rfl, hS0, partsI_force ?_⟩
          simp only [List.cons_append, List.nil_append, List.append_nil, List.filterMap_cons, List.filterMap_nil, List.getElem?_toArray, List.getElem?_cons_zero, List.getElem?_cons_succ]
          go_wp2_with fail
          refine ⟨rfl, hS0, partsI_force ?_⟩
          simp only [List.cons_append, List.nil_append, List.append_nil, List.filterMap_cons, List.filterMap_nil, List.getElem?_toArray, List.getElem?_cons_zero, List.getElem?_cons_succ]
          go_wp2_with fail
          refine (HGT.out _).mono ?_
          rintro e _ ⟨rfl, rfl⟩
          go_wp2_with fail
          refine ⟨rfl, hS0, partsI_force ?_⟩
          simp only [List.cons_append, List.nil_append, List.append_nil, List.filterMap_cons, List.filterMap_nil, List.getElem?_toArray, List.getElem?_cons_zero, List.getElem?_cons_succ]
          go_wp2_with fail
          refine ⟨rfl, hS0, partsI_yield ?_⟩
          simp only [List.cons_append, List.nil_append, List.append_nil, List.filterMap_cons, List.filterMap_nil, List.getElem?_toArray, List.getElem?_cons_zero, List.getElem?_cons_succ]
          go_wp2_with fail
          refine ⟨rfl, _, .bool (decide (0 < (n : Int))), rfl, Or.inl ⟨by rfl, fun W hW => by go_simp⟩, partsI_force ?_⟩
          simp only [Act.put, List.setIfInBounds_toArray, List.set_cons_zero, List.set_cons_succ]
          simp only [List.cons_append, List.nil_append, List.append_nil, List.filterMap_cons, List.filterMap_nil, List.getElem?_toArray, List.getElem?_cons_zero, List.getElem?_cons_succ]
          (refine wpList_load_rowg (by rfl) 40 _ (by rfl) (w4.heap.size) (by rfl) 40 (rfC R) (0, 0) _ (by exact hS0.2) Tryz.underlying40 (by rfl) (rsizeRf.trans (by rw [rfC_size])) ?_; simp only [Act.put, List.setIfInBounds_toArray, List.set_cons_zero, List.set_cons_succ])
          go_wp2_with fail
          refine ⟨rfl, hS0, partsI_force ?_⟩
          simp only [List.cons_append, List.nil_append, List.append_nil, List.filterMap_cons, List.filterMap_nil, List.getElem?_toArray, List.getElem?_cons_zero, List.getElem?_cons_succ]
          go_wp2_with fail
          refine (HNO.out _).mono ?_
          rintro e w8 ⟨rfl, hb8⟩
          have hS8 : Blk w8 w.heap.size 28 (trC h R) ∧ Blk w8 w4.heap.size 40 (rfC R) := ⟨hS0.1.below hb8 hS0.1.lt, hS0.2.below hb8 hS0.2.lt⟩
          go_wp2_with fail
          refine ⟨rfl, hS8, partsI_force ?_⟩
          simp only [List.cons_append, List.nil_append, List.append_nil, List.filterMap_cons, List.filterMap_nil, List.getElem?_toArray, List.getElem?_cons_zero, List.getElem?_cons_succ]
          go_wp2_with fail
          refine ⟨rfl, hS8, partsI_last ?_⟩
          simp only [List.cons_append, List.nil_append, List.append_nil, List.filterMap_cons, List.filterMap_nil, List.getElem?_toArray, List.getElem?_cons_zero, List.getElem?_cons_succ]
          go_wp2_with fail
          refine ⟨rfl, ?_⟩
          go_wp2_with fail
          go_meet
          exact ⟨by rw [← HM.out], hb6d.trans (hb8.mono hb6d.size)⟩
        · have hne : (h == hL 4 (n : Int)) = false := by simp [he]
          have HM : Hid (decide (mayOpen h R (n : Int)) = false) := decide_eq_false fun hm => he hm.2.1
          generalize hL 4 (n : Int) = hv at *
          refine wp_region_partsS (fun W => Blk W w.heap.size 28 (trC h R) ∧ Blk W w4.heap.size 40 (rfC R)) [([2], 0, true), ([], 1, true), ([], 3, false), ([], 4, false), ([], 5, false), ([], 6, false), ([7, 8], 9, true), ([], 10, false), ([], 11, false), ([], 12, false)] [13, 14] [] (by kernel_rfl) (by kernel_rfl) hS0 (partsI_yield ?_)
          generalize w6.drew = w7 at *
          simp only [List.cons_append, List.nil_append, List.append_nil, List.filterMap_cons, List.filterMap_nil, List.getElem?_toArray, List.getElem?_cons_zero, List.getElem?_cons_succ]
          go_wp2_with fail
          refine ⟨rfl, _, .pointer (some ⟨w.heap.size, 0, none⟩), rfl, Or.inl ⟨by rfl, fun W hW => by go_simp⟩, partsI_yield ?_⟩
          simp only [Act.put, List.setIfInBounds_toArray, List.set_cons_zero, List.set_cons_succ]
          simp only [List.cons_append, List.nil_append, List.append_nil, List.filterMap_cons, List.filterMap_nil, List.getElem?_toArray, List.getElem?_cons_zero, List.getElem?_cons_succ]
          go_wp2_with fail
          refine ⟨rfl, _, .int .i64 h, rfl, Or.inl ⟨by rfl, fun W hW => by have hW1 := ti_c0 hW.1; go_simp⟩, partsI_force ?_⟩
          simp only [Act.put, List.setIfInBounds_toArray, List.set_cons_zero, List.set_cons_succ]
          simp only [List.cons_append, List.nil_append, List.append_nil, List.filterMap_cons, List.filterMap_nil, List.getElem?_toArray, List.getElem?_cons_zero, List.getElem?_cons_succ]
          go_wp2_with fail
          refine ⟨rfl, hS0, partsI_force ?_⟩
          simp only [List.cons_append, List.nil_append, List.append_nil, List.filterMap_cons, List.filterMap_nil, List.getElem?_toArray, List.getElem?_cons_zero, List.getElem?_cons_succ]
          go_wp2_with fail
          refine ⟨rfl, hS0, partsI_force ?_⟩
          simp only [List.cons_append, List.nil_append, List.append_nil, List.filterMap_cons, List.filterMap_nil, List.getElem?_toArray, List.getElem?_cons_zero, List.getElem?_cons_succ]
          go_wp2_with fail
          refine (HGT.out _).mono ?_
          rintro e _ ⟨rfl, rfl⟩
          go_wp2_with fail
          refine ⟨rfl, hS0, partsI_force ?_⟩
          simp only [List.cons_append, List.nil_append, List.append_nil, List.filterMap_cons, List.filterMap_nil, List.getElem?_toArray, List.getElem?_cons_zero, List.getElem?_cons_succ]
          go_wp2_with fail
          refine ⟨rfl, hS0, partsI_yield ?_⟩
          simp only [List.cons_append, List.nil_append, List.append_nil, List.filterMap_cons, List.filterMap_nil, List.getElem?_toArray, List.getElem?_cons_zero, List.getElem?_cons_succ]
          go_wp2_with fail
          refine ⟨rfl, _, undef, rfl, Or.inr ⟨by rfl, rfl⟩, partsI_force ?_⟩
          simp only [Act.put, List.setIfInBounds_toArray, List.set_cons_zero, List.set_cons_succ]
          simp only [List.cons_append, List.nil_append, List.append_nil, List.filterMap_cons, List.filterMap_nil, List.getElem?_toArray, List.getElem?_cons_zero, List.getElem?_cons_succ]
          go_wp2_with fail
          refine ⟨rfl, hS0, partsI_force ?_⟩
          simp only [List.cons_append, List.nil_append, List.append_nil, List.filterMap_cons, List.filterMap_nil, List.getElem?_toArray, List.getElem?_cons_zero, List.getElem?_cons_succ]
          go_wp2_with fail
          refine ⟨rfl, hS0, partsI_force ?_⟩
          simp only [List.cons_append, List.nil_append, List.append_nil, List.filterMap_cons, List.filterMap_nil, List.getElem?_toArray, List.getElem?_cons_zero, List.getElem?_cons_succ]
          go_wp2_with fail
          refine ⟨rfl, hS0, partsI_last ?_⟩
          simp only [List.cons_append, List.nil_append, List.append_nil, List.filterMap_cons, List.filterMap_nil, List.getElem?_toArray, List.getElem?_cons_zero, List.getElem?_cons_succ]
          go_wp2_with fail
          refine ⟨rfl, ?_⟩
          go_wp2_with fail
          go_meet
          exact ⟨by rw [HM.out], hb6d⟩
      · rw [decide_eq_false hB]
        go_wp2_with fail
        go_meet
        refine ⟨?_, hb16⟩
        rw [decide_eq_false (fun hm => hB ⟨by rw [hm.2.1]; exact (hL_lt 4 high).1, by rw [hm.2.1]; exact (hL_lt 4 high).2, hm.2.2.2, hm.1.1, hm.1.2⟩)]
    case rest =>
      obtain ⟨rfl, hb7⟩ := hcut
      clear t6 r6 hb16
      generalize wc = w7 at *
      rcases HOA.out with ⟨hm, rfl, x, rfl⟩ | ⟨hm, rfl, rfl⟩
      · rw [decide_eq_true hm]
        clear HOA
        go_wp2_with fail
        refine (HAW.out _).mono ?_
        rintro e w8 ⟨rfl, hb8⟩
        have hb18 := hb7.trans (hb8.mono hb7.size)
        clear hb7 hb8
        go_wp2_with fail
        go_ret
        exact ⟨rfl, hb18⟩
      · rw [decide_eq_false hm]
        clear HOA
        go_wp2_with fail
        refine (HAW.out _).mono ?_
        rintro e w8 ⟨rfl, hb8⟩
        have hb18 := hb7.trans (hb8.mono hb7.size)
        clear hb7 hb8
        go_wp2_with fail
        go_ret
        exact ⟨rfl, hb18⟩
end
end Go.Proofs.YtbcgpiocigjkoaaGreat
