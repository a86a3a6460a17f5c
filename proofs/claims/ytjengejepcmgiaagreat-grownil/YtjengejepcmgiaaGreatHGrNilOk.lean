/- The walk of the statement on nil grown trees and on what is no tree. -/
import Derived.Test.YtjengejepcmgiaaGreatHGrNilKit

namespace Go.Proofs.YtjengejepcmgiaaGreat
open Go Go.RowKit
set_option linter.unusedSimpArgs false
set_option linter.unusedVariables false

set_option maxRecDepth 100000 in
set_option maxHeartbeats 4000000 in
theorem grNil_hi (h : Int) (R : Rf) (hR : R.1 < 4294967296) (hD : okD R.2) (h1 : 6 < h) (n : Int) (f : Nat → Nat) (w : World) : Calls Tryz.prog 5 #[.agg (trC h R), .int .i64 n, .agg (va 256 (iv .u8 f))] w fun e w' => e = .returned (.bool true) ∧ Below w.heap.size w w' := by
  have hz := zero_bk
  have hzt := zero_tr
  have hzr := zero_ref
  have hA : Hid (∀ w, Calls Tryz.prog 20 #[] w fun e w' => e = .returned (.bool true) ∧ Below w.heap.size w w') := awake10_any
  have hN : Hid (∀ w : World, Calls Tryz.prog 17 #[.int .i64 16] w fun e w' => ∃ g, e = .returned (.tuple #[.pointer (some ⟨g, 0, none⟩), .int .i64 0]) ∧ Below w.heap.size w w') := fun w => (diskNew_any 16 (by decide) (by decide) w).mono fun e w' ⟨g, q, h1, _, _, h2⟩ => ⟨g, h1, h2⟩
  have hC : Hid (∀ (g : Nat) (w : World), Calls Tryz.prog 18 #[.pointer (some ⟨g, 0, none⟩), .pointer none, .int .i64 0] w fun e w' => ∃ c, e = .returned (.tuple #[.pointer (some ⟨c, 0, none⟩), .int .i64 0]) ∧ Below w.heap.size w w') := fun g w => (caNew_ok g none 0 (by decide) (by decide) w).mono fun e w' ⟨c, m, h1, _, _, _, h2⟩ => ⟨c, h1, h2⟩
  have hb1 : Below w.heap.size w ((w.alloc (.cells (trC h R) 46)).alloc (.cells (va 256 (iv .u8 f)) 38)) := below_new2 w _ _
  have t1 : Blk ((w.alloc (.cells (trC h R) 46)).alloc (.cells (va 256 (iv .u8 f)) 38)) w.heap.size 46 (trC h R) := (Blk.new w _ _).alloc _
  have k1 : Blk ((w.alloc (.cells (trC h R) 46)).alloc (.cells (va 256 (iv .u8 f)) 38)) (w.heap.size + 1) 38 (va 256 (iv .u8 f)) := Blk.new1 w _ _ _
  have hLf : Hid (∀ (p : Int) (w : World), Calls Tryz.prog 23 #[.pointer none, .int .i64 p] w fun x w' => x = .returned (.tuple #[.agg (va 256 (iv .u8 fun _ => 0)), .int .i64 1]) ∧ Below w.heap.size w w') := grLeaf_nil
  have hFr : Hid (∀ (w : World), Calls Tryz.prog 24 #[.pointer none] w fun x w' => x = .returned (.tuple #[.int .i64 0, .int .i64 1]) ∧ w = w') := grFresh_nil
  have hGo : Hid (∀ (w : World), Calls Tryz.prog 25 #[.pointer none] w fun x w' => x = .returned (.tuple #[.slice none 0 0, .int .i64 1]) ∧ w = w') := grGone_nil
  have hLy : Hid (∀ (w : World), Calls Tryz.prog 26 #[.pointer none, .nilFunc] w fun x w' => x = .returned (.tuple #[.agg (trC 0 rf0), .slice none 0 0, .int .i64 1]) ∧ Below w.heap.size w w') := grLay_nil
  have hHt : Hid (∀ (w : World), Calls Tryz.prog 22 #[.pointer none] w fun x w' => x = .returned (.int .i64 0) ∧ w = w') := grHeight_nil
  have hSe : Hid (∀ (p : Int) (f : Nat → Nat) (w : World), Calls Tryz.prog 27 #[.pointer none, .int .i64 p, .agg (va 256 (iv .u8 f))] w fun x w' => x = .returned (.int .i64 1) ∧ Below w.heap.size w w') := grSet_nil
  have hFi : Hid (∀ (p : Int) (w : World), Calls Tryz.prog 28 #[.pointer none, .int .i64 p] w fun x w' => x = .returned (.int .i64 1) ∧ w = w') := grFit_nil
  have hSt : Hid (∀ (h : Int) (R : Rf) (w : World), Calls Tryz.prog 29 #[.pointer none, .agg (trC h R)] w fun x w' => x = .returned (.int .i64 1) ∧ Below w.heap.size w w') := grStand_nil
  have hSg : Hid (∀ (w : World), Calls Tryz.prog 21 #[.pointer none] w fun x w' => x = .returned (.agg (trC 0 rf0)) ∧ Below w.heap.size w w') := grStanding_nil
  have hTo : Hid (∀ (w : World), Calls Tryz.prog 30 #[.pointer none] w fun x w' => x = .returned (.slice none 0 0) ∧ w = w') := grTouched_nil
  have hCl : Hid (∀ (w : World), Calls Tryz.prog 31 #[.pointer none] w fun x w' => x = .returned (.pointer none) ∧ w = w') := grClone_nil
  have heqB : ∀ W, (Op.equalIn 10000 38 (.agg (va 256 (iv .u8 fun _ => 0))) (.agg (va 256 (iv .u8 fun _ => 0)))).run Tryz.prog W = .ok true W := fun W => by
    have := eq_bk 38 Tryz.underlying38 (fun _ => 0) (fun _ => 0) W
    rw [decide_eq_true (fun _ _ => rfl)] at this
    exact this
  have heqT : ∀ W, (Op.equalIn 10000 46 (.agg (trC 0 rf0)) (.agg (trC 0 rf0))).run Tryz.prog W = .ok true W := fun W => by
    have := eq_tree 0 0 rf0 rf0 W
    rw [decide_eq_true rfl] at this
    exact this
  have hGN : Hid (∀ (cp : Option Addr) (w : World), Calls Tryz.prog 19 #[.pointer cp, .agg (trC h R)] w fun x w' => x = .returned (.tuple #[.pointer none, .int .i64 1]) ∧ Below w.heap.size w w') := fun cp w => new_no h R hR hD (fun u => by have := u.2; omega) cp w
  have d1 : 0 ≤ h := by omega
  have d2 : ¬ (h ≤ 6) := by omega
  have hu1 : (undef = Value.bool false) = False := by simp [undef]
  have hu2 : (undef = Value.bool true) = False := by simp [undef]
  clear hR hD
  go_enter Tryz.func5, Tryz.ntmps5
  go_wp2_with fail
  generalize ((w.alloc (.cells (trC h R) 46)).alloc (.cells (va 256 (iv .u8 f)) 38)) = w1 at *
  refine (hN.out _).mono ?_
  rintro e w2 ⟨d, rfl, hb2⟩
  go_wp2_with fail
  refine (hC.out _ _).mono ?_
  rintro e w3 ⟨c, rfl, hb3⟩
  have hb13 : Below w1.heap.size w1 w3 := hb2.trans (hb3.mono hb2.size)
  have t3 := t1.below hb13 t1.lt
  have k3 := k1.below hb13 k1.lt
  have hb03 : Below w.heap.size w w3 := hb1.trans (hb13.mono hb1.size)
  clear hb13 hb2 hb3 t1 k1 hb1 hN hC
  go_wp2_with (first
    | (refine wpList_load_rowg (by rfl) 46 _ (by rfl) (w.heap.size) (by rfl) 46 (trC h R) (0, 0) _ (by exact t3) Tryz.underlying46 (by rfl) (sizeTr.trans (by rw [trC_size])) ?_; simp only [Act.put, List.setIfInBounds_toArray, List.set_cons_zero, List.set_cons_succ])
    | fail)
  refine (hGN.out _ _).mono ?_
  rintro e w4 ⟨rfl, hb4⟩
  have t4 := t3.below hb4 t3.lt
  have k4 := k3.below hb4 k3.lt
  have hb04 : Below w.heap.size w w4 := hb03.trans (hb4.mono hb03.size)
  clear t3 k3 hb4 hb03 hGN
  have c0 : w4.cell? ⟨w.heap.size, 0, none⟩ = some (.int .i64 h) := t4.cv (n := 34) (by decide)
  have c1 : w4.cell? ⟨w.heap.size, 1, none⟩ = some (.int .u32 (R.1 : Int)) := t4.cv (n := 34) (by decide)
  have HR4 : Hid (w4.rangeAt w.heap.size 1 ((List.range 33).map (rfF R.1 R.2))) := tr_range t4
  try rw [hr1] at c1
  go_wp2_with fail
  refine wp_region_partsS (fun _ => True) [([], 0, false), ([1, 2, 3, 5], 4, false), ([], 6, false), ([7, 8, 9, 11], 10, false), ([], 12, false), ([13, 14, 15, 16, 17, 18], 19, false), ([20, 21, 22, 23, 24], 25, true), ([], 27, true), ([], 26, true), ([], 28, true), ([], 29, true), ([], 30, true), ([], 32, true), ([], 33, true), ([], 31, true), ([], 34, true), ([], 35, true)] [36, 37] [] (by kernel_rfl) (by kernel_rfl) trivial (partsI_force ?_)
  simp only [List.cons_append, List.nil_append, List.append_nil, List.filterMap_cons, List.filterMap_nil, List.getElem?_toArray, List.getElem?_cons_zero, List.getElem?_cons_succ]
  go_wp2_with fail
  refine (hA.out _).mono ?_
  rintro e w4b ⟨rfl, hb4b⟩
  go_wp2_with fail
  refine ⟨rfl, trivial, partsI_force ?_⟩
  simp only [List.cons_append, List.nil_append, List.append_nil, List.filterMap_cons, List.filterMap_nil, List.getElem?_toArray, List.getElem?_cons_zero, List.getElem?_cons_succ]
  go_wp2_with fail
  refine ⟨rfl, trivial, partsI_force ?_⟩
  simp only [List.cons_append, List.nil_append, List.append_nil, List.filterMap_cons, List.filterMap_nil, List.getElem?_toArray, List.getElem?_cons_zero, List.getElem?_cons_succ]
  go_wp2_with fail
  refine ⟨rfl, trivial, partsI_force ?_⟩
  simp only [List.cons_append, List.nil_append, List.append_nil, List.filterMap_cons, List.filterMap_nil, List.getElem?_toArray, List.getElem?_cons_zero, List.getElem?_cons_succ]
  go_wp2_with fail
  refine ⟨rfl, trivial, partsI_force ?_⟩
  simp only [List.cons_append, List.nil_append, List.append_nil, List.filterMap_cons, List.filterMap_nil, List.getElem?_toArray, List.getElem?_cons_zero, List.getElem?_cons_succ]
  go_wp2_with fail
  refine ⟨rfl, trivial, partsI_force ?_⟩
  simp only [List.cons_append, List.nil_append, List.append_nil, List.filterMap_cons, List.filterMap_nil, List.getElem?_toArray, List.getElem?_cons_zero, List.getElem?_cons_succ]
  go_wp2_with fail
  refine ⟨rfl, trivial, partsI_yield ?_⟩
  simp only [List.cons_append, List.nil_append, List.append_nil, List.filterMap_cons, List.filterMap_nil, List.getElem?_toArray, List.getElem?_cons_zero, List.getElem?_cons_succ]
  go_wp2_with fail
  refine ⟨rfl, _, undef, rfl, Or.inr ⟨by rfl, rfl⟩, partsI_yield ?_⟩
  simp only [Act.put, List.setIfInBounds_toArray, List.set_cons_zero, List.set_cons_succ]
  simp only [List.cons_append, List.nil_append, List.append_nil, List.filterMap_cons, List.filterMap_nil, List.getElem?_toArray, List.getElem?_cons_zero, List.getElem?_cons_succ]
  go_wp2_with fail
  refine ⟨rfl, _, undef, rfl, Or.inr ⟨by rfl, rfl⟩, partsI_yield ?_⟩
  simp only [Act.put, List.setIfInBounds_toArray, List.set_cons_zero, List.set_cons_succ]
  simp only [List.cons_append, List.nil_append, List.append_nil, List.filterMap_cons, List.filterMap_nil, List.getElem?_toArray, List.getElem?_cons_zero, List.getElem?_cons_succ]
  go_wp2_with fail
  refine ⟨rfl, _, undef, rfl, Or.inr ⟨by rfl, rfl⟩, partsI_yield ?_⟩
  simp only [Act.put, List.setIfInBounds_toArray, List.set_cons_zero, List.set_cons_succ]
  simp only [List.cons_append, List.nil_append, List.append_nil, List.filterMap_cons, List.filterMap_nil, List.getElem?_toArray, List.getElem?_cons_zero, List.getElem?_cons_succ]
  go_wp2_with fail
  refine ⟨rfl, _, undef, rfl, Or.inr ⟨by rfl, rfl⟩, partsI_yield ?_⟩
  simp only [Act.put, List.setIfInBounds_toArray, List.set_cons_zero, List.set_cons_succ]
  simp only [List.cons_append, List.nil_append, List.append_nil, List.filterMap_cons, List.filterMap_nil, List.getElem?_toArray, List.getElem?_cons_zero, List.getElem?_cons_succ]
  go_wp2_with fail
  refine ⟨rfl, _, undef, rfl, Or.inr ⟨by rfl, rfl⟩, partsI_yield ?_⟩
  simp only [Act.put, List.setIfInBounds_toArray, List.set_cons_zero, List.set_cons_succ]
  simp only [List.cons_append, List.nil_append, List.append_nil, List.filterMap_cons, List.filterMap_nil, List.getElem?_toArray, List.getElem?_cons_zero, List.getElem?_cons_succ]
  go_wp2_with fail
  refine ⟨rfl, _, undef, rfl, Or.inr ⟨by rfl, rfl⟩, partsI_yield ?_⟩
  simp only [Act.put, List.setIfInBounds_toArray, List.set_cons_zero, List.set_cons_succ]
  simp only [List.cons_append, List.nil_append, List.append_nil, List.filterMap_cons, List.filterMap_nil, List.getElem?_toArray, List.getElem?_cons_zero, List.getElem?_cons_succ]
  go_wp2_with fail
  refine ⟨rfl, _, undef, rfl, Or.inr ⟨by rfl, rfl⟩, partsI_yield ?_⟩
  simp only [Act.put, List.setIfInBounds_toArray, List.set_cons_zero, List.set_cons_succ]
  simp only [List.cons_append, List.nil_append, List.append_nil, List.filterMap_cons, List.filterMap_nil, List.getElem?_toArray, List.getElem?_cons_zero, List.getElem?_cons_succ]
  go_wp2_with fail
  refine ⟨rfl, _, undef, rfl, Or.inr ⟨by rfl, rfl⟩, partsI_yield ?_⟩
  simp only [Act.put, List.setIfInBounds_toArray, List.set_cons_zero, List.set_cons_succ]
  simp only [List.cons_append, List.nil_append, List.append_nil, List.filterMap_cons, List.filterMap_nil, List.getElem?_toArray, List.getElem?_cons_zero, List.getElem?_cons_succ]
  go_wp2_with fail
  refine ⟨rfl, _, undef, rfl, Or.inr ⟨by rfl, rfl⟩, partsI_yield ?_⟩
  simp only [Act.put, List.setIfInBounds_toArray, List.set_cons_zero, List.set_cons_succ]
  simp only [List.cons_append, List.nil_append, List.append_nil, List.filterMap_cons, List.filterMap_nil, List.getElem?_toArray, List.getElem?_cons_zero, List.getElem?_cons_succ]
  go_wp2_with fail
  refine ⟨rfl, _, undef, rfl, Or.inr ⟨by rfl, rfl⟩, partsI_yield ?_⟩
  simp only [Act.put, List.setIfInBounds_toArray, List.set_cons_zero, List.set_cons_succ]
  simp only [List.cons_append, List.nil_append, List.append_nil, List.filterMap_cons, List.filterMap_nil, List.getElem?_toArray, List.getElem?_cons_zero, List.getElem?_cons_succ]
  go_wp2_with fail
  refine ⟨rfl, _, undef, rfl, Or.inr ⟨by rfl, rfl⟩, partsI_last ?_⟩
  simp only [Act.put, List.setIfInBounds_toArray, List.set_cons_zero, List.set_cons_succ]
  simp only [List.cons_append, List.nil_append, List.append_nil, List.filterMap_cons, List.filterMap_nil, List.getElem?_toArray, List.getElem?_cons_zero, List.getElem?_cons_succ]
  go_wp2_with fail
  refine ⟨rfl, ?_⟩
  have t4b : Blk w4b w.heap.size 46 (trC h R) := (show Blk w4.drew w.heap.size 46 (trC h R) from t4).below hb4b t4.lt
  have k4b : Blk w4b (w.heap.size + 1) 38 (va 256 (iv .u8 f)) := (show Blk w4.drew (w.heap.size + 1) 38 (va 256 (iv .u8 f)) from k4).below hb4b k4.lt
  have hb04b : Below w.heap.size w w4b := hb04.drew.trans (hb4b.mono hb04.size)
  clear t4 k4 hb04 hb4b c0 c1 HR4 hA
  have t4 := t4b
  have k4 := k4b
  have hb04 := hb04b
  clear t4b k4b hb04b
  go_wp2_with fail
  refine (hLf.out _ _).mono ?_
  rintro e w5 ⟨rfl, hb5⟩
  have t5 := t4.below hb5 t4.lt
  have k5 := k4.below hb5 k4.lt
  have hb05 : Below w.heap.size w w5 := hb04.trans (hb5.mono hb04.size)
  have q0 := Blk.new w5 38 (va 256 (iv .u8 fun _ => 0))
  have q6 := q0.set (va 256 (iv .u8 fun _ => 0))
  have hb6 : Below w5.heap.size w5 ((w5.alloc (.cells (va 256 (iv .u8 fun _ => 0)) 38)).setRow w5.heap.size (va 256 (iv .u8 fun _ => 0))) := below_setRow (below_new1 _ _) (Nat.le_refl _) _
  have t6 := t5.below hb6 t5.lt
  have k6 := k5.below hb6 k5.lt
  have hb06 : Below w.heap.size w ((w5.alloc (.cells (va 256 (iv .u8 fun _ => 0)) 38)).setRow w5.heap.size (va 256 (iv .u8 fun _ => 0))) := hb05.trans (hb6.mono hb05.size)
  clear t4 k4 hb5 hb04 t5 k5 hb05 hb6
  go_wp2_with (first
    | (refine wpList_store_row (by rfl) 38 _ _ (by rfl) (w5.heap.size) (va 256 (iv .u8 fun _ => 0)) (by rfl) (by rfl) 38 (_) (by exact q0) (sizeBk.trans (by rw [va_size])) (by simp only [va_size]) (iv_one _ _ _) ?_; simp only [Act.put, List.setIfInBounds_toArray, List.set_cons_zero, List.set_cons_succ])
    | fail)
  clear q0
  generalize ((w5.alloc (.cells (va 256 (iv .u8 fun _ => 0)) 38)).setRow w5.heap.size (va 256 (iv .u8 fun _ => 0))) = w6 at *
  generalize w5.heap.size = xb at *
  refine (hFr.out _).mono ?_
  rintro e _ ⟨rfl, rfl⟩
  go_wp2_with fail
  refine (hGo.out _).mono ?_
  rintro e _ ⟨rfl, rfl⟩
  go_wp2_with fail
  refine (hLy.out _).mono ?_
  rintro e w7 ⟨rfl, hb7⟩
  have t7 := t6.below hb7 t6.lt
  have k7 := k6.below hb7 k6.lt
  have q7 := q6.below hb7 q6.lt
  have hb07 : Below w.heap.size w w7 := hb06.trans (hb7.mono hb06.size)
  have u0 := Blk.new w7 46 (trC 0 rf0)
  have u8 := u0.set (trC 0 rf0)
  have hb8 : Below w7.heap.size w7 ((w7.alloc (.cells (trC 0 rf0) 46)).setRow w7.heap.size (trC 0 rf0)) := below_setRow (below_new1 _ _) (Nat.le_refl _) _
  have t8 := t7.below hb8 t7.lt
  have k8 := k7.below hb8 k7.lt
  have q8 := q7.below hb8 q7.lt
  have HB8 : Hid (Below w.heap.size w ((w7.alloc (.cells (trC 0 rf0) 46)).setRow w7.heap.size (trC 0 rf0))) := hb07.trans (hb8.mono hb07.size)
  clear t6 k6 q6 hb7 hb06 t7 k7 q7 hb07 hb8
  go_wp2_with (first
    | (refine wpList_store_row (by rfl) 46 _ _ (by rfl) (w7.heap.size) (trC 0 rf0) (by rfl) (by rfl) 46 (_) (by exact u0) (sizeTr.trans (by rw [trC_size])) (by simp only [trC_size]) (trC_all _ _) ?_; simp only [Act.put, List.setIfInBounds_toArray, List.set_cons_zero, List.set_cons_succ])
    | (refine wpList_load_rowg (by rfl) 38 _ (by rfl) (xb) (by rfl) 38 (va 256 (iv .u8 fun _ => 0)) (0, 0) _ (by exact q8) Tryz.underlying38 (by rfl) (sizeBk.trans (by rw [va_size])) ?_; simp only [Act.put, List.setIfInBounds_toArray, List.set_cons_zero, List.set_cons_succ])
    | (refine wpList_load_rowg (by rfl) 46 _ (by rfl) (w7.heap.size) (by rfl) 46 (trC 0 rf0) (0, 0) _ (by exact u8) Tryz.underlying46 (by rfl) (sizeTr.trans (by rw [trC_size])) ?_; simp only [Act.put, List.setIfInBounds_toArray, List.set_cons_zero, List.set_cons_succ])
    | fail)
  clear u0 q8 u8
  generalize ((w7.alloc (.cells (trC 0 rf0) 46)).setRow w7.heap.size (trC 0 rf0)) = w8 at *
  generalize w7.heap.size = yb at *
  refine (hHt.out _).mono ?_
  rintro e _ ⟨rfl, rfl⟩
  go_wp2_with (first
    | (refine wpList_load_rowg (by rfl) 38 _ (by rfl) (w.heap.size + 1) (by rfl) 38 (va 256 (iv .u8 f)) (0, 0) _ (by exact k8) Tryz.underlying38 (by rfl) (sizeBk.trans (by rw [va_size])) ?_; simp only [Act.put, List.setIfInBounds_toArray, List.set_cons_zero, List.set_cons_succ])
    | fail)
  refine (hSe.out _ _ _).mono ?_
  rintro e w9 ⟨rfl, hb9⟩
  have t9 := t8.below hb9 t8.lt
  have HB9 : Hid (Below w.heap.size w w9) := HB8.out.trans (hb9.mono HB8.out.size)
  clear t8 k8 hb9 HB8
  go_wp2_with fail
  refine (hFi.out _ _).mono ?_
  rintro e _ ⟨rfl, rfl⟩
  go_wp2_with (first
    | (refine wpList_load_rowg (by rfl) 46 _ (by rfl) (w.heap.size) (by rfl) 46 (trC h R) (0, 0) _ (by exact t9) Tryz.underlying46 (by rfl) (sizeTr.trans (by rw [trC_size])) ?_; simp only [Act.put, List.setIfInBounds_toArray, List.set_cons_zero, List.set_cons_succ])
    | fail)
  refine (hSt.out _ _ _).mono ?_
  rintro e wA ⟨rfl, hbA⟩
  have HBA : Hid (Below w.heap.size w wA) := HB9.out.trans (hbA.mono HB9.out.size)
  clear t9 hbA HB9
  go_wp2_with fail
  refine (hSg.out _).mono ?_
  rintro e wB ⟨rfl, hbB⟩
  have HBB : Hid (Below w.heap.size w wB) := HBA.out.trans (hbB.mono HBA.out.size)
  clear hbB HBA
  go_wp2_with fail
  refine (hTo.out _).mono ?_
  rintro e _ ⟨rfl, rfl⟩
  go_wp2_with fail
  refine (hCl.out _).mono ?_
  rintro e _ ⟨rfl, rfl⟩
  go_wp2_with fail
  go_ret
  exact ⟨rfl, HBB.out⟩
end Go.Proofs.YtjengejepcmgiaaGreat

namespace Go.Proofs.YtjengejepcmgiaaGreat
open Go Go.RowKit
set_option linter.unusedSimpArgs false
set_option linter.unusedVariables false

set_option maxRecDepth 100000 in
set_option maxHeartbeats 4000000 in
theorem grNil_ok (h : Int) (R : Rf) (hR : R.1 < 4294967296) (hD : okD R.2) (h1 : 0 ≤ h) (h2 : h ≤ 6) (h3 : R.1 ≠ 0) (n : Int) (f : Nat → Nat) (w : World) : Calls Tryz.prog 5 #[.agg (trC h R), .int .i64 n, .agg (va 256 (iv .u8 f))] w fun e w' => e = .returned (.bool true) ∧ Below w.heap.size w w' := by
  have hz := zero_bk
  have hzt := zero_tr
  have hzr := zero_ref
  have hA : Hid (∀ w, Calls Tryz.prog 20 #[] w fun e w' => e = .returned (.bool true) ∧ Below w.heap.size w w') := awake10_any
  have hN : Hid (∀ w : World, Calls Tryz.prog 17 #[.int .i64 16] w fun e w' => ∃ g, e = .returned (.tuple #[.pointer (some ⟨g, 0, none⟩), .int .i64 0]) ∧ Below w.heap.size w w') := fun w => (diskNew_any 16 (by decide) (by decide) w).mono fun e w' ⟨g, q, h1, _, _, h2⟩ => ⟨g, h1, h2⟩
  have hC : Hid (∀ (g : Nat) (w : World), Calls Tryz.prog 18 #[.pointer (some ⟨g, 0, none⟩), .pointer none, .int .i64 0] w fun e w' => ∃ c, e = .returned (.tuple #[.pointer (some ⟨c, 0, none⟩), .int .i64 0]) ∧ Below w.heap.size w w') := fun g w => (caNew_ok g none 0 (by decide) (by decide) w).mono fun e w' ⟨c, m, h1, _, _, _, h2⟩ => ⟨c, h1, h2⟩
  have hb1 : Below w.heap.size w ((w.alloc (.cells (trC h R) 46)).alloc (.cells (va 256 (iv .u8 f)) 38)) := below_new2 w _ _
  have t1 : Blk ((w.alloc (.cells (trC h R) 46)).alloc (.cells (va 256 (iv .u8 f)) 38)) w.heap.size 46 (trC h R) := (Blk.new w _ _).alloc _
  have k1 : Blk ((w.alloc (.cells (trC h R) 46)).alloc (.cells (va 256 (iv .u8 f)) 38)) (w.heap.size + 1) 38 (va 256 (iv .u8 f)) := Blk.new1 w _ _ _
  have hLf : Hid (∀ (p : Int) (w : World), Calls Tryz.prog 23 #[.pointer none, .int .i64 p] w fun x w' => x = .returned (.tuple #[.agg (va 256 (iv .u8 fun _ => 0)), .int .i64 1]) ∧ Below w.heap.size w w') := grLeaf_nil
  have hFr : Hid (∀ (w : World), Calls Tryz.prog 24 #[.pointer none] w fun x w' => x = .returned (.tuple #[.int .i64 0, .int .i64 1]) ∧ w = w') := grFresh_nil
  have hGo : Hid (∀ (w : World), Calls Tryz.prog 25 #[.pointer none] w fun x w' => x = .returned (.tuple #[.slice none 0 0, .int .i64 1]) ∧ w = w') := grGone_nil
  have hLy : Hid (∀ (w : World), Calls Tryz.prog 26 #[.pointer none, .nilFunc] w fun x w' => x = .returned (.tuple #[.agg (trC 0 rf0), .slice none 0 0, .int .i64 1]) ∧ Below w.heap.size w w') := grLay_nil
  have hHt : Hid (∀ (w : World), Calls Tryz.prog 22 #[.pointer none] w fun x w' => x = .returned (.int .i64 0) ∧ w = w') := grHeight_nil
  have hSe : Hid (∀ (p : Int) (f : Nat → Nat) (w : World), Calls Tryz.prog 27 #[.pointer none, .int .i64 p, .agg (va 256 (iv .u8 f))] w fun x w' => x = .returned (.int .i64 1) ∧ Below w.heap.size w w') := grSet_nil
  have hFi : Hid (∀ (p : Int) (w : World), Calls Tryz.prog 28 #[.pointer none, .int .i64 p] w fun x w' => x = .returned (.int .i64 1) ∧ w = w') := grFit_nil
  have hSt : Hid (∀ (h : Int) (R : Rf) (w : World), Calls Tryz.prog 29 #[.pointer none, .agg (trC h R)] w fun x w' => x = .returned (.int .i64 1) ∧ Below w.heap.size w w') := grStand_nil
  have hSg : Hid (∀ (w : World), Calls Tryz.prog 21 #[.pointer none] w fun x w' => x = .returned (.agg (trC 0 rf0)) ∧ Below w.heap.size w w') := grStanding_nil
  have hTo : Hid (∀ (w : World), Calls Tryz.prog 30 #[.pointer none] w fun x w' => x = .returned (.slice none 0 0) ∧ w = w') := grTouched_nil
  have hCl : Hid (∀ (w : World), Calls Tryz.prog 31 #[.pointer none] w fun x w' => x = .returned (.pointer none) ∧ w = w') := grClone_nil
  have heqB : ∀ W, (Op.equalIn 10000 38 (.agg (va 256 (iv .u8 fun _ => 0))) (.agg (va 256 (iv .u8 fun _ => 0)))).run Tryz.prog W = .ok true W := fun W => by
    have := eq_bk 38 Tryz.underlying38 (fun _ => 0) (fun _ => 0) W
    rw [decide_eq_true (fun _ _ => rfl)] at this
    exact this
  have heqT : ∀ W, (Op.equalIn 10000 46 (.agg (trC 0 rf0)) (.agg (trC 0 rf0))).run Tryz.prog W = .ok true W := fun W => by
    have := eq_tree 0 0 rf0 rf0 W
    rw [decide_eq_true rfl] at this
    exact this
  obtain ⟨nn, hnn⟩ : ∃ nn : Nat, h = (nn : Int) := ⟨h.toNat, by omega⟩
  obtain ⟨ce, hce⟩ : ∃ ce : Int, ce = ((4 ^ nn : Nat) : Int) := ⟨_, rfl⟩
  have hGN : Hid (∀ (cp : Option Addr) (w : World), Calls Tryz.prog 19 #[.pointer cp, .agg (trC h R)] w fun x w' => ∃ g m, x = .returned (.tuple #[.pointer (some ⟨g, 0, none⟩), .int .i64 0]) ∧ Blk w' g 131 (grC cp h R h (some m) ce) ∧ Below w.heap.size w w') := fun cp w => (new_ok nn (4 ^ nn) rfl h hnn R hR hD ⟨by unfold rOk; simp [h3], h1, h2⟩ cp w).mono fun e w' ⟨g, m, q1, _, _, _, q2, q3⟩ => ⟨g, m, q1, by rw [hce]; exact q2, q3⟩
  have heqTT : ∀ W, (Op.equalIn 10000 46 (.agg (trC h R)) (.agg (trC h R))).run Tryz.prog W = .ok true W := fun W => by
    have := eq_tree h h R R W
    rw [decide_eq_true rfl, beq_self_eq_true] at this
    exact this
  clear hce hnn
  have hr0 : ¬ ((R.1 : Nat) : Int) = 0 := by omega
  clear h3
  clear hR hD
  go_enter Tryz.func5, Tryz.ntmps5
  go_wp2_with fail
  generalize ((w.alloc (.cells (trC h R) 46)).alloc (.cells (va 256 (iv .u8 f)) 38)) = w1 at *
  refine (hN.out _).mono ?_
  rintro e w2 ⟨d, rfl, hb2⟩
  go_wp2_with fail
  refine (hC.out _ _).mono ?_
  rintro e w3 ⟨c, rfl, hb3⟩
  have hb13 : Below w1.heap.size w1 w3 := hb2.trans (hb3.mono hb2.size)
  have t3 := t1.below hb13 t1.lt
  have k3 := k1.below hb13 k1.lt
  have hb03 : Below w.heap.size w w3 := hb1.trans (hb13.mono hb1.size)
  clear hb13 hb2 hb3 t1 k1 hb1 hN hC
  go_wp2_with (first
    | (refine wpList_load_rowg (by rfl) 46 _ (by rfl) (w.heap.size) (by rfl) 46 (trC h R) (0, 0) _ (by exact t3) Tryz.underlying46 (by rfl) (sizeTr.trans (by rw [trC_size])) ?_; simp only [Act.put, List.setIfInBounds_toArray, List.set_cons_zero, List.set_cons_succ])
    | fail)
  refine (hGN.out _ _).mono ?_
  rintro e w4 ⟨g, m, rfl, hg4, hb4⟩
  have t4 := t3.below hb4 t3.lt
  have k4 := k3.below hb4 k3.lt
  have hb04 : Below w.heap.size w w4 := hb03.trans (hb4.mono hb03.size)
  clear t3 k3 hb4 hb03 hGN
  have c0 : w4.cell? ⟨w.heap.size, 0, none⟩ = some (.int .i64 h) := t4.cv (n := 34) (by decide)
  have c1 : w4.cell? ⟨w.heap.size, 1, none⟩ = some (.int .u32 (R.1 : Int)) := t4.cv (n := 34) (by decide)
  have HR4 : Hid (w4.rangeAt w.heap.size 1 ((List.range 33).map (rfF R.1 R.2))) := tr_range t4
  try rw [hr1] at c1
  have hS0 : Blk w4.drew w.heap.size 46 (trC h R) ∧ Blk w4.drew g 131 (grC (some ⟨c, 0, none⟩) h R h (some m) ce) := ⟨t4, hg4⟩
  go_wp2_with (first
    | (refine wpList_load_blkgg (by rfl) 44 _ (by rfl) (w.heap.size) (1) 33 (rfF R.1 R.2) (by rfl) _ (by exact HR4.out) Tryz.underlying44 rfl tsizeRef ?_; simp only [Act.put, List.setIfInBounds_toArray, List.set_cons_zero, List.set_cons_succ])
    | fail)
  refine wp_region_partsS (fun W => Blk W w.heap.size 46 (trC h R) ∧ Blk W g 131 (grC (some ⟨c, 0, none⟩) h R h (some m) ce)) [([], 0, false), ([1, 2, 3, 5], 4, false), ([], 6, false), ([7, 8, 9, 11], 10, false), ([], 12, false), ([13, 14, 15, 16, 17], 18, true), ([], 19, true), ([20, 21, 22, 23, 24, 25], 27, true), ([], 26, false), ([], 28, false), ([29, 30], 32, true), ([], 33, true), ([], 31, false), ([], 34, false)] [35, 36, 37] [] (by kernel_rfl) (by kernel_rfl) hS0 (partsI_force ?_)
  simp only [List.cons_append, List.nil_append, List.append_nil, List.filterMap_cons, List.filterMap_nil, List.getElem?_toArray, List.getElem?_cons_zero, List.getElem?_cons_succ]
  go_wp2_with fail
  refine (hA.out _).mono ?_
  rintro e w4b ⟨rfl, hb4b⟩
  have hS1 := And.intro (hS0.1.below hb4b hS0.1.lt) (hS0.2.below hb4b hS0.2.lt)
  go_wp2_with fail
  refine ⟨rfl, hS1, partsI_force ?_⟩
  simp only [List.cons_append, List.nil_append, List.append_nil, List.filterMap_cons, List.filterMap_nil, List.getElem?_toArray, List.getElem?_cons_zero, List.getElem?_cons_succ]
  go_wp2_with fail
  refine ⟨rfl, hS1, partsI_force ?_⟩
  simp only [List.cons_append, List.nil_append, List.append_nil, List.filterMap_cons, List.filterMap_nil, List.getElem?_toArray, List.getElem?_cons_zero, List.getElem?_cons_succ]
  go_wp2_with fail
  refine ⟨rfl, hS1, partsI_force ?_⟩
  simp only [List.cons_append, List.nil_append, List.append_nil, List.filterMap_cons, List.filterMap_nil, List.getElem?_toArray, List.getElem?_cons_zero, List.getElem?_cons_succ]
  go_wp2_with fail
  refine ⟨rfl, hS1, partsI_force ?_⟩
  simp only [List.cons_append, List.nil_append, List.append_nil, List.filterMap_cons, List.filterMap_nil, List.getElem?_toArray, List.getElem?_cons_zero, List.getElem?_cons_succ]
  go_wp2_with fail
  refine ⟨rfl, hS1, partsI_yield ?_⟩
  simp only [List.cons_append, List.nil_append, List.append_nil, List.filterMap_cons, List.filterMap_nil, List.getElem?_toArray, List.getElem?_cons_zero, List.getElem?_cons_succ]
  go_wp2_with fail
  refine ⟨rfl, _, undef, rfl, Or.inr ⟨by rfl, rfl⟩, partsI_yield ?_⟩
  simp only [Act.put, List.setIfInBounds_toArray, List.set_cons_zero, List.set_cons_succ]
  simp only [List.cons_append, List.nil_append, List.append_nil, List.filterMap_cons, List.filterMap_nil, List.getElem?_toArray, List.getElem?_cons_zero, List.getElem?_cons_succ]
  go_wp2_with fail
  refine ⟨rfl, _, undef, rfl, Or.inr ⟨by rfl, rfl⟩, partsI_yield ?_⟩
  simp only [Act.put, List.setIfInBounds_toArray, List.set_cons_zero, List.set_cons_succ]
  simp only [List.cons_append, List.nil_append, List.append_nil, List.filterMap_cons, List.filterMap_nil, List.getElem?_toArray, List.getElem?_cons_zero, List.getElem?_cons_succ]
  go_wp2_with fail
  refine ⟨rfl, _, .agg (trC h R), rfl, kyields_load (by rfl) 46 _ (by rfl) w.heap.size 34 (trF h R) (by rfl) _ 46 (fun W hW => hW.1) Tryz.underlying46 rfl sizeTr, partsI_force ?_⟩
  simp only [Act.put, List.setIfInBounds_toArray, List.set_cons_zero, List.set_cons_succ]
  simp only [List.cons_append, List.nil_append, List.append_nil, List.filterMap_cons, List.filterMap_nil, List.getElem?_toArray, List.getElem?_cons_zero, List.getElem?_cons_succ]
  go_wp2_with fail
  refine (grStanding_at g _ hS1.2).mono ?_
  rintro e w4c ⟨rfl, hb4c⟩
  have hS2 := And.intro (hS1.1.below hb4c hS1.1.lt) (hS1.2.below hb4c hS1.2.lt)
  go_wp2_with fail
  refine ⟨rfl, hS2, partsI_force ?_⟩
  simp only [List.cons_append, List.nil_append, List.append_nil, List.filterMap_cons, List.filterMap_nil, List.getElem?_toArray, List.getElem?_cons_zero, List.getElem?_cons_succ]
  go_wp2_with fail
  refine ⟨rfl, hS2, partsI_yield ?_⟩
  simp only [List.cons_append, List.nil_append, List.append_nil, List.filterMap_cons, List.filterMap_nil, List.getElem?_toArray, List.getElem?_cons_zero, List.getElem?_cons_succ]
  go_wp2_with fail
  refine ⟨rfl, _, .pointer (some ⟨w.heap.size, 0, none⟩), rfl, Or.inl ⟨by rfl, fun W hW => by go_simp⟩, partsI_yield ?_⟩
  simp only [Act.put, List.setIfInBounds_toArray, List.set_cons_zero, List.set_cons_succ]
  simp only [List.cons_append, List.nil_append, List.append_nil, List.filterMap_cons, List.filterMap_nil, List.getElem?_toArray, List.getElem?_cons_zero, List.getElem?_cons_succ]
  go_wp2_with fail
  refine ⟨rfl, _, .int .i64 h, rfl, Or.inl ⟨by rfl, fun W hW => by have hW1 : W.cell? ⟨w.heap.size, 0, none⟩ = some (.int .i64 h) := hW.1.cv (n := 34) (by decide); go_simp⟩, partsI_force ?_⟩
  simp only [Act.put, List.setIfInBounds_toArray, List.set_cons_zero, List.set_cons_succ]
  simp only [List.cons_append, List.nil_append, List.append_nil, List.filterMap_cons, List.filterMap_nil, List.getElem?_toArray, List.getElem?_cons_zero, List.getElem?_cons_succ]
  go_wp2_with fail
  refine (grHeight_at g _ hS2.2).mono ?_
  rintro e _ ⟨rfl, rfl⟩
  go_wp2_with fail
  refine ⟨rfl, hS2, partsI_force ?_⟩
  simp only [List.cons_append, List.nil_append, List.append_nil, List.filterMap_cons, List.filterMap_nil, List.getElem?_toArray, List.getElem?_cons_zero, List.getElem?_cons_succ]
  go_wp2_with fail
  refine ⟨rfl, hS2, partsI_last ?_⟩
  simp only [List.cons_append, List.nil_append, List.append_nil, List.filterMap_cons, List.filterMap_nil, List.getElem?_toArray, List.getElem?_cons_zero, List.getElem?_cons_succ]
  go_wp2_with fail
  refine ⟨rfl, ?_⟩
  have k4b : Blk w4b (w.heap.size + 1) 38 (va 256 (iv .u8 f)) := (show Blk w4.drew (w.heap.size + 1) 38 (va 256 (iv .u8 f)) from k4).below hb4b k4.lt
  have k4c := k4b.below hb4c k4b.lt
  have hb04b : Below w.heap.size w w4b := hb04.drew.trans (hb4b.mono hb04.size)
  have hb04c : Below w.heap.size w w4c := hb04b.trans (hb4c.mono hb04b.size)
  have t4c := hS2.1
  clear t4 k4 hb04 hb4b c0 c1 HR4 hA hS0 hS1 hS2 k4b hb04b hb4c hg4
  have t4 := t4c
  have k4 := k4c
  have hb04 := hb04c
  clear t4c k4c hb04c
  go_wp2_with fail
  refine (hLf.out _ _).mono ?_
  rintro e w5 ⟨rfl, hb5⟩
  have t5 := t4.below hb5 t4.lt
  have k5 := k4.below hb5 k4.lt
  have hb05 : Below w.heap.size w w5 := hb04.trans (hb5.mono hb04.size)
  have q0 := Blk.new w5 38 (va 256 (iv .u8 fun _ => 0))
  have q6 := q0.set (va 256 (iv .u8 fun _ => 0))
  have hb6 : Below w5.heap.size w5 ((w5.alloc (.cells (va 256 (iv .u8 fun _ => 0)) 38)).setRow w5.heap.size (va 256 (iv .u8 fun _ => 0))) := below_setRow (below_new1 _ _) (Nat.le_refl _) _
  have t6 := t5.below hb6 t5.lt
  have k6 := k5.below hb6 k5.lt
  have hb06 : Below w.heap.size w ((w5.alloc (.cells (va 256 (iv .u8 fun _ => 0)) 38)).setRow w5.heap.size (va 256 (iv .u8 fun _ => 0))) := hb05.trans (hb6.mono hb05.size)
  clear t4 k4 hb5 hb04 t5 k5 hb05 hb6
  go_wp2_with (first
    | (refine wpList_store_row (by rfl) 38 _ _ (by rfl) (w5.heap.size) (va 256 (iv .u8 fun _ => 0)) (by rfl) (by rfl) 38 (_) (by exact q0) (sizeBk.trans (by rw [va_size])) (by simp only [va_size]) (iv_one _ _ _) ?_; simp only [Act.put, List.setIfInBounds_toArray, List.set_cons_zero, List.set_cons_succ])
    | fail)
  clear q0
  generalize ((w5.alloc (.cells (va 256 (iv .u8 fun _ => 0)) 38)).setRow w5.heap.size (va 256 (iv .u8 fun _ => 0))) = w6 at *
  generalize w5.heap.size = xb at *
  refine (hFr.out _).mono ?_
  rintro e _ ⟨rfl, rfl⟩
  go_wp2_with fail
  refine (hGo.out _).mono ?_
  rintro e _ ⟨rfl, rfl⟩
  go_wp2_with fail
  refine (hLy.out _).mono ?_
  rintro e w7 ⟨rfl, hb7⟩
  have t7 := t6.below hb7 t6.lt
  have k7 := k6.below hb7 k6.lt
  have q7 := q6.below hb7 q6.lt
  have hb07 : Below w.heap.size w w7 := hb06.trans (hb7.mono hb06.size)
  have u0 := Blk.new w7 46 (trC 0 rf0)
  have u8 := u0.set (trC 0 rf0)
  have hb8 : Below w7.heap.size w7 ((w7.alloc (.cells (trC 0 rf0) 46)).setRow w7.heap.size (trC 0 rf0)) := below_setRow (below_new1 _ _) (Nat.le_refl _) _
  have t8 := t7.below hb8 t7.lt
  have k8 := k7.below hb8 k7.lt
  have q8 := q7.below hb8 q7.lt
  have HB8 : Hid (Below w.heap.size w ((w7.alloc (.cells (trC 0 rf0) 46)).setRow w7.heap.size (trC 0 rf0))) := hb07.trans (hb8.mono hb07.size)
  clear t6 k6 q6 hb7 hb06 t7 k7 q7 hb07 hb8
  go_wp2_with (first
    | (refine wpList_store_row (by rfl) 46 _ _ (by rfl) (w7.heap.size) (trC 0 rf0) (by rfl) (by rfl) 46 (_) (by exact u0) (sizeTr.trans (by rw [trC_size])) (by simp only [trC_size]) (trC_all _ _) ?_; simp only [Act.put, List.setIfInBounds_toArray, List.set_cons_zero, List.set_cons_succ])
    | (refine wpList_load_rowg (by rfl) 38 _ (by rfl) (xb) (by rfl) 38 (va 256 (iv .u8 fun _ => 0)) (0, 0) _ (by exact q8) Tryz.underlying38 (by rfl) (sizeBk.trans (by rw [va_size])) ?_; simp only [Act.put, List.setIfInBounds_toArray, List.set_cons_zero, List.set_cons_succ])
    | (refine wpList_load_rowg (by rfl) 46 _ (by rfl) (w7.heap.size) (by rfl) 46 (trC 0 rf0) (0, 0) _ (by exact u8) Tryz.underlying46 (by rfl) (sizeTr.trans (by rw [trC_size])) ?_; simp only [Act.put, List.setIfInBounds_toArray, List.set_cons_zero, List.set_cons_succ])
    | fail)
  clear u0 q8 u8
  generalize ((w7.alloc (.cells (trC 0 rf0) 46)).setRow w7.heap.size (trC 0 rf0)) = w8 at *
  generalize w7.heap.size = yb at *
  refine (hHt.out _).mono ?_
  rintro e _ ⟨rfl, rfl⟩
  go_wp2_with (first
    | (refine wpList_load_rowg (by rfl) 38 _ (by rfl) (w.heap.size + 1) (by rfl) 38 (va 256 (iv .u8 f)) (0, 0) _ (by exact k8) Tryz.underlying38 (by rfl) (sizeBk.trans (by rw [va_size])) ?_; simp only [Act.put, List.setIfInBounds_toArray, List.set_cons_zero, List.set_cons_succ])
    | fail)
  refine (hSe.out _ _ _).mono ?_
  rintro e w9 ⟨rfl, hb9⟩
  have t9 := t8.below hb9 t8.lt
  have HB9 : Hid (Below w.heap.size w w9) := HB8.out.trans (hb9.mono HB8.out.size)
  clear t8 k8 hb9 HB8
  go_wp2_with fail
  refine (hFi.out _ _).mono ?_
  rintro e _ ⟨rfl, rfl⟩
  go_wp2_with (first
    | (refine wpList_load_rowg (by rfl) 46 _ (by rfl) (w.heap.size) (by rfl) 46 (trC h R) (0, 0) _ (by exact t9) Tryz.underlying46 (by rfl) (sizeTr.trans (by rw [trC_size])) ?_; simp only [Act.put, List.setIfInBounds_toArray, List.set_cons_zero, List.set_cons_succ])
    | fail)
  refine (hSt.out _ _ _).mono ?_
  rintro e wA ⟨rfl, hbA⟩
  have HBA : Hid (Below w.heap.size w wA) := HB9.out.trans (hbA.mono HB9.out.size)
  clear t9 hbA HB9
  go_wp2_with fail
  refine (hSg.out _).mono ?_
  rintro e wB ⟨rfl, hbB⟩
  have HBB : Hid (Below w.heap.size w wB) := HBA.out.trans (hbB.mono HBA.out.size)
  clear hbB HBA
  go_wp2_with fail
  refine (hTo.out _).mono ?_
  rintro e _ ⟨rfl, rfl⟩
  go_wp2_with fail
  refine (hCl.out _).mono ?_
  rintro e _ ⟨rfl, rfl⟩
  go_wp2_with fail
  go_ret
  exact ⟨rfl, HBB.out⟩
end Go.Proofs.YtjengejepcmgiaaGreat
