/- The walk of the statement on nil inodes and a nil take. -/
import Derived.Test.YtbcgpiocigjkoaaGreatHInsNil
import Derived.Deep.DeepCutAuto
import Derived.Deep.Cut
import Derived.Handy

namespace Go.Proofs.YtbcgpiocigjkoaaGreat
open Go Go.RowKit
set_option linter.unusedSimpArgs false
set_option linter.unusedVariables false
theorem eq_info0 (w : World) : (Op.equalIn 10000 54 (.agg #[.int .i64 0, .int .i64 0, .int .i64 0, .int .i64 0, .int .u64 0]) (.agg #[.int .i64 0, .int .i64 0, .int .i64 0, .int .i64 0, .int .u64 0])).run Tryz.prog w = .ok true w := by
  have h1 : ∀ (d : Nat) (x y : Int), (Op.equalIn (d + 1) 3 (.int .i64 x) (.int .i64 y)).run Tryz.prog w = .ok (x == y) w := fun d x y => by simp [Op.equalIn, run_underlying Tryz.underlying3]
  have h2 : ∀ (d : Nat) (x y : Int), (Op.equalIn (d + 1) 45 (.int .u64 x) (.int .u64 y)).run Tryz.prog w = .ok (x == y) w := fun d x y => by simp [Op.equalIn, run_underlying Tryz.underlying45]
  have hu : Tryz.prog.underlying 54 = some (.struct (Tryz.prog.fieldsOf 54)) := by kernel_rfl
  have hp : Tryz.prog.stoodInHeld 54 = false := by kernel_rfl
  have hf : (Tryz.prog.fieldsOf 54).toList.map (fun f => (f.name == "_", f.type, f.offset)) = [(false, 3, 0), (false, 3, 1), (false, 3, 2), (false, 3, 3), (false, 45, 4)] := by kernel_rfl
  have p0 : (part 3 #[.int .i64 0, .int .i64 0, .int .i64 0, .int .i64 0, .int .u64 0] 0).run Tryz.prog w = .ok (.int .i64 0) w := by simp [part, isAgg, run_underlying Tryz.underlying3]
  have p1 : (part 3 #[.int .i64 0, .int .i64 0, .int .i64 0, .int .i64 0, .int .u64 0] 1).run Tryz.prog w = .ok (.int .i64 0) w := by simp [part, isAgg, run_underlying Tryz.underlying3]
  have p2 : (part 3 #[.int .i64 0, .int .i64 0, .int .i64 0, .int .i64 0, .int .u64 0] 2).run Tryz.prog w = .ok (.int .i64 0) w := by simp [part, isAgg, run_underlying Tryz.underlying3]
  have p3 : (part 3 #[.int .i64 0, .int .i64 0, .int .i64 0, .int .i64 0, .int .u64 0] 3).run Tryz.prog w = .ok (.int .i64 0) w := by simp [part, isAgg, run_underlying Tryz.underlying3]
  have p4 : (part 45 #[.int .i64 0, .int .i64 0, .int .i64 0, .int .i64 0, .int .u64 0] 4).run Tryz.prog w = .ok (.int .u64 0) w := by simp [part, isAgg, run_underlying Tryz.underlying45]
  exact run_eq_five (d := 9999) hu hp hf p0 p0 p1 p1 p2 p2 p3 p3 p4 p4 (h1 9998 _ _) (h1 9998 _ _) (h1 9998 _ _) (h1 9998 _ _) (h2 9998 _ _)
set_option maxRecDepth 100000 in
set_option maxHeartbeats 16000000 in
theorem inodesNilLaw (k n a f t : Int) (w : World) : Calls Tryz.prog 4 #[.agg #[.int .i64 k, .int .i64 n, .int .i64 a, .int .u8 f, .int .u64 t]] w fun e w' => e = .returned (.bool true) ∧ Below w.heap.size w w' := by
  have hz := zero_bk
  have hz2 := zero_ou
  have hz3 := zero_st
  have HHI : Hid (∀ (w : World), Calls Tryz.prog 12 #[.pointer none] w fun e w' => e = .returned (.tuple #[.int .i64 0, .int .i64 0]) ∧ Below w.heap.size w w') := high_nil
  have HNE : Hid (∀ (w : World), Calls Tryz.prog 13 #[.pointer none] w fun e w' => e = .returned (.tuple #[.int .i64 0, .int .i64 0]) ∧ Below w.heap.size w w') := new_nil
  have HAL : Hid (∀ (w : World), Calls Tryz.prog 14 #[.pointer none] w fun e w' => e = .returned (.tuple #[.slice none 0 0, .int .i64 0]) ∧ Below w.heap.size w w') := all_nil
  have HGE : Hid (∀ (w : World), Calls Tryz.prog 15 #[.pointer none, .int .i64 n] w fun e w' => e = .returned (.tuple #[.agg #[.int .i64 0, .int .i64 0, .int .i64 0, .int .i64 0, .int .u64 0], .int .i64 1]) ∧ Below w.heap.size w w') := get_nil n
  have HLE : Hid (∀ (w : World), Calls Tryz.prog 16 #[.pointer none, .int .i64 n, .int .i64 a] w fun e w' => e = .returned (.tuple #[.agg (va 256 (iv .u8 fun _ => 0)), .int .i64 1]) ∧ Below w.heap.size w w') := leaf_nil n a
  have HMA : Hid (∀ (w : World), Calls Tryz.prog 17 #[.pointer none, .int .i64 a, .int .u64 t] w fun e w' => e = .returned (.tuple #[.int .i64 0, .int .i64 1]) ∧ Below w.heap.size w w') := make_nil a t
  have HOU : Hid (∀ (q : Nat) (w : World), Calls Tryz.prog 18 #[.pointer none, .func (.func q) #[] #[]] w fun e w' => e = .returned (.tuple #[.agg ou0, .int .i64 1]) ∧ Below w.heap.size w w') := out_nil
  have HON : Hid (∀ (x : Nat) (w : World), Calls Tryz.prog 18 #[.pointer (some ⟨x, 0, none⟩), .nilFunc] w fun e w' => e = .returned (.tuple #[.agg ou0, .int .i64 1]) ∧ Below w.heap.size w w') := out_none
  have HLI : Hid (∀ (w : World), Calls Tryz.prog 21 #[.pointer none, .int .i64 n, .int .i64 a, .int .u64 1] w fun e w' => e = .returned (.int .i64 1) ∧ Below w.heap.size w w') := links_nil n a 1
  have HRE : Hid (∀ (w : World), Calls Tryz.prog 22 #[.pointer none, .int .i64 n, .int .i64 a, .int .u64 1] w fun e w' => e = .returned (.int .i64 1) ∧ Below w.heap.size w w') := resize_nil n a 1
  have HDR : Hid (∀ (w : World), Calls Tryz.prog 23 #[.pointer none, .int .i64 n] w fun e w' => e = .returned (.int .i64 1) ∧ Below w.heap.size w w') := drop_nil n
  have HSE : Hid (∀ (w : World), Calls Tryz.prog 24 #[.pointer none, .int .i64 n, .int .i64 a, .agg (va 256 (iv .u8 fun _ => 0)), .int .u64 1] w fun e w' => e = .returned (.int .i64 1) ∧ Below w.heap.size w w') := set_nil n a 1 _
  have HTO : Hid (∀ (w : World), Calls Tryz.prog 25 #[.pointer none, .int .i64 n, .int .u64 1] w fun e w' => e = .returned (.int .i64 1) ∧ Below w.heap.size w w') := touch_nil n 1
  have HCL : Hid (∀ (w : World), Calls Tryz.prog 26 #[.pointer none] w fun e w' => e = .returned (.pointer none) ∧ Below w.heap.size w w') := clone_nil
  have HAW : Hid (∀ (w : World), Calls Tryz.prog 11 #[] w fun e w' => e = .returned (.bool true) ∧ Below w.heap.size w w') := awake15_any
  have HBG : Hid (∀ w : World, Calls Tryz.prog 20 #[.int .i64 0, .pointer none] w fun e w' => ∃ d x a b, e = .returned (.tuple #[.agg (stC (some ⟨d, 0, none⟩) (some ⟨x, 0, none⟩) (some a) (some b) 1 0 none), .bool true]) ∧ Below w.heap.size w w') := fun w => (begun_0 w).mono fun e w' ⟨d, x, a, b, _, _, _, h1, _, h2⟩ => ⟨d, x, a, b, h1, h2⟩
  have hb1 : Below w.heap.size w (w.alloc (.cells #[.int .i64 k, .int .i64 n, .int .i64 a, .int .u8 f, .int .u64 t] 47)) := below_new1 _ _
  have k1 : Blk (w.alloc (.cells #[.int .i64 k, .int .i64 n, .int .i64 a, .int .u8 f, .int .u64 t] 47)) w.heap.size 47 #[.int .i64 k, .int .i64 n, .int .i64 a, .int .u8 f, .int .u64 t] := Blk.new _ _ _
  go_enter Tryz.func4, Tryz.ntmps4
  go_wp2_with fail
  generalize (w.alloc (.cells #[.int .i64 k, .int .i64 n, .int .i64 a, .int .u8 f, .int .u64 t] 47)) = w1 at *
  refine (HHI.out w1).mono ?_
  rintro e w2 ⟨rfl, hb2'⟩
  have k2 := k1.below hb2' k1.lt
  have hb2 := hb1.trans (hb2'.mono hb1.size)
  clear k1 hb1 hb2'
  go_wp2_with fail
  refine (HNE.out w2).mono ?_
  rintro e w3 ⟨rfl, hb3'⟩
  have k3 := k2.below hb3' k2.lt
  have hb3 := hb2.trans (hb3'.mono hb2.size)
  clear k2 hb2 hb3'
  go_wp2_with fail
  refine (HAL.out w3).mono ?_
  rintro e w4 ⟨rfl, hb4'⟩
  have k4 := k3.below hb4' k3.lt
  have hb4 := hb3.trans (hb4'.mono hb3.size)
  clear k3 hb3 hb4'
  have n4 : w4.cell? ⟨w.heap.size, 1, none⟩ = some (.int .i64 n) := (k4.cell 1).trans rfl
  have a4 : w4.cell? ⟨w.heap.size, 2, none⟩ = some (.int .i64 a) := (k4.cell 2).trans rfl
  have t4 : w4.cell? ⟨w.heap.size, 4, none⟩ = some (.int .u64 t) := (k4.cell 4).trans rfl
  go_wp2_with fail
  refine (HGE.out w4).mono ?_
  rintro e w5 ⟨rfl, hb5'⟩
  have k5 := k4.below hb5' k4.lt
  have hb5 := hb4.trans (hb5'.mono hb4.size)
  clear k4 hb4 hb5'
  clear n4 a4 t4
  have q_ : Blk (w5.alloc (.cells (#[.int .i64 0, .int .i64 0, .int .i64 0, .int .i64 0, .int .u64 0]) 54)) w5.heap.size 54 (#[.int .i64 0, .int .i64 0, .int .i64 0, .int .i64 0, .int .u64 0]) := Blk.new _ _ _
  have iN := q_
  have hx_ : Below w5.heap.size w5 (w5.alloc (.cells (#[.int .i64 0, .int .i64 0, .int .i64 0, .int .i64 0, .int .u64 0]) 54)) := below_new1 _ _
  have k6 := k5.below hx_ k5.lt
  have hb6 := hb5.trans (hx_.mono hb5.size)
  clear k5 hb5 hx_
  have i6 := iN
  clear iN
  have n_ : (w5.alloc (.cells (#[.int .i64 0, .int .i64 0, .int .i64 0, .int .i64 0, .int .u64 0]) 54)).cell? ⟨w.heap.size, 1, none⟩ = some (.int .i64 n) := (k6.cell 1).trans rfl
  have a_ : (w5.alloc (.cells (#[.int .i64 0, .int .i64 0, .int .i64 0, .int .i64 0, .int .u64 0]) 54)).cell? ⟨w.heap.size, 2, none⟩ = some (.int .i64 a) := (k6.cell 2).trans rfl
  go_wp2_with fail
  clear q_ n_ a_
  generalize (w5.alloc (.cells (#[.int .i64 0, .int .i64 0, .int .i64 0, .int .i64 0, .int .u64 0]) 54)) = w6 at *
  generalize w5.heap.size = bi at *
  refine (HLE.out w6).mono ?_
  rintro e w7 ⟨rfl, hx_⟩
  have k7 := k6.below hx_ k6.lt
  have i7 := i6.below hx_ i6.lt
  have hb7 := hb6.trans (hx_.mono hb6.size)
  clear k6 i6 hb6 hx_
  have q_ : Blk (w7.alloc (.cells (va 256 (iv .u8 fun _ => 0)) 58)) w7.heap.size 58 (va 256 (iv .u8 fun _ => 0)) := Blk.new _ _ _
  have lN := q_.set (va 256 (iv .u8 fun _ => 0))
  have hx_ : Below w7.heap.size w7 ((w7.alloc (.cells (va 256 (iv .u8 fun _ => 0)) 58)).setRow w7.heap.size (va 256 (iv .u8 fun _ => 0))) := below_setRow (below_new1 _ _) (Nat.le_refl _) _
  have k8 := k7.below hx_ k7.lt
  have i8 := i7.below hx_ i7.lt
  have hb8 := hb7.trans (hx_.mono hb7.size)
  clear k7 i7 hb7 hx_
  have l8 := lN
  clear lN
  have a_ : ((w7.alloc (.cells (va 256 (iv .u8 fun _ => 0)) 58)).setRow w7.heap.size (va 256 (iv .u8 fun _ => 0))).cell? ⟨w.heap.size, 2, none⟩ = some (.int .i64 a) := (k8.cell 2).trans rfl
  have t_ : ((w7.alloc (.cells (va 256 (iv .u8 fun _ => 0)) 58)).setRow w7.heap.size (va 256 (iv .u8 fun _ => 0))).cell? ⟨w.heap.size, 4, none⟩ = some (.int .u64 t) := (k8.cell 4).trans rfl
  go_wp2_with (first
    | (refine wpList_store_row (by rfl) 58 _ _ (by rfl) (w7.heap.size) (va 256 (iv .u8 fun _ => 0)) (by rfl) (by rfl) 58 (va 256 (iv .u8 fun _ => 0)) (by exact q_) (sizeBk.trans (by rw [va_size])) (by simp only [va_size]) (iv_one _ _ _) ?_; simp only [Act.put, List.setIfInBounds_toArray, List.set_cons_zero, List.set_cons_succ])
    | fail)
  clear q_ a_ t_
  generalize ((w7.alloc (.cells (va 256 (iv .u8 fun _ => 0)) 58)).setRow w7.heap.size (va 256 (iv .u8 fun _ => 0))) = w8 at *
  generalize w7.heap.size = bl at *
  refine (HMA.out w8).mono ?_
  rintro e w9 ⟨rfl, hx_⟩
  have k9 := k8.below hx_ k8.lt
  have i9 := i8.below hx_ i8.lt
  have l9 := l8.below hx_ l8.lt
  have hb9 := hb8.trans (hx_.mono hb8.size)
  clear k8 i8 l8 hb8 hx_
  go_wp2_with fail
  refine (HOU.out _ w9).mono ?_
  rintro e w10 ⟨rfl, hx_⟩
  have k10 := k9.below hx_ k9.lt
  have i10 := i9.below hx_ i9.lt
  have l10 := l9.below hx_ l9.lt
  have hb10 := hb9.trans (hx_.mono hb9.size)
  clear k9 i9 l9 hb9 hx_
  have q_ : Blk (w10.alloc (.cells (ou0) 65)) w10.heap.size 65 (ou0) := Blk.new _ _ _
  have uN := q_.set (ou0)
  have hx_ : Below w10.heap.size w10 ((w10.alloc (.cells (ou0) 65)).setRow w10.heap.size (ou0)) := below_setRow (below_new1 _ _) (Nat.le_refl _) _
  have k11 := k10.below hx_ k10.lt
  have i11 := i10.below hx_ i10.lt
  have l11 := l10.below hx_ l10.lt
  have hb11 := hb10.trans (hx_.mono hb10.size)
  clear k10 i10 l10 hb10 hx_
  have u11 := uN
  clear uN
  go_wp2_with (first
    | (refine wpList_store_row (by rfl) 65 _ _ (by rfl) (w10.heap.size) (ou0) (by rfl) (by rfl) 65 (ou0) (by exact q_) (sizeOu.trans (by rw [ou0_size])) (by simp only [ou0_size]) (ou0_all) ?_; simp only [Act.put, List.setIfInBounds_toArray, List.set_cons_zero, List.set_cons_succ])
    | fail)
  clear q_ 
  generalize ((w10.alloc (.cells (ou0) 65)).setRow w10.heap.size (ou0)) = w11 at *
  generalize w10.heap.size = bu at *
  refine (HBG.out w11).mono ?_
  rintro e w12 ⟨d, x, sa, sb, rfl, hx_⟩
  have k12 := k11.below hx_ k11.lt
  have i12 := i11.below hx_ i11.lt
  have l12 := l11.below hx_ l11.lt
  have hb12 := hb11.trans (hx_.mono hb11.size)
  clear k11 i11 l11 hb11 hx_
  have q_ : Blk (w12.alloc (.cells (stC none none none none 0 0 none) 74)) w12.heap.size 74 (stC none none none none 0 0 none) := Blk.new _ _ _
  have sN := q_.set (stC (some ⟨d, 0, none⟩) (some ⟨x, 0, none⟩) (some sa) (some sb) 1 0 none)
  have hx_ : Below w12.heap.size w12 ((w12.alloc (.cells (stC none none none none 0 0 none) 74)).setRow w12.heap.size (stC (some ⟨d, 0, none⟩) (some ⟨x, 0, none⟩) (some sa) (some sb) 1 0 none)) := below_setRow (below_new1 _ _) (Nat.le_refl _) _
  have k13 := k12.below hx_ k12.lt
  have i13 := i12.below hx_ i12.lt
  have l13 := l12.below hx_ l12.lt
  have hb13 := hb12.trans (hx_.mono hb12.size)
  clear k12 i12 l12 hb12 hx_
  have s13 := sN
  clear sN
  go_wp2_with (first
    | (refine wpList_store_row (by rfl) 74 _ _ (by rfl) (w12.heap.size) (stC (some ⟨d, 0, none⟩) (some ⟨x, 0, none⟩) (some sa) (some sb) 1 0 none) (by rfl) (by rfl) 74 (stC none none none none 0 0 none) (by exact q_) (sizeSt.trans (by rw [stC_size])) (by simp only [stC_size]) (stC_all _ _ _ _ _ _ _) ?_; simp only [Act.put, List.setIfInBounds_toArray, List.set_cons_zero, List.set_cons_succ])
    | fail)
  clear q_ 
  generalize ((w12.alloc (.cells (stC none none none none 0 0 none) 74)).setRow w12.heap.size (stC (some ⟨d, 0, none⟩) (some ⟨x, 0, none⟩) (some sa) (some sb) 1 0 none)) = w13 at *
  generalize w12.heap.size = bs at *
  refine (HAW.out w13).mono ?_
  rintro e w14 ⟨rfl, hx_⟩
  have k14 := k13.below hx_ k13.lt
  have i14 := i13.below hx_ i13.lt
  have l14 := l13.below hx_ l13.lt
  have s14 := s13.below hx_ s13.lt
  have hb14 := hb13.trans (hx_.mono hb13.size)
  clear k13 i13 l13 s13 hb13 hx_
  have x_ := st_c1 s14
  go_wp2_with fail
  clear x_
  refine (HON.out _ w14).mono ?_
  rintro e w15 ⟨rfl, hx_⟩
  have k15 := k14.below hx_ k14.lt
  have i15 := i14.below hx_ i14.lt
  have l15 := l14.below hx_ l14.lt
  have s15 := s14.below hx_ s14.lt
  have hb15 := hb14.trans (hx_.mono hb14.size)
  clear k14 i14 l14 s14 hb14 hx_
  clear s15
  have q_ : Blk (w15.alloc (.cells ou0 65)) w15.heap.size 65 ou0 := Blk.new _ _ _
  have hx_ : Below w15.heap.size w15 ((w15.alloc (.cells ou0 65)).setRow w15.heap.size ou0) := below_setRow (below_new1 _ _) (Nat.le_refl _) _
  have k16 := k15.below hx_ k15.lt
  have i16 := i15.below hx_ i15.lt
  have l16 := l15.below hx_ l15.lt
  have hb16 := hb15.trans (hx_.mono hb15.size)
  clear k15 i15 l15 hb15 hx_
  go_upto_region 13 with (first
    | (refine wpList_store_row (by rfl) 65 _ _ (by rfl) (w15.heap.size) (ou0) (by rfl) (by rfl) 65 (ou0) (by exact q_) (sizeOu.trans (by rw [ou0_size])) (by simp only [ou0_size]) (ou0_all) ?_; simp only [Act.put, List.setIfInBounds_toArray, List.set_cons_zero, List.set_cons_succ])
    | fail)
  clear q_
  generalize ((w15.alloc (.cells ou0 65)).setRow w15.heap.size ou0) = w16 at *
  have hei := eq_info0
  have hbe : ∀ w, (Op.equalIn 10000 58 (.agg (va 256 (iv .u8 fun _ => 0))) (.agg (va 256 (iv .u8 fun _ => 0)))).run Tryz.prog w = .ok true w := fun w => by
    have := eq_bk 58 Tryz.underlying58 (fun _ => 0) (fun _ => 0) w
    rw [decide_eq_true (fun _ _ => rfl)] at this
    exact this
  have i0 : w16.cell? ⟨bi, 0, none⟩ = some (.int .i64 0) := (i16.cell 0).trans rfl
  have i1 : w16.cell? ⟨bi, 1, none⟩ = some (.int .i64 0) := (i16.cell 1).trans rfl
  have i2 : w16.cell? ⟨bi, 2, none⟩ = some (.int .i64 0) := (i16.cell 2).trans rfl
  have i3 : w16.cell? ⟨bi, 3, none⟩ = some (.int .i64 0) := (i16.cell 3).trans rfl
  have i4 : w16.cell? ⟨bi, 4, none⟩ = some (.int .u64 0) := (i16.cell 4).trans rfl
  have n_ : w16.cell? ⟨w.heap.size, 1, none⟩ = some (.int .i64 n) := (k16.cell 1).trans rfl
  have a_ : w16.cell? ⟨w.heap.size, 2, none⟩ = some (.int .i64 a) := (k16.cell 2).trans rfl
  go_wp2_with (first
    | (refine wpList_load_rowg (by rfl) 58 _ (by rfl) (bl) (by rfl) 58 (va 256 (iv .u8 fun _ => 0)) (0, 0) _ (by exact l16) Tryz.underlying58 (by rfl) (sizeBk.trans (by rw [va_size])) ?_; simp only [Act.put, List.setIfInBounds_toArray, List.set_cons_zero, List.set_cons_succ])
    | (refine wpList_build_at (by rfl) 58 _ (by rfl) ([]) (by rfl) (va 256 (iv .u8 fun _ => 0)) (by exact built_bk0) ?_; simp only [Act.put, List.setIfInBounds_toArray, List.set_cons_zero, List.set_cons_succ])
    | fail)
  clear n_ a_ i0 i1 i2 i3 i4 hei hbe
  refine (HLI.out w16).mono ?_
  rintro e w17 ⟨rfl, hx_⟩
  have k17 := k16.below hx_ k16.lt
  have i17 := i16.below hx_ i16.lt
  have l17 := l16.below hx_ l16.lt
  have hb17 := hb16.trans (hx_.mono hb16.size)
  clear k16 i16 l16 hb16 hx_
  have n_ : w17.cell? ⟨w.heap.size, 1, none⟩ = some (.int .i64 n) := (k17.cell 1).trans rfl
  have a_ : w17.cell? ⟨w.heap.size, 2, none⟩ = some (.int .i64 a) := (k17.cell 2).trans rfl
  go_wp2_with fail
  clear n_ a_
  refine (HRE.out w17).mono ?_
  rintro e w18 ⟨rfl, hx_⟩
  have k18 := k17.below hx_ k17.lt
  have i18 := i17.below hx_ i17.lt
  have l18 := l17.below hx_ l17.lt
  have hb18 := hb17.trans (hx_.mono hb17.size)
  clear k17 i17 l17 hb17 hx_
  have n_ : w18.cell? ⟨w.heap.size, 1, none⟩ = some (.int .i64 n) := (k18.cell 1).trans rfl
  go_wp2_with fail
  clear n_
  refine (HDR.out w18).mono ?_
  rintro e w19 ⟨rfl, hx_⟩
  have k19 := k18.below hx_ k18.lt
  have i19 := i18.below hx_ i18.lt
  have l19 := l18.below hx_ l18.lt
  have hb19 := hb18.trans (hx_.mono hb18.size)
  clear k18 i18 l18 hb18 hx_
  have n_ : w19.cell? ⟨w.heap.size, 1, none⟩ = some (.int .i64 n) := (k19.cell 1).trans rfl
  have a_ : w19.cell? ⟨w.heap.size, 2, none⟩ = some (.int .i64 a) := (k19.cell 2).trans rfl
  go_wp2_with (first
    | (refine wpList_load_rowg (by rfl) 58 _ (by rfl) (bl) (by rfl) 58 (va 256 (iv .u8 fun _ => 0)) (0, 0) _ (by exact l19) Tryz.underlying58 (by rfl) (sizeBk.trans (by rw [va_size])) ?_; simp only [Act.put, List.setIfInBounds_toArray, List.set_cons_zero, List.set_cons_succ])
    | fail)
  clear n_ a_
  refine (HSE.out w19).mono ?_
  rintro e w20 ⟨rfl, hx_⟩
  have k20 := k19.below hx_ k19.lt
  have i20 := i19.below hx_ i19.lt
  have l20 := l19.below hx_ l19.lt
  have hb20 := hb19.trans (hx_.mono hb19.size)
  clear k19 i19 l19 hb19 hx_
  have n_ : w20.cell? ⟨w.heap.size, 1, none⟩ = some (.int .i64 n) := (k20.cell 1).trans rfl
  go_wp2_with fail
  clear n_
  refine (HTO.out w20).mono ?_
  rintro e w21 ⟨rfl, hx_⟩
  have k21 := k20.below hx_ k20.lt
  have i21 := i20.below hx_ i20.lt
  have l21 := l20.below hx_ l20.lt
  have hb21 := hb20.trans (hx_.mono hb20.size)
  clear k20 i20 l20 hb20 hx_
  go_wp2_with fail
  refine (HCL.out w21).mono ?_
  rintro e w22 ⟨rfl, hx_⟩
  have k22 := k21.below hx_ k21.lt
  have i22 := i21.below hx_ i21.lt
  have l22 := l21.below hx_ l21.lt
  have hb22 := hb21.trans (hx_.mono hb21.size)
  clear k21 i21 l21 hb21 hx_
  go_wp2_with fail
  go_ret
  exact ⟨rfl, hb22⟩
end Go.Proofs.YtbcgpiocigjkoaaGreat
