/- The document's leaf of a tree in an image, told as one; what Leaf and Blocks answer together. -/
import Derived.Test.YtjhabngibbmpbaaGreatHTrNew
import Derived.Handy
import Derived.Test.YtjhabngibbmpbaaGreatHTrBlocks

namespace Go.Proofs.YtjhabngibbmpbaaGreat
theorem sgLHTrRLv : (∀ (α : Type) (a : α) (l r : List α), (a :: l) ++ r = a :: (l ++ r)) ∧ (∀ (α : Type) (l : List α), [] ++ l = l) ∧ (∀ (α : Type) (l : List α), l ++ [] = l) ∧ (∀ (α β : Type) (f : α → Option β) (a : α) (l : List α), (a :: l).filterMap f = match f a with | none => l.filterMap f | some b => b :: l.filterMap f) ∧ (∀ (α β : Type) (f : α → Option β), [].filterMap f = []) ∧ (∀ (α : Type) (l : List α) (i : Nat), l.toArray[i]? = l[i]?) ∧ (∀ (α : Type) (a : α) (l : List α), (a :: l)[0]? = some a) ∧ (∀ (α : Type) (a : α) (l : List α) (i : Nat), (a :: l)[i + 1]? = l[i]?) :=
  ⟨fun _ _ _ _ => List.cons_append, fun _ _ => List.nil_append _, fun _ _ => List.append_nil _, fun _ _ _ _ _ => List.filterMap_cons, fun _ _ _ => List.filterMap_nil, fun _ _ _ => List.getElem?_toArray, fun _ _ _ => List.getElem?_cons_zero, fun _ _ _ _ => List.getElem?_cons_succ⟩
theorem sgPHTrRLv : (∀ (α : Type) (l : List α) (i : Nat) (a : α), l.toArray.setIfInBounds i a = (l.set i a).toArray) ∧ (∀ (α : Type) (a b : α) (l : List α), (a :: l).set 0 b = b :: l) ∧ (∀ (α : Type) (a b : α) (l : List α) (i : Nat), (a :: l).set (i + 1) b = a :: l.set i b) :=
  ⟨fun _ _ _ _ => List.setIfInBounds_toArray _ _ _, fun _ _ _ _ => List.set_cons_zero, fun _ _ _ _ _ => List.set_cons_succ⟩
end Go.Proofs.YtjhabngibbmpbaaGreat
namespace Go.Proofs.YtjhabngibbmpbaaGreat
open Go Go.RowKit
set_option linter.unusedSimpArgs false
set_option linter.unusedVariables false

section
variable {F : Nat → Nat} {N : Nat}
set_option maxRecDepth 100000 in
set_option maxHeartbeats 4000000 in
theorem rleaf_err (h : Int) (R : Rf) (q : Nat) (a1 : Rf) (a2 : Int) (bl : List (Nat → Nat)) (hlen : bl.length ≤ 6) (ha1 : a1.1 < 4294967296) (h2 : a2 ≠ 0) (a0 : Option Addr) (cap : Nat) (hN : N ≤ 8192) (hDown : ∀ w, (IsBlks w a0 N fun i => blkAt F i) → Calls Tryz.prog 20 #[.slice a0 N cap, .agg (trC h R), .int .i64 0, .int .i64 (q : Int)] w fun x w' => ∃ a c nn, x = .returned (.tuple #[.agg (rfC a1), .slice a nn c, .int .i64 a2]) ∧ (a2 = 0 → nn = bl.length ∧ w'.ownsRow w.heap.size 37 256 (.slice a bl.length c) bl.length (bkL bl)) ∧ Below w.heap.size w w') (w : World) (H : IsBlks w a0 N fun i => blkAt F i) : Calls Tryz.prog 18 #[.slice a0 N cap, .agg (trC h R), .int .i64 (q : Int)] w fun x w' => ∃ a c nn, x = .returned (.tuple #[.agg (va 256 (iv .u8 (fun _ => 0))), .slice a nn c, .int .i64 a2]) ∧ (a2 = (0 : Int) → nn = (bl).length ∧ w'.ownsRow w.heap.size 37 256 (.slice a (bl).length c) (bl).length (bkL (bl))) ∧ Below w.heap.size w w' := by
  obtain ⟨i0, hi, hz0, hz1, hz2⟩ := info_parts rinfoBk
  have hz := rzero_bk
  have hzr := zero_rref
  have hb1 : Below w.heap.size w ((w.alloc (.cells (trC h R) 33)).alloc (.cells (va 256 (iv .u8 fun _ => 0)) 37)) := below_new2 _ _ _
  have t1 : Blk ((w.alloc (.cells (trC h R) 33)).alloc (.cells (va 256 (iv .u8 fun _ => 0)) 37)) w.heap.size 33 (trC h R) := (Blk.new _ _ _).alloc _
  have k1 : Blk ((w.alloc (.cells (trC h R) 33)).alloc (.cells (va 256 (iv .u8 fun _ => 0)) 37)) (w.heap.size + 1) 37 (va 256 (iv .u8 fun _ => 0)) := Blk.new1 _ _ _ _
  have HI1 : Hid (IsBlks ((w.alloc (.cells (trC h R) 33)).alloc (.cells (va 256 (iv .u8 fun _ => 0)) 37)) a0 N fun i => blkAt F i) := H.below hb1
  have HDn : Hid (∀ w, (IsBlks w a0 N fun i => blkAt F i) → Calls Tryz.prog 20 #[.slice a0 N cap, .agg (trC h R), .int .i64 0, .int .i64 (q : Int)] w fun x w' => ∃ a c nn, x = .returned (.tuple #[.agg (rfC a1), .slice a nn c, .int .i64 a2]) ∧ (a2 = 0 → nn = bl.length ∧ w'.ownsRow w.heap.size 37 256 (.slice a bl.length c) bl.length (bkL bl)) ∧ Below w.heap.size w w') := hDown
  have hne2 : (a2 != 0) = true := by simp [h2]
  have hne3 : decide (a2 = 0) = false := decide_eq_false h2
  clear hDown ha1 hN H
  go_enter Tryz.func18, Tryz.ntmps18
  go_wp2_with (first
    | (refine wpList_load_rowg (by rfl) 33 _ (by rfl) (w.heap.size) (by rfl) 33 (trC h R) (0, 0) _ (by exact t1) Tryz.underlying33 (by rfl) (rsizeTr.trans (by rw [trC_size])) ?_; simp only [Act.put, sgPHTrRLv])
    | fail)
  generalize ((w.alloc (.cells (trC h R) 33)).alloc (.cells (va 256 (iv .u8 fun _ => 0)) 37)) = w1 at *
  refine (HDn.out w1 HI1.out).mono ?_
  rintro x w2 ⟨a, c, nn, rfl, hown2, hb2⟩
  have k2 := k1.below hb2 k1.lt
  have hb12 := hb1.trans (hb2.mono hb1.size)
  have q0 := Blk.new w2 31 (rfC rf0)
  have r3 := q0.set (rfC a1)
  have hb3 : Below w2.heap.size w2 ((w2.alloc (.cells (rfC rf0) 31)).setRow w2.heap.size (rfC a1)) := below_setRow (below_new1 _ _) (Nat.le_refl _) _
  have k3 := k2.below hb3 k2.lt
  have hb13 := hb12.trans (hb3.mono hb12.size)
  clear hb2 hb3 hb12 t1 k1 k2 HI1
  go_wp2_with (first
    | (refine wpList_store_row (by rfl) 31 _ _ (by rfl) (w2.heap.size) (rfC a1) (by rfl) (by rfl) 31 (_) (by exact q0) (rsizeRef.trans (by rw [rfC_size])) (by simp only [rfC_size]) (rfC_all _) ?_; simp only [Act.put, sgPHTrRLv])
    | (refine wpList_store_row (by rfl) 37 _ _ (by rfl) (w.heap.size + 1) (va 256 (iv .u8 (fun _ => 0))) (by rfl) (by rfl) 37 (_) (by exact k3) (rsizeBk.trans (by rw [va_size])) (by simp only [va_size]) (iv_one _ _ _) ?_; simp only [Act.put, sgPHTrRLv])
    | fail)
  try simp only [Exit.inBlock, Exit.then]
  refine bodyPost_ret (results_row_two Tryz.results18 _ _ (w.heap.size + 1) 37 (va 256 (iv .u8 (fun _ => 0))) _ rfl (k3.set _) Tryz.underlying37 rfl (rsizeBk.trans (by rw [va_size]))) rfl ?_
  exact ⟨a, c, nn, rfl, fun u => absurd u h2, below_setRow hb13 (by omega) _⟩
set_option maxRecDepth 100000 in
set_option maxHeartbeats 4000000 in
theorem rleaf_none (h : Int) (R : Rf) (q : Nat) (a1 : Rf) (a2 : Int) (bl : List (Nat → Nat)) (hlen : bl.length ≤ 6) (ha1 : a1.1 < 4294967296) (h2 : a2 = 0) (h1 : a1 = rf0) (a0 : Option Addr) (cap : Nat) (hN : N ≤ 8192) (hDown : ∀ w, (IsBlks w a0 N fun i => blkAt F i) → Calls Tryz.prog 20 #[.slice a0 N cap, .agg (trC h R), .int .i64 0, .int .i64 (q : Int)] w fun x w' => ∃ a c nn, x = .returned (.tuple #[.agg (rfC a1), .slice a nn c, .int .i64 a2]) ∧ (a2 = 0 → nn = bl.length ∧ w'.ownsRow w.heap.size 37 256 (.slice a bl.length c) bl.length (bkL bl)) ∧ Below w.heap.size w w') (w : World) (H : IsBlks w a0 N fun i => blkAt F i) : Calls Tryz.prog 18 #[.slice a0 N cap, .agg (trC h R), .int .i64 (q : Int)] w fun x w' => ∃ a c nn, x = .returned (.tuple #[.agg (va 256 (iv .u8 (fun _ => 0))), .slice a nn c, .int .i64 0]) ∧ (0 = (0 : Int) → nn = (bl).length ∧ w'.ownsRow w.heap.size 37 256 (.slice a (bl).length c) (bl).length (bkL (bl))) ∧ Below w.heap.size w w' := by
  obtain ⟨i0, hi, hz0, hz1, hz2⟩ := info_parts rinfoBk
  have hz := rzero_bk
  have hzr := zero_rref
  have hb1 : Below w.heap.size w ((w.alloc (.cells (trC h R) 33)).alloc (.cells (va 256 (iv .u8 fun _ => 0)) 37)) := below_new2 _ _ _
  have t1 : Blk ((w.alloc (.cells (trC h R) 33)).alloc (.cells (va 256 (iv .u8 fun _ => 0)) 37)) w.heap.size 33 (trC h R) := (Blk.new _ _ _).alloc _
  have k1 : Blk ((w.alloc (.cells (trC h R) 33)).alloc (.cells (va 256 (iv .u8 fun _ => 0)) 37)) (w.heap.size + 1) 37 (va 256 (iv .u8 fun _ => 0)) := Blk.new1 _ _ _ _
  have HI1 : Hid (IsBlks ((w.alloc (.cells (trC h R) 33)).alloc (.cells (va 256 (iv .u8 fun _ => 0)) 37)) a0 N fun i => blkAt F i) := H.below hb1
  have HDn : Hid (∀ w, (IsBlks w a0 N fun i => blkAt F i) → Calls Tryz.prog 20 #[.slice a0 N cap, .agg (trC h R), .int .i64 0, .int .i64 (q : Int)] w fun x w' => ∃ a c nn, x = .returned (.tuple #[.agg (rfC a1), .slice a nn c, .int .i64 a2]) ∧ (a2 = 0 → nn = bl.length ∧ w'.ownsRow w.heap.size 37 256 (.slice a bl.length c) bl.length (bkL bl)) ∧ Below w.heap.size w w') := hDown
  have hNn : Hid (∀ w, Calls Tryz.prog 47 #[.agg (rfC a1)] w fun e w' => e = .returned (.bool true) ∧ Below w.heap.size w w') := fun w => by
    have := rnone_any a1 w
    rw [decide_eq_true h1] at this
    exact this
  subst h2
  clear h1
  clear hDown ha1 hN H
  go_enter Tryz.func18, Tryz.ntmps18
  go_wp2_with (first
    | (refine wpList_load_rowg (by rfl) 33 _ (by rfl) (w.heap.size) (by rfl) 33 (trC h R) (0, 0) _ (by exact t1) Tryz.underlying33 (by rfl) (rsizeTr.trans (by rw [trC_size])) ?_; simp only [Act.put, sgPHTrRLv])
    | fail)
  generalize ((w.alloc (.cells (trC h R) 33)).alloc (.cells (va 256 (iv .u8 fun _ => 0)) 37)) = w1 at *
  refine (HDn.out w1 HI1.out).mono ?_
  rintro x w2 ⟨a, c, nn, rfl, hown2, hb2⟩
  have k2 := k1.below hb2 k1.lt
  have hb12 := hb1.trans (hb2.mono hb1.size)
  have q0 := Blk.new w2 31 (rfC rf0)
  have r3 := q0.set (rfC a1)
  have hb3 : Below w2.heap.size w2 ((w2.alloc (.cells (rfC rf0) 31)).setRow w2.heap.size (rfC a1)) := below_setRow (below_new1 _ _) (Nat.le_refl _) _
  have k3 := k2.below hb3 k2.lt
  have hb13 := hb12.trans (hb3.mono hb12.size)
  obtain ⟨hnn, hown2⟩ := hown2 (by trivial)
  have hown3 := kown_below hown2 hb3
  subst hnn
  have HO3 : Hid (((w2.alloc (.cells (rfC rf0) 31)).setRow w2.heap.size (rfC a1)).ownsRow w1.heap.size 37 256 (.slice a bl.length c) bl.length (bkL bl)) := hown3
  have HI3 : Hid (IsBlks ((w2.alloc (.cells (rfC rf0) 31)).setRow w2.heap.size (rfC a1)) a0 N fun i => blkAt F i) := (HI1.out.below hb2).below (hb3.mono (Nat.le_refl _))
  have HS1 : Hid (w.heap.size + 2 ≤ w1.heap.size) := k1.lt
  have HW13 : Hid (w1.heap.size ≤ ((w2.alloc (.cells (rfC rf0) 31)).setRow w2.heap.size (rfC a1)).heap.size) := Nat.le_trans hb2.size hb3.size
  clear hown2 hown3
  clear hb2 hb3 hb12 t1 k1 k2 HI1
  go_wp2_with (first
    | (refine wpList_store_row (by rfl) 31 _ _ (by rfl) (w2.heap.size) (rfC a1) (by rfl) (by rfl) 31 (_) (by exact q0) (rsizeRef.trans (by rw [rfC_size])) (by simp only [rfC_size]) (rfC_all _) ?_; simp only [Act.put, sgPHTrRLv])
    | (refine wpList_load_rowg (by rfl) 31 _ (by rfl) w2.heap.size (by rfl) 31 (rfC a1) (0, 0) _ (by exact r3) Tryz.underlying31 (by rfl) (rsizeRef.trans (by rw [rfC_size])) ?_; simp only [Act.put, sgPHTrRLv])
    | fail)
  clear q0
  generalize ((w2.alloc (.cells (rfC rf0) 31)).setRow w2.heap.size (rfC a1)) = w3 at *
  generalize w2.heap.size = rb at *
  refine (hNn.out w3).mono ?_
  rintro x w4 ⟨rfl, hb4⟩
  have HW14 : Hid (w1.heap.size ≤ w4.heap.size) := Nat.le_trans HW13.out hb4.size
  have k4 := k3.below hb4 k3.lt
  have r4 := r3.below hb4 r3.lt
  have HO4 : Hid (w4.ownsRow w1.heap.size 37 256 (.slice a bl.length c) bl.length (bkL bl)) := kown_below HO3.out hb4
  have HI4 : Hid (IsBlks w4 a0 N fun i => blkAt F i) := HI3.out.below hb4
  have hb14 := hb13.trans (hb4.mono hb13.size)
  clear hb4 k3 r3 HO3 HI3 hb13
  go_wp2_with (first
    | (refine wpList_store_row (by rfl) 37 _ _ (by rfl) (w.heap.size + 1) (va 256 (iv .u8 (fun _ => 0))) (by rfl) (by rfl) 37 (_) (by exact k4) (rsizeBk.trans (by rw [va_size])) (by simp only [va_size]) (iv_one _ _ _) ?_; simp only [Act.put, sgPHTrRLv])
    | fail)
  try simp only [Exit.inBlock, Exit.then]
  refine bodyPost_ret (results_row_two Tryz.results18 _ _ (w.heap.size + 1) 37 (va 256 (iv .u8 (fun _ => 0))) _ rfl (k4.set _) Tryz.underlying37 rfl (rsizeBk.trans (by rw [va_size]))) rfl ?_
  have hs1 := HS1.out
  exact ⟨a, c, _, rfl, fun _ => ⟨rfl, kown_mono (kown_setRow HO4.out (g := w.heap.size + 1) (fun z hz _ => (by omega : z ≠ w.heap.size + 1)) _) (by omega)⟩, below_setRow hb14 (by omega) _⟩
set_option maxRecDepth 100000 in
set_option maxHeartbeats 4000000 in
theorem rleaf_bad (h : Int) (R : Rf) (q : Nat) (a1 : Rf) (a2 : Int) (bl : List (Nat → Nat)) (hlen : bl.length ≤ 6) (ha1 : a1.1 < 4294967296) (h2 : a2 = 0) (h1 : a1 ≠ rf0) (hg : gotE F N a1 = 2) (a0 : Option Addr) (cap : Nat) (hN : N ≤ 8192) (hDown : ∀ w, (IsBlks w a0 N fun i => blkAt F i) → Calls Tryz.prog 20 #[.slice a0 N cap, .agg (trC h R), .int .i64 0, .int .i64 (q : Int)] w fun x w' => ∃ a c nn, x = .returned (.tuple #[.agg (rfC a1), .slice a nn c, .int .i64 a2]) ∧ (a2 = 0 → nn = bl.length ∧ w'.ownsRow w.heap.size 37 256 (.slice a bl.length c) bl.length (bkL bl)) ∧ Below w.heap.size w w') (w : World) (H : IsBlks w a0 N fun i => blkAt F i) : Calls Tryz.prog 18 #[.slice a0 N cap, .agg (trC h R), .int .i64 (q : Int)] w fun x w' => ∃ a c nn, x = .returned (.tuple #[.agg (va 256 (iv .u8 (fun _ => 0))), .slice a nn c, .int .i64 2]) ∧ (2 = (0 : Int) → nn = (bl).length ∧ w'.ownsRow w.heap.size 37 256 (.slice a (bl).length c) (bl).length (bkL (bl))) ∧ Below w.heap.size w w' := by
  obtain ⟨i0, hi, hz0, hz1, hz2⟩ := info_parts rinfoBk
  have hz := rzero_bk
  have hzr := zero_rref
  have hb1 : Below w.heap.size w ((w.alloc (.cells (trC h R) 33)).alloc (.cells (va 256 (iv .u8 fun _ => 0)) 37)) := below_new2 _ _ _
  have t1 : Blk ((w.alloc (.cells (trC h R) 33)).alloc (.cells (va 256 (iv .u8 fun _ => 0)) 37)) w.heap.size 33 (trC h R) := (Blk.new _ _ _).alloc _
  have k1 : Blk ((w.alloc (.cells (trC h R) 33)).alloc (.cells (va 256 (iv .u8 fun _ => 0)) 37)) (w.heap.size + 1) 37 (va 256 (iv .u8 fun _ => 0)) := Blk.new1 _ _ _ _
  have HI1 : Hid (IsBlks ((w.alloc (.cells (trC h R) 33)).alloc (.cells (va 256 (iv .u8 fun _ => 0)) 37)) a0 N fun i => blkAt F i) := H.below hb1
  have HDn : Hid (∀ w, (IsBlks w a0 N fun i => blkAt F i) → Calls Tryz.prog 20 #[.slice a0 N cap, .agg (trC h R), .int .i64 0, .int .i64 (q : Int)] w fun x w' => ∃ a c nn, x = .returned (.tuple #[.agg (rfC a1), .slice a nn c, .int .i64 a2]) ∧ (a2 = 0 → nn = bl.length ∧ w'.ownsRow w.heap.size 37 256 (.slice a bl.length c) bl.length (bkL bl)) ∧ Below w.heap.size w w') := hDown
  have hNn : Hid (∀ w, Calls Tryz.prog 47 #[.agg (rfC a1)] w fun e w' => e = .returned (.bool false) ∧ Below w.heap.size w w') := fun w => by
    have := rnone_any a1 w
    rw [decide_eq_false h1] at this
    exact this
  subst h2
  clear h1
  obtain ⟨g0, hg0⟩ : ∃ g0, gotF F N a1 = g0 := ⟨_, rfl⟩
  have hGt : Hid (∀ w, (IsBlks w a0 N fun i => blkAt F i) → Calls Tryz.prog 48 #[.slice a0 N cap, .agg (rfC a1)] w fun x w' => x = .returned (.tuple #[.agg (va 256 (iv .u8 g0)), .int .i64 2]) ∧ Below w.heap.size w w') := fun w h5 => by
    have := rget_any a1 ha1 a0 cap hN w h5
    rw [hg, hg0] at this
    exact this
  clear hg hg0
  clear hDown ha1 hN H
  go_enter Tryz.func18, Tryz.ntmps18
  go_wp2_with (first
    | (refine wpList_load_rowg (by rfl) 33 _ (by rfl) (w.heap.size) (by rfl) 33 (trC h R) (0, 0) _ (by exact t1) Tryz.underlying33 (by rfl) (rsizeTr.trans (by rw [trC_size])) ?_; simp only [Act.put, sgPHTrRLv])
    | fail)
  generalize ((w.alloc (.cells (trC h R) 33)).alloc (.cells (va 256 (iv .u8 fun _ => 0)) 37)) = w1 at *
  refine (HDn.out w1 HI1.out).mono ?_
  rintro x w2 ⟨a, c, nn, rfl, hown2, hb2⟩
  have k2 := k1.below hb2 k1.lt
  have hb12 := hb1.trans (hb2.mono hb1.size)
  have q0 := Blk.new w2 31 (rfC rf0)
  have r3 := q0.set (rfC a1)
  have hb3 : Below w2.heap.size w2 ((w2.alloc (.cells (rfC rf0) 31)).setRow w2.heap.size (rfC a1)) := below_setRow (below_new1 _ _) (Nat.le_refl _) _
  have k3 := k2.below hb3 k2.lt
  have hb13 := hb12.trans (hb3.mono hb12.size)
  obtain ⟨hnn, hown2⟩ := hown2 (by trivial)
  have hown3 := kown_below hown2 hb3
  subst hnn
  have HO3 : Hid (((w2.alloc (.cells (rfC rf0) 31)).setRow w2.heap.size (rfC a1)).ownsRow w1.heap.size 37 256 (.slice a bl.length c) bl.length (bkL bl)) := hown3
  have HI3 : Hid (IsBlks ((w2.alloc (.cells (rfC rf0) 31)).setRow w2.heap.size (rfC a1)) a0 N fun i => blkAt F i) := (HI1.out.below hb2).below (hb3.mono (Nat.le_refl _))
  have HS1 : Hid (w.heap.size + 2 ≤ w1.heap.size) := k1.lt
  have HW13 : Hid (w1.heap.size ≤ ((w2.alloc (.cells (rfC rf0) 31)).setRow w2.heap.size (rfC a1)).heap.size) := Nat.le_trans hb2.size hb3.size
  clear hown2 hown3
  clear hb2 hb3 hb12 t1 k1 k2 HI1
  go_wp2_with (first
    | (refine wpList_store_row (by rfl) 31 _ _ (by rfl) (w2.heap.size) (rfC a1) (by rfl) (by rfl) 31 (_) (by exact q0) (rsizeRef.trans (by rw [rfC_size])) (by simp only [rfC_size]) (rfC_all _) ?_; simp only [Act.put, sgPHTrRLv])
    | (refine wpList_load_rowg (by rfl) 31 _ (by rfl) w2.heap.size (by rfl) 31 (rfC a1) (0, 0) _ (by exact r3) Tryz.underlying31 (by rfl) (rsizeRef.trans (by rw [rfC_size])) ?_; simp only [Act.put, sgPHTrRLv])
    | fail)
  clear q0
  generalize ((w2.alloc (.cells (rfC rf0) 31)).setRow w2.heap.size (rfC a1)) = w3 at *
  generalize w2.heap.size = rb at *
  refine (hNn.out w3).mono ?_
  rintro x w4 ⟨rfl, hb4⟩
  have HW14 : Hid (w1.heap.size ≤ w4.heap.size) := Nat.le_trans HW13.out hb4.size
  have k4 := k3.below hb4 k3.lt
  have r4 := r3.below hb4 r3.lt
  have HO4 : Hid (w4.ownsRow w1.heap.size 37 256 (.slice a bl.length c) bl.length (bkL bl)) := kown_below HO3.out hb4
  have HI4 : Hid (IsBlks w4 a0 N fun i => blkAt F i) := HI3.out.below hb4
  have hb14 := hb13.trans (hb4.mono hb13.size)
  clear hb4 k3 r3 HO3 HI3 hb13
  go_wp2_with (first
    | (refine wpList_load_rowg (by rfl) 31 _ (by rfl) (rb) (by rfl) 31 (rfC a1) (0, 0) _ (by exact r4) Tryz.underlying31 (by rfl) (rsizeRef.trans (by rw [rfC_size])) ?_; simp only [Act.put, sgPHTrRLv])
    | fail)
  refine (hGt.out w4 HI4.out).mono ?_
  rintro x w5 ⟨rfl, hb5⟩
  have HW15 : Hid (w1.heap.size ≤ w5.heap.size) := Nat.le_trans HW14.out hb5.size
  have k5 := k4.below hb5 k4.lt
  have hb15 := hb14.trans (hb5.mono hb14.size)
  have x0 := Blk.new w5 37 (va 256 (iv .u8 fun _ => 0))
  have x6 := x0.set (va 256 (iv .u8 g0))
  have hb6 : Below w5.heap.size w5 ((w5.alloc (.cells (va 256 (iv .u8 fun _ => 0)) 37)).setRow w5.heap.size (va 256 (iv .u8 g0))) := below_setRow (below_new1 _ _) (Nat.le_refl _) _
  have k6 := k5.below hb6 k5.lt
  have hb16 := hb15.trans (hb6.mono hb15.size)
  have HO6 : Hid (((w5.alloc (.cells (va 256 (iv .u8 fun _ => 0)) 37)).setRow w5.heap.size (va 256 (iv .u8 g0))).ownsRow w1.heap.size 37 256 (.slice a bl.length c) bl.length (bkL bl)) := kown_below (kown_below HO4.out hb5) hb6
  have HO5 : Hid (∀ z, (Value.slice a bl.length c).ownBlock = some z → w1.heap.size ≤ z ∧ z < w5.heap.size) := fun z hz => (kown_below HO4.out hb5).lt z hz
  have HK5 : Hid (w.heap.size + 1 < w5.heap.size) := k5.lt
  have HW16 : Hid (w1.heap.size ≤ ((w5.alloc (.cells (va 256 (iv .u8 fun _ => 0)) 37)).setRow w5.heap.size (va 256 (iv .u8 g0))).heap.size) := Nat.le_trans HW15.out hb6.size
  clear hb5 hb6 k4 k5 r4 HO4 HI4 hb14 hb15
  go_wp2_with (first
    | (refine wpList_store_row (by rfl) 37 _ _ (by rfl) (w5.heap.size) (va 256 (iv .u8 g0)) (by rfl) (by rfl) 37 (_) (by exact x0) (rsizeBk.trans (by rw [va_size])) (by simp only [va_size]) (iv_one _ _ _) ?_; simp only [Act.put, sgPHTrRLv])
    | (refine wpList_store_row (by rfl) 37 _ _ (by rfl) (w.heap.size + 1) (va 256 (iv .u8 (fun _ => 0))) (by rfl) (by rfl) 37 (_) (by exact k6) (rsizeBk.trans (by rw [va_size])) (by simp only [va_size]) (iv_one _ _ _) ?_; simp only [Act.put, sgPHTrRLv])
    | fail)
  try simp only [Exit.inBlock, Exit.then]
  refine bodyPost_ret (results_row_two Tryz.results18 _ _ (w.heap.size + 1) 37 (va 256 (iv .u8 (fun _ => 0))) _ rfl (k6.set _) Tryz.underlying37 rfl (rsizeBk.trans (by rw [va_size]))) rfl ?_
  exact ⟨none, 0, 0, rfl, fun u => absurd u (by decide), below_setRow hb16 (by omega) _⟩
set_option maxRecDepth 100000 in
set_option maxHeartbeats 4000000 in
theorem rleaf_good (h : Int) (R : Rf) (q : Nat) (a1 : Rf) (a2 : Int) (bl : List (Nat → Nat)) (hlen : bl.length ≤ 6) (ha1 : a1.1 < 4294967296) (h2 : a2 = 0) (h1 : a1 ≠ rf0) (hg : gotE F N a1 = 0) (f : Nat → Nat) (hf : gotF F N a1 = f) (a0 : Option Addr) (cap : Nat) (hN : N ≤ 8192) (hDown : ∀ w, (IsBlks w a0 N fun i => blkAt F i) → Calls Tryz.prog 20 #[.slice a0 N cap, .agg (trC h R), .int .i64 0, .int .i64 (q : Int)] w fun x w' => ∃ a c nn, x = .returned (.tuple #[.agg (rfC a1), .slice a nn c, .int .i64 a2]) ∧ (a2 = 0 → nn = bl.length ∧ w'.ownsRow w.heap.size 37 256 (.slice a bl.length c) bl.length (bkL bl)) ∧ Below w.heap.size w w') (w : World) (H : IsBlks w a0 N fun i => blkAt F i) : Calls Tryz.prog 18 #[.slice a0 N cap, .agg (trC h R), .int .i64 (q : Int)] w fun x w' => ∃ a c nn, x = .returned (.tuple #[.agg (va 256 (iv .u8 f)), .slice a nn c, .int .i64 0]) ∧ (0 = (0 : Int) → nn = (bl ++ [f]).length ∧ w'.ownsRow w.heap.size 37 256 (.slice a (bl ++ [f]).length c) (bl ++ [f]).length (bkL (bl ++ [f]))) ∧ Below w.heap.size w w' := by
  obtain ⟨i0, hi, hz0, hz1, hz2⟩ := info_parts rinfoBk
  have hz := rzero_bk
  have hzr := zero_rref
  have hb1 : Below w.heap.size w ((w.alloc (.cells (trC h R) 33)).alloc (.cells (va 256 (iv .u8 fun _ => 0)) 37)) := below_new2 _ _ _
  have t1 : Blk ((w.alloc (.cells (trC h R) 33)).alloc (.cells (va 256 (iv .u8 fun _ => 0)) 37)) w.heap.size 33 (trC h R) := (Blk.new _ _ _).alloc _
  have k1 : Blk ((w.alloc (.cells (trC h R) 33)).alloc (.cells (va 256 (iv .u8 fun _ => 0)) 37)) (w.heap.size + 1) 37 (va 256 (iv .u8 fun _ => 0)) := Blk.new1 _ _ _ _
  have HI1 : Hid (IsBlks ((w.alloc (.cells (trC h R) 33)).alloc (.cells (va 256 (iv .u8 fun _ => 0)) 37)) a0 N fun i => blkAt F i) := H.below hb1
  have HDn : Hid (∀ w, (IsBlks w a0 N fun i => blkAt F i) → Calls Tryz.prog 20 #[.slice a0 N cap, .agg (trC h R), .int .i64 0, .int .i64 (q : Int)] w fun x w' => ∃ a c nn, x = .returned (.tuple #[.agg (rfC a1), .slice a nn c, .int .i64 a2]) ∧ (a2 = 0 → nn = bl.length ∧ w'.ownsRow w.heap.size 37 256 (.slice a bl.length c) bl.length (bkL bl)) ∧ Below w.heap.size w w') := hDown
  have hNn : Hid (∀ w, Calls Tryz.prog 47 #[.agg (rfC a1)] w fun e w' => e = .returned (.bool false) ∧ Below w.heap.size w w') := fun w => by
    have := rnone_any a1 w
    rw [decide_eq_false h1] at this
    exact this
  subst h2
  clear h1
  have hGt : Hid (∀ w, (IsBlks w a0 N fun i => blkAt F i) → Calls Tryz.prog 48 #[.slice a0 N cap, .agg (rfC a1)] w fun x w' => x = .returned (.tuple #[.agg (va 256 (iv .u8 f)), .int .i64 0]) ∧ Below w.heap.size w w') := fun w h5 => by
    have := rget_any a1 ha1 a0 cap hN w h5
    rw [hg, hf] at this
    exact this
  clear hg hf
  clear hDown ha1 hN H
  go_enter Tryz.func18, Tryz.ntmps18
  go_wp2_with (first
    | (refine wpList_load_rowg (by rfl) 33 _ (by rfl) (w.heap.size) (by rfl) 33 (trC h R) (0, 0) _ (by exact t1) Tryz.underlying33 (by rfl) (rsizeTr.trans (by rw [trC_size])) ?_; simp only [Act.put, sgPHTrRLv])
    | fail)
  generalize ((w.alloc (.cells (trC h R) 33)).alloc (.cells (va 256 (iv .u8 fun _ => 0)) 37)) = w1 at *
  refine (HDn.out w1 HI1.out).mono ?_
  rintro x w2 ⟨a, c, nn, rfl, hown2, hb2⟩
  have k2 := k1.below hb2 k1.lt
  have hb12 := hb1.trans (hb2.mono hb1.size)
  have q0 := Blk.new w2 31 (rfC rf0)
  have r3 := q0.set (rfC a1)
  have hb3 : Below w2.heap.size w2 ((w2.alloc (.cells (rfC rf0) 31)).setRow w2.heap.size (rfC a1)) := below_setRow (below_new1 _ _) (Nat.le_refl _) _
  have k3 := k2.below hb3 k2.lt
  have hb13 := hb12.trans (hb3.mono hb12.size)
  obtain ⟨hnn, hown2⟩ := hown2 (by trivial)
  have hown3 := kown_below hown2 hb3
  subst hnn
  have HO3 : Hid (((w2.alloc (.cells (rfC rf0) 31)).setRow w2.heap.size (rfC a1)).ownsRow w1.heap.size 37 256 (.slice a bl.length c) bl.length (bkL bl)) := hown3
  have HI3 : Hid (IsBlks ((w2.alloc (.cells (rfC rf0) 31)).setRow w2.heap.size (rfC a1)) a0 N fun i => blkAt F i) := (HI1.out.below hb2).below (hb3.mono (Nat.le_refl _))
  have HS1 : Hid (w.heap.size + 2 ≤ w1.heap.size) := k1.lt
  have HW13 : Hid (w1.heap.size ≤ ((w2.alloc (.cells (rfC rf0) 31)).setRow w2.heap.size (rfC a1)).heap.size) := Nat.le_trans hb2.size hb3.size
  clear hown2 hown3
  clear hb2 hb3 hb12 t1 k1 k2 HI1
  go_wp2_with (first
    | (refine wpList_store_row (by rfl) 31 _ _ (by rfl) (w2.heap.size) (rfC a1) (by rfl) (by rfl) 31 (_) (by exact q0) (rsizeRef.trans (by rw [rfC_size])) (by simp only [rfC_size]) (rfC_all _) ?_; simp only [Act.put, sgPHTrRLv])
    | (refine wpList_load_rowg (by rfl) 31 _ (by rfl) w2.heap.size (by rfl) 31 (rfC a1) (0, 0) _ (by exact r3) Tryz.underlying31 (by rfl) (rsizeRef.trans (by rw [rfC_size])) ?_; simp only [Act.put, sgPHTrRLv])
    | fail)
  clear q0
  generalize ((w2.alloc (.cells (rfC rf0) 31)).setRow w2.heap.size (rfC a1)) = w3 at *
  generalize w2.heap.size = rb at *
  refine (hNn.out w3).mono ?_
  rintro x w4 ⟨rfl, hb4⟩
  have HW14 : Hid (w1.heap.size ≤ w4.heap.size) := Nat.le_trans HW13.out hb4.size
  have k4 := k3.below hb4 k3.lt
  have r4 := r3.below hb4 r3.lt
  have HO4 : Hid (w4.ownsRow w1.heap.size 37 256 (.slice a bl.length c) bl.length (bkL bl)) := kown_below HO3.out hb4
  have HI4 : Hid (IsBlks w4 a0 N fun i => blkAt F i) := HI3.out.below hb4
  have hb14 := hb13.trans (hb4.mono hb13.size)
  clear hb4 k3 r3 HO3 HI3 hb13
  go_wp2_with (first
    | (refine wpList_load_rowg (by rfl) 31 _ (by rfl) (rb) (by rfl) 31 (rfC a1) (0, 0) _ (by exact r4) Tryz.underlying31 (by rfl) (rsizeRef.trans (by rw [rfC_size])) ?_; simp only [Act.put, sgPHTrRLv])
    | fail)
  refine (hGt.out w4 HI4.out).mono ?_
  rintro x w5 ⟨rfl, hb5⟩
  have HW15 : Hid (w1.heap.size ≤ w5.heap.size) := Nat.le_trans HW14.out hb5.size
  have k5 := k4.below hb5 k4.lt
  have hb15 := hb14.trans (hb5.mono hb14.size)
  have x0 := Blk.new w5 37 (va 256 (iv .u8 fun _ => 0))
  have x6 := x0.set (va 256 (iv .u8 f))
  have hb6 : Below w5.heap.size w5 ((w5.alloc (.cells (va 256 (iv .u8 fun _ => 0)) 37)).setRow w5.heap.size (va 256 (iv .u8 f))) := below_setRow (below_new1 _ _) (Nat.le_refl _) _
  have k6 := k5.below hb6 k5.lt
  have hb16 := hb15.trans (hb6.mono hb15.size)
  have HO6 : Hid (((w5.alloc (.cells (va 256 (iv .u8 fun _ => 0)) 37)).setRow w5.heap.size (va 256 (iv .u8 f))).ownsRow w1.heap.size 37 256 (.slice a bl.length c) bl.length (bkL bl)) := kown_below (kown_below HO4.out hb5) hb6
  have HO5 : Hid (∀ z, (Value.slice a bl.length c).ownBlock = some z → w1.heap.size ≤ z ∧ z < w5.heap.size) := fun z hz => (kown_below HO4.out hb5).lt z hz
  have HK5 : Hid (w.heap.size + 1 < w5.heap.size) := k5.lt
  have HW16 : Hid (w1.heap.size ≤ ((w5.alloc (.cells (va 256 (iv .u8 fun _ => 0)) 37)).setRow w5.heap.size (va 256 (iv .u8 f))).heap.size) := Nat.le_trans HW15.out hb6.size
  clear hb5 hb6 k4 k5 r4 HO4 HI4 hb14 hb15
  go_wp2_with (first
    | (refine wpList_store_row (by rfl) 37 _ _ (by rfl) (w5.heap.size) (va 256 (iv .u8 f)) (by rfl) (by rfl) 37 (_) (by exact x0) (rsizeBk.trans (by rw [va_size])) (by simp only [va_size]) (iv_one _ _ _) ?_; simp only [Act.put, sgPHTrRLv])
    | fail)
  clear x0
  generalize ((w5.alloc (.cells (va 256 (iv .u8 fun _ => 0)) 37)).setRow w5.heap.size (va 256 (iv .u8 f))) = w6 at *
  have HXO : Hid ((Value.slice a bl.length c).ownBlock ≠ some w5.heap.size) := fun z => by have := (HO5.out _ z).2; omega
  have HKO : Hid ((Value.slice a bl.length c).ownBlock ≠ some (w.heap.size + 1)) := fun z => by
    have h1 := (HO5.out _ z).1
    have h2 := HS1.out
    omega
  have HXK : Hid (w5.heap.size ≠ w.heap.size + 1) := by
    have := HK5.out
    show ¬ _
    omega
  generalize w5.heap.size = xb at *
  have hS : Blk w6.drew xb 37 (va 256 (iv .u8 f)) := x6
  have k6 : Blk w6.drew (w.heap.size + 1) 37 (va 256 (iv .u8 fun _ => 0)) := k6
  have hbd : Below w.heap.size w w6.drew := hb16.drew
  have HOD : Hid (w6.drew.ownsRow w1.heap.size 37 256 (.slice a bl.length c) bl.length (bkL bl)) := kown_below HO6.out (Below.refl _ _).drew
  clear x6 hb16 HO6
  have HSZ0 : Hid (w1.heap.size ≤ w6.drew.heap.size) := HW16.out
  have HS2 : Hid (w.heap.size + 2 ≤ w1.heap.size) := HS1.out
  generalize w1.heap.size = w1s at *
  refine wp_region_plan (fun W => Blk W xb 37 (va 256 (iv .u8 f))) (.yield [1] 0 (.yield [] 2 (.force [] 3 (.force [] 4 (.force [] 5 (.fin [6, 7])))))) (by kernel_rfl) (by kernel_rfl) hS (plan_yield ?_)
  generalize w6.drew = wd at *
  have HOWN : Hid ((wd.alloc (.cells (va 256 (iv .u8 f)) 37)).ownsRow w1s 37 256 (.slice a bl.length c) bl.length (bkL bl)) := HOD.out.alloc _
  have HNEW : Hid (∀ j u, (va 256 (iv .u8 f)).toList[j]? = some u → (wd.alloc (.cells (va 256 (iv .u8 f)) 37)).cell? ((⟨wd.heap.size, 0, none⟩ : Addr).add j) = some u) := cells_new wd _ _
  have HMEM : Hid (∀ u ∈ (va 256 (iv .u8 f)).toList, u.oneCell' = true) := kva_mem_one 256 f
  have HLEN : Hid ((va 256 (iv .u8 f)).toList.length = 1 * 256) := by
    show _ = _
    rw [va_toList]
    simp
  have HSZ : Hid (w1s ≤ (wd.alloc (.cells (va 256 (iv .u8 f)) 37)).heap.size) := by
    have := HSZ0.out
    show _ ≤ _
    simp
    omega
  simp only [sgLHTrRLv]
  go_wp2_with fail
  first | (refine ⟨rfl, _, .agg (va 256 (iv .u8 f)), rfl, kyields_load (by rfl) 37 _ (by rfl) xb 256 (iv .u8 f) (by rfl) _ 37 (fun W hW => hW) Tryz.underlying37 rfl rsizeBk, plan_yield ?_⟩) | (refine ⟨rfl, .agg (va 256 (iv .u8 f)), kyields_load (by rfl) 37 _ (by rfl) xb 256 (iv .u8 f) (by rfl) _ 37 (fun W hW => hW) Tryz.underlying37 rfl rsizeBk, plan_yield ?_⟩)
  simp only [Act.put, sgPHTrRLv]
  simp only [sgLHTrRLv]
  go_wp2_with fail
  first | (refine ⟨rfl, _, .agg (va 256 (iv .u8 f)), rfl, kyields_load (by rfl) 37 _ (by rfl) xb 256 (iv .u8 f) (by rfl) _ 37 (fun W hW => hW) Tryz.underlying37 rfl rsizeBk, plan_force ?_⟩) | (refine ⟨rfl, .agg (va 256 (iv .u8 f)), kyields_load (by rfl) 37 _ (by rfl) xb 256 (iv .u8 f) (by rfl) _ 37 (fun W hW => hW) Tryz.underlying37 rfl rsizeBk, plan_force ?_⟩)
  simp only [Act.put, sgPHTrRLv]
  simp only [sgLHTrRLv]
  refine wpList_build1 (by rfl) 27 37 _ (by rfl) (va 256 (iv .u8 f)) (by rfl) i0 _ 256 Tryz.underlying27 hi hz0 hz1 (va_size _ _) (by decide) (by decide) ?_
  simp only [Act.put, sgPHTrRLv]
  go_wp2_with fail
  refine ⟨rfl, hS.alloc _, plan_force ?_⟩
  simp only [sgLHTrRLv]
  refine wpList_append_own _ rfl _ _ 27 rfl w1s 37 i0 (.agg (va 256 (iv .u8 fun _ => 0))) 256 256 Tryz.underlying27 hi hz0 hz1 hz2 (va_size _ _) (by decide) _ _ _ rfl HOWN.out ⟨wd.heap.size, 0, none⟩ 1 1 (va 256 (iv .u8 f)).toList rfl HLEN.out HNEW.out HMEM.out (by unfold maxLen; omega) (by omega) HSZ.out ?_
  intro v' w8 hown' hgrow _
  have hS8 : Blk w8 xb 37 (va 256 (iv .u8 f)) := (hgrow.block xb (hS.alloc _).lt (fun e => HXO.out e.symm)).trans (hS.alloc _)
  have k8 : Blk w8 (w.heap.size + 1) 37 (va 256 (iv .u8 fun _ => 0)) := (hgrow.block _ (k6.alloc _).lt (fun e => HKO.out e.symm)).trans (k6.alloc _)
  obtain ⟨a', c', hv'⟩ := kown_slice hown'
  subst hv'
  go_wp2_with fail
  refine ⟨rfl, hS8, plan_force ?_⟩
  simp only [sgLHTrRLv]
  refine wpList_store_row (by rfl) 37 _ _ (by rfl) (w.heap.size + 1) (va 256 (iv .u8 f)) (by rfl) (by rfl) 37 _ k8 (rsizeBk.trans (by rw [va_size])) (by simp only [va_size]) (iv_one _ _ _) ?_
  simp only [Act.put, sgPHTrRLv]
  go_wp2_with fail
  refine ⟨rfl, hS8.other _ HXK.out, plan_fin ?_⟩
  simp only [sgLHTrRLv]
  go_wp2_with fail
  refine ⟨rfl, ?_⟩
  go_wp2_with fail
  try simp only [Exit.inBlock, Exit.then]
  refine bodyPost_ret (results_row_two Tryz.results18 _ _ (w.heap.size + 1) 37 (va 256 (iv .u8 f)) _ rfl (k8.set _) Tryz.underlying37 rfl (rsizeBk.trans (by rw [va_size]))) rfl ?_
  have hs2 := HS2.out
  have hb18 : Below w.heap.size w w8 := (hbd.alloc hbd.size _).grown hgrow (by simp; have := hbd.size; omega) (fun k hk => by have := (HOWN.out.lt k hk).1; omega)
  refine ⟨a', c', _, rfl, fun _ => ⟨by simp, ?_⟩, below_setRow hb18 (by omega) _⟩
  have hown8 : w8.ownsRow w1s 37 256 (.slice a' (bl ++ [f]).length c') (bl ++ [f]).length (bkL (bl ++ [f])) := by
    rw [bkL_snoc]
    simpa using hown'
  exact kown_mono (kown_setRow hown8 (g := w.heap.size + 1) (fun z hz _ => (by omega : z ≠ w.heap.size + 1)) _) (by omega)
end
end Go.Proofs.YtjhabngibbmpbaaGreat

namespace Go.Proofs.YtjhabngibbmpbaaGreat
open Go Go.RowKit
set_option linter.unusedSimpArgs false
set_option linter.unusedVariables false
theorem gotE_none9 (F : Nat → Nat) (N : Nat) : gotE F N rf0 = 0 := if_pos (.inl rfl)
theorem gotF_none9 (F : Nat → Nat) (N : Nat) : gotF F N rf0 = fun _ => 0 := if_neg (by simp)
theorem way0 (h : Int) (q : Nat) : wayTo9 h 0 (q : Int) = (List.range h.toNat).map (wayN h.toNat q) := by
  unfold wayTo9
  rw [show h - 0 = h by omega, Int.toNat_natCast]
theorem leafV_in {F : Nat → Nat} {N : Nat} {h : Int} {R : Rf} {q : Nat} (hok : trOk h R) (hout : ¬ outP h 0 (q : Int)) : refV F N h R 0 (q : Int) = folR F N h R ((List.range h.toNat).map (wayN h.toNat q)) := by
  unfold refV
  rw [if_pos hok, if_neg hout, way0]
theorem blocksV_in {F : Nat → Nat} {N : Nat} {h : Int} {R : Rf} {q : Nat} (hok : trOk h R) (hout : ¬ outP h 0 (q : Int)) : blocksV F N h R (q : Int) = bksV F N h R ((List.range h.toNat).map (wayN h.toNat q)) := by
  unfold blocksV
  rw [if_pos hok, if_neg hout, way0]
/-- both tell the same error -/
theorem blocksV_err (F : Nat → Nat) (N : Nat) (h : Int) (R : Rf) (q : Nat) (hok : trOk h R) (hout : ¬ outP h 0 (q : Int)) : (blocksV F N h R (q : Int)).2 = (leafV F N h R (q : Int)).2 ∧ ((leafV F N h R (q : Int)).2 ≠ 0 → (blocksV F N h R (q : Int)).1 = []) ∧ (blocksV F N h R (q : Int)).1.length ≤ 7 := by
  have hl := folB_len F N ((List.range h.toNat).map (wayN h.toNat q)) h R
  rw [List.length_map, List.length_range] at hl
  have h2 := hok.2
  rw [blocksV_in hok hout]
  unfold leafV
  rw [leafV_in hok hout]
  unfold bksV
  by_cases h0 : (folR F N h R ((List.range h.toNat).map (wayN h.toNat q))).2 = 0
  · simp only [if_pos h0]
    by_cases h1 : (folR F N h R ((List.range h.toNat).map (wayN h.toNat q))).1 = rf0
    · simp only [if_pos h1]
      rw [h1, gotE_none9]
      exact ⟨rfl, fun u => absurd rfl u, by omega⟩
    · simp only [if_neg h1]
      by_cases h3 : gotE F N (folR F N h R ((List.range h.toNat).map (wayN h.toNat q))).1 = 0
      · simp only [if_pos h3]
        exact ⟨h3.symm, fun u => absurd h3 u, by simp; omega⟩
      · simp only [if_neg h3]
        exact ⟨by first | rfl | trivial, fun _ => by first | rfl | trivial, by simp⟩
  · simp only [if_neg h0]
    exact ⟨by first | rfl | trivial, fun _ => by first | rfl | trivial, by simp⟩
section
variable {F : Nat → Nat} {N : Nat}
theorem rleaf9_any (h : Int) (R : Rf) (hR : R.1 < 4294967296) (hF : ∀ a, F a < 256) (hok : trOk h R) (q : Nat) (hout : ¬ outP h 0 (q : Int)) (a0 : Option Addr) (cap : Nat) (hN : N ≤ 8192) (w : World) (H : IsBlks w a0 N fun i => blkAt F i) : Calls Tryz.prog 18 #[.slice a0 N cap, .agg (trC h R), .int .i64 (q : Int)] w fun x w' => ∃ a c nn, x = .returned (.tuple #[.agg (va 256 (iv .u8 (leafV F N h R (q : Int)).1)), .slice a nn c, .int .i64 (leafV F N h R (q : Int)).2]) ∧ ((leafV F N h R (q : Int)).2 = 0 → nn = (blocksV F N h R (q : Int)).1.length ∧ w'.ownsRow w.heap.size 37 256 (.slice a (blocksV F N h R (q : Int)).1.length c) (blocksV F N h R (q : Int)).1.length (bkL (blocksV F N h R (q : Int)).1)) ∧ Below w.heap.size w w' := by
  have h2 := hok.2
  have hq : q < 4 ^ h.toNat := by
    unfold outP at hout
    rw [show h - 0 = h by omega] at hout
    omega
  obtain ⟨a1, a2, hf⟩ : ∃ a1 a2, folR F N h R ((List.range h.toNat).map (wayN h.toNat q)) = (a1, a2) := ⟨_, _, rfl⟩
  have hDown := fun w H => rdown_any (F := F) (N := N) h R hR hF h2 0 q ⟨Int.le_refl _, h2.1⟩ h.toNat (by omega) hq a1 a2 hf _ rfl a0 cap hN w H
  have hl := folB_len F N ((List.range h.toNat).map (wayN h.toNat q)) h R
  rw [List.length_map, List.length_range] at hl
  have hlt := folR_lt9 F N ((List.range h.toNat).map (wayN h.toNat q)) h R hR
  rw [hf] at hlt
  rw [blocksV_in hok hout]
  unfold leafV
  rw [leafV_in hok hout]
  unfold bksV
  rw [hf]
  simp only
  by_cases h0 : a2 = 0
  · simp only [if_pos h0]
    by_cases h1 : a1 = rf0
    · simp only [if_pos h1]
      have := rleaf_none h R q a1 a2 _ (by omega) hlt h0 h1 a0 cap hN hDown w H
      rw [h1, gotE_none9, gotF_none9]
      exact this
    · simp only [if_neg h1]
      by_cases h3 : gotE F N a1 = 0
      · simp only [if_pos h3]
        have := rleaf_good h R q a1 a2 _ (by omega) hlt h0 h1 h3 _ rfl a0 cap hN hDown w H
        rw [h3]
        exact this
      · simp only [if_neg h3]
        have h4 : gotE F N a1 = 2 := (gotE_two F N a1).resolve_left h3
        have := rleaf_bad h R q a1 a2 _ (by omega) hlt h0 h1 h4 a0 cap hN hDown w H
        rw [h4, show gotF F N a1 = fun _ => 0 from if_neg fun u => by
          have := h4
          unfold gotE at this
          rw [if_pos (.inr u.2)] at this
          exact absurd this (by decide)]
        exact this.mono fun x w' ⟨a, c, nn, e1, _, e3⟩ => ⟨a, c, nn, e1, fun u => absurd u (by decide), e3⟩
  · simp only [if_neg h0]
    exact (rleaf_err h R q a1 a2 _ (by omega) hlt h0 a0 cap hN hDown w H).mono fun x w' ⟨a, c, nn, e1, _, e3⟩ => ⟨a, c, nn, e1, fun u => absurd u h0, e3⟩
end
/-- an own slice of blocks as a slice that is read -/
theorem own_isb {w : World} {B e c : Nat} {a : Option Addr} {L : List (Nat → Nat)} (h : w.ownsRow B e 256 (.slice a L.length c) L.length (bkL L)) : IsBlks w a L.length fun i => L.getD i fun _ => 0 := by
  intro i hi
  rcases h.2 with ⟨_, h0⟩ | ⟨g, cap, cur, hv, hb, hg, hcap, _, hsz, htake⟩
  · omega
  · injection hv with h1 h2 h3
    refine ⟨g, 0, h1, (Array.getElem?_eq_some_iff.1 hg).1, fun j u hu => ?_⟩
    have hj : j < 256 := by
      have := (List.getElem?_eq_some_iff.1 hu).1
      simpa using this
    rw [h1] at h
    rw [show 0 + i * 256 + j = i * 256 + j by omega, h.cellAt (i * 256 + j) (by omega), ← hu]
    clear h htake hsz hg hu hb hcap h1 h2 h3
    revert i
    induction L with
    | nil => intro i hi; simp at hi
    | cons f L ih =>
      intro i hi
      show ((va 256 (iv .u8 f)).toList ++ bkL L)[i * 256 + j]? = _
      cases i with
      | zero =>
        rw [List.getElem?_append_left (by rw [va_toList]; simp; omega), va_toList]
        simp
      | succ i =>
        rw [List.getElem?_append_right (by rw [va_toList]; simp; omega)]
        have := ih i (by simp at hi; omega)
        rw [show (i + 1) * 256 + j - (va 256 (iv .u8 f)).toList.length = i * 256 + j by rw [va_toList]; simp; omega]
        rw [this]
        rfl
end Go.Proofs.YtjhabngibbmpbaaGreat
