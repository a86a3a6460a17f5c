/- Trees: walk, over any function value that is asked. -/
import Derived.Test.YtiofonffmplfmaaGreatHTrGiven
import Derived.Handy
import Derived.Test.YtiofonffmplfmaaGreatHTrGS

namespace Go.Proofs.YtiofonffmplfmaaGreat
theorem sgLHTrWalk : (∀ (α : Type) (a : α) (l r : List α), (a :: l) ++ r = a :: (l ++ r)) ∧ (∀ (α : Type) (l : List α), [] ++ l = l) ∧ (∀ (α : Type) (l : List α), l ++ [] = l) ∧ (∀ (α β : Type) (f : α → Option β) (a : α) (l : List α), (a :: l).filterMap f = match f a with | none => l.filterMap f | some b => b :: l.filterMap f) ∧ (∀ (α β : Type) (f : α → Option β), [].filterMap f = []) ∧ (∀ (α : Type) (l : List α) (i : Nat), l.toArray[i]? = l[i]?) ∧ (∀ (α : Type) (a : α) (l : List α), (a :: l)[0]? = some a) ∧ (∀ (α : Type) (a : α) (l : List α) (i : Nat), (a :: l)[i + 1]? = l[i]?) :=
  ⟨fun _ _ _ _ => List.cons_append, fun _ _ => List.nil_append _, fun _ _ => List.append_nil _, fun _ _ _ _ _ => List.filterMap_cons, fun _ _ _ => List.filterMap_nil, fun _ _ _ => List.getElem?_toArray, fun _ _ _ => List.getElem?_cons_zero, fun _ _ _ _ => List.getElem?_cons_succ⟩
theorem sgPHTrWalk : (∀ (α : Type) (l : List α) (i : Nat) (a : α), l.toArray.setIfInBounds i a = (l.set i a).toArray) ∧ (∀ (α : Type) (a b : α) (l : List α), (a :: l).set 0 b = b :: l) ∧ (∀ (α : Type) (a b : α) (l : List α) (i : Nat), (a :: l).set (i + 1) b = a :: l.set i b) :=
  ⟨fun _ _ _ _ => List.setIfInBounds_toArray _ _ _, fun _ _ _ _ => List.set_cons_zero, fun _ _ _ _ _ => List.set_cons_succ⟩
end Go.Proofs.YtiofonffmplfmaaGreat
namespace Go.Proofs.YtiofonffmplfmaaGreat
open Go Go.RowKit
set_option linter.unusedSimpArgs false
set_option linter.unusedVariables false

section
variable {F : Nat → Nat} {N : Nat}
set_option maxRecDepth 100000 in
set_option maxHeartbeats 4000000 in
theorem rleaf_err (h : Int) (R : Rf) (q : Nat) (a1 : Rf) (a2 : Int) (bl : List (Nat → Nat)) (hlen : bl.length ≤ 6) (ha1 : a1.1 < 4294967296) (h2 : a2 ≠ 0) (a0 : Option Addr) (cap : Nat) (hN : N ≤ 8192) (hDown : ∀ w, (IsBlks w a0 N fun i => blkAt F i) → Calls Tryz.prog 34 #[.slice a0 N cap, .agg (trC h R), .int .i64 0, .int .i64 (q : Int)] w fun x w' => ∃ a c nn, x = .returned (.tuple #[.agg (rfC a1), .slice a nn c, .int .i64 a2]) ∧ (a2 = 0 → nn = bl.length ∧ w'.ownsRow w.heap.size 49 256 (.slice a bl.length c) bl.length (bkL bl)) ∧ Below w.heap.size w w') (w : World) (H : IsBlks w a0 N fun i => blkAt F i) : Calls Tryz.prog 12 #[.slice a0 N cap, .agg (trC h R), .int .i64 (q : Int)] w fun x w' => ∃ a c nn, x = .returned (.tuple #[.agg (va 256 (iv .u8 (fun _ => 0))), .slice a nn c, .int .i64 a2]) ∧ (a2 = (0 : Int) → nn = (bl).length ∧ w'.ownsRow w.heap.size 49 256 (.slice a (bl).length c) (bl).length (bkL (bl))) ∧ Below w.heap.size w w' := by
  obtain ⟨i0, hi, hz0, hz1, hz2⟩ := info_parts rinfoBk
  have hz := rzero_bk
  have hzr := zero_rref
  have hb1 : Below w.heap.size w ((w.alloc (.cells (trC h R) 33)).alloc (.cells (va 256 (iv .u8 fun _ => 0)) 49)) := below_new2 _ _ _
  have t1 : Blk ((w.alloc (.cells (trC h R) 33)).alloc (.cells (va 256 (iv .u8 fun _ => 0)) 49)) w.heap.size 33 (trC h R) := (Blk.new _ _ _).alloc _
  have k1 : Blk ((w.alloc (.cells (trC h R) 33)).alloc (.cells (va 256 (iv .u8 fun _ => 0)) 49)) (w.heap.size + 1) 49 (va 256 (iv .u8 fun _ => 0)) := Blk.new1 _ _ _ _
  have HI1 : Hid (IsBlks ((w.alloc (.cells (trC h R) 33)).alloc (.cells (va 256 (iv .u8 fun _ => 0)) 49)) a0 N fun i => blkAt F i) := H.below hb1
  have HDn : Hid (∀ w, (IsBlks w a0 N fun i => blkAt F i) → Calls Tryz.prog 34 #[.slice a0 N cap, .agg (trC h R), .int .i64 0, .int .i64 (q : Int)] w fun x w' => ∃ a c nn, x = .returned (.tuple #[.agg (rfC a1), .slice a nn c, .int .i64 a2]) ∧ (a2 = 0 → nn = bl.length ∧ w'.ownsRow w.heap.size 49 256 (.slice a bl.length c) bl.length (bkL bl)) ∧ Below w.heap.size w w') := hDown
  have hne2 : (a2 != 0) = true := by simp [h2]
  have hne3 : decide (a2 = 0) = false := decide_eq_false h2
  clear hDown ha1 hN H
  go_enter Tryz.func12, Tryz.ntmps12
  go_wp2_with (first
    | (refine wpList_load_rowg (by rfl) 33 _ (by rfl) (w.heap.size) (by rfl) 33 (trC h R) (0, 0) _ (by exact t1) Tryz.underlying33 (by rfl) (rsizeTr.trans (by rw [trC_size])) ?_; simp only [Act.put, sgPHTrWalk])
    | fail)
  generalize ((w.alloc (.cells (trC h R) 33)).alloc (.cells (va 256 (iv .u8 fun _ => 0)) 49)) = w1 at *
  refine (HDn.out w1 HI1.out).mono ?_
  rintro x w2 ⟨a, c, nn, rfl, hown2, hb2⟩
  have k2 := k1.below hb2 k1.lt
  have hb12 := hb1.trans (hb2.mono hb1.size)
  have q0 := Blk.new w2 31 (rfC rf0)
  have r3 := q0.set (rfC a1)
  have hb3 : Below w2.heap.size w2 ((w2.alloc (.cells (rfC rf0) 31)).setRow w2.heap.size (rfC a1)) := below_setRow (below_new1 _ _) (Nat.le_refl _) _
  have k3 := k2.below hb3 k2.lt
  have hb13 := hb12.trans (hb3.mono hb12.size)
  clear hb2 hb3 hb12 t1 k1 k2 HI1
  go_wp2_with (first
    | (refine wpList_store_row (by rfl) 31 _ _ (by rfl) (w2.heap.size) (rfC a1) (by rfl) (by rfl) 31 (_) (by exact q0) (rsizeRef.trans (by rw [rfC_size])) (by simp only [rfC_size]) (rfC_all _) ?_; simp only [Act.put, sgPHTrWalk])
    | (refine wpList_store_row (by rfl) 49 _ _ (by rfl) (w.heap.size + 1) (va 256 (iv .u8 (fun _ => 0))) (by rfl) (by rfl) 49 (_) (by exact k3) (rsizeBk.trans (by rw [va_size])) (by simp only [va_size]) (iv_one _ _ _) ?_; simp only [Act.put, sgPHTrWalk])
    | fail)
  try simp only [Exit.inBlock, Exit.then]
  refine bodyPost_ret (results_row_two Tryz.results12 _ _ (w.heap.size + 1) 49 (va 256 (iv .u8 (fun _ => 0))) _ rfl (k3.set _) Tryz.underlying49 rfl (rsizeBk.trans (by rw [va_size]))) rfl ?_
  exact ⟨a, c, nn, rfl, fun u => absurd u h2, below_setRow hb13 (by omega) _⟩
set_option maxRecDepth 100000 in
set_option maxHeartbeats 4000000 in
theorem rleaf_none (h : Int) (R : Rf) (q : Nat) (a1 : Rf) (a2 : Int) (bl : List (Nat → Nat)) (hlen : bl.length ≤ 6) (ha1 : a1.1 < 4294967296) (h2 : a2 = 0) (h1 : a1 = rf0) (a0 : Option Addr) (cap : Nat) (hN : N ≤ 8192) (hDown : ∀ w, (IsBlks w a0 N fun i => blkAt F i) → Calls Tryz.prog 34 #[.slice a0 N cap, .agg (trC h R), .int .i64 0, .int .i64 (q : Int)] w fun x w' => ∃ a c nn, x = .returned (.tuple #[.agg (rfC a1), .slice a nn c, .int .i64 a2]) ∧ (a2 = 0 → nn = bl.length ∧ w'.ownsRow w.heap.size 49 256 (.slice a bl.length c) bl.length (bkL bl)) ∧ Below w.heap.size w w') (w : World) (H : IsBlks w a0 N fun i => blkAt F i) : Calls Tryz.prog 12 #[.slice a0 N cap, .agg (trC h R), .int .i64 (q : Int)] w fun x w' => ∃ a c nn, x = .returned (.tuple #[.agg (va 256 (iv .u8 (fun _ => 0))), .slice a nn c, .int .i64 0]) ∧ (0 = (0 : Int) → nn = (bl).length ∧ w'.ownsRow w.heap.size 49 256 (.slice a (bl).length c) (bl).length (bkL (bl))) ∧ Below w.heap.size w w' := by
  obtain ⟨i0, hi, hz0, hz1, hz2⟩ := info_parts rinfoBk
  have hz := rzero_bk
  have hzr := zero_rref
  have hb1 : Below w.heap.size w ((w.alloc (.cells (trC h R) 33)).alloc (.cells (va 256 (iv .u8 fun _ => 0)) 49)) := below_new2 _ _ _
  have t1 : Blk ((w.alloc (.cells (trC h R) 33)).alloc (.cells (va 256 (iv .u8 fun _ => 0)) 49)) w.heap.size 33 (trC h R) := (Blk.new _ _ _).alloc _
  have k1 : Blk ((w.alloc (.cells (trC h R) 33)).alloc (.cells (va 256 (iv .u8 fun _ => 0)) 49)) (w.heap.size + 1) 49 (va 256 (iv .u8 fun _ => 0)) := Blk.new1 _ _ _ _
  have HI1 : Hid (IsBlks ((w.alloc (.cells (trC h R) 33)).alloc (.cells (va 256 (iv .u8 fun _ => 0)) 49)) a0 N fun i => blkAt F i) := H.below hb1
  have HDn : Hid (∀ w, (IsBlks w a0 N fun i => blkAt F i) → Calls Tryz.prog 34 #[.slice a0 N cap, .agg (trC h R), .int .i64 0, .int .i64 (q : Int)] w fun x w' => ∃ a c nn, x = .returned (.tuple #[.agg (rfC a1), .slice a nn c, .int .i64 a2]) ∧ (a2 = 0 → nn = bl.length ∧ w'.ownsRow w.heap.size 49 256 (.slice a bl.length c) bl.length (bkL bl)) ∧ Below w.heap.size w w') := hDown
  have hNn : Hid (∀ w, Calls Tryz.prog 35 #[.agg (rfC a1)] w fun e w' => e = .returned (.bool true) ∧ Below w.heap.size w w') := fun w => by
    have := rnone_any a1 w
    rw [decide_eq_true h1] at this
    exact this
  subst h2
  clear h1
  clear hDown ha1 hN H
  go_enter Tryz.func12, Tryz.ntmps12
  go_wp2_with (first
    | (refine wpList_load_rowg (by rfl) 33 _ (by rfl) (w.heap.size) (by rfl) 33 (trC h R) (0, 0) _ (by exact t1) Tryz.underlying33 (by rfl) (rsizeTr.trans (by rw [trC_size])) ?_; simp only [Act.put, sgPHTrWalk])
    | fail)
  generalize ((w.alloc (.cells (trC h R) 33)).alloc (.cells (va 256 (iv .u8 fun _ => 0)) 49)) = w1 at *
  refine (HDn.out w1 HI1.out).mono ?_
  rintro x w2 ⟨a, c, nn, rfl, hown2, hb2⟩
  have k2 := k1.below hb2 k1.lt
  have hb12 := hb1.trans (hb2.mono hb1.size)
  have q0 := Blk.new w2 31 (rfC rf0)
  have r3 := q0.set (rfC a1)
  have hb3 : Below w2.heap.size w2 ((w2.alloc (.cells (rfC rf0) 31)).setRow w2.heap.size (rfC a1)) := below_setRow (below_new1 _ _) (Nat.le_refl _) _
  have k3 := k2.below hb3 k2.lt
  have hb13 := hb12.trans (hb3.mono hb12.size)
  obtain ⟨hnn, hown2⟩ := hown2 (by trivial)
  have hown3 := kown_below hown2 hb3
  subst hnn
  have HO3 : Hid (((w2.alloc (.cells (rfC rf0) 31)).setRow w2.heap.size (rfC a1)).ownsRow w1.heap.size 49 256 (.slice a bl.length c) bl.length (bkL bl)) := hown3
  have HI3 : Hid (IsBlks ((w2.alloc (.cells (rfC rf0) 31)).setRow w2.heap.size (rfC a1)) a0 N fun i => blkAt F i) := (HI1.out.below hb2).below (hb3.mono (Nat.le_refl _))
  have HS1 : Hid (w.heap.size + 2 ≤ w1.heap.size) := k1.lt
  have HW13 : Hid (w1.heap.size ≤ ((w2.alloc (.cells (rfC rf0) 31)).setRow w2.heap.size (rfC a1)).heap.size) := Nat.le_trans hb2.size hb3.size
  clear hown2 hown3
  clear hb2 hb3 hb12 t1 k1 k2 HI1
  go_wp2_with (first
    | (refine wpList_store_row (by rfl) 31 _ _ (by rfl) (w2.heap.size) (rfC a1) (by rfl) (by rfl) 31 (_) (by exact q0) (rsizeRef.trans (by rw [rfC_size])) (by simp only [rfC_size]) (rfC_all _) ?_; simp only [Act.put, sgPHTrWalk])
    | (refine wpList_load_rowg (by rfl) 31 _ (by rfl) w2.heap.size (by rfl) 31 (rfC a1) (0, 0) _ (by exact r3) Tryz.underlying31 (by rfl) (rsizeRef.trans (by rw [rfC_size])) ?_; simp only [Act.put, sgPHTrWalk])
    | fail)
  clear q0
  generalize ((w2.alloc (.cells (rfC rf0) 31)).setRow w2.heap.size (rfC a1)) = w3 at *
  generalize w2.heap.size = rb at *
  refine (hNn.out w3).mono ?_
  rintro x w4 ⟨rfl, hb4⟩
  have HW14 : Hid (w1.heap.size ≤ w4.heap.size) := Nat.le_trans HW13.out hb4.size
  have k4 := k3.below hb4 k3.lt
  have r4 := r3.below hb4 r3.lt
  have HO4 : Hid (w4.ownsRow w1.heap.size 49 256 (.slice a bl.length c) bl.length (bkL bl)) := kown_below HO3.out hb4
  have HI4 : Hid (IsBlks w4 a0 N fun i => blkAt F i) := HI3.out.below hb4
  have hb14 := hb13.trans (hb4.mono hb13.size)
  clear hb4 k3 r3 HO3 HI3 hb13
  go_wp2_with (first
    | (refine wpList_store_row (by rfl) 49 _ _ (by rfl) (w.heap.size + 1) (va 256 (iv .u8 (fun _ => 0))) (by rfl) (by rfl) 49 (_) (by exact k4) (rsizeBk.trans (by rw [va_size])) (by simp only [va_size]) (iv_one _ _ _) ?_; simp only [Act.put, sgPHTrWalk])
    | fail)
  try simp only [Exit.inBlock, Exit.then]
  refine bodyPost_ret (results_row_two Tryz.results12 _ _ (w.heap.size + 1) 49 (va 256 (iv .u8 (fun _ => 0))) _ rfl (k4.set _) Tryz.underlying49 rfl (rsizeBk.trans (by rw [va_size]))) rfl ?_
  have hs1 := HS1.out
  exact ⟨a, c, _, rfl, fun _ => ⟨rfl, kown_mono (kown_setRow HO4.out (g := w.heap.size + 1) (fun z hz _ => (by omega : z ≠ w.heap.size + 1)) _) (by omega)⟩, below_setRow hb14 (by omega) _⟩
set_option maxRecDepth 100000 in
set_option maxHeartbeats 4000000 in
theorem rleaf_bad (h : Int) (R : Rf) (q : Nat) (a1 : Rf) (a2 : Int) (bl : List (Nat → Nat)) (hlen : bl.length ≤ 6) (ha1 : a1.1 < 4294967296) (h2 : a2 = 0) (h1 : a1 ≠ rf0) (hg : gotE F N a1 = 2) (a0 : Option Addr) (cap : Nat) (hN : N ≤ 8192) (hDown : ∀ w, (IsBlks w a0 N fun i => blkAt F i) → Calls Tryz.prog 34 #[.slice a0 N cap, .agg (trC h R), .int .i64 0, .int .i64 (q : Int)] w fun x w' => ∃ a c nn, x = .returned (.tuple #[.agg (rfC a1), .slice a nn c, .int .i64 a2]) ∧ (a2 = 0 → nn = bl.length ∧ w'.ownsRow w.heap.size 49 256 (.slice a bl.length c) bl.length (bkL bl)) ∧ Below w.heap.size w w') (w : World) (H : IsBlks w a0 N fun i => blkAt F i) : Calls Tryz.prog 12 #[.slice a0 N cap, .agg (trC h R), .int .i64 (q : Int)] w fun x w' => ∃ a c nn, x = .returned (.tuple #[.agg (va 256 (iv .u8 (fun _ => 0))), .slice a nn c, .int .i64 2]) ∧ (2 = (0 : Int) → nn = (bl).length ∧ w'.ownsRow w.heap.size 49 256 (.slice a (bl).length c) (bl).length (bkL (bl))) ∧ Below w.heap.size w w' := by
  obtain ⟨i0, hi, hz0, hz1, hz2⟩ := info_parts rinfoBk
  have hz := rzero_bk
  have hzr := zero_rref
  have hb1 : Below w.heap.size w ((w.alloc (.cells (trC h R) 33)).alloc (.cells (va 256 (iv .u8 fun _ => 0)) 49)) := below_new2 _ _ _
  have t1 : Blk ((w.alloc (.cells (trC h R) 33)).alloc (.cells (va 256 (iv .u8 fun _ => 0)) 49)) w.heap.size 33 (trC h R) := (Blk.new _ _ _).alloc _
  have k1 : Blk ((w.alloc (.cells (trC h R) 33)).alloc (.cells (va 256 (iv .u8 fun _ => 0)) 49)) (w.heap.size + 1) 49 (va 256 (iv .u8 fun _ => 0)) := Blk.new1 _ _ _ _
  have HI1 : Hid (IsBlks ((w.alloc (.cells (trC h R) 33)).alloc (.cells (va 256 (iv .u8 fun _ => 0)) 49)) a0 N fun i => blkAt F i) := H.below hb1
  have HDn : Hid (∀ w, (IsBlks w a0 N fun i => blkAt F i) → Calls Tryz.prog 34 #[.slice a0 N cap, .agg (trC h R), .int .i64 0, .int .i64 (q : Int)] w fun x w' => ∃ a c nn, x = .returned (.tuple #[.agg (rfC a1), .slice a nn c, .int .i64 a2]) ∧ (a2 = 0 → nn = bl.length ∧ w'.ownsRow w.heap.size 49 256 (.slice a bl.length c) bl.length (bkL bl)) ∧ Below w.heap.size w w') := hDown
  have hNn : Hid (∀ w, Calls Tryz.prog 35 #[.agg (rfC a1)] w fun e w' => e = .returned (.bool false) ∧ Below w.heap.size w w') := fun w => by
    have := rnone_any a1 w
    rw [decide_eq_false h1] at this
    exact this
  subst h2
  clear h1
  obtain ⟨g0, hg0⟩ : ∃ g0, gotF F N a1 = g0 := ⟨_, rfl⟩
  have hGt : Hid (∀ w, (IsBlks w a0 N fun i => blkAt F i) → Calls Tryz.prog 36 #[.slice a0 N cap, .agg (rfC a1)] w fun x w' => x = .returned (.tuple #[.agg (va 256 (iv .u8 g0)), .int .i64 2]) ∧ Below w.heap.size w w') := fun w h5 => by
    have := rget_any a1 ha1 a0 cap hN w h5
    rw [hg, hg0] at this
    exact this
  clear hg hg0
  clear hDown ha1 hN H
  go_enter Tryz.func12, Tryz.ntmps12
  go_wp2_with (first
    | (refine wpList_load_rowg (by rfl) 33 _ (by rfl) (w.heap.size) (by rfl) 33 (trC h R) (0, 0) _ (by exact t1) Tryz.underlying33 (by rfl) (rsizeTr.trans (by rw [trC_size])) ?_; simp only [Act.put, sgPHTrWalk])
    | fail)
  generalize ((w.alloc (.cells (trC h R) 33)).alloc (.cells (va 256 (iv .u8 fun _ => 0)) 49)) = w1 at *
  refine (HDn.out w1 HI1.out).mono ?_
  rintro x w2 ⟨a, c, nn, rfl, hown2, hb2⟩
  have k2 := k1.below hb2 k1.lt
  have hb12 := hb1.trans (hb2.mono hb1.size)
  have q0 := Blk.new w2 31 (rfC rf0)
  have r3 := q0.set (rfC a1)
  have hb3 : Below w2.heap.size w2 ((w2.alloc (.cells (rfC rf0) 31)).setRow w2.heap.size (rfC a1)) := below_setRow (below_new1 _ _) (Nat.le_refl _) _
  have k3 := k2.below hb3 k2.lt
  have hb13 := hb12.trans (hb3.mono hb12.size)
  obtain ⟨hnn, hown2⟩ := hown2 (by trivial)
  have hown3 := kown_below hown2 hb3
  subst hnn
  have HO3 : Hid (((w2.alloc (.cells (rfC rf0) 31)).setRow w2.heap.size (rfC a1)).ownsRow w1.heap.size 49 256 (.slice a bl.length c) bl.length (bkL bl)) := hown3
  have HI3 : Hid (IsBlks ((w2.alloc (.cells (rfC rf0) 31)).setRow w2.heap.size (rfC a1)) a0 N fun i => blkAt F i) := (HI1.out.below hb2).below (hb3.mono (Nat.le_refl _))
  have HS1 : Hid (w.heap.size + 2 ≤ w1.heap.size) := k1.lt
  have HW13 : Hid (w1.heap.size ≤ ((w2.alloc (.cells (rfC rf0) 31)).setRow w2.heap.size (rfC a1)).heap.size) := Nat.le_trans hb2.size hb3.size
  clear hown2 hown3
  clear hb2 hb3 hb12 t1 k1 k2 HI1
  go_wp2_with (first
    | (refine wpList_store_row (by rfl) 31 _ _ (by rfl) (w2.heap.size) (rfC a1) (by rfl) (by rfl) 31 (_) (by exact q0) (rsizeRef.trans (by rw [rfC_size])) (by simp only [rfC_size]) (rfC_all _) ?_; simp only [Act.put, sgPHTrWalk])
    | (refine wpList_load_rowg (by rfl) 31 _ (by rfl) w2.heap.size (by rfl) 31 (rfC a1) (0, 0) _ (by exact r3) Tryz.underlying31 (by rfl) (rsizeRef.trans (by rw [rfC_size])) ?_; simp only [Act.put, sgPHTrWalk])
    | fail)
  clear q0
  generalize ((w2.alloc (.cells (rfC rf0) 31)).setRow w2.heap.size (rfC a1)) = w3 at *
  generalize w2.heap.size = rb at *
  refine (hNn.out w3).mono ?_
  rintro x w4 ⟨rfl, hb4⟩
  have HW14 : Hid (w1.heap.size ≤ w4.heap.size) := Nat.le_trans HW13.out hb4.size
  have k4 := k3.below hb4 k3.lt
  have r4 := r3.below hb4 r3.lt
  have HO4 : Hid (w4.ownsRow w1.heap.size 49 256 (.slice a bl.length c) bl.length (bkL bl)) := kown_below HO3.out hb4
  have HI4 : Hid (IsBlks w4 a0 N fun i => blkAt F i) := HI3.out.below hb4
  have hb14 := hb13.trans (hb4.mono hb13.size)
  clear hb4 k3 r3 HO3 HI3 hb13
  go_wp2_with (first
    | (refine wpList_load_rowg (by rfl) 31 _ (by rfl) (rb) (by rfl) 31 (rfC a1) (0, 0) _ (by exact r4) Tryz.underlying31 (by rfl) (rsizeRef.trans (by rw [rfC_size])) ?_; simp only [Act.put, sgPHTrWalk])
    | fail)
  refine (hGt.out w4 HI4.out).mono ?_
  rintro x w5 ⟨rfl, hb5⟩
  have HW15 : Hid (w1.heap.size ≤ w5.heap.size) := Nat.le_trans HW14.out hb5.size
  have k5 := k4.below hb5 k4.lt
  have hb15 := hb14.trans (hb5.mono hb14.size)
  have x0 := Blk.new w5 49 (va 256 (iv .u8 fun _ => 0))
  have x6 := x0.set (va 256 (iv .u8 g0))
  have hb6 : Below w5.heap.size w5 ((w5.alloc (.cells (va 256 (iv .u8 fun _ => 0)) 49)).setRow w5.heap.size (va 256 (iv .u8 g0))) := below_setRow (below_new1 _ _) (Nat.le_refl _) _
  have k6 := k5.below hb6 k5.lt
  have hb16 := hb15.trans (hb6.mono hb15.size)
  have HO6 : Hid (((w5.alloc (.cells (va 256 (iv .u8 fun _ => 0)) 49)).setRow w5.heap.size (va 256 (iv .u8 g0))).ownsRow w1.heap.size 49 256 (.slice a bl.length c) bl.length (bkL bl)) := kown_below (kown_below HO4.out hb5) hb6
  have HO5 : Hid (∀ z, (Value.slice a bl.length c).ownBlock = some z → w1.heap.size ≤ z ∧ z < w5.heap.size) := fun z hz => (kown_below HO4.out hb5).lt z hz
  have HK5 : Hid (w.heap.size + 1 < w5.heap.size) := k5.lt
  have HW16 : Hid (w1.heap.size ≤ ((w5.alloc (.cells (va 256 (iv .u8 fun _ => 0)) 49)).setRow w5.heap.size (va 256 (iv .u8 g0))).heap.size) := Nat.le_trans HW15.out hb6.size
  clear hb5 hb6 k4 k5 r4 HO4 HI4 hb14 hb15
  go_wp2_with (first
    | (refine wpList_store_row (by rfl) 49 _ _ (by rfl) (w5.heap.size) (va 256 (iv .u8 g0)) (by rfl) (by rfl) 49 (_) (by exact x0) (rsizeBk.trans (by rw [va_size])) (by simp only [va_size]) (iv_one _ _ _) ?_; simp only [Act.put, sgPHTrWalk])
    | (refine wpList_store_row (by rfl) 49 _ _ (by rfl) (w.heap.size + 1) (va 256 (iv .u8 (fun _ => 0))) (by rfl) (by rfl) 49 (_) (by exact k6) (rsizeBk.trans (by rw [va_size])) (by simp only [va_size]) (iv_one _ _ _) ?_; simp only [Act.put, sgPHTrWalk])
    | fail)
  try simp only [Exit.inBlock, Exit.then]
  refine bodyPost_ret (results_row_two Tryz.results12 _ _ (w.heap.size + 1) 49 (va 256 (iv .u8 (fun _ => 0))) _ rfl (k6.set _) Tryz.underlying49 rfl (rsizeBk.trans (by rw [va_size]))) rfl ?_
  exact ⟨none, 0, 0, rfl, fun u => absurd u (by decide), below_setRow hb16 (by omega) _⟩
set_option maxRecDepth 100000 in
set_option maxHeartbeats 4000000 in
theorem rleaf_good (h : Int) (R : Rf) (q : Nat) (a1 : Rf) (a2 : Int) (bl : List (Nat → Nat)) (hlen : bl.length ≤ 6) (ha1 : a1.1 < 4294967296) (h2 : a2 = 0) (h1 : a1 ≠ rf0) (hg : gotE F N a1 = 0) (f : Nat → Nat) (hf : gotF F N a1 = f) (a0 : Option Addr) (cap : Nat) (hN : N ≤ 8192) (hDown : ∀ w, (IsBlks w a0 N fun i => blkAt F i) → Calls Tryz.prog 34 #[.slice a0 N cap, .agg (trC h R), .int .i64 0, .int .i64 (q : Int)] w fun x w' => ∃ a c nn, x = .returned (.tuple #[.agg (rfC a1), .slice a nn c, .int .i64 a2]) ∧ (a2 = 0 → nn = bl.length ∧ w'.ownsRow w.heap.size 49 256 (.slice a bl.length c) bl.length (bkL bl)) ∧ Below w.heap.size w w') (w : World) (H : IsBlks w a0 N fun i => blkAt F i) : Calls Tryz.prog 12 #[.slice a0 N cap, .agg (trC h R), .int .i64 (q : Int)] w fun x w' => ∃ a c nn, x = .returned (.tuple #[.agg (va 256 (iv .u8 f)), .slice a nn c, .int .i64 0]) ∧ (0 = (0 : Int) → nn = (bl ++ [f]).length ∧ w'.ownsRow w.heap.size 49 256 (.slice a (bl ++ [f]).length c) (bl ++ [f]).length (bkL (bl ++ [f]))) ∧ Below w.heap.size w w' := by
  obtain ⟨i0, hi, hz0, hz1, hz2⟩ := info_parts rinfoBk
  have hz := rzero_bk
  have hzr := zero_rref
  have hb1 : Below w.heap.size w ((w.alloc (.cells (trC h R) 33)).alloc (.cells (va 256 (iv .u8 fun _ => 0)) 49)) := below_new2 _ _ _
  have t1 : Blk ((w.alloc (.cells (trC h R) 33)).alloc (.cells (va 256 (iv .u8 fun _ => 0)) 49)) w.heap.size 33 (trC h R) := (Blk.new _ _ _).alloc _
  have k1 : Blk ((w.alloc (.cells (trC h R) 33)).alloc (.cells (va 256 (iv .u8 fun _ => 0)) 49)) (w.heap.size + 1) 49 (va 256 (iv .u8 fun _ => 0)) := Blk.new1 _ _ _ _
  have HI1 : Hid (IsBlks ((w.alloc (.cells (trC h R) 33)).alloc (.cells (va 256 (iv .u8 fun _ => 0)) 49)) a0 N fun i => blkAt F i) := H.below hb1
  have HDn : Hid (∀ w, (IsBlks w a0 N fun i => blkAt F i) → Calls Tryz.prog 34 #[.slice a0 N cap, .agg (trC h R), .int .i64 0, .int .i64 (q : Int)] w fun x w' => ∃ a c nn, x = .returned (.tuple #[.agg (rfC a1), .slice a nn c, .int .i64 a2]) ∧ (a2 = 0 → nn = bl.length ∧ w'.ownsRow w.heap.size 49 256 (.slice a bl.length c) bl.length (bkL bl)) ∧ Below w.heap.size w w') := hDown
  have hNn : Hid (∀ w, Calls Tryz.prog 35 #[.agg (rfC a1)] w fun e w' => e = .returned (.bool false) ∧ Below w.heap.size w w') := fun w => by
    have := rnone_any a1 w
    rw [decide_eq_false h1] at this
    exact this
  subst h2
  clear h1
  have hGt : Hid (∀ w, (IsBlks w a0 N fun i => blkAt F i) → Calls Tryz.prog 36 #[.slice a0 N cap, .agg (rfC a1)] w fun x w' => x = .returned (.tuple #[.agg (va 256 (iv .u8 f)), .int .i64 0]) ∧ Below w.heap.size w w') := fun w h5 => by
    have := rget_any a1 ha1 a0 cap hN w h5
    rw [hg, hf] at this
    exact this
  clear hg hf
  clear hDown ha1 hN H
  go_enter Tryz.func12, Tryz.ntmps12
  go_wp2_with (first
    | (refine wpList_load_rowg (by rfl) 33 _ (by rfl) (w.heap.size) (by rfl) 33 (trC h R) (0, 0) _ (by exact t1) Tryz.underlying33 (by rfl) (rsizeTr.trans (by rw [trC_size])) ?_; simp only [Act.put, sgPHTrWalk])
    | fail)
  generalize ((w.alloc (.cells (trC h R) 33)).alloc (.cells (va 256 (iv .u8 fun _ => 0)) 49)) = w1 at *
  refine (HDn.out w1 HI1.out).mono ?_
  rintro x w2 ⟨a, c, nn, rfl, hown2, hb2⟩
  have k2 := k1.below hb2 k1.lt
  have hb12 := hb1.trans (hb2.mono hb1.size)
  have q0 := Blk.new w2 31 (rfC rf0)
  have r3 := q0.set (rfC a1)
  have hb3 : Below w2.heap.size w2 ((w2.alloc (.cells (rfC rf0) 31)).setRow w2.heap.size (rfC a1)) := below_setRow (below_new1 _ _) (Nat.le_refl _) _
  have k3 := k2.below hb3 k2.lt
  have hb13 := hb12.trans (hb3.mono hb12.size)
  obtain ⟨hnn, hown2⟩ := hown2 (by trivial)
  have hown3 := kown_below hown2 hb3
  subst hnn
  have HO3 : Hid (((w2.alloc (.cells (rfC rf0) 31)).setRow w2.heap.size (rfC a1)).ownsRow w1.heap.size 49 256 (.slice a bl.length c) bl.length (bkL bl)) := hown3
  have HI3 : Hid (IsBlks ((w2.alloc (.cells (rfC rf0) 31)).setRow w2.heap.size (rfC a1)) a0 N fun i => blkAt F i) := (HI1.out.below hb2).below (hb3.mono (Nat.le_refl _))
  have HS1 : Hid (w.heap.size + 2 ≤ w1.heap.size) := k1.lt
  have HW13 : Hid (w1.heap.size ≤ ((w2.alloc (.cells (rfC rf0) 31)).setRow w2.heap.size (rfC a1)).heap.size) := Nat.le_trans hb2.size hb3.size
  clear hown2 hown3
  clear hb2 hb3 hb12 t1 k1 k2 HI1
  go_wp2_with (first
    | (refine wpList_store_row (by rfl) 31 _ _ (by rfl) (w2.heap.size) (rfC a1) (by rfl) (by rfl) 31 (_) (by exact q0) (rsizeRef.trans (by rw [rfC_size])) (by simp only [rfC_size]) (rfC_all _) ?_; simp only [Act.put, sgPHTrWalk])
    | (refine wpList_load_rowg (by rfl) 31 _ (by rfl) w2.heap.size (by rfl) 31 (rfC a1) (0, 0) _ (by exact r3) Tryz.underlying31 (by rfl) (rsizeRef.trans (by rw [rfC_size])) ?_; simp only [Act.put, sgPHTrWalk])
    | fail)
  clear q0
  generalize ((w2.alloc (.cells (rfC rf0) 31)).setRow w2.heap.size (rfC a1)) = w3 at *
  generalize w2.heap.size = rb at *
  refine (hNn.out w3).mono ?_
  rintro x w4 ⟨rfl, hb4⟩
  have HW14 : Hid (w1.heap.size ≤ w4.heap.size) := Nat.le_trans HW13.out hb4.size
  have k4 := k3.below hb4 k3.lt
  have r4 := r3.below hb4 r3.lt
  have HO4 : Hid (w4.ownsRow w1.heap.size 49 256 (.slice a bl.length c) bl.length (bkL bl)) := kown_below HO3.out hb4
  have HI4 : Hid (IsBlks w4 a0 N fun i => blkAt F i) := HI3.out.below hb4
  have hb14 := hb13.trans (hb4.mono hb13.size)
  clear hb4 k3 r3 HO3 HI3 hb13
  go_wp2_with (first
    | (refine wpList_load_rowg (by rfl) 31 _ (by rfl) (rb) (by rfl) 31 (rfC a1) (0, 0) _ (by exact r4) Tryz.underlying31 (by rfl) (rsizeRef.trans (by rw [rfC_size])) ?_; simp only [Act.put, sgPHTrWalk])
    | fail)
  refine (hGt.out w4 HI4.out).mono ?_
  rintro x w5 ⟨rfl, hb5⟩
  have HW15 : Hid (w1.heap.size ≤ w5.heap.size) := Nat.le_trans HW14.out hb5.size
  have k5 := k4.below hb5 k4.lt
  have hb15 := hb14.trans (hb5.mono hb14.size)
  have x0 := Blk.new w5 49 (va 256 (iv .u8 fun _ => 0))
  have x6 := x0.set (va 256 (iv .u8 f))
  have hb6 : Below w5.heap.size w5 ((w5.alloc (.cells (va 256 (iv .u8 fun _ => 0)) 49)).setRow w5.heap.size (va 256 (iv .u8 f))) := below_setRow (below_new1 _ _) (Nat.le_refl _) _
  have k6 := k5.below hb6 k5.lt
  have hb16 := hb15.trans (hb6.mono hb15.size)
  have HO6 : Hid (((w5.alloc (.cells (va 256 (iv .u8 fun _ => 0)) 49)).setRow w5.heap.size (va 256 (iv .u8 f))).ownsRow w1.heap.size 49 256 (.slice a bl.length c) bl.length (bkL bl)) := kown_below (kown_below HO4.out hb5) hb6
  have HO5 : Hid (∀ z, (Value.slice a bl.length c).ownBlock = some z → w1.heap.size ≤ z ∧ z < w5.heap.size) := fun z hz => (kown_below HO4.out hb5).lt z hz
  have HK5 : Hid (w.heap.size + 1 < w5.heap.size) := k5.lt
  have HW16 : Hid (w1.heap.size ≤ ((w5.alloc (.cells (va 256 (iv .u8 fun _ => 0)) 49)).setRow w5.heap.size (va 256 (iv .u8 f))).heap.size) := Nat.le_trans HW15.out hb6.size
  clear hb5 hb6 k4 k5 r4 HO4 HI4 hb14 hb15
  go_wp2_with (first
    | (refine wpList_store_row (by rfl) 49 _ _ (by rfl) (w5.heap.size) (va 256 (iv .u8 f)) (by rfl) (by rfl) 49 (_) (by exact x0) (rsizeBk.trans (by rw [va_size])) (by simp only [va_size]) (iv_one _ _ _) ?_; simp only [Act.put, sgPHTrWalk])
    | fail)
  clear x0
  generalize ((w5.alloc (.cells (va 256 (iv .u8 fun _ => 0)) 49)).setRow w5.heap.size (va 256 (iv .u8 f))) = w6 at *
  have HXO : Hid ((Value.slice a bl.length c).ownBlock ≠ some w5.heap.size) := fun z => by have := (HO5.out _ z).2; omega
  have HKO : Hid ((Value.slice a bl.length c).ownBlock ≠ some (w.heap.size + 1)) := fun z => by
    have h1 := (HO5.out _ z).1
    have h2 := HS1.out
    omega
  have HXK : Hid (w5.heap.size ≠ w.heap.size + 1) := by
    have := HK5.out
    show ¬ _
    omega
  generalize w5.heap.size = xb at *
  have hS : Blk w6.drew xb 49 (va 256 (iv .u8 f)) := x6
  have k6 : Blk w6.drew (w.heap.size + 1) 49 (va 256 (iv .u8 fun _ => 0)) := k6
  have hbd : Below w.heap.size w w6.drew := hb16.drew
  have HOD : Hid (w6.drew.ownsRow w1.heap.size 49 256 (.slice a bl.length c) bl.length (bkL bl)) := kown_below HO6.out (Below.refl _ _).drew
  clear x6 hb16 HO6
  have HSZ0 : Hid (w1.heap.size ≤ w6.drew.heap.size) := HW16.out
  have HS2 : Hid (w.heap.size + 2 ≤ w1.heap.size) := HS1.out
  generalize w1.heap.size = w1s at *
  refine wp_region_plan (fun W => Blk W xb 49 (va 256 (iv .u8 f))) (.yield [1] 0 (.yield [] 2 (.force [] 3 (.force [] 4 (.force [] 5 (.fin [6, 7])))))) (by kernel_rfl) (by kernel_rfl) hS (plan_yield ?_)
  generalize w6.drew = wd at *
  have HOWN : Hid ((wd.alloc (.cells (va 256 (iv .u8 f)) 49)).ownsRow w1s 49 256 (.slice a bl.length c) bl.length (bkL bl)) := HOD.out.alloc _
  have HNEW : Hid (∀ j u, (va 256 (iv .u8 f)).toList[j]? = some u → (wd.alloc (.cells (va 256 (iv .u8 f)) 49)).cell? ((⟨wd.heap.size, 0, none⟩ : Addr).add j) = some u) := cells_new wd _ _
  have HMEM : Hid (∀ u ∈ (va 256 (iv .u8 f)).toList, u.oneCell' = true) := kva_mem_one 256 f
  have HLEN : Hid ((va 256 (iv .u8 f)).toList.length = 1 * 256) := by
    show _ = _
    rw [va_toList]
    simp
  have HSZ : Hid (w1s ≤ (wd.alloc (.cells (va 256 (iv .u8 f)) 49)).heap.size) := by
    have := HSZ0.out
    show _ ≤ _
    simp
    omega
  simp only [sgLHTrWalk]
  go_wp2_with fail
  first | (refine ⟨rfl, _, .agg (va 256 (iv .u8 f)), rfl, kyields_load (by rfl) 49 _ (by rfl) xb 256 (iv .u8 f) (by rfl) _ 49 (fun W hW => hW) Tryz.underlying49 rfl rsizeBk, plan_yield ?_⟩) | (refine ⟨rfl, .agg (va 256 (iv .u8 f)), kyields_load (by rfl) 49 _ (by rfl) xb 256 (iv .u8 f) (by rfl) _ 49 (fun W hW => hW) Tryz.underlying49 rfl rsizeBk, plan_yield ?_⟩)
  simp only [Act.put, sgPHTrWalk]
  simp only [sgLHTrWalk]
  go_wp2_with fail
  first | (refine ⟨rfl, _, .agg (va 256 (iv .u8 f)), rfl, kyields_load (by rfl) 49 _ (by rfl) xb 256 (iv .u8 f) (by rfl) _ 49 (fun W hW => hW) Tryz.underlying49 rfl rsizeBk, plan_force ?_⟩) | (refine ⟨rfl, .agg (va 256 (iv .u8 f)), kyields_load (by rfl) 49 _ (by rfl) xb 256 (iv .u8 f) (by rfl) _ 49 (fun W hW => hW) Tryz.underlying49 rfl rsizeBk, plan_force ?_⟩)
  simp only [Act.put, sgPHTrWalk]
  simp only [sgLHTrWalk]
  refine wpList_build1 (by rfl) 27 49 _ (by rfl) (va 256 (iv .u8 f)) (by rfl) i0 _ 256 Tryz.underlying27 hi hz0 hz1 (va_size _ _) (by decide) (by decide) ?_
  simp only [Act.put, sgPHTrWalk]
  go_wp2_with fail
  refine ⟨rfl, hS.alloc _, plan_force ?_⟩
  simp only [sgLHTrWalk]
  refine wpList_append_own _ rfl _ _ 27 rfl w1s 49 i0 (.agg (va 256 (iv .u8 fun _ => 0))) 256 256 Tryz.underlying27 hi hz0 hz1 hz2 (va_size _ _) (by decide) _ _ _ rfl HOWN.out ⟨wd.heap.size, 0, none⟩ 1 1 (va 256 (iv .u8 f)).toList rfl HLEN.out HNEW.out HMEM.out (by unfold maxLen; omega) (by omega) HSZ.out ?_
  intro v' w8 hown' hgrow _
  have hS8 : Blk w8 xb 49 (va 256 (iv .u8 f)) := (hgrow.block xb (hS.alloc _).lt (fun e => HXO.out e.symm)).trans (hS.alloc _)
  have k8 : Blk w8 (w.heap.size + 1) 49 (va 256 (iv .u8 fun _ => 0)) := (hgrow.block _ (k6.alloc _).lt (fun e => HKO.out e.symm)).trans (k6.alloc _)
  obtain ⟨a', c', hv'⟩ := kown_slice hown'
  subst hv'
  go_wp2_with fail
  refine ⟨rfl, hS8, plan_force ?_⟩
  simp only [sgLHTrWalk]
  refine wpList_store_row (by rfl) 49 _ _ (by rfl) (w.heap.size + 1) (va 256 (iv .u8 f)) (by rfl) (by rfl) 49 _ k8 (rsizeBk.trans (by rw [va_size])) (by simp only [va_size]) (iv_one _ _ _) ?_
  simp only [Act.put, sgPHTrWalk]
  go_wp2_with fail
  refine ⟨rfl, hS8.other _ HXK.out, plan_fin ?_⟩
  simp only [sgLHTrWalk]
  go_wp2_with fail
  refine ⟨rfl, ?_⟩
  go_wp2_with fail
  try simp only [Exit.inBlock, Exit.then]
  refine bodyPost_ret (results_row_two Tryz.results12 _ _ (w.heap.size + 1) 49 (va 256 (iv .u8 f)) _ rfl (k8.set _) Tryz.underlying49 rfl (rsizeBk.trans (by rw [va_size]))) rfl ?_
  have hs2 := HS2.out
  have hb18 : Below w.heap.size w w8 := (hbd.alloc hbd.size _).grown hgrow (by simp; have := hbd.size; omega) (fun k hk => by have := (HOWN.out.lt k hk).1; omega)
  refine ⟨a', c', _, rfl, fun _ => ⟨by simp, ?_⟩, below_setRow hb18 (by omega) _⟩
  have hown8 : w8.ownsRow w1s 49 256 (.slice a' (bl ++ [f]).length c') (bl ++ [f]).length (bkL (bl ++ [f])) := by
    rw [bkL_snoc]
    simpa using hown'
  exact kown_mono (kown_setRow hown8 (g := w.heap.size + 1) (fun z hz _ => (by omega : z ≠ w.heap.size + 1)) _) (by omega)
end
end Go.Proofs.YtiofonffmplfmaaGreat

namespace Go.Proofs.YtiofonffmplfmaaGreat
open Go Go.RowKit
set_option linter.unusedSimpArgs false
set_option linter.unusedVariables false
theorem gotE_none9 (F : Nat → Nat) (N : Nat) : gotE F N rf0 = 0 := if_pos (.inl rfl)
theorem gotF_none9 (F : Nat → Nat) (N : Nat) : gotF F N rf0 = fun _ => 0 := if_neg (by simp)
theorem way0 (h : Int) (q : Nat) : wayTo9 h 0 (q : Int) = (List.range h.toNat).map (wayN h.toNat q) := by
  unfold wayTo9
  rw [show h - 0 = h by omega, Int.toNat_natCast]
theorem leafV_in {F : Nat → Nat} {N : Nat} {h : Int} {R : Rf} {q : Nat} (hok : trOk h R) (hout : ¬ outP h 0 (q : Int)) : refV F N h R 0 (q : Int) = folR F N h R ((List.range h.toNat).map (wayN h.toNat q)) := by
  unfold refV
  rw [if_pos hok, if_neg hout, way0]
theorem blocksV_in {F : Nat → Nat} {N : Nat} {h : Int} {R : Rf} {q : Nat} (hok : trOk h R) (hout : ¬ outP h 0 (q : Int)) : blocksV F N h R (q : Int) = bksV F N h R ((List.range h.toNat).map (wayN h.toNat q)) := by
  unfold blocksV
  rw [if_pos hok, if_neg hout, way0]
section
variable {F : Nat → Nat} {N : Nat}
theorem rleaf9_any (h : Int) (R : Rf) (hR : R.1 < 4294967296) (hF : ∀ a, F a < 256) (hok : trOk h R) (q : Nat) (hout : ¬ outP h 0 (q : Int)) (a0 : Option Addr) (cap : Nat) (hN : N ≤ 8192) (w : World) (H : IsBlks w a0 N fun i => blkAt F i) : Calls Tryz.prog 12 #[.slice a0 N cap, .agg (trC h R), .int .i64 (q : Int)] w fun x w' => ∃ a c nn, x = .returned (.tuple #[.agg (va 256 (iv .u8 (leafV F N h R (q : Int)).1)), .slice a nn c, .int .i64 (leafV F N h R (q : Int)).2]) ∧ ((leafV F N h R (q : Int)).2 = 0 → nn = (blocksV F N h R (q : Int)).1.length ∧ w'.ownsRow w.heap.size 49 256 (.slice a (blocksV F N h R (q : Int)).1.length c) (blocksV F N h R (q : Int)).1.length (bkL (blocksV F N h R (q : Int)).1)) ∧ Below w.heap.size w w' := by
  have h2 := hok.2
  have hq : q < 4 ^ h.toNat := by
    unfold outP at hout
    rw [show h - 0 = h by omega] at hout
    omega
  obtain ⟨a1, a2, hf⟩ : ∃ a1 a2, folR F N h R ((List.range h.toNat).map (wayN h.toNat q)) = (a1, a2) := ⟨_, _, rfl⟩
  have hDown := fun w H => rdown_any (F := F) (N := N) h R hR hF h2 0 q ⟨Int.le_refl _, h2.1⟩ h.toNat (by omega) hq a1 a2 hf _ rfl a0 cap hN w H
  have hl := folB_len F N ((List.range h.toNat).map (wayN h.toNat q)) h R
  rw [List.length_map, List.length_range] at hl
  have hlt := folR_lt9 F N ((List.range h.toNat).map (wayN h.toNat q)) h R hR
  rw [hf] at hlt
  rw [blocksV_in hok hout]
  unfold leafV
  rw [leafV_in hok hout]
  unfold bksV
  rw [hf]
  simp only
  by_cases h0 : a2 = 0
  · simp only [if_pos h0]
    by_cases h1 : a1 = rf0
    · simp only [if_pos h1]
      have := rleaf_none h R q a1 a2 _ (by omega) hlt h0 h1 a0 cap hN hDown w H
      rw [h1, gotE_none9, gotF_none9]
      exact this
    · simp only [if_neg h1]
      by_cases h3 : gotE F N a1 = 0
      · simp only [if_pos h3]
        have := rleaf_good h R q a1 a2 _ (by omega) hlt h0 h1 h3 _ rfl a0 cap hN hDown w H
        rw [h3]
        exact this
      · simp only [if_neg h3]
        have h4 : gotE F N a1 = 2 := (gotE_two F N a1).resolve_left h3
        have := rleaf_bad h R q a1 a2 _ (by omega) hlt h0 h1 h4 a0 cap hN hDown w H
        rw [h4, show gotF F N a1 = fun _ => 0 from if_neg fun u => by
          have := h4
          unfold gotE at this
          rw [if_pos (.inr u.2)] at this
          exact absurd this (by decide)]
        exact this.mono fun x w' ⟨a, c, nn, e1, _, e3⟩ => ⟨a, c, nn, e1, fun u => absurd u (by decide), e3⟩
  · simp only [if_neg h0]
    exact (rleaf_err h R q a1 a2 _ (by omega) hlt h0 a0 cap hN hDown w H).mono fun x w' ⟨a, c, nn, e1, _, e3⟩ => ⟨a, c, nn, e1, fun u => absurd u h0, e3⟩
end
end Go.Proofs.YtiofonffmplfmaaGreat

namespace Go.Proofs.YtiofonffmplfmaaGreat
open Go Go.RowKit
set_option linter.unusedSimpArgs false
set_option linter.unusedVariables false
/-- four of something, one behind the other, until one fails -/
def kidsR {σ : Type} (f : σ → Nat → σ × Int) : Nat → Nat → σ → σ × Int
  | 0, _, s => (s, 0)
  | m + 1, k, s => if (f s k).2 = 0 then kidsR f m (k + 1) (f s k).1 else f s k
/-- what walk does to a state: st tells what enter does at a position (level, place, reference): the state behind, whether what hangs beneath is asked for, the error -/
def wlkR {σ : Type} (F : Nat → Nat) (N : Nat) (st : σ → Nat → Int → Rf → σ × Bool × Int) : Nat → σ → Int → Rf → σ × Int
  | 0, s, p, R => if R = rf0 then (s, 0) else ((st s 0 p R).1, (st s 0 p R).2.2)
  | n + 1, s, p, R => if R = rf0 then (s, 0) else
      if (st s (n + 1) p R).2.2 = 0 ∧ (st s (n + 1) p R).2.1 = true then
        (if nodE F N ((n + 1 : Nat) : Int) R = 0 then kidsR (fun s k => wlkR F N st n s (p * 4 + (k : Int)) (decK (gotF F N R) k)) 4 0 (st s (n + 1) p R).1 else ((st s (n + 1) p R).1, nodE F N ((n + 1 : Nat) : Int) R))
      else ((st s (n + 1) p R).1, (st s (n + 1) p R).2.2)
/-- how many calls that takes at most -/
def pN : Nat → Nat
  | 0 => 2
  | n + 1 => 2 + 4 * pN n
theorem pN_le {n : Nat} (h : n ≤ 6) : pN n ≤ 10922 := by
  have : n = 0 ∨ n = 1 ∨ n = 2 ∨ n = 3 ∨ n = 4 ∨ n = 5 ∨ n = 6 := by omega
  rcases this with rfl | rfl | rfl | rfl | rfl | rfl | rfl <;> decide
/-- a disk and a cache, and a state s told by Q in blocks of its own (z), behind i calls at most -/
structure WS {σ α : Type} (B g N : Nat) (F : Nat → Nat) (c m room : Nat) (ft : α → Nat → Prop) (Q : σ → α → World → Prop) (cnt : σ → Nat) (V : World) (i : Nat) (U : Nat → Prop) (s : σ) (z : α) : Prop where
  td : TD V B g N F c m room i U
  q : Q s z V
  ap : ∀ b, ft z b → ¬ U b
  cn : cnt s ≤ i
  lt : ∀ b, ft z b → b < V.heap.size
/-- what a call does to them -/
def WSt {σ α : Type} (B g N : Nat) (F : Nat → Nat) (c m room : Nat) (ft : α → Nat → Prop) (Q : σ → α → World → Prop) (cnt : σ → Nat) (V w' : World) (i' : Nat) (U : Nat → Prop) (z : α) (s' : σ) : Prop :=
  ∃ U' z', WS B g N F c m room ft Q cnt w' i' U' s' z' ∧ Turns (fun b => U b ∨ ft z b) V w' ∧ ∀ b, (U' b ∨ ft z' b) → (U b ∨ ft z b) ∨ V.heap.size ≤ b
/-- what is asked of the function -/
structure WK {σ α : Type} (fn : Nat) (caps : Array Value) (B g N : Nat) (F : Nat → Nat) (c m room : Nat) (ft : α → Nat → Prop) (Q : σ → α → World → Prop) (cnt : σ → Nat) (st : σ → Nat → Int → Rf → σ × Bool × Int) : Prop where
  call : ∀ (s : σ) (z : α) (V : World) (i : Nat) (U : Nat → Prop) (l : Nat) (p : Int) (R : Rf), l ≤ 6 → 0 ≤ p → (p + 1) * ((4 ^ l : Nat) : Int) ≤ 4096 → R.1 < 4294967296 → R ≠ rf0 → i < 34359738000 → WS B g N F c m room ft Q cnt V i U s z → Calls Tryz.prog fn (#[.agg (poC (l : Int) p R)] ++ caps) V fun e w' => e = .returned (.tuple #[.bool (st s l p R).2.1, .int .i64 (st s l p R).2.2]) ∧ WSt B g N F c m room ft Q cnt V w' (i + 1) U z (st s l p R).1
  keep : ∀ s z V V' (T : Nat → Prop), Q s z V → Turns T V V' → (∀ b, T b → ¬ ft z b) → Q s z V'
section
variable {σ α : Type} {B g N c m room i : Nat} {F : Nat → Nat} {U : Nat → Prop} {ft : α → Nat → Prop} {Q : σ → α → World → Prop} {cnt : σ → Nat} {V W : World} {s : σ} {z : α}
theorem WS.keep {T : Nat → Prop} (hk : ∀ s z V V' (T : Nat → Prop), Q s z V → Turns T V V' → (∀ b, T b → ¬ ft z b) → Q s z V') (h : WS B g N F c m room ft Q cnt V i U s z) (ht : Turns T V W) (hT : ∀ b, T b → ¬ ft z b ∧ ¬ U b) : WS B g N F c m room ft Q cnt W i U s z :=
  ⟨h.td.kept ht.size fun x hx => ht.block x (h.td.lt x hx).2 fun q => (hT x q).2 hx, hk s z V W T h.q ht fun b q => (hT b q).1, h.ap, h.cn, fun b q => Nat.lt_of_lt_of_le (h.lt b q) ht.size⟩
theorem WS.below (hk : ∀ s z V V' (T : Nat → Prop), Q s z V → Turns T V V' → (∀ b, T b → ¬ ft z b) → Q s z V') (h : WS B g N F c m room ft Q cnt V i U s z) (hb : Below V.heap.size V W) : WS B g N F c m room ft Q cnt W i U s z := h.keep hk (T := fun _ => False) (.of_below hb) fun b q => q.elim
theorem WS.mono {j : Nat} (h : WS B g N F c m room ft Q cnt V i U s z) (hj : i ≤ j) : WS B g N F c m room ft Q cnt V j U s z := ⟨h.td.mono hj, h.q, h.ap, Nat.le_trans h.cn hj, h.lt⟩
/-- a call that turns the disk and the cache alone -/
theorem WS.step {j : Nat} (hk : ∀ s z V V' (T : Nat → Prop), Q s z V → Turns T V V' → (∀ b, T b → ¬ ft z b) → Q s z V') (h : WS B g N F c m room ft Q cnt V i U s z) (hs : TDStep V W B g N F c m room j U) (hj : i ≤ j) : ∃ U', WS B g N F c m room ft Q cnt W j U' s z ∧ Turns (fun b => U b ∨ ft z b) V W ∧ ∀ b, (U' b ∨ ft z b) → (U b ∨ ft z b) ∨ V.heap.size ≤ b := by
  obtain ⟨U', h1, h2, h3⟩ := hs
  refine ⟨U', ⟨h1, hk s z V W U h.q h2 fun b q q2 => h.ap b q2 q, fun b q q2 => ?_, Nat.le_trans h.cn hj, fun b q => Nat.lt_of_lt_of_le (h.lt b q) h2.size⟩, h2.mono fun b q => .inl q, fun b q => ?_⟩
  · rcases h3 b q2 with u | u
    · exact h.ap b q u
    · have := h.lt b q
      omega
  · rcases q with q | q
    · rcases h3 b q with u | u
      · exact .inl (.inl u)
      · exact .inr u
    · exact .inl (.inr q)
theorem WSt.of (h : WS B g N F c m room ft Q cnt W i U s z) (hb : Below V.heap.size V W) : WSt B g N F c m room ft Q cnt V W i U z s := ⟨U, z, h, .of_below hb, fun b q => .inl q⟩
end
end Go.Proofs.YtiofonffmplfmaaGreat
