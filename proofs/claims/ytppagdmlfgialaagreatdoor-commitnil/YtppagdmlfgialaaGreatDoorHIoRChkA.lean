/- Which inodes may be: the document's answer. -/
import Derived.Test.YtppagdmlfgialaaGreatDoorHIoRSize
import Derived.BigQuiet
import Derived.Deep.QuietTactic
import Derived.Handy

namespace Go.Proofs.YtppagdmlfgialaaGreatDoor
theorem sgLHIoRChkA : (∀ (α : Type) (a : α) (l r : List α), (a :: l) ++ r = a :: (l ++ r)) ∧ (∀ (α : Type) (l : List α), [] ++ l = l) ∧ (∀ (α : Type) (l : List α), l ++ [] = l) ∧ (∀ (α β : Type) (f : α → Option β) (a : α) (l : List α), (a :: l).filterMap f = match f a with | none => l.filterMap f | some b => b :: l.filterMap f) ∧ (∀ (α β : Type) (f : α → Option β), [].filterMap f = []) ∧ (∀ (α : Type) (l : List α) (i : Nat), l.toArray[i]? = l[i]?) ∧ (∀ (α : Type) (a : α) (l : List α), (a :: l)[0]? = some a) ∧ (∀ (α : Type) (a : α) (l : List α) (i : Nat), (a :: l)[i + 1]? = l[i]?) :=
  ⟨fun _ _ _ _ => List.cons_append, fun _ _ => List.nil_append _, fun _ _ => List.append_nil _, fun _ _ _ _ _ => List.filterMap_cons, fun _ _ _ => List.filterMap_nil, fun _ _ _ => List.getElem?_toArray, fun _ _ _ => List.getElem?_cons_zero, fun _ _ _ _ => List.getElem?_cons_succ⟩
theorem sgPHIoRChkA : (∀ (α : Type) (l : List α) (i : Nat) (a : α), l.toArray.setIfInBounds i a = (l.set i a).toArray) ∧ (∀ (α : Type) (a b : α) (l : List α), (a :: l).set 0 b = b :: l) ∧ (∀ (α : Type) (a b : α) (l : List α) (i : Nat), (a :: l).set (i + 1) b = a :: l.set i b) :=
  ⟨fun _ _ _ _ => List.setIfInBounds_toArray _ _ _, fun _ _ _ _ => List.set_cons_zero, fun _ _ _ _ _ => List.set_cons_succ⟩
end Go.Proofs.YtppagdmlfgialaaGreatDoor
namespace Go.Proofs.YtppagdmlfgialaaGreatDoor
open Go Go.RowKit
set_option linter.unusedSimpArgs false
set_option linter.unusedVariables false
set_option maxRecDepth 100000
set_option maxHeartbeats 1000000 in
theorem rck_k (x : Ino) (w : World) (k : Int) (l s h H : Int) (n : Nat) (br : Bool) (hk : x.k = k) (hl : x.l = l) (hs : x.s = s) (hh : x.h = h) (hn : x.r.1 = n) (hbr : decide (x.r = rf0) = br) (hx0 : decide (x = in0) = false)
    (k1 : ¬ k = 1) (k2 : ¬ k = 2) : Calls Tryz.prog 89 #[.agg (inC x)] w fun e w' => e = .returned (.bool (false)) ∧ Below w.heap.size w w' := by
  have hz := zero_rino
  have hzr := zero_rrf
  have r0 : Blk (w.alloc (.cells (inC x) 116)) w.heap.size 116 (inC x) := Blk.new _ _ _
  have HB : Hid (Below w.heap.size w (w.alloc (.cells (inC x) 116))) := below_new1 _ _
  have hq : ∀ W, (Op.equalIn 10000 116 (.agg (inC x)) (.agg (inC in0))).run Tryz.prog W = .ok (decide (x = in0)) W := eq_rino 9995 x in0
  rw [hx0] at hq
  have hqr : ∀ W, (Op.equalIn 10000 70 (.agg (va 33 (rfF x.r.1 x.r.2))) (.agg (rfC rf0))).run Tryz.prog W = .ok (decide (x.r = rf0)) W := eq_rrf 9997 x.r rf0
  rw [hbr] at hqr
  have q0 : ∀ m, ((w.alloc (.cells (inC x) 116)).drewN m).rangeAt w.heap.size 5 ((List.range 33).map (rfF x.r.1 x.r.2)) := fun m => by
    have h := World.rangeAt_of_block (w := (w.alloc (.cells (inC x) 116)).drewN m) (b := w.heap.size) r0 5 33
    rw [in_ref] at h
    unfold rfC at h
    rwa [va_toList] at h
  have c0 := ino_c0 r0
  have c1 := ino_c1 r0
  have c2 := ino_c2 r0
  have c4 := ino_c4 r0
  have c5 := ino_c5 r0
  rw [hk] at c0
  rw [hl] at c1
  rw [hs] at c2
  rw [hh] at c4
  rw [hn] at c5
  clear hk hl hs hh hn hx0 hbr
  go_enter Tryz.func89, Tryz.ntmps89
  go_wp2_with (first | (refine wpList_load_row (by rfl) 116 _ (by rfl) (w.heap.size) (by rfl) 116 (inC x) (0, 0) _ (by exact r0) Tryz.underlying116 (by rfl) (sizeRIno.trans (by rw [inC_size])) ?_; simp only [Act.put, sgPHIoRChkA]) | (refine wpList_skip (by rfl) ?_; simp only [Act.put, sgPHIoRChkA]) | fail)
  go_ret
  exact ⟨by first | rfl | simp, HB.out⟩
set_option maxHeartbeats 1000000 in
theorem rck_1la (x : Ino) (w : World) (k : Int) (l s h H : Int) (n : Nat) (br : Bool) (hk : x.k = k) (hl : x.l = l) (hs : x.s = s) (hh : x.h = h) (hn : x.r.1 = n) (hbr : decide (x.r = rf0) = br) (hx0 : decide (x = in0) = false)
    (e1 : ¬ (k ≠ 1)) (e2 : ¬ k = 2) (l1 : l < 1) : Calls Tryz.prog 89 #[.agg (inC x)] w fun e w' => e = .returned (.bool (false)) ∧ Below w.heap.size w w' := by
  have hz := zero_rino
  have hzr := zero_rrf
  have r0 : Blk (w.alloc (.cells (inC x) 116)) w.heap.size 116 (inC x) := Blk.new _ _ _
  have HB : Hid (Below w.heap.size w (w.alloc (.cells (inC x) 116))) := below_new1 _ _
  have hq : ∀ W, (Op.equalIn 10000 116 (.agg (inC x)) (.agg (inC in0))).run Tryz.prog W = .ok (decide (x = in0)) W := eq_rino 9995 x in0
  rw [hx0] at hq
  have hqr : ∀ W, (Op.equalIn 10000 70 (.agg (va 33 (rfF x.r.1 x.r.2))) (.agg (rfC rf0))).run Tryz.prog W = .ok (decide (x.r = rf0)) W := eq_rrf 9997 x.r rf0
  rw [hbr] at hqr
  have q0 : ∀ m, ((w.alloc (.cells (inC x) 116)).drewN m).rangeAt w.heap.size 5 ((List.range 33).map (rfF x.r.1 x.r.2)) := fun m => by
    have h := World.rangeAt_of_block (w := (w.alloc (.cells (inC x) 116)).drewN m) (b := w.heap.size) r0 5 33
    rw [in_ref] at h
    unfold rfC at h
    rwa [va_toList] at h
  have c0 := ino_c0 r0
  have c1 := ino_c1 r0
  have c2 := ino_c2 r0
  have c4 := ino_c4 r0
  have c5 := ino_c5 r0
  rw [hk] at c0
  rw [hl] at c1
  rw [hs] at c2
  rw [hh] at c4
  rw [hn] at c5
  clear hk hl hs hh hn hx0 hbr
  go_enter Tryz.func89, Tryz.ntmps89
  go_wp2_with (first | (refine wpList_load_row (by rfl) 116 _ (by rfl) (w.heap.size) (by rfl) 116 (inC x) (0, 0) _ (by exact r0) Tryz.underlying116 (by rfl) (sizeRIno.trans (by rw [inC_size])) ?_; simp only [Act.put, sgPHIoRChkA]) | (refine wpList_skip (by rfl) ?_; simp only [Act.put, sgPHIoRChkA]) | fail)
  go_ret
  exact ⟨by first | rfl | simp, HB.out⟩
set_option maxHeartbeats 1000000 in
theorem rck_1lb (x : Ino) (w : World) (k : Int) (l s h H : Int) (n : Nat) (br : Bool) (hk : x.k = k) (hl : x.l = l) (hs : x.s = s) (hh : x.h = h) (hn : x.r.1 = n) (hbr : decide (x.r = rf0) = br) (hx0 : decide (x = in0) = false)
    (e1 : ¬ (k ≠ 1)) (e2 : ¬ k = 2) (l1 : ¬ l < 1) (l2 : 1000 < l) : Calls Tryz.prog 89 #[.agg (inC x)] w fun e w' => e = .returned (.bool (false)) ∧ Below w.heap.size w w' := by
  have hz := zero_rino
  have hzr := zero_rrf
  have r0 : Blk (w.alloc (.cells (inC x) 116)) w.heap.size 116 (inC x) := Blk.new _ _ _
  have HB : Hid (Below w.heap.size w (w.alloc (.cells (inC x) 116))) := below_new1 _ _
  have hq : ∀ W, (Op.equalIn 10000 116 (.agg (inC x)) (.agg (inC in0))).run Tryz.prog W = .ok (decide (x = in0)) W := eq_rino 9995 x in0
  rw [hx0] at hq
  have hqr : ∀ W, (Op.equalIn 10000 70 (.agg (va 33 (rfF x.r.1 x.r.2))) (.agg (rfC rf0))).run Tryz.prog W = .ok (decide (x.r = rf0)) W := eq_rrf 9997 x.r rf0
  rw [hbr] at hqr
  have q0 : ∀ m, ((w.alloc (.cells (inC x) 116)).drewN m).rangeAt w.heap.size 5 ((List.range 33).map (rfF x.r.1 x.r.2)) := fun m => by
    have h := World.rangeAt_of_block (w := (w.alloc (.cells (inC x) 116)).drewN m) (b := w.heap.size) r0 5 33
    rw [in_ref] at h
    unfold rfC at h
    rwa [va_toList] at h
  have c0 := ino_c0 r0
  have c1 := ino_c1 r0
  have c2 := ino_c2 r0
  have c4 := ino_c4 r0
  have c5 := ino_c5 r0
  rw [hk] at c0
  rw [hl] at c1
  rw [hs] at c2
  rw [hh] at c4
  rw [hn] at c5
  clear hk hl hs hh hn hx0 hbr
  go_enter Tryz.func89, Tryz.ntmps89
  go_wp2_with (first | (refine wpList_load_row (by rfl) 116 _ (by rfl) (w.heap.size) (by rfl) 116 (inC x) (0, 0) _ (by exact r0) Tryz.underlying116 (by rfl) (sizeRIno.trans (by rw [inC_size])) ?_; simp only [Act.put, sgPHIoRChkA]) | (refine wpList_skip (by rfl) ?_; simp only [Act.put, sgPHIoRChkA]) | fail)
  go_ret
  exact ⟨by first | rfl | simp, HB.out⟩
set_option maxHeartbeats 1000000 in
theorem rck_1sa (x : Ino) (w : World) (k : Int) (l s h H : Int) (n : Nat) (br : Bool) (hk : x.k = k) (hl : x.l = l) (hs : x.s = s) (hh : x.h = h) (hn : x.r.1 = n) (hbr : decide (x.r = rf0) = br) (hx0 : decide (x = in0) = false)
    (e1 : ¬ (k ≠ 1)) (e2 : ¬ k = 2) (l1 : ¬ l < 1) (l2 : ¬ 1000 < l) (s1 : s < 0) : Calls Tryz.prog 89 #[.agg (inC x)] w fun e w' => e = .returned (.bool (false)) ∧ Below w.heap.size w w' := by
  have hz := zero_rino
  have hzr := zero_rrf
  have r0 : Blk (w.alloc (.cells (inC x) 116)) w.heap.size 116 (inC x) := Blk.new _ _ _
  have HB : Hid (Below w.heap.size w (w.alloc (.cells (inC x) 116))) := below_new1 _ _
  have hq : ∀ W, (Op.equalIn 10000 116 (.agg (inC x)) (.agg (inC in0))).run Tryz.prog W = .ok (decide (x = in0)) W := eq_rino 9995 x in0
  rw [hx0] at hq
  have hqr : ∀ W, (Op.equalIn 10000 70 (.agg (va 33 (rfF x.r.1 x.r.2))) (.agg (rfC rf0))).run Tryz.prog W = .ok (decide (x.r = rf0)) W := eq_rrf 9997 x.r rf0
  rw [hbr] at hqr
  have q0 : ∀ m, ((w.alloc (.cells (inC x) 116)).drewN m).rangeAt w.heap.size 5 ((List.range 33).map (rfF x.r.1 x.r.2)) := fun m => by
    have h := World.rangeAt_of_block (w := (w.alloc (.cells (inC x) 116)).drewN m) (b := w.heap.size) r0 5 33
    rw [in_ref] at h
    unfold rfC at h
    rwa [va_toList] at h
  have c0 := ino_c0 r0
  have c1 := ino_c1 r0
  have c2 := ino_c2 r0
  have c4 := ino_c4 r0
  have c5 := ino_c5 r0
  rw [hk] at c0
  rw [hl] at c1
  rw [hs] at c2
  rw [hh] at c4
  rw [hn] at c5
  clear hk hl hs hh hn hx0 hbr
  go_enter Tryz.func89, Tryz.ntmps89
  go_wp2_with (first | (refine wpList_load_row (by rfl) 116 _ (by rfl) (w.heap.size) (by rfl) 116 (inC x) (0, 0) _ (by exact r0) Tryz.underlying116 (by rfl) (sizeRIno.trans (by rw [inC_size])) ?_; simp only [Act.put, sgPHIoRChkA]) | (refine wpList_skip (by rfl) ?_; simp only [Act.put, sgPHIoRChkA]) | fail)
  go_ret
  exact ⟨by first | rfl | simp, HB.out⟩
set_option maxHeartbeats 1000000 in
theorem rck_1sb (x : Ino) (w : World) (k : Int) (l s h H : Int) (n : Nat) (br : Bool) (hk : x.k = k) (hl : x.l = l) (hs : x.s = s) (hh : x.h = h) (hn : x.r.1 = n) (hbr : decide (x.r = rf0) = br) (hx0 : decide (x = in0) = false)
    (e1 : ¬ (k ≠ 1)) (e2 : ¬ k = 2) (l1 : ¬ l < 1) (l2 : ¬ 1000 < l) (s1 : ¬ s < 0) (s2 : 1048576 < s) : Calls Tryz.prog 89 #[.agg (inC x)] w fun e w' => e = .returned (.bool (false)) ∧ Below w.heap.size w w' := by
  have hz := zero_rino
  have hzr := zero_rrf
  have r0 : Blk (w.alloc (.cells (inC x) 116)) w.heap.size 116 (inC x) := Blk.new _ _ _
  have HB : Hid (Below w.heap.size w (w.alloc (.cells (inC x) 116))) := below_new1 _ _
  have hq : ∀ W, (Op.equalIn 10000 116 (.agg (inC x)) (.agg (inC in0))).run Tryz.prog W = .ok (decide (x = in0)) W := eq_rino 9995 x in0
  rw [hx0] at hq
  have hqr : ∀ W, (Op.equalIn 10000 70 (.agg (va 33 (rfF x.r.1 x.r.2))) (.agg (rfC rf0))).run Tryz.prog W = .ok (decide (x.r = rf0)) W := eq_rrf 9997 x.r rf0
  rw [hbr] at hqr
  have q0 : ∀ m, ((w.alloc (.cells (inC x) 116)).drewN m).rangeAt w.heap.size 5 ((List.range 33).map (rfF x.r.1 x.r.2)) := fun m => by
    have h := World.rangeAt_of_block (w := (w.alloc (.cells (inC x) 116)).drewN m) (b := w.heap.size) r0 5 33
    rw [in_ref] at h
    unfold rfC at h
    rwa [va_toList] at h
  have c0 := ino_c0 r0
  have c1 := ino_c1 r0
  have c2 := ino_c2 r0
  have c4 := ino_c4 r0
  have c5 := ino_c5 r0
  rw [hk] at c0
  rw [hl] at c1
  rw [hs] at c2
  rw [hh] at c4
  rw [hn] at c5
  clear hk hl hs hh hn hx0 hbr
  go_enter Tryz.func89, Tryz.ntmps89
  go_wp2_with (first | (refine wpList_load_row (by rfl) 116 _ (by rfl) (w.heap.size) (by rfl) 116 (inC x) (0, 0) _ (by exact r0) Tryz.underlying116 (by rfl) (sizeRIno.trans (by rw [inC_size])) ?_; simp only [Act.put, sgPHIoRChkA]) | (refine wpList_skip (by rfl) ?_; simp only [Act.put, sgPHIoRChkA]) | fail)
  go_ret
  exact ⟨by first | rfl | simp, HB.out⟩
set_option maxHeartbeats 1000000 in
theorem rck_1h (x : Ino) (w : World) (k : Int) (l s h H : Int) (n : Nat) (br : Bool) (hk : x.k = k) (hl : x.l = l) (hs : x.s = s) (hh : x.h = h) (hn : x.r.1 = n) (hbr : decide (x.r = rf0) = br) (hx0 : decide (x = in0) = false)
    (HS : Hid (∀ w : World, Calls Tryz.prog 147 #[.int .i64 s] w fun e w' => e = .returned (.int .i64 H) ∧ w' = w)) (e1 : ¬ (k ≠ 1)) (e2 : ¬ k = 2) (l1 : ¬ l < 1) (l2 : ¬ 1000 < l) (s1 : ¬ s < 0) (s2 : ¬ 1048576 < s) (h1 : ¬ h = H) : Calls Tryz.prog 89 #[.agg (inC x)] w fun e w' => e = .returned (.bool (false)) ∧ Below w.heap.size w w' := by
  have hz := zero_rino
  have hzr := zero_rrf
  have r0 : Blk (w.alloc (.cells (inC x) 116)) w.heap.size 116 (inC x) := Blk.new _ _ _
  have HB : Hid (Below w.heap.size w (w.alloc (.cells (inC x) 116))) := below_new1 _ _
  have hq : ∀ W, (Op.equalIn 10000 116 (.agg (inC x)) (.agg (inC in0))).run Tryz.prog W = .ok (decide (x = in0)) W := eq_rino 9995 x in0
  rw [hx0] at hq
  have hqr : ∀ W, (Op.equalIn 10000 70 (.agg (va 33 (rfF x.r.1 x.r.2))) (.agg (rfC rf0))).run Tryz.prog W = .ok (decide (x.r = rf0)) W := eq_rrf 9997 x.r rf0
  rw [hbr] at hqr
  have q0 : ∀ m, ((w.alloc (.cells (inC x) 116)).drewN m).rangeAt w.heap.size 5 ((List.range 33).map (rfF x.r.1 x.r.2)) := fun m => by
    have h := World.rangeAt_of_block (w := (w.alloc (.cells (inC x) 116)).drewN m) (b := w.heap.size) r0 5 33
    rw [in_ref] at h
    unfold rfC at h
    rwa [va_toList] at h
  have c0 := ino_c0 r0
  have c1 := ino_c1 r0
  have c2 := ino_c2 r0
  have c4 := ino_c4 r0
  have c5 := ino_c5 r0
  rw [hk] at c0
  rw [hl] at c1
  rw [hs] at c2
  rw [hh] at c4
  rw [hn] at c5
  clear hk hl hs hh hn hx0 hbr
  go_enter Tryz.func89, Tryz.ntmps89
  go_wp2_with (first | (refine wpList_load_row (by rfl) 116 _ (by rfl) (w.heap.size) (by rfl) 116 (inC x) (0, 0) _ (by exact r0) Tryz.underlying116 (by rfl) (sizeRIno.trans (by rw [inC_size])) ?_; simp only [Act.put, sgPHIoRChkA]) | (refine wpList_skip (by rfl) ?_; simp only [Act.put, sgPHIoRChkA]) | fail)
  go_quiet ((go_at_call 147; exact Calls.quiet_of_same (HS.out _)))
  go_wp2_with (first | (refine wpList_load_blk (by rfl) 70 _ (by rfl) (w.heap.size) 5 33 (rfF x.r.1 x.r.2) (by rfl) _ (q0 _) Tryz.underlying70 rfl sizeRRf ?_; simp only [Act.put, sgPHIoRChkA]) | (refine wpList_skip (by rfl) ?_; simp only [Act.put, sgPHIoRChkA]) | fail)
  go_ret
  exact ⟨by first | rfl | simp, io_dN HB.out _⟩
set_option maxHeartbeats 1000000 in
theorem rck_1a (x : Ino) (w : World) (k : Int) (l s h H : Int) (n : Nat) (br : Bool) (hk : x.k = k) (hl : x.l = l) (hs : x.s = s) (hh : x.h = h) (hn : x.r.1 = n) (hbr : decide (x.r = rf0) = br) (hx0 : decide (x = in0) = false)
    (HS : Hid (∀ w : World, Calls Tryz.prog 147 #[.int .i64 s] w fun e w' => e = .returned (.int .i64 H) ∧ w' = w)) (e1 : ¬ (k ≠ 1)) (e2 : ¬ k = 2) (l1 : ¬ l < 1) (l2 : ¬ 1000 < l) (s1 : ¬ s < 0) (s2 : ¬ 1048576 < s) (h1 : h = H) (a1 : (8192 : Int) ≤ (n : Int)) : Calls Tryz.prog 89 #[.agg (inC x)] w fun e w' => e = .returned (.bool (false)) ∧ Below w.heap.size w w' := by
  have hz := zero_rino
  have hzr := zero_rrf
  have r0 : Blk (w.alloc (.cells (inC x) 116)) w.heap.size 116 (inC x) := Blk.new _ _ _
  have HB : Hid (Below w.heap.size w (w.alloc (.cells (inC x) 116))) := below_new1 _ _
  have hq : ∀ W, (Op.equalIn 10000 116 (.agg (inC x)) (.agg (inC in0))).run Tryz.prog W = .ok (decide (x = in0)) W := eq_rino 9995 x in0
  rw [hx0] at hq
  have hqr : ∀ W, (Op.equalIn 10000 70 (.agg (va 33 (rfF x.r.1 x.r.2))) (.agg (rfC rf0))).run Tryz.prog W = .ok (decide (x.r = rf0)) W := eq_rrf 9997 x.r rf0
  rw [hbr] at hqr
  have q0 : ∀ m, ((w.alloc (.cells (inC x) 116)).drewN m).rangeAt w.heap.size 5 ((List.range 33).map (rfF x.r.1 x.r.2)) := fun m => by
    have h := World.rangeAt_of_block (w := (w.alloc (.cells (inC x) 116)).drewN m) (b := w.heap.size) r0 5 33
    rw [in_ref] at h
    unfold rfC at h
    rwa [va_toList] at h
  have c0 := ino_c0 r0
  have c1 := ino_c1 r0
  have c2 := ino_c2 r0
  have c4 := ino_c4 r0
  have c5 := ino_c5 r0
  rw [hk] at c0
  rw [hl] at c1
  rw [hs] at c2
  rw [hh] at c4
  rw [hn] at c5
  clear hk hl hs hh hn hx0 hbr
  subst h1
  go_enter Tryz.func89, Tryz.ntmps89
  go_wp2_with (first | (refine wpList_load_row (by rfl) 116 _ (by rfl) (w.heap.size) (by rfl) 116 (inC x) (0, 0) _ (by exact r0) Tryz.underlying116 (by rfl) (sizeRIno.trans (by rw [inC_size])) ?_; simp only [Act.put, sgPHIoRChkA]) | (refine wpList_skip (by rfl) ?_; simp only [Act.put, sgPHIoRChkA]) | fail)
  go_quiet ((go_at_call 147; exact Calls.quiet_of_same (HS.out _)))
  go_wp2_with (first | (refine wpList_load_blk (by rfl) 70 _ (by rfl) (w.heap.size) 5 33 (rfF x.r.1 x.r.2) (by rfl) _ (q0 _) Tryz.underlying70 rfl sizeRRf ?_; simp only [Act.put, sgPHIoRChkA]) | (refine wpList_skip (by rfl) ?_; simp only [Act.put, sgPHIoRChkA]) | fail)
  go_ret
  exact ⟨by first | rfl | simp, io_dN HB.out _⟩
set_option maxHeartbeats 1000000 in
theorem rck_1r (x : Ino) (w : World) (k : Int) (l s h H : Int) (n : Nat) (z : Int) (hk : x.k = k) (hl : x.l = l) (hs : x.s = s) (hh : x.h = h) (hn : x.r.1 = n) (hbr : decide (x.r = rf0) = (z == 1)) (hx0 : decide (x = in0) = false)
    (HS : Hid (∀ w : World, Calls Tryz.prog 147 #[.int .i64 s] w fun e w' => e = .returned (.int .i64 H) ∧ w' = w)) (e1 : ¬ (k ≠ 1)) (e2 : ¬ k = 2) (l1 : ¬ l < 1) (l2 : ¬ 1000 < l) (s1 : ¬ s < 0) (s2 : ¬ 1048576 < s) (h1 : h = H) (a1 : ¬ (8192 : Int) ≤ (n : Int)) (e3 : ¬ (z ≠ 1)) : Calls Tryz.prog 89 #[.agg (inC x)] w fun e w' => e = .returned (.bool (true)) ∧ Below w.heap.size w w' := by
  have hz := zero_rino
  have hzr := zero_rrf
  have r0 : Blk (w.alloc (.cells (inC x) 116)) w.heap.size 116 (inC x) := Blk.new _ _ _
  have HB : Hid (Below w.heap.size w (w.alloc (.cells (inC x) 116))) := below_new1 _ _
  have hq : ∀ W, (Op.equalIn 10000 116 (.agg (inC x)) (.agg (inC in0))).run Tryz.prog W = .ok (decide (x = in0)) W := eq_rino 9995 x in0
  rw [hx0] at hq
  have hqr : ∀ W, (Op.equalIn 10000 70 (.agg (va 33 (rfF x.r.1 x.r.2))) (.agg (rfC rf0))).run Tryz.prog W = .ok (decide (x.r = rf0)) W := eq_rrf 9997 x.r rf0
  rw [hbr] at hqr
  have q0 : ∀ m, ((w.alloc (.cells (inC x) 116)).drewN m).rangeAt w.heap.size 5 ((List.range 33).map (rfF x.r.1 x.r.2)) := fun m => by
    have h := World.rangeAt_of_block (w := (w.alloc (.cells (inC x) 116)).drewN m) (b := w.heap.size) r0 5 33
    rw [in_ref] at h
    unfold rfC at h
    rwa [va_toList] at h
  have c0 := ino_c0 r0
  have c1 := ino_c1 r0
  have c2 := ino_c2 r0
  have c4 := ino_c4 r0
  have c5 := ino_c5 r0
  rw [hk] at c0
  rw [hl] at c1
  rw [hs] at c2
  rw [hh] at c4
  rw [hn] at c5
  clear hk hl hs hh hn hx0 hbr
  subst h1
  go_enter Tryz.func89, Tryz.ntmps89
  go_wp2_with (first | (refine wpList_load_row (by rfl) 116 _ (by rfl) (w.heap.size) (by rfl) 116 (inC x) (0, 0) _ (by exact r0) Tryz.underlying116 (by rfl) (sizeRIno.trans (by rw [inC_size])) ?_; simp only [Act.put, sgPHIoRChkA]) | (refine wpList_skip (by rfl) ?_; simp only [Act.put, sgPHIoRChkA]) | fail)
  go_quiet ((go_at_call 147; exact Calls.quiet_of_same (HS.out _)))
  go_wp2_with (first | (refine wpList_load_blk (by rfl) 70 _ (by rfl) (w.heap.size) 5 33 (rfF x.r.1 x.r.2) (by rfl) _ (q0 _) Tryz.underlying70 rfl sizeRRf ?_; simp only [Act.put, sgPHIoRChkA]) | (refine wpList_skip (by rfl) ?_; simp only [Act.put, sgPHIoRChkA]) | fail)
  go_ret
  have e4 : z = 1 := by omega
  exact ⟨by rw [e4]; rfl, io_dN HB.out _⟩
set_option maxHeartbeats 1000000 in
theorem rck_1z (x : Ino) (w : World) (k : Int) (l s h H : Int) (n : Nat) (br : Bool) (hk : x.k = k) (hl : x.l = l) (hs : x.s = s) (hh : x.h = h) (hn : x.r.1 = n) (hbr : decide (x.r = rf0) = br) (hx0 : decide (x = in0) = false)
    (HS : Hid (∀ w : World, Calls Tryz.prog 147 #[.int .i64 s] w fun e w' => e = .returned (.int .i64 H) ∧ w' = w)) (e1 : ¬ (k ≠ 1)) (e2 : ¬ k = 2) (l1 : ¬ l < 1) (l2 : ¬ 1000 < l) (s1 : ¬ s < 0) (s2 : ¬ 1048576 < s) (h1 : h = H) (a1 : ¬ (8192 : Int) ≤ (n : Int)) (b1 : br = false) (n1 : (n : Int) = 0) : Calls Tryz.prog 89 #[.agg (inC x)] w fun e w' => e = .returned (.bool (false)) ∧ Below w.heap.size w w' := by
  have hz := zero_rino
  have hzr := zero_rrf
  have r0 : Blk (w.alloc (.cells (inC x) 116)) w.heap.size 116 (inC x) := Blk.new _ _ _
  have HB : Hid (Below w.heap.size w (w.alloc (.cells (inC x) 116))) := below_new1 _ _
  have hq : ∀ W, (Op.equalIn 10000 116 (.agg (inC x)) (.agg (inC in0))).run Tryz.prog W = .ok (decide (x = in0)) W := eq_rino 9995 x in0
  rw [hx0] at hq
  have hqr : ∀ W, (Op.equalIn 10000 70 (.agg (va 33 (rfF x.r.1 x.r.2))) (.agg (rfC rf0))).run Tryz.prog W = .ok (decide (x.r = rf0)) W := eq_rrf 9997 x.r rf0
  rw [hbr] at hqr
  have q0 : ∀ m, ((w.alloc (.cells (inC x) 116)).drewN m).rangeAt w.heap.size 5 ((List.range 33).map (rfF x.r.1 x.r.2)) := fun m => by
    have h := World.rangeAt_of_block (w := (w.alloc (.cells (inC x) 116)).drewN m) (b := w.heap.size) r0 5 33
    rw [in_ref] at h
    unfold rfC at h
    rwa [va_toList] at h
  have c0 := ino_c0 r0
  have c1 := ino_c1 r0
  have c2 := ino_c2 r0
  have c4 := ino_c4 r0
  have c5 := ino_c5 r0
  rw [hk] at c0
  rw [hl] at c1
  rw [hs] at c2
  rw [hh] at c4
  rw [hn] at c5
  clear hk hl hs hh hn hx0 hbr
  subst h1
  subst b1
  go_enter Tryz.func89, Tryz.ntmps89
  go_wp2_with (first | (refine wpList_load_row (by rfl) 116 _ (by rfl) (w.heap.size) (by rfl) 116 (inC x) (0, 0) _ (by exact r0) Tryz.underlying116 (by rfl) (sizeRIno.trans (by rw [inC_size])) ?_; simp only [Act.put, sgPHIoRChkA]) | (refine wpList_skip (by rfl) ?_; simp only [Act.put, sgPHIoRChkA]) | fail)
  go_quiet ((go_at_call 147; exact Calls.quiet_of_same (HS.out _)))
  go_wp2_with (first | (refine wpList_load_blk (by rfl) 70 _ (by rfl) (w.heap.size) 5 33 (rfF x.r.1 x.r.2) (by rfl) _ (q0 _) Tryz.underlying70 rfl sizeRRf ?_; simp only [Act.put, sgPHIoRChkA]) | (refine wpList_skip (by rfl) ?_; simp only [Act.put, sgPHIoRChkA]) | fail)
  go_ret
  exact ⟨by first | rfl | simp, io_dN HB.out _⟩
set_option maxHeartbeats 1000000 in
theorem rck_1t (x : Ino) (w : World) (k : Int) (l s h H : Int) (n : Nat) (br : Bool) (hk : x.k = k) (hl : x.l = l) (hs : x.s = s) (hh : x.h = h) (hn : x.r.1 = n) (hbr : decide (x.r = rf0) = br) (hx0 : decide (x = in0) = false)
    (HS : Hid (∀ w : World, Calls Tryz.prog 147 #[.int .i64 s] w fun e w' => e = .returned (.int .i64 H) ∧ w' = w)) (e1 : ¬ (k ≠ 1)) (e2 : ¬ k = 2) (l1 : ¬ l < 1) (l2 : ¬ 1000 < l) (s1 : ¬ s < 0) (s2 : ¬ 1048576 < s) (h1 : h = H) (a1 : ¬ (8192 : Int) ≤ (n : Int)) (b1 : br = false) (n1 : ¬ (n : Int) = 0) : Calls Tryz.prog 89 #[.agg (inC x)] w fun e w' => e = .returned (.bool (decide (¬ s = 0))) ∧ Below w.heap.size w w' := by
  have hz := zero_rino
  have hzr := zero_rrf
  have r0 : Blk (w.alloc (.cells (inC x) 116)) w.heap.size 116 (inC x) := Blk.new _ _ _
  have HB : Hid (Below w.heap.size w (w.alloc (.cells (inC x) 116))) := below_new1 _ _
  have hq : ∀ W, (Op.equalIn 10000 116 (.agg (inC x)) (.agg (inC in0))).run Tryz.prog W = .ok (decide (x = in0)) W := eq_rino 9995 x in0
  rw [hx0] at hq
  have hqr : ∀ W, (Op.equalIn 10000 70 (.agg (va 33 (rfF x.r.1 x.r.2))) (.agg (rfC rf0))).run Tryz.prog W = .ok (decide (x.r = rf0)) W := eq_rrf 9997 x.r rf0
  rw [hbr] at hqr
  have q0 : ∀ m, ((w.alloc (.cells (inC x) 116)).drewN m).rangeAt w.heap.size 5 ((List.range 33).map (rfF x.r.1 x.r.2)) := fun m => by
    have h := World.rangeAt_of_block (w := (w.alloc (.cells (inC x) 116)).drewN m) (b := w.heap.size) r0 5 33
    rw [in_ref] at h
    unfold rfC at h
    rwa [va_toList] at h
  have c0 := ino_c0 r0
  have c1 := ino_c1 r0
  have c2 := ino_c2 r0
  have c4 := ino_c4 r0
  have c5 := ino_c5 r0
  rw [hk] at c0
  rw [hl] at c1
  rw [hs] at c2
  rw [hh] at c4
  rw [hn] at c5
  clear hk hl hs hh hn hx0 hbr
  subst h1
  subst b1
  go_enter Tryz.func89, Tryz.ntmps89
  go_wp2_with (first | (refine wpList_load_row (by rfl) 116 _ (by rfl) (w.heap.size) (by rfl) 116 (inC x) (0, 0) _ (by exact r0) Tryz.underlying116 (by rfl) (sizeRIno.trans (by rw [inC_size])) ?_; simp only [Act.put, sgPHIoRChkA]) | (refine wpList_skip (by rfl) ?_; simp only [Act.put, sgPHIoRChkA]) | fail)
  go_quiet ((go_at_call 147; exact Calls.quiet_of_same (HS.out _)))
  go_wp2_with (first | (refine wpList_load_blk (by rfl) 70 _ (by rfl) (w.heap.size) 5 33 (rfF x.r.1 x.r.2) (by rfl) _ (q0 _) Tryz.underlying70 rfl sizeRRf ?_; simp only [Act.put, sgPHIoRChkA]) | (refine wpList_skip (by rfl) ?_; simp only [Act.put, sgPHIoRChkA]) | fail)
  go_ret
  refine ⟨?_, io_dN HB.out _⟩
  have n2 : ¬ n = 0 := by omega
  by_cases s0 : s = 0 <;> simp [s0, n2]
end Go.Proofs.YtppagdmlfgialaaGreatDoor
