/- Numbers of two and of eight bytes: laid, taken out of texts. -/
import Derived.Test.YtpoaipoadokggaaHIoRChkA
import Derived.BigQuiet
import Derived.Deep.QuietTactic
import Derived.Handy
import Derived.Test.YtpoaipoadokggaaHNdKit

namespace Go.Proofs.Ytpoaipoadokggaa
open Go Go.RowKit
set_option linter.unusedSimpArgs false
set_option linter.unusedVariables false
set_option maxRecDepth 100000
set_option maxHeartbeats 1000000 in
theorem rck_2la (x : Ino) (w : World) (l s h H : Int) (n : Nat) (br : Bool) (hk : x.k = 2) (hl : x.l = l) (hs : x.s = s) (hh : x.h = h) (hn : x.r.1 = n) (hbr : decide (x.r = rf0) = br) (hx0 : decide (x = in0) = false)
    (l1 : l < 1) : Calls Try.prog 27 #[.agg (inC x)] w fun e w' => e = .returned (.bool (false)) ∧ Below w.heap.size w w' := by
  have hz := zero_rino
  have hzr := zero_rrf
  have r0 : Blk (w.alloc (.cells (inC x) 44)) w.heap.size 44 (inC x) := Blk.new _ _ _
  have HB : Hid (Below w.heap.size w (w.alloc (.cells (inC x) 44))) := below_new1 _ _
  have hq : ∀ W, (Op.equalIn 10000 44 (.agg (inC x)) (.agg (inC in0))).run Try.prog W = .ok (decide (x = in0)) W := eq_rino 9995 x in0
  rw [hx0] at hq
  have hqr : ∀ W, (Op.equalIn 10000 40 (.agg (va 33 (rfF x.r.1 x.r.2))) (.agg (rfC rf0))).run Try.prog W = .ok (decide (x.r = rf0)) W := eq_rrf 9997 x.r rf0
  rw [hbr] at hqr
  have q0 : ∀ m, ((w.alloc (.cells (inC x) 44)).drewN m).rangeAt w.heap.size 5 ((List.range 33).map (rfF x.r.1 x.r.2)) := fun m => by
    have h := World.rangeAt_of_block (w := (w.alloc (.cells (inC x) 44)).drewN m) (b := w.heap.size) r0 5 33
    rw [in_ref] at h
    unfold rfC at h
    rwa [va_toList] at h
  have c0 := ino_c0 r0
  have c1 := ino_c1 r0
  have c2 := ino_c2 r0
  have c4 := ino_c4 r0
  have c5 := ino_c5 r0
  rw [hk] at c0
  rw [hl] at c1
  rw [hs] at c2
  rw [hh] at c4
  rw [hn] at c5
  clear hk hl hs hh hn hx0 hbr
  go_enter Try.func27, Try.ntmps27
  go_wp2_with (first | (refine wpList_load_row (by rfl) 44 _ (by rfl) (w.heap.size) (by rfl) 44 (inC x) (0, 0) _ (by exact r0) Try.underlying44 (by rfl) (sizeRIno.trans (by rw [inC_size])) ?_; simp only [Act.put, List.setIfInBounds_toArray, List.set_cons_zero, List.set_cons_succ]) | (refine wpList_skip (by rfl) ?_; simp only [Act.put, List.setIfInBounds_toArray, List.set_cons_zero, List.set_cons_succ]) | fail)
  go_ret
  exact ⟨by first | rfl | simp, HB.out⟩
set_option maxHeartbeats 1000000 in
theorem rck_2lb (x : Ino) (w : World) (l s h H : Int) (n : Nat) (br : Bool) (hk : x.k = 2) (hl : x.l = l) (hs : x.s = s) (hh : x.h = h) (hn : x.r.1 = n) (hbr : decide (x.r = rf0) = br) (hx0 : decide (x = in0) = false)
    (l1 : ¬ l < 1) (l2 : 1000 < l) : Calls Try.prog 27 #[.agg (inC x)] w fun e w' => e = .returned (.bool (false)) ∧ Below w.heap.size w w' := by
  have hz := zero_rino
  have hzr := zero_rrf
  have r0 : Blk (w.alloc (.cells (inC x) 44)) w.heap.size 44 (inC x) := Blk.new _ _ _
  have HB : Hid (Below w.heap.size w (w.alloc (.cells (inC x) 44))) := below_new1 _ _
  have hq : ∀ W, (Op.equalIn 10000 44 (.agg (inC x)) (.agg (inC in0))).run Try.prog W = .ok (decide (x = in0)) W := eq_rino 9995 x in0
  rw [hx0] at hq
  have hqr : ∀ W, (Op.equalIn 10000 40 (.agg (va 33 (rfF x.r.1 x.r.2))) (.agg (rfC rf0))).run Try.prog W = .ok (decide (x.r = rf0)) W := eq_rrf 9997 x.r rf0
  rw [hbr] at hqr
  have q0 : ∀ m, ((w.alloc (.cells (inC x) 44)).drewN m).rangeAt w.heap.size 5 ((List.range 33).map (rfF x.r.1 x.r.2)) := fun m => by
    have h := World.rangeAt_of_block (w := (w.alloc (.cells (inC x) 44)).drewN m) (b := w.heap.size) r0 5 33
    rw [in_ref] at h
    unfold rfC at h
    rwa [va_toList] at h
  have c0 := ino_c0 r0
  have c1 := ino_c1 r0
  have c2 := ino_c2 r0
  have c4 := ino_c4 r0
  have c5 := ino_c5 r0
  rw [hk] at c0
  rw [hl] at c1
  rw [hs] at c2
  rw [hh] at c4
  rw [hn] at c5
  clear hk hl hs hh hn hx0 hbr
  go_enter Try.func27, Try.ntmps27
  go_wp2_with (first | (refine wpList_load_row (by rfl) 44 _ (by rfl) (w.heap.size) (by rfl) 44 (inC x) (0, 0) _ (by exact r0) Try.underlying44 (by rfl) (sizeRIno.trans (by rw [inC_size])) ?_; simp only [Act.put, List.setIfInBounds_toArray, List.set_cons_zero, List.set_cons_succ]) | (refine wpList_skip (by rfl) ?_; simp only [Act.put, List.setIfInBounds_toArray, List.set_cons_zero, List.set_cons_succ]) | fail)
  go_ret
  exact ⟨by first | rfl | simp, HB.out⟩
set_option maxHeartbeats 1000000 in
theorem rck_2sa (x : Ino) (w : World) (l s h H : Int) (n : Nat) (br : Bool) (hk : x.k = 2) (hl : x.l = l) (hs : x.s = s) (hh : x.h = h) (hn : x.r.1 = n) (hbr : decide (x.r = rf0) = br) (hx0 : decide (x = in0) = false)
    (l1 : ¬ l < 1) (l2 : ¬ 1000 < l) (s1 : s < 0) : Calls Try.prog 27 #[.agg (inC x)] w fun e w' => e = .returned (.bool (false)) ∧ Below w.heap.size w w' := by
  have hz := zero_rino
  have hzr := zero_rrf
  have r0 : Blk (w.alloc (.cells (inC x) 44)) w.heap.size 44 (inC x) := Blk.new _ _ _
  have HB : Hid (Below w.heap.size w (w.alloc (.cells (inC x) 44))) := below_new1 _ _
  have hq : ∀ W, (Op.equalIn 10000 44 (.agg (inC x)) (.agg (inC in0))).run Try.prog W = .ok (decide (x = in0)) W := eq_rino 9995 x in0
  rw [hx0] at hq
  have hqr : ∀ W, (Op.equalIn 10000 40 (.agg (va 33 (rfF x.r.1 x.r.2))) (.agg (rfC rf0))).run Try.prog W = .ok (decide (x.r = rf0)) W := eq_rrf 9997 x.r rf0
  rw [hbr] at hqr
  have q0 : ∀ m, ((w.alloc (.cells (inC x) 44)).drewN m).rangeAt w.heap.size 5 ((List.range 33).map (rfF x.r.1 x.r.2)) := fun m => by
    have h := World.rangeAt_of_block (w := (w.alloc (.cells (inC x) 44)).drewN m) (b := w.heap.size) r0 5 33
    rw [in_ref] at h
    unfold rfC at h
    rwa [va_toList] at h
  have c0 := ino_c0 r0
  have c1 := ino_c1 r0
  have c2 := ino_c2 r0
  have c4 := ino_c4 r0
  have c5 := ino_c5 r0
  rw [hk] at c0
  rw [hl] at c1
  rw [hs] at c2
  rw [hh] at c4
  rw [hn] at c5
  clear hk hl hs hh hn hx0 hbr
  go_enter Try.func27, Try.ntmps27
  go_wp2_with (first | (refine wpList_load_row (by rfl) 44 _ (by rfl) (w.heap.size) (by rfl) 44 (inC x) (0, 0) _ (by exact r0) Try.underlying44 (by rfl) (sizeRIno.trans (by rw [inC_size])) ?_; simp only [Act.put, List.setIfInBounds_toArray, List.set_cons_zero, List.set_cons_succ]) | (refine wpList_skip (by rfl) ?_; simp only [Act.put, List.setIfInBounds_toArray, List.set_cons_zero, List.set_cons_succ]) | fail)
  go_ret
  exact ⟨by first | rfl | simp, HB.out⟩
set_option maxHeartbeats 1000000 in
theorem rck_2sb (x : Ino) (w : World) (l s h H : Int) (n : Nat) (br : Bool) (hk : x.k = 2) (hl : x.l = l) (hs : x.s = s) (hh : x.h = h) (hn : x.r.1 = n) (hbr : decide (x.r = rf0) = br) (hx0 : decide (x = in0) = false)
    (l1 : ¬ l < 1) (l2 : ¬ 1000 < l) (s1 : ¬ s < 0) (s2 : 1048576 < s) : Calls Try.prog 27 #[.agg (inC x)] w fun e w' => e = .returned (.bool (false)) ∧ Below w.heap.size w w' := by
  have hz := zero_rino
  have hzr := zero_rrf
  have r0 : Blk (w.alloc (.cells (inC x) 44)) w.heap.size 44 (inC x) := Blk.new _ _ _
  have HB : Hid (Below w.heap.size w (w.alloc (.cells (inC x) 44))) := below_new1 _ _
  have hq : ∀ W, (Op.equalIn 10000 44 (.agg (inC x)) (.agg (inC in0))).run Try.prog W = .ok (decide (x = in0)) W := eq_rino 9995 x in0
  rw [hx0] at hq
  have hqr : ∀ W, (Op.equalIn 10000 40 (.agg (va 33 (rfF x.r.1 x.r.2))) (.agg (rfC rf0))).run Try.prog W = .ok (decide (x.r = rf0)) W := eq_rrf 9997 x.r rf0
  rw [hbr] at hqr
  have q0 : ∀ m, ((w.alloc (.cells (inC x) 44)).drewN m).rangeAt w.heap.size 5 ((List.range 33).map (rfF x.r.1 x.r.2)) := fun m => by
    have h := World.rangeAt_of_block (w := (w.alloc (.cells (inC x) 44)).drewN m) (b := w.heap.size) r0 5 33
    rw [in_ref] at h
    unfold rfC at h
    rwa [va_toList] at h
  have c0 := ino_c0 r0
  have c1 := ino_c1 r0
  have c2 := ino_c2 r0
  have c4 := ino_c4 r0
  have c5 := ino_c5 r0
  rw [hk] at c0
  rw [hl] at c1
  rw [hs] at c2
  rw [hh] at c4
  rw [hn] at c5
  clear hk hl hs hh hn hx0 hbr
  go_enter Try.func27, Try.ntmps27
  go_wp2_with (first | (refine wpList_load_row (by rfl) 44 _ (by rfl) (w.heap.size) (by rfl) 44 (inC x) (0, 0) _ (by exact r0) Try.underlying44 (by rfl) (sizeRIno.trans (by rw [inC_size])) ?_; simp only [Act.put, List.setIfInBounds_toArray, List.set_cons_zero, List.set_cons_succ]) | (refine wpList_skip (by rfl) ?_; simp only [Act.put, List.setIfInBounds_toArray, List.set_cons_zero, List.set_cons_succ]) | fail)
  go_ret
  exact ⟨by first | rfl | simp, HB.out⟩
set_option maxHeartbeats 1000000 in
theorem rck_2l (x : Ino) (w : World) (l s h H : Int) (n : Nat) (br : Bool) (hk : x.k = 2) (hl : x.l = l) (hs : x.s = s) (hh : x.h = h) (hn : x.r.1 = n) (hbr : decide (x.r = rf0) = br) (hx0 : decide (x = in0) = false)
    (l1 : ¬ l < 1) (l2 : ¬ 1000 < l) (s1 : ¬ s < 0) (s2 : ¬ 1048576 < s) (l3 : ¬ l = 1) : Calls Try.prog 27 #[.agg (inC x)] w fun e w' => e = .returned (.bool (false)) ∧ Below w.heap.size w w' := by
  have hz := zero_rino
  have hzr := zero_rrf
  have r0 : Blk (w.alloc (.cells (inC x) 44)) w.heap.size 44 (inC x) := Blk.new _ _ _
  have HB : Hid (Below w.heap.size w (w.alloc (.cells (inC x) 44))) := below_new1 _ _
  have hq : ∀ W, (Op.equalIn 10000 44 (.agg (inC x)) (.agg (inC in0))).run Try.prog W = .ok (decide (x = in0)) W := eq_rino 9995 x in0
  rw [hx0] at hq
  have hqr : ∀ W, (Op.equalIn 10000 40 (.agg (va 33 (rfF x.r.1 x.r.2))) (.agg (rfC rf0))).run Try.prog W = .ok (decide (x.r = rf0)) W := eq_rrf 9997 x.r rf0
  rw [hbr] at hqr
  have q0 : ∀ m, ((w.alloc (.cells (inC x) 44)).drewN m).rangeAt w.heap.size 5 ((List.range 33).map (rfF x.r.1 x.r.2)) := fun m => by
    have h := World.rangeAt_of_block (w := (w.alloc (.cells (inC x) 44)).drewN m) (b := w.heap.size) r0 5 33
    rw [in_ref] at h
    unfold rfC at h
    rwa [va_toList] at h
  have c0 := ino_c0 r0
  have c1 := ino_c1 r0
  have c2 := ino_c2 r0
  have c4 := ino_c4 r0
  have c5 := ino_c5 r0
  rw [hk] at c0
  rw [hl] at c1
  rw [hs] at c2
  rw [hh] at c4
  rw [hn] at c5
  clear hk hl hs hh hn hx0 hbr
  go_enter Try.func27, Try.ntmps27
  go_wp2_with (first | (refine wpList_load_row (by rfl) 44 _ (by rfl) (w.heap.size) (by rfl) 44 (inC x) (0, 0) _ (by exact r0) Try.underlying44 (by rfl) (sizeRIno.trans (by rw [inC_size])) ?_; simp only [Act.put, List.setIfInBounds_toArray, List.set_cons_zero, List.set_cons_succ]) | (refine wpList_skip (by rfl) ?_; simp only [Act.put, List.setIfInBounds_toArray, List.set_cons_zero, List.set_cons_succ]) | fail)
  go_ret
  exact ⟨by first | rfl | simp, HB.out⟩
set_option maxHeartbeats 1000000 in
theorem rck_2m (x : Ino) (w : World) (l s h H : Int) (n : Nat) (br : Bool) (hk : x.k = 2) (hl : x.l = l) (hs : x.s = s) (hh : x.h = h) (hn : x.r.1 = n) (hbr : decide (x.r = rf0) = br) (hx0 : decide (x = in0) = false)
    (l1 : ¬ l < 1) (l2 : ¬ 1000 < l) (s1 : ¬ s < 0) (s2 : ¬ 1048576 < s) (l3 : l = 1) (m0 : ¬ s % 64 = 0) : Calls Try.prog 27 #[.agg (inC x)] w fun e w' => e = .returned (.bool (false)) ∧ Below w.heap.size w w' := by
  have hz := zero_rino
  have hzr := zero_rrf
  have r0 : Blk (w.alloc (.cells (inC x) 44)) w.heap.size 44 (inC x) := Blk.new _ _ _
  have HB : Hid (Below w.heap.size w (w.alloc (.cells (inC x) 44))) := below_new1 _ _
  have hq : ∀ W, (Op.equalIn 10000 44 (.agg (inC x)) (.agg (inC in0))).run Try.prog W = .ok (decide (x = in0)) W := eq_rino 9995 x in0
  rw [hx0] at hq
  have hqr : ∀ W, (Op.equalIn 10000 40 (.agg (va 33 (rfF x.r.1 x.r.2))) (.agg (rfC rf0))).run Try.prog W = .ok (decide (x.r = rf0)) W := eq_rrf 9997 x.r rf0
  rw [hbr] at hqr
  have q0 : ∀ m, ((w.alloc (.cells (inC x) 44)).drewN m).rangeAt w.heap.size 5 ((List.range 33).map (rfF x.r.1 x.r.2)) := fun m => by
    have h := World.rangeAt_of_block (w := (w.alloc (.cells (inC x) 44)).drewN m) (b := w.heap.size) r0 5 33
    rw [in_ref] at h
    unfold rfC at h
    rwa [va_toList] at h
  have c0 := ino_c0 r0
  have c1 := ino_c1 r0
  have c2 := ino_c2 r0
  have c4 := ino_c4 r0
  have c5 := ino_c5 r0
  rw [hk] at c0
  rw [hl] at c1
  rw [hs] at c2
  rw [hh] at c4
  rw [hn] at c5
  clear hk hl hs hh hn hx0 hbr
  subst l3
  go_enter Try.func27, Try.ntmps27
  go_wp2_with (first | (refine wpList_load_row (by rfl) 44 _ (by rfl) (w.heap.size) (by rfl) 44 (inC x) (0, 0) _ (by exact r0) Try.underlying44 (by rfl) (sizeRIno.trans (by rw [inC_size])) ?_; simp only [Act.put, List.setIfInBounds_toArray, List.set_cons_zero, List.set_cons_succ]) | (refine wpList_skip (by rfl) ?_; simp only [Act.put, List.setIfInBounds_toArray, List.set_cons_zero, List.set_cons_succ]) | fail)
  go_ret
  exact ⟨by first | rfl | simp, HB.out⟩
set_option maxHeartbeats 1000000 in
theorem rck_2h (x : Ino) (w : World) (l s h H : Int) (n : Nat) (br : Bool) (hk : x.k = 2) (hl : x.l = l) (hs : x.s = s) (hh : x.h = h) (hn : x.r.1 = n) (hbr : decide (x.r = rf0) = br) (hx0 : decide (x = in0) = false)
    (HS : Hid (∀ w : World, Calls Try.prog 16 #[.int .i64 s] w fun e w' => e = .returned (.int .i64 H) ∧ w' = w)) (l1 : ¬ l < 1) (l2 : ¬ 1000 < l) (s1 : ¬ s < 0) (s2 : ¬ 1048576 < s) (l3 : l = 1) (m0 : s % 64 = 0) (h1 : ¬ h = H) : Calls Try.prog 27 #[.agg (inC x)] w fun e w' => e = .returned (.bool (false)) ∧ Below w.heap.size w w' := by
  have hz := zero_rino
  have hzr := zero_rrf
  have r0 : Blk (w.alloc (.cells (inC x) 44)) w.heap.size 44 (inC x) := Blk.new _ _ _
  have HB : Hid (Below w.heap.size w (w.alloc (.cells (inC x) 44))) := below_new1 _ _
  have hq : ∀ W, (Op.equalIn 10000 44 (.agg (inC x)) (.agg (inC in0))).run Try.prog W = .ok (decide (x = in0)) W := eq_rino 9995 x in0
  rw [hx0] at hq
  have hqr : ∀ W, (Op.equalIn 10000 40 (.agg (va 33 (rfF x.r.1 x.r.2))) (.agg (rfC rf0))).run Try.prog W = .ok (decide (x.r = rf0)) W := eq_rrf 9997 x.r rf0
  rw [hbr] at hqr
  have q0 : ∀ m, ((w.alloc (.cells (inC x) 44)).drewN m).rangeAt w.heap.size 5 ((List.range 33).map (rfF x.r.1 x.r.2)) := fun m => by
    have h := World.rangeAt_of_block (w := (w.alloc (.cells (inC x) 44)).drewN m) (b := w.heap.size) r0 5 33
    rw [in_ref] at h
    unfold rfC at h
    rwa [va_toList] at h
  have c0 := ino_c0 r0
  have c1 := ino_c1 r0
  have c2 := ino_c2 r0
  have c4 := ino_c4 r0
  have c5 := ino_c5 r0
  rw [hk] at c0
  rw [hl] at c1
  rw [hs] at c2
  rw [hh] at c4
  rw [hn] at c5
  clear hk hl hs hh hn hx0 hbr
  subst l3
  go_enter Try.func27, Try.ntmps27
  go_wp2_with (first | (refine wpList_load_row (by rfl) 44 _ (by rfl) (w.heap.size) (by rfl) 44 (inC x) (0, 0) _ (by exact r0) Try.underlying44 (by rfl) (sizeRIno.trans (by rw [inC_size])) ?_; simp only [Act.put, List.setIfInBounds_toArray, List.set_cons_zero, List.set_cons_succ]) | (refine wpList_skip (by rfl) ?_; simp only [Act.put, List.setIfInBounds_toArray, List.set_cons_zero, List.set_cons_succ]) | fail)
  go_quiet ((go_at_call 16; exact Calls.quiet_of_same (HS.out _)))
  go_wp2_with (first | (refine wpList_load_blk (by rfl) 40 _ (by rfl) (w.heap.size) 5 33 (rfF x.r.1 x.r.2) (by rfl) _ (q0 _) Try.underlying40 rfl sizeRRf ?_; simp only [Act.put, List.setIfInBounds_toArray, List.set_cons_zero, List.set_cons_succ]) | (refine wpList_skip (by rfl) ?_; simp only [Act.put, List.setIfInBounds_toArray, List.set_cons_zero, List.set_cons_succ]) | fail)
  go_ret
  exact ⟨by first | rfl | simp, io_dN HB.out _⟩
set_option maxHeartbeats 1000000 in
theorem rck_2a (x : Ino) (w : World) (l s h H : Int) (n : Nat) (br : Bool) (hk : x.k = 2) (hl : x.l = l) (hs : x.s = s) (hh : x.h = h) (hn : x.r.1 = n) (hbr : decide (x.r = rf0) = br) (hx0 : decide (x = in0) = false)
    (HS : Hid (∀ w : World, Calls Try.prog 16 #[.int .i64 s] w fun e w' => e = .returned (.int .i64 H) ∧ w' = w)) (l1 : ¬ l < 1) (l2 : ¬ 1000 < l) (s1 : ¬ s < 0) (s2 : ¬ 1048576 < s) (l3 : l = 1) (m0 : s % 64 = 0) (h1 : h = H) (a1 : (8192 : Int) ≤ (n : Int)) : Calls Try.prog 27 #[.agg (inC x)] w fun e w' => e = .returned (.bool (false)) ∧ Below w.heap.size w w' := by
  have hz := zero_rino
  have hzr := zero_rrf
  have r0 : Blk (w.alloc (.cells (inC x) 44)) w.heap.size 44 (inC x) := Blk.new _ _ _
  have HB : Hid (Below w.heap.size w (w.alloc (.cells (inC x) 44))) := below_new1 _ _
  have hq : ∀ W, (Op.equalIn 10000 44 (.agg (inC x)) (.agg (inC in0))).run Try.prog W = .ok (decide (x = in0)) W := eq_rino 9995 x in0
  rw [hx0] at hq
  have hqr : ∀ W, (Op.equalIn 10000 40 (.agg (va 33 (rfF x.r.1 x.r.2))) (.agg (rfC rf0))).run Try.prog W = .ok (decide (x.r = rf0)) W := eq_rrf 9997 x.r rf0
  rw [hbr] at hqr
  have q0 : ∀ m, ((w.alloc (.cells (inC x) 44)).drewN m).rangeAt w.heap.size 5 ((List.range 33).map (rfF x.r.1 x.r.2)) := fun m => by
    have h := World.rangeAt_of_block (w := (w.alloc (.cells (inC x) 44)).drewN m) (b := w.heap.size) r0 5 33
    rw [in_ref] at h
    unfold rfC at h
    rwa [va_toList] at h
  have c0 := ino_c0 r0
  have c1 := ino_c1 r0
  have c2 := ino_c2 r0
  have c4 := ino_c4 r0
  have c5 := ino_c5 r0
  rw [hk] at c0
  rw [hl] at c1
  rw [hs] at c2
  rw [hh] at c4
  rw [hn] at c5
  clear hk hl hs hh hn hx0 hbr
  subst l3
  subst h1
  go_enter Try.func27, Try.ntmps27
  go_wp2_with (first | (refine wpList_load_row (by rfl) 44 _ (by rfl) (w.heap.size) (by rfl) 44 (inC x) (0, 0) _ (by exact r0) Try.underlying44 (by rfl) (sizeRIno.trans (by rw [inC_size])) ?_; simp only [Act.put, List.setIfInBounds_toArray, List.set_cons_zero, List.set_cons_succ]) | (refine wpList_skip (by rfl) ?_; simp only [Act.put, List.setIfInBounds_toArray, List.set_cons_zero, List.set_cons_succ]) | fail)
  go_quiet ((go_at_call 16; exact Calls.quiet_of_same (HS.out _)))
  go_wp2_with (first | (refine wpList_load_blk (by rfl) 40 _ (by rfl) (w.heap.size) 5 33 (rfF x.r.1 x.r.2) (by rfl) _ (q0 _) Try.underlying40 rfl sizeRRf ?_; simp only [Act.put, List.setIfInBounds_toArray, List.set_cons_zero, List.set_cons_succ]) | (refine wpList_skip (by rfl) ?_; simp only [Act.put, List.setIfInBounds_toArray, List.set_cons_zero, List.set_cons_succ]) | fail)
  go_ret
  exact ⟨by first | rfl | simp, io_dN HB.out _⟩
set_option maxHeartbeats 1000000 in
theorem rck_2r (x : Ino) (w : World) (l s h H : Int) (n : Nat) (z : Int) (hk : x.k = 2) (hl : x.l = l) (hs : x.s = s) (hh : x.h = h) (hn : x.r.1 = n) (hbr : decide (x.r = rf0) = (z == 1)) (hx0 : decide (x = in0) = false)
    (HS : Hid (∀ w : World, Calls Try.prog 16 #[.int .i64 s] w fun e w' => e = .returned (.int .i64 H) ∧ w' = w)) (l1 : ¬ l < 1) (l2 : ¬ 1000 < l) (s1 : ¬ s < 0) (s2 : ¬ 1048576 < s) (l3 : l = 1) (m0 : s % 64 = 0) (h1 : h = H) (a1 : ¬ (8192 : Int) ≤ (n : Int)) (e3 : ¬ (z ≠ 1)) : Calls Try.prog 27 #[.agg (inC x)] w fun e w' => e = .returned (.bool (true)) ∧ Below w.heap.size w w' := by
  have hz := zero_rino
  have hzr := zero_rrf
  have r0 : Blk (w.alloc (.cells (inC x) 44)) w.heap.size 44 (inC x) := Blk.new _ _ _
  have HB : Hid (Below w.heap.size w (w.alloc (.cells (inC x) 44))) := below_new1 _ _
  have hq : ∀ W, (Op.equalIn 10000 44 (.agg (inC x)) (.agg (inC in0))).run Try.prog W = .ok (decide (x = in0)) W := eq_rino 9995 x in0
  rw [hx0] at hq
  have hqr : ∀ W, (Op.equalIn 10000 40 (.agg (va 33 (rfF x.r.1 x.r.2))) (.agg (rfC rf0))).run Try.prog W = .ok (decide (x.r = rf0)) W := eq_rrf 9997 x.r rf0
  rw [hbr] at hqr
  have q0 : ∀ m, ((w.alloc (.cells (inC x) 44)).drewN m).rangeAt w.heap.size 5 ((List.range 33).map (rfF x.r.1 x.r.2)) := fun m => by
    have h := World.rangeAt_of_block (w := (w.alloc (.cells (inC x) 44)).drewN m) (b := w.heap.size) r0 5 33
    rw [in_ref] at h
    unfold rfC at h
    rwa [va_toList] at h
  have c0 := ino_c0 r0
  have c1 := ino_c1 r0
  have c2 := ino_c2 r0
  have c4 := ino_c4 r0
  have c5 := ino_c5 r0
  rw [hk] at c0
  rw [hl] at c1
  rw [hs] at c2
  rw [hh] at c4
  rw [hn] at c5
  clear hk hl hs hh hn hx0 hbr
  subst l3
  subst h1
  go_enter Try.func27, Try.ntmps27
  go_wp2_with (first | (refine wpList_load_row (by rfl) 44 _ (by rfl) (w.heap.size) (by rfl) 44 (inC x) (0, 0) _ (by exact r0) Try.underlying44 (by rfl) (sizeRIno.trans (by rw [inC_size])) ?_; simp only [Act.put, List.setIfInBounds_toArray, List.set_cons_zero, List.set_cons_succ]) | (refine wpList_skip (by rfl) ?_; simp only [Act.put, List.setIfInBounds_toArray, List.set_cons_zero, List.set_cons_succ]) | fail)
  go_quiet ((go_at_call 16; exact Calls.quiet_of_same (HS.out _)))
  go_wp2_with (first | (refine wpList_load_blk (by rfl) 40 _ (by rfl) (w.heap.size) 5 33 (rfF x.r.1 x.r.2) (by rfl) _ (q0 _) Try.underlying40 rfl sizeRRf ?_; simp only [Act.put, List.setIfInBounds_toArray, List.set_cons_zero, List.set_cons_succ]) | (refine wpList_skip (by rfl) ?_; simp only [Act.put, List.setIfInBounds_toArray, List.set_cons_zero, List.set_cons_succ]) | fail)
  go_ret
  have e4 : z = 1 := by omega
  exact ⟨by rw [e4]; rfl, io_dN HB.out _⟩
set_option maxHeartbeats 1000000 in
theorem rck_2z (x : Ino) (w : World) (l s h H : Int) (n : Nat) (br : Bool) (hk : x.k = 2) (hl : x.l = l) (hs : x.s = s) (hh : x.h = h) (hn : x.r.1 = n) (hbr : decide (x.r = rf0) = br) (hx0 : decide (x = in0) = false)
    (HS : Hid (∀ w : World, Calls Try.prog 16 #[.int .i64 s] w fun e w' => e = .returned (.int .i64 H) ∧ w' = w)) (l1 : ¬ l < 1) (l2 : ¬ 1000 < l) (s1 : ¬ s < 0) (s2 : ¬ 1048576 < s) (l3 : l = 1) (m0 : s % 64 = 0) (h1 : h = H) (a1 : ¬ (8192 : Int) ≤ (n : Int)) (b1 : br = false) (n1 : (n : Int) = 0) : Calls Try.prog 27 #[.agg (inC x)] w fun e w' => e = .returned (.bool (false)) ∧ Below w.heap.size w w' := by
  have hz := zero_rino
  have hzr := zero_rrf
  have r0 : Blk (w.alloc (.cells (inC x) 44)) w.heap.size 44 (inC x) := Blk.new _ _ _
  have HB : Hid (Below w.heap.size w (w.alloc (.cells (inC x) 44))) := below_new1 _ _
  have hq : ∀ W, (Op.equalIn 10000 44 (.agg (inC x)) (.agg (inC in0))).run Try.prog W = .ok (decide (x = in0)) W := eq_rino 9995 x in0
  rw [hx0] at hq
  have hqr : ∀ W, (Op.equalIn 10000 40 (.agg (va 33 (rfF x.r.1 x.r.2))) (.agg (rfC rf0))).run Try.prog W = .ok (decide (x.r = rf0)) W := eq_rrf 9997 x.r rf0
  rw [hbr] at hqr
  have q0 : ∀ m, ((w.alloc (.cells (inC x) 44)).drewN m).rangeAt w.heap.size 5 ((List.range 33).map (rfF x.r.1 x.r.2)) := fun m => by
    have h := World.rangeAt_of_block (w := (w.alloc (.cells (inC x) 44)).drewN m) (b := w.heap.size) r0 5 33
    rw [in_ref] at h
    unfold rfC at h
    rwa [va_toList] at h
  have c0 := ino_c0 r0
  have c1 := ino_c1 r0
  have c2 := ino_c2 r0
  have c4 := ino_c4 r0
  have c5 := ino_c5 r0
  rw [hk] at c0
  rw [hl] at c1
  rw [hs] at c2
  rw [hh] at c4
  rw [hn] at c5
  clear hk hl hs hh hn hx0 hbr
  subst l3
  subst h1
  subst b1
  go_enter Try.func27, Try.ntmps27
  go_wp2_with (first | (refine wpList_load_row (by rfl) 44 _ (by rfl) (w.heap.size) (by rfl) 44 (inC x) (0, 0) _ (by exact r0) Try.underlying44 (by rfl) (sizeRIno.trans (by rw [inC_size])) ?_; simp only [Act.put, List.setIfInBounds_toArray, List.set_cons_zero, List.set_cons_succ]) | (refine wpList_skip (by rfl) ?_; simp only [Act.put, List.setIfInBounds_toArray, List.set_cons_zero, List.set_cons_succ]) | fail)
  go_quiet ((go_at_call 16; exact Calls.quiet_of_same (HS.out _)))
  go_wp2_with (first | (refine wpList_load_blk (by rfl) 40 _ (by rfl) (w.heap.size) 5 33 (rfF x.r.1 x.r.2) (by rfl) _ (q0 _) Try.underlying40 rfl sizeRRf ?_; simp only [Act.put, List.setIfInBounds_toArray, List.set_cons_zero, List.set_cons_succ]) | (refine wpList_skip (by rfl) ?_; simp only [Act.put, List.setIfInBounds_toArray, List.set_cons_zero, List.set_cons_succ]) | fail)
  go_ret
  exact ⟨by first | rfl | simp, io_dN HB.out _⟩
set_option maxHeartbeats 1000000 in
theorem rck_2t (x : Ino) (w : World) (l s h H : Int) (n : Nat) (br : Bool) (hk : x.k = 2) (hl : x.l = l) (hs : x.s = s) (hh : x.h = h) (hn : x.r.1 = n) (hbr : decide (x.r = rf0) = br) (hx0 : decide (x = in0) = false)
    (HS : Hid (∀ w : World, Calls Try.prog 16 #[.int .i64 s] w fun e w' => e = .returned (.int .i64 H) ∧ w' = w)) (l1 : ¬ l < 1) (l2 : ¬ 1000 < l) (s1 : ¬ s < 0) (s2 : ¬ 1048576 < s) (l3 : l = 1) (m0 : s % 64 = 0) (h1 : h = H) (a1 : ¬ (8192 : Int) ≤ (n : Int)) (b1 : br = false) (n1 : ¬ (n : Int) = 0) : Calls Try.prog 27 #[.agg (inC x)] w fun e w' => e = .returned (.bool (decide (¬ s = 0))) ∧ Below w.heap.size w w' := by
  have hz := zero_rino
  have hzr := zero_rrf
  have r0 : Blk (w.alloc (.cells (inC x) 44)) w.heap.size 44 (inC x) := Blk.new _ _ _
  have HB : Hid (Below w.heap.size w (w.alloc (.cells (inC x) 44))) := below_new1 _ _
  have hq : ∀ W, (Op.equalIn 10000 44 (.agg (inC x)) (.agg (inC in0))).run Try.prog W = .ok (decide (x = in0)) W := eq_rino 9995 x in0
  rw [hx0] at hq
  have hqr : ∀ W, (Op.equalIn 10000 40 (.agg (va 33 (rfF x.r.1 x.r.2))) (.agg (rfC rf0))).run Try.prog W = .ok (decide (x.r = rf0)) W := eq_rrf 9997 x.r rf0
  rw [hbr] at hqr
  have q0 : ∀ m, ((w.alloc (.cells (inC x) 44)).drewN m).rangeAt w.heap.size 5 ((List.range 33).map (rfF x.r.1 x.r.2)) := fun m => by
    have h := World.rangeAt_of_block (w := (w.alloc (.cells (inC x) 44)).drewN m) (b := w.heap.size) r0 5 33
    rw [in_ref] at h
    unfold rfC at h
    rwa [va_toList] at h
  have c0 := ino_c0 r0
  have c1 := ino_c1 r0
  have c2 := ino_c2 r0
  have c4 := ino_c4 r0
  have c5 := ino_c5 r0
  rw [hk] at c0
  rw [hl] at c1
  rw [hs] at c2
  rw [hh] at c4
  rw [hn] at c5
  clear hk hl hs hh hn hx0 hbr
  subst l3
  subst h1
  subst b1
  go_enter Try.func27, Try.ntmps27
  go_wp2_with (first | (refine wpList_load_row (by rfl) 44 _ (by rfl) (w.heap.size) (by rfl) 44 (inC x) (0, 0) _ (by exact r0) Try.underlying44 (by rfl) (sizeRIno.trans (by rw [inC_size])) ?_; simp only [Act.put, List.setIfInBounds_toArray, List.set_cons_zero, List.set_cons_succ]) | (refine wpList_skip (by rfl) ?_; simp only [Act.put, List.setIfInBounds_toArray, List.set_cons_zero, List.set_cons_succ]) | fail)
  go_quiet ((go_at_call 16; exact Calls.quiet_of_same (HS.out _)))
  go_wp2_with (first | (refine wpList_load_blk (by rfl) 40 _ (by rfl) (w.heap.size) 5 33 (rfF x.r.1 x.r.2) (by rfl) _ (q0 _) Try.underlying40 rfl sizeRRf ?_; simp only [Act.put, List.setIfInBounds_toArray, List.set_cons_zero, List.set_cons_succ]) | (refine wpList_skip (by rfl) ?_; simp only [Act.put, List.setIfInBounds_toArray, List.set_cons_zero, List.set_cons_succ]) | fail)
  go_ret
  refine ⟨?_, io_dN HB.out _⟩
  have n2 : ¬ n = 0 := by omega
  by_cases s0 : s = 0 <;> simp [s0, n2]
end Go.Proofs.Ytpoaipoadokggaa

namespace Go.Proofs.Ytpoaipoadokggaa
open Go Go.RowKit
set_option linter.unusedSimpArgs false
set_option linter.unusedVariables false
set_option maxRecDepth 20000
set_option maxHeartbeats 1000000 in
theorem rcheck_zero (x : Ino) (w : World) (hx0 : decide (x = in0) = true) : Calls Try.prog 27 #[.agg (inC x)] w fun e w' => e = .returned (.bool true) ∧ Below w.heap.size w w' := by
  have hz := zero_rino
  have r0 : Blk (w.alloc (.cells (inC x) 44)) w.heap.size 44 (inC x) := Blk.new _ _ _
  have HB : Hid (Below w.heap.size w (w.alloc (.cells (inC x) 44))) := below_new1 _ _
  have hq : ∀ W, (Op.equalIn 10000 44 (.agg (inC x)) (.agg (inC in0))).run Try.prog W = .ok (decide (x = in0)) W := eq_rino 9995 x in0
  rw [hx0] at hq
  clear hx0
  go_enter Try.func27, Try.ntmps27
  go_wp2_with (first | (refine wpList_load_row (by rfl) 44 _ (by rfl) (w.heap.size) (by rfl) 44 (inC x) (0, 0) _ (by exact r0) Try.underlying44 (by rfl) (sizeRIno.trans (by rw [inC_size])) ?_; simp only [Act.put, List.setIfInBounds_toArray, List.set_cons_zero, List.set_cons_succ]) | fail)
  go_ret
  exact ⟨rfl, HB.out⟩
theorem rcheck_any (x : Ino) (hx : InW x) (w : World) : Calls Try.prog 27 #[.agg (inC x)] w fun e w' => e = .returned (.bool (chk x)) ∧ Below w.heap.size w w' := by
  cases hx0 : decide (x = in0)
  · have HV : chk x = (lnk x && (siz x && tre x)) := by
      unfold chk
      rw [hx0, Bool.false_or]
    rw [HV]
    have HH : ∀ w : World, 0 ≤ x.s → x.s ≤ 1048576 → Calls Try.prog 16 #[.int .i64 x.s] w fun e w' => e = .returned (.int .i64 (hL 256 x.s)) ∧ w' = w := fun w h0 h1 => rheight_any x.s h0 h1 w
    by_cases k1 : x.k = 1
    · have e1 : ¬ (x.k ≠ 1) := fun h => h k1
      have e2 : ¬ x.k = 2 := by omega
      by_cases hl : ¬ x.l < 1 ∧ ¬ 1000 < x.l
      · have vl : lnk x = true := by
          unfold lnk
          rw [if_pos k1, decide_eq_true (by omega : 1 ≤ x.l), decide_eq_true (by omega : x.l ≤ 1000)]; rfl
        rw [vl, Bool.true_and]
        by_cases hs : ¬ x.s < 0 ∧ ¬ 1048576 < x.s
        · have HS' : Hid (∀ w : World, Calls Try.prog 16 #[.int .i64 x.s] w fun e w' => e = .returned (.int .i64 (hL 256 x.s)) ∧ w' = w) := fun w => HH w (by omega) (by omega)
          have vs : siz x = true := by
            unfold siz
            rw [if_neg (fun h => e2 h.1), decide_eq_true (by omega : 0 ≤ x.s), decide_eq_true (by omega : x.s ≤ 1048576)]; rfl
          rw [vs, Bool.true_and]
          by_cases h1 : x.h = hL 256 x.s
          · by_cases a1 : (8192 : Int) ≤ ((x.r.1 : Nat) : Int)
            · rw [show tre x = false from if_pos (Or.inr (by omega))]
              exact rck_1a x w _ _ _ _ _ _ _ rfl rfl rfl rfl rfl rfl hx0 HS' e1 e2 hl.1 hl.2 hs.1 hs.2 h1 a1
            · have vt : tre x = (decide (x.r = rf0) || (decide (x.r.1 ≠ 0) && decide (x.s ≠ 0))) := if_neg (fun h => by rcases h with h | h; exact h h1; omega)
              cases b1 : decide (x.r = rf0)
              · by_cases n1 : ((x.r.1 : Nat) : Int) = 0
                · rw [vt, b1, show decide (x.r.1 ≠ 0) = false from decide_eq_false (by omega)]
                  exact rck_1z x w _ _ _ _ _ _ _ rfl rfl rfl rfl rfl b1 hx0 HS' e1 e2 hl.1 hl.2 hs.1 hs.2 h1 a1 rfl n1
                · rw [vt, b1, show decide (x.r.1 ≠ 0) = true from decide_eq_true (by omega), Bool.true_and, Bool.false_or]
                  exact rck_1t x w _ _ _ _ _ _ _ rfl rfl rfl rfl rfl b1 hx0 HS' e1 e2 hl.1 hl.2 hs.1 hs.2 h1 a1 rfl n1
              · rw [vt, b1, Bool.true_or]
                exact rck_1r x w _ _ _ _ _ _ 1 rfl rfl rfl rfl rfl (b1.trans rfl) hx0 HS' e1 e2 hl.1 hl.2 hs.1 hs.2 h1 a1 (by omega)
          · rw [show tre x = false from if_pos (Or.inl h1)]
            exact rck_1h x w _ _ _ _ _ _ _ rfl rfl rfl rfl rfl rfl hx0 HS' e1 e2 hl.1 hl.2 hs.1 hs.2 h1
        · have vs : siz x = false := by
            unfold siz
            split
            · rfl
            · rw [Bool.and_eq_false_iff, decide_eq_false_iff_not, decide_eq_false_iff_not]
              omega
          rw [vs, Bool.false_and]
          by_cases s1 : x.s < 0
          · exact rck_1sa x w _ _ _ _ 0 _ _ rfl rfl rfl rfl rfl rfl hx0 e1 e2 hl.1 hl.2 s1
          · exact rck_1sb x w _ _ _ _ 0 _ _ rfl rfl rfl rfl rfl rfl hx0 e1 e2 hl.1 hl.2 s1 (by omega)
      · have vl : lnk x = false := by
          unfold lnk
          rw [if_pos k1, Bool.and_eq_false_iff, decide_eq_false_iff_not, decide_eq_false_iff_not]
          omega
        rw [vl, Bool.false_and]
        by_cases l1 : x.l < 1
        · exact rck_1la x w _ _ _ _ 0 _ _ rfl rfl rfl rfl rfl rfl hx0 e1 e2 l1
        · exact rck_1lb x w _ _ _ _ 0 _ _ rfl rfl rfl rfl rfl rfl hx0 e1 e2 l1 (by omega)
    · by_cases k2 : x.k = 2
      · skip
        by_cases hl : ¬ x.l < 1 ∧ ¬ 1000 < x.l
        · skip
          by_cases hs : ¬ x.s < 0 ∧ ¬ 1048576 < x.s
          · have HS' : Hid (∀ w : World, Calls Try.prog 16 #[.int .i64 x.s] w fun e w' => e = .returned (.int .i64 (hL 256 x.s)) ∧ w' = w) := fun w => HH w (by omega) (by omega)
            by_cases l3 : x.l = 1
            · have vl : lnk x = true := by
                unfold lnk
                rw [if_neg k1, if_pos k2, decide_eq_true l3]
              rw [vl, Bool.true_and]
              by_cases m0 : x.s % 64 = 0
              · have vs : siz x = true := by
                  unfold siz
                  rw [if_neg (fun h => h.2 (by rw [Int.tmod_eq_emod_of_nonneg (by omega)]; exact m0)), decide_eq_true (by omega : 0 ≤ x.s), decide_eq_true (by omega : x.s ≤ 1048576)]; rfl
                rw [vs, Bool.true_and]
                by_cases h1 : x.h = hL 256 x.s
                · by_cases a1 : (8192 : Int) ≤ ((x.r.1 : Nat) : Int)
                  · rw [show tre x = false from if_pos (Or.inr (by omega))]
                    exact rck_2a x w _ _ _ _ _ _ k2 rfl rfl rfl rfl rfl hx0 HS' hl.1 hl.2 hs.1 hs.2 l3 m0 h1 a1
                  · have vt : tre x = (decide (x.r = rf0) || (decide (x.r.1 ≠ 0) && decide (x.s ≠ 0))) := if_neg (fun h => by rcases h with h | h; exact h h1; omega)
                    cases b1 : decide (x.r = rf0)
                    · by_cases n1 : ((x.r.1 : Nat) : Int) = 0
                      · rw [vt, b1, show decide (x.r.1 ≠ 0) = false from decide_eq_false (by omega)]
                        exact rck_2z x w _ _ _ _ _ _ k2 rfl rfl rfl rfl b1 hx0 HS' hl.1 hl.2 hs.1 hs.2 l3 m0 h1 a1 rfl n1
                      · rw [vt, b1, show decide (x.r.1 ≠ 0) = true from decide_eq_true (by omega), Bool.true_and, Bool.false_or]
                        exact rck_2t x w _ _ _ _ _ _ k2 rfl rfl rfl rfl b1 hx0 HS' hl.1 hl.2 hs.1 hs.2 l3 m0 h1 a1 rfl n1
                    · rw [vt, b1, Bool.true_or]
                      exact rck_2r x w _ _ _ _ _ 1 k2 rfl rfl rfl rfl (b1.trans rfl) hx0 HS' hl.1 hl.2 hs.1 hs.2 l3 m0 h1 a1 (by omega)
                · rw [show tre x = false from if_pos (Or.inl h1)]
                  exact rck_2h x w _ _ _ _ _ _ k2 rfl rfl rfl rfl rfl hx0 HS' hl.1 hl.2 hs.1 hs.2 l3 m0 h1
              · rw [show siz x = false from if_pos ⟨k2, by rw [Int.tmod_eq_emod_of_nonneg (by omega)]; exact m0⟩, Bool.false_and]
                exact rck_2m x w _ _ _ 0 _ _ k2 rfl rfl rfl rfl rfl hx0 hl.1 hl.2 hs.1 hs.2 l3 m0
            · rw [show lnk x = false from by unfold lnk; rw [if_neg k1, if_pos k2, decide_eq_false l3], Bool.false_and]
              exact rck_2l x w _ _ _ 0 _ _ k2 rfl rfl rfl rfl rfl hx0 hl.1 hl.2 hs.1 hs.2 l3
          · have vs : siz x = false := by
              unfold siz
              split
              · rfl
              · rw [Bool.and_eq_false_iff, decide_eq_false_iff_not, decide_eq_false_iff_not]
                omega
            rw [vs, Bool.false_and, Bool.and_false]
            by_cases s1 : x.s < 0
            · exact rck_2sa x w _ _ _ 0 _ _ k2 rfl rfl rfl rfl rfl hx0 hl.1 hl.2 s1
            · exact rck_2sb x w _ _ _ 0 _ _ k2 rfl rfl rfl rfl rfl hx0 hl.1 hl.2 s1 (by omega)
        · have vl : lnk x = false := by
            unfold lnk
            rw [if_neg k1, if_pos k2, decide_eq_false_iff_not]
            omega
          rw [vl, Bool.false_and]
          by_cases l1 : x.l < 1
          · exact rck_2la x w _ _ _ 0 _ _ k2 rfl rfl rfl rfl rfl hx0 l1
          · exact rck_2lb x w _ _ _ 0 _ _ k2 rfl rfl rfl rfl rfl hx0 l1 (by omega)
      · rw [show lnk x = false from by unfold lnk; rw [if_neg k1, if_neg k2], Bool.false_and]
        exact rck_k x w _ _ _ _ 0 _ _ rfl rfl rfl rfl rfl rfl hx0 k1 k2
  · rw [show chk x = true from by unfold chk; rw [hx0, Bool.true_or]]
    exact rcheck_zero x w hx0
end Go.Proofs.Ytpoaipoadokggaa

namespace Go.Proofs.Ytpoaipoadokggaa
open Go Go.RowKit
set_option linter.unusedSimpArgs false
set_option linter.unusedVariables false
set_option maxRecDepth 20000
/-- what Check answers -/
def chE (x : Ino) : Int := if chk x = true then 0 else 140
set_option maxHeartbeats 4000000 in
theorem check_any (x : Ino) (hx : InW x) (w : World) : Calls Try.prog 11 #[.agg (inC x)] w fun e w' => e = .returned (.int .i64 (chE x)) ∧ Below w.heap.size w w' := by
  have hz := zero_ino
  have r0 : Blk (w.alloc (.cells (inC x) 31)) w.heap.size 31 (inC x) := Blk.new _ _ _
  have HB0 : Hid (Below w.heap.size w (w.alloc (.cells (inC x) 31)) ∧ w.heap.size < (w.alloc (.cells (inC x) 31)).heap.size) := ⟨below_new1 _ _, by simp⟩
  have hq : ∀ W, (Op.equalIn 10000 31 (.agg (inC x)) (.agg (inC in0))).run Try.prog W = .ok (decide (x = in0)) W := eq_ino 9995 x in0
  have HL : Hid (∀ w, Calls Try.prog 29 #[.agg (inC x)] w fun e w' => e = .returned (.bool (lnk x)) ∧ Below w.heap.size w w') := rightLinks_any x
  have HS : Hid (∀ w, Calls Try.prog 30 #[.agg (inC x)] w fun e w' => e = .returned (.bool (siz x)) ∧ Below w.heap.size w w') := rightSize_any x
  have HT : Hid (siz x = true → ∀ w, Calls Try.prog 31 #[.agg (inC x)] w fun e w' => e = .returned (.bool (tre x)) ∧ Below w.heap.size w w') := fun h => rightTree_any x hx (by
    unfold siz at h
    split at h
    · cases h
    · simp only [Bool.and_eq_true, decide_eq_true_eq] at h
      exact h.2)
  have HO : Hid (chE x = if (decide (x = in0) || (lnk x && (siz x && tre x))) = true then 0 else 140) := rfl
  obtain ⟨b, hb⟩ : ∃ b, b = decide (x = in0) := ⟨_, rfl⟩
  rw [← hb] at hq HO
  clear hb
  generalize chE x = B at *
  generalize lnk x = bl at *
  generalize siz x = bs at *
  generalize tre x = bt at *
  go_enter Try.func11, Try.ntmps11
  cases b
  · go_wp2_with (first | (refine wpList_load_rowg (by rfl) 31 _ (by rfl) (w.heap.size) (by rfl) 31 (inC x) (0, 0) _ (by exact r0) Try.underlying31 (by rfl) (sizeIno.trans (by rw [inC_size])) ?_; simp only [Act.put, List.setIfInBounds_toArray, List.set_cons_zero, List.set_cons_succ]) | fail)
    generalize (w.alloc (.cells (inC x) 31)) = w0 at *
    refine (HL.out _).mono ?_
    intro e w1 hw1
    obtain ⟨he1, hb1⟩ := hw1
    subst he1
    have HB1 : Hid (Below w.heap.size w w1 ∧ w.heap.size < w1.heap.size) := ⟨HB0.out.1.trans (hb1.mono (by have := HB0.out.2; omega)), by have := HB0.out.2; have := hb1.size; omega⟩
    have r1 : Blk w1 w.heap.size 31 (inC x) := r0.below hb1 (HB0.out.2)
    clear hb1 HB0 r0
    cases bl
    · go_wp2_with fail
      go_ret
      exact ⟨by rw [HO.out]; rfl, HB1.out.1⟩
    · go_wp2_with (first | (refine wpList_load_rowg (by rfl) 31 _ (by rfl) (w.heap.size) (by rfl) 31 (inC x) (0, 0) _ (by exact r1) Try.underlying31 (by rfl) (sizeIno.trans (by rw [inC_size])) ?_; simp only [Act.put, List.setIfInBounds_toArray, List.set_cons_zero, List.set_cons_succ]) | fail)
      refine (HS.out _).mono ?_
      intro e w2 hw2
      obtain ⟨he2, hb2⟩ := hw2
      subst he2
      have HB2 : Hid (Below w.heap.size w w2 ∧ w.heap.size < w2.heap.size) := ⟨HB1.out.1.trans (hb2.mono (by have := HB1.out.2; omega)), by have := HB1.out.2; have := hb2.size; omega⟩
      have r2 : Blk w2 w.heap.size 31 (inC x) := r1.below hb2 (HB1.out.2)
      clear hb2 HB1 r1
      cases bs
      · go_wp2_with fail
        go_ret
        exact ⟨by rw [HO.out]; rfl, HB2.out.1⟩
      · have HT' : Hid (∀ w, Calls Try.prog 31 #[.agg (inC x)] w fun e w' => e = .returned (.bool bt) ∧ Below w.heap.size w w') := HT.out rfl
        clear HT
        go_wp2_with (first | (refine wpList_load_rowg (by rfl) 31 _ (by rfl) (w.heap.size) (by rfl) 31 (inC x) (0, 0) _ (by exact r2) Try.underlying31 (by rfl) (sizeIno.trans (by rw [inC_size])) ?_; simp only [Act.put, List.setIfInBounds_toArray, List.set_cons_zero, List.set_cons_succ]) | fail)
        refine (HT'.out _).mono ?_
        intro e w3 hw3
        obtain ⟨he3, hb3⟩ := hw3
        subst he3
        have HB3 : Hid (Below w.heap.size w w3 ∧ w.heap.size < w3.heap.size) := ⟨HB2.out.1.trans (hb3.mono (by have := HB2.out.2; omega)), by have := HB2.out.2; have := hb3.size; omega⟩
        have r3 : Blk w3 w.heap.size 31 (inC x) := r2.below hb3 (HB2.out.2)
        clear hb3 HB2 r2
        cases bt
        · go_wp2_with fail
          go_ret
          exact ⟨by rw [HO.out]; rfl, HB3.out.1⟩
        · go_wp2_with fail
          go_ret
          exact ⟨by rw [HO.out]; rfl, HB3.out.1⟩
  · go_wp2_with (first | (refine wpList_load_rowg (by rfl) 31 _ (by rfl) (w.heap.size) (by rfl) 31 (inC x) (0, 0) _ (by exact r0) Try.underlying31 (by rfl) (sizeIno.trans (by rw [inC_size])) ?_; simp only [Act.put, List.setIfInBounds_toArray, List.set_cons_zero, List.set_cons_succ]) | fail)
    go_ret
    exact ⟨by rw [HO.out]; rfl, HB0.out.1⟩
set_option maxHeartbeats 4000000 in
theorem height_any (n : Int) (hn : -9223372036854775808 ≤ n ∧ n ≤ 9223372036854775807) (w : World) : Calls Try.prog 14 #[.int .i64 n] w fun e w' => e = .returned (if 0 ≤ n ∧ n ≤ 1048576 then .tuple #[.int .i64 (hL 256 n), .int .i64 0] else .tuple #[.int .i64 0, .int .i64 1]) ∧ w' = w := by
  by_cases h1 : 0 ≤ n
  · by_cases h2 : n ≤ 1048576
    · rw [if_pos ⟨h1, h2⟩]
      have HL : Hid (∀ w : World, Calls Try.prog 34 #[.int .i64 256, .int .i64 n] w fun e w' => e = .returned (.int .i64 (hL 256 n)) ∧ w' = w) := least256 n hn.1 (by omega)
      generalize hL 256 n = H at *
      have h3 : ¬ n < 0 := by omega
      have h4 : ¬ 1048576 < n := by omega
      go_enter Try.func14, Try.ntmps14
      go_wp2_with fail
      refine (HL.out _).mono ?_
      intro e w2 hw2
      obtain ⟨he2, hb2⟩ := hw2
      subst he2 hb2
      go_wp2_with fail
      go_ret2
      exact ⟨rfl, rfl⟩
    · rw [if_neg fun h => h2 h.2]
      have h3 : ¬ n < 0 := by omega
      have h4 : 1048576 < n := by omega
      clear h1 h2
      go_enter Try.func14, Try.ntmps14
      go_wp2_with fail
      go_ret2
      exact ⟨rfl, rfl⟩
  · rw [if_neg fun h => h1 h.1]
    have h3 : n < 0 := by omega
    clear h1
    go_enter Try.func14, Try.ntmps14
    go_wp2_with fail
    go_ret2
    exact ⟨rfl, rfl⟩
end Go.Proofs.Ytpoaipoadokggaa

namespace Go.Proofs.Ytpoaipoadokggaa
open Go Go.RowKit
set_option linter.unusedSimpArgs false
set_option linter.unusedVariables false
def at2 (s : ByteArray) (a : Nat) : Nat := le2 (tbyte s a) (tbyte s (a + 1))
def at8 (s : ByteArray) (a : Nat) : Nat := le8 (tbyte s a) (tbyte s (a + 1)) (tbyte s (a + 2)) (tbyte s (a + 3)) (tbyte s (a + 4)) (tbyte s (a + 5)) (tbyte s (a + 6)) (tbyte s (a + 7))
set_option maxHeartbeats 1000000 in
theorem bytes16_any (x : Nat) (w : World) :
    Calls Try.prog 24 #[.int .u16 (x : Int)] w fun e w' => e = .returned (.agg #[.int .u8 ((x % 256 : Nat) : Int), .int .u8 ((x / 256 % 256 : Nat) : Int)]) ∧ Below w.heap.size w w' := by
  go_enter Try.func24, Try.ntmps24
  go_wp2
  go_rounds 3
  go_returns
  refine ⟨by simp, ?_⟩
  go_grown
set_option maxHeartbeats 1000000 in
theorem of16_any (a0 a1 : Nat) (h0 : a0 < 256) (h1 : a1 < 256) (w : World) :
    Calls Try.prog 44 #[.agg #[.int .u8 (a0 : Int), .int .u8 (a1 : Int)]] w fun e w' => e = .returned (.int .u16 (le2 a0 a1 : Int)) ∧ Below w.heap.size w w' := by
  go_enter Try.func44, Try.ntmps44
  go_wp2
  go_rounds 3
  go_returns
  refine ⟨ret_int (of2_val a0 a1 h0 h1), ?_⟩
  go_grown
set_option maxHeartbeats 1000000 in
theorem take16_no (s : ByteArray) (i : Int) (hs : s.size ≤ maxLen) (h : i < 0 ∨ (0 ≤ i ∧ (s.size : Int) - 2 < i)) (w : World) :
    Calls Try.prog 38 #[.string s, .int .i64 i] w fun e w' => e = .returned (.tuple #[.int .u16 0, .bool false]) ∧ Below w.heap.size w w' := by
  go_enter Try.func38, Try.ntmps38
  go_wp2_with fail
  refine (there_no s i 2 hs (by decide) (by decide) h _).mono ?_
  rintro e w' ⟨rfl, rfl⟩
  go_wp2
  go_ret2
  refine ⟨rfl, ?_⟩
  go_grown
set_option maxHeartbeats 1000000 in
theorem take16_yes (s : ByteArray) (a : Nat) (hs : s.size ≤ maxLen) (h : a + 2 ≤ s.size) (w : World) :
    Calls Try.prog 38 #[.string s, .int .i64 (a : Int)] w fun e w' => e = .returned (.tuple #[.int .u16 (at2 s a : Int), .bool true]) ∧ Below w.heap.size w w' := by
  have hs' := hs
  unfold maxLen at hs
  have HE : Hid (at2 s a = le2 s[a].toNat s[a + 1].toNat) := by
    show at2 s a = le2 s[a].toNat s[a + 1].toNat
    unfold at2; rw [tbyte_get s a (by omega), tbyte_get s (a + 1) (by omega)]
  go_enter Try.func38, Try.ntmps38
  go_wp2_with fail
  refine (there_yes s a 2 hs' (by decide) h _).mono ?_
  rintro e w' ⟨rfl, rfl⟩
  go_wp2
  refine wp_loop_rounds 3 ?_
  rw [rounds_succ]
  go_wp2
  rw [rounds_succ]
  go_wp2
  rw [rounds_succ]
  go_wp2_with fail
  refine (of16_any _ _ (UInt8.toNat_lt _) (UInt8.toNat_lt _) _).mono ?_
  rintro e w1 ⟨rfl, hb⟩
  go_wp2
  go_ret2
  rw [HE.out]
  refine ⟨rfl, ?_⟩
  exact ((Below.refl _ _).alloc (Nat.le_refl _) _).trans (hb.mono (by simp))
set_option maxHeartbeats 1000000 in
theorem of64_any (a0 a1 a2 a3 a4 a5 a6 a7 : Nat) (h0 : a0 < 256) (h1 : a1 < 256) (h2 : a2 < 256) (h3 : a3 < 256) (h4 : a4 < 256) (h5 : a5 < 256) (h6 : a6 < 256) (h7 : a7 < 256) (w : World) :
    Calls Try.prog 45 #[.agg #[.int .u8 (a0 : Int), .int .u8 (a1 : Int), .int .u8 (a2 : Int), .int .u8 (a3 : Int), .int .u8 (a4 : Int), .int .u8 (a5 : Int), .int .u8 (a6 : Int), .int .u8 (a7 : Int)]] w fun e w' => e = .returned (.int .u64 (le8 a0 a1 a2 a3 a4 a5 a6 a7 : Int)) ∧ Below w.heap.size w w' := by
  go_enter Try.func45, Try.ntmps45
  go_wp2
  go_rounds 9
  go_returns
  refine ⟨ret_int (of8_val a0 a1 a2 a3 a4 a5 a6 a7 h0 h1 h2 h3 h4 h5 h6 h7), ?_⟩
  go_grown
set_option maxHeartbeats 1000000 in
theorem take64_no (s : ByteArray) (i : Int) (hs : s.size ≤ maxLen) (h : i < 0 ∨ (0 ≤ i ∧ (s.size : Int) - 8 < i)) (w : World) :
    Calls Try.prog 39 #[.string s, .int .i64 i] w fun e w' => e = .returned (.tuple #[.int .u64 0, .bool false]) ∧ Below w.heap.size w w' := by
  go_enter Try.func39, Try.ntmps39
  go_wp2_with fail
  refine (there_no s i 8 hs (by decide) (by decide) h _).mono ?_
  rintro e w' ⟨rfl, rfl⟩
  go_wp2
  go_ret2
  refine ⟨rfl, ?_⟩
  go_grown
set_option maxHeartbeats 1000000 in
theorem take64_yes (s : ByteArray) (a : Nat) (hs : s.size ≤ maxLen) (h : a + 8 ≤ s.size) (w : World) :
    Calls Try.prog 39 #[.string s, .int .i64 (a : Int)] w fun e w' => e = .returned (.tuple #[.int .u64 (at8 s a : Int), .bool true]) ∧ Below w.heap.size w w' := by
  have hs' := hs
  unfold maxLen at hs
  have HE : Hid (at8 s a = le8 s[a].toNat s[a + 1].toNat s[a + 2].toNat s[a + 3].toNat s[a + 4].toNat s[a + 5].toNat s[a + 6].toNat s[a + 7].toNat) := by
    show at8 s a = le8 s[a].toNat s[a + 1].toNat s[a + 2].toNat s[a + 3].toNat s[a + 4].toNat s[a + 5].toNat s[a + 6].toNat s[a + 7].toNat
    unfold at8; rw [tbyte_get s a (by omega), tbyte_get s (a + 1) (by omega), tbyte_get s (a + 2) (by omega), tbyte_get s (a + 3) (by omega), tbyte_get s (a + 4) (by omega), tbyte_get s (a + 5) (by omega), tbyte_get s (a + 6) (by omega), tbyte_get s (a + 7) (by omega)]
  go_enter Try.func39, Try.ntmps39
  go_wp2_with fail
  refine (there_yes s a 8 hs' (by decide) h _).mono ?_
  rintro e w' ⟨rfl, rfl⟩
  go_wp2
  refine wp_loop_rounds 9 ?_
  rw [rounds_succ]
  go_wp2
  rw [rounds_succ]
  go_wp2
  rw [rounds_succ]
  go_wp2
  rw [rounds_succ]
  go_wp2
  rw [rounds_succ]
  go_wp2
  rw [rounds_succ]
  go_wp2
  rw [rounds_succ]
  go_wp2
  rw [rounds_succ]
  go_wp2
  rw [rounds_succ]
  go_wp2_with fail
  refine (of64_any _ _ _ _ _ _ _ _ (UInt8.toNat_lt _) (UInt8.toNat_lt _) (UInt8.toNat_lt _) (UInt8.toNat_lt _) (UInt8.toNat_lt _) (UInt8.toNat_lt _) (UInt8.toNat_lt _) (UInt8.toNat_lt _) _).mono ?_
  rintro e w1 ⟨rfl, hb⟩
  go_wp2
  go_ret2
  rw [HE.out]
  refine ⟨rfl, ?_⟩
  exact ((Below.refl _ _).alloc (Nat.le_refl _) _).trans (hb.mono (by simp))
theorem at2_lt (s : ByteArray) (a : Nat) : at2 s a < 65536 := by
  have := tbyte_lt s a; have := tbyte_lt s (a + 1); unfold at2 le2; omega
theorem at8_lt (s : ByteArray) (a : Nat) : at8 s a < 18446744073709551616 := by
  have := tbyte_lt s a; have := tbyte_lt s (a + 1); have := tbyte_lt s (a + 2); have := tbyte_lt s (a + 3); have := tbyte_lt s (a + 4); have := tbyte_lt s (a + 5); have := tbyte_lt s (a + 6); have := tbyte_lt s (a + 7); unfold at8 le8; omega
theorem bytes16_va (x : Nat) (w : World) : Calls Try.prog 24 #[.int .u16 (x : Int)] w fun e w' => e = .returned (.agg (va 2 (iv .u8 (dig x)))) ∧ Below w.heap.size w w' := by
  have h : va 2 (iv .u8 (dig x)) = #[.int .u8 ((x % 256 : Nat) : Int), .int .u8 ((x / 256 % 256 : Nat) : Int)] := by
    show #[iv .u8 (dig x) 0, iv .u8 (dig x) 1] = _
    simp [iv, dig]
  rw [h]
  exact bytes16_any x w
/-- what a text has at a place; nought where it ends ahead of that -/
def tk2 (s : ByteArray) (a : Nat) : Nat := if a + 2 ≤ s.size then at2 s a else 0
def tk8 (s : ByteArray) (a : Nat) : Nat := if a + 8 ≤ s.size then at8 s a else 0
theorem take16_tk (s : ByteArray) (a : Nat) (hs : s.size ≤ maxLen) (w : World) : Calls Try.prog 38 #[.string s, .int .i64 (a : Int)] w fun e w' => (∃ b, e = .returned (.tuple #[.int .u16 (tk2 s a : Int), .bool b])) ∧ Below w.heap.size w w' := by
  unfold tk2
  by_cases h : a + 2 ≤ s.size
  · rw [if_pos h]
    exact (take16_yes s a hs h w).mono fun e w' ⟨h1, h2⟩ => ⟨⟨_, h1⟩, h2⟩
  · rw [if_neg h]
    exact (take16_no s a hs (Or.inr (by omega)) w).mono fun e w' ⟨h1, h2⟩ => ⟨⟨_, h1⟩, h2⟩
theorem take64_tk (s : ByteArray) (a : Nat) (hs : s.size ≤ maxLen) (w : World) : Calls Try.prog 39 #[.string s, .int .i64 (a : Int)] w fun e w' => (∃ b, e = .returned (.tuple #[.int .u64 (tk8 s a : Int), .bool b])) ∧ Below w.heap.size w w' := by
  unfold tk8
  by_cases h : a + 8 ≤ s.size
  · rw [if_pos h]
    exact (take64_yes s a hs h w).mono fun e w' ⟨h1, h2⟩ => ⟨⟨_, h1⟩, h2⟩
  · rw [if_neg h]
    exact (take64_no s a hs (Or.inr (by omega)) w).mono fun e w' ⟨h1, h2⟩ => ⟨⟨_, h1⟩, h2⟩
end Go.Proofs.Ytpoaipoadokggaa
