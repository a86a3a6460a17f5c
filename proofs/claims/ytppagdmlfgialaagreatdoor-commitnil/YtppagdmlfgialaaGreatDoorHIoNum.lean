/- Numbers in bytes: the document's number and value. -/
import Derived.Test.YtppagdmlfgialaaGreatDoorHIoRSize
import Derived.BigQuiet
import Derived.Deep.QuietTactic
import Derived.Handy
import Derived.Test.YtppagdmlfgialaaGreatDoorHIoRChkA
import Derived.Test.YtppagdmlfgialaaGreatDoorHSegsP
import Derived.Test.YtppagdmlfgialaaGreatDoorHNdKit
import Derived.Lib.Strings
import Derived.Lib.ConvBytes

namespace Go.Proofs.YtppagdmlfgialaaGreatDoor
theorem sgLHIoNum : (∀ (α : Type) (a : α) (l r : List α), (a :: l) ++ r = a :: (l ++ r)) ∧ (∀ (α : Type) (l : List α), [] ++ l = l) ∧ (∀ (α : Type) (l : List α), l ++ [] = l) ∧ (∀ (α β : Type) (f : α → Option β) (a : α) (l : List α), (a :: l).filterMap f = match f a with | none => l.filterMap f | some b => b :: l.filterMap f) ∧ (∀ (α β : Type) (f : α → Option β), [].filterMap f = []) ∧ (∀ (α : Type) (l : List α) (i : Nat), l.toArray[i]? = l[i]?) ∧ (∀ (α : Type) (a : α) (l : List α), (a :: l)[0]? = some a) ∧ (∀ (α : Type) (a : α) (l : List α) (i : Nat), (a :: l)[i + 1]? = l[i]?) :=
  ⟨fun _ _ _ _ => List.cons_append, fun _ _ => List.nil_append _, fun _ _ => List.append_nil _, fun _ _ _ _ _ => List.filterMap_cons, fun _ _ _ => List.filterMap_nil, fun _ _ _ => List.getElem?_toArray, fun _ _ _ => List.getElem?_cons_zero, fun _ _ _ _ => List.getElem?_cons_succ⟩
theorem sgPHIoNum : (∀ (α : Type) (l : List α) (i : Nat) (a : α), l.toArray.setIfInBounds i a = (l.set i a).toArray) ∧ (∀ (α : Type) (a b : α) (l : List α), (a :: l).set 0 b = b :: l) ∧ (∀ (α : Type) (a b : α) (l : List α) (i : Nat), (a :: l).set (i + 1) b = a :: l.set i b) :=
  ⟨fun _ _ _ _ => List.setIfInBounds_toArray _ _ _, fun _ _ _ _ => List.set_cons_zero, fun _ _ _ _ _ => List.set_cons_succ⟩
end Go.Proofs.YtppagdmlfgialaaGreatDoor
namespace Go.Proofs.YtppagdmlfgialaaGreatDoor
open Go Go.RowKit
set_option linter.unusedSimpArgs false
set_option linter.unusedVariables false
set_option maxRecDepth 100000
set_option maxHeartbeats 1000000 in
theorem rck_2la (x : Ino) (w : World) (l s h H : Int) (n : Nat) (br : Bool) (hk : x.k = 2) (hl : x.l = l) (hs : x.s = s) (hh : x.h = h) (hn : x.r.1 = n) (hbr : decide (x.r = rf0) = br) (hx0 : decide (x = in0) = false)
    (l1 : l < 1) : Calls Tryz.prog 89 #[.agg (inC x)] w fun e w' => e = .returned (.bool (false)) ∧ Below w.heap.size w w' := by
  have hz := zero_rino
  have hzr := zero_rrf
  have r0 : Blk (w.alloc (.cells (inC x) 116)) w.heap.size 116 (inC x) := Blk.new _ _ _
  have HB : Hid (Below w.heap.size w (w.alloc (.cells (inC x) 116))) := below_new1 _ _
  have hq : ∀ W, (Op.equalIn 10000 116 (.agg (inC x)) (.agg (inC in0))).run Tryz.prog W = .ok (decide (x = in0)) W := eq_rino 9995 x in0
  rw [hx0] at hq
  have hqr : ∀ W, (Op.equalIn 10000 70 (.agg (va 33 (rfF x.r.1 x.r.2))) (.agg (rfC rf0))).run Tryz.prog W = .ok (decide (x.r = rf0)) W := eq_rrf 9997 x.r rf0
  rw [hbr] at hqr
  have q0 : ∀ m, ((w.alloc (.cells (inC x) 116)).drewN m).rangeAt w.heap.size 5 ((List.range 33).map (rfF x.r.1 x.r.2)) := fun m => by
    have h := World.rangeAt_of_block (w := (w.alloc (.cells (inC x) 116)).drewN m) (b := w.heap.size) r0 5 33
    rw [in_ref] at h
    unfold rfC at h
    rwa [va_toList] at h
  have c0 := ino_c0 r0
  have c1 := ino_c1 r0
  have c2 := ino_c2 r0
  have c4 := ino_c4 r0
  have c5 := ino_c5 r0
  rw [hk] at c0
  rw [hl] at c1
  rw [hs] at c2
  rw [hh] at c4
  rw [hn] at c5
  clear hk hl hs hh hn hx0 hbr
  go_enter Tryz.func89, Tryz.ntmps89
  go_wp2_with (first | (refine wpList_load_row (by rfl) 116 _ (by rfl) (w.heap.size) (by rfl) 116 (inC x) (0, 0) _ (by exact r0) Tryz.underlying116 (by rfl) (sizeRIno.trans (by rw [inC_size])) ?_; simp only [Act.put, sgPHIoNum]) | (refine wpList_skip (by rfl) ?_; simp only [Act.put, sgPHIoNum]) | fail)
  go_ret
  exact ⟨by first | rfl | simp, HB.out⟩
set_option maxHeartbeats 1000000 in
theorem rck_2lb (x : Ino) (w : World) (l s h H : Int) (n : Nat) (br : Bool) (hk : x.k = 2) (hl : x.l = l) (hs : x.s = s) (hh : x.h = h) (hn : x.r.1 = n) (hbr : decide (x.r = rf0) = br) (hx0 : decide (x = in0) = false)
    (l1 : ¬ l < 1) (l2 : 1000 < l) : Calls Tryz.prog 89 #[.agg (inC x)] w fun e w' => e = .returned (.bool (false)) ∧ Below w.heap.size w w' := by
  have hz := zero_rino
  have hzr := zero_rrf
  have r0 : Blk (w.alloc (.cells (inC x) 116)) w.heap.size 116 (inC x) := Blk.new _ _ _
  have HB : Hid (Below w.heap.size w (w.alloc (.cells (inC x) 116))) := below_new1 _ _
  have hq : ∀ W, (Op.equalIn 10000 116 (.agg (inC x)) (.agg (inC in0))).run Tryz.prog W = .ok (decide (x = in0)) W := eq_rino 9995 x in0
  rw [hx0] at hq
  have hqr : ∀ W, (Op.equalIn 10000 70 (.agg (va 33 (rfF x.r.1 x.r.2))) (.agg (rfC rf0))).run Tryz.prog W = .ok (decide (x.r = rf0)) W := eq_rrf 9997 x.r rf0
  rw [hbr] at hqr
  have q0 : ∀ m, ((w.alloc (.cells (inC x) 116)).drewN m).rangeAt w.heap.size 5 ((List.range 33).map (rfF x.r.1 x.r.2)) := fun m => by
    have h := World.rangeAt_of_block (w := (w.alloc (.cells (inC x) 116)).drewN m) (b := w.heap.size) r0 5 33
    rw [in_ref] at h
    unfold rfC at h
    rwa [va_toList] at h
  have c0 := ino_c0 r0
  have c1 := ino_c1 r0
  have c2 := ino_c2 r0
  have c4 := ino_c4 r0
  have c5 := ino_c5 r0
  rw [hk] at c0
  rw [hl] at c1
  rw [hs] at c2
  rw [hh] at c4
  rw [hn] at c5
  clear hk hl hs hh hn hx0 hbr
  go_enter Tryz.func89, Tryz.ntmps89
  go_wp2_with (first | (refine wpList_load_row (by rfl) 116 _ (by rfl) (w.heap.size) (by rfl) 116 (inC x) (0, 0) _ (by exact r0) Tryz.underlying116 (by rfl) (sizeRIno.trans (by rw [inC_size])) ?_; simp only [Act.put, sgPHIoNum]) | (refine wpList_skip (by rfl) ?_; simp only [Act.put, sgPHIoNum]) | fail)
  go_ret
  exact ⟨by first | rfl | simp, HB.out⟩
set_option maxHeartbeats 1000000 in
theorem rck_2sa (x : Ino) (w : World) (l s h H : Int) (n : Nat) (br : Bool) (hk : x.k = 2) (hl : x.l = l) (hs : x.s = s) (hh : x.h = h) (hn : x.r.1 = n) (hbr : decide (x.r = rf0) = br) (hx0 : decide (x = in0) = false)
    (l1 : ¬ l < 1) (l2 : ¬ 1000 < l) (s1 : s < 0) : Calls Tryz.prog 89 #[.agg (inC x)] w fun e w' => e = .returned (.bool (false)) ∧ Below w.heap.size w w' := by
  have hz := zero_rino
  have hzr := zero_rrf
  have r0 : Blk (w.alloc (.cells (inC x) 116)) w.heap.size 116 (inC x) := Blk.new _ _ _
  have HB : Hid (Below w.heap.size w (w.alloc (.cells (inC x) 116))) := below_new1 _ _
  have hq : ∀ W, (Op.equalIn 10000 116 (.agg (inC x)) (.agg (inC in0))).run Tryz.prog W = .ok (decide (x = in0)) W := eq_rino 9995 x in0
  rw [hx0] at hq
  have hqr : ∀ W, (Op.equalIn 10000 70 (.agg (va 33 (rfF x.r.1 x.r.2))) (.agg (rfC rf0))).run Tryz.prog W = .ok (decide (x.r = rf0)) W := eq_rrf 9997 x.r rf0
  rw [hbr] at hqr
  have q0 : ∀ m, ((w.alloc (.cells (inC x) 116)).drewN m).rangeAt w.heap.size 5 ((List.range 33).map (rfF x.r.1 x.r.2)) := fun m => by
    have h := World.rangeAt_of_block (w := (w.alloc (.cells (inC x) 116)).drewN m) (b := w.heap.size) r0 5 33
    rw [in_ref] at h
    unfold rfC at h
    rwa [va_toList] at h
  have c0 := ino_c0 r0
  have c1 := ino_c1 r0
  have c2 := ino_c2 r0
  have c4 := ino_c4 r0
  have c5 := ino_c5 r0
  rw [hk] at c0
  rw [hl] at c1
  rw [hs] at c2
  rw [hh] at c4
  rw [hn] at c5
  clear hk hl hs hh hn hx0 hbr
  go_enter Tryz.func89, Tryz.ntmps89
  go_wp2_with (first | (refine wpList_load_row (by rfl) 116 _ (by rfl) (w.heap.size) (by rfl) 116 (inC x) (0, 0) _ (by exact r0) Tryz.underlying116 (by rfl) (sizeRIno.trans (by rw [inC_size])) ?_; simp only [Act.put, sgPHIoNum]) | (refine wpList_skip (by rfl) ?_; simp only [Act.put, sgPHIoNum]) | fail)
  go_ret
  exact ⟨by first | rfl | simp, HB.out⟩
set_option maxHeartbeats 1000000 in
theorem rck_2sb (x : Ino) (w : World) (l s h H : Int) (n : Nat) (br : Bool) (hk : x.k = 2) (hl : x.l = l) (hs : x.s = s) (hh : x.h = h) (hn : x.r.1 = n) (hbr : decide (x.r = rf0) = br) (hx0 : decide (x = in0) = false)
    (l1 : ¬ l < 1) (l2 : ¬ 1000 < l) (s1 : ¬ s < 0) (s2 : 1048576 < s) : Calls Tryz.prog 89 #[.agg (inC x)] w fun e w' => e = .returned (.bool (false)) ∧ Below w.heap.size w w' := by
  have hz := zero_rino
  have hzr := zero_rrf
  have r0 : Blk (w.alloc (.cells (inC x) 116)) w.heap.size 116 (inC x) := Blk.new _ _ _
  have HB : Hid (Below w.heap.size w (w.alloc (.cells (inC x) 116))) := below_new1 _ _
  have hq : ∀ W, (Op.equalIn 10000 116 (.agg (inC x)) (.agg (inC in0))).run Tryz.prog W = .ok (decide (x = in0)) W := eq_rino 9995 x in0
  rw [hx0] at hq
  have hqr : ∀ W, (Op.equalIn 10000 70 (.agg (va 33 (rfF x.r.1 x.r.2))) (.agg (rfC rf0))).run Tryz.prog W = .ok (decide (x.r = rf0)) W := eq_rrf 9997 x.r rf0
  rw [hbr] at hqr
  have q0 : ∀ m, ((w.alloc (.cells (inC x) 116)).drewN m).rangeAt w.heap.size 5 ((List.range 33).map (rfF x.r.1 x.r.2)) := fun m => by
    have h := World.rangeAt_of_block (w := (w.alloc (.cells (inC x) 116)).drewN m) (b := w.heap.size) r0 5 33
    rw [in_ref] at h
    unfold rfC at h
    rwa [va_toList] at h
  have c0 := ino_c0 r0
  have c1 := ino_c1 r0
  have c2 := ino_c2 r0
  have c4 := ino_c4 r0
  have c5 := ino_c5 r0
  rw [hk] at c0
  rw [hl] at c1
  rw [hs] at c2
  rw [hh] at c4
  rw [hn] at c5
  clear hk hl hs hh hn hx0 hbr
  go_enter Tryz.func89, Tryz.ntmps89
  go_wp2_with (first | (refine wpList_load_row (by rfl) 116 _ (by rfl) (w.heap.size) (by rfl) 116 (inC x) (0, 0) _ (by exact r0) Tryz.underlying116 (by rfl) (sizeRIno.trans (by rw [inC_size])) ?_; simp only [Act.put, sgPHIoNum]) | (refine wpList_skip (by rfl) ?_; simp only [Act.put, sgPHIoNum]) | fail)
  go_ret
  exact ⟨by first | rfl | simp, HB.out⟩
set_option maxHeartbeats 1000000 in
theorem rck_2l (x : Ino) (w : World) (l s h H : Int) (n : Nat) (br : Bool) (hk : x.k = 2) (hl : x.l = l) (hs : x.s = s) (hh : x.h = h) (hn : x.r.1 = n) (hbr : decide (x.r = rf0) = br) (hx0 : decide (x = in0) = false)
    (l1 : ¬ l < 1) (l2 : ¬ 1000 < l) (s1 : ¬ s < 0) (s2 : ¬ 1048576 < s) (l3 : ¬ l = 1) : Calls Tryz.prog 89 #[.agg (inC x)] w fun e w' => e = .returned (.bool (false)) ∧ Below w.heap.size w w' := by
  have hz := zero_rino
  have hzr := zero_rrf
  have r0 : Blk (w.alloc (.cells (inC x) 116)) w.heap.size 116 (inC x) := Blk.new _ _ _
  have HB : Hid (Below w.heap.size w (w.alloc (.cells (inC x) 116))) := below_new1 _ _
  have hq : ∀ W, (Op.equalIn 10000 116 (.agg (inC x)) (.agg (inC in0))).run Tryz.prog W = .ok (decide (x = in0)) W := eq_rino 9995 x in0
  rw [hx0] at hq
  have hqr : ∀ W, (Op.equalIn 10000 70 (.agg (va 33 (rfF x.r.1 x.r.2))) (.agg (rfC rf0))).run Tryz.prog W = .ok (decide (x.r = rf0)) W := eq_rrf 9997 x.r rf0
  rw [hbr] at hqr
  have q0 : ∀ m, ((w.alloc (.cells (inC x) 116)).drewN m).rangeAt w.heap.size 5 ((List.range 33).map (rfF x.r.1 x.r.2)) := fun m => by
    have h := World.rangeAt_of_block (w := (w.alloc (.cells (inC x) 116)).drewN m) (b := w.heap.size) r0 5 33
    rw [in_ref] at h
    unfold rfC at h
    rwa [va_toList] at h
  have c0 := ino_c0 r0
  have c1 := ino_c1 r0
  have c2 := ino_c2 r0
  have c4 := ino_c4 r0
  have c5 := ino_c5 r0
  rw [hk] at c0
  rw [hl] at c1
  rw [hs] at c2
  rw [hh] at c4
  rw [hn] at c5
  clear hk hl hs hh hn hx0 hbr
  go_enter Tryz.func89, Tryz.ntmps89
  go_wp2_with (first | (refine wpList_load_row (by rfl) 116 _ (by rfl) (w.heap.size) (by rfl) 116 (inC x) (0, 0) _ (by exact r0) Tryz.underlying116 (by rfl) (sizeRIno.trans (by rw [inC_size])) ?_; simp only [Act.put, sgPHIoNum]) | (refine wpList_skip (by rfl) ?_; simp only [Act.put, sgPHIoNum]) | fail)
  go_ret
  exact ⟨by first | rfl | simp, HB.out⟩
set_option maxHeartbeats 1000000 in
theorem rck_2m (x : Ino) (w : World) (l s h H : Int) (n : Nat) (br : Bool) (hk : x.k = 2) (hl : x.l = l) (hs : x.s = s) (hh : x.h = h) (hn : x.r.1 = n) (hbr : decide (x.r = rf0) = br) (hx0 : decide (x = in0) = false)
    (l1 : ¬ l < 1) (l2 : ¬ 1000 < l) (s1 : ¬ s < 0) (s2 : ¬ 1048576 < s) (l3 : l = 1) (m0 : ¬ s % 64 = 0) : Calls Tryz.prog 89 #[.agg (inC x)] w fun e w' => e = .returned (.bool (false)) ∧ Below w.heap.size w w' := by
  have hz := zero_rino
  have hzr := zero_rrf
  have r0 : Blk (w.alloc (.cells (inC x) 116)) w.heap.size 116 (inC x) := Blk.new _ _ _
  have HB : Hid (Below w.heap.size w (w.alloc (.cells (inC x) 116))) := below_new1 _ _
  have hq : ∀ W, (Op.equalIn 10000 116 (.agg (inC x)) (.agg (inC in0))).run Tryz.prog W = .ok (decide (x = in0)) W := eq_rino 9995 x in0
  rw [hx0] at hq
  have hqr : ∀ W, (Op.equalIn 10000 70 (.agg (va 33 (rfF x.r.1 x.r.2))) (.agg (rfC rf0))).run Tryz.prog W = .ok (decide (x.r = rf0)) W := eq_rrf 9997 x.r rf0
  rw [hbr] at hqr
  have q0 : ∀ m, ((w.alloc (.cells (inC x) 116)).drewN m).rangeAt w.heap.size 5 ((List.range 33).map (rfF x.r.1 x.r.2)) := fun m => by
    have h := World.rangeAt_of_block (w := (w.alloc (.cells (inC x) 116)).drewN m) (b := w.heap.size) r0 5 33
    rw [in_ref] at h
    unfold rfC at h
    rwa [va_toList] at h
  have c0 := ino_c0 r0
  have c1 := ino_c1 r0
  have c2 := ino_c2 r0
  have c4 := ino_c4 r0
  have c5 := ino_c5 r0
  rw [hk] at c0
  rw [hl] at c1
  rw [hs] at c2
  rw [hh] at c4
  rw [hn] at c5
  clear hk hl hs hh hn hx0 hbr
  subst l3
  go_enter Tryz.func89, Tryz.ntmps89
  go_wp2_with (first | (refine wpList_load_row (by rfl) 116 _ (by rfl) (w.heap.size) (by rfl) 116 (inC x) (0, 0) _ (by exact r0) Tryz.underlying116 (by rfl) (sizeRIno.trans (by rw [inC_size])) ?_; simp only [Act.put, sgPHIoNum]) | (refine wpList_skip (by rfl) ?_; simp only [Act.put, sgPHIoNum]) | fail)
  go_ret
  exact ⟨by first | rfl | simp, HB.out⟩
set_option maxHeartbeats 1000000 in
theorem rck_2h (x : Ino) (w : World) (l s h H : Int) (n : Nat) (br : Bool) (hk : x.k = 2) (hl : x.l = l) (hs : x.s = s) (hh : x.h = h) (hn : x.r.1 = n) (hbr : decide (x.r = rf0) = br) (hx0 : decide (x = in0) = false)
    (HS : Hid (∀ w : World, Calls Tryz.prog 147 #[.int .i64 s] w fun e w' => e = .returned (.int .i64 H) ∧ w' = w)) (l1 : ¬ l < 1) (l2 : ¬ 1000 < l) (s1 : ¬ s < 0) (s2 : ¬ 1048576 < s) (l3 : l = 1) (m0 : s % 64 = 0) (h1 : ¬ h = H) : Calls Tryz.prog 89 #[.agg (inC x)] w fun e w' => e = .returned (.bool (false)) ∧ Below w.heap.size w w' := by
  have hz := zero_rino
  have hzr := zero_rrf
  have r0 : Blk (w.alloc (.cells (inC x) 116)) w.heap.size 116 (inC x) := Blk.new _ _ _
  have HB : Hid (Below w.heap.size w (w.alloc (.cells (inC x) 116))) := below_new1 _ _
  have hq : ∀ W, (Op.equalIn 10000 116 (.agg (inC x)) (.agg (inC in0))).run Tryz.prog W = .ok (decide (x = in0)) W := eq_rino 9995 x in0
  rw [hx0] at hq
  have hqr : ∀ W, (Op.equalIn 10000 70 (.agg (va 33 (rfF x.r.1 x.r.2))) (.agg (rfC rf0))).run Tryz.prog W = .ok (decide (x.r = rf0)) W := eq_rrf 9997 x.r rf0
  rw [hbr] at hqr
  have q0 : ∀ m, ((w.alloc (.cells (inC x) 116)).drewN m).rangeAt w.heap.size 5 ((List.range 33).map (rfF x.r.1 x.r.2)) := fun m => by
    have h := World.rangeAt_of_block (w := (w.alloc (.cells (inC x) 116)).drewN m) (b := w.heap.size) r0 5 33
    rw [in_ref] at h
    unfold rfC at h
    rwa [va_toList] at h
  have c0 := ino_c0 r0
  have c1 := ino_c1 r0
  have c2 := ino_c2 r0
  have c4 := ino_c4 r0
  have c5 := ino_c5 r0
  rw [hk] at c0
  rw [hl] at c1
  rw [hs] at c2
  rw [hh] at c4
  rw [hn] at c5
  clear hk hl hs hh hn hx0 hbr
  subst l3
  go_enter Tryz.func89, Tryz.ntmps89
  go_wp2_with (first | (refine wpList_load_row (by rfl) 116 _ (by rfl) (w.heap.size) (by rfl) 116 (inC x) (0, 0) _ (by exact r0) Tryz.underlying116 (by rfl) (sizeRIno.trans (by rw [inC_size])) ?_; simp only [Act.put, sgPHIoNum]) | (refine wpList_skip (by rfl) ?_; simp only [Act.put, sgPHIoNum]) | fail)
  go_quiet ((go_at_call 147; exact Calls.quiet_of_same (HS.out _)))
  go_wp2_with (first | (refine wpList_load_blk (by rfl) 70 _ (by rfl) (w.heap.size) 5 33 (rfF x.r.1 x.r.2) (by rfl) _ (q0 _) Tryz.underlying70 rfl sizeRRf ?_; simp only [Act.put, sgPHIoNum]) | (refine wpList_skip (by rfl) ?_; simp only [Act.put, sgPHIoNum]) | fail)
  go_ret
  exact ⟨by first | rfl | simp, io_dN HB.out _⟩
set_option maxHeartbeats 1000000 in
theorem rck_2a (x : Ino) (w : World) (l s h H : Int) (n : Nat) (br : Bool) (hk : x.k = 2) (hl : x.l = l) (hs : x.s = s) (hh : x.h = h) (hn : x.r.1 = n) (hbr : decide (x.r = rf0) = br) (hx0 : decide (x = in0) = false)
    (HS : Hid (∀ w : World, Calls Tryz.prog 147 #[.int .i64 s] w fun e w' => e = .returned (.int .i64 H) ∧ w' = w)) (l1 : ¬ l < 1) (l2 : ¬ 1000 < l) (s1 : ¬ s < 0) (s2 : ¬ 1048576 < s) (l3 : l = 1) (m0 : s % 64 = 0) (h1 : h = H) (a1 : (8192 : Int) ≤ (n : Int)) : Calls Tryz.prog 89 #[.agg (inC x)] w fun e w' => e = .returned (.bool (false)) ∧ Below w.heap.size w w' := by
  have hz := zero_rino
  have hzr := zero_rrf
  have r0 : Blk (w.alloc (.cells (inC x) 116)) w.heap.size 116 (inC x) := Blk.new _ _ _
  have HB : Hid (Below w.heap.size w (w.alloc (.cells (inC x) 116))) := below_new1 _ _
  have hq : ∀ W, (Op.equalIn 10000 116 (.agg (inC x)) (.agg (inC in0))).run Tryz.prog W = .ok (decide (x = in0)) W := eq_rino 9995 x in0
  rw [hx0] at hq
  have hqr : ∀ W, (Op.equalIn 10000 70 (.agg (va 33 (rfF x.r.1 x.r.2))) (.agg (rfC rf0))).run Tryz.prog W = .ok (decide (x.r = rf0)) W := eq_rrf 9997 x.r rf0
  rw [hbr] at hqr
  have q0 : ∀ m, ((w.alloc (.cells (inC x) 116)).drewN m).rangeAt w.heap.size 5 ((List.range 33).map (rfF x.r.1 x.r.2)) := fun m => by
    have h := World.rangeAt_of_block (w := (w.alloc (.cells (inC x) 116)).drewN m) (b := w.heap.size) r0 5 33
    rw [in_ref] at h
    unfold rfC at h
    rwa [va_toList] at h
  have c0 := ino_c0 r0
  have c1 := ino_c1 r0
  have c2 := ino_c2 r0
  have c4 := ino_c4 r0
  have c5 := ino_c5 r0
  rw [hk] at c0
  rw [hl] at c1
  rw [hs] at c2
  rw [hh] at c4
  rw [hn] at c5
  clear hk hl hs hh hn hx0 hbr
  subst l3
  subst h1
  go_enter Tryz.func89, Tryz.ntmps89
  go_wp2_with (first | (refine wpList_load_row (by rfl) 116 _ (by rfl) (w.heap.size) (by rfl) 116 (inC x) (0, 0) _ (by exact r0) Tryz.underlying116 (by rfl) (sizeRIno.trans (by rw [inC_size])) ?_; simp only [Act.put, sgPHIoNum]) | (refine wpList_skip (by rfl) ?_; simp only [Act.put, sgPHIoNum]) | fail)
  go_quiet ((go_at_call 147; exact Calls.quiet_of_same (HS.out _)))
  go_wp2_with (first | (refine wpList_load_blk (by rfl) 70 _ (by rfl) (w.heap.size) 5 33 (rfF x.r.1 x.r.2) (by rfl) _ (q0 _) Tryz.underlying70 rfl sizeRRf ?_; simp only [Act.put, sgPHIoNum]) | (refine wpList_skip (by rfl) ?_; simp only [Act.put, sgPHIoNum]) | fail)
  go_ret
  exact ⟨by first | rfl | simp, io_dN HB.out _⟩
set_option maxHeartbeats 1000000 in
theorem rck_2r (x : Ino) (w : World) (l s h H : Int) (n : Nat) (z : Int) (hk : x.k = 2) (hl : x.l = l) (hs : x.s = s) (hh : x.h = h) (hn : x.r.1 = n) (hbr : decide (x.r = rf0) = (z == 1)) (hx0 : decide (x = in0) = false)
    (HS : Hid (∀ w : World, Calls Tryz.prog 147 #[.int .i64 s] w fun e w' => e = .returned (.int .i64 H) ∧ w' = w)) (l1 : ¬ l < 1) (l2 : ¬ 1000 < l) (s1 : ¬ s < 0) (s2 : ¬ 1048576 < s) (l3 : l = 1) (m0 : s % 64 = 0) (h1 : h = H) (a1 : ¬ (8192 : Int) ≤ (n : Int)) (e3 : ¬ (z ≠ 1)) : Calls Tryz.prog 89 #[.agg (inC x)] w fun e w' => e = .returned (.bool (true)) ∧ Below w.heap.size w w' := by
  have hz := zero_rino
  have hzr := zero_rrf
  have r0 : Blk (w.alloc (.cells (inC x) 116)) w.heap.size 116 (inC x) := Blk.new _ _ _
  have HB : Hid (Below w.heap.size w (w.alloc (.cells (inC x) 116))) := below_new1 _ _
  have hq : ∀ W, (Op.equalIn 10000 116 (.agg (inC x)) (.agg (inC in0))).run Tryz.prog W = .ok (decide (x = in0)) W := eq_rino 9995 x in0
  rw [hx0] at hq
  have hqr : ∀ W, (Op.equalIn 10000 70 (.agg (va 33 (rfF x.r.1 x.r.2))) (.agg (rfC rf0))).run Tryz.prog W = .ok (decide (x.r = rf0)) W := eq_rrf 9997 x.r rf0
  rw [hbr] at hqr
  have q0 : ∀ m, ((w.alloc (.cells (inC x) 116)).drewN m).rangeAt w.heap.size 5 ((List.range 33).map (rfF x.r.1 x.r.2)) := fun m => by
    have h := World.rangeAt_of_block (w := (w.alloc (.cells (inC x) 116)).drewN m) (b := w.heap.size) r0 5 33
    rw [in_ref] at h
    unfold rfC at h
    rwa [va_toList] at h
  have c0 := ino_c0 r0
  have c1 := ino_c1 r0
  have c2 := ino_c2 r0
  have c4 := ino_c4 r0
  have c5 := ino_c5 r0
  rw [hk] at c0
  rw [hl] at c1
  rw [hs] at c2
  rw [hh] at c4
  rw [hn] at c5
  clear hk hl hs hh hn hx0 hbr
  subst l3
  subst h1
  go_enter Tryz.func89, Tryz.ntmps89
  go_wp2_with (first | (refine wpList_load_row (by rfl) 116 _ (by rfl) (w.heap.size) (by rfl) 116 (inC x) (0, 0) _ (by exact r0) Tryz.underlying116 (by rfl) (sizeRIno.trans (by rw [inC_size])) ?_; simp only [Act.put, sgPHIoNum]) | (refine wpList_skip (by rfl) ?_; simp only [Act.put, sgPHIoNum]) | fail)
  go_quiet ((go_at_call 147; exact Calls.quiet_of_same (HS.out _)))
  go_wp2_with (first | (refine wpList_load_blk (by rfl) 70 _ (by rfl) (w.heap.size) 5 33 (rfF x.r.1 x.r.2) (by rfl) _ (q0 _) Tryz.underlying70 rfl sizeRRf ?_; simp only [Act.put, sgPHIoNum]) | (refine wpList_skip (by rfl) ?_; simp only [Act.put, sgPHIoNum]) | fail)
  go_ret
  have e4 : z = 1 := by omega
  exact ⟨by rw [e4]; rfl, io_dN HB.out _⟩
set_option maxHeartbeats 1000000 in
theorem rck_2z (x : Ino) (w : World) (l s h H : Int) (n : Nat) (br : Bool) (hk : x.k = 2) (hl : x.l = l) (hs : x.s = s) (hh : x.h = h) (hn : x.r.1 = n) (hbr : decide (x.r = rf0) = br) (hx0 : decide (x = in0) = false)
    (HS : Hid (∀ w : World, Calls Tryz.prog 147 #[.int .i64 s] w fun e w' => e = .returned (.int .i64 H) ∧ w' = w)) (l1 : ¬ l < 1) (l2 : ¬ 1000 < l) (s1 : ¬ s < 0) (s2 : ¬ 1048576 < s) (l3 : l = 1) (m0 : s % 64 = 0) (h1 : h = H) (a1 : ¬ (8192 : Int) ≤ (n : Int)) (b1 : br = false) (n1 : (n : Int) = 0) : Calls Tryz.prog 89 #[.agg (inC x)] w fun e w' => e = .returned (.bool (false)) ∧ Below w.heap.size w w' := by
  have hz := zero_rino
  have hzr := zero_rrf
  have r0 : Blk (w.alloc (.cells (inC x) 116)) w.heap.size 116 (inC x) := Blk.new _ _ _
  have HB : Hid (Below w.heap.size w (w.alloc (.cells (inC x) 116))) := below_new1 _ _
  have hq : ∀ W, (Op.equalIn 10000 116 (.agg (inC x)) (.agg (inC in0))).run Tryz.prog W = .ok (decide (x = in0)) W := eq_rino 9995 x in0
  rw [hx0] at hq
  have hqr : ∀ W, (Op.equalIn 10000 70 (.agg (va 33 (rfF x.r.1 x.r.2))) (.agg (rfC rf0))).run Tryz.prog W = .ok (decide (x.r = rf0)) W := eq_rrf 9997 x.r rf0
  rw [hbr] at hqr
  have q0 : ∀ m, ((w.alloc (.cells (inC x) 116)).drewN m).rangeAt w.heap.size 5 ((List.range 33).map (rfF x.r.1 x.r.2)) := fun m => by
    have h := World.rangeAt_of_block (w := (w.alloc (.cells (inC x) 116)).drewN m) (b := w.heap.size) r0 5 33
    rw [in_ref] at h
    unfold rfC at h
    rwa [va_toList] at h
  have c0 := ino_c0 r0
  have c1 := ino_c1 r0
  have c2 := ino_c2 r0
  have c4 := ino_c4 r0
  have c5 := ino_c5 r0
  rw [hk] at c0
  rw [hl] at c1
  rw [hs] at c2
  rw [hh] at c4
  rw [hn] at c5
  clear hk hl hs hh hn hx0 hbr
  subst l3
  subst h1
  subst b1
  go_enter Tryz.func89, Tryz.ntmps89
  go_wp2_with (first | (refine wpList_load_row (by rfl) 116 _ (by rfl) (w.heap.size) (by rfl) 116 (inC x) (0, 0) _ (by exact r0) Tryz.underlying116 (by rfl) (sizeRIno.trans (by rw [inC_size])) ?_; simp only [Act.put, sgPHIoNum]) | (refine wpList_skip (by rfl) ?_; simp only [Act.put, sgPHIoNum]) | fail)
  go_quiet ((go_at_call 147; exact Calls.quiet_of_same (HS.out _)))
  go_wp2_with (first | (refine wpList_load_blk (by rfl) 70 _ (by rfl) (w.heap.size) 5 33 (rfF x.r.1 x.r.2) (by rfl) _ (q0 _) Tryz.underlying70 rfl sizeRRf ?_; simp only [Act.put, sgPHIoNum]) | (refine wpList_skip (by rfl) ?_; simp only [Act.put, sgPHIoNum]) | fail)
  go_ret
  exact ⟨by first | rfl | simp, io_dN HB.out _⟩
set_option maxHeartbeats 1000000 in
theorem rck_2t (x : Ino) (w : World) (l s h H : Int) (n : Nat) (br : Bool) (hk : x.k = 2) (hl : x.l = l) (hs : x.s = s) (hh : x.h = h) (hn : x.r.1 = n) (hbr : decide (x.r = rf0) = br) (hx0 : decide (x = in0) = false)
    (HS : Hid (∀ w : World, Calls Tryz.prog 147 #[.int .i64 s] w fun e w' => e = .returned (.int .i64 H) ∧ w' = w)) (l1 : ¬ l < 1) (l2 : ¬ 1000 < l) (s1 : ¬ s < 0) (s2 : ¬ 1048576 < s) (l3 : l = 1) (m0 : s % 64 = 0) (h1 : h = H) (a1 : ¬ (8192 : Int) ≤ (n : Int)) (b1 : br = false) (n1 : ¬ (n : Int) = 0) : Calls Tryz.prog 89 #[.agg (inC x)] w fun e w' => e = .returned (.bool (decide (¬ s = 0))) ∧ Below w.heap.size w w' := by
  have hz := zero_rino
  have hzr := zero_rrf
  have r0 : Blk (w.alloc (.cells (inC x) 116)) w.heap.size 116 (inC x) := Blk.new _ _ _
  have HB : Hid (Below w.heap.size w (w.alloc (.cells (inC x) 116))) := below_new1 _ _
  have hq : ∀ W, (Op.equalIn 10000 116 (.agg (inC x)) (.agg (inC in0))).run Tryz.prog W = .ok (decide (x = in0)) W := eq_rino 9995 x in0
  rw [hx0] at hq
  have hqr : ∀ W, (Op.equalIn 10000 70 (.agg (va 33 (rfF x.r.1 x.r.2))) (.agg (rfC rf0))).run Tryz.prog W = .ok (decide (x.r = rf0)) W := eq_rrf 9997 x.r rf0
  rw [hbr] at hqr
  have q0 : ∀ m, ((w.alloc (.cells (inC x) 116)).drewN m).rangeAt w.heap.size 5 ((List.range 33).map (rfF x.r.1 x.r.2)) := fun m => by
    have h := World.rangeAt_of_block (w := (w.alloc (.cells (inC x) 116)).drewN m) (b := w.heap.size) r0 5 33
    rw [in_ref] at h
    unfold rfC at h
    rwa [va_toList] at h
  have c0 := ino_c0 r0
  have c1 := ino_c1 r0
  have c2 := ino_c2 r0
  have c4 := ino_c4 r0
  have c5 := ino_c5 r0
  rw [hk] at c0
  rw [hl] at c1
  rw [hs] at c2
  rw [hh] at c4
  rw [hn] at c5
  clear hk hl hs hh hn hx0 hbr
  subst l3
  subst h1
  subst b1
  go_enter Tryz.func89, Tryz.ntmps89
  go_wp2_with (first | (refine wpList_load_row (by rfl) 116 _ (by rfl) (w.heap.size) (by rfl) 116 (inC x) (0, 0) _ (by exact r0) Tryz.underlying116 (by rfl) (sizeRIno.trans (by rw [inC_size])) ?_; simp only [Act.put, sgPHIoNum]) | (refine wpList_skip (by rfl) ?_; simp only [Act.put, sgPHIoNum]) | fail)
  go_quiet ((go_at_call 147; exact Calls.quiet_of_same (HS.out _)))
  go_wp2_with (first | (refine wpList_load_blk (by rfl) 70 _ (by rfl) (w.heap.size) 5 33 (rfF x.r.1 x.r.2) (by rfl) _ (q0 _) Tryz.underlying70 rfl sizeRRf ?_; simp only [Act.put, sgPHIoNum]) | (refine wpList_skip (by rfl) ?_; simp only [Act.put, sgPHIoNum]) | fail)
  go_ret
  refine ⟨?_, io_dN HB.out _⟩
  have n2 : ¬ n = 0 := by omega
  by_cases s0 : s = 0 <;> simp [s0, n2]
end Go.Proofs.YtppagdmlfgialaaGreatDoor

namespace Go.Proofs.YtppagdmlfgialaaGreatDoor
open Go Go.RowKit
set_option linter.unusedSimpArgs false
set_option linter.unusedVariables false
set_option maxRecDepth 20000
set_option maxHeartbeats 1000000 in
theorem rcheck_zero (x : Ino) (w : World) (hx0 : decide (x = in0) = true) : Calls Tryz.prog 89 #[.agg (inC x)] w fun e w' => e = .returned (.bool true) ∧ Below w.heap.size w w' := by
  have hz := zero_rino
  have r0 : Blk (w.alloc (.cells (inC x) 116)) w.heap.size 116 (inC x) := Blk.new _ _ _
  have HB : Hid (Below w.heap.size w (w.alloc (.cells (inC x) 116))) := below_new1 _ _
  have hq : ∀ W, (Op.equalIn 10000 116 (.agg (inC x)) (.agg (inC in0))).run Tryz.prog W = .ok (decide (x = in0)) W := eq_rino 9995 x in0
  rw [hx0] at hq
  clear hx0
  go_enter Tryz.func89, Tryz.ntmps89
  go_wp2_with (first | (refine wpList_load_row (by rfl) 116 _ (by rfl) (w.heap.size) (by rfl) 116 (inC x) (0, 0) _ (by exact r0) Tryz.underlying116 (by rfl) (sizeRIno.trans (by rw [inC_size])) ?_; simp only [Act.put, sgPHIoNum]) | fail)
  go_ret
  exact ⟨rfl, HB.out⟩
theorem rcheck_any (x : Ino) (hx : InW x) (w : World) : Calls Tryz.prog 89 #[.agg (inC x)] w fun e w' => e = .returned (.bool (chk x)) ∧ Below w.heap.size w w' := by
  cases hx0 : decide (x = in0)
  · have HV : chk x = (lnk x && (siz x && tre x)) := by
      unfold chk
      rw [hx0, Bool.false_or]
    rw [HV]
    have HH : ∀ w : World, 0 ≤ x.s → x.s ≤ 1048576 → Calls Tryz.prog 147 #[.int .i64 x.s] w fun e w' => e = .returned (.int .i64 (hL 256 x.s)) ∧ w' = w := fun w h0 h1 => rheight_any x.s h0 h1 w
    by_cases k1 : x.k = 1
    · have e1 : ¬ (x.k ≠ 1) := fun h => h k1
      have e2 : ¬ x.k = 2 := by omega
      by_cases hl : ¬ x.l < 1 ∧ ¬ 1000 < x.l
      · have vl : lnk x = true := by
          unfold lnk
          rw [if_pos k1, decide_eq_true (by omega : 1 ≤ x.l), decide_eq_true (by omega : x.l ≤ 1000)]; rfl
        rw [vl, Bool.true_and]
        by_cases hs : ¬ x.s < 0 ∧ ¬ 1048576 < x.s
        · have HS' : Hid (∀ w : World, Calls Tryz.prog 147 #[.int .i64 x.s] w fun e w' => e = .returned (.int .i64 (hL 256 x.s)) ∧ w' = w) := fun w => HH w (by omega) (by omega)
          have vs : siz x = true := by
            unfold siz
            rw [if_neg (fun h => e2 h.1), decide_eq_true (by omega : 0 ≤ x.s), decide_eq_true (by omega : x.s ≤ 1048576)]; rfl
          rw [vs, Bool.true_and]
          by_cases h1 : x.h = hL 256 x.s
          · by_cases a1 : (8192 : Int) ≤ ((x.r.1 : Nat) : Int)
            · rw [show tre x = false from if_pos (Or.inr (by omega))]
              exact rck_1a x w _ _ _ _ _ _ _ rfl rfl rfl rfl rfl rfl hx0 HS' e1 e2 hl.1 hl.2 hs.1 hs.2 h1 a1
            · have vt : tre x = (decide (x.r = rf0) || (decide (x.r.1 ≠ 0) && decide (x.s ≠ 0))) := if_neg (fun h => by rcases h with h | h; exact h h1; omega)
              cases b1 : decide (x.r = rf0)
              · by_cases n1 : ((x.r.1 : Nat) : Int) = 0
                · rw [vt, b1, show decide (x.r.1 ≠ 0) = false from decide_eq_false (by omega)]
                  exact rck_1z x w _ _ _ _ _ _ _ rfl rfl rfl rfl rfl b1 hx0 HS' e1 e2 hl.1 hl.2 hs.1 hs.2 h1 a1 rfl n1
                · rw [vt, b1, show decide (x.r.1 ≠ 0) = true from decide_eq_true (by omega), Bool.true_and, Bool.false_or]
                  exact rck_1t x w _ _ _ _ _ _ _ rfl rfl rfl rfl rfl b1 hx0 HS' e1 e2 hl.1 hl.2 hs.1 hs.2 h1 a1 rfl n1
              · rw [vt, b1, Bool.true_or]
                exact rck_1r x w _ _ _ _ _ _ 1 rfl rfl rfl rfl rfl (b1.trans rfl) hx0 HS' e1 e2 hl.1 hl.2 hs.1 hs.2 h1 a1 (by omega)
          · rw [show tre x = false from if_pos (Or.inl h1)]
            exact rck_1h x w _ _ _ _ _ _ _ rfl rfl rfl rfl rfl rfl hx0 HS' e1 e2 hl.1 hl.2 hs.1 hs.2 h1
        · have vs : siz x = false := by
            unfold siz
            split
            · rfl
            · rw [Bool.and_eq_false_iff, decide_eq_false_iff_not, decide_eq_false_iff_not]
              omega
          rw [vs, Bool.false_and]
          by_cases s1 : x.s < 0
          · exact rck_1sa x w _ _ _ _ 0 _ _ rfl rfl rfl rfl rfl rfl hx0 e1 e2 hl.1 hl.2 s1
          · exact rck_1sb x w _ _ _ _ 0 _ _ rfl rfl rfl rfl rfl rfl hx0 e1 e2 hl.1 hl.2 s1 (by omega)
      · have vl : lnk x = false := by
          unfold lnk
          rw [if_pos k1, Bool.and_eq_false_iff, decide_eq_false_iff_not, decide_eq_false_iff_not]
          omega
        rw [vl, Bool.false_and]
        by_cases l1 : x.l < 1
        · exact rck_1la x w _ _ _ _ 0 _ _ rfl rfl rfl rfl rfl rfl hx0 e1 e2 l1
        · exact rck_1lb x w _ _ _ _ 0 _ _ rfl rfl rfl rfl rfl rfl hx0 e1 e2 l1 (by omega)
    · by_cases k2 : x.k = 2
      · skip
        by_cases hl : ¬ x.l < 1 ∧ ¬ 1000 < x.l
        · skip
          by_cases hs : ¬ x.s < 0 ∧ ¬ 1048576 < x.s
          · have HS' : Hid (∀ w : World, Calls Tryz.prog 147 #[.int .i64 x.s] w fun e w' => e = .returned (.int .i64 (hL 256 x.s)) ∧ w' = w) := fun w => HH w (by omega) (by omega)
            by_cases l3 : x.l = 1
            · have vl : lnk x = true := by
                unfold lnk
                rw [if_neg k1, if_pos k2, decide_eq_true l3]
              rw [vl, Bool.true_and]
              by_cases m0 : x.s % 64 = 0
              · have vs : siz x = true := by
                  unfold siz
                  rw [if_neg (fun h => h.2 (by rw [Int.tmod_eq_emod_of_nonneg (by omega)]; exact m0)), decide_eq_true (by omega : 0 ≤ x.s), decide_eq_true (by omega : x.s ≤ 1048576)]; rfl
                rw [vs, Bool.true_and]
                by_cases h1 : x.h = hL 256 x.s
                · by_cases a1 : (8192 : Int) ≤ ((x.r.1 : Nat) : Int)
                  · rw [show tre x = false from if_pos (Or.inr (by omega))]
                    exact rck_2a x w _ _ _ _ _ _ k2 rfl rfl rfl rfl rfl hx0 HS' hl.1 hl.2 hs.1 hs.2 l3 m0 h1 a1
                  · have vt : tre x = (decide (x.r = rf0) || (decide (x.r.1 ≠ 0) && decide (x.s ≠ 0))) := if_neg (fun h => by rcases h with h | h; exact h h1; omega)
                    cases b1 : decide (x.r = rf0)
                    · by_cases n1 : ((x.r.1 : Nat) : Int) = 0
                      · rw [vt, b1, show decide (x.r.1 ≠ 0) = false from decide_eq_false (by omega)]
                        exact rck_2z x w _ _ _ _ _ _ k2 rfl rfl rfl rfl b1 hx0 HS' hl.1 hl.2 hs.1 hs.2 l3 m0 h1 a1 rfl n1
                      · rw [vt, b1, show decide (x.r.1 ≠ 0) = true from decide_eq_true (by omega), Bool.true_and, Bool.false_or]
                        exact rck_2t x w _ _ _ _ _ _ k2 rfl rfl rfl rfl b1 hx0 HS' hl.1 hl.2 hs.1 hs.2 l3 m0 h1 a1 rfl n1
                    · rw [vt, b1, Bool.true_or]
                      exact rck_2r x w _ _ _ _ _ 1 k2 rfl rfl rfl rfl (b1.trans rfl) hx0 HS' hl.1 hl.2 hs.1 hs.2 l3 m0 h1 a1 (by omega)
                · rw [show tre x = false from if_pos (Or.inl h1)]
                  exact rck_2h x w _ _ _ _ _ _ k2 rfl rfl rfl rfl rfl hx0 HS' hl.1 hl.2 hs.1 hs.2 l3 m0 h1
              · rw [show siz x = false from if_pos ⟨k2, by rw [Int.tmod_eq_emod_of_nonneg (by omega)]; exact m0⟩, Bool.false_and]
                exact rck_2m x w _ _ _ 0 _ _ k2 rfl rfl rfl rfl rfl hx0 hl.1 hl.2 hs.1 hs.2 l3 m0
            · rw [show lnk x = false from by unfold lnk; rw [if_neg k1, if_pos k2, decide_eq_false l3], Bool.false_and]
              exact rck_2l x w _ _ _ 0 _ _ k2 rfl rfl rfl rfl rfl hx0 hl.1 hl.2 hs.1 hs.2 l3
          · have vs : siz x = false := by
              unfold siz
              split
              · rfl
              · rw [Bool.and_eq_false_iff, decide_eq_false_iff_not, decide_eq_false_iff_not]
                omega
            rw [vs, Bool.false_and, Bool.and_false]
            by_cases s1 : x.s < 0
            · exact rck_2sa x w _ _ _ 0 _ _ k2 rfl rfl rfl rfl rfl hx0 hl.1 hl.2 s1
            · exact rck_2sb x w _ _ _ 0 _ _ k2 rfl rfl rfl rfl rfl hx0 hl.1 hl.2 s1 (by omega)
        · have vl : lnk x = false := by
            unfold lnk
            rw [if_neg k1, if_pos k2, decide_eq_false_iff_not]
            omega
          rw [vl, Bool.false_and]
          by_cases l1 : x.l < 1
          · exact rck_2la x w _ _ _ 0 _ _ k2 rfl rfl rfl rfl rfl hx0 l1
          · exact rck_2lb x w _ _ _ 0 _ _ k2 rfl rfl rfl rfl rfl hx0 l1 (by omega)
      · rw [show lnk x = false from by unfold lnk; rw [if_neg k1, if_neg k2], Bool.false_and]
        exact rck_k x w _ _ _ _ 0 _ _ rfl rfl rfl rfl rfl rfl hx0 k1 k2
  · rw [show chk x = true from by unfold chk; rw [hx0, Bool.true_or]]
    exact rcheck_zero x w hx0
end Go.Proofs.YtppagdmlfgialaaGreatDoor

namespace Go.Proofs.YtppagdmlfgialaaGreatDoor
open Go Go.RowKit
set_option linter.unusedSimpArgs false
set_option linter.unusedVariables false
set_option maxRecDepth 20000
set_option maxHeartbeats 4000000 in
theorem table_any (n : Int) (hn : -9223372036854775808 ≤ n ∧ n ≤ 9223372036854775807) (w : World) : Calls Tryz.prog 58 #[.int .i64 n] w fun e w' => e = .returned (if 0 ≤ n ∧ n ≤ 4096 then .tuple #[.int .i64 (hL 4 n), .int .i64 0] else .tuple #[.int .i64 0, .int .i64 141]) ∧ w' = w := by
  by_cases h1 : 0 ≤ n
  · by_cases h2 : n ≤ 4096
    · rw [if_pos ⟨h1, h2⟩]
      have HL : Hid (∀ w : World, Calls Tryz.prog 103 #[.int .i64 4, .int .i64 n] w fun e w' => e = .returned (.int .i64 (hL 4 n)) ∧ w' = w) := least4 n hn.1 (by omega)
      generalize hL 4 n = H at *
      have h3 : ¬ n < 0 := by omega
      have h4 : ¬ 4096 < n := by omega
      go_enter Tryz.func58, Tryz.ntmps58
      go_wp2_with fail
      refine (HL.out _).mono ?_
      intro e w2 hw2
      obtain ⟨he2, hb2⟩ := hw2
      subst he2 hb2
      go_wp2_with fail
      go_ret2
      exact ⟨rfl, rfl⟩
    · rw [if_neg fun h => h2 h.2]
      have h3 : ¬ n < 0 := by omega
      have h4 : 4096 < n := by omega
      clear h1 h2
      go_enter Tryz.func58, Tryz.ntmps58
      go_wp2_with fail
      go_ret2
      exact ⟨rfl, rfl⟩
  · rw [if_neg fun h => h1 h.1]
    have h3 : n < 0 := by omega
    clear h1
    go_enter Tryz.func58, Tryz.ntmps58
    go_wp2_with fail
    go_ret2
    exact ⟨rfl, rfl⟩
end Go.Proofs.YtppagdmlfgialaaGreatDoor

namespace Go.Proofs.YtppagdmlfgialaaGreatDoor
open Go Go.RowKit
section
variable {P : Program} {ops : Array Oper} {Q : Exit → Act → World → Prop} {S : World → Prop}
/-- every order from here on: each operation that is ready may come next (pre) -/
def machB (ops : Array Oper) (pre : Nat → Array Bool → Bool) (fin : Array Bool → Bool) : Nat → Array Bool → Bool
  | 0, l => (Region.ready .any ops l).isEmpty && fin l
  | f + 1, l => !(Region.ready .any ops l).isEmpty && (Region.ready .any ops l).all fun i => pre i l && (ops[i]?).isSome && machB ops pre fin f (l.setIfInBounds i true)
/-- the operations that are taken ahead, then the machine: the check -/
def yieldsB (ops : Array Oper) (pre : Nat → Array Bool → Bool) (fin : Array Bool → Bool) : List Nat → Nat → Array Bool → Bool
  | [], f, l => machB ops pre fin f l
  | i :: ys, f, l => yieldW .any ops l [] i && yieldsB ops pre fin ys f (l.setIfInBounds i true)
/-- .. and the walk -/
def wpYields (P : Program) (ops : Array Oper) (S : World → Prop) (K : Array Bool → Act → Prop) : List Nat → Array Bool → Act → Prop
  | [], l, a => K l a
  | i :: ys, l, a => ∃ o v, ops[i]? = some o ∧ YieldsIf P ops S o v a ∧ wpYields P ops S K ys (l.setIfInBounds i true) (a.put o.dst v)
theorem mach_step {pre : Nat → Array Bool → Bool} {fin : Array Bool → Bool} {R : Array Bool → Act → World → Prop}
    (hstep : ∀ i l a w, pre i l = true → R l a w → wpList P ops (Strict fun _ a' w' => S w' ∧ R (l.setIfInBounds i true) a' w') ([i].filterMap fun i => ops[i]?) a w)
    (hend : ∀ l a w, fin l = true → R l a w → Strict Q .normal a w) :
    ∀ (fuel : Nat) (l : Array Bool) (a : Act) (w : World), machB ops pre fin fuel l = true → R l a w → wpAnyW P .any ops (Strict Q) S (([] : List Nat).contains ·) fuel l a w
  | 0, l, a, w, hg, hR => by
    simp only [machB, Bool.and_eq_true, List.isEmpty_iff] at hg
    exact ⟨hg.1, hend l a w hg.2 hR⟩
  | fuel + 1, l, a, w, hg, hR => by
    unfold machB at hg
    simp only [Bool.and_eq_true, Bool.not_eq_true'] at hg
    refine ⟨fun h => (by rw [h] at hg; exact absurd hg.1 (by decide)), fun i hi => ?_⟩
    have hg2 := hg.2
    rw [List.all_eq_true] at hg2
    have h2 := hg2 i hi
    simp only [Bool.and_eq_true] at h2
    obtain ⟨o, ho⟩ := Option.isSome_iff_exists.1 h2.1.2
    refine wpOp_mono (fun a' w' h' => ?_) (wpOp_strict (wpList_one ho (hstep i l a w h2.1.1 hR)))
    exact ⟨fun _ => h'.2.1, mach_step hstep hend fuel _ a' w' h2.2 h'.2.2⟩
theorem yields_step (hs : Region.noSelect ops = true) {pre : Nat → Array Bool → Bool} {fin : Array Bool → Bool} {K : Array Bool → Act → Prop} {w : World} (hS : S w) {f : Nat}
    (hK : ∀ l a, machB ops pre fin f l = true → K l a → wpAnyW P .any ops (Strict Q) S (([] : List Nat).contains ·) f l a w) :
    ∀ (ys : List Nat) (l : Array Bool) (a : Act), yieldsB ops pre fin ys f l = true → wpYields P ops S K ys l a → wpAnyW P .any ops (Strict Q) S (([] : List Nat).contains ·) (ys.length + f) l a w
  | [], l, a, hb, h => by
    rw [List.length_nil, Nat.zero_add]
    exact hK l a hb h
  | i :: ys, l, a, hb, h => by
    simp only [yieldsB, Bool.and_eq_true] at hb
    obtain ⟨o, v, ho, hy, hn⟩ := h
    have hc := hb.1
    unfold yieldW at hc
    rw [ho] at hc
    simp only [Bool.and_eq_true, Bool.not_eq_true'] at hc
    rw [List.length_cons, show ys.length + 1 + f = ys.length + f + 1 from by omega]
    exact takeS_gen hs ho hc.1.1.1 hc.1.1.2 hc.1.2 hc.2 hy hS (yields_step hs hS hK ys _ _ hb.2 hn)
/-- the whole check -/
def machWhole (ops : Array Oper) (pre : Nat → Array Bool → Bool) (fin : Array Bool → Bool) (ys : List Nat) (f : Nat) : Bool :=
  (ys.length + f == ops.size) && Region.noSelect ops && yieldsB ops pre fin ys f (Array.replicate ops.size false)
/-- THE LAW. -/
theorem wp_region_mach {id : Nat} {a : Act} {w : World} (S : World → Prop) (pre : Nat → Array Bool → Bool) (fin : Array Bool → Bool) (ys : List Nat) (f : Nat) (R : Array Bool → Act → World → Prop)
    (hm : P.follows .mixedOrders = true) (hB : machWhole ops pre fin ys f = true) (hS : S w.drew)
    (hy : wpYields P ops S (fun l a' => R l a' w.drew) ys (Array.replicate ops.size false) a)
    (hstep : ∀ i l a w, pre i l = true → R l a w → wpList P ops (Strict fun _ a' w' => S w' ∧ R (l.setIfInBounds i true) a' w') ([i].filterMap fun i => ops[i]?) a w)
    (hend : ∀ l a w, fin l = true → R l a w → Strict Q .normal a w) : (Code.region id ops true).wp P Q a w := by
  unfold machWhole at hB
  simp only [Bool.and_eq_true, beq_iff_eq] at hB
  obtain ⟨⟨e, hs⟩, hb⟩ := hB
  refine Code.wp_mono Strict.imp (wp_region_any hm ?_)
  rw [← e] at hb hy ⊢
  exact wpAny_of_W _ _ _ _ (yields_step hs hS (fun l a' h1 h2 => mach_step hstep hend f l a' _ h1 h2) ys _ a hb hy)
end
end Go.Proofs.YtppagdmlfgialaaGreatDoor

namespace Go.Proofs.YtppagdmlfgialaaGreatDoor
set_option maxRecDepth 20000
open Go Go.RowKit
set_option linter.unusedVariables false
set_option linter.unusedSimpArgs false
/-- an inode's bytes -/
def inB (x : Ino) (j : Nat) : Nat :=
  if j < 2 then dig x.k.toNat j else if j < 4 then dig x.l.toNat (j - 2) else if j < 6 then dig x.h.toNat (j - 4) else if j < 8 then 0 else if j < 16 then dig x.s.toNat (j - 8) else if j < 24 then dig x.t (j - 16) else if j < 60 then encR x.r (j - 24) else 0
theorem wrap_u64 (i : Nat) (h : i < 18446744073709551616) : IntKind.u64.wrap (i : Int) = (i : Int) := by
  unfold IntKind.wrap
  simp only [IntKind.bits, IntKind.signed]
  have : ((i : Int)) % (2 ^ 64) = (i : Int) := by omega
  simp [this]
  omega
theorem gs_eq {l : Array Bool} {i n : Nat} (h : l.size = n) (hi : i < n) : (l.setIfInBounds i true).getD i false = true := by
  simp [Array.getD, h, hi]
theorem gs_ne {l : Array Bool} {i j : Nat} (h : i ≠ j) : (l.setIfInBounds i true).getD j false = l.getD j false := by
  rw [Array.getD_eq_getD_getElem?, Array.getD_eq_getD_getElem?, Array.getElem?_setIfInBounds, if_neg h]
/-- what may be is small -/
theorem chk_small {x : Ino} (h : chk x = true) : (0 ≤ x.k ∧ x.k ≤ 2) ∧ (0 ≤ x.l ∧ x.l ≤ 1000) ∧ (0 ≤ x.h ∧ x.h ≤ 6) ∧ (0 ≤ x.s ∧ x.s ≤ 1048576) ∧ x.r.1 < 8192 ∧ rOk x.r = true := by
  unfold chk at h
  simp only [Bool.or_eq_true, decide_eq_true_eq, Bool.and_eq_true] at h
  rcases h with rfl | ⟨h1, h2, h3⟩
  · decide
  · unfold siz at h2
    split at h2
    · cases h2
    simp only [Bool.and_eq_true, decide_eq_true_eq] at h2
    unfold tre at h3
    split at h3
    · cases h3
    rename_i hq
    simp only [Bool.or_eq_true, decide_eq_true_eq, Bool.and_eq_true] at h3
    have hh := hL_lt 256 x.s
    have hq1 : x.h = hL 256 x.s := by
      rcases Decidable.em (x.h = hL 256 x.s) with h | h
      · exact h
      · exact absurd (Or.inl h) hq
    have hq2 : x.r.1 < 8192 := by
      rcases Nat.lt_or_ge x.r.1 8192 with h | h
      · exact h
      · exact absurd (Or.inr h) hq
    have hr : rOk x.r = true := by
      unfold rOk
      simp only [Bool.or_eq_true, decide_eq_true_eq]
      rcases h3 with h3 | h3
      · exact Or.inl h3
      · exact Or.inr h3.1
    unfold lnk at h1
    split at h1
    · simp only [Bool.and_eq_true, decide_eq_true_eq] at h1
      exact ⟨by omega, by omega, by omega, h2, hq2, hr⟩
    · split at h1
      · simp only [decide_eq_true_eq] at h1
        exact ⟨by omega, by omega, by omega, h2, hq2, hr⟩
      · cases h1
end Go.Proofs.YtppagdmlfgialaaGreatDoor

namespace Go.Proofs.YtppagdmlfgialaaGreatDoor
set_option maxRecDepth 20000
open Go Go.RowKit
set_option linter.unusedVariables false
set_option linter.unusedSimpArgs false
/-- a slice of bytes that says a text -/
def IsB (w : World) (v : Value) (s : ByteArray) : Prop := ∀ W, Below w.heap.size w W → (convert 206 9 v).run Tryz.prog W = .ok (.string s) W
theorem IsB.below {w w' : World} {v : Value} {s : ByteArray} (h : IsB w v s) (hb : Below w.heap.size w w') : IsB w' v s := fun W hW => h W (hb.trans (hW.mono hb.size))
theorem IsB.own {w : World} {g T o n c N : Nat} {f : Nat → Nat} (h : Blk w g T (va N (iv .u8 f))) (hn : o + n ≤ N) : IsB w (.slice (some ⟨g, o, none⟩) n c) (strN (fun j => f (o + j)) n) := fun W hW => by
  exact run_bytes_text (P := Tryz.prog) W 206 5 9 Tryz.underlying206 Tryz.underlying5 Tryz.underlying9 (h.below hW h.lt) o n c hn
theorem IsB.all {w : World} {g T c N : Nat} {f : Nat → Nat} (h : Blk w g T (va N (iv .u8 f))) : IsB w (.slice (some ⟨g, 0, none⟩) N c) (strN f N) := by
  have := IsB.own (c := c) h (o := 0) (n := N) (by omega)
  rwa [show (fun j => f (0 + j)) = f by funext j; rw [Nat.zero_add]] at this
end Go.Proofs.YtppagdmlfgialaaGreatDoor

namespace Go.Proofs.YtppagdmlfgialaaGreatDoor
set_option maxRecDepth 20000
open Go Go.RowKit
set_option linter.unusedVariables false
set_option linter.unusedSimpArgs false
theorem inB_lt (x : Ino) (hx : okD x.r.2) (j : Nat) : inB x j < 256 := by
  have hd : ∀ a b, dig a b < 256 := fun a b => Nat.mod_lt _ (by decide)
  unfold inB
  split
  · exact hd _ _
  · split
    · exact hd _ _
    · split
      · exact hd _ _
      · split
        · decide
        · split
          · exact hd _ _
          · split
            · exact hd _ _
            · split
              · exact encR_lt x.r hx _ (by omega)
              · decide
end Go.Proofs.YtppagdmlfgialaaGreatDoor

namespace Go.Proofs.YtppagdmlfgialaaGreatDoor
set_option maxRecDepth 20000
open Go Go.RowKit
set_option linter.unusedVariables false
set_option linter.unusedSimpArgs false
set_option maxHeartbeats 1000000 in
theorem number_own (n k : Nat) (hk : k ≤ 8) (hn : n < 18446744073709551616) (w : World) :
    Calls Tryz.prog 90 #[.int .u64 (n : Int), .int .i64 (k : Int)] w fun e w' => ∃ v, e = .returned v ∧ w'.ownsRow w.heap.size 5 1 v k ((digs n k).map (Value.int .u8)) ∧ Below w.heap.size w w' := by
  obtain ⟨i0, hi, hz0, hz1, hz2⟩ := info_parts infoU8
  go_enter Tryz.func90, Tryz.ntmps90
  go_wp2
  go_loopw [0, 5, 6] (fun m v i wr => ∃ j : Nat, j ≤ k ∧ i = .int .i64 j ∧ m = .int .u64 ((n / 256 ^ j : Nat) : Int) ∧ wr.ownsRow w.heap.size 5 1 v j ((digs n j).map (Value.int .u8)) ∧ Below w.heap.size w wr) (fun _ _ i _ => k - (intOf i).toNat)
  case atStart =>
    refine ⟨0, by omega, rfl, by simp, ?_, (Below.refl _ _).alloc (Nat.le_refl _) _⟩
    exact World.ownsRow_lit w #[] 0 (Nat.le_refl _) (by decide) rfl
  case round =>
    obtain ⟨j, hj, rfl, rfl, hown, hbel⟩ := hrel
    by_cases hlt : j < k
    · have hv := hown.lt
      have hqn : n / 256 ^ j ≤ n := Nat.div_le_self _ _
      have HD := digs_succ n j
      have HQ : n / 256 ^ (j + 1) = n / 256 ^ j / 256 := by rw [Nat.pow_succ, Nat.div_div_eq_div_mul]
      generalize hq : n / 256 ^ j = q at *
      have HD' : Hid (digs n (j + 1) = digs n j ++ [((q % 256 : Nat) : Int)]) := HD
      have HQ' : Hid (n / 256 ^ (j + 1) = q / 256) := HQ
      clear HD HQ hq
      go_wp2_with (first
        | (at_builtin; refine wpList_append_own _ rfl _ _ 206 rfl w.heap.size 5 i0 (.int .u8 0) 1 1 Tryz.underlying206 hi hz0 hz1 hz2 rfl (by decide) _ _ _ rfl (hown.alloc _) ⟨wr.heap.size, 0, none⟩ 1 1 [.int .u8 ((q : Int) % 256)] rfl rfl (cell_one_new _ _ _) (fun x hx => by simp at hx; subst hx; rfl) (by unfold maxLen; omega) (by omega) (by have := hbel.size; simp; omega) ?_)
        | go_in)
      intro v' w1 hown' hgrow _
      have hb1 : Below w.heap.size w w1 := (hbel.alloc (by have := hbel.size; omega) _).grown hgrow (by have := hbel.size; simp; omega) (fun k hk => (hv k hk).1)
      clear hown hv hgrow hbel
      go_wp2
      go_roundw
      case rel =>
        refine ⟨j + 1, by omega, by go_num, ?_, ?_, hb1⟩
        · rw [HQ'.out]; simp
        · rw [HD'.out]; simpa using hown'
      case measure => simp [intOf]; omega
    · go_wp2
      go_ret
      have : j = k := by omega
      subst this
      exact ⟨_, rfl, hown, hbel⟩
end Go.Proofs.YtppagdmlfgialaaGreatDoor
