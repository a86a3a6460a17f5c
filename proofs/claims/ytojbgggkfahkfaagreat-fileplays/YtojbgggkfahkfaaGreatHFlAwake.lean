/- Files: bytes are written and read (awake). -/
import Derived.Test.YtojbgggkfahkfaaGreatHFlCalls
import Derived.Handy
import Derived.Test.YtojbgggkfahkfaaGreatHLogOf
import Derived.Test.YtojbgggkfahkfaaGreatHInsCalls
import Derived.Test.YtojbgggkfahkfaaGreatHCaKit
import Derived.Test.YtojbgggkfahkfaaGreatHCaGet2
import Derived.Test.YtojbgggkfahkfaaGreatHSegsS

namespace Go.Proofs.YtojbgggkfahkfaaGreat
open Go Go.RowKit
set_option linter.unusedSimpArgs false
set_option linter.unusedVariables false
section
variable {w : World} {x mf ml mc : Nat} {cp : Option Addr} {top : Int} {H : Nat → Hd} {D : Nat → Nat → Nat → Nat} {n sz st : Nat} {F : Nat → Nat}
theorem empty_text {s : ByteArray} (h : s.size = 0) : s = ⟨#[]⟩ := by
  cases s with | mk d => simp [ByteArray.size] at h; simp [h]
theorem fl_full {t : ByteArray} (h : 0 < t.size) : t.toList.isEmpty = false := by
  rw [ByteArray.toList_eq]
  cases ht : t.data.toList with
  | nil =>
    have : t.data.toList.length = t.size := Array.length_toList
    rw [ht] at this
    simp at this
    omega
  | cons a l => rfl
set_option maxRecDepth 100000 in
theorem write_big (xp : Value) (n sz st a s' : Nat) (s : ByteArray) (ha : a ≤ 9223372036854775807) (hs : s.size ≤ 140737488355328) (hb : 1048576 < a + s.size) (w : World) : Calls Tryz.prog 40 #[xp, .agg (fiC n sz st), .int .i64 (a : Int), .string s, .int .u64 ((s' : Nat) : Int)] w fun e w' => e = .returned (.int .i64 160) ∧ Below w.heap.size w w' := by
  have HB := tooBig_any (a : Int) s.size (by omega) hs (w.alloc (.cells (fiC n sz st) 77))
  rw [decide_eq_true (by omega)] at HB
  have hb1 : Below w.heap.size w (w.alloc (.cells (fiC n sz st) 77)) := below_new1 _ _
  clear hb
  go_enter Tryz.func40, Tryz.ntmps40
  go_wp2_with fail
  refine HB.mono ?_
  rintro e w1 ⟨rfl, hw⟩
  rw [hw]
  clear hw w1
  go_wp2_with fail
  go_ret
  exact ⟨rfl, hb1⟩
set_option maxRecDepth 100000 in
theorem write_none (xp : Value) (n sz st a s' : Nat) (ha : a ≤ 1048576) (w : World) : Calls Tryz.prog 40 #[xp, .agg (fiC n sz st), .int .i64 (a : Int), .string ⟨#[]⟩, .int .u64 ((s' : Nat) : Int)] w fun e w' => e = .returned (.int .i64 0) ∧ Below w.heap.size w w' := by
  have HB := tooBig_any (a : Int) 0 (by omega) (by omega) (w.alloc (.cells (fiC n sz st) 77))
  rw [decide_eq_false (by omega)] at HB
  have hb1 : Below w.heap.size w (w.alloc (.cells (fiC n sz st) 77)) := below_new1 _ _
  go_enter Tryz.func40, Tryz.ntmps40
  go_wp2_with fail
  refine HB.mono ?_
  rintro e w1 ⟨rfl, hw⟩
  rw [hw]
  clear hw w1
  go_wp2_with fail
  go_ret
  exact ⟨rfl, hb1⟩
set_option maxRecDepth 100000 in
set_option maxHeartbeats 4000000 in
theorem IM.write (h : IM w x mf ml mc cp top H D) (hf : Fi H D n sz st F) (s : ByteArray) (a s' : Nat) (hs : 0 < s.size) (ha : a + s.size ≤ 1048576) : Calls Tryz.prog 40 #[.pointer (some ⟨x, 0, none⟩), .agg (fiC n sz st), .int .i64 (a : Int), .string s, .int .u64 ((s' : Nat) : Int)] w fun e w' => e = .returned (.int .i64 0) ∧ Now w' x mf ml mc cp top H D n (max sz (a + s.size)) s' (wrF F sz s a) ∧ Turns (fun z => z = ml ∨ z = mf) w w' := by
  have HB := tooBig_any (a : Int) s.size (by omega) (by omega) (w.alloc (.cells (fiC n sz st) 77))
  rw [decide_eq_false (by omega)] at HB
  have hb1 : Below w.heap.size w (w.alloc (.cells (fiC n sz st) 77)) := below_new1 _ _
  have u2 : Blk (w.alloc (.cells (fiC n sz st) 77)) w.heap.size 77 (fiC n sz st) := Blk.new _ _ _
  have c3 := fi_c3 u2
  have HL := (h.below hb1).lay hf s a (max sz (a + s.size)) s' hs (by omega) (by have := hf.le; omega) (by omega)
  obtain ⟨S, hS⟩ : ∃ S : Nat, s.size = S := ⟨_, rfl⟩
  obtain ⟨en, hen⟩ : ∃ en : Nat, a + S = en := ⟨_, rfl⟩
  obtain ⟨z, hz⟩ : ∃ z : Nat, max sz en = z := ⟨_, rfl⟩
  rw [hS, hen, hz] at HL
  rw [hS, hen, hz]
  rw [hS] at HB
  have hne : s.toList.isEmpty = false := fl_full hs
  have e1 : (a : Int) + (S : Int) = (en : Int) := by omega
  have e2 : max (sz : Int) (en : Int) = (z : Int) := by omega
  have b1 : en ≤ 1048576 := by omega
  clear h hf hs ha hen hz
  go_enter Tryz.func40, Tryz.ntmps40
  go_wp2_with fail
  refine HB.mono ?_
  rintro e w1 ⟨rfl, hw⟩
  rw [hw]
  clear hw w1 HB
  go_wp2_with (first
    | (refine wpList_load_row (by rfl) 77 _ (by rfl) (w.heap.size) (by rfl) 77 (fiC n sz st) (0, 0) _ (by exact u2) Tryz.underlying77 (by rfl) (sizeInfo.trans (by rfl)) ?_; simp only [Act.put, List.setIfInBounds_toArray, List.set_cons_zero, List.set_cons_succ])
    | fail)
  refine HL.mono ?_
  rintro e w2 ⟨rfl, hN, hT⟩
  have HE : Hid (Now w2 x mf ml mc cp top H D n z s' (wrF F sz s a) ∧ Turns (fun z => z = ml ∨ z = mf) w w2) := ⟨hN, (Turns.bel hb1).tr hT⟩
  clear HL hN hT
  go_wp2_with fail
  go_ret
  exact ⟨rfl, HE.out⟩
set_option maxRecDepth 100000 in
set_option maxHeartbeats 4000000 in
theorem IM.writeBad (h : IM w x mf ml mc cp top H D) (hf : Fi H D n sz st F) (a : Int) (ha : a < 0) (s : ByteArray) (s' : Nat) : Calls Tryz.prog 16 #[.pointer (some ⟨x, 0, none⟩), .int .i64 (n : Int), .int .i64 a, .string s, .int .u64 ((s' : Nat) : Int)] w fun e w' => e = .returned (.tuple #[.int .i64 0, .int .i64 1]) ∧ Below w.heap.size w w' := by
  have H1 := h.oneF hf
  have hzi : ∀ w, (zeroValue 77).run Tryz.prog w = .ok (.agg if0) w := zero_info
  clear h hf
  go_enter Tryz.func16, Tryz.ntmps16
  go_wp2_with fail
  refine H1.mono ?_
  rintro e w2 ⟨rfl, hb2⟩
  have u1 : Blk (w2.alloc (.cells if0 77)) w2.heap.size 77 if0 := Blk.new _ _ _
  have u2 := u1.set (fiC n sz st)
  have c3 : ((w2.alloc (.cells if0 77)).setRow w2.heap.size (fiC n sz st)).cell? ⟨w2.heap.size, 3, none⟩ = some (.int .i64 (sz : Int)) := (u2.cell 3).trans rfl
  have HE : Hid (Below w.heap.size w ((w2.alloc (.cells if0 77)).setRow w2.heap.size (fiC n sz st))) := below_setRow (hb2.alloc hb2.size _) hb2.size _
  have HS2 : Hid (w.heap.size ≤ w2.heap.size) := hb2.size
  clear hb2 H1
  go_wp2_with (first
    | (refine wpList_store_row (by rfl) 77 _ _ (by rfl) (w2.heap.size) (fiC n sz st) (by rfl) (by rfl) 77 if0 (by exact u1) (sizeInfo.trans (by rfl)) (by rfl) (fi_all _ _ _) ?_; simp only [Act.put, List.setIfInBounds_toArray, List.set_cons_zero, List.set_cons_succ])
    | fail)
  go_ret2
  exact ⟨rfl, HE.out⟩
set_option maxRecDepth 100000 in
set_option maxHeartbeats 4000000 in
theorem IM.writeBig (h : IM w x mf ml mc cp top H D) (hf : Fi H D n sz st F) (a s' : Nat) (s : ByteArray) (ha : a ≤ 9223372036854775807) (hs : s.size ≤ 140737488355328) (hb : 1048576 < a + s.size) : Calls Tryz.prog 16 #[.pointer (some ⟨x, 0, none⟩), .int .i64 (n : Int), .int .i64 (a : Int), .string s, .int .u64 ((s' : Nat) : Int)] w fun e w' => e = .returned (.tuple #[.int .i64 0, .int .i64 160]) ∧ Below w.heap.size w w' := by
  have H1 := h.oneF hf
  have hzi : ∀ w, (zeroValue 77).run Tryz.prog w = .ok (.agg if0) w := zero_info
  have HW : Hid (∀ V : World, Calls Tryz.prog 40 #[.pointer (some ⟨x, 0, none⟩), .agg (fiC n sz st), .int .i64 (a : Int), .string s, .int .u64 ((s' : Nat) : Int)] V fun e w' => e = .returned (.int .i64 160) ∧ Below V.heap.size V w') := fun V => write_big _ n sz st a s' s ha hs hb V
  have a0 : ¬ ((a : Int) < 0) := by omega
  clear h hf hb
  go_enter Tryz.func16, Tryz.ntmps16
  go_wp2_with fail
  refine H1.mono ?_
  rintro e w2 ⟨rfl, hb2⟩
  have u1 : Blk (w2.alloc (.cells if0 77)) w2.heap.size 77 if0 := Blk.new _ _ _
  have u2 := u1.set (fiC n sz st)
  have c3 : ((w2.alloc (.cells if0 77)).setRow w2.heap.size (fiC n sz st)).cell? ⟨w2.heap.size, 3, none⟩ = some (.int .i64 (sz : Int)) := (u2.cell 3).trans rfl
  have HE : Hid (Below w.heap.size w ((w2.alloc (.cells if0 77)).setRow w2.heap.size (fiC n sz st))) := below_setRow (hb2.alloc hb2.size _) hb2.size _
  have HS2 : Hid (w.heap.size ≤ w2.heap.size) := hb2.size
  clear hb2 H1
  have H3 := HW.out ((w2.alloc (.cells if0 77)).setRow w2.heap.size (fiC n sz st))
  go_wp2_with (first
    | (refine wpList_store_row (by rfl) 77 _ _ (by rfl) (w2.heap.size) (fiC n sz st) (by rfl) (by rfl) 77 if0 (by exact u1) (sizeInfo.trans (by rfl)) (by rfl) (fi_all _ _ _) ?_; simp only [Act.put, List.setIfInBounds_toArray, List.set_cons_zero, List.set_cons_succ])
    | (refine wpList_load_row (by rfl) 77 _ (by rfl) (w2.heap.size) (by rfl) 77 (fiC n sz st) (0, 0) _ (by exact u2) Tryz.underlying77 (by rfl) (sizeInfo.trans (by rfl)) ?_; simp only [Act.put, List.setIfInBounds_toArray, List.set_cons_zero, List.set_cons_succ])
    | fail)
  refine H3.mono ?_
  rintro e w4 ⟨rfl, hb4⟩
  have hb5 : Below w.heap.size w w4 := HE.out.trans (hb4.mono HE.out.size)
  have c4 : w4.cell? ⟨w2.heap.size, 3, none⟩ = some (.int .i64 (sz : Int)) := fi_c3 (u2.below hb4 u2.lt)
  clear H3 c3 u1 u2 HE hb4
  go_wp2_with fail
  go_ret2
  exact ⟨rfl, hb5⟩
set_option maxRecDepth 100000 in
set_option maxHeartbeats 4000000 in
theorem IM.writeNone (h : IM w x mf ml mc cp top H D) (hf : Fi H D n sz st F) (a s' : Nat) (ha : a ≤ 1048576) : Calls Tryz.prog 16 #[.pointer (some ⟨x, 0, none⟩), .int .i64 (n : Int), .int .i64 (a : Int), .string ⟨#[]⟩, .int .u64 ((s' : Nat) : Int)] w fun e w' => e = .returned (.tuple #[.int .i64 (a : Int), .int .i64 0]) ∧ Below w.heap.size w w' := by
  have H1 := h.oneF hf
  have hzi : ∀ w, (zeroValue 77).run Tryz.prog w = .ok (.agg if0) w := zero_info
  have HW : Hid (∀ V : World, Calls Tryz.prog 40 #[.pointer (some ⟨x, 0, none⟩), .agg (fiC n sz st), .int .i64 (a : Int), .string ⟨#[]⟩, .int .u64 ((s' : Nat) : Int)] V fun e w' => e = .returned (.int .i64 0) ∧ Below V.heap.size V w') := fun V => write_none _ n sz st a s' ha V
  have a0 : ¬ ((a : Int) < 0) := by omega
  clear h hf
  go_enter Tryz.func16, Tryz.ntmps16
  go_wp2_with fail
  refine H1.mono ?_
  rintro e w2 ⟨rfl, hb2⟩
  have u1 : Blk (w2.alloc (.cells if0 77)) w2.heap.size 77 if0 := Blk.new _ _ _
  have u2 := u1.set (fiC n sz st)
  have c3 : ((w2.alloc (.cells if0 77)).setRow w2.heap.size (fiC n sz st)).cell? ⟨w2.heap.size, 3, none⟩ = some (.int .i64 (sz : Int)) := (u2.cell 3).trans rfl
  have HE : Hid (Below w.heap.size w ((w2.alloc (.cells if0 77)).setRow w2.heap.size (fiC n sz st))) := below_setRow (hb2.alloc hb2.size _) hb2.size _
  have HS2 : Hid (w.heap.size ≤ w2.heap.size) := hb2.size
  clear hb2 H1
  have H3 := HW.out ((w2.alloc (.cells if0 77)).setRow w2.heap.size (fiC n sz st))
  go_wp2_with (first
    | (refine wpList_store_row (by rfl) 77 _ _ (by rfl) (w2.heap.size) (fiC n sz st) (by rfl) (by rfl) 77 if0 (by exact u1) (sizeInfo.trans (by rfl)) (by rfl) (fi_all _ _ _) ?_; simp only [Act.put, List.setIfInBounds_toArray, List.set_cons_zero, List.set_cons_succ])
    | (refine wpList_load_row (by rfl) 77 _ (by rfl) (w2.heap.size) (by rfl) 77 (fiC n sz st) (0, 0) _ (by exact u2) Tryz.underlying77 (by rfl) (sizeInfo.trans (by rfl)) ?_; simp only [Act.put, List.setIfInBounds_toArray, List.set_cons_zero, List.set_cons_succ])
    | fail)
  refine H3.mono ?_
  rintro e w4 ⟨rfl, hb4⟩
  have hb5 : Below w.heap.size w w4 := HE.out.trans (hb4.mono HE.out.size)
  have c4 : w4.cell? ⟨w2.heap.size, 3, none⟩ = some (.int .i64 (sz : Int)) := fi_c3 (u2.below hb4 u2.lt)
  clear H3 c3 u1 u2 HE hb4
  go_wp2_with fail
  go_ret2
  exact ⟨rfl, hb5⟩
set_option maxRecDepth 100000 in
set_option maxHeartbeats 4000000 in
theorem IM.writeOk (h : IM w x mf ml mc cp top H D) (hf : Fi H D n sz st F) (a s' : Nat) (s : ByteArray) (hs : 0 < s.size) (ha : a + s.size ≤ 1048576) : Calls Tryz.prog 16 #[.pointer (some ⟨x, 0, none⟩), .int .i64 (n : Int), .int .i64 (a : Int), .string s, .int .u64 ((s' : Nat) : Int)] w fun e w' => e = .returned (.tuple #[.int .i64 ((a + s.size : Nat) : Int), .int .i64 0]) ∧ Now w' x mf ml mc cp top H D n (max sz (a + s.size)) s' (wrF F sz s a) ∧ Turns (fun z => z = ml ∨ z = mf) w w' := by
  have H1 := h.oneF hf
  have hzi : ∀ w, (zeroValue 77).run Tryz.prog w = .ok (.agg if0) w := zero_info
  have HW : Hid (∀ V, Below w.heap.size w V → Calls Tryz.prog 40 #[.pointer (some ⟨x, 0, none⟩), .agg (fiC n sz st), .int .i64 (a : Int), .string s, .int .u64 ((s' : Nat) : Int)] V fun e w' => e = .returned (.int .i64 0) ∧ Now w' x mf ml mc cp top H D n (max sz (a + s.size)) s' (wrF F sz s a) ∧ Turns (fun z => z = ml ∨ z = mf) V w') := fun V hV => (h.below hV).write hf s a s' hs ha
  have a0 : ¬ ((a : Int) < 0) := by omega
  obtain ⟨S, hS⟩ : ∃ S : Nat, s.size = S := ⟨_, rfl⟩
  obtain ⟨en, hen⟩ : ∃ en : Nat, a + S = en := ⟨_, rfl⟩
  rw [hS, hen] at HW
  rw [hS, hen]
  have e1 : (a : Int) + (S : Int) = (en : Int) := by omega
  have b1 : en ≤ 1048576 := by omega
  clear hf hs ha hen
  go_enter Tryz.func16, Tryz.ntmps16
  go_wp2_with fail
  refine H1.mono ?_
  rintro e w2 ⟨rfl, hb2⟩
  have u1 : Blk (w2.alloc (.cells if0 77)) w2.heap.size 77 if0 := Blk.new _ _ _
  have u2 := u1.set (fiC n sz st)
  have c3 : ((w2.alloc (.cells if0 77)).setRow w2.heap.size (fiC n sz st)).cell? ⟨w2.heap.size, 3, none⟩ = some (.int .i64 (sz : Int)) := (u2.cell 3).trans rfl
  have HE : Hid (Below w.heap.size w ((w2.alloc (.cells if0 77)).setRow w2.heap.size (fiC n sz st))) := below_setRow (hb2.alloc hb2.size _) hb2.size _
  have HS2 : Hid (w.heap.size ≤ w2.heap.size) := hb2.size
  clear hb2 H1
  have H3 := HW.out _ HE.out
  go_wp2_with (first
    | (refine wpList_store_row (by rfl) 77 _ _ (by rfl) (w2.heap.size) (fiC n sz st) (by rfl) (by rfl) 77 if0 (by exact u1) (sizeInfo.trans (by rfl)) (by rfl) (fi_all _ _ _) ?_; simp only [Act.put, List.setIfInBounds_toArray, List.set_cons_zero, List.set_cons_succ])
    | (refine wpList_load_row (by rfl) 77 _ (by rfl) (w2.heap.size) (by rfl) 77 (fiC n sz st) (0, 0) _ (by exact u2) Tryz.underlying77 (by rfl) (sizeInfo.trans (by rfl)) ?_; simp only [Act.put, List.setIfInBounds_toArray, List.set_cons_zero, List.set_cons_succ])
    | fail)
  refine H3.mono ?_
  rintro e w4 ⟨rfl, hN, hT⟩
  have hlx := h.lts
  have c4 : w4.cell? ⟨w2.heap.size, 3, none⟩ = some (.int .i64 (sz : Int)) := fi_c3 ((hT.block _ u2.lt (by have := HS2.out; omega)).trans u2)
  have HE5 : Hid (_ ∧ _) := ⟨hN, (Turns.bel HE.out).tr hT⟩
  clear H3 c3 u1 u2 HE hN hT
  go_wp2_with fail
  go_ret2
  exact ⟨rfl, HE5.out⟩
set_option maxRecDepth 100000 in
set_option maxHeartbeats 4000000 in
theorem IM.appendBig (h : IM w x mf ml mc cp top H D) (hf : Fi H D n sz st F) (s' : Nat) (s : ByteArray) (hs : s.size ≤ 140737488355328) (hb : 1048576 < sz + s.size) : Calls Tryz.prog 17 #[.pointer (some ⟨x, 0, none⟩), .int .i64 (n : Int), .string s, .int .u64 ((s' : Nat) : Int)] w fun e w' => e = .returned (.tuple #[.int .i64 0, .int .i64 160]) ∧ Below w.heap.size w w' := by
  have H1 := h.oneF hf
  have hzi : ∀ w, (zeroValue 77).run Tryz.prog w = .ok (.agg if0) w := zero_info
  have HW : Hid (∀ V : World, Calls Tryz.prog 40 #[.pointer (some ⟨x, 0, none⟩), .agg (fiC n sz st), .int .i64 (sz : Int), .string s, .int .u64 ((s' : Nat) : Int)] V fun e w' => e = .returned (.int .i64 160) ∧ Below V.heap.size V w') := fun V => write_big _ n sz st sz s' s (by have := hf.le; omega) hs hb V
  clear h hf hb
  go_enter Tryz.func17, Tryz.ntmps17
  go_wp2_with fail
  refine H1.mono ?_
  rintro e w2 ⟨rfl, hb2⟩
  have u1 : Blk (w2.alloc (.cells if0 77)) w2.heap.size 77 if0 := Blk.new _ _ _
  have u2 := u1.set (fiC n sz st)
  have c3 : ((w2.alloc (.cells if0 77)).setRow w2.heap.size (fiC n sz st)).cell? ⟨w2.heap.size, 3, none⟩ = some (.int .i64 (sz : Int)) := (u2.cell 3).trans rfl
  have HE : Hid (Below w.heap.size w ((w2.alloc (.cells if0 77)).setRow w2.heap.size (fiC n sz st))) := below_setRow (hb2.alloc hb2.size _) hb2.size _
  have HS2 : Hid (w.heap.size ≤ w2.heap.size) := hb2.size
  clear hb2 H1
  have H3 := HW.out ((w2.alloc (.cells if0 77)).setRow w2.heap.size (fiC n sz st))
  go_wp2_with (first
    | (refine wpList_store_row (by rfl) 77 _ _ (by rfl) (w2.heap.size) (fiC n sz st) (by rfl) (by rfl) 77 if0 (by exact u1) (sizeInfo.trans (by rfl)) (by rfl) (fi_all _ _ _) ?_; simp only [Act.put, List.setIfInBounds_toArray, List.set_cons_zero, List.set_cons_succ])
    | (refine wpList_load_row (by rfl) 77 _ (by rfl) (w2.heap.size) (by rfl) 77 (fiC n sz st) (0, 0) _ (by exact u2) Tryz.underlying77 (by rfl) (sizeInfo.trans (by rfl)) ?_; simp only [Act.put, List.setIfInBounds_toArray, List.set_cons_zero, List.set_cons_succ])
    | fail)
  refine H3.mono ?_
  rintro e w4 ⟨rfl, hb4⟩
  have hb5 : Below w.heap.size w w4 := HE.out.trans (hb4.mono HE.out.size)
  have c4 : w4.cell? ⟨w2.heap.size, 3, none⟩ = some (.int .i64 (sz : Int)) := fi_c3 (u2.below hb4 u2.lt)
  clear H3 c3 u1 u2 HE hb4
  go_wp2_with fail
  go_ret2
  exact ⟨rfl, hb5⟩
set_option maxRecDepth 100000 in
set_option maxHeartbeats 4000000 in
theorem IM.appendNone (h : IM w x mf ml mc cp top H D) (hf : Fi H D n sz st F) (s' : Nat) : Calls Tryz.prog 17 #[.pointer (some ⟨x, 0, none⟩), .int .i64 (n : Int), .string ⟨#[]⟩, .int .u64 ((s' : Nat) : Int)] w fun e w' => e = .returned (.tuple #[.int .i64 (sz : Int), .int .i64 0]) ∧ Below w.heap.size w w' := by
  have H1 := h.oneF hf
  have hzi : ∀ w, (zeroValue 77).run Tryz.prog w = .ok (.agg if0) w := zero_info
  have HW : Hid (∀ V : World, Calls Tryz.prog 40 #[.pointer (some ⟨x, 0, none⟩), .agg (fiC n sz st), .int .i64 (sz : Int), .string ⟨#[]⟩, .int .u64 ((s' : Nat) : Int)] V fun e w' => e = .returned (.int .i64 0) ∧ Below V.heap.size V w') := fun V => write_none _ n sz st sz s' hf.le V
  clear h hf
  go_enter Tryz.func17, Tryz.ntmps17
  go_wp2_with fail
  refine H1.mono ?_
  rintro e w2 ⟨rfl, hb2⟩
  have u1 : Blk (w2.alloc (.cells if0 77)) w2.heap.size 77 if0 := Blk.new _ _ _
  have u2 := u1.set (fiC n sz st)
  have c3 : ((w2.alloc (.cells if0 77)).setRow w2.heap.size (fiC n sz st)).cell? ⟨w2.heap.size, 3, none⟩ = some (.int .i64 (sz : Int)) := (u2.cell 3).trans rfl
  have HE : Hid (Below w.heap.size w ((w2.alloc (.cells if0 77)).setRow w2.heap.size (fiC n sz st))) := below_setRow (hb2.alloc hb2.size _) hb2.size _
  have HS2 : Hid (w.heap.size ≤ w2.heap.size) := hb2.size
  clear hb2 H1
  have H3 := HW.out ((w2.alloc (.cells if0 77)).setRow w2.heap.size (fiC n sz st))
  go_wp2_with (first
    | (refine wpList_store_row (by rfl) 77 _ _ (by rfl) (w2.heap.size) (fiC n sz st) (by rfl) (by rfl) 77 if0 (by exact u1) (sizeInfo.trans (by rfl)) (by rfl) (fi_all _ _ _) ?_; simp only [Act.put, List.setIfInBounds_toArray, List.set_cons_zero, List.set_cons_succ])
    | (refine wpList_load_row (by rfl) 77 _ (by rfl) (w2.heap.size) (by rfl) 77 (fiC n sz st) (0, 0) _ (by exact u2) Tryz.underlying77 (by rfl) (sizeInfo.trans (by rfl)) ?_; simp only [Act.put, List.setIfInBounds_toArray, List.set_cons_zero, List.set_cons_succ])
    | fail)
  refine H3.mono ?_
  rintro e w4 ⟨rfl, hb4⟩
  have hb5 : Below w.heap.size w w4 := HE.out.trans (hb4.mono HE.out.size)
  have c4 : w4.cell? ⟨w2.heap.size, 3, none⟩ = some (.int .i64 (sz : Int)) := fi_c3 (u2.below hb4 u2.lt)
  clear H3 c3 u1 u2 HE hb4
  go_wp2_with fail
  go_ret2
  exact ⟨rfl, hb5⟩
set_option maxRecDepth 100000 in
set_option maxHeartbeats 4000000 in
theorem IM.appendOk (h : IM w x mf ml mc cp top H D) (hf : Fi H D n sz st F) (s' : Nat) (s : ByteArray) (hs : 0 < s.size) (ha : sz + s.size ≤ 1048576) : Calls Tryz.prog 17 #[.pointer (some ⟨x, 0, none⟩), .int .i64 (n : Int), .string s, .int .u64 ((s' : Nat) : Int)] w fun e w' => e = .returned (.tuple #[.int .i64 (sz : Int), .int .i64 0]) ∧ Now w' x mf ml mc cp top H D n (max sz (sz + s.size)) s' (wrF F sz s sz) ∧ Turns (fun z => z = ml ∨ z = mf) w w' := by
  have H1 := h.oneF hf
  have hzi : ∀ w, (zeroValue 77).run Tryz.prog w = .ok (.agg if0) w := zero_info
  have HW : Hid (∀ V, Below w.heap.size w V → Calls Tryz.prog 40 #[.pointer (some ⟨x, 0, none⟩), .agg (fiC n sz st), .int .i64 (sz : Int), .string s, .int .u64 ((s' : Nat) : Int)] V fun e w' => e = .returned (.int .i64 0) ∧ Now w' x mf ml mc cp top H D n (max sz (sz + s.size)) s' (wrF F sz s sz) ∧ Turns (fun z => z = ml ∨ z = mf) V w') := fun V hV => (h.below hV).write hf s sz s' hs ha
  clear hf hs ha
  go_enter Tryz.func17, Tryz.ntmps17
  go_wp2_with fail
  refine H1.mono ?_
  rintro e w2 ⟨rfl, hb2⟩
  have u1 : Blk (w2.alloc (.cells if0 77)) w2.heap.size 77 if0 := Blk.new _ _ _
  have u2 := u1.set (fiC n sz st)
  have c3 : ((w2.alloc (.cells if0 77)).setRow w2.heap.size (fiC n sz st)).cell? ⟨w2.heap.size, 3, none⟩ = some (.int .i64 (sz : Int)) := (u2.cell 3).trans rfl
  have HE : Hid (Below w.heap.size w ((w2.alloc (.cells if0 77)).setRow w2.heap.size (fiC n sz st))) := below_setRow (hb2.alloc hb2.size _) hb2.size _
  have HS2 : Hid (w.heap.size ≤ w2.heap.size) := hb2.size
  clear hb2 H1
  have H3 := HW.out _ HE.out
  go_wp2_with (first
    | (refine wpList_store_row (by rfl) 77 _ _ (by rfl) (w2.heap.size) (fiC n sz st) (by rfl) (by rfl) 77 if0 (by exact u1) (sizeInfo.trans (by rfl)) (by rfl) (fi_all _ _ _) ?_; simp only [Act.put, List.setIfInBounds_toArray, List.set_cons_zero, List.set_cons_succ])
    | (refine wpList_load_row (by rfl) 77 _ (by rfl) (w2.heap.size) (by rfl) 77 (fiC n sz st) (0, 0) _ (by exact u2) Tryz.underlying77 (by rfl) (sizeInfo.trans (by rfl)) ?_; simp only [Act.put, List.setIfInBounds_toArray, List.set_cons_zero, List.set_cons_succ])
    | fail)
  refine H3.mono ?_
  rintro e w4 ⟨rfl, hN, hT⟩
  have hlx := h.lts
  have c4 : w4.cell? ⟨w2.heap.size, 3, none⟩ = some (.int .i64 (sz : Int)) := fi_c3 ((hT.block _ u2.lt (by have := HS2.out; omega)).trans u2)
  have HE5 : Hid (_ ∧ _) := ⟨hN, (Turns.bel HE.out).tr hT⟩
  clear H3 c3 u1 u2 HE hN hT
  go_wp2_with fail
  go_ret2
  exact ⟨rfl, HE5.out⟩
set_option maxRecDepth 100000 in
set_option maxHeartbeats 4000000 in
theorem IM.truncBad (h : IM w x mf ml mc cp top H D) (hf : Fi H D n sz st F) (z : Int) (hz : z < 0) (s' : Nat) : Calls Tryz.prog 19 #[.pointer (some ⟨x, 0, none⟩), .int .i64 (n : Int), .int .i64 z, .int .u64 ((s' : Nat) : Int)] w fun e w' => e = .returned (.int .i64 1) ∧ Below w.heap.size w w' := by
  have H1 := h.oneF hf
  have hzi : ∀ w, (zeroValue 77).run Tryz.prog w = .ok (.agg if0) w := zero_info
  clear h hf
  go_enter Tryz.func19, Tryz.ntmps19
  go_wp2_with fail
  refine H1.mono ?_
  rintro e w2 ⟨rfl, hb2⟩
  have u1 : Blk (w2.alloc (.cells if0 77)) w2.heap.size 77 if0 := Blk.new _ _ _
  have u2 := u1.set (fiC n sz st)
  have c3 : ((w2.alloc (.cells if0 77)).setRow w2.heap.size (fiC n sz st)).cell? ⟨w2.heap.size, 3, none⟩ = some (.int .i64 (sz : Int)) := (u2.cell 3).trans rfl
  have HE : Hid (Below w.heap.size w ((w2.alloc (.cells if0 77)).setRow w2.heap.size (fiC n sz st))) := below_setRow (hb2.alloc hb2.size _) hb2.size _
  have HS2 : Hid (w.heap.size ≤ w2.heap.size) := hb2.size
  clear hb2 H1
  go_wp2_with (first
    | (refine wpList_store_row (by rfl) 77 _ _ (by rfl) (w2.heap.size) (fiC n sz st) (by rfl) (by rfl) 77 if0 (by exact u1) (sizeInfo.trans (by rfl)) (by rfl) (fi_all _ _ _) ?_; simp only [Act.put, List.setIfInBounds_toArray, List.set_cons_zero, List.set_cons_succ])
    | fail)
  go_ret
  exact ⟨rfl, HE.out⟩
set_option maxRecDepth 100000 in
set_option maxHeartbeats 4000000 in
theorem IM.truncBig (h : IM w x mf ml mc cp top H D) (hf : Fi H D n sz st F) (z : Int) (hz : 1048576 < z) (s' : Nat) : Calls Tryz.prog 19 #[.pointer (some ⟨x, 0, none⟩), .int .i64 (n : Int), .int .i64 z, .int .u64 ((s' : Nat) : Int)] w fun e w' => e = .returned (.int .i64 160) ∧ Below w.heap.size w w' := by
  have H1 := h.oneF hf
  have hzi : ∀ w, (zeroValue 77).run Tryz.prog w = .ok (.agg if0) w := zero_info
  have z0 : ¬ (z < 0) := by omega
  clear h hf
  go_enter Tryz.func19, Tryz.ntmps19
  go_wp2_with fail
  refine H1.mono ?_
  rintro e w2 ⟨rfl, hb2⟩
  have u1 : Blk (w2.alloc (.cells if0 77)) w2.heap.size 77 if0 := Blk.new _ _ _
  have u2 := u1.set (fiC n sz st)
  have c3 : ((w2.alloc (.cells if0 77)).setRow w2.heap.size (fiC n sz st)).cell? ⟨w2.heap.size, 3, none⟩ = some (.int .i64 (sz : Int)) := (u2.cell 3).trans rfl
  have HE : Hid (Below w.heap.size w ((w2.alloc (.cells if0 77)).setRow w2.heap.size (fiC n sz st))) := below_setRow (hb2.alloc hb2.size _) hb2.size _
  have HS2 : Hid (w.heap.size ≤ w2.heap.size) := hb2.size
  clear hb2 H1
  go_wp2_with (first
    | (refine wpList_store_row (by rfl) 77 _ _ (by rfl) (w2.heap.size) (fiC n sz st) (by rfl) (by rfl) 77 if0 (by exact u1) (sizeInfo.trans (by rfl)) (by rfl) (fi_all _ _ _) ?_; simp only [Act.put, List.setIfInBounds_toArray, List.set_cons_zero, List.set_cons_succ])
    | fail)
  go_ret
  exact ⟨rfl, HE.out⟩
set_option maxRecDepth 100000 in
set_option maxHeartbeats 4000000 in
theorem IM.truncOk (h : IM w x mf ml mc cp top H D) (hf : Fi H D n sz st F) (z s' : Nat) (hz : z ≤ 1048576) : Calls Tryz.prog 19 #[.pointer (some ⟨x, 0, none⟩), .int .i64 (n : Int), .int .i64 (z : Int), .int .u64 ((s' : Nat) : Int)] w fun e w' => e = .returned (.int .i64 0) ∧ Now w' x mf ml mc cp top H D n z s' (fzF F sz) ∧ Turns (fun z => z = ml ∨ z = mf) w w' := by
  have H1 := h.oneF hf
  have hzi : ∀ w, (zeroValue 77).run Tryz.prog w = .ok (.agg if0) w := zero_info
  have HW : Hid (∀ V, Below w.heap.size w V → Calls Tryz.prog 41 #[.pointer (some ⟨x, 0, none⟩), .int .i64 (n : Int), .int .i64 (z : Int), .int .u64 ((s' : Nat) : Int)] V fun e w' => e = .returned (.int .i64 0) ∧ Now w' x mf ml mc cp top H D n z s' (fzF F sz) ∧ Turns (fun z => z = ml ∨ z = mf) V w') := fun V hV => by
    refine ((h.below hV).resizeM n hf.n1 hf.n2 sz z s' hf.no hf.left hf.s (.inl hf.k) hf.le hz (fun q i hi hp => by rw [hf.bs q i hi, if_neg (by omega)])).mono ?_
    rintro e w2 ⟨rfl, hI2, ht2⟩
    exact ⟨rfl, ⟨_, _, hI2, hf.resize z s' hz, fun m hm => ⟨hU_not _ _ _ _ hm, rsD_not _ _ _ _ hm⟩⟩, ht2⟩
  have z0 : ¬ ((z : Int) < 0) := by omega
  have z1 : ¬ ((1048576 : Int) < (z : Int)) := by omega
  clear hf
  go_enter Tryz.func19, Tryz.ntmps19
  go_wp2_with fail
  refine H1.mono ?_
  rintro e w2 ⟨rfl, hb2⟩
  have u1 : Blk (w2.alloc (.cells if0 77)) w2.heap.size 77 if0 := Blk.new _ _ _
  have u2 := u1.set (fiC n sz st)
  have c3 : ((w2.alloc (.cells if0 77)).setRow w2.heap.size (fiC n sz st)).cell? ⟨w2.heap.size, 3, none⟩ = some (.int .i64 (sz : Int)) := (u2.cell 3).trans rfl
  have HE : Hid (Below w.heap.size w ((w2.alloc (.cells if0 77)).setRow w2.heap.size (fiC n sz st))) := below_setRow (hb2.alloc hb2.size _) hb2.size _
  have HS2 : Hid (w.heap.size ≤ w2.heap.size) := hb2.size
  clear hb2 H1
  have H3 := HW.out _ HE.out
  go_wp2_with (first
    | (refine wpList_store_row (by rfl) 77 _ _ (by rfl) (w2.heap.size) (fiC n sz st) (by rfl) (by rfl) 77 if0 (by exact u1) (sizeInfo.trans (by rfl)) (by rfl) (fi_all _ _ _) ?_; simp only [Act.put, List.setIfInBounds_toArray, List.set_cons_zero, List.set_cons_succ])
    | (refine wpList_load_row (by rfl) 77 _ (by rfl) (w2.heap.size) (by rfl) 77 (fiC n sz st) (0, 0) _ (by exact u2) Tryz.underlying77 (by rfl) (sizeInfo.trans (by rfl)) ?_; simp only [Act.put, List.setIfInBounds_toArray, List.set_cons_zero, List.set_cons_succ])
    | fail)
  refine H3.mono ?_
  rintro e w4 ⟨rfl, hN, hT⟩
  have hlx := h.lts
  have c4 : w4.cell? ⟨w2.heap.size, 3, none⟩ = some (.int .i64 (sz : Int)) := fi_c3 ((hT.block _ u2.lt (by have := HS2.out; omega)).trans u2)
  have HE5 : Hid (_ ∧ _) := ⟨hN, (Turns.bel HE.out).tr hT⟩
  clear H3 c3 u1 u2 HE hN hT
  go_wp2_with fail
  go_ret
  exact ⟨rfl, HE5.out⟩
end
end Go.Proofs.YtojbgggkfahkfaaGreat

namespace Go.Proofs.YtojbgggkfahkfaaGreat
open Go Go.RowKit
set_option linter.unusedSimpArgs false
set_option linter.unusedVariables false
/-- a bool that tells whether something is so, with OK -/
def Tells (e : Ending) (P : Prop) : Prop := ∃ b : Bool, e = .returned (.tuple #[.bool b, .int .i64 0]) ∧ (b = true ↔ P)
section
variable {w : World}
variable {x mf ml mc : Nat} {cp : Option Addr} {top : Int} {H : Nat → Hd} {D : Nat → Nat → Nat → Nat} {n sz st n' sz' st' : Nat} {F F' : Nat → Nat}
theorem all_leaves (hf : Fi H D n sz st F) (hg : Fi H D n' sz st' F') (h : ∀ q, q < (sz + 255) / 256 → ∀ i, i < 256 → D n q i = D n' q i) : ∀ p, p < sz → F p = F' p := fun p hp => by
  have h1 := hf.leaf (p / 256) (p % 256) (by omega) (by omega)
  have h2 := hg.leaf (p / 256) (p % 256) (by omega) (by omega)
  rw [show 256 * (p / 256) + p % 256 = p by omega] at h1 h2
  rw [← h1, ← h2]
  exact h _ (by omega) _ (by omega)
theorem leaf_same (hf : Fi H D n sz st F) (hg : Fi H D n' sz st' F') (h : ∀ p, p < sz → F p = F' p) (q i : Nat) (hi : i < 256) : D n q i = D n' q i := by
  rw [hf.bs q i hi, hg.bs q i hi]
  by_cases c : 256 * q + i < sz
  · rw [if_pos c, if_pos c, h _ c]
  · rw [if_neg c, if_neg c]
set_option maxRecDepth 100000 in
set_option maxHeartbeats 8000000 in
theorem IM.sameF (h : IM w x mf ml mc cp top H D) (hf : Fi H D n sz st F) (hg : Fi H D n' sz' st' F') : Calls Tryz.prog 14 #[.pointer (some ⟨x, 0, none⟩), .int .i64 (n : Int), .int .i64 (n' : Int)] w fun e w' => Tells e (sz = sz' ∧ ∀ p, p < sz → F p = F' p) ∧ Below w.heap.size w w' := by
  have H1 := h.twoF hf hg
  have hzi : ∀ w, (zeroValue 77).run Tryz.prog w = .ok (.agg if0) w := zero_info
  have HI : Hid (IM w x mf ml mc cp top H D ∧ Fi H D n sz st F ∧ Fi H D n' sz' st' F') := ⟨h, hf, hg⟩
  have hsz := hf.le
  have hzk := zero_bk
  clear h hf hg
  go_enter Tryz.func14, Tryz.ntmps14
  go_wp2_with fail
  refine H1.mono ?_
  rintro e w2 ⟨rfl, hb2⟩
  have u1 : Blk ((w2.alloc (.cells if0 77)).alloc (.cells if0 77)) w2.heap.size 77 if0 := (Blk.new _ _ _).alloc _
  have v1 : Blk ((w2.alloc (.cells if0 77)).alloc (.cells if0 77)) (w2.heap.size + 1) 77 if0 := Blk.new1 _ _ _ _
  have v2 : Blk (((w2.alloc (.cells if0 77)).alloc (.cells if0 77)).setRow w2.heap.size (fiC n sz st)) (w2.heap.size + 1) 77 if0 := v1.other _ (by omega)
  have u3 : Blk ((((w2.alloc (.cells if0 77)).alloc (.cells if0 77)).setRow w2.heap.size (fiC n sz st)).setRow (w2.heap.size + 1) (fiC n' sz' st')) w2.heap.size 77 (fiC n sz st) := (u1.set _).other _ (by omega)
  have v3 : Blk ((((w2.alloc (.cells if0 77)).alloc (.cells if0 77)).setRow w2.heap.size (fiC n sz st)).setRow (w2.heap.size + 1) (fiC n' sz' st')) (w2.heap.size + 1) 77 (fiC n' sz' st') := v2.set _
  have hb3 : Below w.heap.size w ((((w2.alloc (.cells if0 77)).alloc (.cells if0 77)).setRow w2.heap.size (fiC n sz st)).setRow (w2.heap.size + 1) (fiC n' sz' st')) := below_setRow (below_setRow ((hb2.alloc hb2.size _).alloc (by have := hb2.size; simp; omega) _) hb2.size _) (by have := hb2.size; omega) _
  clear v1 hb2 H1
  have c3 := fi_c3 u3
  have d3 := fi_c3 v3
  by_cases hs : sz = sz'
  · subst hs
    have HLV := leavesF_any sz hsz ((((w2.alloc (.cells if0 77)).alloc (.cells if0 77)).setRow w2.heap.size (fiC n sz st)).setRow (w2.heap.size + 1) (fiC n' sz st'))
    clear u3 v3
    have e0 : (sz != sz) = false := by simp
    go_wp2_with (first
      | (refine wpList_store_row (by rfl) 77 _ _ (by rfl) (w2.heap.size) (fiC n sz st) (by rfl) (by rfl) 77 (if0) (by exact u1) (sizeInfo.trans (by rfl)) (by rfl) (fi_all _ _ _) ?_; simp only [Act.put, List.setIfInBounds_toArray, List.set_cons_zero, List.set_cons_succ])
      | (refine wpList_store_row (by rfl) 77 _ _ (by rfl) (w2.heap.size + 1) (fiC n' sz st') (by rfl) (by rfl) 77 (if0) (by exact v2) (sizeInfo.trans (by rfl)) (by rfl) (fi_all _ _ _) ?_; simp only [Act.put, List.setIfInBounds_toArray, List.set_cons_zero, List.set_cons_succ])
      | fail)
    refine HLV.mono ?_
    rintro e w3 ⟨rfl, hw⟩
    rw [hw]
    clear HLV hw w3 c3 d3 u1 v2
    generalize ((((w2.alloc (.cells if0 77)).alloc (.cells if0 77)).setRow w2.heap.size (fiC n sz st)).setRow (w2.heap.size + 1) (fiC n' sz st')) = w4 at *
    obtain ⟨c, hc⟩ : ∃ c : Nat, (sz + 255) / 256 = c := ⟨_, rfl⟩
    rw [hc]
    have hc4 : c ≤ 4096 := by omega
    go_wp2_with fail
    go_loopw [36] (fun t wr => ∃ k : Nat, k ≤ c ∧ t = .int .i64 (k : Int) ∧ (∀ q, q < k → ∀ i, i < 256 → D n q i = D n' q i) ∧ Below w.heap.size w wr) (fun t _ => c - (intOf t).toNat)
    case atStart => exact ⟨0, Nat.zero_le _, rfl, fun q hq => absurd hq (by omega), hb3⟩
    case round =>
      clear hb3
      obtain ⟨k, hk, rfl, hall, hb⟩ := hrel
      by_cases hlt : k < c
      · have k1 : (k : Int) < (c : Int) := by omega
        have k2 : k ≤ 4096 := by omega
        have HL1 := (HI.out.1.below (hb.mono (Nat.le_refl _))).leafF HI.out.2.1 k (by omega)
        have HA : Hid (∀ q, q < k → ∀ i, i < 256 → D n q i = D n' q i) := hall
        have HBW : Hid (Below w.heap.size w wr) := hb
        clear hall hb
        go_wp2_with fail
        refine HL1.mono ?_
        rintro e w5 ⟨rfl, hb5⟩
        have p5 := Blk.new w5 94 (va 256 (iv .u8 fun _ => 0))
        have p6 := p5.set (va 256 (iv .u8 (D n k)))
        have hb6 : Below w.heap.size w ((w5.alloc (.cells (va 256 (iv .u8 fun _ => 0)) 94)).setRow w5.heap.size (va 256 (iv .u8 (D n k)))) := by
          have h5 := HBW.out.trans (hb5.mono HBW.out.size)
          exact below_setRow (h5.alloc h5.size _) h5.size _
        have HL2 := (HI.out.1.below hb6).leafF HI.out.2.2 k (by omega)
        clear HL1 hb5
        go_wp2_with (first
          | (refine wpList_store_row (by rfl) 94 _ _ (by rfl) (w5.heap.size) (va 256 (iv .u8 (D n k))) (by rfl) (by rfl) 94 _ p5 (sizeBk.trans (by rw [va_size])) (by simp only [va_size]) (iv_one _ _ _) ?_; simp only [Act.put, List.setIfInBounds_toArray, List.set_cons_zero, List.set_cons_succ])
          | fail)
        clear p5
        obtain ⟨g6, hg6⟩ : ∃ g6, w5.heap.size = g6 := ⟨_, rfl⟩
        rw [hg6] at p6 hb6 HL2 ⊢
        generalize (w5.alloc (.cells (va 256 (iv .u8 fun _ => 0)) 94)).setRow g6 (va 256 (iv .u8 (D n k))) = w6 at *
        refine HL2.mono ?_
        rintro e w7 ⟨rfl, hb7⟩
        have q7 := Blk.new w7 94 (va 256 (iv .u8 fun _ => 0))
        have q8 := q7.set (va 256 (iv .u8 (D n' k)))
        have p7 := p6.below hb7 p6.lt
        have p8 : Blk ((w7.alloc (.cells (va 256 (iv .u8 fun _ => 0)) 94)).setRow w7.heap.size (va 256 (iv .u8 (D n' k)))) g6 94 (va 256 (iv .u8 (D n k))) := (p7.alloc _).other _ (by have := p7.lt; omega)
        have hb8 : Below w.heap.size w ((w7.alloc (.cells (va 256 (iv .u8 fun _ => 0)) 94)).setRow w7.heap.size (va 256 (iv .u8 (D n' k)))) := by
          have h7 := hb6.trans (hb7.mono hb6.size)
          exact below_setRow (h7.alloc h7.size _) h7.size _
        have hq := eq_bytes (P := Tryz.prog) 94 5 256 Tryz.underlying94 Tryz.underlying5 ksizeU8 (by kernel_rfl) (D n k) (D n' k)
        have HB8 : Hid (Below w.heap.size w ((w7.alloc (.cells (va 256 (iv .u8 fun _ => 0)) 94)).setRow w7.heap.size (va 256 (iv .u8 (D n' k))))) := hb8
        clear HL2 hb7 hb6 p6 p7 hb8
        by_cases heq : ∀ i, i < 256 → D n k i = D n' k i
        · rw [decide_eq_true heq] at hq
          have HQ : Hid (∀ i, i < 256 → D n k i = D n' k i) := heq
          clear heq
          go_wp2_with (first
            | (refine wpList_store_row (by rfl) 94 _ _ (by rfl) (w7.heap.size) (va 256 (iv .u8 (D n' k))) (by rfl) (by rfl) 94 _ q7 (sizeBk.trans (by rw [va_size])) (by simp only [va_size]) (iv_one _ _ _) ?_; simp only [Act.put, List.setIfInBounds_toArray, List.set_cons_zero, List.set_cons_succ])
            | (refine wpList_load_rowg (by rfl) 94 _ (by rfl) (g6) (by rfl) 94 (va 256 (iv .u8 (D n k))) (0, 0) _ p8 Tryz.underlying94 (by rfl) (sizeBk.trans (by rw [va_size])) ?_; simp only [Act.put, List.setIfInBounds_toArray, List.set_cons_zero, List.set_cons_succ])
            | (refine wpList_load_rowg (by rfl) 94 _ (by rfl) (w7.heap.size) (by rfl) 94 (va 256 (iv .u8 (D n' k))) (0, 0) _ q8 Tryz.underlying94 (by rfl) (sizeBk.trans (by rw [va_size])) ?_; simp only [Act.put, List.setIfInBounds_toArray, List.set_cons_zero, List.set_cons_succ])
            | fail)
          go_roundw
          case rel => exact ⟨k + 1, hlt, by simp, fun q hq' i hi => by
            by_cases e : q = k
            · subst e
              exact HQ.out i hi
            · exact HA.out q (by omega) i hi, HB8.out⟩
          case measure =>
            simp [intOf]
            omega
        · rw [decide_eq_false heq] at hq
          have HQ : Hid (¬ ∀ i, i < 256 → D n k i = D n' k i) := heq
          clear heq
          go_wp2_with (first
            | (refine wpList_store_row (by rfl) 94 _ _ (by rfl) (w7.heap.size) (va 256 (iv .u8 (D n' k))) (by rfl) (by rfl) 94 _ q7 (sizeBk.trans (by rw [va_size])) (by simp only [va_size]) (iv_one _ _ _) ?_; simp only [Act.put, List.setIfInBounds_toArray, List.set_cons_zero, List.set_cons_succ])
            | (refine wpList_load_rowg (by rfl) 94 _ (by rfl) (g6) (by rfl) 94 (va 256 (iv .u8 (D n k))) (0, 0) _ p8 Tryz.underlying94 (by rfl) (sizeBk.trans (by rw [va_size])) ?_; simp only [Act.put, List.setIfInBounds_toArray, List.set_cons_zero, List.set_cons_succ])
            | (refine wpList_load_rowg (by rfl) 94 _ (by rfl) (w7.heap.size) (by rfl) 94 (va 256 (iv .u8 (D n' k))) (0, 0) _ q8 Tryz.underlying94 (by rfl) (sizeBk.trans (by rw [va_size])) ?_; simp only [Act.put, List.setIfInBounds_toArray, List.set_cons_zero, List.set_cons_succ])
            | fail)
          go_ret2
          refine ⟨⟨false, rfl, ?_⟩, HB8.out⟩
          constructor
          · intro h
            cases h
          · intro h
            have h' : ∀ p, p < sz → F p = F' p := by first | exact h | exact h.2
            exact absurd (fun i hi => leaf_same HI.out.2.1 HI.out.2.2 h' k i hi) HQ.out
      · have hkc : k = c := by omega
        have k1 : ¬ ((k : Int) < (c : Int)) := by omega
        have HA : Hid (∀ q, q < k → ∀ i, i < 256 → D n q i = D n' q i) := hall
        clear hall hlt
        go_wp2_with fail
        go_ret2
        refine ⟨⟨true, rfl, ?_⟩, hb⟩
        constructor
        · intro _
          have h' := all_leaves HI.out.2.1 HI.out.2.2 fun q hq => HA.out q (by omega)
          first | exact h' | exact ⟨rfl, h'⟩
        · intro _
          rfl
  · have e0 : ((sz : Int) != (sz' : Int)) = true := by
      rw [bne_iff_ne]
      omega
    clear u3 v3
    go_wp2_with (first
      | (refine wpList_store_row (by rfl) 77 _ _ (by rfl) (w2.heap.size) (fiC n sz st) (by rfl) (by rfl) 77 (if0) (by exact u1) (sizeInfo.trans (by rfl)) (by rfl) (fi_all _ _ _) ?_; simp only [Act.put, List.setIfInBounds_toArray, List.set_cons_zero, List.set_cons_succ])
      | (refine wpList_store_row (by rfl) 77 _ _ (by rfl) (w2.heap.size + 1) (fiC n' sz' st') (by rfl) (by rfl) 77 (if0) (by exact v2) (sizeInfo.trans (by rfl)) (by rfl) (fi_all _ _ _) ?_; simp only [Act.put, List.setIfInBounds_toArray, List.set_cons_zero, List.set_cons_succ])
      | fail)
    go_ret2
    refine ⟨⟨false, rfl, ?_⟩, hb3⟩
    constructor
    · intro h
      cases h
    · rintro ⟨h, _⟩
      exact absurd h hs
end
end Go.Proofs.YtojbgggkfahkfaaGreat

namespace Go.Proofs.YtojbgggkfahkfaaGreat
open Go Go.RowKit
set_option linter.unusedSimpArgs false
set_option linter.unusedVariables false
theorem open_im (cp : Option Addr) (w : World) : Calls Tryz.prog 26 #[.pointer cp, .agg (trC 0 rf0), .int .i64 0] w fun e w' => ∃ x mf ml mc, e = .returned (.tuple #[.pointer (some ⟨x, 0, none⟩), .int .i64 0]) ∧ (w.heap.size ≤ x ∧ w.heap.size ≤ mf ∧ w.heap.size ≤ ml ∧ w.heap.size ≤ mc) ∧ IM w' x mf ml mc cp 0 (fun _ => hd00) (fun _ _ _ => 0) ∧ Below w.heap.size w w' := by
  refine (open_full (by decide) okD_zero (by decide) may00 w).mono ?_
  rintro e w' ⟨x, mf, ml, mc, h1, h2, h3, h4, h5, h6⟩
  refine ⟨x, mf, ml, mc, h1, ⟨h2.1, h2.2.1, h2.2.2.1, h2.2.2.2.1⟩, ⟨h3, ⟨fun _ => none, MapFn.new h5.2.2.2.1, fun i _ p _ => rfl⟩, ⟨fun _ => none, MapFn.new h5.2.2.2.2.1, fun n p j _ => rfl⟩, ⟨0, h5.2.2.2.2.2⟩, ?_⟩, h6⟩
  omega
end Go.Proofs.YtojbgggkfahkfaaGreat

namespace Go.Proofs.YtojbgggkfahkfaaGreat
open Go Go.RowKit
set_option linter.unusedSimpArgs false
set_option linter.unusedVariables false
/-- a directory and a file, as they are made -/
def bgH : Nat → Hd := hU (hU (fun _ => hd00) 1 (hdN hd00 1 2 1 0 1)) 2 (hdN hd00 2 1 1 0 1)
def bgD : Nat → Nat → Nat → Nat := fun _ _ _ => 0
theorem bg_file : Fi bgH bgD 2 0 1 (fun _ => 0) := ⟨by decide, by decide, rfl, rfl, rfl, rfl, rfl, rfl, by decide, fun q i hi => by rw [if_neg (by omega)]; rfl⟩
/-- inodes that were begun -/
def Beg (w w' : World) (x mf ml mc : Nat) (cp : Option Addr) : Prop := (w.heap.size ≤ x ∧ w.heap.size ≤ mf ∧ w.heap.size ≤ ml ∧ w.heap.size ≤ mc) ∧ IM w' x mf ml mc cp 2 bgH bgD ∧ Below w.heap.size w w'
set_option maxRecDepth 100000 in
set_option maxHeartbeats 4000000 in
theorem begun_any (w : World) : Calls Tryz.prog 6 #[] w fun e w' => ∃ x mf ml mc cp, e = .returned (.tuple #[.pointer (some ⟨x, 0, none⟩), .int .i64 2, .bool true]) ∧ Beg w w' x mf ml mc cp := by
  have hbt := built_tr0
  have HN : Hid (∀ w : World, Calls Tryz.prog 23 #[.int .i64 64] w fun e w' => ∃ g, e = .returned (.tuple #[.pointer (some ⟨g, 0, none⟩), .int .i64 0]) ∧ Below w.heap.size w w') := fun w => (diskNew_any 64 (by decide) (by decide) w).mono fun e w' ⟨g, q, h1, _, _, h2⟩ => ⟨g, h1, h2⟩
  have HG : Hid (∀ w : World, Calls Tryz.prog 25 #[] w fun e w' => ∃ g, e = .returned (.pointer (some ⟨g, 0, none⟩)) ∧ Below w.heap.size w w') := fun w => (newLog_any w).mono fun e w' ⟨g, r, h1, _, _, _, h2⟩ => ⟨g, h1, h2⟩
  have HC : Hid (∀ (g l : Nat) (w : World), Calls Tryz.prog 24 #[.pointer (some ⟨g, 0, none⟩), .pointer (some ⟨l, 0, none⟩), .int .i64 16] w fun e w' => ∃ c, e = .returned (.tuple #[.pointer (some ⟨c, 0, none⟩), .int .i64 0]) ∧ Below w.heap.size w w') := fun g l w => (caNew_ok g (some ⟨l, 0, none⟩) 16 (by decide) (by decide) w).mono fun e w' ⟨c, m, h1, _, _, _, h2⟩ => ⟨c, h1, h2⟩
  have HO : Hid (∀ (c : Nat) (w : World), Calls Tryz.prog 26 #[.pointer (some ⟨c, 0, none⟩), .agg (trC 0 rf0), .int .i64 0] w fun e w' => ∃ x mf ml mc, e = .returned (.tuple #[.pointer (some ⟨x, 0, none⟩), .int .i64 0]) ∧ (w.heap.size ≤ x ∧ w.heap.size ≤ mf ∧ w.heap.size ≤ ml ∧ w.heap.size ≤ mc) ∧ IM w' x mf ml mc (some ⟨c, 0, none⟩) 0 (fun _ => hd00) (fun _ _ _ => 0) ∧ Below w.heap.size w w') := fun c w => open_im (some ⟨c, 0, none⟩) w
  go_enter Tryz.func6, Tryz.ntmps6
  go_wp2_with fail
  refine (HN.out _).mono ?_
  rintro e w2 ⟨d, rfl, hb2⟩
  go_wp2_with fail
  refine (HG.out _).mono ?_
  rintro e w3 ⟨l, rfl, hb3⟩
  have hb13 := hb2.trans (hb3.mono hb2.size)
  clear hb2 hb3 HN HG
  go_wp2_with fail
  refine (HC.out _ _ _).mono ?_
  rintro e w4 ⟨c, rfl, hb4⟩
  have hb14 := hb13.trans (hb4.mono hb13.size)
  clear hb13 hb4 HC
  go_wp2_with (first
    | (refine wpList_buildTo (by rfl) 73 #[] (by rfl) _ rfl (trC 0 rf0) (by exact hbt) ?_; simp only [Act.put, List.setIfInBounds_toArray, List.set_cons_zero, List.set_cons_succ])
    | fail)
  refine (HO.out _ _).mono ?_
  rintro e w5 ⟨x, mf, ml, mc, rfl, hbs, hI5, hb5⟩
  have hb15 := hb14.trans (hb5.mono hb14.size)
  have hz := hb14.size
  have HX : Hid (w.heap.size ≤ x ∧ w.heap.size ≤ mf ∧ w.heap.size ≤ ml ∧ w.heap.size ≤ mc) := ⟨by omega, by omega, by omega, by omega⟩
  have HM1 := hI5.make 1 (by decide) (by decide) rfl (fun m h1 h2 => absurd h2 (by omega)) 2 (.inr rfl) 1 (by decide)
  have HB15 : Hid (Below w.heap.size w w5) := hb15
  clear hb14 hb5 hb15 HO hI5 hbt hbs
  go_wp2_with fail
  refine HM1.mono ?_
  rintro e w6 ⟨rfl, hI6, ht6⟩
  have HM2 := hI6.make 2 (by decide) (by decide) rfl (fun m h1 h2 => by
    have : m = 1 := by omega
    subst this
    decide) 1 (.inl rfl) 1 (by decide)
  have HT6 : Hid (Turns (fun z => z = x ∨ z = mf) w5 w6) := ht6
  clear HM1 hI6 ht6
  go_wp2_with fail
  refine HM2.mono ?_
  rintro e w7 ⟨rfl, hI7, ht7⟩
  have HE : Hid (Beg w w7 x mf ml mc (some ⟨c, 0, none⟩)) := by
    refine ⟨HX.out, hI7, ?_⟩
    have t7 := HT6.out.tr ht7
    have := HX.out
    exact HB15.out.trans (t7.below HB15.out.size (fun b hb => by rcases hb with rfl | rfl; exact this.1; exact this.2.1))
  clear HM2 hI7 ht7
  go_wp2_with fail
  go_ret3
  exact ⟨x, mf, ml, mc, _, rfl, HE.out⟩
end Go.Proofs.YtojbgggkfahkfaaGreat

namespace Go.Proofs.YtojbgggkfahkfaaGreat
open Go Go.RowKit
set_option linter.unusedSimpArgs false
set_option linter.unusedVariables false
theorem wrF_lt {F : Nat → Nat} {o : Nat} (hF : ∀ p, p < o → F p < 256) (s : ByteArray) (a p : Nat) : wrF F o s a p < 256 := by
  unfold wrF
  split
  · exact tbyte_lt _ _
  · split
    · rename_i h
      exact hF p h
    · decide
theorem fzF_lt {F : Nat → Nat} {o : Nat} (hF : ∀ p, p < o → F p < 256) (p : Nat) : fzF F o p < 256 := by
  unfold fzF
  split
  · rename_i h
    exact hF p h
  · decide
set_option maxRecDepth 100000 in
set_option maxHeartbeats 4000000 in
theorem awake16_any (w : World) : Calls Tryz.prog 7 #[] w fun e w' => e = .returned (.bool true) ∧ Below w.heap.size w w' := by
  have HB := begun_any w
  go_enter Tryz.func7, Tryz.ntmps7
  go_wp2_with fail
  refine HB.mono ?_
  rintro e w1 ⟨x, mf, ml, mc, cp, rfl, hx, hI, hb1⟩
  have HW := hI.writeOk bg_file 300 1 ⟨#[97, 98]⟩ (by decide) (by decide)
  have HX : Hid (w.heap.size ≤ x ∧ w.heap.size ≤ mf ∧ w.heap.size ≤ ml ∧ w.heap.size ≤ mc) := hx
  have HB1 : Hid (Below w.heap.size w w1) := hb1
  clear HB hI hb1 hx
  go_wp2_with fail
  refine HW.mono ?_
  rintro e w2 ⟨rfl, ⟨H', D', hI2, hf2, _⟩, hT2⟩
  have HR := hI2.readF hf2 (fun p _ => wrF_lt (fun p hp => absurd hp (by omega)) _ _ _) 299 9 (by decide) (by decide)
  have hs : strN (fun j => wrF (fun _ => 0) 0 ⟨#[97, 98]⟩ 300 (299 + j)) (thN (max 0 (300 + (⟨#[97, 98]⟩ : ByteArray).size)) 299 9) = ⟨#[0, 97, 98]⟩ := by decide
  rw [hs] at HR
  have HE : Hid (Below w.heap.size w w2) := by
    have := HX.out
    exact HB1.out.trans (hT2.below HB1.out.size (fun b hb => by rcases hb with rfl | rfl; exact this.2.2.1; exact this.2.1))
  clear HW hI2 hf2 hT2 hs
  go_wp2_with fail
  refine HR.mono ?_
  rintro e w3 ⟨rfl, hb3⟩
  have HE3 : Hid (Below w.heap.size w w3) := HE.out.trans (hb3.mono HE.out.size)
  clear HR hb3
  go_wp2_with fail
  go_ret
  exact ⟨rfl, HE3.out⟩
end Go.Proofs.YtojbgggkfahkfaaGreat
