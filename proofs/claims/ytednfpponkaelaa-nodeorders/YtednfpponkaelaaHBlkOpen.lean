/- A slice of blocks as an argument, opened: no condition but that it is one. -/
import Derived.Test.YtednfpponkaelaaHSegsS
import Derived.Handy
import Derived.Lib.BytesEntry
import Derived.Shelf.SlSortCmp.QuietGrown
import Derived.BigQuiet
import Derived.Deep.Cut
import Derived.Deep.QuietTactic
import Derived.Test.YtednfpponkaelaaRows
import Derived.WalkKit
import Derived.ProofKit
import Derived.OpenShut
import Derived.Carry
import Derived.Deep.Slices
import Derived.Lib.SmallJoins
import Derived.SizedLaws
import Derived.Test.YtednfpponkaelaaHNdTake

namespace Go.Proofs.Ytednfpponkaelaa
open Go Go.RowKit
set_option linter.unusedSimpArgs false
set_option linter.unusedVariables false

set_option maxRecDepth 100000 in
set_option maxHeartbeats 4000000 in
theorem none_any (r : Rf) (w : World) : Calls Try.prog 17 #[.agg (rfC r)] w fun e w' => e = .returned (.bool (decide (r = rf0))) ∧ Below w.heap.size w w' := by
  have r0 : Blk (w.alloc (.cells (rfC r) 31)) w.heap.size 31 (rfC r) := Blk.new _ _ _
  have hb : Below w.heap.size w (w.alloc (.cells (rfC r) 31)) := below_new1 _ _
  have hz := zero_ref
  have hq : ∀ W, (Op.equalIn 10000 31 (.agg (rfC r)) (.agg (rfC rf0))).run Try.prog W = .ok (decide (r = rf0)) W := eq_ref 9997 r rf0
  obtain ⟨b, hbd⟩ : ∃ b, b = decide (r = rf0) := ⟨_, rfl⟩
  rw [← hbd] at hq ⊢
  clear hbd
  go_enter Try.func17, Try.ntmps17
  go_wp2_with (first
    | (refine wpList_load_rowg (by rfl) 31 _ (by rfl) (w.heap.size) (by rfl) 31 (rfC r) (0, 0) _ (by exact r0) Try.underlying31 (by rfl) (slSizeRef.trans (by rw [rfC_size])) ?_; simp only [Act.put, List.setIfInBounds_toArray, List.set_cons_zero, List.set_cons_succ])
    | fail)
  go_ret
  exact ⟨rfl, hb⟩
set_option maxRecDepth 100000 in
set_option maxHeartbeats 4000000 in
theorem right_any (r : Rf) (w : World) : Calls Try.prog 22 #[.agg (rfC r)] w fun e w' => e = .returned (.bool (rOk r)) ∧ Below w.heap.size w w' := by
  have r0 : Blk (w.alloc (.cells (rfC r) 31)) w.heap.size 31 (rfC r) := Blk.new _ _ _
  have hb : Below w.heap.size w (w.alloc (.cells (rfC r) 31)) := below_new1 _ _
  have hsz : (w.alloc (.cells (rfC r) 31)).heap.size = w.heap.size + 1 := by simp
  have hn : Hid (∀ w, Calls Try.prog 17 #[.agg (rfC r)] w fun e w' => e = .returned (.bool (decide (r = rf0))) ∧ Below w.heap.size w w') := none_any r
  have hx : (w.alloc (.cells (rfC r) 31)).cell? ⟨w.heap.size, 0, none⟩ = some (.int .u32 (r.1 : Int)) := by
    rw [r0.cell]
    exact va_at (rfF r.1 r.2) (by decide)
  have HO : Hid (rOk r = (decide (r = rf0) || decide (r.1 ≠ 0))) := rfl
  obtain ⟨b, hbd⟩ : ∃ b, b = decide (r = rf0) := ⟨_, rfl⟩
  obtain ⟨n, hnd⟩ : ∃ n, n = r.1 := ⟨_, rfl⟩
  rw [← hbd] at hn HO
  rw [← hnd] at hx HO
  clear hbd hnd
  go_enter Try.func22, Try.ntmps22
  go_wp2_with (first
    | (refine wpList_load_rowg (by rfl) 31 _ (by rfl) (w.heap.size) (by rfl) 31 (rfC r) (0, 0) _ (by exact r0) Try.underlying31 (by rfl) (slSizeRef.trans (by rw [rfC_size])) ?_; simp only [Act.put, List.setIfInBounds_toArray, List.set_cons_zero, List.set_cons_succ])
    | fail)
  generalize (w.alloc (.cells (rfC r) 31)) = w1 at *
  refine (hn.out w1).mono ?_
  rintro e w2 ⟨rfl, hb2⟩
  have r2 : Blk w2 w.heap.size 31 (rfC r) := r0.below hb2 (by omega)
  have hx2 : w2.cell? ⟨w.heap.size, 0, none⟩ = some (.int .u32 (n : Int)) := by
    rw [← hx, r2.cell, r0.cell]
  have hb3 : Below w.heap.size w w2 := hb.trans (hb2.mono (by omega))
  clear hn hx r0 hb hb2 r2
  cases b
  · go_wp2_with fail
    go_ret
    refine ⟨?_, hb3⟩
    rw [HO.out]
    by_cases h0 : n = 0
    · subst h0
      rfl
    · have : ¬ (n : Int) = 0 := by omega
      simp [h0, this]
  · go_wp2_with fail
    go_ret
    refine ⟨?_, hb3⟩
    rw [HO.out]
    rfl
theorem enc_lo (r : Rf) (hr : okD r.2) : strN (dig r.1) 4 ++ strN (dF r.2) 32 = strN (encR r) 36 := by
  have e := strN_append (encR r) 4 32 fun j hj => encR_lt r hr j hj
  have e1 : strN (encR r) 4 = strN (dig r.1) 4 := strN_congr fun j hj => by
    unfold encR
    rw [if_pos hj]
  have e2 : strN (fun j => encR r (4 + j)) 32 = strN (dF r.2) 32 := strN_congr fun j hj => by
    unfold encR
    rw [if_neg (by omega), show 4 + j - 4 = j by omega]
  rw [e1, e2] at e
  exact e
set_option maxRecDepth 100000 in
set_option maxHeartbeats 4000000 in
theorem encR_any (r : Rf) (hr : okD r.2) (w : World) : Calls Try.prog 23 #[.agg (rfC r)] w fun e w' => e = .returned (.string (strN (encR r) 36)) ∧ Below w.heap.size w w' := by
  have r0 : Blk (w.alloc (.cells (rfC r) 31)) w.heap.size 31 (rfC r) := Blk.new _ _ _
  have hb : Below w.heap.size w (w.alloc (.cells (rfC r) 31)) := below_new1 _ _
  have hx : (w.alloc (.cells (rfC r) 31)).cell? ⟨w.heap.size, 0, none⟩ = some (.int .u32 (r.1 : Int)) := by
    rw [r0.cell]
    exact va_at (rfF r.1 r.2) (by decide)
  have hsz : (w.alloc (.cells (rfC r) 31)).heap.size = w.heap.size + 1 := by simp
  go_enter Try.func23, Try.ntmps23
  go_wp2_with fail
  generalize (w.alloc (.cells (rfC r) 31)) = w1 at *
  refine (bytes32_va r.1 w1).mono ?_
  rintro e w2 ⟨rfl, hb2⟩
  have hs2 := hb2.size
  have r2 : Blk w2 w.heap.size 31 (rfC r) := r0.below hb2 (by omega)
  have hb3 : Below w.heap.size w w2 := hb.trans (hb2.mono (by omega))
  have z4 : (Try.prog.info? 79).map (·.size) = some 4 := by kernel_rfl
  clear r0 hb hx hb2
  have r3 : Blk (w2.alloc (.cells (va 4 (iv .u8 fun _ => 0)) 79)) w.heap.size 31 (rfC r) := r2.alloc _
  have q3 : Blk (w2.alloc (.cells (va 4 (iv .u8 fun _ => 0)) 79)) w2.heap.size 79 (va 4 (iv .u8 fun _ => 0)) := Blk.new _ _ _
  have hb4 : Below w.heap.size w (w2.alloc (.cells (va 4 (iv .u8 fun _ => 0)) 79)) := hb3.alloc (by omega) _
  have hz : ∀ w, (zeroValue 79).run Try.prog w = .ok (.agg (va 4 (iv .u8 fun _ => 0))) w := zero_of (by kernel_rfl)
  go_wp2_with (first
    | (refine wpList_store_row (by rfl) 79 _ _ (by rfl) (w2.heap.size) (va 4 (iv .u8 (dig r.1))) (by rfl) (by rfl) 79 (va 4 (iv .u8 fun _ => 0)) (by exact q3) (z4.trans (by rw [va_size])) (by simp only [va_size]) (iv_one _ _ _) ?_; simp only [Act.put, List.setIfInBounds_toArray, List.set_cons_zero, List.set_cons_succ])
    | fail)
  have r5 : Blk ((w2.alloc (.cells (va 4 (iv .u8 fun _ => 0)) 79)).setRow w2.heap.size (va 4 (iv .u8 (dig r.1)))) w.heap.size 31 (va 33 (rfF r.1 r.2)) := r3.other _ (by omega)
  have q5 : Blk ((w2.alloc (.cells (va 4 (iv .u8 fun _ => 0)) 79)).setRow w2.heap.size (va 4 (iv .u8 (dig r.1)))) w2.heap.size 79 (va 4 (iv .u8 (dig r.1))) := q3.set _
  have hb5 : Below w.heap.size w ((w2.alloc (.cells (va 4 (iv .u8 fun _ => 0)) 79)).setRow w2.heap.size (va 4 (iv .u8 (dig r.1)))) := below_setRow hb4 (by omega) _
  clear r3 q3 hb4 r2 hb3
  generalize ((w2.alloc (.cells (va 4 (iv .u8 fun _ => 0)) 79)).setRow w2.heap.size (va 4 (iv .u8 (dig r.1)))) = w5 at *
  have hc1 : ∀ W, Blk W w2.heap.size 79 (va 4 (iv .u8 (dig r.1))) → (convert 59 9 (.slice (some ⟨w2.heap.size, 0, none⟩) 4 4)).run Try.prog W = .ok (.string (strN (dig r.1) 4)) W := fun W hW => by
    have := run_bytes_text (P := Try.prog) W 59 5 9 Try.underlying59 Try.underlying5 Try.underlying9 hW 0 4 4 (by omega)
    rwa [show (fun j => dig r.1 (0 + j)) = dig r.1 by funext j; rw [Nat.zero_add]] at this
  have hc2 : ∀ W, Blk W w.heap.size 31 (va 33 (rfF r.1 r.2)) → (convert 59 9 (.slice (some ⟨w.heap.size, 1, none⟩) 32 32)).run Try.prog W = .ok (.string (strN (dF r.2) 32)) W := fun W hW => by
    exact run_convert_bytes_arg W 59 5 Try.underlying59 Try.underlying5 w.heap.size 1 32 32 _ (by simp) (fun i hi => by
      rw [hW.cv (i := 1 + i) (by omega)]
      unfold rfF
      rw [if_neg (by omega), show 1 + i - 1 = i by omega]
      simp [List.getD_eq_getElem?_getD, hi]) 9 Try.underlying9
  have h1 := hc1 w5.drew q5.drew
  have h2 := hc2 w5.drew r5.drew
  have he := enc_lo r hr
  have z1 : (strN (dig r.1) 4).size = 4 := strN_size _ _
  have z2 : (strN (dF r.2) 32).size = 32 := strN_size _ _
  generalize strN (dig r.1) 4 = t1 at *
  generalize strN (dF r.2) 32 = t2 at *
  clear hc1 hc2 q5 r5
  refine wp_region_partsS (fun W => W = w5.drew) [([], 0, true), ([], 1, true), ([], 2, false), ([], 3, false), ([], 4, false), ([], 5, false)] [] [6] (by kernel_rfl) (by kernel_rfl) rfl (partsI_yield ?_)
  simp only [List.cons_append, List.nil_append, List.append_nil, List.filterMap_cons, List.filterMap_nil, List.getElem?_toArray, List.getElem?_cons_zero, List.getElem?_cons_succ]
  go_wp2_with fail
  refine ⟨rfl, _, .slice (some ⟨w2.heap.size, 0, none⟩) 4 4, rfl, Or.inl ⟨by rfl, fun W hW => by go_simp⟩, partsI_yield ?_⟩
  simp only [Act.put, List.setIfInBounds_toArray, List.set_cons_zero, List.set_cons_succ]
  simp only [List.cons_append, List.nil_append, List.append_nil, List.filterMap_cons, List.filterMap_nil, List.getElem?_toArray, List.getElem?_cons_zero, List.getElem?_cons_succ]
  go_wp2_with fail
  refine ⟨rfl, _, .string t1, rfl, Or.inl ⟨by rfl, fun W hW => by rw [hW]; go_simp⟩, partsI_force ?_⟩
  simp only [Act.put, List.setIfInBounds_toArray, List.set_cons_zero, List.set_cons_succ]
  simp only [List.cons_append, List.nil_append, List.append_nil, List.filterMap_cons, List.filterMap_nil, List.getElem?_toArray, List.getElem?_cons_zero, List.getElem?_cons_succ]
  go_wp2_with fail
  refine ⟨rfl, rfl, partsI_force ?_⟩
  simp only [List.cons_append, List.nil_append, List.append_nil, List.filterMap_cons, List.filterMap_nil, List.getElem?_toArray, List.getElem?_cons_zero, List.getElem?_cons_succ]
  go_wp2_with fail
  refine ⟨rfl, rfl, partsI_force ?_⟩
  simp only [List.cons_append, List.nil_append, List.append_nil, List.filterMap_cons, List.filterMap_nil, List.getElem?_toArray, List.getElem?_cons_zero, List.getElem?_cons_succ]
  go_wp2_with fail
  refine ⟨rfl, rfl, partsI_force ?_⟩
  simp only [List.cons_append, List.nil_append, List.append_nil, List.filterMap_cons, List.filterMap_nil, List.getElem?_toArray, List.getElem?_cons_zero, List.getElem?_cons_succ]
  go_wp2_with fail
  refine ⟨rfl, rfl, partsI_last ?_⟩
  simp only [List.cons_append, List.nil_append, List.append_nil, List.filterMap_cons, List.filterMap_nil, List.getElem?_toArray, List.getElem?_cons_zero, List.getElem?_cons_succ]
  go_wp2_with fail
  refine ⟨rfl, ?_⟩
  go_wp2_with fail
  go_ret
  exact ⟨rfl, hb5.drew⟩
/-- the reference that stands in a text -/
def decR (s : ByteArray) (a : Nat) : Rf := (at4 s a, sumD fun i => tbyte s (a + 4 + i))
theorem decR_ok (s : ByteArray) (a : Nat) : okD (decR s a).2 := fun i hi => by
  have e : dF (decR s a).2 i = tbyte s (a + 4 + i) := dF_sumD (fun i => tbyte s (a + 4 + i)) i hi
  rw [e]
  exact tbyte_lt s (a + 4 + i)
theorem decR_cells (n : Nat) (f : Nat → Nat) : (splice ((rfC rf0).setIfInBounds 0 (.int .u32 (n : Int))).toList 1 (byL f 32)).toArray = rfC (n, sumD f) := by
  unfold rfC
  rw [va_set, va_toList]
  refine Eq.trans (by rfl) ((splice_va 33 1 32 _ (fun j => Value.int .u8 ((f j : Nat) : Int)) (by decide)).trans ?_)
  refine va_congr fun i hi => ?_
  by_cases h2 : 1 ≤ i ∧ i < 1 + 32
  · have e1 : rfF (n, sumD f).1 (n, sumD f).2 i = .int .u8 ((f (i - 1) : Nat) : Int) := by
      unfold rfF
      rw [if_neg (by omega), show dF (n, sumD f).2 (i - 1) = f (i - 1) from dF_sumD f _ (by omega)]
    rw [e1]
    unfold overF
    rw [if_pos h2]
  · unfold overF upd
    rw [if_neg h2]
    have h0 : i = 0 := by omega
    subst h0
    rfl
set_option maxRecDepth 100000 in
set_option maxHeartbeats 4000000 in
theorem decodeR_good (s : ByteArray) (a : Nat) (hs : s.size ≤ maxLen) (h : a + 36 ≤ s.size) (w : World) : Calls Try.prog 26 #[.string s, .int .i64 (a : Int)] w fun e w' => e = .returned (.tuple #[.agg (rfC (if rOk (decR s a) then decR s a else rf0)), .bool (rOk (decR s a))]) ∧ Below w.heap.size w w' := by
  have hT : Hid (∀ w : World, Calls Try.prog 40 #[.string s, .int .i64 (a : Int)] w fun e w' => e = .returned (.tuple #[.int .u32 (at4 s a : Int), .bool true]) ∧ Below w.heap.size w w') := fun w => take32_yes s a hs (by omega) w
  unfold maxLen at hs
  have hz := zero_ref
  have r0 : Blk ((w.alloc (.cells (rfC rf0) 31)).alloc (.cells (rfC rf0) 31)) w.heap.size 31 (rfC rf0) := (Blk.new _ _ _).alloc _
  have r1 : Blk ((w.alloc (.cells (rfC rf0) 31)).alloc (.cells (rfC rf0) 31)) (w.heap.size + 1) 31 (rfC rf0) := Blk.new1 _ _ _ _
  have hb : Below w.heap.size w ((w.alloc (.cells (rfC rf0) 31)).alloc (.cells (rfC rf0) 31)) := below_new2 _ _ _
  have hsz : ((w.alloc (.cells (rfC rf0) 31)).alloc (.cells (rfC rf0) 31)).heap.size = w.heap.size + 2 := by simp
  have HDC : Hid ((splice ((rfC rf0).setIfInBounds 0 (.int .u32 ((at4 s a : Nat) : Int))).toList 1 (byL (tbyte (s.extract (a + 4) s.size)) 32)).toArray = rfC (decR s a)) := by
    rw [byL_congr (f := tbyte (s.extract (a + 4) s.size)) (g := fun i => tbyte s (a + 4 + i)) fun i hi => tbyte_extract s (a + 4) s.size i (Nat.le_refl _) (by omega)]
    exact decR_cells _ _
  have HS : (s.extract (a + 4) s.size).size = s.size - (a + 4) := extract_size s (a + 4) s.size (Nat.le_refl _)
  obtain ⟨X, hX⟩ : ∃ X, X = decR s a := ⟨_, rfl⟩
  obtain ⟨n4, hn4⟩ : ∃ n4, n4 = at4 s a := ⟨_, rfl⟩
  rw [← hX] at HDC
  rw [← hX]
  rw [← hn4] at HDC hT
  clear hX hn4
  have HR : Hid (∀ w, Calls Try.prog 22 #[.agg (rfC X)] w fun e w' => e = .returned (.bool (rOk X)) ∧ Below w.heap.size w w') := right_any X
  generalize rOk X = b at *
  go_enter Try.func26, Try.ntmps26
  go_wp2_with fail
  generalize ((w.alloc (.cells (rfC rf0) 31)).alloc (.cells (rfC rf0) 31)) = w0 at *
  refine (hT.out w0).mono ?_
  rintro e w1 ⟨rfl, hb1⟩
  have hs1 := hb1.size
  have r0' : Blk w1 w.heap.size 31 (rfC rf0) := r0.below hb1 (by omega)
  have r1' : Blk w1 (w.heap.size + 1) 31 (rfC rf0) := r1.below hb1 (by omega)
  have hb' : Below w.heap.size w w1 := hb.trans (hb1.mono (by omega))
  have f1 : w1.frozen? ⟨w.heap.size + 1, 0, none⟩ = false := r1'.frozen 0
  have d1 : w1.cell? ⟨w.heap.size + 1, 0, none⟩ = some (.int .u32 0) := by
    rw [r1'.cell]
    exact va_at (rfF rf0.1 rf0.2) (by decide)
  clear r0 r1 hb hb1 hT
  go_wp2_with fail
  have r2 : Blk (w1.setCell ⟨w.heap.size + 1, 0, none⟩ (.int .u32 (n4 : Int))) (w.heap.size + 1) 31 ((rfC rf0).setIfInBounds 0 (.int .u32 (n4 : Int))) := r1'.put 0 _
  have q2 : Blk (w1.setCell ⟨w.heap.size + 1, 0, none⟩ (.int .u32 (n4 : Int))) w.heap.size 31 (rfC rf0) := r0'.put_other _ _ (by omega)
  have hb2 : Below w.heap.size w (w1.setCell ⟨w.heap.size + 1, 0, none⟩ (.int .u32 (n4 : Int))) := hb'.setCell (by show w.heap.size ≤ w.heap.size + 1; omega) _
  have hs2 : (w1.setCell ⟨w.heap.size + 1, 0, none⟩ (.int .u32 (n4 : Int))).heap.size = w1.heap.size := World.size_setCell _ _ _
  clear r1' r0' hb' f1 d1
  generalize (w1.setCell ⟨w.heap.size + 1, 0, none⟩ (.int .u32 (n4 : Int))) = w2 at *
  have z1 : (a : Int) + 4 ≤ (s.size : Int) := by omega
  refine wp_region_partsS (fun _ => True) [([2, 3], 0, true), ([], 1, true), ([], 4, false), ([], 5, false)] [] [6] (by kernel_rfl) (by kernel_rfl) trivial (partsI_yield ?_)
  simp only [List.cons_append, List.nil_append, List.append_nil, List.filterMap_cons, List.filterMap_nil, List.getElem?_toArray, List.getElem?_cons_zero, List.getElem?_cons_succ]
  go_wp2_with fail
  refine ⟨rfl, _, .pointer (some ⟨w.heap.size + 1, 1, none⟩), rfl, Or.inl ⟨by rfl, fun W hW => by go_simp⟩, partsI_yield ?_⟩
  simp only [Act.put, List.setIfInBounds_toArray, List.set_cons_zero, List.set_cons_succ]
  simp only [List.cons_append, List.nil_append, List.append_nil, List.filterMap_cons, List.filterMap_nil, List.getElem?_toArray, List.getElem?_cons_zero, List.getElem?_cons_succ]
  go_wp2_with fail
  refine ⟨rfl, _, .slice (some ⟨w.heap.size + 1, 1, none⟩) 32 32, rfl, Or.inl ⟨by rfl, fun W hW => by go_simp⟩, partsI_force ?_⟩
  simp only [Act.put, List.setIfInBounds_toArray, List.set_cons_zero, List.set_cons_succ]
  simp only [List.cons_append, List.nil_append, List.append_nil, List.filterMap_cons, List.filterMap_nil, List.getElem?_toArray, List.getElem?_cons_zero, List.getElem?_cons_succ]
  go_wp2_with fail
  refine ⟨rfl, trivial, partsI_force ?_⟩
  simp only [List.cons_append, List.nil_append, List.append_nil, List.filterMap_cons, List.filterMap_nil, List.getElem?_toArray, List.getElem?_cons_zero, List.getElem?_cons_succ]
  go_wp2_with fail
  refine ⟨rfl, trivial, partsI_last ?_⟩
  simp only [List.cons_append, List.nil_append, List.append_nil, List.filterMap_cons, List.filterMap_nil, List.getElem?_toArray, List.getElem?_cons_zero, List.getElem?_cons_succ]
  refine wpList_copy_text rfl _ _ 59 9 rfl 5 Try.underlying59 ksizeU8 (w.heap.size + 1) 1 32 32 (s.extract (a + 4) s.size) rfl rfl ((rfC rf0).setIfInBounds 0 (.int .u32 (n4 : Int))) 31 r2.drew 32 (by rw [HS]; show 32 = min (s.size - (a + 4)) 32; omega) (by rw [Array.size_setIfInBounds, rfC_size]; omega) ?_
  rw [HDC.out]
  simp only [Act.put, List.setIfInBounds_toArray, List.set_cons_zero, List.set_cons_succ]
  go_wp2_with fail
  refine ⟨rfl, ?_⟩
  have r4 : Blk (w2.drew.setRow (w.heap.size + 1) (rfC X)) (w.heap.size + 1) 31 (rfC X) := r2.drew.set _
  have q4 : Blk (w2.drew.setRow (w.heap.size + 1) (rfC X)) w.heap.size 31 (rfC rf0) := q2.drew.other _ (by omega)
  have hb4 : Below w.heap.size w (w2.drew.setRow (w.heap.size + 1) (rfC X)) := below_setRow hb2.drew (by omega) _
  have hs4 : (w2.drew.setRow (w.heap.size + 1) (rfC X)).heap.size = w2.heap.size := by simp
  clear HDC r2 q2 hb2 HS
  generalize (w2.drew.setRow (w.heap.size + 1) (rfC X)) = w4 at *
  go_wp2_with (first
    | (refine wpList_load_rowg (by rfl) 31 _ (by rfl) (w.heap.size + 1) (by rfl) 31 (rfC X) (0, 0) _ (by exact r4) Try.underlying31 (by rfl) (slSizeRef.trans (by rw [rfC_size])) ?_; simp only [Act.put, List.setIfInBounds_toArray, List.set_cons_zero, List.set_cons_succ])
    | fail)
  refine (HR.out w4).mono ?_
  rintro e w5 ⟨rfl, hb5⟩
  have r5 : Blk w5 (w.heap.size + 1) 31 (rfC X) := r4.below hb5 (by omega)
  have q5 : Blk w5 w.heap.size 31 (rfC rf0) := q4.below hb5 (by omega)
  have hb6 : Below w.heap.size w w5 := hb4.trans (hb5.mono (by omega))
  clear r4 q4 hb4 hb5 hs4
  cases b
  · go_wp2_with (first
      | (refine wpList_store_row (by rfl) 31 _ _ (by rfl) (w.heap.size) (rfC rf0) (by rfl) (by rfl) 31 (_) (by exact q5) (slSizeRef.trans (by rw [rfC_size])) (by simp only [rfC_size]) (rfC_all _) ?_; simp only [Act.put, List.setIfInBounds_toArray, List.set_cons_zero, List.set_cons_succ])
      | fail)
    try simp only [Exit.inBlock, Exit.then]
    refine bodyPost_ret (results_row2 Try.results26 _ _ (w.heap.size) 31 (rfC rf0) (0, 0) _ rfl (q5.set _) Try.underlying31 rfl (slSizeRef.trans (by rw [rfC_size]))) rfl ?_
    exact ⟨rfl, below_setRow hb6 (Nat.le_refl _) _⟩
  · go_wp2_with (first
      | (refine wpList_load_rowg (by rfl) 31 _ (by rfl) (w.heap.size + 1) (by rfl) 31 (rfC X) (0, 0) _ (by exact r5) Try.underlying31 (by rfl) (slSizeRef.trans (by rw [rfC_size])) ?_; simp only [Act.put, List.setIfInBounds_toArray, List.set_cons_zero, List.set_cons_succ])
      | (refine wpList_store_row (by rfl) 31 _ _ (by rfl) (w.heap.size) (rfC X) (by rfl) (by rfl) 31 (_) (by exact q5) (slSizeRef.trans (by rw [rfC_size])) (by simp only [rfC_size]) (rfC_all _) ?_; simp only [Act.put, List.setIfInBounds_toArray, List.set_cons_zero, List.set_cons_succ])
      | fail)
    try simp only [Exit.inBlock, Exit.then]
    refine bodyPost_ret (results_row2 Try.results26 _ _ (w.heap.size) 31 (rfC X) (0, 0) _ rfl (q5.set _) Try.underlying31 rfl (slSizeRef.trans (by rw [rfC_size]))) rfl ?_
    exact ⟨rfl, below_setRow hb6 (Nat.le_refl _) _⟩
end Go.Proofs.Ytednfpponkaelaa

namespace Go.Proofs.Ytednfpponkaelaa
open Go Go.RowKit

/-- the plan of a region's walk -/
inductive PlanW where
  | fin (takes : List Nat)
  | force (ts : List Nat) (i : Nat) (next : PlanW)
  | yield (ts : List Nat) (i : Nat) (next : PlanW)
  | fork (i j : Nat) (p q : PlanW)
def PlanW.len (tl : List Nat) : PlanW → Nat
  | .fin takes => takes.length + tl.length
  | .force ts _ p => ts.length + (1 + p.len tl)
  | .yield ts _ p => ts.length + (1 + p.len tl)
  | .fork _ _ p _ => p.len tl + 1
/-- the check -/
def PlanW.ok (ops : Array Oper) (tl : List Nat) : PlanW → Array Bool → Bool
  | .fin takes, listed => match takesB .any ops tl [] takes listed with
    | some l => tailB .any ops tl tl l
    | none => false
  | .force ts i p, listed => match takesB .any ops tl [] ts listed with
    | some l => forceW .any ops l i && !tl.contains i && p.ok ops tl (l.setIfInBounds i true)
    | none => false
  | .yield ts i p, listed => match takesB .any ops tl [] ts listed with
    | some l => yieldW .any ops l tl i && p.ok ops tl (l.setIfInBounds i true)
    | none => false
  | .fork i j p q, listed => Region.ready .any ops listed == [i, j] && (ops[i]?).isSome && (ops[j]?).isSome && !tl.contains i && !tl.contains j && p.len tl == q.len tl && p.ok ops tl (listed.setIfInBounds i true) && q.ok ops tl (listed.setIfInBounds j true)
def PlanW.whole (ops : Array Oper) (tl : List Nat) (p : PlanW) : Bool := p.len tl == ops.size && Region.noSelect ops && p.ok ops tl (Array.replicate ops.size false)
section
variable {P : Program} {ops : Array Oper} {Q : Exit → Act → World → Prop} {S : World → Prop}
/-- the walk -/
def wpPlanW (P : Program) (ops : Array Oper) (Q : Exit → Act → World → Prop) (S : World → Prop) (tl : List Nat) : PlanW → Act → World → Prop
  | .fin takes, a, w => wpList P ops (Strict Q) ((takes ++ tl).filterMap fun i => ops[i]?) a w
  | .force ts i p, a, w => wpList P ops (Strict fun _ a' w' => S w' ∧ wpPlanW P ops Q S tl p a' w') ((ts ++ [i]).filterMap fun i => ops[i]?) a w
  | .yield ts i p, a, w => wpList P ops (Strict fun _ a' w' => ∃ o v, ops[i]? = some o ∧ YieldsIf P ops S o v a' ∧ wpPlanW P ops Q S tl p (a'.put o.dst v) w') ((ts ++ []).filterMap fun i => ops[i]?) a w
  | .fork i j p q, a, w => wpList P ops (Strict fun _ a' w' => S w' ∧ wpPlanW P ops Q S tl p a' w') ([i].filterMap fun i => ops[i]?) a w ∧ wpList P ops (Strict fun _ a' w' => S w' ∧ wpPlanW P ops Q S tl q a' w') ([j].filterMap fun i => ops[i]?) a w
theorem planW_step (hs : Region.noSelect ops = true) (tl : List Nat) : ∀ (p : PlanW) (listed : Array Bool) (a : Act) (w : World), p.ok ops tl listed = true → S w →
      wpPlanW P ops Q S tl p a w → wpAnyW P .any ops (Strict Q) S (tl.contains ·) (p.len tl) listed a w
  | .fin takes, listed, a, w, hb, hS, h => by
    unfold PlanW.ok at hb
    split at hb
    · rename_i l2 hl2
      exact takesS_step hs tl tl.length Q takes listed l2 a w hl2 (fun a' w' _ h' => tailS_step tl l2 a' w' hb h') hS h
    · cases hb
  | .force ts i p, listed, a, w, hb, hS, h => by
    unfold PlanW.ok at hb
    split at hb
    · rename_i l2 hl2
      simp only [Bool.and_eq_true] at hb
      refine takesS_step hs [i] _ _ ts listed l2 a w hl2 (fun a' w' _ h' => ?_) hS h
      obtain ⟨o, ho⟩ := has_op' hb.1.1
      rw [Nat.add_comm 1]
      refine forceS_step hb.1.1 (wpOp_mono (fun a2 w2 h2 => ?_) (wpOp_strict (wpList_one ho h')))
      have h3 := h2.2
      exact ⟨fun _ => h3.1, planW_step hs tl p _ a2 w2 hb.2 h3.1 h3.2⟩
    · cases hb
  | .yield ts i p, listed, a, w, hb, hS, h => by
    unfold PlanW.ok at hb
    split at hb
    · rename_i l2 hl2
      simp only [Bool.and_eq_true] at hb
      refine takesS_step hs [] _ _ ts listed l2 a w hl2 (fun a' w' hS' h' => ?_) hS h
      obtain ⟨-, o, v, ho, hy, hn⟩ := h'
      have hc := hb.1
      unfold yieldW at hc
      rw [ho] at hc
      simp only [Bool.and_eq_true, Bool.not_eq_true'] at hc
      rw [Nat.add_comm 1]
      exact takeS_gen hs ho hc.1.1.1 hc.1.1.2 hc.1.2 hc.2 hy hS' (planW_step hs tl p _ _ w' hb.2 hS' hn)
    · cases hb
  | .fork i j p q, listed, a, w, hb, hS, h => by
    simp only [PlanW.ok, Bool.and_eq_true, beq_iff_eq] at hb
    obtain ⟨⟨⟨⟨⟨⟨⟨hr, hi⟩, hj⟩, _⟩, _⟩, hl⟩, hp⟩, hq⟩ := hb
    refine ⟨fun h0 => (by rw [h0] at hr; cases hr), fun x hx => ?_⟩
    rw [hr] at hx
    have hx2 : x = i ∨ x = j := by simpa using hx
    rcases hx2 with rfl | rfl
    · obtain ⟨o, ho⟩ := Option.isSome_iff_exists.1 hi
      refine wpOp_mono (fun a' w' h' => ?_) (wpOp_strict (wpList_one ho h.1))
      exact ⟨fun _ => h'.2.1, planW_step hs tl p _ a' w' hp h'.2.1 h'.2.2⟩
    · obtain ⟨o, ho⟩ := Option.isSome_iff_exists.1 hj
      refine wpOp_mono (fun a' w' h' => ?_) (wpOp_strict (wpList_one ho h.2))
      have := planW_step hs tl q _ a' w' hq h'.2.1 h'.2.2
      rw [← hl] at this
      exact ⟨fun _ => h'.2.1, this⟩
/-- THE LAW. -/
theorem wp_region_planW {id : Nat} {a : Act} {w : World} (S : World → Prop) (tl : List Nat) (p : PlanW) (hm : P.follows .mixedOrders = true) (hB : p.whole ops tl = true)
    (hS : S w.drew) (h : wpPlanW P ops Q S tl p a w.drew) : (Code.region id ops true).wp P Q a w := by
  unfold PlanW.whole at hB
  simp only [Bool.and_eq_true, beq_iff_eq] at hB
  refine Code.wp_mono Strict.imp (wp_region_any hm ?_)
  rw [← hB.1.1]
  exact wpAny_of_W _ _ _ _ (planW_step hB.1.2 tl p _ a _ (by rw [hB.1.1]; exact hB.2) hS h)
theorem planW_force {tl ts : List Nat} {i : Nat} {p : PlanW} {a : Act} {w : World}
    (h : wpList P ops (Strict fun _ a' w' => S w' ∧ wpPlanW P ops Q S tl p a' w') ((ts ++ [i]).filterMap fun i => ops[i]?) a w) : wpPlanW P ops Q S tl (.force ts i p) a w := h
theorem planW_yield {tl ts : List Nat} {i : Nat} {p : PlanW} {a : Act} {w : World}
    (h : wpList P ops (Strict fun _ a' w' => ∃ o v, ops[i]? = some o ∧ YieldsIf P ops S o v a' ∧ wpPlanW P ops Q S tl p (a'.put o.dst v) w') ((ts ++ []).filterMap fun i => ops[i]?) a w) : wpPlanW P ops Q S tl (.yield ts i p) a w := h
theorem planW_fin {tl takes : List Nat} {a : Act} {w : World} (h : wpList P ops (Strict Q) ((takes ++ tl).filterMap fun i => ops[i]?) a w) : wpPlanW P ops Q S tl (.fin takes) a w := h
end
end Go.Proofs.Ytednfpponkaelaa

namespace Go.Proofs.Ytednfpponkaelaa
open Go Go.RowKit Go.Nam Go.Lib Go.Sort
set_option linter.unusedSimpArgs false
set_option linter.unusedVariables false
set_option maxRecDepth 20000

/-- only draws and new blocks -/
def Gr (w w' : World) : Prop := ∃ q os, w' = grow (w.drewN q) os
theorem Gr.refl (w : World) : Gr w w := ⟨0, #[], by rw [grow_empty]; rfl⟩
theorem Gr.trans {a b c : World} (h : Gr a b) (k : Gr b c) : Gr a c := by
  obtain ⟨q, os, rfl⟩ := h
  obtain ⟨q', os', rfl⟩ := k
  refine ⟨q + q', os ++ os', ?_⟩
  show grow (grow ((a.drewN q).drewN q') os) os' = _
  rw [grow_grow, World.drewN_drewN]
theorem Gr.drew {a b : World} (h : Gr a b) : Gr a b.drew := h.trans ⟨1, #[], by rw [grow_empty]; rfl⟩
theorem Gr.alloc {a b : World} (h : Gr a b) (o : Obj) : Gr a (b.alloc o) := h.trans ⟨0, #[o], by rw [alloc_eq_grow]; rfl⟩
theorem Gr.below {a b : World} (h : Gr a b) : Below a.heap.size a b := by
  obtain ⟨q, os, rfl⟩ := h
  refine ⟨rfl, rfl, rfl, by simp [grow, World.drewN], fun k hk => ?_⟩
  show (a.heap ++ os)[k]? = _
  rw [Array.getElem?_append_left hk]
theorem Gr.blk {a b : World} (h : Gr a b) {g t : Nat} {c : Array Value} (hg : Blk a g t c) : Blk b g t c := hg.below h.below hg.lt
theorem Gr.grown {w : World} {n : Nat} {os : Array Obj} {u : World} (h : Gr (grow (w.drewN n) os) u) : ∃ q os', u = grow ((grow (w.drewN n) os).drewN q) os' := h

/-- are a digest's bytes bytes? -/
def Rw (r : Rf) : Prop := ∀ i, i < 32 → dF r.2 i < 256
theorem bytesOf_dL (d : Vector Nat 32) (h : ∀ i, i < 32 → dF d i < 256) : (Lib.bytesOf ((dL d).map fun x : Nat => (x : Int))).map (·.toNat) = dL d := by
  unfold Lib.bytesOf dL
  rw [List.map_map, List.map_map, List.map_map]
  refine List.map_congr_left fun i hi => ?_
  have := h i (List.mem_range.1 hi)
  simp
  omega
theorem run_compareSlices {P : Program} (w : World) (b1 o1 c1 b2 o2 c2 : Nat) (xs ys : List Int) (hx : ∀ i, i < xs.length → w.cell? ⟨b1, o1 + i, none⟩ = some (.int .u8 (xs.getD i 0))) (hy : ∀ i, i < ys.length → w.cell? ⟨b2, o2 + i, none⟩ = some (.int .u8 (ys.getD i 0))) :
    (Extern.BytealgCompare.compare #[.slice (some ⟨b1, o1, none⟩) xs.length c1, .slice (some ⟨b2, o2, none⟩) ys.length c2]).run P w = .ok (.int .i64 (compareBytes (Lib.bytesOf xs) (Lib.bytesOf ys))) w := by
  have H : ∀ (b o : Nat) (xs : List Int), (∀ i, i < xs.length → w.cell? ⟨b, o + i, none⟩ = some (.int .u8 (xs.getD i 0))) → (Extern.Bytes.loadBytes ⟨b, o, none⟩ xs.length .empty).run P w = .ok ⟨(Lib.bytesOf xs).toArray⟩ w := fun b o xs h => by
    have hl := run_loadBytesX (P := P) w xs ⟨b, o, none⟩ .empty (fun j x hj => by
      have hjl : j < xs.length := (List.getElem?_eq_some_iff.1 hj).1
      have e : (⟨b, o, none⟩ : Addr).add j = ⟨b, o + j, none⟩ := by unfold Addr.add; split <;> simp_all
      rw [e, h j hjl, List.getD_eq_getElem?_getD, hj]
      rfl)
    have he : (⟨ByteArray.empty.data ++ (Lib.bytesOf xs).toArray⟩ : ByteArray) = ⟨(Lib.bytesOf xs).toArray⟩ := by
      apply ByteArray.ext
      show (#[] : Array UInt8) ++ (Lib.bytesOf xs).toArray = (Lib.bytesOf xs).toArray
      simp
    rw [he] at hl
    exact hl
  change Sem.run P (do pure (goInt (Extern.BytealgCompare.cmp (← Extern.Bytes.bytesOf (.slice (some ⟨b1, o1, none⟩) xs.length c1)) (← Extern.Bytes.bytesOf (.slice (some ⟨b2, o2, none⟩) ys.length c2))))) w = _
  simp only [Extern.Bytes.bytesOf, Sem.run_bind, Sem.run_pure, H b1 o1 xs hx, H b2 o2 ys hy, Result.andThen, Lib.cmp_eq]
  rfl
set_option maxRecDepth 100000 in
set_option maxHeartbeats 4000000 in
theorem bcompare_at (g1 g2 : Nat) (a b : Vector Nat 32) (ha : ∀ i, i < 32 → dF a i < 256) (hb : ∀ i, i < 32 → dF b i < 256) (w : World) (t1 t2 : Nat) (h1 : Blk w g1 t1 (va 32 (iv .u8 (dF a)))) (h2 : Blk w g2 t2 (va 32 (iv .u8 (dF b)))) :
    Calls Try.prog 19 #[.slice (some ⟨g1, 0, none⟩) 32 32, .slice (some ⟨g2, 0, none⟩) 32 32] w fun e w' => e = .returned (.int .i64 (lexN (dL a) (dL b))) ∧ w' = w := by
  have C : ∀ (g t : Nat) (d : Vector Nat 32), Blk w g t (va 32 (iv .u8 (dF d))) → ∀ i, i < ((dL d).map fun x : Nat => (x : Int)).length → w.cell? ⟨g, 0 + i, none⟩ = some (.int .u8 (((dL d).map fun x : Nat => (x : Int)).getD i 0)) := fun g t d h i hi => by
    have hi' : i < 32 := by simpa [dL_len] using hi
    rw [h.cell, Nat.zero_add, va_at _ hi']
    unfold iv
    rw [← dL_at d i hi']
    simp [List.getD, dL, hi']
  have hr := run_compareSlices (P := Try.prog) w g1 0 32 g2 0 32 _ _ (C g1 t1 a h1) (C g2 t2 b h2)
  rw [List.length_map, List.length_map, dL_len, dL_len, cmp_lex, bytesOf_dL a ha, bytesOf_dL b hb] at hr
  clear C h1 h2
  generalize lexN (dL a) (dL b) = r at *
  go_enter Try.func19, Try.ntmps19
  go_wp2_with fail
  rw [run_callFunc_extern Try.func27 (by kernel_rfl) (by kernel_rfl) (by kernel_rfl) (e := Extern.BytealgCompare.compare) (by kernel_rfl), hr]
  simp only [Result.andThen]
  rw [Oper.upon_value]
  go_wp2_with fail
  go_ret
  exact ⟨rfl, rfl⟩
set_option maxRecDepth 100000 in
set_option maxHeartbeats 4000000 in
theorem dcompare_any (a b : Vector Nat 32) (ha : ∀ i, i < 32 → dF a i < 256) (hb : ∀ i, i < 32 → dF b i < 256) (w : World) :
    Calls Try.prog 13 #[.agg (va 32 (iv .u8 (dF a))), .agg (va 32 (iv .u8 (dF b)))] w fun e w' => e = .returned (.int .i64 (lexN (dL a) (dL b))) ∧ Gr w w' := by
  have HC : Hid (∀ n, Calls Try.prog 19 #[.slice (some ⟨w.heap.size, 0, none⟩) 32 32, .slice (some ⟨w.heap.size + 1, 0, none⟩) 32 32] (((w.alloc (.cells (va 32 (iv .u8 (dF a))) 29)).alloc (.cells (va 32 (iv .u8 (dF b))) 29)).drewN n) fun e w' => e = .returned (.int .i64 (lexN (dL a) (dL b))) ∧ w' = ((w.alloc (.cells (va 32 (iv .u8 (dF a))) 29)).alloc (.cells (va 32 (iv .u8 (dF b))) 29)).drewN n) := fun n =>
    bcompare_at w.heap.size (w.heap.size + 1) a b ha hb _ 29 29 ((Blk.new _ _ _).alloc _) (Blk.new1 _ _ _ _)
  have HG : Hid (∀ n, Gr w (((w.alloc (.cells (va 32 (iv .u8 (dF a))) 29)).alloc (.cells (va 32 (iv .u8 (dF b))) 29)).drewN n)) := fun n => (((Gr.refl w).alloc _).alloc _).trans ⟨n, #[], by rw [grow_empty]⟩
  generalize lexN (dL a) (dL b) = r at *
  clear ha hb
  go_enter Try.func13, Try.ntmps13
  go_wp2_with fail
  generalize ((w.alloc (.cells (va 32 (iv .u8 (dF a))) 29)).alloc (.cells (va 32 (iv .u8 (dF b))) 29)) = w1 at *
  go_quiet ((go_at_call 19; exact Calls.quiet_of_same (HC.out _)))
  go_wp2_with fail
  go_ret
  exact ⟨rfl, HG.out _⟩
set_option maxHeartbeats 4000000 in
theorem isNaN_any (x : Int) (w : World) : Calls Try.prog 18 #[.int .u32 x] w fun e w' => e = .returned (.bool false) ∧ w' = w := by
  go_enter Try.func18, Try.ntmps18
  go_wp2_with fail
  go_ret
  exact ⟨by simp, rfl⟩
set_option maxHeartbeats 4000000 in
theorem ccompare_any (x y : Int) (w : World) : Calls Try.prog 12 #[.int .u32 x, .int .u32 y] w fun e w' => e = .returned (.int .i64 (compareInt x y)) ∧ w' = w := by
  have HX : Hid (∀ w : World, Calls Try.prog 18 #[.int .u32 x] w fun e w' => e = .returned (.bool false) ∧ w' = w) := isNaN_any x
  have HY : Hid (∀ w : World, Calls Try.prog 18 #[.int .u32 y] w fun e w' => e = .returned (.bool false) ∧ w' = w) := isNaN_any y
  have HR : Hid (compareInt x y = if x < y then -1 else if x > y then 1 else 0) := rfl
  generalize compareInt x y = r at *
  go_enter Try.func12, Try.ntmps12
  go_wp2_with fail
  refine (HX.out _).mono ?_
  rintro e w2 ⟨rfl, rfl⟩
  go_wp2_with fail
  refine (HY.out _).mono ?_
  rintro e w3 ⟨rfl, rfl⟩
  go_wp2_with fail
  all_goals (go_ret; refine ⟨?_, rfl⟩; rw [HR.out]; (repeat' split) <;> first | rfl | (exfalso; omega))
set_option maxHeartbeats 4000000 in
theorem or_two (x y : Int) (g : Nat) (w : World) (h0 : w.cell? ⟨g, 0, none⟩ = some (.int .i64 x)) (h1 : w.cell? ⟨g, 1, none⟩ = some (.int .i64 y)) :
    Calls Try.prog 11 #[.slice (some ⟨g, 0, none⟩) 2 2] w fun e w' => e = .returned (.int .i64 (orR x y)) ∧ w' = w := by
  go_enter Try.func11, Try.ntmps11
  go_wp2_with fail
  go_loop [8] (fun v => Hid (∃ i : Nat, v = .int .i64 (i : Int) ∧ (i = 0 ∨ (i = 1 ∧ x = 0) ∨ (i = 2 ∧ x = 0 ∧ y = 0)))) (fun v => 2 - (intOf v).toNat)
  case atStart => exact ⟨0, rfl, Or.inl rfl⟩
  case round =>
    obtain ⟨i, rfl, hi⟩ := Hid.out hrel
    clear hrel
    rcases hi with rfl | ⟨rfl, hx⟩ | ⟨rfl, hx, hy⟩
    · by_cases hx : x = 0
      · have hb : (x != 0) = false := by rw [hx]; rfl
        have HX : Hid (x = 0) := hx
        clear hx
        go_wp2_with fail
        go_round
        case rel => exact ⟨1, by first | rfl | go_num | simp, Or.inr (Or.inl ⟨rfl, HX.out⟩)⟩
        case measure => simp [intOf]
      · have hb : (x != 0) = true := bne_iff_ne.2 hx
        have HX : Hid (orR x y = x) := if_pos hx
        clear hx
        go_wp2_with fail
        go_ret
        exact ⟨by rw [HX.out]; rfl, rfl⟩
    · have HX : Hid (x = 0) := hx
      by_cases hy : y = 0
      · have hb : (y != 0) = false := by rw [hy]; rfl
        have HY : Hid (y = 0) := hy
        clear hx hy
        go_wp2_with fail
        go_round
        case rel => exact ⟨2, by first | rfl | go_num | simp, Or.inr (Or.inr ⟨rfl, HX.out, HY.out⟩)⟩
        case measure => simp [intOf]
      · have hb : (y != 0) = true := bne_iff_ne.2 hy
        have HO : Hid (orR x y = y) := if_neg (by simp [hx])
        clear hx hy
        go_wp2_with fail
        go_ret
        exact ⟨by rw [HO.out]; rfl, rfl⟩
    · have HO : Hid (orR x y = 0) := by show _ = _; unfold orR; rw [if_neg (by simp [hx]), hy]
      clear hx hy
      go_wp2_with fail
      go_ret
      exact ⟨by rw [HO.out]; rfl, rfl⟩

theorem nyields_load_at {P : Program} {ops : Array Oper} {S : World → Prop} {op : Oper} {a : Act} (hw : Region.wanted op (yielded ops a.tmps) = true) (ty : TypeId) (x : Operand) (ho : op.op = .load ty x)
    (b o n : Nat) (f : Nat → Value) (hx : a.eval x = .pointer (some ⟨b, o, none⟩)) (d : TypeDesc) (hS : ∀ w, S w → w.rangeAt b o ((List.range n).map f))
    (hu : P.underlying ty = some d) (hd : d.isRow = true) (hi : (P.info? ty).map (·.size) = some n) : YieldsIf P ops S op (.agg (va n f)) a :=
  yieldsIf_load_mid hw ty x ho b o hx _ d hS hu hd (hi.trans (by simp))
theorem nref_range {w : World} {b t : Nat} {k : Rf} (h : Blk w b t (rfC k)) : w.rangeAt b 1 ((List.range 32).map (iv .u8 (dF k.2))) := by
  have := Blk.range (n := 33) (f := rfF k.1 k.2) h 1 32 (by decide)
  rw [show ((List.range 32).map fun j => rfF k.1 k.2 (1 + j)) = (List.range 32).map (iv .u8 (dF k.2)) from List.map_congr_left fun j hj => ?_] at this
  · exact this
  · unfold rfF iv
    rw [if_neg (by omega), show 1 + j - 1 = j by omega]
theorem nref_c0 {w : World} {b t : Nat} {k : Rf} (h : Blk w b t (rfC k)) : w.cell? ⟨b, 0, none⟩ = some (.int .u32 (k.1 : Int)) := by
  rw [h.cell]
  exact va_at (rfF k.1 k.2) (by decide)
theorem nref_c {w : World} {b t : Nat} {k : Rf} (h : Blk w b t (rfC k)) (i : Nat) (hi : i < 32) : w.cell? ⟨b, 1 + i, none⟩ = some (.int .u8 ((dF k.2 i : Nat) : Int)) := by
  rw [h.cell, rfC, va_at (rfF k.1 k.2) (by omega)]
  unfold rfF
  rw [if_neg (by omega), show 1 + i - 1 = i by omega]
theorem nsizeSm : (Try.prog.info? 29).map (·.size) = some 32 := by kernel_rfl
set_option maxRecDepth 100000 in
set_option maxHeartbeats 4000000 in
theorem ncompare_any (a b : Rf) (ha : Rw a) (hb : Rw b) (w : World) :
    Calls Try.prog 5 #[.agg (rfC a), .agg (rfC b)] w fun e w' => e = .returned (.int .i64 (cmR a b)) ∧ Gr w w' := by
  have HO : Hid (cmR a b = orR (compareInt (a.1 : Int) (b.1 : Int)) (lexN (dL a.2) (dL b.2))) := (cmR_parts a b).symm
  have HDC : Hid (∀ w : World, Calls Try.prog 13 #[.agg (va 32 (iv .u8 (dF a.2))), .agg (va 32 (iv .u8 (dF b.2)))] w fun e w' => e = .returned (.int .i64 (lexN (dL a.2) (dL b.2))) ∧ Gr w w') := dcompare_any a.2 b.2 ha hb
  have HCC : Hid (∀ w : World, Calls Try.prog 12 #[.int .u32 (a.1 : Int), .int .u32 (b.1 : Int)] w fun e w' => e = .returned (.int .i64 (compareInt (a.1 : Int) (b.1 : Int))) ∧ w' = w) := ccompare_any _ _
  have hS : Gr w ((w.alloc (.cells (rfC a) 31)).alloc (.cells (rfC b) 31)).drew ∧ Blk ((w.alloc (.cells (rfC a) 31)).alloc (.cells (rfC b) 31)).drew w.heap.size 31 (rfC a) ∧ Blk ((w.alloc (.cells (rfC a) 31)).alloc (.cells (rfC b) 31)).drew (w.heap.size + 1) 31 (rfC b) := ⟨(((Gr.refl w).alloc _).alloc _).drew, (Blk.new _ _ _).alloc _, Blk.new1 _ _ _ _⟩
  generalize cmR a b = r at *
  generalize compareInt (a.1 : Int) (b.1 : Int) = x at *
  generalize lexN (dL a.2) (dL b.2) = y at *
  clear ha hb
  go_enter Try.func5, Try.ntmps5
  go_wp2_with fail
  generalize ((w.alloc (.cells (rfC a) 31)).alloc (.cells (rfC b) 31)) = w1 at *
  refine wp_region_planW (fun U => Gr w U ∧ Blk U w.heap.size 31 (rfC a) ∧ Blk U (w.heap.size + 1) 31 (rfC b)) [10, 11, 12] (.yield [] 0 (.yield [] 1 (.yield [] 2 (.yield [] 3 (.yield [] 5 (.yield [] 6 (.yield [] 7 (.yield [] 8 (.force [] 4 (.force [] 9 (.fin []))))))))))) (by kernel_rfl) (by kernel_rfl) hS (planW_yield ?_)
  simp only [List.cons_append, List.nil_append, List.append_nil, List.filterMap_cons, List.filterMap_nil, List.getElem?_toArray, List.getElem?_cons_zero, List.getElem?_cons_succ]
  go_wp2_with fail
  refine ⟨rfl, _, .pointer (some ⟨w.heap.size, 0, none⟩), rfl, Or.inl ⟨by rfl, fun W hW => by go_simp⟩, planW_yield ?_⟩
  simp only [Act.put, List.setIfInBounds_toArray, List.set_cons_zero, List.set_cons_succ]
  simp only [List.cons_append, List.nil_append, List.append_nil, List.filterMap_cons, List.filterMap_nil, List.getElem?_toArray, List.getElem?_cons_zero, List.getElem?_cons_succ]
  go_wp2_with fail
  refine ⟨rfl, _, .int .u32 (a.1 : Int), rfl, Or.inl ⟨by rfl, fun W hW => by have c := nref_c0 hW.2.1; go_simp⟩, planW_yield ?_⟩
  simp only [Act.put, List.setIfInBounds_toArray, List.set_cons_zero, List.set_cons_succ]
  simp only [List.cons_append, List.nil_append, List.append_nil, List.filterMap_cons, List.filterMap_nil, List.getElem?_toArray, List.getElem?_cons_zero, List.getElem?_cons_succ]
  go_wp2_with fail
  refine ⟨rfl, _, .pointer (some ⟨w.heap.size + 1, 0, none⟩), rfl, Or.inl ⟨by rfl, fun W hW => by go_simp⟩, planW_yield ?_⟩
  simp only [Act.put, List.setIfInBounds_toArray, List.set_cons_zero, List.set_cons_succ]
  simp only [List.cons_append, List.nil_append, List.append_nil, List.filterMap_cons, List.filterMap_nil, List.getElem?_toArray, List.getElem?_cons_zero, List.getElem?_cons_succ]
  go_wp2_with fail
  refine ⟨rfl, _, .int .u32 (b.1 : Int), rfl, Or.inl ⟨by rfl, fun W hW => by have c := nref_c0 hW.2.2; go_simp⟩, planW_yield ?_⟩
  simp only [Act.put, List.setIfInBounds_toArray, List.set_cons_zero, List.set_cons_succ]
  simp only [List.cons_append, List.nil_append, List.append_nil, List.filterMap_cons, List.filterMap_nil, List.getElem?_toArray, List.getElem?_cons_zero, List.getElem?_cons_succ]
  go_wp2_with fail
  refine ⟨rfl, _, .pointer (some ⟨w.heap.size, 1, none⟩), rfl, Or.inl ⟨by rfl, fun W hW => by go_simp⟩, planW_yield ?_⟩
  simp only [Act.put, List.setIfInBounds_toArray, List.set_cons_zero, List.set_cons_succ]
  simp only [List.cons_append, List.nil_append, List.append_nil, List.filterMap_cons, List.filterMap_nil, List.getElem?_toArray, List.getElem?_cons_zero, List.getElem?_cons_succ]
  go_wp2_with fail
  refine ⟨rfl, _, .agg (va 32 (iv .u8 (dF a.2))), rfl, nyields_load_at (by rfl) 29 _ (by rfl) (w.heap.size) 1 32 (iv .u8 (dF a.2)) (by rfl) _ (fun W hW => nref_range hW.2.1) Try.underlying29 rfl nsizeSm, planW_yield ?_⟩
  simp only [Act.put, List.setIfInBounds_toArray, List.set_cons_zero, List.set_cons_succ]
  simp only [List.cons_append, List.nil_append, List.append_nil, List.filterMap_cons, List.filterMap_nil, List.getElem?_toArray, List.getElem?_cons_zero, List.getElem?_cons_succ]
  go_wp2_with fail
  refine ⟨rfl, _, .pointer (some ⟨w.heap.size + 1, 1, none⟩), rfl, Or.inl ⟨by rfl, fun W hW => by go_simp⟩, planW_yield ?_⟩
  simp only [Act.put, List.setIfInBounds_toArray, List.set_cons_zero, List.set_cons_succ]
  simp only [List.cons_append, List.nil_append, List.append_nil, List.filterMap_cons, List.filterMap_nil, List.getElem?_toArray, List.getElem?_cons_zero, List.getElem?_cons_succ]
  go_wp2_with fail
  refine ⟨rfl, _, .agg (va 32 (iv .u8 (dF b.2))), rfl, nyields_load_at (by rfl) 29 _ (by rfl) (w.heap.size + 1) 1 32 (iv .u8 (dF b.2)) (by rfl) _ (fun W hW => nref_range hW.2.2) Try.underlying29 rfl nsizeSm, planW_force ?_⟩
  simp only [Act.put, List.setIfInBounds_toArray, List.set_cons_zero, List.set_cons_succ]
  simp only [List.cons_append, List.nil_append, List.append_nil, List.filterMap_cons, List.filterMap_nil, List.getElem?_toArray, List.getElem?_cons_zero, List.getElem?_cons_succ]
  go_wp2_with fail
  refine (HCC.out _).mono ?_
  rintro e u1 ⟨rfl, rfl⟩
  go_wp2_with fail
  refine ⟨rfl, hS, planW_force ?_⟩
  simp only [List.cons_append, List.nil_append, List.append_nil, List.filterMap_cons, List.filterMap_nil, List.getElem?_toArray, List.getElem?_cons_zero, List.getElem?_cons_succ]
  go_wp2_with fail
  refine (HDC.out _).mono ?_
  rintro e u2 ⟨rfl, hg⟩
  go_wp2_with fail
  refine ⟨rfl, ⟨hS.1.trans hg, hg.blk hS.2.1, hg.blk hS.2.2⟩, planW_fin ?_⟩
  simp only [List.cons_append, List.nil_append, List.append_nil, List.filterMap_cons, List.filterMap_nil, List.getElem?_toArray, List.getElem?_cons_zero, List.getElem?_cons_succ]
  have HOR : Hid (Calls Try.prog 11 #[.slice (some ⟨u2.heap.size, 0, none⟩) 2 2] (u2.alloc (.cells #[.int .i64 x, .int .i64 y] 3)) fun e w' => e = .returned (.int .i64 (orR x y)) ∧ w' = u2.alloc (.cells #[.int .i64 x, .int .i64 y] 3)) :=
    or_two x y u2.heap.size _ ((Blk.new u2 3 #[.int .i64 x, .int .i64 y]).cell 0) ((Blk.new u2 3 #[.int .i64 x, .int .i64 y]).cell 1)
  have HGR : Hid (Gr w (u2.alloc (.cells #[.int .i64 x, .int .i64 y] 3))) := (hS.1.trans hg).alloc _
  go_wp2_with fail
  refine HOR.out.mono ?_
  rintro e u3 ⟨rfl, rfl⟩
  go_wp2_with fail
  refine ⟨rfl, ?_⟩
  go_wp2_with fail
  go_ret
  exact ⟨by rw [HO.out] <;> rfl, HGR.out⟩
set_option maxRecDepth 100000 in
set_option maxHeartbeats 4000000 in
theorem rcompareN_any (a b : Rf) (w : World) :
    Calls Try.prog 6 #[.agg (rfC a), .agg (rfC b)] w fun e w' => e = .returned (.int .i64 (cmR a b)) ∧ Gr w w' := by
  have HG : Hid (Gr w ((w.alloc (.cells (rfC a) 27)).alloc (.cells (rfC b) 27))) := (((Gr.refl w).alloc _).alloc _)
  have HA : Hid (∀ i, i < 32 → ∀ n, (((w.alloc (.cells (rfC a) 27)).alloc (.cells (rfC b) 27)).drewN n).cell? ⟨w.heap.size, 1 + i, none⟩ = some (.int .u8 ((dF a.2 i : Nat) : Int))) := fun i hi n => nref_c (k := a) (t := 27) ((Blk.new _ _ _).alloc _) i hi
  have HB : Hid (∀ i, i < 32 → ∀ n, (((w.alloc (.cells (rfC a) 27)).alloc (.cells (rfC b) 27)).drewN n).cell? ⟨w.heap.size + 1, 1 + i, none⟩ = some (.int .u8 ((dF b.2 i : Nat) : Int))) := fun i hi n => nref_c (k := b) (t := 27) (Blk.new1 _ _ _ _) i hi
  have c0 : ((w.alloc (.cells (rfC a) 27)).alloc (.cells (rfC b) 27)).cell? ⟨w.heap.size, 0, none⟩ = some (.int .u32 (a.1 : Int)) := nref_c0 (k := a) (t := 27) ((Blk.new _ _ _).alloc _)
  have c1 : ((w.alloc (.cells (rfC a) 27)).alloc (.cells (rfC b) 27)).cell? ⟨w.heap.size + 1, 0, none⟩ = some (.int .u32 (b.1 : Int)) := nref_c0 (k := b) (t := 27) (Blk.new1 _ _ _ _)
  have HR : Hid (cmR a b = if a.1 < b.1 then -1 else if b.1 < a.1 then 1 else lexN (dL a.2) (dL b.2)) := by
    show _ = _
    unfold cmR rk
    rw [lexN_cons]
  have HD : Hid (∀ i, i < 32 → (∀ j, j < i → dF a.2 j = dF b.2 j) → lexN (dL a.2) (dL b.2) = if dF a.2 i < dF b.2 i then -1 else if dF b.2 i < dF a.2 i then 1 else lexN ((dL a.2).drop (i + 1)) ((dL b.2).drop (i + 1))) := lexD_at a.2 b.2
  have HE : Hid ((∀ j, j < 32 → dF a.2 j = dF b.2 j) → lexN (dL a.2) (dL b.2) = 0) := lexD_eq a.2 b.2
  generalize cmR a b = r at *
  generalize lexN (dL a.2) (dL b.2) = y at *
  generalize hx : a.1 = m at *
  generalize hy : b.1 = k at *
  go_enter Try.func6, Try.ntmps6
  go_upto_region 1 with fail
  generalize ((w.alloc (.cells (rfC a) 27)).alloc (.cells (rfC b) 27)) = w1 at *
  by_cases h1 : m = k
  · have HM : Hid (r = y) := by
      show _ = _
      rw [HR.out, if_neg (by omega), if_neg (by omega)]
    subst h1
    go_wp2_with fail
    go_loopw [5] (fun v U => Hid (∃ i n : Nat, v = .int .i64 (i : Int) ∧ i ≤ 32 ∧ (∀ j, j < i → dF a.2 j = dF b.2 j) ∧ U = w1.drewN n)) (fun v _ => 32 - (intOf v).toNat)
    case atStart => exact ⟨0, 0, rfl, by omega, fun j hj => absurd hj (by omega), rfl⟩
    case round =>
      obtain ⟨i, n, rfl, hi, hj, rfl⟩ := Hid.out hrel
      have HJ : Hid (∀ j, j < i → dF a.2 j = dF b.2 j) := hj
      clear hrel hj
      by_cases hlt : i < 32
      · have ca := HA.out i hlt
        have cb := HB.out i hlt
        have hI : (i : Int) < 32 := by omega
        have hI0 : 0 ≤ (i : Int) := by omega
        have HD' := HD.out i hlt HJ.out
        have HDD : Hid _ := HD'
        clear HD'
        generalize hda : dF a.2 i = p at *
        generalize hdb : dF b.2 i = q at *
        have HPQ : Hid (dF a.2 i = p ∧ dF b.2 i = q) := ⟨hda, hdb⟩
        clear hda hdb
        go_wp2_with fail
        go_quiet (fail)
        go_wp2_with fail
        · rename_i h2
          go_ret
          exact ⟨by rw [HM.out, HDD.out, if_pos h2] <;> rfl, HG.out.trans ⟨_, #[], by rw [grow_empty] <;> simp only [World.drewN_drewN] <;> rfl⟩⟩
        · have HN : Hid (¬ p < q) := by
            show ¬ p < q
            assumption
          go_quiet (fail)
          go_wp2_with fail
          · have h3 : q < p := by assumption
            go_ret
            exact ⟨by rw [HM.out, HDD.out, if_neg HN.out, if_pos h3] <;> rfl, HG.out.trans ⟨_, #[], by rw [grow_empty] <;> simp only [World.drewN_drewN] <;> rfl⟩⟩
          · have h3 : ¬ q < p := by assumption
            have hpq : p = q := by have := HN.out; omega
            go_round
            case rel => exact ⟨i + 1, _, by first | rfl | go_num | simp, by omega, fun j hj => by
              rcases Nat.lt_succ_iff_lt_or_eq.1 hj with h | rfl
              · exact HJ.out j h
              · rw [HPQ.out.1, HPQ.out.2]; exact hpq, by first | rfl | simp only [World.drewN_drewN]⟩
            case measure => simp [intOf]; omega
      · obtain rfl : i = 32 := by omega
        go_wp2_with fail
        go_ret
        exact ⟨by rw [HM.out, HE.out HJ.out] <;> rfl, HG.out.trans ⟨_, #[], by rw [grow_empty] <;> simp only [World.drewN_drewN] <;> rfl⟩⟩
  · have hne : ((m : Int) != (k : Int)) = true := bne_iff_ne.2 (by omega)
    go_wp2_with fail
    · rename_i h2
      go_ret
      exact ⟨by rw [HR.out, if_pos h2] <;> rfl, HG.out⟩
    · rename_i h2
      go_ret
      exact ⟨by rw [HR.out, if_neg h2, if_pos (show k < m by omega)] <;> rfl, HG.out⟩
end Go.Proofs.Ytednfpponkaelaa

namespace Go.Proofs.Ytednfpponkaelaa
open Go.ChangeShapes Go.WideShapes Go.ChangeAt Go.RowKit Go.Joins
set_option linter.unusedVariables false

theorem trod_bytes {H : Type} {enc : TypeId × Value → H} {P : Program} {w : World} {base : Nat} {spare : Nat → Bool} {held : Bool} {t e : TypeId} {n fuel : Nat} {cs : List Value} {x : DataW H × List MemPlace} (ht : P.underlying t = some (.array n e)) (he : P.underlying e = some (.int .u8)) (hce : P.cellsOf e = 1)
    (hf : DataW.trod enc P w base spare held fuel t cs = some x) : ∀ i, i < n → ∃ z : Nat, cs[i]? = some (.int .u8 ((z : Nat) : Int)) ∧ z < 256 := by
  obtain ⟨xs, m, rfl, hx, hl, hn, hall⟩ := DataW.trod_array ht hf
  intro i hi
  have h1 := hall i hi
  have hget : xs[i]? = some xs[i] := List.getElem?_eq_getElem (by omega)
  rw [hget, hce, Nat.mul_one] at h1
  obtain ⟨z, hz, hz2, hz3⟩ := DataW.trod_int he h1
  have hb := bounds_u8 hz3
  refine ⟨z.toNat, ?_, by omega⟩
  have h2 : (cs.drop i).head? = some (.int .u8 z) := by
    cases hd : cs.drop i with
    | nil => rw [hd] at hz; simp at hz
    | cons a l => rw [hd] at hz; simp at hz; rw [hz]; rfl
  rw [List.head?_drop] at h2
  rw [h2]
  congr 2
  omega

end Go.Proofs.Ytednfpponkaelaa
