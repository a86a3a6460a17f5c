/- A tree, a root as arguments, opened: no condition but that they are ones. -/
import Derived.Test.YtalnfphlhcojcaaHSegsS
import Derived.Handy

namespace Go.Proofs.Ytalnfphlhcojcaa
open Go Go.RowKit
set_option linter.unusedSimpArgs false
set_option linter.unusedVariables false

set_option maxRecDepth 100000 in
set_option maxHeartbeats 4000000 in
theorem none_any (r : Rf) (w : World) : Calls Try.prog 51 #[.agg (rfC r)] w fun e w' => e = .returned (.bool (decide (r = rf0))) ∧ Below w.heap.size w w' := by
  have r0 : Blk (w.alloc (.cells (rfC r) 27)) w.heap.size 27 (rfC r) := Blk.new _ _ _
  have hb : Below w.heap.size w (w.alloc (.cells (rfC r) 27)) := below_new1 _ _
  have hz := zero_ref
  have hq : ∀ W, (Op.equalIn 10000 27 (.agg (rfC r)) (.agg (rfC rf0))).run Try.prog W = .ok (decide (r = rf0)) W := eq_ref 9997 r rf0
  obtain ⟨b, hbd⟩ : ∃ b, b = decide (r = rf0) := ⟨_, rfl⟩
  rw [← hbd] at hq ⊢
  clear hbd
  go_enter Try.func51, Try.ntmps51
  go_wp2_with (first
    | (refine wpList_load_rowg (by rfl) 27 _ (by rfl) (w.heap.size) (by rfl) 27 (rfC r) (0, 0) _ (by exact r0) Try.underlying27 (by rfl) (slSizeRef.trans (by rw [rfC_size])) ?_; simp only [Act.put, List.setIfInBounds_toArray, List.set_cons_zero, List.set_cons_succ])
    | fail)
  go_ret
  exact ⟨rfl, hb⟩
set_option maxRecDepth 100000 in
set_option maxHeartbeats 4000000 in
theorem right_any (r : Rf) (w : World) : Calls Try.prog 49 #[.agg (rfC r)] w fun e w' => e = .returned (.bool (rOk r)) ∧ Below w.heap.size w w' := by
  have r0 : Blk (w.alloc (.cells (rfC r) 27)) w.heap.size 27 (rfC r) := Blk.new _ _ _
  have hb : Below w.heap.size w (w.alloc (.cells (rfC r) 27)) := below_new1 _ _
  have hsz : (w.alloc (.cells (rfC r) 27)).heap.size = w.heap.size + 1 := by simp
  have hn : Hid (∀ w, Calls Try.prog 51 #[.agg (rfC r)] w fun e w' => e = .returned (.bool (decide (r = rf0))) ∧ Below w.heap.size w w') := none_any r
  have hx : (w.alloc (.cells (rfC r) 27)).cell? ⟨w.heap.size, 0, none⟩ = some (.int .u32 (r.1 : Int)) := by
    rw [r0.cell]
    exact va_at (rfF r.1 r.2) (by decide)
  have HO : Hid (rOk r = (decide (r = rf0) || decide (r.1 ≠ 0))) := rfl
  obtain ⟨b, hbd⟩ : ∃ b, b = decide (r = rf0) := ⟨_, rfl⟩
  obtain ⟨n, hnd⟩ : ∃ n, n = r.1 := ⟨_, rfl⟩
  rw [← hbd] at hn HO
  rw [← hnd] at hx HO
  clear hbd hnd
  go_enter Try.func49, Try.ntmps49
  go_wp2_with (first
    | (refine wpList_load_rowg (by rfl) 27 _ (by rfl) (w.heap.size) (by rfl) 27 (rfC r) (0, 0) _ (by exact r0) Try.underlying27 (by rfl) (slSizeRef.trans (by rw [rfC_size])) ?_; simp only [Act.put, List.setIfInBounds_toArray, List.set_cons_zero, List.set_cons_succ])
    | fail)
  generalize (w.alloc (.cells (rfC r) 27)) = w1 at *
  refine (hn.out w1).mono ?_
  rintro e w2 ⟨rfl, hb2⟩
  have r2 : Blk w2 w.heap.size 27 (rfC r) := r0.below hb2 (by omega)
  have hx2 : w2.cell? ⟨w.heap.size, 0, none⟩ = some (.int .u32 (n : Int)) := by
    rw [← hx, r2.cell, r0.cell]
  have hb3 : Below w.heap.size w w2 := hb.trans (hb2.mono (by omega))
  clear hn hx r0 hb hb2 r2
  cases b
  · go_wp2_with fail
    go_ret
    refine ⟨?_, hb3⟩
    rw [HO.out]
    by_cases h0 : n = 0
    · subst h0
      rfl
    · have : ¬ (n : Int) = 0 := by omega
      simp [h0, this]
  · go_wp2_with fail
    go_ret
    refine ⟨?_, hb3⟩
    rw [HO.out]
    rfl
theorem enc_lo (r : Rf) (hr : okD r.2) : strN (dig r.1) 4 ++ strN (dF r.2) 32 = strN (encR r) 36 := by
  have e := strN_append (encR r) 4 32 fun j hj => encR_lt r hr j hj
  have e1 : strN (encR r) 4 = strN (dig r.1) 4 := strN_congr fun j hj => by
    unfold encR
    rw [if_pos hj]
  have e2 : strN (fun j => encR r (4 + j)) 32 = strN (dF r.2) 32 := strN_congr fun j hj => by
    unfold encR
    rw [if_neg (by omega), show 4 + j - 4 = j by omega]
  rw [e1, e2] at e
  exact e
set_option maxRecDepth 100000 in
set_option maxHeartbeats 4000000 in
theorem encR_any (r : Rf) (hr : okD r.2) (w : World) : Calls Try.prog 23 #[.agg (rfC r)] w fun e w' => e = .returned (.string (strN (encR r) 36)) ∧ Below w.heap.size w w' := by
  have r0 : Blk (w.alloc (.cells (rfC r) 27)) w.heap.size 27 (rfC r) := Blk.new _ _ _
  have hb : Below w.heap.size w (w.alloc (.cells (rfC r) 27)) := below_new1 _ _
  have hx : (w.alloc (.cells (rfC r) 27)).cell? ⟨w.heap.size, 0, none⟩ = some (.int .u32 (r.1 : Int)) := by
    rw [r0.cell]
    exact va_at (rfF r.1 r.2) (by decide)
  have hsz : (w.alloc (.cells (rfC r) 27)).heap.size = w.heap.size + 1 := by simp
  go_enter Try.func23, Try.ntmps23
  go_wp2_with fail
  generalize (w.alloc (.cells (rfC r) 27)) = w1 at *
  refine (bytes32_va r.1 w1).mono ?_
  rintro e w2 ⟨rfl, hb2⟩
  have hs2 := hb2.size
  have r2 : Blk w2 w.heap.size 27 (rfC r) := r0.below hb2 (by omega)
  have hb3 : Below w.heap.size w w2 := hb.trans (hb2.mono (by omega))
  have z4 : (Try.prog.info? 80).map (·.size) = some 4 := by kernel_rfl
  clear r0 hb hx hb2
  have r3 : Blk (w2.alloc (.cells (va 4 (iv .u8 fun _ => 0)) 80)) w.heap.size 27 (rfC r) := r2.alloc _
  have q3 : Blk (w2.alloc (.cells (va 4 (iv .u8 fun _ => 0)) 80)) w2.heap.size 80 (va 4 (iv .u8 fun _ => 0)) := Blk.new _ _ _
  have hb4 : Below w.heap.size w (w2.alloc (.cells (va 4 (iv .u8 fun _ => 0)) 80)) := hb3.alloc (by omega) _
  have hz : ∀ w, (zeroValue 80).run Try.prog w = .ok (.agg (va 4 (iv .u8 fun _ => 0))) w := zero_of (by kernel_rfl)
  go_wp2_with (first
    | (refine wpList_store_row (by rfl) 80 _ _ (by rfl) (w2.heap.size) (va 4 (iv .u8 (dig r.1))) (by rfl) (by rfl) 80 (va 4 (iv .u8 fun _ => 0)) (by exact q3) (z4.trans (by rw [va_size])) (by simp only [va_size]) (iv_one _ _ _) ?_; simp only [Act.put, List.setIfInBounds_toArray, List.set_cons_zero, List.set_cons_succ])
    | fail)
  have r5 : Blk ((w2.alloc (.cells (va 4 (iv .u8 fun _ => 0)) 80)).setRow w2.heap.size (va 4 (iv .u8 (dig r.1)))) w.heap.size 27 (va 33 (rfF r.1 r.2)) := r3.other _ (by omega)
  have q5 : Blk ((w2.alloc (.cells (va 4 (iv .u8 fun _ => 0)) 80)).setRow w2.heap.size (va 4 (iv .u8 (dig r.1)))) w2.heap.size 80 (va 4 (iv .u8 (dig r.1))) := q3.set _
  have hb5 : Below w.heap.size w ((w2.alloc (.cells (va 4 (iv .u8 fun _ => 0)) 80)).setRow w2.heap.size (va 4 (iv .u8 (dig r.1)))) := below_setRow hb4 (by omega) _
  clear r3 q3 hb4 r2 hb3
  generalize ((w2.alloc (.cells (va 4 (iv .u8 fun _ => 0)) 80)).setRow w2.heap.size (va 4 (iv .u8 (dig r.1)))) = w5 at *
  have hc1 : ∀ W, Blk W w2.heap.size 80 (va 4 (iv .u8 (dig r.1))) → (convert 48 9 (.slice (some ⟨w2.heap.size, 0, none⟩) 4 4)).run Try.prog W = .ok (.string (strN (dig r.1) 4)) W := fun W hW => by
    have := run_bytes_text (P := Try.prog) W 48 5 9 Try.underlying48 Try.underlying5 Try.underlying9 hW 0 4 4 (by omega)
    rwa [show (fun j => dig r.1 (0 + j)) = dig r.1 by funext j; rw [Nat.zero_add]] at this
  have hc2 : ∀ W, Blk W w.heap.size 27 (va 33 (rfF r.1 r.2)) → (convert 48 9 (.slice (some ⟨w.heap.size, 1, none⟩) 32 32)).run Try.prog W = .ok (.string (strN (dF r.2) 32)) W := fun W hW => by
    exact run_convert_bytes_arg W 48 5 Try.underlying48 Try.underlying5 w.heap.size 1 32 32 _ (by simp) (fun i hi => by
      rw [hW.cv (i := 1 + i) (by omega)]
      unfold rfF
      rw [if_neg (by omega), show 1 + i - 1 = i by omega]
      simp [List.getD_eq_getElem?_getD, hi]) 9 Try.underlying9
  have h1 := hc1 w5.drew q5.drew
  have h2 := hc2 w5.drew r5.drew
  have he := enc_lo r hr
  have z1 : (strN (dig r.1) 4).size = 4 := strN_size _ _
  have z2 : (strN (dF r.2) 32).size = 32 := strN_size _ _
  generalize strN (dig r.1) 4 = t1 at *
  generalize strN (dF r.2) 32 = t2 at *
  clear hc1 hc2 q5 r5
  refine wp_region_partsS (fun W => W = w5.drew) [([], 0, true), ([], 1, true), ([], 2, false), ([], 3, false), ([], 4, false), ([], 5, false)] [] [6] (by kernel_rfl) (by kernel_rfl) rfl (partsI_yield ?_)
  simp only [List.cons_append, List.nil_append, List.append_nil, List.filterMap_cons, List.filterMap_nil, List.getElem?_toArray, List.getElem?_cons_zero, List.getElem?_cons_succ]
  go_wp2_with fail
  refine ⟨rfl, _, .slice (some ⟨w2.heap.size, 0, none⟩) 4 4, rfl, Or.inl ⟨by rfl, fun W hW => by go_simp⟩, partsI_yield ?_⟩
  simp only [Act.put, List.setIfInBounds_toArray, List.set_cons_zero, List.set_cons_succ]
  simp only [List.cons_append, List.nil_append, List.append_nil, List.filterMap_cons, List.filterMap_nil, List.getElem?_toArray, List.getElem?_cons_zero, List.getElem?_cons_succ]
  go_wp2_with fail
  refine ⟨rfl, _, .string t1, rfl, Or.inl ⟨by rfl, fun W hW => by rw [hW]; go_simp⟩, partsI_force ?_⟩
  simp only [Act.put, List.setIfInBounds_toArray, List.set_cons_zero, List.set_cons_succ]
  simp only [List.cons_append, List.nil_append, List.append_nil, List.filterMap_cons, List.filterMap_nil, List.getElem?_toArray, List.getElem?_cons_zero, List.getElem?_cons_succ]
  go_wp2_with fail
  refine ⟨rfl, rfl, partsI_force ?_⟩
  simp only [List.cons_append, List.nil_append, List.append_nil, List.filterMap_cons, List.filterMap_nil, List.getElem?_toArray, List.getElem?_cons_zero, List.getElem?_cons_succ]
  go_wp2_with fail
  refine ⟨rfl, rfl, partsI_force ?_⟩
  simp only [List.cons_append, List.nil_append, List.append_nil, List.filterMap_cons, List.filterMap_nil, List.getElem?_toArray, List.getElem?_cons_zero, List.getElem?_cons_succ]
  go_wp2_with fail
  refine ⟨rfl, rfl, partsI_force ?_⟩
  simp only [List.cons_append, List.nil_append, List.append_nil, List.filterMap_cons, List.filterMap_nil, List.getElem?_toArray, List.getElem?_cons_zero, List.getElem?_cons_succ]
  go_wp2_with fail
  refine ⟨rfl, rfl, partsI_last ?_⟩
  simp only [List.cons_append, List.nil_append, List.append_nil, List.filterMap_cons, List.filterMap_nil, List.getElem?_toArray, List.getElem?_cons_zero, List.getElem?_cons_succ]
  go_wp2_with fail
  refine ⟨rfl, ?_⟩
  go_wp2_with fail
  go_ret
  exact ⟨rfl, hb5.drew⟩
/-- the reference that stands in a text -/
def decR (s : ByteArray) (a : Nat) : Rf := (at4 s a, sumD fun i => tbyte s (a + 4 + i))
theorem decR_ok (s : ByteArray) (a : Nat) : okD (decR s a).2 := fun i hi => by
  have e : dF (decR s a).2 i = tbyte s (a + 4 + i) := dF_sumD (fun i => tbyte s (a + 4 + i)) i hi
  rw [e]
  exact tbyte_lt s (a + 4 + i)
theorem decR_cells (n : Nat) (f : Nat → Nat) : (splice ((rfC rf0).setIfInBounds 0 (.int .u32 (n : Int))).toList 1 (byL f 32)).toArray = rfC (n, sumD f) := by
  unfold rfC
  rw [va_set, va_toList]
  refine Eq.trans (by rfl) ((splice_va 33 1 32 _ (fun j => Value.int .u8 ((f j : Nat) : Int)) (by decide)).trans ?_)
  refine va_congr fun i hi => ?_
  by_cases h2 : 1 ≤ i ∧ i < 1 + 32
  · have e1 : rfF (n, sumD f).1 (n, sumD f).2 i = .int .u8 ((f (i - 1) : Nat) : Int) := by
      unfold rfF
      rw [if_neg (by omega), show dF (n, sumD f).2 (i - 1) = f (i - 1) from dF_sumD f _ (by omega)]
    rw [e1]
    unfold overF
    rw [if_pos h2]
  · unfold overF upd
    rw [if_neg h2]
    have h0 : i = 0 := by omega
    subst h0
    rfl
set_option maxRecDepth 100000 in
set_option maxHeartbeats 4000000 in
theorem decodeR_good (s : ByteArray) (a : Nat) (hs : s.size ≤ maxLen) (h : a + 36 ≤ s.size) (w : World) : Calls Try.prog 45 #[.string s, .int .i64 (a : Int)] w fun e w' => e = .returned (.tuple #[.agg (rfC (if rOk (decR s a) then decR s a else rf0)), .bool (rOk (decR s a))]) ∧ Below w.heap.size w w' := by
  have hT : Hid (∀ w : World, Calls Try.prog 48 #[.string s, .int .i64 (a : Int)] w fun e w' => e = .returned (.tuple #[.int .u32 (at4 s a : Int), .bool true]) ∧ Below w.heap.size w w') := fun w => take32_yes s a hs (by omega) w
  unfold maxLen at hs
  have hz := zero_ref
  have r0 : Blk ((w.alloc (.cells (rfC rf0) 27)).alloc (.cells (rfC rf0) 27)) w.heap.size 27 (rfC rf0) := (Blk.new _ _ _).alloc _
  have r1 : Blk ((w.alloc (.cells (rfC rf0) 27)).alloc (.cells (rfC rf0) 27)) (w.heap.size + 1) 27 (rfC rf0) := Blk.new1 _ _ _ _
  have hb : Below w.heap.size w ((w.alloc (.cells (rfC rf0) 27)).alloc (.cells (rfC rf0) 27)) := below_new2 _ _ _
  have hsz : ((w.alloc (.cells (rfC rf0) 27)).alloc (.cells (rfC rf0) 27)).heap.size = w.heap.size + 2 := by simp
  have HDC : Hid ((splice ((rfC rf0).setIfInBounds 0 (.int .u32 ((at4 s a : Nat) : Int))).toList 1 (byL (tbyte (s.extract (a + 4) s.size)) 32)).toArray = rfC (decR s a)) := by
    rw [byL_congr (f := tbyte (s.extract (a + 4) s.size)) (g := fun i => tbyte s (a + 4 + i)) fun i hi => tbyte_extract s (a + 4) s.size i (Nat.le_refl _) (by omega)]
    exact decR_cells _ _
  have HS : (s.extract (a + 4) s.size).size = s.size - (a + 4) := extract_size s (a + 4) s.size (Nat.le_refl _)
  obtain ⟨X, hX⟩ : ∃ X, X = decR s a := ⟨_, rfl⟩
  obtain ⟨n4, hn4⟩ : ∃ n4, n4 = at4 s a := ⟨_, rfl⟩
  rw [← hX] at HDC
  rw [← hX]
  rw [← hn4] at HDC hT
  clear hX hn4
  have HR : Hid (∀ w, Calls Try.prog 49 #[.agg (rfC X)] w fun e w' => e = .returned (.bool (rOk X)) ∧ Below w.heap.size w w') := right_any X
  generalize rOk X = b at *
  go_enter Try.func45, Try.ntmps45
  go_wp2_with fail
  generalize ((w.alloc (.cells (rfC rf0) 27)).alloc (.cells (rfC rf0) 27)) = w0 at *
  refine (hT.out w0).mono ?_
  rintro e w1 ⟨rfl, hb1⟩
  have hs1 := hb1.size
  have r0' : Blk w1 w.heap.size 27 (rfC rf0) := r0.below hb1 (by omega)
  have r1' : Blk w1 (w.heap.size + 1) 27 (rfC rf0) := r1.below hb1 (by omega)
  have hb' : Below w.heap.size w w1 := hb.trans (hb1.mono (by omega))
  have f1 : w1.frozen? ⟨w.heap.size + 1, 0, none⟩ = false := r1'.frozen 0
  have d1 : w1.cell? ⟨w.heap.size + 1, 0, none⟩ = some (.int .u32 0) := by
    rw [r1'.cell]
    exact va_at (rfF rf0.1 rf0.2) (by decide)
  clear r0 r1 hb hb1 hT
  go_wp2_with fail
  have r2 : Blk (w1.setCell ⟨w.heap.size + 1, 0, none⟩ (.int .u32 (n4 : Int))) (w.heap.size + 1) 27 ((rfC rf0).setIfInBounds 0 (.int .u32 (n4 : Int))) := r1'.put 0 _
  have q2 : Blk (w1.setCell ⟨w.heap.size + 1, 0, none⟩ (.int .u32 (n4 : Int))) w.heap.size 27 (rfC rf0) := r0'.put_other _ _ (by omega)
  have hb2 : Below w.heap.size w (w1.setCell ⟨w.heap.size + 1, 0, none⟩ (.int .u32 (n4 : Int))) := hb'.setCell (by show w.heap.size ≤ w.heap.size + 1; omega) _
  have hs2 : (w1.setCell ⟨w.heap.size + 1, 0, none⟩ (.int .u32 (n4 : Int))).heap.size = w1.heap.size := World.size_setCell _ _ _
  clear r1' r0' hb' f1 d1
  generalize (w1.setCell ⟨w.heap.size + 1, 0, none⟩ (.int .u32 (n4 : Int))) = w2 at *
  have z1 : (a : Int) + 4 ≤ (s.size : Int) := by omega
  refine wp_region_partsS (fun _ => True) [([2, 3], 0, true), ([], 1, true), ([], 4, false), ([], 5, false)] [] [6] (by kernel_rfl) (by kernel_rfl) trivial (partsI_yield ?_)
  simp only [List.cons_append, List.nil_append, List.append_nil, List.filterMap_cons, List.filterMap_nil, List.getElem?_toArray, List.getElem?_cons_zero, List.getElem?_cons_succ]
  go_wp2_with fail
  refine ⟨rfl, _, .pointer (some ⟨w.heap.size + 1, 1, none⟩), rfl, Or.inl ⟨by rfl, fun W hW => by go_simp⟩, partsI_yield ?_⟩
  simp only [Act.put, List.setIfInBounds_toArray, List.set_cons_zero, List.set_cons_succ]
  simp only [List.cons_append, List.nil_append, List.append_nil, List.filterMap_cons, List.filterMap_nil, List.getElem?_toArray, List.getElem?_cons_zero, List.getElem?_cons_succ]
  go_wp2_with fail
  refine ⟨rfl, _, .slice (some ⟨w.heap.size + 1, 1, none⟩) 32 32, rfl, Or.inl ⟨by rfl, fun W hW => by go_simp⟩, partsI_force ?_⟩
  simp only [Act.put, List.setIfInBounds_toArray, List.set_cons_zero, List.set_cons_succ]
  simp only [List.cons_append, List.nil_append, List.append_nil, List.filterMap_cons, List.filterMap_nil, List.getElem?_toArray, List.getElem?_cons_zero, List.getElem?_cons_succ]
  go_wp2_with fail
  refine ⟨rfl, trivial, partsI_force ?_⟩
  simp only [List.cons_append, List.nil_append, List.append_nil, List.filterMap_cons, List.filterMap_nil, List.getElem?_toArray, List.getElem?_cons_zero, List.getElem?_cons_succ]
  go_wp2_with fail
  refine ⟨rfl, trivial, partsI_last ?_⟩
  simp only [List.cons_append, List.nil_append, List.append_nil, List.filterMap_cons, List.filterMap_nil, List.getElem?_toArray, List.getElem?_cons_zero, List.getElem?_cons_succ]
  refine wpList_copy_text rfl _ _ 48 9 rfl 5 Try.underlying48 ksizeU8 (w.heap.size + 1) 1 32 32 (s.extract (a + 4) s.size) rfl rfl ((rfC rf0).setIfInBounds 0 (.int .u32 (n4 : Int))) 27 r2.drew 32 (by rw [HS]; show 32 = min (s.size - (a + 4)) 32; omega) (by rw [Array.size_setIfInBounds, rfC_size]; omega) ?_
  rw [HDC.out]
  simp only [Act.put, List.setIfInBounds_toArray, List.set_cons_zero, List.set_cons_succ]
  go_wp2_with fail
  refine ⟨rfl, ?_⟩
  have r4 : Blk (w2.drew.setRow (w.heap.size + 1) (rfC X)) (w.heap.size + 1) 27 (rfC X) := r2.drew.set _
  have q4 : Blk (w2.drew.setRow (w.heap.size + 1) (rfC X)) w.heap.size 27 (rfC rf0) := q2.drew.other _ (by omega)
  have hb4 : Below w.heap.size w (w2.drew.setRow (w.heap.size + 1) (rfC X)) := below_setRow hb2.drew (by omega) _
  have hs4 : (w2.drew.setRow (w.heap.size + 1) (rfC X)).heap.size = w2.heap.size := by simp
  clear HDC r2 q2 hb2 HS
  generalize (w2.drew.setRow (w.heap.size + 1) (rfC X)) = w4 at *
  go_wp2_with (first
    | (refine wpList_load_rowg (by rfl) 27 _ (by rfl) (w.heap.size + 1) (by rfl) 27 (rfC X) (0, 0) _ (by exact r4) Try.underlying27 (by rfl) (slSizeRef.trans (by rw [rfC_size])) ?_; simp only [Act.put, List.setIfInBounds_toArray, List.set_cons_zero, List.set_cons_succ])
    | fail)
  refine (HR.out w4).mono ?_
  rintro e w5 ⟨rfl, hb5⟩
  have r5 : Blk w5 (w.heap.size + 1) 27 (rfC X) := r4.below hb5 (by omega)
  have q5 : Blk w5 w.heap.size 27 (rfC rf0) := q4.below hb5 (by omega)
  have hb6 : Below w.heap.size w w5 := hb4.trans (hb5.mono (by omega))
  clear r4 q4 hb4 hb5 hs4
  cases b
  · go_wp2_with (first
      | (refine wpList_store_row (by rfl) 27 _ _ (by rfl) (w.heap.size) (rfC rf0) (by rfl) (by rfl) 27 (_) (by exact q5) (slSizeRef.trans (by rw [rfC_size])) (by simp only [rfC_size]) (rfC_all _) ?_; simp only [Act.put, List.setIfInBounds_toArray, List.set_cons_zero, List.set_cons_succ])
      | fail)
    try simp only [Exit.inBlock, Exit.then]
    refine bodyPost_ret (results_row2 Try.results45 _ _ (w.heap.size) 27 (rfC rf0) (0, 0) _ rfl (q5.set _) Try.underlying27 rfl (slSizeRef.trans (by rw [rfC_size]))) rfl ?_
    exact ⟨rfl, below_setRow hb6 (Nat.le_refl _) _⟩
  · go_wp2_with (first
      | (refine wpList_load_rowg (by rfl) 27 _ (by rfl) (w.heap.size + 1) (by rfl) 27 (rfC X) (0, 0) _ (by exact r5) Try.underlying27 (by rfl) (slSizeRef.trans (by rw [rfC_size])) ?_; simp only [Act.put, List.setIfInBounds_toArray, List.set_cons_zero, List.set_cons_succ])
      | (refine wpList_store_row (by rfl) 27 _ _ (by rfl) (w.heap.size) (rfC X) (by rfl) (by rfl) 27 (_) (by exact q5) (slSizeRef.trans (by rw [rfC_size])) (by simp only [rfC_size]) (rfC_all _) ?_; simp only [Act.put, List.setIfInBounds_toArray, List.set_cons_zero, List.set_cons_succ])
      | fail)
    try simp only [Exit.inBlock, Exit.then]
    refine bodyPost_ret (results_row2 Try.results45 _ _ (w.heap.size) 27 (rfC X) (0, 0) _ rfl (q5.set _) Try.underlying27 rfl (slSizeRef.trans (by rw [rfC_size]))) rfl ?_
    exact ⟨rfl, below_setRow hb6 (Nat.le_refl _) _⟩
end Go.Proofs.Ytalnfphlhcojcaa

namespace Go.Proofs.Ytalnfphlhcojcaa
open Go Go.RowKit
set_option linter.unusedSimpArgs false
set_option linter.unusedVariables false
def tiF (h : Int) (r : Rf) : Nat → Value := fun i => if i = 0 then .int .i64 h else rfF r.1 r.2 (i - 1)
def tiC (h : Int) (r : Rf) : Array Value := va 34 (tiF h r)
theorem tiC_size (h : Int) (r : Rf) : (tiC h r).size = 34 := va_size _ _
theorem tiF_one (h : Int) (r : Rf) (i : Nat) : (tiF h r i).oneCell' = true := by
  unfold tiF
  split
  · rfl
  · exact rfF_one _ _ _
theorem ti_ref (h : Int) (r : Rf) : (tiC h r).extract 1 (1 + 33) = rfC r := by
  unfold tiC rfC
  rw [va_extract 34 1 33 _ (by decide)]
  refine va_congr fun i hi => ?_
  unfold tiF
  rw [if_neg (by omega), show 1 + i - 1 = i by omega]
theorem sizeTi : (Try.prog.info? 29).map (·.size) = some 34 := by kernel_rfl
theorem sizeRTr : (Try.prog.info? 43).map (·.size) = some 34 := by kernel_rfl
theorem sizeRRf : (Try.prog.info? 41).map (·.size) = some 33 := by kernel_rfl
/-- fields compared one by one -/
theorem eqF_cons {P : Program} {w : World} {d : Nat} {f : Field} {fs : List Field} {t o : Nat} {cs ds : Array Value} {x y : Value} {b B : Bool} (hf : (f.name == "_", f.type, f.offset) = (false, t, o)) (p : (part t cs o).run P w = .ok x w) (q : (part t ds o).run P w = .ok y w)
    (h : (Op.equalIn d t x y).run P w = .ok b w) (hr : (Op.eqFields d cs ds fs).run P w = .ok B w) : (Op.eqFields d cs ds (f :: fs)).run P w = .ok (b && B) w := by
  simp only [Prod.mk.injEq] at hf
  obtain ⟨n1, rfl, rfl⟩ := hf
  have n1' : f.name ≠ "_" := by simpa using n1
  unfold Op.eqFields
  rw [if_pos n1']
  simp only [Sem.run_bind, p, q, Result.andThen_ok, h]
  cases b
  · simp
  · simp only [Bool.not_true, Bool.false_eq_true, if_false, hr, Bool.true_and]
theorem eq_rrf (d : Nat) (a b : Rf) (w : World) : (Op.equalIn (d + 1 + 1 + 1) 41 (.agg (rfC a)) (.agg (rfC b))).run Try.prog w = .ok (decide (a = b)) w := by
  have h1 : (Op.equalIn (d + 1 + 1) 23 (.int .u32 (a.1 : Int)) (.int .u32 (b.1 : Int))).run Try.prog w = .ok ((a.1 : Int) == (b.1 : Int)) w := by simp [Op.equalIn, run_underlying Try.underlying23]
  have h2 := eq_digAt d 24 Try.underlying24 a.2 b.2 w
  have hd : decide (a = b) = (((a.1 : Int) == (b.1 : Int)) && decide (a.2 = b.2)) := by
    obtain ⟨a1, a2⟩ := a
    obtain ⟨b1, b2⟩ := b
    rw [Bool.eq_iff_iff]
    simp only [decide_eq_true_eq, Bool.and_eq_true, beq_iff_eq, Prod.mk.injEq]
    constructor
    · rintro ⟨h, k⟩
      exact ⟨by omega, k⟩
    · rintro ⟨h, k⟩
      exact ⟨by omega, k⟩
  rw [hd]
  have p1 : (part 23 (rfC a) 0).run Try.prog w = .ok (.int .u32 ((a.1 : Nat) : Int)) w := part_int _ _ Try.underlying23 _ _ _ (va_at (rfF a.1 a.2) (by decide)) w
  have q1 : (part 23 (rfC b) 0).run Try.prog w = .ok (.int .u32 ((b.1 : Nat) : Int)) w := part_int _ _ Try.underlying23 _ _ _ (va_at (rfF b.1 b.2) (by decide)) w
  have p2 : (part 24 (rfC a) 1).run Try.prog w = .ok (dK a.2) w := part_sum32 a.1 a.2 w
  have q2 : (part 24 (rfC b) 1).run Try.prog w = .ok (dK b.2) w := part_sum32 b.1 b.2 w
  generalize rfC a = cs at *
  generalize rfC b = ds at *
  have hu : Try.prog.underlying 41 = some (.struct (Try.prog.fieldsOf 41)) := by kernel_rfl
  have hp : Try.prog.stoodInHeld 41 = false := by kernel_rfl
  have hf : (Try.prog.fieldsOf 41).toList.map (fun f => (f.name == "_", f.type, f.offset)) = [(false, 23, 0), (false, 24, 1)] := by kernel_rfl
  exact run_eq_two hu hp hf p1 q1 p2 q2 h1 h2
end Go.Proofs.Ytalnfphlhcojcaa

namespace Go.Proofs.Ytalnfphlhcojcaa
open Go Go.RowKit
set_option linter.unusedSimpArgs false
set_option linter.unusedVariables false
/-- the least height of a tree whose leaves hold a things each, for n things -/
def hL (a n : Int) : Int := if n ≤ a then 0 else if n ≤ 4 * a then 1 else if n ≤ 16 * a then 2 else if n ≤ 64 * a then 3 else if n ≤ 256 * a then 4 else if n ≤ 1024 * a then 5 else 6
theorem hL_lt (a n : Int) : 0 ≤ hL a n ∧ hL a n ≤ 6 := by
  unfold hL
  split
  · decide
  · split
    · decide
    · split
      · decide
      · split
        · decide
        · split
          · decide
          · split <;> decide
set_option maxHeartbeats 4000000 in
theorem rleast (n : Int) (h0 : -9223372036854775808 ≤ n) (hn : n ≤ 4096) (w : World) : Calls Try.prog 16 #[.int .i64 n] w fun e w' => e = .returned (.int .i64 (hL 1 n)) ∧ w' = w := by
  by_cases c0 : n ≤ 1
  · have HE : Hid (hL 1 n = 0) := by show hL 1 n = 0; unfold hL; rw [if_pos (by omega)]
    have s0 : ¬ ((1 : Int) < n) := by omega
    clear hn c0
    rw [HE.out]
    clear HE
    go_enter Try.func16, Try.ntmps16
    go_wp2
    go_rounds 1
    go_returns
    exact ⟨by simp, rfl⟩
  · skip
    by_cases c1 : n ≤ 4
    · have HE : Hid (hL 1 n = 1) := by show hL 1 n = 1; unfold hL; rw [if_neg (by omega)]; rw [if_pos (by omega)]
      have s0 : ¬ ((4 : Int) < n) := by omega
      have g0 : (1 : Int) < n := by omega
      clear hn c0 c1
      rw [HE.out]
      clear HE
      go_enter Try.func16, Try.ntmps16
      go_wp2
      go_rounds 2
      go_returns
      exact ⟨by simp, rfl⟩
    · skip
      by_cases c2 : n ≤ 16
      · have HE : Hid (hL 1 n = 2) := by show hL 1 n = 2; unfold hL; rw [if_neg (by omega)]; rw [if_neg (by omega)]; rw [if_pos (by omega)]
        have s0 : ¬ ((16 : Int) < n) := by omega
        have g0 : (1 : Int) < n := by omega
        have g1 : (4 : Int) < n := by omega
        clear hn c0 c1 c2
        rw [HE.out]
        clear HE
        go_enter Try.func16, Try.ntmps16
        go_wp2
        go_rounds 3
        go_returns
        exact ⟨by simp, rfl⟩
      · skip
        by_cases c3 : n ≤ 64
        · have HE : Hid (hL 1 n = 3) := by show hL 1 n = 3; unfold hL; rw [if_neg (by omega)]; rw [if_neg (by omega)]; rw [if_neg (by omega)]; rw [if_pos (by omega)]
          have s0 : ¬ ((64 : Int) < n) := by omega
          have g0 : (1 : Int) < n := by omega
          have g1 : (4 : Int) < n := by omega
          have g2 : (16 : Int) < n := by omega
          clear hn c0 c1 c2 c3
          rw [HE.out]
          clear HE
          go_enter Try.func16, Try.ntmps16
          go_wp2
          go_rounds 4
          go_returns
          exact ⟨by simp, rfl⟩
        · skip
          by_cases c4 : n ≤ 256
          · have HE : Hid (hL 1 n = 4) := by show hL 1 n = 4; unfold hL; rw [if_neg (by omega)]; rw [if_neg (by omega)]; rw [if_neg (by omega)]; rw [if_neg (by omega)]; rw [if_pos (by omega)]
            have s0 : ¬ ((256 : Int) < n) := by omega
            have g0 : (1 : Int) < n := by omega
            have g1 : (4 : Int) < n := by omega
            have g2 : (16 : Int) < n := by omega
            have g3 : (64 : Int) < n := by omega
            clear hn c0 c1 c2 c3 c4
            rw [HE.out]
            clear HE
            go_enter Try.func16, Try.ntmps16
            go_wp2
            go_rounds 5
            go_returns
            exact ⟨by simp, rfl⟩
          · skip
            by_cases c5 : n ≤ 1024
            · have HE : Hid (hL 1 n = 5) := by show hL 1 n = 5; unfold hL; rw [if_neg (by omega)]; rw [if_neg (by omega)]; rw [if_neg (by omega)]; rw [if_neg (by omega)]; rw [if_neg (by omega)]; rw [if_pos (by omega)]
              have s0 : ¬ ((1024 : Int) < n) := by omega
              have g0 : (1 : Int) < n := by omega
              have g1 : (4 : Int) < n := by omega
              have g2 : (16 : Int) < n := by omega
              have g3 : (64 : Int) < n := by omega
              have g4 : (256 : Int) < n := by omega
              clear hn c0 c1 c2 c3 c4 c5
              rw [HE.out]
              clear HE
              go_enter Try.func16, Try.ntmps16
              go_wp2
              go_rounds 6
              go_returns
              exact ⟨by simp, rfl⟩
            · skip
              have HE : Hid (hL 1 n = 6) := by show hL 1 n = 6; unfold hL; rw [if_neg (by omega)]; rw [if_neg (by omega)]; rw [if_neg (by omega)]; rw [if_neg (by omega)]; rw [if_neg (by omega)]; rw [if_neg (by omega)]
              have s0 : ¬ ((4096 : Int) < n) := by omega
              have g0 : (1 : Int) < n := by omega
              have g1 : (4 : Int) < n := by omega
              have g2 : (16 : Int) < n := by omega
              have g3 : (64 : Int) < n := by omega
              have g4 : (256 : Int) < n := by omega
              have g5 : (1024 : Int) < n := by omega
              clear hn c0 c1 c2 c3 c4 c5
              rw [HE.out]
              clear HE
              go_enter Try.func16, Try.ntmps16
              go_wp2
              go_rounds 7
              go_returns
              exact ⟨by simp, rfl⟩
theorem hL_4 (n : Int) (h0 : 0 ≤ n) : hL 1 ((n + 3) / 4) = hL 4 n := by
  unfold hL
  by_cases c0 : n ≤ 4
  · rw [if_pos c0, if_pos (by omega)]
  · rw [if_neg c0, if_neg (by omega)]
    by_cases c1 : n ≤ 4 * 4
    · rw [if_pos c1, if_pos (by omega)]
    · rw [if_neg c1, if_neg (by omega)]
      by_cases c2 : n ≤ 16 * 4
      · rw [if_pos c2, if_pos (by omega)]
      · rw [if_neg c2, if_neg (by omega)]
        by_cases c3 : n ≤ 64 * 4
        · rw [if_pos c3, if_pos (by omega)]
        · rw [if_neg c3, if_neg (by omega)]
          by_cases c4 : n ≤ 256 * 4
          · rw [if_pos c4, if_pos (by omega)]
          · rw [if_neg c4, if_neg (by omega)]
            by_cases c5 : n ≤ 1024 * 4
            · rw [if_pos c5, if_pos (by omega)]
            · rw [if_neg c5, if_neg (by omega)]
end Go.Proofs.Ytalnfphlhcojcaa

namespace Go.Proofs.Ytalnfphlhcojcaa
open Go Go.RowKit
set_option linter.unusedSimpArgs false
set_option linter.unusedVariables false
/-- a root: blocks, counter, the table's tree, inodes, the map's tree, used -/
structure Sup where
  b : Int
  c : Nat
  th : Int
  tr : Rf
  n : Int
  mh : Int
  mr : Rf
  u : Int
  deriving DecidableEq
def su0 : Sup := ⟨0, 0, 0, rf0, 0, 0, rf0, 0⟩
/-- what any root is that can stand in the memory -/
structure SuW (x : Sup) : Prop where
  b : -9223372036854775808 ≤ x.b ∧ x.b ≤ 9223372036854775807
  c : x.c < 18446744073709551616
  th : -9223372036854775808 ≤ x.th ∧ x.th ≤ 9223372036854775807
  ta : x.tr.1 < 4294967296
  td : okD x.tr.2
  n : -9223372036854775808 ≤ x.n ∧ x.n ≤ 9223372036854775807
  mh : -9223372036854775808 ≤ x.mh ∧ x.mh ≤ 9223372036854775807
  ma : x.mr.1 < 4294967296
  md : okD x.mr.2
  u : -9223372036854775808 ≤ x.u ∧ x.u ≤ 9223372036854775807
def suF (x : Sup) : Nat → Value := fun i => if i = 0 then .int .i64 x.b else if i = 1 then .int .u64 ((x.c : Nat) : Int) else if i < 36 then tiF x.th x.tr (i - 2) else if i = 36 then .int .i64 x.n else if i < 71 then tiF x.mh x.mr (i - 37) else .int .i64 x.u
def suC (x : Sup) : Array Value := va 72 (suF x)
theorem suC_size (x : Sup) : (suC x).size = 72 := va_size _ _
theorem suF_one (x : Sup) (i : Nat) : (suF x i).oneCell' = true := by
  unfold suF
  split
  · rfl
  · split
    · rfl
    · split
      · exact tiF_one _ _ _
      · split
        · rfl
        · split
          · exact tiF_one _ _ _
          · rfl
theorem suC_all (x : Sup) : (suC x).all (·.oneCell') = true := va_one fun i _ => suF_one _ _
theorem tiC_all (h : Int) (r : Rf) : (tiC h r).all (·.oneCell') = true := va_one fun i _ => tiF_one _ _ _
theorem su_table (x : Sup) : (suC x).extract 2 (2 + 34) = tiC x.th x.tr := by
  unfold suC tiC
  rw [va_extract 72 2 34 _ (by decide)]
  refine va_congr fun i hi => ?_
  unfold suF
  rw [if_neg (by omega), if_neg (by omega), if_pos (by omega), show 2 + i - 2 = i by omega]
theorem su_map (x : Sup) : (suC x).extract 37 (37 + 34) = tiC x.mh x.mr := by
  unfold suC tiC
  rw [va_extract 72 37 34 _ (by decide)]
  refine va_congr fun i hi => ?_
  unfold suF
  rw [if_neg (by omega), if_neg (by omega), if_neg (by omega), if_neg (by omega), if_pos (by omega), show 37 + i - 37 = i by omega]
theorem su_tref (x : Sup) : (suC x).extract 3 (3 + 33) = rfC x.tr := by
  unfold suC rfC
  rw [va_extract 72 3 33 _ (by decide)]
  refine va_congr fun i hi => ?_
  unfold suF tiF
  rw [if_neg (by omega), if_neg (by omega), if_pos (by omega), if_neg (by omega), show 3 + i - 2 - 1 = i by omega]
theorem su_mref (x : Sup) : (suC x).extract 38 (38 + 33) = rfC x.mr := by
  unfold suC rfC
  rw [va_extract 72 38 33 _ (by decide)]
  refine va_congr fun i hi => ?_
  unfold suF tiF
  rw [if_neg (by omega), if_neg (by omega), if_neg (by omega), if_neg (by omega), if_pos (by omega), if_neg (by omega), show 38 + i - 37 - 1 = i by omega]
theorem su_tsum (x : Sup) : (suC x).extract 4 (4 + 32) = va 32 (iv .u8 (dF x.tr.2)) := by
  unfold suC
  rw [va_extract 72 4 32 _ (by decide)]
  refine va_congr fun i hi => ?_
  unfold suF tiF rfF iv
  rw [if_neg (by omega), if_neg (by omega), if_pos (by omega), if_neg (by omega), if_neg (by omega), show 4 + i - 2 - 1 - 1 = i by omega]
theorem su_msum (x : Sup) : (suC x).extract 39 (39 + 32) = va 32 (iv .u8 (dF x.mr.2)) := by
  unfold suC
  rw [va_extract 72 39 32 _ (by decide)]
  refine va_congr fun i hi => ?_
  unfold suF tiF rfF iv
  rw [if_neg (by omega), if_neg (by omega), if_neg (by omega), if_neg (by omega), if_pos (by omega), if_neg (by omega), if_neg (by omega), show 39 + i - 37 - 1 - 1 = i by omega]
theorem sizeSup : (Try.prog.info? 31).map (·.size) = some 72 := by kernel_rfl
theorem sizeRSup : (Try.prog.info? 45).map (·.size) = some 72 := by kernel_rfl
theorem zero_sup (w : World) : (zeroValue 31).run Try.prog w = .ok (.agg (suC su0)) w := zero_of (by kernel_rfl) w
theorem zero_rsup (w : World) : (zeroValue 45).run Try.prog w = .ok (.agg (suC su0)) w := zero_of (by kernel_rfl) w
theorem zero_ti (w : World) : (zeroValue 29).run Try.prog w = .ok (.agg (tiC 0 rf0)) w := zero_of (by kernel_rfl) w
theorem zero_rti (w : World) : (zeroValue 43).run Try.prog w = .ok (.agg (tiC 0 rf0)) w := zero_of (by kernel_rfl) w
theorem built_sup0 : Try.prog.built 31 [] = some (suC su0) := by kernel_rfl
theorem built_rsup0 : Try.prog.built 45 [] = some (suC su0) := by kernel_rfl
theorem sup_c0 {w : World} {g T : Nat} {x : Sup} (h : Blk w g T (suC x)) : w.cell? ⟨g, 0, none⟩ = some (.int .i64 x.b) := by rw [h.cell]; exact va_at (suF x) (by decide)
theorem sup_c1 {w : World} {g T : Nat} {x : Sup} (h : Blk w g T (suC x)) : w.cell? ⟨g, 1, none⟩ = some (.int .u64 ((x.c : Nat) : Int)) := by rw [h.cell]; exact va_at (suF x) (by decide)
theorem sup_c2 {w : World} {g T : Nat} {x : Sup} (h : Blk w g T (suC x)) : w.cell? ⟨g, 2, none⟩ = some (.int .i64 x.th) := by rw [h.cell]; exact va_at (suF x) (by decide)
theorem sup_c3 {w : World} {g T : Nat} {x : Sup} (h : Blk w g T (suC x)) : w.cell? ⟨g, 3, none⟩ = some (.int .u32 ((x.tr.1 : Nat) : Int)) := by rw [h.cell]; exact va_at (suF x) (by decide)
theorem sup_c36 {w : World} {g T : Nat} {x : Sup} (h : Blk w g T (suC x)) : w.cell? ⟨g, 36, none⟩ = some (.int .i64 x.n) := by rw [h.cell]; exact va_at (suF x) (by decide)
theorem sup_c37 {w : World} {g T : Nat} {x : Sup} (h : Blk w g T (suC x)) : w.cell? ⟨g, 37, none⟩ = some (.int .i64 x.mh) := by rw [h.cell]; exact va_at (suF x) (by decide)
theorem sup_c38 {w : World} {g T : Nat} {x : Sup} (h : Blk w g T (suC x)) : w.cell? ⟨g, 38, none⟩ = some (.int .u32 ((x.mr.1 : Nat) : Int)) := by rw [h.cell]; exact va_at (suF x) (by decide)
theorem sup_c71 {w : World} {g T : Nat} {x : Sup} (h : Blk w g T (suC x)) : w.cell? ⟨g, 71, none⟩ = some (.int .i64 x.u) := by rw [h.cell]; exact va_at (suF x) (by decide)
theorem run_eq_six {P : Program} {w : World} {d : Nat} {t t1 t2 t3 t4 t5 t6 o1 o2 o3 o4 o5 o6 : Nat} {cs ds : Array Value} {x1 y1 x2 y2 x3 y3 x4 y4 x5 y5 x6 y6 : Value} {b1 b2 b3 b4 b5 b6 : Bool} (hu : P.underlying t = some (.struct (P.fieldsOf t))) (hp : P.stoodInHeld t = false)
    (hf : (P.fieldsOf t).toList.map (fun f => (f.name == "_", f.type, f.offset)) = [(false, t1, o1), (false, t2, o2), (false, t3, o3), (false, t4, o4), (false, t5, o5), (false, t6, o6)])
    (p1 : (part t1 cs o1).run P w = .ok x1 w) (q1 : (part t1 ds o1).run P w = .ok y1 w) (p2 : (part t2 cs o2).run P w = .ok x2 w) (q2 : (part t2 ds o2).run P w = .ok y2 w) (p3 : (part t3 cs o3).run P w = .ok x3 w) (q3 : (part t3 ds o3).run P w = .ok y3 w)
    (p4 : (part t4 cs o4).run P w = .ok x4 w) (q4 : (part t4 ds o4).run P w = .ok y4 w) (p5 : (part t5 cs o5).run P w = .ok x5 w) (q5 : (part t5 ds o5).run P w = .ok y5 w) (p6 : (part t6 cs o6).run P w = .ok x6 w) (q6 : (part t6 ds o6).run P w = .ok y6 w)
    (h1 : (Op.equalIn d t1 x1 y1).run P w = .ok b1 w) (h2 : (Op.equalIn d t2 x2 y2).run P w = .ok b2 w) (h3 : (Op.equalIn d t3 x3 y3).run P w = .ok b3 w) (h4 : (Op.equalIn d t4 x4 y4).run P w = .ok b4 w) (h5 : (Op.equalIn d t5 x5 y5).run P w = .ok b5 w) (h6 : (Op.equalIn d t6 x6 y6).run P w = .ok b6 w) :
    (Op.equalIn (d + 1) t (.agg cs) (.agg ds)).run P w = .ok (b1 && (b2 && (b3 && (b4 && (b5 && (b6 && true)))))) w := by
  rw [run_equalIn_struct w d t cs ds hu hp]
  obtain ⟨f1, l1, e1, hf1, hl1⟩ := List.map_eq_cons_iff.1 hf
  obtain ⟨f2, l2, e2, hf2, hl2⟩ := List.map_eq_cons_iff.1 hl1
  obtain ⟨f3, l3, e3, hf3, hl3⟩ := List.map_eq_cons_iff.1 hl2
  obtain ⟨f4, l4, e4, hf4, hl4⟩ := List.map_eq_cons_iff.1 hl3
  obtain ⟨f5, l5, e5, hf5, hl5⟩ := List.map_eq_cons_iff.1 hl4
  obtain ⟨f6, l6, e6, hf6, hl6⟩ := List.map_eq_cons_iff.1 hl5
  have e7 := List.map_eq_nil_iff.1 hl6
  subst e7 e6 e5 e4 e3 e2
  rw [e1]
  exact eqF_cons hf1 p1 q1 h1 (eqF_cons hf2 p2 q2 h2 (eqF_cons hf3 p3 q3 h3 (eqF_cons hf4 p4 q4 h4 (eqF_cons hf5 p5 q5 h5 (eqF_cons hf6 p6 q6 h6 (by simp [Op.eqFields]))))))
theorem eq_supAt (t tt tr : TypeId) (ut ur : TypeDesc) (hut : Try.prog.underlying tt = some ut) (htr : ut.isRow = true) (hst : (Try.prog.info? tt).map (·.size) = some 34) (hur : Try.prog.underlying tr = some ur) (hrr : ur.isRow = true) (hsr : (Try.prog.info? tr).map (·.size) = some 33)
    (hu : Try.prog.underlying t = some (.struct (Try.prog.fieldsOf t))) (hp : Try.prog.stoodInHeld t = false)
    (hf : (Try.prog.fieldsOf t).toList.map (fun f => (f.name == "_", f.type, f.offset)) = [(false, 3, 0), (false, 22, 1), (false, tt, 2), (false, 3, 36), (false, tt, 37), (false, 3, 71)])
    (hu2 : Try.prog.underlying tt = some (.struct (Try.prog.fieldsOf tt))) (hp2 : Try.prog.stoodInHeld tt = false)
    (hf2 : (Try.prog.fieldsOf tt).toList.map (fun f => (f.name == "_", f.type, f.offset)) = [(false, 3, 0), (false, tr, 1)])
    (HR : ∀ (d : Nat) (a b : Rf) (w : World), (Op.equalIn (d + 1 + 1 + 1) tr (.agg (rfC a)) (.agg (rfC b))).run Try.prog w = .ok (decide (a = b)) w)
    (d : Nat) (x y : Sup) (w : World) : (Op.equalIn (d + 1 + 1 + 1 + 1 + 1) t (.agg (suC x)) (.agg (suC y))).run Try.prog w = .ok (decide (x = y)) w := by
  have hi : ∀ (d : Nat) (a b : Int), (Op.equalIn (d + 1) 3 (.int .i64 a) (.int .i64 b)).run Try.prog w = .ok (a == b) w := fun d a b => by simp [Op.equalIn, run_underlying Try.underlying3]
  have hn : ∀ (d : Nat) (a b : Int), (Op.equalIn (d + 1) 22 (.int .u64 a) (.int .u64 b)).run Try.prog w = .ok (a == b) w := fun d a b => by simp [Op.equalIn, run_underlying Try.underlying22]
  have pt1 : ∀ (h : Int) (r : Rf), (part 3 (tiC h r) 0).run Try.prog w = .ok (.int .i64 h) w := fun h r => part_int _ _ Try.underlying3 _ _ _ (va_at (tiF h r) (by decide)) w
  have pt2 : ∀ (h : Int) (r : Rf), (part tr (tiC h r) 1).run Try.prog w = .ok (.agg (rfC r)) w := fun h r => part_agg _ 33 _ hur hrr hsr _ _ 1 (ti_ref h r) w
  have HT : ∀ (h h' : Int) (r r' : Rf), (Op.equalIn (d + 1 + 1 + 1 + 1) tt (.agg (tiC h r)) (.agg (tiC h' r'))).run Try.prog w = .ok ((h == h') && decide (r = r')) w := fun h h' r r' =>
    run_eq_two hu2 hp2 hf2 (pt1 _ _) (pt1 _ _) (pt2 _ _) (pt2 _ _) (hi _ _ _) (HR d _ _ w)
  have p0 : ∀ x : Sup, (part 3 (suC x) 0).run Try.prog w = .ok (.int .i64 x.b) w := fun x => part_int _ _ Try.underlying3 _ _ _ (va_at (suF x) (by decide)) w
  have p1 : ∀ x : Sup, (part 22 (suC x) 1).run Try.prog w = .ok (.int .u64 ((x.c : Nat) : Int)) w := fun x => part_int _ _ Try.underlying22 _ _ _ (va_at (suF x) (by decide)) w
  have p2 : ∀ x : Sup, (part tt (suC x) 2).run Try.prog w = .ok (.agg (tiC x.th x.tr)) w := fun x => part_agg _ 34 _ hut htr hst _ _ 2 (su_table x) w
  have p3 : ∀ x : Sup, (part 3 (suC x) 36).run Try.prog w = .ok (.int .i64 x.n) w := fun x => part_int _ _ Try.underlying3 _ _ _ (va_at (suF x) (by decide)) w
  have p4 : ∀ x : Sup, (part tt (suC x) 37).run Try.prog w = .ok (.agg (tiC x.mh x.mr)) w := fun x => part_agg _ 34 _ hut htr hst _ _ 37 (su_map x) w
  have p5 : ∀ x : Sup, (part 3 (suC x) 71).run Try.prog w = .ok (.int .i64 x.u) w := fun x => part_int _ _ Try.underlying3 _ _ _ (va_at (suF x) (by decide)) w
  rw [run_eq_six hu hp hf (p0 x) (p0 y) (p1 x) (p1 y) (p2 x) (p2 y) (p3 x) (p3 y) (p4 x) (p4 y) (p5 x) (p5 y) (hi _ _ _) (hn _ _ _) (HT _ _ _ _) (hi _ _ _) (HT _ _ _ _) (hi _ _ _)]
  refine congrArg (fun b => Result.ok b w) ?_
  obtain ⟨b, c, th, tr, n, mh, mr, u⟩ := x
  obtain ⟨b', c', th', tr', n', mh', mr', u'⟩ := y
  rw [Bool.eq_iff_iff]
  simp only [decide_eq_true_eq, Bool.and_eq_true, beq_iff_eq, Sup.mk.injEq, and_true]
  constructor
  · rintro ⟨a, b, ⟨c, d⟩, e, ⟨f, g⟩, h⟩
    exact ⟨a, by omega, c, d, e, f, g, h⟩
  · rintro ⟨a, b, c, d, e, f, g, h⟩
    exact ⟨a, by omega, ⟨c, d⟩, e, ⟨f, g⟩, h⟩
theorem eq_rsup (d : Nat) (x y : Sup) (w : World) : (Op.equalIn (d + 1 + 1 + 1 + 1 + 1) 45 (.agg (suC x)) (.agg (suC y))).run Try.prog w = .ok (decide (x = y)) w :=
  eq_supAt 45 43 41 _ _ Try.underlying43 rfl sizeRTr Try.underlying41 rfl sizeRRf (by kernel_rfl) (by kernel_rfl) (by kernel_rfl) (by kernel_rfl) (by kernel_rfl) (by kernel_rfl) eq_rrf d x y w
end Go.Proofs.Ytalnfphlhcojcaa

namespace Go.Proofs.Ytalnfphlhcojcaa
open Go.ChangeShapes Go.WideShapes Go.ChangeAt Go.RowKit Go.Joins
set_option linter.unusedVariables false
set_option linter.unusedSimpArgs false
set_option maxRecDepth 100000 in
theorem open_ti_cells {H : Type} {enc : TypeId × Value → H} {W : World} {fuel : Nat} {l : List Value} {x : DataW H × List MemPlace} (hl : l.length = 34)
    (hf : DataW.trod enc Try.prog W 0 (fun _ => true) true fuel 29 l = some x) : ∃ (h : Int) (r : Rf), l = (tiC h r).toList ∧ (-9223372036854775808 ≤ h ∧ h ≤ 9223372036854775807) ∧ r.1 < 4294967296 ∧ okD r.2 := by
  have hc8 : Try.prog.cellsOf 3 = 1 := by kernel_rfl
  have hcr : Try.prog.cellsOf 27 = 33 := by kernel_rfl
  obtain ⟨xs, k, hk, hxy, _, hxl, hfs⟩ := DataW.trod_struct Try.underlying29 hf
  match xs, hxl with
  | [y0, y1], _ =>
    have g0 : DataW.trod enc Try.prog W 0 (fun _ => true) true k 3 ((l.drop 0).take (Try.prog.cellsOf 3)) = some y0 := hfs 0 _ rfl
    have g1 : DataW.trod enc Try.prog W 0 (fun _ => true) true k 27 ((l.drop 1).take (Try.prog.cellsOf 27)) = some y1 := hfs 1 _ rfl
    rw [hc8] at g0
    rw [hcr] at g1
    obtain ⟨c0, e0, _, w0⟩ := DataW.trod_int Try.underlying3 g0
    have b0 := bounds_i64 w0
    have l0 : l[0]? = some (.int .i64 c0) := nd_take_one e0
    obtain ⟨r, h0, h1, h2⟩ := open_ref_cells (by rw [List.length_take, List.length_drop, hl]; decide) g1
    refine ⟨c0, r, ?_, b0, h1, h2⟩
    apply List.ext_getElem?
    intro i
    by_cases hi : i < 34
    · have hr : (tiC c0 r).toList[i]? = some (tiF c0 r i) := by
        have := va_at (tiF c0 r) hi
        unfold tiC
        simpa using this
      rw [hr]
      unfold tiF
      by_cases i0 : i = 0
      · subst i0
        rw [if_pos rfl, l0]
      rw [if_neg i0]
      have h4 := congrArg (fun z => z[i - 1]?) h0
      simp only [List.getElem?_take, List.getElem?_drop] at h4
      rw [if_pos (by omega), show 1 + (i - 1) = i by omega] at h4
      rw [h4]
      have := va_at (rfF r.1 r.2) (show i - 1 < 33 by omega)
      unfold rfC
      simpa using this
    · rw [List.getElem?_eq_none (by omega), List.getElem?_eq_none (by rw [Array.length_toList, tiC_size]; omega)]
set_option maxRecDepth 100000 in
theorem open_sup_cells {H : Type} {enc : TypeId × Value → H} {W : World} {fuel : Nat} {l : List Value} {x : DataW H × List MemPlace} (hl : l.length = 72)
    (hf : DataW.trod enc Try.prog W 0 (fun _ => true) true fuel 31 l = some x) : ∃ y : Sup, l = (suC y).toList ∧ SuW y := by
  have hc8 : Try.prog.cellsOf 3 = 1 := by kernel_rfl
  have hcu : Try.prog.cellsOf 22 = 1 := by kernel_rfl
  have hct : Try.prog.cellsOf 29 = 34 := by kernel_rfl
  obtain ⟨xs, k, hk, hxy, _, hxl, hfs⟩ := DataW.trod_struct Try.underlying31 hf
  match xs, hxl with
  | [y0, y1, y2, y3, y4, y5], _ =>
    have g0 : DataW.trod enc Try.prog W 0 (fun _ => true) true k 3 ((l.drop 0).take (Try.prog.cellsOf 3)) = some y0 := hfs 0 _ rfl
    have g1 : DataW.trod enc Try.prog W 0 (fun _ => true) true k 22 ((l.drop 1).take (Try.prog.cellsOf 22)) = some y1 := hfs 1 _ rfl
    have g2 : DataW.trod enc Try.prog W 0 (fun _ => true) true k 29 ((l.drop 2).take (Try.prog.cellsOf 29)) = some y2 := hfs 2 _ rfl
    have g3 : DataW.trod enc Try.prog W 0 (fun _ => true) true k 3 ((l.drop 36).take (Try.prog.cellsOf 3)) = some y3 := hfs 3 _ rfl
    have g4 : DataW.trod enc Try.prog W 0 (fun _ => true) true k 29 ((l.drop 37).take (Try.prog.cellsOf 29)) = some y4 := hfs 4 _ rfl
    have g5 : DataW.trod enc Try.prog W 0 (fun _ => true) true k 3 ((l.drop 71).take (Try.prog.cellsOf 3)) = some y5 := hfs 5 _ rfl
    rw [hc8] at g0 g3 g5
    rw [hcu] at g1
    rw [hct] at g2 g4
    obtain ⟨c0, e0, _, w0⟩ := DataW.trod_int Try.underlying3 g0
    obtain ⟨c1, e1, _, w1⟩ := DataW.trod_int Try.underlying22 g1
    obtain ⟨c3, e3, _, w3⟩ := DataW.trod_int Try.underlying3 g3
    obtain ⟨c5, e5, _, w5⟩ := DataW.trod_int Try.underlying3 g5
    have b0 := bounds_i64 w0
    have b1 := bounds_u64 w1
    have b3 := bounds_i64 w3
    have b5 := bounds_i64 w5
    have l0 : l[0]? = some (.int .i64 c0) := nd_take_one e0
    have l1 : l[1]? = some (.int .u64 c1) := nd_take_one e1
    have l3 : l[36]? = some (.int .i64 c3) := nd_take_one e3
    have l5 : l[71]? = some (.int .i64 c5) := nd_take_one e5
    obtain ⟨th, tr, t0, t1, t2, t3⟩ := open_ti_cells (by rw [List.length_take, List.length_drop, hl]; decide) g2
    obtain ⟨mh, mr, m0, m1, m2, m3⟩ := open_ti_cells (by rw [List.length_take, List.length_drop, hl]; decide) g4
    refine ⟨⟨c0, c1.toNat, th, tr, c3, mh, mr, c5⟩, ?_, ⟨b0, by show c1.toNat < _; omega, t1, t2, t3, b3, m1, m2, m3, b5⟩⟩
    apply List.ext_getElem?
    intro i
    by_cases hi : i < 72
    · have hr : (suC ⟨c0, c1.toNat, th, tr, c3, mh, mr, c5⟩).toList[i]? = some (suF ⟨c0, c1.toNat, th, tr, c3, mh, mr, c5⟩ i) := by
        have := va_at (suF ⟨c0, c1.toNat, th, tr, c3, mh, mr, c5⟩) hi
        unfold suC
        simpa using this
      rw [hr]
      unfold suF
      by_cases i0 : i = 0
      · subst i0
        rw [if_pos rfl, l0]
      rw [if_neg i0]
      by_cases i1 : i = 1
      · subst i1
        rw [if_pos rfl, l1]
        congr 2
        show c1 = ((c1.toNat : Nat) : Int)
        omega
      rw [if_neg i1]
      by_cases i2 : i < 36
      · rw [if_pos i2]
        have h4 := congrArg (fun z => z[i - 2]?) t0
        simp only [List.getElem?_take, List.getElem?_drop] at h4
        rw [if_pos (by omega), show 2 + (i - 2) = i by omega] at h4
        rw [h4]
        have := va_at (tiF th tr) (show i - 2 < 34 by omega)
        unfold tiC
        simpa using this
      rw [if_neg i2]
      by_cases i3 : i = 36
      · subst i3
        rw [if_pos rfl, l3]
      rw [if_neg i3]
      by_cases i4 : i < 71
      · rw [if_pos i4]
        have h4 := congrArg (fun z => z[i - 37]?) m0
        simp only [List.getElem?_take, List.getElem?_drop] at h4
        rw [if_pos (by omega), show 37 + (i - 37) = i by omega] at h4
        rw [h4]
        have := va_at (tiF mh mr) (show i - 37 < 34 by omega)
        unfold tiC
        simpa using this
      rw [if_neg i4]
      obtain rfl : i = 71 := by omega
      rw [l5]
    · rw [List.getElem?_eq_none (by omega), List.getElem?_eq_none (by rw [Array.length_toList, suC_size]; omega)]
set_option maxRecDepth 100000 in
theorem open_sup {H : Type} {enc : TypeId × Value → H} {W : World} {r : Reach} {b0 : Nat} {v : Value} {d : DataW H} {p : List MemPlace}
    (hv : Value.okWide Try.prog W r b0 31 v) (h : DataW.Trod enc Try.prog W 0 (fun _ => true) true 31 v d p) : ∃ y : Sup, v = .agg (suC y) ∧ SuW y := by
  obtain ⟨cs, rfl, hcs⟩ := okWide_struct Try.underlying31 hv
  obtain ⟨fuel, hf⟩ := h
  have hc : Try.prog.cellsOf 31 = 72 := by kernel_rfl
  rw [hc] at hcs
  have hl : cs.toList.length = 72 := by rw [Array.length_toList]; exact hcs
  obtain ⟨y, h0, h1⟩ := open_sup_cells hl (show DataW.trod enc Try.prog W 0 (fun _ => true) true fuel 31 cs.toList = some (d, p) from hf)
  refine ⟨y, ?_, h1⟩
  congr 1
  exact Array.toList_inj.1 h0
end Go.Proofs.Ytalnfphlhcojcaa
