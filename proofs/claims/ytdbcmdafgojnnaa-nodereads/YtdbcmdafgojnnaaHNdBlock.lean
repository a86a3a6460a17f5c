/- A node's block: the program's contract of Block. -/
import Derived.Test.YtdbcmdafgojnnaaHSegsS
import Derived.Handy

namespace Go.Proofs.Ytdbcmdafgojnnaa
open Go Go.RowKit
set_option linter.unusedSimpArgs false
set_option linter.unusedVariables false

set_option maxRecDepth 100000 in
set_option maxHeartbeats 4000000 in
theorem none_any (r : Rf) (w : World) : Calls Try.prog 28 #[.agg (rfC r)] w fun e w' => e = .returned (.bool (decide (r = rf0))) ∧ Below w.heap.size w w' := by
  have r0 : Blk (w.alloc (.cells (rfC r) 48)) w.heap.size 48 (rfC r) := Blk.new _ _ _
  have hb : Below w.heap.size w (w.alloc (.cells (rfC r) 48)) := below_new1 _ _
  have hz := zero_ref
  have hq : ∀ W, (Op.equalIn 10000 48 (.agg (rfC r)) (.agg (rfC rf0))).run Try.prog W = .ok (decide (r = rf0)) W := eq_ref 9997 r rf0
  obtain ⟨b, hbd⟩ : ∃ b, b = decide (r = rf0) := ⟨_, rfl⟩
  rw [← hbd] at hq ⊢
  clear hbd
  go_enter Try.func28, Try.ntmps28
  go_wp2_with (first
    | (refine wpList_load_rowg (by rfl) 48 _ (by rfl) (w.heap.size) (by rfl) 48 (rfC r) (0, 0) _ (by exact r0) Try.underlying48 (by rfl) (slSizeRef.trans (by rw [rfC_size])) ?_; simp only [Act.put, List.setIfInBounds_toArray, List.set_cons_zero, List.set_cons_succ])
    | fail)
  go_ret
  exact ⟨rfl, hb⟩
set_option maxRecDepth 100000 in
set_option maxHeartbeats 4000000 in
theorem right_any (r : Rf) (w : World) : Calls Try.prog 58 #[.agg (rfC r)] w fun e w' => e = .returned (.bool (rOk r)) ∧ Below w.heap.size w w' := by
  have r0 : Blk (w.alloc (.cells (rfC r) 48)) w.heap.size 48 (rfC r) := Blk.new _ _ _
  have hb : Below w.heap.size w (w.alloc (.cells (rfC r) 48)) := below_new1 _ _
  have hsz : (w.alloc (.cells (rfC r) 48)).heap.size = w.heap.size + 1 := by simp
  have hn : Hid (∀ w, Calls Try.prog 28 #[.agg (rfC r)] w fun e w' => e = .returned (.bool (decide (r = rf0))) ∧ Below w.heap.size w w') := none_any r
  have hx : (w.alloc (.cells (rfC r) 48)).cell? ⟨w.heap.size, 0, none⟩ = some (.int .u32 (r.1 : Int)) := by
    rw [r0.cell]
    exact va_at (rfF r.1 r.2) (by decide)
  have HO : Hid (rOk r = (decide (r = rf0) || decide (r.1 ≠ 0))) := rfl
  obtain ⟨b, hbd⟩ : ∃ b, b = decide (r = rf0) := ⟨_, rfl⟩
  obtain ⟨n, hnd⟩ : ∃ n, n = r.1 := ⟨_, rfl⟩
  rw [← hbd] at hn HO
  rw [← hnd] at hx HO
  clear hbd hnd
  go_enter Try.func58, Try.ntmps58
  go_wp2_with (first
    | (refine wpList_load_rowg (by rfl) 48 _ (by rfl) (w.heap.size) (by rfl) 48 (rfC r) (0, 0) _ (by exact r0) Try.underlying48 (by rfl) (slSizeRef.trans (by rw [rfC_size])) ?_; simp only [Act.put, List.setIfInBounds_toArray, List.set_cons_zero, List.set_cons_succ])
    | fail)
  generalize (w.alloc (.cells (rfC r) 48)) = w1 at *
  refine (hn.out w1).mono ?_
  rintro e w2 ⟨rfl, hb2⟩
  have r2 : Blk w2 w.heap.size 48 (rfC r) := r0.below hb2 (by omega)
  have hx2 : w2.cell? ⟨w.heap.size, 0, none⟩ = some (.int .u32 (n : Int)) := by
    rw [← hx, r2.cell, r0.cell]
  have hb3 : Below w.heap.size w w2 := hb.trans (hb2.mono (by omega))
  clear hn hx r0 hb hb2 r2
  cases b
  · go_wp2_with fail
    go_ret
    refine ⟨?_, hb3⟩
    rw [HO.out]
    by_cases h0 : n = 0
    · subst h0
      rfl
    · have : ¬ (n : Int) = 0 := by omega
      simp [h0, this]
  · go_wp2_with fail
    go_ret
    refine ⟨?_, hb3⟩
    rw [HO.out]
    rfl
theorem enc_lo (r : Rf) (hr : okD r.2) : strN (dig r.1) 4 ++ strN (dF r.2) 32 = strN (encR r) 36 := by
  have e := strN_append (encR r) 4 32 fun j hj => encR_lt r hr j hj
  have e1 : strN (encR r) 4 = strN (dig r.1) 4 := strN_congr fun j hj => by
    unfold encR
    rw [if_pos hj]
  have e2 : strN (fun j => encR r (4 + j)) 32 = strN (dF r.2) 32 := strN_congr fun j hj => by
    unfold encR
    rw [if_neg (by omega), show 4 + j - 4 = j by omega]
  rw [e1, e2] at e
  exact e
set_option maxRecDepth 100000 in
set_option maxHeartbeats 4000000 in
theorem encR_any (r : Rf) (hr : okD r.2) (w : World) : Calls Try.prog 26 #[.agg (rfC r)] w fun e w' => e = .returned (.string (strN (encR r) 36)) ∧ Below w.heap.size w w' := by
  have r0 : Blk (w.alloc (.cells (rfC r) 48)) w.heap.size 48 (rfC r) := Blk.new _ _ _
  have hb : Below w.heap.size w (w.alloc (.cells (rfC r) 48)) := below_new1 _ _
  have hx : (w.alloc (.cells (rfC r) 48)).cell? ⟨w.heap.size, 0, none⟩ = some (.int .u32 (r.1 : Int)) := by
    rw [r0.cell]
    exact va_at (rfF r.1 r.2) (by decide)
  have hsz : (w.alloc (.cells (rfC r) 48)).heap.size = w.heap.size + 1 := by simp
  go_enter Try.func26, Try.ntmps26
  go_wp2_with fail
  generalize (w.alloc (.cells (rfC r) 48)) = w1 at *
  refine (bytes32_va r.1 w1).mono ?_
  rintro e w2 ⟨rfl, hb2⟩
  have hs2 := hb2.size
  have r2 : Blk w2 w.heap.size 48 (rfC r) := r0.below hb2 (by omega)
  have hb3 : Below w.heap.size w w2 := hb.trans (hb2.mono (by omega))
  have z4 : (Try.prog.info? 138).map (·.size) = some 4 := by kernel_rfl
  clear r0 hb hx hb2
  have r3 : Blk (w2.alloc (.cells (va 4 (iv .u8 fun _ => 0)) 138)) w.heap.size 48 (rfC r) := r2.alloc _
  have q3 : Blk (w2.alloc (.cells (va 4 (iv .u8 fun _ => 0)) 138)) w2.heap.size 138 (va 4 (iv .u8 fun _ => 0)) := Blk.new _ _ _
  have hb4 : Below w.heap.size w (w2.alloc (.cells (va 4 (iv .u8 fun _ => 0)) 138)) := hb3.alloc (by omega) _
  have hz : ∀ w, (zeroValue 138).run Try.prog w = .ok (.agg (va 4 (iv .u8 fun _ => 0))) w := zero_of (by kernel_rfl)
  go_wp2_with (first
    | (refine wpList_store_row (by rfl) 138 _ _ (by rfl) (w2.heap.size) (va 4 (iv .u8 (dig r.1))) (by rfl) (by rfl) 138 (va 4 (iv .u8 fun _ => 0)) (by exact q3) (z4.trans (by rw [va_size])) (by simp only [va_size]) (iv_one _ _ _) ?_; simp only [Act.put, List.setIfInBounds_toArray, List.set_cons_zero, List.set_cons_succ])
    | fail)
  have r5 : Blk ((w2.alloc (.cells (va 4 (iv .u8 fun _ => 0)) 138)).setRow w2.heap.size (va 4 (iv .u8 (dig r.1)))) w.heap.size 48 (va 33 (rfF r.1 r.2)) := r3.other _ (by omega)
  have q5 : Blk ((w2.alloc (.cells (va 4 (iv .u8 fun _ => 0)) 138)).setRow w2.heap.size (va 4 (iv .u8 (dig r.1)))) w2.heap.size 138 (va 4 (iv .u8 (dig r.1))) := q3.set _
  have hb5 : Below w.heap.size w ((w2.alloc (.cells (va 4 (iv .u8 fun _ => 0)) 138)).setRow w2.heap.size (va 4 (iv .u8 (dig r.1)))) := below_setRow hb4 (by omega) _
  clear r3 q3 hb4 r2 hb3
  generalize ((w2.alloc (.cells (va 4 (iv .u8 fun _ => 0)) 138)).setRow w2.heap.size (va 4 (iv .u8 (dig r.1)))) = w5 at *
  have hc1 : ∀ W, Blk W w2.heap.size 138 (va 4 (iv .u8 (dig r.1))) → (convert 77 9 (.slice (some ⟨w2.heap.size, 0, none⟩) 4 4)).run Try.prog W = .ok (.string (strN (dig r.1) 4)) W := fun W hW => by
    have := run_bytes_text (P := Try.prog) W 77 5 9 Try.underlying77 Try.underlying5 Try.underlying9 hW 0 4 4 (by omega)
    rwa [show (fun j => dig r.1 (0 + j)) = dig r.1 by funext j; rw [Nat.zero_add]] at this
  have hc2 : ∀ W, Blk W w.heap.size 48 (va 33 (rfF r.1 r.2)) → (convert 77 9 (.slice (some ⟨w.heap.size, 1, none⟩) 32 32)).run Try.prog W = .ok (.string (strN (dF r.2) 32)) W := fun W hW => by
    exact run_convert_bytes_arg W 77 5 Try.underlying77 Try.underlying5 w.heap.size 1 32 32 _ (by simp) (fun i hi => by
      rw [hW.cv (i := 1 + i) (by omega)]
      unfold rfF
      rw [if_neg (by omega), show 1 + i - 1 = i by omega]
      simp [List.getD_eq_getElem?_getD, hi]) 9 Try.underlying9
  have h1 := hc1 w5.drew q5.drew
  have h2 := hc2 w5.drew r5.drew
  have he := enc_lo r hr
  have z1 : (strN (dig r.1) 4).size = 4 := strN_size _ _
  have z2 : (strN (dF r.2) 32).size = 32 := strN_size _ _
  generalize strN (dig r.1) 4 = t1 at *
  generalize strN (dF r.2) 32 = t2 at *
  clear hc1 hc2 q5 r5
  refine wp_region_partsS (fun W => W = w5.drew) [([], 0, true), ([], 1, true), ([], 2, false), ([], 3, false), ([], 4, false), ([], 5, false)] [] [6] (by kernel_rfl) (by kernel_rfl) rfl (partsI_yield ?_)
  simp only [List.cons_append, List.nil_append, List.append_nil, List.filterMap_cons, List.filterMap_nil, List.getElem?_toArray, List.getElem?_cons_zero, List.getElem?_cons_succ]
  go_wp2_with fail
  refine ⟨rfl, _, .slice (some ⟨w2.heap.size, 0, none⟩) 4 4, rfl, Or.inl ⟨by rfl, fun W hW => by go_simp⟩, partsI_yield ?_⟩
  simp only [Act.put, List.setIfInBounds_toArray, List.set_cons_zero, List.set_cons_succ]
  simp only [List.cons_append, List.nil_append, List.append_nil, List.filterMap_cons, List.filterMap_nil, List.getElem?_toArray, List.getElem?_cons_zero, List.getElem?_cons_succ]
  go_wp2_with fail
  refine ⟨rfl, _, .string t1, rfl, Or.inl ⟨by rfl, fun W hW => by rw [hW]; go_simp⟩, partsI_force ?_⟩
  simp only [Act.put, List.setIfInBounds_toArray, List.set_cons_zero, List.set_cons_succ]
  simp only [List.cons_append, List.nil_append, List.append_nil, List.filterMap_cons, List.filterMap_nil, List.getElem?_toArray, List.getElem?_cons_zero, List.getElem?_cons_succ]
  go_wp2_with fail
  refine ⟨rfl, rfl, partsI_force ?_⟩
  simp only [List.cons_append, List.nil_append, List.append_nil, List.filterMap_cons, List.filterMap_nil, List.getElem?_toArray, List.getElem?_cons_zero, List.getElem?_cons_succ]
  go_wp2_with fail
  refine ⟨rfl, rfl, partsI_force ?_⟩
  simp only [List.cons_append, List.nil_append, List.append_nil, List.filterMap_cons, List.filterMap_nil, List.getElem?_toArray, List.getElem?_cons_zero, List.getElem?_cons_succ]
  go_wp2_with fail
  refine ⟨rfl, rfl, partsI_force ?_⟩
  simp only [List.cons_append, List.nil_append, List.append_nil, List.filterMap_cons, List.filterMap_nil, List.getElem?_toArray, List.getElem?_cons_zero, List.getElem?_cons_succ]
  go_wp2_with fail
  refine ⟨rfl, rfl, partsI_last ?_⟩
  simp only [List.cons_append, List.nil_append, List.append_nil, List.filterMap_cons, List.filterMap_nil, List.getElem?_toArray, List.getElem?_cons_zero, List.getElem?_cons_succ]
  go_wp2_with fail
  refine ⟨rfl, ?_⟩
  go_wp2_with fail
  go_ret
  exact ⟨rfl, hb5.drew⟩
/-- the reference that stands in a text -/
def decR (s : ByteArray) (a : Nat) : Rf := (at4 s a, sumD fun i => tbyte s (a + 4 + i))
theorem decR_ok (s : ByteArray) (a : Nat) : okD (decR s a).2 := fun i hi => by
  have e : dF (decR s a).2 i = tbyte s (a + 4 + i) := dF_sumD (fun i => tbyte s (a + 4 + i)) i hi
  rw [e]
  exact tbyte_lt s (a + 4 + i)
theorem decR_cells (n : Nat) (f : Nat → Nat) : (splice ((rfC rf0).setIfInBounds 0 (.int .u32 (n : Int))).toList 1 (byL f 32)).toArray = rfC (n, sumD f) := by
  unfold rfC
  rw [va_set, va_toList]
  refine Eq.trans (by rfl) ((splice_va 33 1 32 _ (fun j => Value.int .u8 ((f j : Nat) : Int)) (by decide)).trans ?_)
  refine va_congr fun i hi => ?_
  by_cases h2 : 1 ≤ i ∧ i < 1 + 32
  · have e1 : rfF (n, sumD f).1 (n, sumD f).2 i = .int .u8 ((f (i - 1) : Nat) : Int) := by
      unfold rfF
      rw [if_neg (by omega), show dF (n, sumD f).2 (i - 1) = f (i - 1) from dF_sumD f _ (by omega)]
    rw [e1]
    unfold overF
    rw [if_pos h2]
  · unfold overF upd
    rw [if_neg h2]
    have h0 : i = 0 := by omega
    subst h0
    rfl
set_option maxRecDepth 100000 in
set_option maxHeartbeats 4000000 in
theorem decodeR_bad (s : ByteArray) (i : Int) (hi : -9223372036854775808 ≤ i ∧ i ≤ 9223372036854775807) (hs : s.size ≤ maxLen) (h : i < 0 ∨ (0 ≤ i ∧ (s.size : Int) - 36 < i)) (w : World) : Calls Try.prog 24 #[.string s, .int .i64 i] w fun e w' => e = .returned (.tuple #[.agg (rfC rf0), .bool false]) ∧ Below w.heap.size w w' := by
  unfold maxLen at hs
  have hz := zero_ref
  have r0 : Blk (w.alloc (.cells (rfC rf0) 48)) w.heap.size 48 (rfC rf0) := Blk.new _ _ _
  have hb : Below w.heap.size w (w.alloc (.cells (rfC rf0) 48)) := below_new1 _ _
  rcases h with h | ⟨h0, h⟩
  · go_enter Try.func24, Try.ntmps24
    go_wp2_with (first
      | (refine wpList_store_row (by rfl) 48 _ _ (by rfl) (w.heap.size) (rfC rf0) (by rfl) (by rfl) 48 (_) (by exact r0) (slSizeRef.trans (by rw [rfC_size])) (by simp only [rfC_size]) (rfC_all _) ?_; simp only [Act.put, List.setIfInBounds_toArray, List.set_cons_zero, List.set_cons_succ])
      | fail)
    try simp only [Exit.inBlock, Exit.then]
    refine bodyPost_ret (results_row2 Try.results24 _ _ (w.heap.size) 48 (rfC rf0) (0, 0) _ rfl (r0.set _) Try.underlying48 rfl (slSizeRef.trans (by rw [rfC_size]))) rfl ?_
    exact ⟨rfl, below_setRow hb (Nat.le_refl _) _⟩
  · go_enter Try.func24, Try.ntmps24
    go_wp2_with (first
      | (refine wpList_store_row (by rfl) 48 _ _ (by rfl) (w.heap.size) (rfC rf0) (by rfl) (by rfl) 48 (_) (by exact r0) (slSizeRef.trans (by rw [rfC_size])) (by simp only [rfC_size]) (rfC_all _) ?_; simp only [Act.put, List.setIfInBounds_toArray, List.set_cons_zero, List.set_cons_succ])
      | fail)
    try simp only [Exit.inBlock, Exit.then]
    refine bodyPost_ret (results_row2 Try.results24 _ _ (w.heap.size) 48 (rfC rf0) (0, 0) _ rfl (r0.set _) Try.underlying48 rfl (slSizeRef.trans (by rw [rfC_size]))) rfl ?_
    exact ⟨rfl, below_setRow hb (Nat.le_refl _) _⟩
set_option maxRecDepth 100000 in
set_option maxHeartbeats 4000000 in
theorem decodeR_good (s : ByteArray) (a : Nat) (hs : s.size ≤ maxLen) (h : a + 36 ≤ s.size) (w : World) : Calls Try.prog 24 #[.string s, .int .i64 (a : Int)] w fun e w' => e = .returned (.tuple #[.agg (rfC (if rOk (decR s a) then decR s a else rf0)), .bool (rOk (decR s a))]) ∧ Below w.heap.size w w' := by
  have hT : Hid (∀ w : World, Calls Try.prog 57 #[.string s, .int .i64 (a : Int)] w fun e w' => e = .returned (.tuple #[.int .u32 (at4 s a : Int), .bool true]) ∧ Below w.heap.size w w') := fun w => take32_yes s a hs (by omega) w
  unfold maxLen at hs
  have hz := zero_ref
  have r0 : Blk ((w.alloc (.cells (rfC rf0) 48)).alloc (.cells (rfC rf0) 48)) w.heap.size 48 (rfC rf0) := (Blk.new _ _ _).alloc _
  have r1 : Blk ((w.alloc (.cells (rfC rf0) 48)).alloc (.cells (rfC rf0) 48)) (w.heap.size + 1) 48 (rfC rf0) := Blk.new1 _ _ _ _
  have hb : Below w.heap.size w ((w.alloc (.cells (rfC rf0) 48)).alloc (.cells (rfC rf0) 48)) := below_new2 _ _ _
  have hsz : ((w.alloc (.cells (rfC rf0) 48)).alloc (.cells (rfC rf0) 48)).heap.size = w.heap.size + 2 := by simp
  have HDC : Hid ((splice ((rfC rf0).setIfInBounds 0 (.int .u32 ((at4 s a : Nat) : Int))).toList 1 (byL (tbyte (s.extract (a + 4) s.size)) 32)).toArray = rfC (decR s a)) := by
    rw [byL_congr (f := tbyte (s.extract (a + 4) s.size)) (g := fun i => tbyte s (a + 4 + i)) fun i hi => tbyte_extract s (a + 4) s.size i (Nat.le_refl _) (by omega)]
    exact decR_cells _ _
  have HS : (s.extract (a + 4) s.size).size = s.size - (a + 4) := extract_size s (a + 4) s.size (Nat.le_refl _)
  obtain ⟨X, hX⟩ : ∃ X, X = decR s a := ⟨_, rfl⟩
  obtain ⟨n4, hn4⟩ : ∃ n4, n4 = at4 s a := ⟨_, rfl⟩
  rw [← hX] at HDC
  rw [← hX]
  rw [← hn4] at HDC hT
  clear hX hn4
  have HR : Hid (∀ w, Calls Try.prog 58 #[.agg (rfC X)] w fun e w' => e = .returned (.bool (rOk X)) ∧ Below w.heap.size w w') := right_any X
  generalize rOk X = b at *
  go_enter Try.func24, Try.ntmps24
  go_wp2_with fail
  generalize ((w.alloc (.cells (rfC rf0) 48)).alloc (.cells (rfC rf0) 48)) = w0 at *
  refine (hT.out w0).mono ?_
  rintro e w1 ⟨rfl, hb1⟩
  have hs1 := hb1.size
  have r0' : Blk w1 w.heap.size 48 (rfC rf0) := r0.below hb1 (by omega)
  have r1' : Blk w1 (w.heap.size + 1) 48 (rfC rf0) := r1.below hb1 (by omega)
  have hb' : Below w.heap.size w w1 := hb.trans (hb1.mono (by omega))
  have f1 : w1.frozen? ⟨w.heap.size + 1, 0, none⟩ = false := r1'.frozen 0
  have d1 : w1.cell? ⟨w.heap.size + 1, 0, none⟩ = some (.int .u32 0) := by
    rw [r1'.cell]
    exact va_at (rfF rf0.1 rf0.2) (by decide)
  clear r0 r1 hb hb1 hT
  go_wp2_with fail
  have r2 : Blk (w1.setCell ⟨w.heap.size + 1, 0, none⟩ (.int .u32 (n4 : Int))) (w.heap.size + 1) 48 ((rfC rf0).setIfInBounds 0 (.int .u32 (n4 : Int))) := r1'.put 0 _
  have q2 : Blk (w1.setCell ⟨w.heap.size + 1, 0, none⟩ (.int .u32 (n4 : Int))) w.heap.size 48 (rfC rf0) := r0'.put_other _ _ (by omega)
  have hb2 : Below w.heap.size w (w1.setCell ⟨w.heap.size + 1, 0, none⟩ (.int .u32 (n4 : Int))) := hb'.setCell (by show w.heap.size ≤ w.heap.size + 1; omega) _
  have hs2 : (w1.setCell ⟨w.heap.size + 1, 0, none⟩ (.int .u32 (n4 : Int))).heap.size = w1.heap.size := World.size_setCell _ _ _
  clear r1' r0' hb' f1 d1
  generalize (w1.setCell ⟨w.heap.size + 1, 0, none⟩ (.int .u32 (n4 : Int))) = w2 at *
  have z1 : (a : Int) + 4 ≤ (s.size : Int) := by omega
  refine wp_region_partsS (fun _ => True) [([2, 3], 0, true), ([], 1, true), ([], 4, false), ([], 5, false)] [] [6] (by kernel_rfl) (by kernel_rfl) trivial (partsI_yield ?_)
  simp only [List.cons_append, List.nil_append, List.append_nil, List.filterMap_cons, List.filterMap_nil, List.getElem?_toArray, List.getElem?_cons_zero, List.getElem?_cons_succ]
  go_wp2_with fail
  refine ⟨rfl, _, .pointer (some ⟨w.heap.size + 1, 1, none⟩), rfl, Or.inl ⟨by rfl, fun W hW => by go_simp⟩, partsI_yield ?_⟩
  simp only [Act.put, List.setIfInBounds_toArray, List.set_cons_zero, List.set_cons_succ]
  simp only [List.cons_append, List.nil_append, List.append_nil, List.filterMap_cons, List.filterMap_nil, List.getElem?_toArray, List.getElem?_cons_zero, List.getElem?_cons_succ]
  go_wp2_with fail
  refine ⟨rfl, _, .slice (some ⟨w.heap.size + 1, 1, none⟩) 32 32, rfl, Or.inl ⟨by rfl, fun W hW => by go_simp⟩, partsI_force ?_⟩
  simp only [Act.put, List.setIfInBounds_toArray, List.set_cons_zero, List.set_cons_succ]
  simp only [List.cons_append, List.nil_append, List.append_nil, List.filterMap_cons, List.filterMap_nil, List.getElem?_toArray, List.getElem?_cons_zero, List.getElem?_cons_succ]
  go_wp2_with fail
  refine ⟨rfl, trivial, partsI_force ?_⟩
  simp only [List.cons_append, List.nil_append, List.append_nil, List.filterMap_cons, List.filterMap_nil, List.getElem?_toArray, List.getElem?_cons_zero, List.getElem?_cons_succ]
  go_wp2_with fail
  refine ⟨rfl, trivial, partsI_last ?_⟩
  simp only [List.cons_append, List.nil_append, List.append_nil, List.filterMap_cons, List.filterMap_nil, List.getElem?_toArray, List.getElem?_cons_zero, List.getElem?_cons_succ]
  refine wpList_copy_text rfl _ _ 77 9 rfl 5 Try.underlying77 ksizeU8 (w.heap.size + 1) 1 32 32 (s.extract (a + 4) s.size) rfl rfl ((rfC rf0).setIfInBounds 0 (.int .u32 (n4 : Int))) 48 r2.drew 32 (by rw [HS]; show 32 = min (s.size - (a + 4)) 32; omega) (by rw [Array.size_setIfInBounds, rfC_size]; omega) ?_
  rw [HDC.out]
  simp only [Act.put, List.setIfInBounds_toArray, List.set_cons_zero, List.set_cons_succ]
  go_wp2_with fail
  refine ⟨rfl, ?_⟩
  have r4 : Blk (w2.drew.setRow (w.heap.size + 1) (rfC X)) (w.heap.size + 1) 48 (rfC X) := r2.drew.set _
  have q4 : Blk (w2.drew.setRow (w.heap.size + 1) (rfC X)) w.heap.size 48 (rfC rf0) := q2.drew.other _ (by omega)
  have hb4 : Below w.heap.size w (w2.drew.setRow (w.heap.size + 1) (rfC X)) := below_setRow hb2.drew (by omega) _
  have hs4 : (w2.drew.setRow (w.heap.size + 1) (rfC X)).heap.size = w2.heap.size := by simp
  clear HDC r2 q2 hb2 HS
  generalize (w2.drew.setRow (w.heap.size + 1) (rfC X)) = w4 at *
  go_wp2_with (first
    | (refine wpList_load_rowg (by rfl) 48 _ (by rfl) (w.heap.size + 1) (by rfl) 48 (rfC X) (0, 0) _ (by exact r4) Try.underlying48 (by rfl) (slSizeRef.trans (by rw [rfC_size])) ?_; simp only [Act.put, List.setIfInBounds_toArray, List.set_cons_zero, List.set_cons_succ])
    | fail)
  refine (HR.out w4).mono ?_
  rintro e w5 ⟨rfl, hb5⟩
  have r5 : Blk w5 (w.heap.size + 1) 48 (rfC X) := r4.below hb5 (by omega)
  have q5 : Blk w5 w.heap.size 48 (rfC rf0) := q4.below hb5 (by omega)
  have hb6 : Below w.heap.size w w5 := hb4.trans (hb5.mono (by omega))
  clear r4 q4 hb4 hb5 hs4
  cases b
  · go_wp2_with (first
      | (refine wpList_store_row (by rfl) 48 _ _ (by rfl) (w.heap.size) (rfC rf0) (by rfl) (by rfl) 48 (_) (by exact q5) (slSizeRef.trans (by rw [rfC_size])) (by simp only [rfC_size]) (rfC_all _) ?_; simp only [Act.put, List.setIfInBounds_toArray, List.set_cons_zero, List.set_cons_succ])
      | fail)
    try simp only [Exit.inBlock, Exit.then]
    refine bodyPost_ret (results_row2 Try.results24 _ _ (w.heap.size) 48 (rfC rf0) (0, 0) _ rfl (q5.set _) Try.underlying48 rfl (slSizeRef.trans (by rw [rfC_size]))) rfl ?_
    exact ⟨rfl, below_setRow hb6 (Nat.le_refl _) _⟩
  · go_wp2_with (first
      | (refine wpList_load_rowg (by rfl) 48 _ (by rfl) (w.heap.size + 1) (by rfl) 48 (rfC X) (0, 0) _ (by exact r5) Try.underlying48 (by rfl) (slSizeRef.trans (by rw [rfC_size])) ?_; simp only [Act.put, List.setIfInBounds_toArray, List.set_cons_zero, List.set_cons_succ])
      | (refine wpList_store_row (by rfl) 48 _ _ (by rfl) (w.heap.size) (rfC X) (by rfl) (by rfl) 48 (_) (by exact q5) (slSizeRef.trans (by rw [rfC_size])) (by simp only [rfC_size]) (rfC_all _) ?_; simp only [Act.put, List.setIfInBounds_toArray, List.set_cons_zero, List.set_cons_succ])
      | fail)
    try simp only [Exit.inBlock, Exit.then]
    refine bodyPost_ret (results_row2 Try.results24 _ _ (w.heap.size) 48 (rfC X) (0, 0) _ rfl (q5.set _) Try.underlying48 rfl (slSizeRef.trans (by rw [rfC_size]))) rfl ?_
    exact ⟨rfl, below_setRow hb6 (Nat.le_refl _) _⟩
end Go.Proofs.Ytdbcmdafgojnnaa

namespace Go.Proofs.Ytdbcmdafgojnnaa
open Go Go.RowKit
set_option linter.unusedSimpArgs false
set_option linter.unusedVariables false

/-- a node's block, byte by byte -/
def nodeB (l : Nat) (K : Nat → Rf) : Nat → Nat := fun j => if j < 8 then (if j = 0 then 110 else if j = 1 then 111 else if j = 2 then 100 else if j = 3 then 101 else if j = 4 then l else 0) else if j < 152 then encR (K ((j - 8) / 36)) ((j - 8) % 36) else 0
theorem nodeB_lt (l : Nat) (hl : l < 256) (K : Nat → Rf) (hK : ∀ i, i < 4 → okD (K i).2) (j : Nat) : nodeB l K j < 256 := by
  unfold nodeB
  split
  · repeat' split
    all_goals omega
  · split
    · exact encR_lt _ (hK _ (by omega)) _ (Nat.mod_lt _ (by decide))
    · omega
theorem nodeB_kid (l : Nat) (K : Nat → Rf) (i j : Nat) (hi : i < 4) (hj : j < 36) : nodeB l K (8 + 36 * i + j) = encR (K i) j := by
  unfold nodeB
  rw [if_neg (by omega), if_pos (by omega), show (8 + 36 * i + j - 8) / 36 = i by omega, show (8 + 36 * i + j - 8) % 36 = j by omega]
theorem nodeB_head (l : Nat) (h1 : 1 ≤ l) (h6 : l ≤ 6) (K : Nat → Rf) : ((⟨#[110, 111, 100, 101]⟩ : ByteArray) ++ strN (fun _ => l) 1) ++ (⟨#[0, 0, 0]⟩ : ByteArray) = strN (nodeB l K) 8 := by
  have h : l = 1 ∨ l = 2 ∨ l = 3 ∨ l = 4 ∨ l = 5 ∨ l = 6 := by omega
  rcases h with rfl | rfl | rfl | rfl | rfl | rfl <;> rfl
theorem nodeB_step (l : Nat) (hl : l < 256) (K : Nat → Rf) (hK : ∀ i, i < 4 → okD (K i).2) (k : Nat) (hk : k < 4) : strN (nodeB l K) (8 + 36 * k) ++ strN (encR (K k)) 36 = strN (nodeB l K) (8 + 36 * (k + 1)) := by
  have e := strN_append (nodeB l K) (8 + 36 * k) 36 fun j _ => nodeB_lt l hl K hK j
  rw [strN_congr (f := fun j => nodeB l K (8 + 36 * k + j)) (g := encR (K k)) fun j hj => nodeB_kid l K k j hk hj] at e
  rw [e]
  congr 1
theorem run_index_kid (t te : TypeId) (ht : Try.prog.underlying t = some (.array 4 te)) (u : TypeDesc) (hu : Try.prog.underlying te = some u) (hd : u.isRow = true) (hs : (Try.prog.info? te).map (·.size) = some 33) (K : Nat → Rf) (k : Nat) (hk : k < 4) (w : World) : (Instr.index t (.agg (kdC K)) (.int .i64 (k : Int))).run Try.prog w = .ok (.agg (rfC (K k))) w := by
  have hp := part_agg te 33 u hu hd hs (kdC K) (rfC (K k)) (k * 33) (kd_extract K k hk) w
  have hz := size_at te 33 hs w
  have h1 : (k : Int) < 4 := by omega
  simp [Instr.index, asIntOf, run_underlying ht, h1, hz, hp]
  intro h
  omega
set_option maxRecDepth 100000 in
set_option maxHeartbeats 4000000 in
theorem block_level (l : Int) (hl : l < 1 ∨ 6 < l) (K : Nat → Rf) (w : World) : Calls Try.prog 34 #[.agg (ndC l K)] w fun e w' => e = .returned (.tuple #[bkV fun _ => 0, .int .i64 1]) ∧ Below w.heap.size w w' := by
  unfold bkV
  have hz := zero_bk
  have hz8 := zero_ref
  have r0 : Blk ((w.alloc (.cells (ndC l K) 83)).alloc (.cells (va 256 (iv .u8 fun _ => 0)) 60)) w.heap.size 83 (va 133 (ndF l K)) := (Blk.new _ _ _).alloc _
  have r1 : Blk ((w.alloc (.cells (ndC l K) 83)).alloc (.cells (va 256 (iv .u8 fun _ => 0)) 60)) (w.heap.size + 1) 60 (va 256 (iv .u8 fun _ => 0)) := Blk.new1 _ _ _ _
  have hb : Below w.heap.size w ((w.alloc (.cells (ndC l K) 83)).alloc (.cells (va 256 (iv .u8 fun _ => 0)) 60)) := below_new2 _ _ _
  have hsz : ((w.alloc (.cells (ndC l K) 83)).alloc (.cells (va 256 (iv .u8 fun _ => 0)) 60)).heap.size = w.heap.size + 2 := by simp
  have x0 : ((w.alloc (.cells (ndC l K) 83)).alloc (.cells (va 256 (iv .u8 fun _ => 0)) 60)).cell? ⟨w.heap.size, 0, none⟩ = some (.int .i64 l) := by
    rw [r0.cell]
    exact va_at (ndF l K) (by decide)
  rcases hl with hl | hl
  · go_enter Try.func34, Try.ntmps34
    go_wp2_with (first
      | (refine wpList_store_row (by rfl) 60 _ _ (by rfl) (w.heap.size + 1) (va 256 (iv .u8 (fun _ => 0))) (by rfl) (by rfl) 60 (_) (by exact r1) (sizeBk.trans (by rw [va_size])) (by simp only [va_size]) (iv_one _ _ _) ?_; simp only [Act.put, List.setIfInBounds_toArray, List.set_cons_zero, List.set_cons_succ])
      | fail)
    try simp only [Exit.inBlock, Exit.then]
    refine bodyPost_ret (results_row2 Try.results34 _ _ (w.heap.size + 1) 60 (va 256 (iv .u8 (fun _ => 0))) (0, 0) _ rfl (r1.set _) Try.underlying60 rfl (sizeBk.trans (by rw [va_size]))) rfl ?_
    exact ⟨rfl, below_setRow hb (by omega) _⟩
  · go_enter Try.func34, Try.ntmps34
    go_wp2_with (first
      | (refine wpList_store_row (by rfl) 60 _ _ (by rfl) (w.heap.size + 1) (va 256 (iv .u8 (fun _ => 0))) (by rfl) (by rfl) 60 (_) (by exact r1) (sizeBk.trans (by rw [va_size])) (by simp only [va_size]) (iv_one _ _ _) ?_; simp only [Act.put, List.setIfInBounds_toArray, List.set_cons_zero, List.set_cons_succ])
      | fail)
    try simp only [Exit.inBlock, Exit.then]
    refine bodyPost_ret (results_row2 Try.results34 _ _ (w.heap.size + 1) 60 (va 256 (iv .u8 (fun _ => 0))) (0, 0) _ rfl (r1.set _) Try.underlying60 rfl (sizeBk.trans (by rw [va_size]))) rfl ?_
    exact ⟨rfl, below_setRow hb (by omega) _⟩
/-- what Block answers -/
def ndOk (l : Int) (K : Nat → Rf) : Bool := decide (1 ≤ l) && decide (l ≤ 6) && (List.range 4).all fun i => rOk (K i)
def blkF (l : Int) (K : Nat → Rf) : Nat → Nat := if ndOk l K then nodeB l.toNat K else fun _ => 0
set_option maxRecDepth 100000 in
set_option maxHeartbeats 4000000 in
theorem block_in (l : Nat) (h1 : 1 ≤ l) (h6 : l ≤ 6) (K : Nat → Rf) (hK : ∀ i, i < 4 → okD (K i).2) (X : Nat → Nat) (Y : Int) (HXY : Hid ((X, Y) = if ndOk l K then (nodeB l K, (0 : Int)) else (fun _ => 0, 1))) (w : World) : Calls Try.prog 34 #[.agg (ndC (l : Int) K)] w fun e w' => e = .returned (.tuple #[bkV X, .int .i64 Y]) ∧ Below w.heap.size w w' := by
  unfold bkV
  have hz := zero_bk
  have hz8 := zero_ref
  have r0 : Blk ((w.alloc (.cells (ndC (l : Int) K) 83)).alloc (.cells (va 256 (iv .u8 fun _ => 0)) 60)) w.heap.size 83 (va 133 (ndF (l : Int) K)) := (Blk.new _ _ _).alloc _
  have r1 : Blk ((w.alloc (.cells (ndC (l : Int) K) 83)).alloc (.cells (va 256 (iv .u8 fun _ => 0)) 60)) (w.heap.size + 1) 60 (va 256 (iv .u8 fun _ => 0)) := Blk.new1 _ _ _ _
  have hb : Below w.heap.size w ((w.alloc (.cells (ndC (l : Int) K) 83)).alloc (.cells (va 256 (iv .u8 fun _ => 0)) 60)) := below_new2 _ _ _
  have hsz : ((w.alloc (.cells (ndC (l : Int) K) 83)).alloc (.cells (va 256 (iv .u8 fun _ => 0)) 60)).heap.size = w.heap.size + 2 := by simp
  have x0 : ((w.alloc (.cells (ndC (l : Int) K) 83)).alloc (.cells (va 256 (iv .u8 fun _ => 0)) 60)).cell? ⟨w.heap.size, 0, none⟩ = some (.int .i64 (l : Int)) := by
    rw [r0.cell]
    exact va_at (ndF (l : Int) K) (by decide)
  have HKD : Hid ((((w.alloc (.cells (ndC (l : Int) K) 83)).alloc (.cells (va 256 (iv .u8 fun _ => 0)) 60)).alloc (.cells #[.int .u8 (l : Int)] 5)).rangeAt w.heap.size 1 ((List.range 132).map (kdF K))) := fun j v hv => by
    have := (r0.alloc (.cells #[.int .u8 (l : Int)] 5)).range 1 132 (by omega) j v
    refine this ?_
    rw [← hv]
    congr 1
  have hbt : ∀ W : World, True := fun _ => trivial
  have e8 : (l : Int) % 256 = l := by omega
  have hc : (convert 77 9 (.slice (some ⟨w.heap.size + 2, 0, none⟩) 1 1)).run Try.prog (((w.alloc (.cells (ndC (l : Int) K) 83)).alloc (.cells (va 256 (iv .u8 fun _ => 0)) 60)).alloc (.cells #[.int .u8 (l : Int)] 5)) = .ok (.string (strN (fun _ => l) 1)) (((w.alloc (.cells (ndC (l : Int) K) 83)).alloc (.cells (va 256 (iv .u8 fun _ => 0)) 60)).alloc (.cells #[.int .u8 (l : Int)] 5)) := by
    have q : Blk (((w.alloc (.cells (ndC (l : Int) K) 83)).alloc (.cells (va 256 (iv .u8 fun _ => 0)) 60)).alloc (.cells #[.int .u8 (l : Int)] 5)) (w.heap.size + 2) 5 (va 1 (iv .u8 fun _ => l)) := Blk.new2 _ _ _ _ _
    exact run_bytes_text (P := Try.prog) _ 77 5 9 Try.underlying77 Try.underlying5 Try.underlying9 q 0 1 1 (by omega)
  have hh := nodeB_head l h1 h6 K
  have z1 : (strN (fun _ => l) 1).size = 1 := strN_size _ _
  go_enter Try.func34, Try.ntmps34
  go_wp2_with (first
    | (refine wpList_load_blk (by rfl) 81 _ (by rfl) (w.heap.size) (1) 132 (kdF K) (by rfl) _ (by exact HKD.out) Try.underlying81 rfl sizeKid ?_; simp only [Act.put, List.setIfInBounds_toArray, List.set_cons_zero, List.set_cons_succ])
    | fail)
  clear hc
  have q1 : Blk (((w.alloc (.cells (ndC (l : Int) K) 83)).alloc (.cells (va 256 (iv .u8 fun _ => 0)) 60)).alloc (.cells #[.int .u8 (l : Int)] 5)) (w.heap.size + 1) 60 (va 256 (iv .u8 fun _ => 0)) := r1.alloc _
  have hb3 : Below w.heap.size w (((w.alloc (.cells (ndC (l : Int) K) 83)).alloc (.cells (va 256 (iv .u8 fun _ => 0)) 60)).alloc (.cells #[.int .u8 (l : Int)] 5)) := hb.alloc (by rw [hsz]; omega) _
  have hs3 : (((w.alloc (.cells (ndC (l : Int) K) 83)).alloc (.cells (va 256 (iv .u8 fun _ => 0)) 60)).alloc (.cells #[.int .u8 (l : Int)] 5)).heap.size = w.heap.size + 3 := by simp
  clear r0 r1 hb x0 HKD hsz
  generalize (((w.alloc (.cells (ndC (l : Int) K) 83)).alloc (.cells (va 256 (iv .u8 fun _ => 0)) 60)).alloc (.cells #[.int .u8 (l : Int)] 5)) = W at *
  go_loopw [4, 25] (fun t i wr => ∃ k : Nat, k ≤ 4 ∧ t = .string (strN (nodeB l K) (8 + 36 * k)) ∧ i = .int .i64 (k : Int) ∧ (∀ i, i < k → rOk (K i) = true) ∧ Blk wr (w.heap.size + 1) 60 (va 256 (iv .u8 fun _ => 0)) ∧ Below w.heap.size w wr ∧ w.heap.size + 3 ≤ wr.heap.size) (fun _ i _ => 4 - (intOf i).toNat)
  case atStart => exact ⟨0, by omega, rfl, rfl, fun i hi => absurd hi (by omega), q1, hb3, by omega⟩
  case round =>
    clear q1 hb3 hs3
    obtain ⟨k, hk, rfl, rfl, hR, q, hb, hs⟩ := hrel
    by_cases hlt : k < 4
    · have hx : ∀ W, (Instr.index 81 (.agg (va 132 (kdF K))) (.int .i64 (k : Int))).run Try.prog W = .ok (.agg (rfC (K k))) W := run_index_kid 81 48 Try.underlying81 _ Try.underlying48 rfl slSizeRef K k hlt
      have k1 : (k : Int) < 4 := by omega
      have HS : Hid (strN (nodeB l K) (8 + 36 * k) ++ strN (encR (K k)) 36 = strN (nodeB l K) (8 + 36 * (k + 1))) := nodeB_step l (by omega) K hK k hlt
      have s1 : (strN (nodeB l K) (8 + 36 * k)).size = 8 + 36 * k := strN_size _ _
      have s2 : (strN (encR (K k)) 36).size = 36 := strN_size _ _
      have HN : Hid (strN (nodeB l K) (8 + 36 * k) ++ strN (encR (K k)) 36 = strN (nodeB l K) (8 + 36 * (k + 1))) := HS.out
      have p1 : Blk (wr.alloc (.cells (rfC rf0) 48)) wr.heap.size 48 (rfC rf0) := Blk.new _ _ _
      have q1 : Blk (wr.alloc (.cells (rfC rf0) 48)) (w.heap.size + 1) 60 (va 256 (iv .u8 fun _ => 0)) := q.alloc _
      have hb1 : Below w.heap.size w (wr.alloc (.cells (rfC rf0) 48)) := hb.alloc (by omega) _
      have hs1 : (wr.alloc (.cells (rfC rf0) 48)).heap.size = wr.heap.size + 1 := by simp
      have HRT : Hid (∀ w, Calls Try.prog 58 #[.agg (rfC (K k))] w fun e w' => e = .returned (.bool (rOk (K k))) ∧ Below w.heap.size w w') := right_any (K k)
      have HEN : Hid (∀ w, Calls Try.prog 26 #[.agg (rfC (K k))] w fun e w' => e = .returned (.string (strN (encR (K k)) 36)) ∧ Below w.heap.size w w') := encR_any (K k) (hK k hlt)
      have HRK : Hid (∀ b, rOk (K k) = b → b = true → ∀ i, i < k + 1 → rOk (K i) = true) := fun b h1 h2 i hi => by
        rcases Nat.lt_or_ge i k with h | h
        · exact hR i h
        · rw [show i = k by omega, h1, h2]
      have HRF : Hid (rOk (K k) = false → ndOk l K = false) := fun h => by
        have : ((List.range 4).all fun i => rOk (K i)) = false := by
          rw [List.all_eq_false]
          exact ⟨k, by simpa using hlt, by simp [h]⟩
        unfold ndOk
        rw [this, Bool.and_false]
      have HRS : Hid ((rfC (K k)).size = 33) := rfC_size _
      have HRA : Hid ((rfC (K k)).all (·.oneCell') = true) := rfC_all _
      generalize hrb : rOk (K k) = b at *
      generalize strN (encR (K k)) 36 = t2 at *
      generalize strN (nodeB l K) (8 + 36 * k) = t1 at *
      generalize rfC (K k) = rc at *
      have hrs : rc.size = 33 := HRS.out
      go_wp2_with (first
        | (refine wpList_store_row (by rfl) 48 _ _ (by rfl) (wr.heap.size) (rc) (by rfl) (by rfl) 48 (rfC rf0) (by exact p1) (slSizeRef.trans (by rw [hrs])) (by rw [hrs, rfC_size]) (HRA.out) ?_; simp only [Act.put, List.setIfInBounds_toArray, List.set_cons_zero, List.set_cons_succ])
        | (refine wpList_load_rowg (by rfl) 48 _ (by rfl) (wr.heap.size) (by rfl) 48 (rc) (0, 0) _ (by exact p1.set _) Try.underlying48 (by rfl) (slSizeRef.trans (by rw [hrs])) ?_; simp only [Act.put, List.setIfInBounds_toArray, List.set_cons_zero, List.set_cons_succ])
        | fail)
      have p2 : Blk ((wr.alloc (.cells (rfC rf0) 48)).setRow wr.heap.size rc) wr.heap.size 48 rc := p1.set _
      have q2 : Blk ((wr.alloc (.cells (rfC rf0) 48)).setRow wr.heap.size rc) (w.heap.size + 1) 60 (va 256 (iv .u8 fun _ => 0)) := q1.other _ (by omega)
      have hb2 : Below w.heap.size w ((wr.alloc (.cells (rfC rf0) 48)).setRow wr.heap.size rc) := below_setRow hb1 (by omega) _
      have hs2 : ((wr.alloc (.cells (rfC rf0) 48)).setRow wr.heap.size rc).heap.size = wr.heap.size + 1 := by simp
      clear p1 q1 hb1 hs1
      generalize ((wr.alloc (.cells (rfC rf0) 48)).setRow wr.heap.size rc) = w2 at *
      refine (HRT.out w2).mono ?_
      rintro e w3 ⟨rfl, hb3⟩
      have hs3 := hb3.size
      have p3 : Blk w3 wr.heap.size 48 rc := p2.below hb3 (by omega)
      have q3 : Blk w3 (w.heap.size + 1) 60 (va 256 (iv .u8 fun _ => 0)) := q2.below hb3 (by omega)
      have hb4 : Below w.heap.size w w3 := hb2.trans (hb3.mono (by omega))
      clear p2 q2 hb2 hb3 HRT
      cases b
      · go_wp2_with (first
          | (refine wpList_store_row (by rfl) 60 _ _ (by rfl) (w.heap.size + 1) (va 256 (iv .u8 (fun _ => 0))) (by rfl) (by rfl) 60 (_) (by exact q3) (sizeBk.trans (by rw [va_size])) (by simp only [va_size]) (iv_one _ _ _) ?_; simp only [Act.put, List.setIfInBounds_toArray, List.set_cons_zero, List.set_cons_succ])
          | fail)
        try simp only [Exit.inBlock, Exit.then]
        refine bodyPost_ret (results_row2 Try.results34 _ _ (w.heap.size + 1) 60 (va 256 (iv .u8 fun _ => 0)) (0, 0) _ rfl (q3.set _) Try.underlying60 rfl (sizeBk.trans (by rw [va_size]))) rfl ?_
        have e : ndOk (l : Int) K = false := HRF.out (by first | rfl | trivial)
        refine ⟨?_, below_setRow hb4 (by omega) _⟩
        have hxy := HXY.out
        rw [e] at hxy
        injection hxy with hx hy
        subst hx hy
        rfl
      · go_wp2_with (first
          | (refine wpList_load_rowg (by rfl) 48 _ (by rfl) (wr.heap.size) (by rfl) 48 (rc) (0, 0) _ (by exact p3) Try.underlying48 (by rfl) (slSizeRef.trans (by rw [hrs])) ?_; simp only [Act.put, List.setIfInBounds_toArray, List.set_cons_zero, List.set_cons_succ])
          | fail)
        refine (HEN.out w3).mono ?_
        rintro e w4 ⟨rfl, hb5⟩
        have hs5 := hb5.size
        have q4 : Blk w4 (w.heap.size + 1) 60 (va 256 (iv .u8 fun _ => 0)) := q3.below hb5 (by omega)
        have hb6 : Below w.heap.size w w4 := hb4.trans (hb5.mono (by omega))
        clear p3 q3 hb4 hb5 HEN
        go_wp2_with fail
        go_roundw
        case rel => exact ⟨k + 1, by omega, by rw [← HS.out], by simp, HRK.out true rfl rfl, q4, hb6, by omega⟩
        case measure => simp [intOf]; omega
    · have e : k = 4 := by omega
      subst e
      have HO : Hid (ndOk l K = true) := by
        show ndOk l K = true
        unfold ndOk
        rw [Bool.and_eq_true, Bool.and_eq_true, decide_eq_true_eq, decide_eq_true_eq, List.all_eq_true]
        exact ⟨⟨by omega, by omega⟩, fun i hi => hR i (by simpa using hi)⟩
      have HF : Hid (∀ w, Calls Try.prog 62 #[.string (strN (nodeB l K) (8 + 36 * 4))] w fun e w' => e = .returned (.tuple #[.agg (va 256 (iv .u8 (nodeB l K))), .int .i64 0]) ∧ Below w.heap.size w w') := fun w => by
        have hsz : (strN (nodeB l K) (8 + 36 * 4)).size = 152 := strN_size _ _
        have := blockOf_fit (strN (nodeB l K) (8 + 36 * 4)) (by omega) w
        have e : bkV (tbyte (strN (nodeB l K) (8 + 36 * 4))) = .agg (va 256 (iv .u8 (nodeB l K))) := bkV_congr fun i hi => by
          by_cases h : i < 152
          · exact strN_at _ _ i h (nodeB_lt l (by omega) K hK i)
          · rw [tbyte_out _ _ (by omega)]
            unfold nodeB
            rw [if_neg (by omega), if_neg h]
        rw [e] at this
        exact this
      generalize strN (nodeB l K) (8 + 36 * 4) = t1 at *
      go_wp2_with fail
      refine (HF.out wr).mono ?_
      rintro e w4 ⟨rfl, hb5⟩
      have q4 : Blk w4 (w.heap.size + 1) 60 (va 256 (iv .u8 fun _ => 0)) := q.below hb5 (by omega)
      have hb6 : Below w.heap.size w w4 := hb.trans (hb5.mono (by omega))
      go_wp2_with (first
        | (refine wpList_store_row (by rfl) 60 _ _ (by rfl) (w.heap.size + 1) (va 256 (iv .u8 (nodeB l K))) (by rfl) (by rfl) 60 (_) (by exact q4) (sizeBk.trans (by rw [va_size])) (by simp only [va_size]) (iv_one _ _ _) ?_; simp only [Act.put, List.setIfInBounds_toArray, List.set_cons_zero, List.set_cons_succ])
        | fail)
      try simp only [Exit.inBlock, Exit.then]
      refine bodyPost_ret (results_row2 Try.results34 _ _ (w.heap.size + 1) 60 (va 256 (iv .u8 (nodeB l K))) (0, 0) _ rfl (q4.set _) Try.underlying60 rfl (sizeBk.trans (by rw [va_size]))) rfl ?_
      refine ⟨?_, below_setRow hb6 (by omega) _⟩
      have hxy := HXY.out
      rw [HO.out] at hxy
      injection hxy with hx hy
      subst hx hy
      rfl
theorem block_any (l : Int) (K : Nat → Rf) (hK : ∀ i, i < 4 → okD (K i).2) (w : World) : Calls Try.prog 34 #[.agg (ndC l K)] w fun e w' => e = .returned (.tuple #[bkV (blkF l K), .int .i64 (if ndOk l K then 0 else 1)]) ∧ Below w.heap.size w w' := by
  by_cases h : l < 1 ∨ 6 < l
  · have e : ndOk l K = false := by
      unfold ndOk
      rcases h with h | h
      · rw [decide_eq_false (p := 1 ≤ l) (by omega), Bool.false_and, Bool.false_and]
      · rw [decide_eq_false (p := l ≤ 6) (by omega), Bool.and_false, Bool.false_and]
    unfold blkF
    rw [e]
    exact block_level l h K w
  · obtain ⟨n, rfl⟩ : ∃ n : Nat, l = (n : Int) := ⟨l.toNat, by omega⟩
    refine block_in n (by omega) (by omega) K hK (blkF n K) (if ndOk n K then 0 else 1) ?_ w
    show (_, _) = _
    unfold blkF
    cases ndOk n K
    · rfl
    · rfl
end Go.Proofs.Ytdbcmdafgojnnaa
