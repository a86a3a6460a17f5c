/- An entry put into a log: the program's contract. -/
import Derived.Test.YtdniigefmlmcdaaHSegsS
import Derived.Handy
import Derived.Test.YtdniigefmlmcdaaHNdTake
import Derived.Test.YtdniigefmlmcdaaHBlkKit
import Derived.Test.YtdniigefmlmcdaaHRoundsRefPos
import Derived.Test.YtdniigefmlmcdaaHTurnsMix
import Derived.Maps.AppendAt
import Derived.Deep.RegionLaw
import Derived.WalkSmall
import Derived.Deep.Heap

namespace Go.Proofs.Ytdniigefmlmcdaa
open Go Go.RowKit
set_option linter.unusedSimpArgs false
set_option linter.unusedVariables false

set_option maxRecDepth 100000 in
set_option maxHeartbeats 4000000 in
theorem none_any (r : Rf) (w : World) : Calls Try.prog 73 #[.agg (rfC r)] w fun e w' => e = .returned (.bool (decide (r = rf0))) ∧ Below w.heap.size w w' := by
  have r0 : Blk (w.alloc (.cells (rfC r) 48)) w.heap.size 48 (rfC r) := Blk.new _ _ _
  have hb : Below w.heap.size w (w.alloc (.cells (rfC r) 48)) := below_new1 _ _
  have hz := zero_ref
  have hq : ∀ W, (Op.equalIn 10000 48 (.agg (rfC r)) (.agg (rfC rf0))).run Try.prog W = .ok (decide (r = rf0)) W := eq_ref 9997 r rf0
  obtain ⟨b, hbd⟩ : ∃ b, b = decide (r = rf0) := ⟨_, rfl⟩
  rw [← hbd] at hq ⊢
  clear hbd
  go_enter Try.func73, Try.ntmps73
  go_wp2_with (first
    | (refine wpList_load_rowg (by rfl) 48 _ (by rfl) (w.heap.size) (by rfl) 48 (rfC r) (0, 0) _ (by exact r0) Try.underlying48 (by rfl) (slSizeRef.trans (by rw [rfC_size])) ?_; simp only [Act.put, List.setIfInBounds_toArray, List.set_cons_zero, List.set_cons_succ])
    | fail)
  go_ret
  exact ⟨rfl, hb⟩
set_option maxRecDepth 100000 in
set_option maxHeartbeats 4000000 in
theorem right_any (r : Rf) (w : World) : Calls Try.prog 106 #[.agg (rfC r)] w fun e w' => e = .returned (.bool (rOk r)) ∧ Below w.heap.size w w' := by
  have r0 : Blk (w.alloc (.cells (rfC r) 48)) w.heap.size 48 (rfC r) := Blk.new _ _ _
  have hb : Below w.heap.size w (w.alloc (.cells (rfC r) 48)) := below_new1 _ _
  have hsz : (w.alloc (.cells (rfC r) 48)).heap.size = w.heap.size + 1 := by simp
  have hn : Hid (∀ w, Calls Try.prog 73 #[.agg (rfC r)] w fun e w' => e = .returned (.bool (decide (r = rf0))) ∧ Below w.heap.size w w') := none_any r
  have hx : (w.alloc (.cells (rfC r) 48)).cell? ⟨w.heap.size, 0, none⟩ = some (.int .u32 (r.1 : Int)) := by
    rw [r0.cell]
    exact va_at (rfF r.1 r.2) (by decide)
  have HO : Hid (rOk r = (decide (r = rf0) || decide (r.1 ≠ 0))) := rfl
  obtain ⟨b, hbd⟩ : ∃ b, b = decide (r = rf0) := ⟨_, rfl⟩
  obtain ⟨n, hnd⟩ : ∃ n, n = r.1 := ⟨_, rfl⟩
  rw [← hbd] at hn HO
  rw [← hnd] at hx HO
  clear hbd hnd
  go_enter Try.func106, Try.ntmps106
  go_wp2_with (first
    | (refine wpList_load_rowg (by rfl) 48 _ (by rfl) (w.heap.size) (by rfl) 48 (rfC r) (0, 0) _ (by exact r0) Try.underlying48 (by rfl) (slSizeRef.trans (by rw [rfC_size])) ?_; simp only [Act.put, List.setIfInBounds_toArray, List.set_cons_zero, List.set_cons_succ])
    | fail)
  generalize (w.alloc (.cells (rfC r) 48)) = w1 at *
  refine (hn.out w1).mono ?_
  rintro e w2 ⟨rfl, hb2⟩
  have r2 : Blk w2 w.heap.size 48 (rfC r) := r0.below hb2 (by omega)
  have hx2 : w2.cell? ⟨w.heap.size, 0, none⟩ = some (.int .u32 (n : Int)) := by
    rw [← hx, r2.cell, r0.cell]
  have hb3 : Below w.heap.size w w2 := hb.trans (hb2.mono (by omega))
  clear hn hx r0 hb hb2 r2
  cases b
  · go_wp2_with fail
    go_ret
    refine ⟨?_, hb3⟩
    rw [HO.out]
    by_cases h0 : n = 0
    · subst h0
      rfl
    · have : ¬ (n : Int) = 0 := by omega
      simp [h0, this]
  · go_wp2_with fail
    go_ret
    refine ⟨?_, hb3⟩
    rw [HO.out]
    rfl
theorem enc_lo (r : Rf) (hr : okD r.2) : strN (dig r.1) 4 ++ strN (dF r.2) 32 = strN (encR r) 36 := by
  have e := strN_append (encR r) 4 32 fun j hj => encR_lt r hr j hj
  have e1 : strN (encR r) 4 = strN (dig r.1) 4 := strN_congr fun j hj => by
    unfold encR
    rw [if_pos hj]
  have e2 : strN (fun j => encR r (4 + j)) 32 = strN (dF r.2) 32 := strN_congr fun j hj => by
    unfold encR
    rw [if_neg (by omega), show 4 + j - 4 = j by omega]
  rw [e1, e2] at e
  exact e
set_option maxRecDepth 100000 in
set_option maxHeartbeats 4000000 in
theorem encR_any (r : Rf) (hr : okD r.2) (w : World) : Calls Try.prog 107 #[.agg (rfC r)] w fun e w' => e = .returned (.string (strN (encR r) 36)) ∧ Below w.heap.size w w' := by
  have r0 : Blk (w.alloc (.cells (rfC r) 48)) w.heap.size 48 (rfC r) := Blk.new _ _ _
  have hb : Below w.heap.size w (w.alloc (.cells (rfC r) 48)) := below_new1 _ _
  have hx : (w.alloc (.cells (rfC r) 48)).cell? ⟨w.heap.size, 0, none⟩ = some (.int .u32 (r.1 : Int)) := by
    rw [r0.cell]
    exact va_at (rfF r.1 r.2) (by decide)
  have hsz : (w.alloc (.cells (rfC r) 48)).heap.size = w.heap.size + 1 := by simp
  go_enter Try.func107, Try.ntmps107
  go_wp2_with fail
  generalize (w.alloc (.cells (rfC r) 48)) = w1 at *
  refine (bytes32_va r.1 w1).mono ?_
  rintro e w2 ⟨rfl, hb2⟩
  have hs2 := hb2.size
  have r2 : Blk w2 w.heap.size 48 (rfC r) := r0.below hb2 (by omega)
  have hb3 : Below w.heap.size w w2 := hb.trans (hb2.mono (by omega))
  have z4 : (Try.prog.info? 238).map (·.size) = some 4 := by kernel_rfl
  clear r0 hb hx hb2
  have r3 : Blk (w2.alloc (.cells (va 4 (iv .u8 fun _ => 0)) 238)) w.heap.size 48 (rfC r) := r2.alloc _
  have q3 : Blk (w2.alloc (.cells (va 4 (iv .u8 fun _ => 0)) 238)) w2.heap.size 238 (va 4 (iv .u8 fun _ => 0)) := Blk.new _ _ _
  have hb4 : Below w.heap.size w (w2.alloc (.cells (va 4 (iv .u8 fun _ => 0)) 238)) := hb3.alloc (by omega) _
  have hz : ∀ w, (zeroValue 238).run Try.prog w = .ok (.agg (va 4 (iv .u8 fun _ => 0))) w := zero_of (by kernel_rfl)
  go_wp2_with (first
    | (refine wpList_store_row (by rfl) 238 _ _ (by rfl) (w2.heap.size) (va 4 (iv .u8 (dig r.1))) (by rfl) (by rfl) 238 (va 4 (iv .u8 fun _ => 0)) (by exact q3) (z4.trans (by rw [va_size])) (by simp only [va_size]) (iv_one _ _ _) ?_; simp only [Act.put, List.setIfInBounds_toArray, List.set_cons_zero, List.set_cons_succ])
    | fail)
  have r5 : Blk ((w2.alloc (.cells (va 4 (iv .u8 fun _ => 0)) 238)).setRow w2.heap.size (va 4 (iv .u8 (dig r.1)))) w.heap.size 48 (va 33 (rfF r.1 r.2)) := r3.other _ (by omega)
  have q5 : Blk ((w2.alloc (.cells (va 4 (iv .u8 fun _ => 0)) 238)).setRow w2.heap.size (va 4 (iv .u8 (dig r.1)))) w2.heap.size 238 (va 4 (iv .u8 (dig r.1))) := q3.set _
  have hb5 : Below w.heap.size w ((w2.alloc (.cells (va 4 (iv .u8 fun _ => 0)) 238)).setRow w2.heap.size (va 4 (iv .u8 (dig r.1)))) := below_setRow hb4 (by omega) _
  clear r3 q3 hb4 r2 hb3
  generalize ((w2.alloc (.cells (va 4 (iv .u8 fun _ => 0)) 238)).setRow w2.heap.size (va 4 (iv .u8 (dig r.1)))) = w5 at *
  have hc1 : ∀ W, Blk W w2.heap.size 238 (va 4 (iv .u8 (dig r.1))) → (convert 206 9 (.slice (some ⟨w2.heap.size, 0, none⟩) 4 4)).run Try.prog W = .ok (.string (strN (dig r.1) 4)) W := fun W hW => by
    have := run_bytes_text (P := Try.prog) W 206 5 9 Try.underlying206 Try.underlying5 Try.underlying9 hW 0 4 4 (by omega)
    rwa [show (fun j => dig r.1 (0 + j)) = dig r.1 by funext j; rw [Nat.zero_add]] at this
  have hc2 : ∀ W, Blk W w.heap.size 48 (va 33 (rfF r.1 r.2)) → (convert 206 9 (.slice (some ⟨w.heap.size, 1, none⟩) 32 32)).run Try.prog W = .ok (.string (strN (dF r.2) 32)) W := fun W hW => by
    exact run_convert_bytes_arg W 206 5 Try.underlying206 Try.underlying5 w.heap.size 1 32 32 _ (by simp) (fun i hi => by
      rw [hW.cv (i := 1 + i) (by omega)]
      unfold rfF
      rw [if_neg (by omega), show 1 + i - 1 = i by omega]
      simp [List.getD_eq_getElem?_getD, hi]) 9 Try.underlying9
  have h1 := hc1 w5.drew q5.drew
  have h2 := hc2 w5.drew r5.drew
  have he := enc_lo r hr
  have z1 : (strN (dig r.1) 4).size = 4 := strN_size _ _
  have z2 : (strN (dF r.2) 32).size = 32 := strN_size _ _
  generalize strN (dig r.1) 4 = t1 at *
  generalize strN (dF r.2) 32 = t2 at *
  clear hc1 hc2 q5 r5
  refine wp_region_partsS (fun W => W = w5.drew) [([], 0, true), ([], 1, true), ([], 2, false), ([], 3, false), ([], 4, false), ([], 5, false)] [] [6] (by kernel_rfl) (by kernel_rfl) rfl (partsI_yield ?_)
  simp only [List.cons_append, List.nil_append, List.append_nil, List.filterMap_cons, List.filterMap_nil, List.getElem?_toArray, List.getElem?_cons_zero, List.getElem?_cons_succ]
  go_wp2_with fail
  refine ⟨rfl, _, .slice (some ⟨w2.heap.size, 0, none⟩) 4 4, rfl, Or.inl ⟨by rfl, fun W hW => by go_simp⟩, partsI_yield ?_⟩
  simp only [Act.put, List.setIfInBounds_toArray, List.set_cons_zero, List.set_cons_succ]
  simp only [List.cons_append, List.nil_append, List.append_nil, List.filterMap_cons, List.filterMap_nil, List.getElem?_toArray, List.getElem?_cons_zero, List.getElem?_cons_succ]
  go_wp2_with fail
  refine ⟨rfl, _, .string t1, rfl, Or.inl ⟨by rfl, fun W hW => by rw [hW]; go_simp⟩, partsI_force ?_⟩
  simp only [Act.put, List.setIfInBounds_toArray, List.set_cons_zero, List.set_cons_succ]
  simp only [List.cons_append, List.nil_append, List.append_nil, List.filterMap_cons, List.filterMap_nil, List.getElem?_toArray, List.getElem?_cons_zero, List.getElem?_cons_succ]
  go_wp2_with fail
  refine ⟨rfl, rfl, partsI_force ?_⟩
  simp only [List.cons_append, List.nil_append, List.append_nil, List.filterMap_cons, List.filterMap_nil, List.getElem?_toArray, List.getElem?_cons_zero, List.getElem?_cons_succ]
  go_wp2_with fail
  refine ⟨rfl, rfl, partsI_force ?_⟩
  simp only [List.cons_append, List.nil_append, List.append_nil, List.filterMap_cons, List.filterMap_nil, List.getElem?_toArray, List.getElem?_cons_zero, List.getElem?_cons_succ]
  go_wp2_with fail
  refine ⟨rfl, rfl, partsI_force ?_⟩
  simp only [List.cons_append, List.nil_append, List.append_nil, List.filterMap_cons, List.filterMap_nil, List.getElem?_toArray, List.getElem?_cons_zero, List.getElem?_cons_succ]
  go_wp2_with fail
  refine ⟨rfl, rfl, partsI_last ?_⟩
  simp only [List.cons_append, List.nil_append, List.append_nil, List.filterMap_cons, List.filterMap_nil, List.getElem?_toArray, List.getElem?_cons_zero, List.getElem?_cons_succ]
  go_wp2_with fail
  refine ⟨rfl, ?_⟩
  go_wp2_with fail
  go_ret
  exact ⟨rfl, hb5.drew⟩
/-- the reference that stands in a text -/
def decR (s : ByteArray) (a : Nat) : Rf := (at4 s a, sumD fun i => tbyte s (a + 4 + i))
theorem decR_ok (s : ByteArray) (a : Nat) : okD (decR s a).2 := fun i hi => by
  have e : dF (decR s a).2 i = tbyte s (a + 4 + i) := dF_sumD (fun i => tbyte s (a + 4 + i)) i hi
  rw [e]
  exact tbyte_lt s (a + 4 + i)
theorem decR_cells (n : Nat) (f : Nat → Nat) : (splice ((rfC rf0).setIfInBounds 0 (.int .u32 (n : Int))).toList 1 (byL f 32)).toArray = rfC (n, sumD f) := by
  unfold rfC
  rw [va_set, va_toList]
  refine Eq.trans (by rfl) ((splice_va 33 1 32 _ (fun j => Value.int .u8 ((f j : Nat) : Int)) (by decide)).trans ?_)
  refine va_congr fun i hi => ?_
  by_cases h2 : 1 ≤ i ∧ i < 1 + 32
  · have e1 : rfF (n, sumD f).1 (n, sumD f).2 i = .int .u8 ((f (i - 1) : Nat) : Int) := by
      unfold rfF
      rw [if_neg (by omega), show dF (n, sumD f).2 (i - 1) = f (i - 1) from dF_sumD f _ (by omega)]
    rw [e1]
    unfold overF
    rw [if_pos h2]
  · unfold overF upd
    rw [if_neg h2]
    have h0 : i = 0 := by omega
    subst h0
    rfl
set_option maxRecDepth 100000 in
set_option maxHeartbeats 4000000 in
theorem decodeR_bad (s : ByteArray) (i : Int) (hi : -9223372036854775808 ≤ i ∧ i ≤ 9223372036854775807) (hs : s.size ≤ maxLen) (h : i < 0 ∨ (0 ≤ i ∧ (s.size : Int) - 36 < i)) (w : World) : Calls Try.prog 109 #[.string s, .int .i64 i] w fun e w' => e = .returned (.tuple #[.agg (rfC rf0), .bool false]) ∧ Below w.heap.size w w' := by
  unfold maxLen at hs
  have hz := zero_ref
  have r0 : Blk (w.alloc (.cells (rfC rf0) 48)) w.heap.size 48 (rfC rf0) := Blk.new _ _ _
  have hb : Below w.heap.size w (w.alloc (.cells (rfC rf0) 48)) := below_new1 _ _
  rcases h with h | ⟨h0, h⟩
  · go_enter Try.func109, Try.ntmps109
    go_wp2_with (first
      | (refine wpList_store_row (by rfl) 48 _ _ (by rfl) (w.heap.size) (rfC rf0) (by rfl) (by rfl) 48 (_) (by exact r0) (slSizeRef.trans (by rw [rfC_size])) (by simp only [rfC_size]) (rfC_all _) ?_; simp only [Act.put, List.setIfInBounds_toArray, List.set_cons_zero, List.set_cons_succ])
      | fail)
    try simp only [Exit.inBlock, Exit.then]
    refine bodyPost_ret (results_row2 Try.results109 _ _ (w.heap.size) 48 (rfC rf0) (0, 0) _ rfl (r0.set _) Try.underlying48 rfl (slSizeRef.trans (by rw [rfC_size]))) rfl ?_
    exact ⟨rfl, below_setRow hb (Nat.le_refl _) _⟩
  · go_enter Try.func109, Try.ntmps109
    go_wp2_with (first
      | (refine wpList_store_row (by rfl) 48 _ _ (by rfl) (w.heap.size) (rfC rf0) (by rfl) (by rfl) 48 (_) (by exact r0) (slSizeRef.trans (by rw [rfC_size])) (by simp only [rfC_size]) (rfC_all _) ?_; simp only [Act.put, List.setIfInBounds_toArray, List.set_cons_zero, List.set_cons_succ])
      | fail)
    try simp only [Exit.inBlock, Exit.then]
    refine bodyPost_ret (results_row2 Try.results109 _ _ (w.heap.size) 48 (rfC rf0) (0, 0) _ rfl (r0.set _) Try.underlying48 rfl (slSizeRef.trans (by rw [rfC_size]))) rfl ?_
    exact ⟨rfl, below_setRow hb (Nat.le_refl _) _⟩
set_option maxRecDepth 100000 in
set_option maxHeartbeats 4000000 in
theorem decodeR_good (s : ByteArray) (a : Nat) (hs : s.size ≤ maxLen) (h : a + 36 ≤ s.size) (w : World) : Calls Try.prog 109 #[.string s, .int .i64 (a : Int)] w fun e w' => e = .returned (.tuple #[.agg (rfC (if rOk (decR s a) then decR s a else rf0)), .bool (rOk (decR s a))]) ∧ Below w.heap.size w w' := by
  have hT : Hid (∀ w : World, Calls Try.prog 137 #[.string s, .int .i64 (a : Int)] w fun e w' => e = .returned (.tuple #[.int .u32 (at4 s a : Int), .bool true]) ∧ Below w.heap.size w w') := fun w => take32_yes s a hs (by omega) w
  unfold maxLen at hs
  have hz := zero_ref
  have r0 : Blk ((w.alloc (.cells (rfC rf0) 48)).alloc (.cells (rfC rf0) 48)) w.heap.size 48 (rfC rf0) := (Blk.new _ _ _).alloc _
  have r1 : Blk ((w.alloc (.cells (rfC rf0) 48)).alloc (.cells (rfC rf0) 48)) (w.heap.size + 1) 48 (rfC rf0) := Blk.new1 _ _ _ _
  have hb : Below w.heap.size w ((w.alloc (.cells (rfC rf0) 48)).alloc (.cells (rfC rf0) 48)) := below_new2 _ _ _
  have hsz : ((w.alloc (.cells (rfC rf0) 48)).alloc (.cells (rfC rf0) 48)).heap.size = w.heap.size + 2 := by simp
  have HDC : Hid ((splice ((rfC rf0).setIfInBounds 0 (.int .u32 ((at4 s a : Nat) : Int))).toList 1 (byL (tbyte (s.extract (a + 4) s.size)) 32)).toArray = rfC (decR s a)) := by
    rw [byL_congr (f := tbyte (s.extract (a + 4) s.size)) (g := fun i => tbyte s (a + 4 + i)) fun i hi => tbyte_extract s (a + 4) s.size i (Nat.le_refl _) (by omega)]
    exact decR_cells _ _
  have HS : (s.extract (a + 4) s.size).size = s.size - (a + 4) := extract_size s (a + 4) s.size (Nat.le_refl _)
  obtain ⟨X, hX⟩ : ∃ X, X = decR s a := ⟨_, rfl⟩
  obtain ⟨n4, hn4⟩ : ∃ n4, n4 = at4 s a := ⟨_, rfl⟩
  rw [← hX] at HDC
  rw [← hX]
  rw [← hn4] at HDC hT
  clear hX hn4
  have HR : Hid (∀ w, Calls Try.prog 106 #[.agg (rfC X)] w fun e w' => e = .returned (.bool (rOk X)) ∧ Below w.heap.size w w') := right_any X
  generalize rOk X = b at *
  go_enter Try.func109, Try.ntmps109
  go_wp2_with fail
  generalize ((w.alloc (.cells (rfC rf0) 48)).alloc (.cells (rfC rf0) 48)) = w0 at *
  refine (hT.out w0).mono ?_
  rintro e w1 ⟨rfl, hb1⟩
  have hs1 := hb1.size
  have r0' : Blk w1 w.heap.size 48 (rfC rf0) := r0.below hb1 (by omega)
  have r1' : Blk w1 (w.heap.size + 1) 48 (rfC rf0) := r1.below hb1 (by omega)
  have hb' : Below w.heap.size w w1 := hb.trans (hb1.mono (by omega))
  have f1 : w1.frozen? ⟨w.heap.size + 1, 0, none⟩ = false := r1'.frozen 0
  have d1 : w1.cell? ⟨w.heap.size + 1, 0, none⟩ = some (.int .u32 0) := by
    rw [r1'.cell]
    exact va_at (rfF rf0.1 rf0.2) (by decide)
  clear r0 r1 hb hb1 hT
  go_wp2_with fail
  have r2 : Blk (w1.setCell ⟨w.heap.size + 1, 0, none⟩ (.int .u32 (n4 : Int))) (w.heap.size + 1) 48 ((rfC rf0).setIfInBounds 0 (.int .u32 (n4 : Int))) := r1'.put 0 _
  have q2 : Blk (w1.setCell ⟨w.heap.size + 1, 0, none⟩ (.int .u32 (n4 : Int))) w.heap.size 48 (rfC rf0) := r0'.put_other _ _ (by omega)
  have hb2 : Below w.heap.size w (w1.setCell ⟨w.heap.size + 1, 0, none⟩ (.int .u32 (n4 : Int))) := hb'.setCell (by show w.heap.size ≤ w.heap.size + 1; omega) _
  have hs2 : (w1.setCell ⟨w.heap.size + 1, 0, none⟩ (.int .u32 (n4 : Int))).heap.size = w1.heap.size := World.size_setCell _ _ _
  clear r1' r0' hb' f1 d1
  generalize (w1.setCell ⟨w.heap.size + 1, 0, none⟩ (.int .u32 (n4 : Int))) = w2 at *
  have z1 : (a : Int) + 4 ≤ (s.size : Int) := by omega
  refine wp_region_partsS (fun _ => True) [([2, 3], 0, true), ([], 1, true), ([], 4, false), ([], 5, false)] [] [6] (by kernel_rfl) (by kernel_rfl) trivial (partsI_yield ?_)
  simp only [List.cons_append, List.nil_append, List.append_nil, List.filterMap_cons, List.filterMap_nil, List.getElem?_toArray, List.getElem?_cons_zero, List.getElem?_cons_succ]
  go_wp2_with fail
  refine ⟨rfl, _, .pointer (some ⟨w.heap.size + 1, 1, none⟩), rfl, Or.inl ⟨by rfl, fun W hW => by go_simp⟩, partsI_yield ?_⟩
  simp only [Act.put, List.setIfInBounds_toArray, List.set_cons_zero, List.set_cons_succ]
  simp only [List.cons_append, List.nil_append, List.append_nil, List.filterMap_cons, List.filterMap_nil, List.getElem?_toArray, List.getElem?_cons_zero, List.getElem?_cons_succ]
  go_wp2_with fail
  refine ⟨rfl, _, .slice (some ⟨w.heap.size + 1, 1, none⟩) 32 32, rfl, Or.inl ⟨by rfl, fun W hW => by go_simp⟩, partsI_force ?_⟩
  simp only [Act.put, List.setIfInBounds_toArray, List.set_cons_zero, List.set_cons_succ]
  simp only [List.cons_append, List.nil_append, List.append_nil, List.filterMap_cons, List.filterMap_nil, List.getElem?_toArray, List.getElem?_cons_zero, List.getElem?_cons_succ]
  go_wp2_with fail
  refine ⟨rfl, trivial, partsI_force ?_⟩
  simp only [List.cons_append, List.nil_append, List.append_nil, List.filterMap_cons, List.filterMap_nil, List.getElem?_toArray, List.getElem?_cons_zero, List.getElem?_cons_succ]
  go_wp2_with fail
  refine ⟨rfl, trivial, partsI_last ?_⟩
  simp only [List.cons_append, List.nil_append, List.append_nil, List.filterMap_cons, List.filterMap_nil, List.getElem?_toArray, List.getElem?_cons_zero, List.getElem?_cons_succ]
  refine wpList_copy_text rfl _ _ 206 9 rfl 5 Try.underlying206 ksizeU8 (w.heap.size + 1) 1 32 32 (s.extract (a + 4) s.size) rfl rfl ((rfC rf0).setIfInBounds 0 (.int .u32 (n4 : Int))) 48 r2.drew 32 (by rw [HS]; show 32 = min (s.size - (a + 4)) 32; omega) (by rw [Array.size_setIfInBounds, rfC_size]; omega) ?_
  rw [HDC.out]
  simp only [Act.put, List.setIfInBounds_toArray, List.set_cons_zero, List.set_cons_succ]
  go_wp2_with fail
  refine ⟨rfl, ?_⟩
  have r4 : Blk (w2.drew.setRow (w.heap.size + 1) (rfC X)) (w.heap.size + 1) 48 (rfC X) := r2.drew.set _
  have q4 : Blk (w2.drew.setRow (w.heap.size + 1) (rfC X)) w.heap.size 48 (rfC rf0) := q2.drew.other _ (by omega)
  have hb4 : Below w.heap.size w (w2.drew.setRow (w.heap.size + 1) (rfC X)) := below_setRow hb2.drew (by omega) _
  have hs4 : (w2.drew.setRow (w.heap.size + 1) (rfC X)).heap.size = w2.heap.size := by simp
  clear HDC r2 q2 hb2 HS
  generalize (w2.drew.setRow (w.heap.size + 1) (rfC X)) = w4 at *
  go_wp2_with (first
    | (refine wpList_load_rowg (by rfl) 48 _ (by rfl) (w.heap.size + 1) (by rfl) 48 (rfC X) (0, 0) _ (by exact r4) Try.underlying48 (by rfl) (slSizeRef.trans (by rw [rfC_size])) ?_; simp only [Act.put, List.setIfInBounds_toArray, List.set_cons_zero, List.set_cons_succ])
    | fail)
  refine (HR.out w4).mono ?_
  rintro e w5 ⟨rfl, hb5⟩
  have r5 : Blk w5 (w.heap.size + 1) 48 (rfC X) := r4.below hb5 (by omega)
  have q5 : Blk w5 w.heap.size 48 (rfC rf0) := q4.below hb5 (by omega)
  have hb6 : Below w.heap.size w w5 := hb4.trans (hb5.mono (by omega))
  clear r4 q4 hb4 hb5 hs4
  cases b
  · go_wp2_with (first
      | (refine wpList_store_row (by rfl) 48 _ _ (by rfl) (w.heap.size) (rfC rf0) (by rfl) (by rfl) 48 (_) (by exact q5) (slSizeRef.trans (by rw [rfC_size])) (by simp only [rfC_size]) (rfC_all _) ?_; simp only [Act.put, List.setIfInBounds_toArray, List.set_cons_zero, List.set_cons_succ])
      | fail)
    try simp only [Exit.inBlock, Exit.then]
    refine bodyPost_ret (results_row2 Try.results109 _ _ (w.heap.size) 48 (rfC rf0) (0, 0) _ rfl (q5.set _) Try.underlying48 rfl (slSizeRef.trans (by rw [rfC_size]))) rfl ?_
    exact ⟨rfl, below_setRow hb6 (Nat.le_refl _) _⟩
  · go_wp2_with (first
      | (refine wpList_load_rowg (by rfl) 48 _ (by rfl) (w.heap.size + 1) (by rfl) 48 (rfC X) (0, 0) _ (by exact r5) Try.underlying48 (by rfl) (slSizeRef.trans (by rw [rfC_size])) ?_; simp only [Act.put, List.setIfInBounds_toArray, List.set_cons_zero, List.set_cons_succ])
      | (refine wpList_store_row (by rfl) 48 _ _ (by rfl) (w.heap.size) (rfC X) (by rfl) (by rfl) 48 (_) (by exact q5) (slSizeRef.trans (by rw [rfC_size])) (by simp only [rfC_size]) (rfC_all _) ?_; simp only [Act.put, List.setIfInBounds_toArray, List.set_cons_zero, List.set_cons_succ])
      | fail)
    try simp only [Exit.inBlock, Exit.then]
    refine bodyPost_ret (results_row2 Try.results109 _ _ (w.heap.size) 48 (rfC X) (0, 0) _ rfl (q5.set _) Try.underlying48 rfl (slSizeRef.trans (by rw [rfC_size]))) rfl ?_
    exact ⟨rfl, below_setRow hb6 (Nat.le_refl _) _⟩
end Go.Proofs.Ytdniigefmlmcdaa

namespace Go.Proofs.Ytdniigefmlmcdaa
open Go Go.RowKit
set_option linter.unusedSimpArgs false
set_option linter.unusedVariables false

/-- a block, as a plain thing -/
def blkD (f : Nat → Nat) : Vector Nat 256 := Vector.ofFn fun i : Fin 256 => f i.1
def vF (d : Vector Nat 256) : Nat → Nat := fun i => (d[i]?).getD 0
def bK (d : Vector Nat 256) : Value := .agg (va 256 (iv .u8 (vF d)))
theorem vF_blkD (f : Nat → Nat) : va 256 (iv .u8 (vF (blkD f))) = va 256 (iv .u8 f) := va_congr fun i hi => by
  unfold iv vF blkD
  congr 2
  simp [hi]
theorem bK_blkD (f : Nat → Nat) : bK (blkD f) = .agg (va 256 (iv .u8 f)) := by
  unfold bK
  rw [vF_blkD]
theorem vF_inj {a b : Vector Nat 256} (h : bkSame (vF a) (vF b)) : a = b := by
  apply Vector.ext
  intro i hi
  have := h i hi
  unfold vF at this
  simpa [hi] using this
theorem blkD_same (f g : Nat → Nat) : blkD f = blkD g ↔ bkSame f g := by
  constructor
  · intro h i hi
    have := congrArg (fun d : Vector Nat 256 => vF d i) h
    simp only [vF, blkD] at this
    simpa [hi] using this
  · intro h
    refine vF_inj fun i hi => ?_
    simp only [vF, blkD]
    simpa [hi] using h i hi
theorem chk_blk (d : Nat) (e : Bool) (f : Nat → Nat) (w : World) : (Instr.checkKey e (d + 1 + 1) 60 (.agg (va 256 (iv .u8 f)))).run Try.prog w = .ok () w := by
  have hc := size_u8 w
  have h1 : ∀ x : Int, (Instr.checkKey e (d + 1) 5 (.int .u8 x)).run Try.prog w = .ok () w := fun x => by simp [Instr.checkKey, run_underlying Try.underlying5]
  have p1 : ∀ i, i < 256 → (part 5 (va 256 (iv .u8 f)) (i * 1)).run Try.prog w = .ok (.int .u8 ((f i : Nat) : Int)) w := fun i hi => by
    have := va_at (iv .u8 f) hi
    simp [part, isAgg, run_underlying Try.underlying5, this]
    rfl
  generalize va 256 (iv .u8 f) = cs at *
  rw [Instr.checkKey]
  simp only [Sem.run_bind, run_underlying Try.underlying60, Result.andThen_ok]
  have key : ∀ l : List Nat, (∀ i ∈ l, i < 256) → Sem.run Try.prog (forIn l PUnit.unit fun i __s => do
      let __do_lift ← sizeOf 5
      let __do_lift ← part 5 cs (i * __do_lift)
      Instr.checkKey e (d + 1) 5 __do_lift
      pure (ForInStep.yield PUnit.unit)) w = .ok PUnit.unit w := by
    intro l
    induction l with
    | nil => intro _; simp
    | cons i l ih =>
      intro h
      simp only [List.forIn_cons, Sem.run_bind, hc, Result.andThen_ok, p1 i (h i (by simp)), h1, Sem.run_pure]
      exact ih fun j hj => h j (by simp [hj])
  simp only [Std.Legacy.Range.forIn_eq_forIn_range']
  rw [key _ (fun i hi => by simpa using hi)]
  rfl
set_option maxRecDepth 100000 in
theorem blk_key : KeyOf Try.prog 60 bK where
  desc := ⟨_, Try.underlying60, (fun k h => by cases h), (fun h => by cases h), (fun h => by cases h)⟩
  eq a b w := by
    have := eq_bk 60 Try.underlying60 (vF a) (vF b) w
    refine Eq.trans this ?_
    congr 1
    by_cases h : a = b
    · subst h
      rw [decide_eq_true (fun _ _ => rfl), decide_eq_true rfl]
    · rw [decide_eq_false h, decide_eq_false fun q => h (vF_inj q)]
  chk e a w := chk_blk 9998 e (vF a) w
end Go.Proofs.Ytdniigefmlmcdaa

namespace Go.Proofs.Ytdniigefmlmcdaa
open Go Go.RowKit
set_option linter.unusedVariables false
set_option linter.unusedSimpArgs false

section
variable {α : Type} [DecidableEq α]
/-- no like one stands ahead of place i -/
def isNew (D : Nat → α) (i : Nat) : Bool := (List.range i).all fun x => decide (D x ≠ D i)
theorem isNew_iff (D : Nat → α) (i : Nat) : isNew D i = true ↔ ∀ x, x < i → D x ≠ D i := by
  unfold isNew
  simp [List.all_eq_true]
/-- the first places, in their order -/
def firstsOf (D : Nat → α) (k : Nat) : List Nat := (List.range k).filter (isNew D)
/-- the places below k that are like place i -/
def grpOf (D : Nat → α) (k i : Nat) : List Nat := (List.range k).filter fun x => decide (D x = D i)
theorem firstsOf_succ (D : Nat → α) (k : Nat) : firstsOf D (k + 1) = if isNew D k then firstsOf D k ++ [k] else firstsOf D k := by
  unfold firstsOf
  rw [List.range_succ, List.filter_append]
  by_cases h : isNew D k = true
  · simp [h]
  · simp [h]
theorem grpOf_succ (D : Nat → α) (k i : Nat) : grpOf D (k + 1) i = if D k = D i then grpOf D k i ++ [k] else grpOf D k i := by
  unfold grpOf
  rw [List.range_succ, List.filter_append]
  by_cases h : D k = D i
  · simp [h]
  · simp [h]
theorem firstsOf_mem (D : Nat → α) (k i : Nat) : i ∈ firstsOf D k ↔ i < k ∧ ∀ x, x < i → D x ≠ D i := by
  unfold firstsOf
  rw [List.mem_filter, List.mem_range, isNew_iff]
theorem firstsOf_inj (D : Nat → α) (k : Nat) {i j : Nat} (hi : i ∈ firstsOf D k) (hj : j ∈ firstsOf D k) (h : D i = D j) : i = j := by
  rw [firstsOf_mem] at hi hj
  rcases Nat.lt_trichotomy i j with q | q | q
  · exact absurd h (hj.2 i q)
  · exact q
  · exact absurd h.symm (hi.2 j q)
theorem firstsOf_nodup (D : Nat → α) (k : Nat) : (firstsOf D k).Nodup := List.Pairwise.filter _ List.nodup_range
/-- each place has its first one -/
theorem firstsOf_has (D : Nat → α) (k x : Nat) (hx : x < k) : ∃ i ∈ firstsOf D k, D i = D x := by
  induction x using Nat.strongRecOn with
  | ind x ih =>
    by_cases h : ∀ y, y < x → D y ≠ D x
    · exact ⟨x, (firstsOf_mem D k x).2 ⟨hx, h⟩, rfl⟩
    · simp only [Classical.not_forall, not_imp, ne_eq, Classical.not_not] at h
      obtain ⟨y, hy, he⟩ := h
      obtain ⟨i, hi, hd⟩ := ih y hy (by omega)
      exact ⟨i, hi, hd.trans he⟩
theorem grpOf_new (D : Nat → α) (k : Nat) (h : isNew D k = true) : grpOf D k k = [] := by
  unfold grpOf
  rw [List.filter_eq_nil_iff]
  intro x hx
  rw [List.mem_range] at hx
  simpa using (isNew_iff D k).1 h x hx
/-- all groups -/
def grpsOf (D : Nat → α) (k : Nat) : List (List Nat) := (firstsOf D k).map (grpOf D k)
theorem grpsOf_new (D : Nat → α) (k : Nat) (h : isNew D k = true) : grpsOf D (k + 1) = grpsOf D k ++ [[k]] := by
  unfold grpsOf
  rw [firstsOf_succ, if_pos h, List.map_append]
  congr 1
  · refine List.map_congr_left fun i hi => ?_
    rw [grpOf_succ, if_neg]
    intro q
    have := (firstsOf_mem D k i).1 hi
    exact (isNew_iff D k).1 h i this.1 q.symm
  · simp [grpOf_succ, grpOf_new D k h]
theorem grpsOf_old (D : Nat → α) (k j : Nat) (h : isNew D k = false) (hj : j < (firstsOf D k).length) (hd : D ((firstsOf D k).getD j 0) = D k) : grpsOf D (k + 1) = (grpsOf D k).set j ((grpsOf D k).getD j [] ++ [k]) := by
  unfold grpsOf
  rw [firstsOf_succ, if_neg (by simp [h])]
  apply List.ext_getElem?
  intro n
  have hgj : (firstsOf D k).getD j 0 = (firstsOf D k)[j] := by simp [List.getD, hj]
  rw [hgj] at hd
  rw [List.getElem?_map]
  by_cases hn : n < (firstsOf D k).length
  · rw [List.getElem?_eq_getElem hn]
    simp only [Option.map_some]
    rw [grpOf_succ]
    by_cases e : n = j
    · subst e
      rw [if_pos hd.symm]
      simp [List.getElem?_set, hn, List.getD]
    · rw [if_neg]
      · rw [List.getElem?_set_ne (by omega), List.getElem?_map, List.getElem?_eq_getElem hn]
        rfl
      · intro q
        have := firstsOf_inj D k (List.getElem_mem hn) (List.getElem_mem hj) (q.symm.trans hd.symm)
        exact e ((List.getElem_inj (firstsOf_nodup D k)).1 this)
  · rw [List.getElem?_eq_none (by omega), List.getElem?_eq_none (by simp; omega)]
    rfl
end
end Go.Proofs.Ytdniigefmlmcdaa

namespace Go.Proofs.Ytdniigefmlmcdaa
open Go.RowKit
set_option linter.unusedSimpArgs false
set_option linter.unusedVariables false

theorem infoEnt : (Try.prog.info? 245).map (fun i => (i.zero, i.size, i.bytes)) = some (some (.agg #[.int .u8 0, .string ⟨#[]⟩]), 2, 24) := by kernel_rfl
theorem sizeEnt : (Try.prog.info? 245).map (·.size) = some 2 := by kernel_rfl
/-- what a log may change: its own block, its map, its row -/
def LogKeeps (g r : Nat) (v : Value) (w w' : World) : Prop :=
  w'.os = w.os ∧ w'.tape = w.tape ∧ w'.output = w.output ∧ w.heap.size ≤ w'.heap.size ∧ ∀ k, k < w.heap.size → k ≠ g → k ≠ r → v.ownBlock ≠ some k → w'.heap[k]? = w.heap[k]?

theorem own_ne {w : World} {B e size n g t : Nat} {v : Value} {xs : List Value} {cs : Array Value} (h : w.ownsRow B e size v n xs) (hb : Blk w g t cs) (hne : e ≠ t) : v.ownBlock ≠ some g := fun hq => by
  rcases h.2 with ⟨rfl, _⟩ | ⟨b, cap, cur, rfl, _, hg, _⟩
  · simp [Value.ownBlock] at hq
  · simp [Value.ownBlock] at hq
    subst hq
    unfold Blk at hb
    rw [hb] at hg
    simp at hg
    exact hne hg.2.symm
theorem own_map {w : World} {B e size n r clock : Nat} {v : Value} {xs : List Value} {es : Array MapEntry} (h : w.ownsRow B e size v n xs) (hb : w.heap[r]? = some (.map es clock)) : v.ownBlock ≠ some r := fun hq => by
  rcases h.2 with ⟨rfl, _⟩ | ⟨b, cap, cur, rfl, _, hg, _⟩
  · simp [Value.ownBlock] at hq
  · simp [Value.ownBlock] at hq
    subst hq
    rw [hb] at hg
    cases hg
theorem own_block {w w' : World} {B e size n : Nat} {v : Value} {xs : List Value} (h : w.ownsRow B e size v n xs) (hk : ∀ k, v.ownBlock = some k → w'.heap[k]? = w.heap[k]?) : w'.ownsRow B e size v n xs := by
  refine ⟨h.1, ?_⟩
  rcases h.2 with hn | ⟨g, cap, cur, rfl, hg, hgg, rest⟩
  · exact .inl hn
  · exact .inr ⟨g, cap, cur, rfl, hg, (hk g rfl).trans hgg, rest⟩
theorem step_append_own {P : Program} {ops : Array Oper} {o : Oper} {a : Act} {w : World} {K : Act → World → Prop} {Q : Exit → Act → World → Prop} {F : Prop} (hgd : o.guard = none) (s x : Operand) (t : TypeId)
    (ho : o.op = .call { callee := .builtin .append, args := #[s, x], argTypes := #[t, t] })
    (base : Nat) (e : TypeId) (i : TypeInfo) (z : Value) (size bytes : Nat) (ht : P.underlying t = some (.slice e)) (hi : P.info? e = some i) (hz : i.zero = some z)
    (hsize : i.size = size) (hby : i.bytes = bytes) (hzs : z.cells.size = size) (hsz : 0 < size)
    (v : Value) (n : Nat) (xs : List Value) (hs : a.eval s = v) (hown : w.ownsRow base e size v n xs)
    (ad : Addr) (m c : Nat) (news : List Value) (hx : a.eval x = .slice (some ad) m c) (hl : news.length = m * size) (hnews : ∀ j u, news[j]? = some u → w.cell? (ad.add j) = some u) (h1 : ∀ u ∈ news, u.oneCell' = true)
    (h63 : n + m ≤ maxLen) (hbytes : (n + m) * bytes ≤ 140737488355328) (hbase : base ≤ w.heap.size)
    (h : ∀ v' w', w'.ownsRow base e size v' (n + m) (xs ++ news) → w.grownBy w' v.ownBlock → (v'.ownBlock = v.ownBlock ∨ v'.ownBlock = some w.heap.size) → K (a.put o.dst v') w') :
    if Region.wanted o (yielded ops a.tmps) = true then Oper.wp P o a w K Q else F := by
  have hw : Region.wanted o (yielded ops a.tmps) = true := by simp [Region.wanted, hgd]
  rw [if_pos hw]
  obtain ⟨v', w', hr, g1, g2, g3, g4⟩ := run_append_own_at (P := P) w base t o.type e i z size bytes ht hi hz hsize hby hzs hsz v n xs hown ad m c news hl hnews h1 h63 hbytes hbase
  unfold Oper.wp
  simp [execOp, ho, resolve, invoke, builtin, hs, hx, hr, Result.andThen]
  exact h v' w' g1 g2 g4

set_option maxRecDepth 100000 in
set_option maxHeartbeats 4000000 in
theorem logAdd_any (tag : Nat) (s : ByteArray) (g r : Nat) (v : Value) (E : List (Nat × ByteArray)) (hE : E.length ≤ 4000000000000) (hn : isIn (tag, s) E = false) (w : World) (h : LogAt w g r v E) (y : Nat → Nat) (hy : va 32 (iv .u8 y) = va 32 (iv .u8 (sumOf (tag, s)))) :
    Calls Try.prog 158 #[.pointer (some ⟨g, 0, none⟩), .agg #[.int .u8 (tag : Int), .string s], .agg (va 32 (iv .u8 y))] w fun e w' => e = .returned (.tuple #[]) ∧ ∃ v', LogAt w' g r v' (E ++ [(tag, s)]) ∧ LogKeeps g r v w w' ∧ (v'.ownBlock = v.ownBlock ∨ ∃ k, v'.ownBlock = some k ∧ w.heap.size ≤ k) := by
  obtain ⟨i0, hi, hz0, hz1, hz2⟩ := info_parts infoEnt
  obtain ⟨hB, hown, hM⟩ := h
  have hgl := hB.lt
  have e0 : Blk ((w.alloc (.cells #[.int .u8 (tag : Int), .string s] 245)).alloc (.cells (va 32 (iv .u8 y)) 44)) w.heap.size 245 #[.int .u8 (tag : Int), .string s] := (Blk.new w _ _).alloc _
  have e1 : Blk ((w.alloc (.cells #[.int .u8 (tag : Int), .string s] 245)).alloc (.cells (va 32 (iv .u8 y)) 44)) (w.heap.size + 1) 44 (va 32 (iv .u8 y)) := by
    have e : (w.alloc (.cells #[.int .u8 (tag : Int), .string s] 245)).heap.size = w.heap.size + 1 := by simp
    rw [← e]
    exact Blk.new _ _ _
  have hB1 : Blk ((w.alloc (.cells #[.int .u8 (tag : Int), .string s] 245)).alloc (.cells (va 32 (iv .u8 y)) 44)) g 162 #[v, .map (some r)] := (hB.alloc _).alloc _
  have hown1 := (hown.alloc (.cells #[.int .u8 (tag : Int), .string s] 245)).alloc (.cells (va 32 (iv .u8 y)) 44)
  have hb1 : Below w.heap.size w ((w.alloc (.cells #[.int .u8 (tag : Int), .string s] 245)).alloc (.cells (va 32 (iv .u8 y)) 44)) := ((Below.refl _ _).alloc (Nat.le_refl _) _).alloc (by simp) _
  have hM1 := hM.below hb1 (by obtain ⟨es, cl, hg, _⟩ := hM; exact (Array.getElem?_eq_some_iff.1 hg).1)
  have hs1 : ((w.alloc (.cells #[.int .u8 (tag : Int), .string s] 245)).alloc (.cells (va 32 (iv .u8 y)) 44)).heap.size = w.heap.size + 2 := by simp
  have HN : Hid (isIn (tag, s) E = false) := hn
  clear hn
  have HY0 : Hid (va 32 (iv .u8 y) = va 32 (iv .u8 (sumOf (tag, s)))) := hy
  clear hy
  go_enter Try.func158, Try.ntmps158
  go_wp2_with fail
  generalize ((w.alloc (.cells #[.int .u8 (tag : Int), .string s] 245)).alloc (.cells (va 32 (iv .u8 y)) 44)) = w1 at *
  have c0 : w1.cell? ⟨g, 0, none⟩ = some v := by rw [hB1.cell]; rfl
  have f0 := hB1.frozen 0
  have c0' : (w1.alloc (.cells #[.int .u8 (tag : Int), .string s] 245)).cell? ⟨g, 0, none⟩ = some v := by rw [(hB1.alloc _).cell]; rfl
  have d0 : w1.cell? ⟨w.heap.size, 0, none⟩ = some (.int .u8 (tag : Int)) := by rw [e0.cell]; rfl
  have d1 : w1.cell? ⟨w.heap.size, 1, none⟩ = some (.string s) := by rw [e0.cell]; rfl
  have HOWN : Hid ((w1.alloc (.cells #[.int .u8 (tag : Int), .string s] 245)).drew.ownsRow 0 245 2 v E.length (entCells E)) := hown1.alloc _
  have HC : Hid (∀ j u, [Value.int .u8 (tag : Int), .string s][j]? = some u → (w1.alloc (.cells #[.int .u8 (tag : Int), .string s] 245)).drew.cell? ((⟨w.heap.size + 2, 0, none⟩ : Addr).add j) = some u) := by
    rw [← hs1]
    exact cell_two_new w1 _ _ _
  have HONE : Hid (∀ u ∈ [Value.int .u8 (tag : Int), .string s], u.oneCell' = true) := fun u hu => by
    simp at hu
    rcases hu with rfl | rfl <;> rfl
  have hne := own_ne hown1 hB1 (by decide)
  have HNE : Hid (v.ownBlock ≠ some g) := hne
  clear hne
  go_region_law (refine step_append_own rfl (.tmp 10) (.tmp 12) 160 rfl 0 245 i0 _ 2 24 Try.underlying160 hi hz0 hz1 hz2 rfl (by decide) v E.length (entCells E) (by simp [Act.eval, Act.put]) HOWN.out ⟨w.heap.size + 2, 0, none⟩ 1 1 [.int .u8 (tag : Int), .string s] (by simp [Act.eval, Act.put]) rfl HC.out HONE.out (by unfold maxLen; omega) (by omega) (Nat.zero_le _) ?_; intro v2 w2 hown2 hgrow2 hat2; obtain ⟨g2, cap2, rfl, hg2a, hg2b⟩ := own_form hown2 (Nat.succ_pos _); have hBg : Blk w2 g 162 #[v, .map (some r)] := (hgrow2.block g (by simp; omega) (fun q => HNE.out q.symm)).trans (hB1.alloc _); have cg : w2.cell? ⟨g, 0, none⟩ = some v := (by rw [hBg.cell]; rfl); have fg := hBg.frozen 0)
  all_goals
    (have hne2 : g2 ≠ g := fun q => own_ne hown2 hBg (by decide) (by rw [q]; rfl)
     have hs2 := hgrow2.size
     have hB3 : Blk (w2.setCell ⟨g, 0, none⟩ (.slice (some ⟨g2, 0, none⟩) (E.length + 1) cap2)) g 162 #[(.slice (some ⟨g2, 0, none⟩) (E.length + 1) cap2), .map (some r)] := hBg.put 0 (.slice (some ⟨g2, 0, none⟩) (E.length + 1) cap2)
     have hoth : ∀ k, k ≠ g → (w2.setCell ⟨g, 0, none⟩ (.slice (some ⟨g2, 0, none⟩) (E.length + 1) cap2)).heap[k]? = w2.heap[k]? := fun k hk => Deep.blk_setCell_other w2 ⟨g, 0, none⟩ _ k hk
     have hown3 : (w2.setCell ⟨g, 0, none⟩ (.slice (some ⟨g2, 0, none⟩) (E.length + 1) cap2)).ownsRow 0 245 2 (.slice (some ⟨g2, 0, none⟩) (E.length + 1) cap2) (E.length + 1) (entCells E ++ [.int .u8 (tag : Int), .string s]) := own_block hown2 (fun k hk => hoth k (by simp [Value.ownBlock] at hk; omega))
     have hM3 : MapIs entV sumV (w2.setCell ⟨g, 0, none⟩ (.slice (some ⟨g2, 0, none⟩) (E.length + 1) cap2)) r (E.map fun e => (e, sumOf e)) := by
       obtain ⟨es, cl, hg, he⟩ := hM1
       have hrl : r < w1.heap.size := (Array.getElem?_eq_some_iff.1 hg).1
       have hrg : r ≠ g := fun q => by
         subst q
         unfold Blk at hB1
         rw [hB1] at hg
         cases hg
       refine ⟨es, cl, ?_, he⟩
       rw [hoth r hrg, hgrow2.block r (by simp; omega) (fun q => own_map hown1 hg q.symm)]
       exact (heap_alloc_old _ _ hrl).trans hg
     have hlow : ∀ k, k < w1.heap.size → k ≠ g → v.ownBlock ≠ some k → (w2.setCell ⟨g, 0, none⟩ (.slice (some ⟨g2, 0, none⟩) (E.length + 1) cap2)).heap[k]? = w1.heap[k]? := fun k hk h1 h2 => by
       rw [hoth k h1, hgrow2.block k (by simp; omega) (fun q => h2 q.symm)]
       exact heap_alloc_old _ _ hk
     have hvb : ∀ k, v.ownBlock = some k → k < w.heap.size := fun k hk => (hown.lt k hk).2
     have e03 : Blk (w2.setCell ⟨g, 0, none⟩ (.slice (some ⟨g2, 0, none⟩) (E.length + 1) cap2)) w.heap.size 245 #[.int .u8 (tag : Int), .string s] := (hlow _ (by omega) (by omega) (fun q => by have := hvb _ q; omega)).trans e0
     have e13 : Blk (w2.setCell ⟨g, 0, none⟩ (.slice (some ⟨g2, 0, none⟩) (E.length + 1) cap2)) (w.heap.size + 1) 44 (va 32 (iv .u8 y)) := (hlow _ (by omega) (by omega) (fun q => by have := hvb _ q; omega)).trans e1
     have hos : (w2.setCell ⟨g, 0, none⟩ (.slice (some ⟨g2, 0, none⟩) (E.length + 1) cap2)).os = w.os ∧ (w2.setCell ⟨g, 0, none⟩ (.slice (some ⟨g2, 0, none⟩) (E.length + 1) cap2)).tape = w.tape ∧ (w2.setCell ⟨g, 0, none⟩ (.slice (some ⟨g2, 0, none⟩) (E.length + 1) cap2)).output = w.output := ⟨hgrow2.os.trans hb1.os, hgrow2.tape.trans hb1.tape, hgrow2.output.trans hb1.output⟩
     have hsz3 : w1.heap.size ≤ (w2.setCell ⟨g, 0, none⟩ (.slice (some ⟨g2, 0, none⟩) (E.length + 1) cap2)).heap.size := by
       rw [Deep.nblk_setCell]
       simp at hs2
       omega
     have hat3 : g2 < w2.heap.size := hg2b
     generalize w2.setCell ⟨g, 0, none⟩ (.slice (some ⟨g2, 0, none⟩) (E.length + 1) cap2) = w3 at *
     obtain ⟨w4, hup, hM4, hk4⟩ := run_update_is (P := Try.prog) Try.underlying159 entry_key (w := w3.drew) (show MapIs entV sumV w3.drew r (E.map fun e => (e, sumOf e)) from hM3) (tag, s) (sumOf (tag, s)) (by
       have := HN.out
       unfold isIn at this
       simpa using this)
     have hup2 : Sem.run Try.prog (Instr.mapUpdate 159 (.map (some r)) (.agg #[.int .u8 (tag : Int), .string s]) (.agg (va 32 (iv .u8 y)))) w3.drew = .ok () w4 := by
       rw [HY0.out]
       exact hup
     have c13 : w3.cell? ⟨g, 1, none⟩ = some (.map (some r)) := by rw [hB3.cell]; rfl
     have HUP : Hid (Sem.run Try.prog (Instr.mapUpdate 159 (.map (some r)) (.agg #[.int .u8 (tag : Int), .string s]) (.agg (va 32 (iv .u8 y)))) w3.drew = .ok () w4) := hup2
     clear hup hup2
     go_wp2_with fail
     refine wp_region_partsI [4, 5] [([4, 5, 0], 1, false), ([], 2, false), ([], 3, false)] [] [6] w3.heap.size (by kernel_rfl) (by kernel_rfl) (lows_two ⟨⟨w.heap.size, 0, none⟩, _, _, _, rfl, e03.lt, e03⟩ ⟨⟨w.heap.size + 1, 0, none⟩, _, _, _, rfl, e13.lt, e13⟩) (partsI_force ?_)
     simp only [List.cons_append, List.nil_append, List.append_nil, List.filterMap_cons, List.filterMap_nil, List.getElem?_toArray, List.getElem?_cons_zero, List.getElem?_cons_succ]
     refine wpList_load_row (by rfl) 245 _ (by rfl) w.heap.size (by rfl) 245 #[.int .u8 (tag : Int), .string s] (0, 0) _ e03.drew Try.underlying245 (by rfl) sizeEnt ?_
     simp only [Act.put, List.setIfInBounds_toArray, List.set_cons_zero, List.set_cons_succ]
     refine wpList_load_row (by rfl) 44 _ (by rfl) (w.heap.size + 1) (by rfl) 44 (va 32 (iv .u8 y)) (0, 0) _ e13.drew Try.underlying44 (by rfl) (sizeSum.trans (by rw [va_size])) ?_
     simp only [Act.put, List.setIfInBounds_toArray, List.set_cons_zero, List.set_cons_succ]
     go_wp2_with fail
     refine ⟨rfl, (Below.refl _ _).drew, partsI_force ?_⟩
     simp only [List.cons_append, List.nil_append, List.append_nil, List.filterMap_cons, List.filterMap_nil, List.getElem?_toArray, List.getElem?_cons_zero, List.getElem?_cons_succ]
     go_wp2_with fail
     refine ⟨rfl, (Below.refl _ _).drew, partsI_force ?_⟩
     simp only [List.cons_append, List.nil_append, List.append_nil, List.filterMap_cons, List.filterMap_nil, List.getElem?_toArray, List.getElem?_cons_zero, List.getElem?_cons_succ]
     go_wp2_with fail
     refine ⟨rfl, (Below.refl _ _).drew, partsI_last ?_⟩
     simp only [List.cons_append, List.nil_append, List.append_nil, List.filterMap_cons, List.filterMap_nil, List.getElem?_toArray, List.getElem?_cons_zero, List.getElem?_cons_succ]
     have hup3 := HUP.out
     go_wp2_with fail
     refine ⟨rfl, ?_⟩
     go_wp2_with fail
     refine bodyPost_end (results_none Try.results158 _ _ _) rfl ?_
     have hrg : g ≠ r := fun q => by
       subst q
       obtain ⟨es, cl, hg, _⟩ := hM3
       unfold Blk at hB3
       rw [hB3] at hg
       cases hg
     have hg2r : g2 ≠ r := fun q => by
       obtain ⟨es, cl, hg, _⟩ := hM3
       exact own_map hown3 hg (by rw [← q]; rfl)
     have hg2l : g2 < w3.heap.size := (hown3.lt g2 rfl).2
     refine ⟨rfl, (.slice (some ⟨g2, 0, none⟩) (E.length + 1) cap2), ⟨hk4.blk hB3.drew hrg, ?_, ?_⟩, ⟨hk4.1.os.trans hos.1, hk4.1.tape.trans hos.2.1, hk4.1.output.trans hos.2.2, ?_, fun k h1 h2 h3 h4 => ?_⟩, ?_⟩
     · have e1 : entCells (E ++ [(tag, s)]) = entCells E ++ [.int .u8 (tag : Int), .string s] := by simp [entCells]
       rw [e1, List.length_append]
       exact own_block hown3 (fun k hk => hk4.2 k (by simp [Value.ownBlock] at hk; omega) (by simp [Value.ownBlock] at hk; show k < w3.heap.size; omega))
     · rw [List.map_append]
       exact hM4
     · have := hk4.1.size
       have q : w3.drew.heap.size = w3.heap.size := rfl
       omega
     · rw [hk4.2 k h3 (by show k < w3.heap.size; omega)]
       have q : w3.drew.heap[k]? = w3.heap[k]? := rfl
       rw [q, hlow k (by omega) h2 h4]
       exact hb1.block k h1
     · rcases hat2 with q | q
       · exact .inl q
       · refine .inr ⟨_, q, ?_⟩
         simp
         omega)
end Go.Proofs.Ytdniigefmlmcdaa
