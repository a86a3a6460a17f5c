/- The document's bytes of a slot: contracts of the verifier's functions given, Encode and Decode. -/
import Derived.Test.YtlmbokfgogkbmaaHSlEnc
import Derived.Test.YtlmbokfgogkbmaaHSlRD
import Derived.Handy
import Derived.BigQuiet
import Derived.Deep.QuietTactic

namespace Go.Proofs.Ytlmbokfgogkbmaa
open Go Go.RowKit
set_option linter.unusedSimpArgs false
set_option linter.unusedVariables false

/-- the slot of 44 bytes -/
def decS (s : ByteArray) : Sl := (hornN (tbyte s) 0 8, hornN (tbyte s) 8 4, sumD fun i => tbyte s (12 + i))
/-- what Decode tells -/
def decBad (s : ByteArray) : Bool := decide (s.size ≠ 44 ∨ (decS s).2.1 = 0 ∧ decS s ≠ sl0)
theorem horn_extract (s : ByteArray) (a k : Nat) (h : a + k ≤ s.size) : hornN (tbyte (s.extract a (a + k))) 0 k = hornN (tbyte s) a k := hornN_congr k 0 a fun i hi => by
  rw [Nat.zero_add, tbyte_extract s a (a + k) i h (by omega)]
theorem dec_cells (c n : Nat) (f : Nat → Nat) : (splice (((slC sl0).setIfInBounds 0 (.int .u64 (c : Int))).setIfInBounds 1 (.int .u32 (n : Int))).toList 2 (byL f 32)).toArray = slC (c, n, sumD f) := by
  unfold slC
  rw [va_set, va_set, va_toList]
  refine Eq.trans (by rfl) ((splice_va 34 2 32 _ (fun j => Value.int .u8 ((f j : Nat) : Int)) (by decide)).trans ?_)
  refine va_congr fun i hi => ?_
  by_cases h2 : 2 ≤ i ∧ i < 2 + 32
  · have e1 : slF (c, n, sumD f) i = .int .u8 ((f (i - 2) : Nat) : Int) := by
      unfold slF
      rw [if_neg (by omega), if_neg (by omega), show dF (c, n, sumD f).2.2 (i - 2) = f (i - 2) from dF_sumD f _ (by omega)]
    rw [e1]
    unfold overF
    rw [if_pos h2]
  · unfold overF upd
    rw [if_neg h2]
    by_cases h1 : i = 1
    · subst h1
      rw [if_pos rfl]
      rfl
    · have h0 : i = 0 := by omega
      subst h0
      rw [if_neg h1, if_pos rfl]
      rfl
set_option maxRecDepth 100000 in
set_option maxHeartbeats 2000000 in
theorem decode_short (s : ByteArray) (hs : s.size ≠ 44) (w : World) : Calls Try.prog 27 #[.string s] w fun e w' => e = .returned (.tuple #[.agg (slC sl0), .int .i64 61]) ∧ Below w.heap.size w w' := by
  have hz := zero_slot
  have h1 : ¬ (s.size : Int) = 44 := by omega
  have r0 : Blk (w.alloc (.cells (slC sl0) 50)) w.heap.size 50 (slC sl0) := Blk.new _ _ _
  have hb : Below w.heap.size w (w.alloc (.cells (slC sl0) 50)) := below_new1 _ _
  go_enter Try.func27, Try.ntmps27
  go_wp2_with (first
    | (refine wpList_store_row (by rfl) 50 _ _ (by rfl) (w.heap.size) (slC sl0) (by rfl) (by rfl) 50 _ r0 (sizeSlot.trans (by rw [slC_size])) (by simp only [slC_size]) (slC_all _) ?_; simp only [Act.put, List.setIfInBounds_toArray, List.set_cons_zero, List.set_cons_succ])
    | fail)
  try simp only [Exit.inBlock, Exit.then]
  refine bodyPost_ret (results_row2 Try.results27 _ _ (w.heap.size) 50 (slC sl0) (0, 0) _ rfl (r0.set _) Try.underlying50 rfl (sizeSlot.trans (by rw [slC_size]))) rfl ?_
  exact ⟨rfl, below_setRow hb (Nat.le_refl _) _⟩
set_option maxRecDepth 100000 in
set_option maxHeartbeats 8000000 in
theorem decode_long (s : ByteArray) (hs : s.size = 44) (X : Sl) (Y : Int) (hX : (X, Y) = if (decS s).2.1 = 0 ∧ decS s ≠ sl0 then (sl0, 61) else (decS s, 0)) (w : World) : Calls Try.prog 27 #[.string s] w fun e w' => e = .returned (.tuple #[.agg (slC X), .int .i64 Y]) ∧ Below w.heap.size w w' := by
  have HXY : Hid ((X, Y) = if (decS s).2.1 = 0 ∧ decS s ≠ sl0 then (sl0, 61) else (decS s, 0)) := hX
  clear hX
  have hz := zero_slot
  have h1 : (s.size : Int) = 44 := by omega
  have hT8 : Hid (∀ w, Calls Try.prog 44 #[.string (s.extract 0 8)] w fun e w' => e = .returned (.int .u64 ((hornN (tbyte s) 0 8 : Nat) : Int)) ∧ w = w') := fun w => by
    have := taken8 (s.extract 0 8) (by rw [extract_size s 0 8 (by omega)]) w
    have e := horn_extract s 0 8 (by omega)
    rw [Nat.zero_add] at e
    rw [e] at this
    exact this
  have hT4 : Hid (∀ w, Calls Try.prog 44 #[.string (s.extract 8 12)] w fun e w' => e = .returned (.int .u64 ((hornN (tbyte s) 8 4 : Nat) : Int)) ∧ w = w') := fun w => by
    have := taken4 (s.extract 8 12) (by rw [extract_size s 8 12 (by omega)]) w
    rw [horn_extract s 8 4 (by omega)] at this
    exact this
  have hc4 : hornN (tbyte s) 8 4 < 4294967296 := hornN_lt (tbyte s) (tbyte_lt s) 4 8
  have e4 : ((hornN (tbyte s) 8 4 : Nat) : Int) % 4294967296 = ((hornN (tbyte s) 8 4 : Nat) : Int) := by omega
  have HDC : Hid ((splice (((slC sl0).setIfInBounds 0 (.int .u64 ((hornN (tbyte s) 0 8 : Nat) : Int))).setIfInBounds 1 (.int .u32 ((hornN (tbyte s) 8 4 : Nat) : Int))).toList 2 (byL (tbyte (s.extract 12 44)) 32)).toArray = slC (decS s)) := by
    rw [byL_congr (f := tbyte (s.extract 12 44)) (g := fun i => tbyte s (12 + i)) fun i hi => tbyte_extract s 12 44 i (by omega) (by omega)]
    exact dec_cells _ _ _
  have HX : Hid ((decS s).2.1 = hornN (tbyte s) 8 4) := rfl
  have hES : (s.extract 12 44).size = 32 := extract_size s 12 44 (by omega)
  have r0 : Blk ((w.alloc (.cells (slC sl0) 50)).alloc (.cells (slC sl0) 50)) w.heap.size 50 (slC sl0) := (Blk.new _ _ _).alloc _
  have r1 : Blk ((w.alloc (.cells (slC sl0) 50)).alloc (.cells (slC sl0) 50)) (w.heap.size + 1) 50 (slC sl0) := Blk.new1 _ _ _ _
  have hb : Below w.heap.size w ((w.alloc (.cells (slC sl0) 50)).alloc (.cells (slC sl0) 50)) := below_new2 _ _ _
  obtain ⟨c8, hc8⟩ : ∃ c8, c8 = hornN (tbyte s) 0 8 := ⟨_, rfl⟩
  obtain ⟨n4, hn4⟩ : ∃ n4, n4 = hornN (tbyte s) 8 4 := ⟨_, rfl⟩
  rw [← hc8] at hT8 HDC
  rw [← hn4] at hT4 HDC e4 HX hc4
  clear hc8 hn4
  go_enter Try.func27, Try.ntmps27
  go_wp2_with fail
  generalize ((w.alloc (.cells (slC sl0) 50)).alloc (.cells (slC sl0) 50)) = w1 at *
  refine (hT8.out _).mono ?_
  rintro e _ ⟨rfl, rfl⟩
  have f0 : w1.frozen? ⟨w.heap.size + 1, 0, none⟩ = false := r1.frozen 0
  have d0 : w1.cell? ⟨w.heap.size + 1, 0, none⟩ = some (.int .u64 0) := by
    rw [r1.cell]
    exact va_at (slF sl0) (by decide)
  go_wp2_with fail
  have r2 : Blk (w1.setCell ⟨w.heap.size + 1, 0, none⟩ (.int .u64 (c8 : Int))) (w.heap.size + 1) 50 ((slC sl0).setIfInBounds 0 (.int .u64 (c8 : Int))) := r1.put 0 _
  have q2 : Blk (w1.setCell ⟨w.heap.size + 1, 0, none⟩ (.int .u64 (c8 : Int))) w.heap.size 50 (slC sl0) := r0.put_other _ _ (by omega)
  have hb2 : Below w.heap.size w (w1.setCell ⟨w.heap.size + 1, 0, none⟩ (.int .u64 (c8 : Int))) := hb.setCell (by show w.heap.size ≤ w.heap.size + 1; omega) _
  clear r1 r0 hb f0 d0
  generalize (w1.setCell ⟨w.heap.size + 1, 0, none⟩ (.int .u64 (c8 : Int))) = w2 at *
  refine (hT4.out _).mono ?_
  rintro e _ ⟨rfl, rfl⟩
  have f1 : w2.frozen? ⟨w.heap.size + 1, 1, none⟩ = false := r2.frozen 1
  have d1 : w2.cell? ⟨w.heap.size + 1, 1, none⟩ = some (.int .u32 0) := by
    rw [r2.cell, Array.getElem?_setIfInBounds_ne (by decide)]
    exact va_at (slF sl0) (by decide)
  go_wp2_with fail
  have r3 : Blk (w2.setCell ⟨w.heap.size + 1, 1, none⟩ (.int .u32 (n4 : Int))) (w.heap.size + 1) 50 (((slC sl0).setIfInBounds 0 (.int .u64 (c8 : Int))).setIfInBounds 1 (.int .u32 (n4 : Int))) := r2.put 1 _
  have q3 : Blk (w2.setCell ⟨w.heap.size + 1, 1, none⟩ (.int .u32 (n4 : Int))) w.heap.size 50 (slC sl0) := q2.put_other _ _ (by omega)
  have hb3 : Below w.heap.size w (w2.setCell ⟨w.heap.size + 1, 1, none⟩ (.int .u32 (n4 : Int))) := hb2.setCell (by show w.heap.size ≤ w.heap.size + 1; omega) _
  clear r2 q2 hb2 f1 d1
  generalize (w2.setCell ⟨w.heap.size + 1, 1, none⟩ (.int .u32 (n4 : Int))) = w3 at *
  refine wp_region_partsS (fun _ => True) [([3], 0, true), ([], 1, true), ([], 2, true), ([], 4, false)] [] [5] (by kernel_rfl) (by kernel_rfl) trivial (partsI_yield ?_)
  simp only [List.cons_append, List.nil_append, List.append_nil, List.filterMap_cons, List.filterMap_nil, List.getElem?_toArray, List.getElem?_cons_zero, List.getElem?_cons_succ]
  go_wp2_with fail
  refine ⟨rfl, _, .pointer (some ⟨w.heap.size + 1, 1, none⟩), rfl, Or.inl ⟨by rfl, fun W hW => by go_simp⟩, partsI_yield ?_⟩
  simp only [Act.put, List.setIfInBounds_toArray, List.set_cons_zero, List.set_cons_succ]
  simp only [List.cons_append, List.nil_append, List.append_nil, List.filterMap_cons, List.filterMap_nil, List.getElem?_toArray, List.getElem?_cons_zero, List.getElem?_cons_succ]
  go_wp2_with fail
  refine ⟨rfl, _, .pointer (some ⟨w.heap.size + 1, 2, none⟩), rfl, Or.inl ⟨by rfl, fun W hW => by go_simp⟩, partsI_yield ?_⟩
  simp only [Act.put, List.setIfInBounds_toArray, List.set_cons_zero, List.set_cons_succ]
  simp only [List.cons_append, List.nil_append, List.append_nil, List.filterMap_cons, List.filterMap_nil, List.getElem?_toArray, List.getElem?_cons_zero, List.getElem?_cons_succ]
  go_wp2_with fail
  refine ⟨rfl, _, .slice (some ⟨w.heap.size + 1, 2, none⟩) 32 32, rfl, Or.inl ⟨by rfl, fun W hW => by go_simp⟩, partsI_force ?_⟩
  simp only [Act.put, List.setIfInBounds_toArray, List.set_cons_zero, List.set_cons_succ]
  simp only [List.cons_append, List.nil_append, List.append_nil, List.filterMap_cons, List.filterMap_nil, List.getElem?_toArray, List.getElem?_cons_zero, List.getElem?_cons_succ]
  go_wp2_with fail
  refine ⟨rfl, trivial, partsI_last ?_⟩
  simp only [List.cons_append, List.nil_append, List.append_nil, List.filterMap_cons, List.filterMap_nil, List.getElem?_toArray, List.getElem?_cons_zero, List.getElem?_cons_succ]
  refine wpList_copy_text rfl _ _ 107 9 rfl 5 Try.underlying107 ksizeU8 (w.heap.size + 1) 2 32 32 (s.extract 12 44) rfl rfl (((slC sl0).setIfInBounds 0 (.int .u64 (c8 : Int))).setIfInBounds 1 (.int .u32 (n4 : Int))) 50 r3.drew 32 (by rw [hES]; rfl) (by rw [Array.size_setIfInBounds, Array.size_setIfInBounds, slC_size]; omega) ?_
  rw [HDC.out]
  simp only [Act.put, List.setIfInBounds_toArray, List.set_cons_zero, List.set_cons_succ]
  go_wp2_with fail
  refine ⟨rfl, ?_⟩
  have r4 : Blk (w3.drew.setRow (w.heap.size + 1) (slC (decS s))) (w.heap.size + 1) 50 (slC (decS s)) := r3.drew.set _
  have q4 : Blk (w3.drew.setRow (w.heap.size + 1) (slC (decS s))) w.heap.size 50 (slC sl0) := q3.drew.other _ (by omega)
  have hb4 : Below w.heap.size w (w3.drew.setRow (w.heap.size + 1) (slC (decS s))) := below_setRow hb3.drew (by omega) _
  have x1 : (w3.drew.setRow (w.heap.size + 1) (slC (decS s))).cell? ⟨w.heap.size + 1, 1, none⟩ = some (.int .u32 (n4 : Int)) := by
    rw [r4.cell, ← HX.out]
    exact va_at (slF (decS s)) (by decide)
  have heq : ∀ W, (Op.equalIn 10000 50 (.agg (slC (decS s))) (.agg (slC sl0))).run Try.prog W = .ok (decide (decS s = sl0)) W := eq_slot (decS s) sl0
  clear HDC r3 q3 hb3 hT8 hT4 hES
  generalize (w3.drew.setRow (w.heap.size + 1) (slC (decS s))) = w4 at *
  by_cases h0 : n4 = 0
  · by_cases hx : decS s = sl0
    · have hc : Hid (¬ ((decS s).2.1 = 0 ∧ decS s ≠ sl0)) := fun h => h.2 hx
      rw [decide_eq_true hx] at heq
      subst h0
      clear hx HX
      go_wp2_with (first
        | (refine wpList_load_rowg (by rfl) 50 _ (by rfl) (w.heap.size + 1) (by rfl) 50 (slC (decS s)) (0, 0) _ r4 Try.underlying50 (by rfl) (sizeSlot.trans (by rw [slC_size])) ?_; simp only [Act.put, List.setIfInBounds_toArray, List.set_cons_zero, List.set_cons_succ])
        | (refine wpList_store_row (by rfl) 50 _ _ (by rfl) (w.heap.size) (slC (decS s)) (by rfl) (by rfl) 50 _ q4 (sizeSlot.trans (by rw [slC_size])) (by simp only [slC_size]) (slC_all _) ?_; simp only [Act.put, List.setIfInBounds_toArray, List.set_cons_zero, List.set_cons_succ])
        | fail)
      try simp only [Exit.inBlock, Exit.then]
      refine bodyPost_ret (results_row2 Try.results27 _ _ (w.heap.size) 50 (slC (decS s)) (0, 0) _ rfl (q4.set _) Try.underlying50 rfl (sizeSlot.trans (by rw [slC_size]))) rfl ?_
      refine ⟨?_, below_setRow hb4 (Nat.le_refl _) _⟩
      have e := HXY.out
      rw [if_neg hc.out] at e
      injection e with e1 e2
      rw [e1, e2]
      rfl
    · have hc : Hid ((decS s).2.1 = 0 ∧ decS s ≠ sl0) := ⟨HX.out.trans h0, hx⟩
      rw [decide_eq_false hx] at heq
      subst h0
      clear hx HX
      go_wp2_with (first
        | (refine wpList_load_rowg (by rfl) 50 _ (by rfl) (w.heap.size + 1) (by rfl) 50 (slC (decS s)) (0, 0) _ r4 Try.underlying50 (by rfl) (sizeSlot.trans (by rw [slC_size])) ?_; simp only [Act.put, List.setIfInBounds_toArray, List.set_cons_zero, List.set_cons_succ])
        | (refine wpList_store_row (by rfl) 50 _ _ (by rfl) (w.heap.size) (slC sl0) (by rfl) (by rfl) 50 _ q4 (sizeSlot.trans (by rw [slC_size])) (by simp only [slC_size]) (slC_all _) ?_; simp only [Act.put, List.setIfInBounds_toArray, List.set_cons_zero, List.set_cons_succ])
        | fail)
      try simp only [Exit.inBlock, Exit.then]
      refine bodyPost_ret (results_row2 Try.results27 _ _ (w.heap.size) 50 (slC sl0) (0, 0) _ rfl (q4.set _) Try.underlying50 rfl (sizeSlot.trans (by rw [slC_size]))) rfl ?_
      refine ⟨?_, below_setRow hb4 (Nat.le_refl _) _⟩
      have e := HXY.out
      rw [if_pos hc.out] at e
      injection e with e1 e2
      rw [e1, e2]
      rfl
  · have hc : Hid (¬ ((decS s).2.1 = 0 ∧ decS s ≠ sl0)) := fun h => h0 (HX.out.symm.trans h.1)
    have d0 : ¬ (n4 : Int) = 0 := by omega
    clear heq HX h0
    go_wp2_with (first
      | (refine wpList_load_rowg (by rfl) 50 _ (by rfl) (w.heap.size + 1) (by rfl) 50 (slC (decS s)) (0, 0) _ r4 Try.underlying50 (by rfl) (sizeSlot.trans (by rw [slC_size])) ?_; simp only [Act.put, List.setIfInBounds_toArray, List.set_cons_zero, List.set_cons_succ])
      | (refine wpList_store_row (by rfl) 50 _ _ (by rfl) (w.heap.size) (slC (decS s)) (by rfl) (by rfl) 50 _ q4 (sizeSlot.trans (by rw [slC_size])) (by simp only [slC_size]) (slC_all _) ?_; simp only [Act.put, List.setIfInBounds_toArray, List.set_cons_zero, List.set_cons_succ])
      | fail)
    try simp only [Exit.inBlock, Exit.then]
    refine bodyPost_ret (results_row2 Try.results27 _ _ (w.heap.size) 50 (slC (decS s)) (0, 0) _ rfl (q4.set _) Try.underlying50 rfl (sizeSlot.trans (by rw [slC_size]))) rfl ?_
    refine ⟨?_, below_setRow hb4 (Nat.le_refl _) _⟩
    have e := HXY.out
    rw [if_neg hc.out] at e
    injection e with e1 e2
    rw [e1, e2]
    rfl
/-- what Decode answers: a slot and an error -/
def decA (s : ByteArray) : Sl × Int := if s.size = 44 ∧ ¬ ((decS s).2.1 = 0 ∧ decS s ≠ sl0) then (decS s, 0) else (sl0, 61)
theorem decode_any (s : ByteArray) (w : World) : Calls Try.prog 27 #[.string s] w fun e w' => e = .returned (.tuple #[.agg (slC (decA s).1), .int .i64 (decA s).2]) ∧ Below w.heap.size w w' := by
  unfold decA
  by_cases hs : s.size = 44
  · by_cases hc : (decS s).2.1 = 0 ∧ decS s ≠ sl0
    · rw [if_neg (fun h => h.2 hc)]
      exact decode_long s hs sl0 61 (by rw [if_pos hc]) w
    · rw [if_pos ⟨hs, hc⟩]
      exact decode_long s hs (decS s) 0 (by rw [if_neg hc]) w
  · rw [if_neg (fun h => hs h.1)]
    exact decode_short s hs w
set_option maxRecDepth 100000 in
set_option maxHeartbeats 2000000 in
theorem ahead_any (a b : Sl) (w : World) : Calls Try.prog 26 #[.agg (slC a), .agg (slC b)] w fun e w' => e = .returned (.bool (decide (b.1 < a.1))) ∧ Below w.heap.size w w' := by
  have hb : Below w.heap.size w ((w.alloc (.cells (slC a) 50)).alloc (.cells (slC b) 50)) := below_new2 _ _ _
  have r0 : Blk ((w.alloc (.cells (slC a) 50)).alloc (.cells (slC b) 50)) w.heap.size 50 (slC a) := (Blk.new _ _ _).alloc _
  have r1 : Blk ((w.alloc (.cells (slC a) 50)).alloc (.cells (slC b) 50)) (w.heap.size + 1) 50 (slC b) := Blk.new1 _ _ _ _
  have x0 : ((w.alloc (.cells (slC a) 50)).alloc (.cells (slC b) 50)).cell? ⟨w.heap.size, 0, none⟩ = some (.int .u64 (a.1 : Int)) := by
    rw [r0.cell]
    exact va_at (slF a) (by decide)
  have x1 : ((w.alloc (.cells (slC a) 50)).alloc (.cells (slC b) 50)).cell? ⟨w.heap.size + 1, 0, none⟩ = some (.int .u64 (b.1 : Int)) := by
    rw [r1.cell]
    exact va_at (slF b) (by decide)
  obtain ⟨ac, hac⟩ : ∃ ac, ac = a.1 := ⟨_, rfl⟩
  obtain ⟨bc, hbc⟩ : ∃ bc, bc = b.1 := ⟨_, rfl⟩
  rw [← hac] at x0
  rw [← hbc] at x1
  rw [← hac, ← hbc]
  generalize slC a = ca at *
  generalize slC b = cb at *
  clear r0 r1 hac hbc
  go_enter Try.func26, Try.ntmps26
  go_wp2_with fail
  go_ret
  exact ⟨rfl, hb⟩
end Go.Proofs.Ytlmbokfgogkbmaa

namespace Go.Proofs.Ytlmbokfgogkbmaa
open Go Go.RowKit
set_option linter.unusedSimpArgs false
set_option linter.unusedVariables false

theorem sizeRslot : (Try.prog.info? 36).map (·.size) = some 34 := by kernel_rfl
theorem zero_rslot (w : World) : (zeroValue 36).run Try.prog w = .ok (.agg (slC sl0)) w := by
  have h : (Try.prog.info? 36).bind (·.zero) = some (slV sl0) := by kernel_rfl
  cases hq : Try.prog.info? 36 with
  | none => simp [hq] at h
  | some i =>
    have hi : i.zero = some (slV sl0) := by simpa [hq] using h
    simp [zeroValue, typeInfo, hq, hi]
    rfl
theorem built_rslot (c a : Nat) (d : Vector Nat 32) : Try.prog.built 36 [(0, .int .u64 (c : Int)), (1, .int .u32 (a : Int)), (2, .agg (va 32 (iv .u8 (dF d))))] = some (slC (c, a, d)) := by kernel_rfl
theorem sum_range (s : Sl) {w : World} {b t : Nat} (h : Blk w b t (slC s)) : w.rangeAt b 2 ((List.range 32).map (iv .u8 (dF s.2.2))) := fun j u hu => by
  have hj : j < 32 := by
    rcases Nat.lt_or_ge j 32 with h1 | h1
    · exact h1
    · rw [List.getElem?_eq_none (by simpa using h1)] at hu
      cases hu
  rw [h.cell]
  unfold slC
  rw [va_at (slF s) (by omega), ← hu]
  unfold slF
  rw [if_neg (by omega), if_neg (by omega), show 2 + j - 2 = j by omega]
  simp [hj, iv]
set_option maxRecDepth 100000 in
set_option maxHeartbeats 2000000 in
theorem given_any (s : Sl) (w : World) : Calls Try.prog 15 #[.agg (slC s)] w fun e w' => e = .returned (.agg (slC s)) ∧ Below w.heap.size w w' := by
  have hz := zero_rslot
  have r0 : Blk ((w.alloc (.cells (slC s) 50)).alloc (.cells (slC sl0) 36)) w.heap.size 50 (slC s) := (Blk.new _ _ _).alloc _
  have r1 : Blk ((w.alloc (.cells (slC s) 50)).alloc (.cells (slC sl0) 36)) (w.heap.size + 1) 36 (slC sl0) := Blk.new1 _ _ _ _
  have hb : Below w.heap.size w ((w.alloc (.cells (slC s) 50)).alloc (.cells (slC sl0) 36)) := below_new2 _ _ _
  have x0 : ((w.alloc (.cells (slC s) 50)).alloc (.cells (slC sl0) 36)).cell? ⟨w.heap.size, 0, none⟩ = some (.int .u64 (s.1 : Int)) := by
    rw [r0.cell]
    exact va_at (slF s) (by decide)
  have x1 : ((w.alloc (.cells (slC s) 50)).alloc (.cells (slC sl0) 36)).cell? ⟨w.heap.size, 1, none⟩ = some (.int .u32 (s.2.1 : Int)) := by
    rw [r0.cell]
    exact va_at (slF s) (by decide)
  have HR : Hid (((w.alloc (.cells (slC s) 50)).alloc (.cells (slC sl0) 36)).rangeAt w.heap.size 2 ((List.range 32).map (iv .u8 (dF s.2.2)))) := sum_range s r0
  have hbt : Try.prog.built 36 [(0, .int .u64 (s.1 : Int)), (1, .int .u32 (s.2.1 : Int)), (2, .agg (va 32 (iv .u8 (dF s.2.2))))] = some (slC s) := built_rslot s.1 s.2.1 s.2.2
  go_enter Try.func15, Try.ntmps15
  go_wp2_with (first
    | (refine wpList_load_blk (by rfl) 44 _ (by rfl) w.heap.size 2 32 (iv .u8 (dF s.2.2)) (by rfl) _ HR.out Try.underlying44 rfl sizeSm ?_; simp only [Act.put, List.setIfInBounds_toArray, List.set_cons_zero, List.set_cons_succ])
    | (refine wpList_build3 (by rfl) 36 _ _ _ (by rfl) (.int .u64 (s.1 : Int)) (.int .u32 (s.2.1 : Int)) (.agg (va 32 (iv .u8 (dF s.2.2)))) (by rfl) (by rfl) (by rfl) (slC s) hbt ?_; simp only [Act.put, List.setIfInBounds_toArray, List.set_cons_zero, List.set_cons_succ])
    | (refine wpList_store_row (by rfl) 36 _ _ (by rfl) (w.heap.size + 1) (slC s) (by rfl) (by rfl) 36 _ r1 (sizeRslot.trans (by rw [slC_size])) (by simp only [slC_size]) (slC_all _) ?_; simp only [Act.put, List.setIfInBounds_toArray, List.set_cons_zero, List.set_cons_succ])
    | fail)
  try simp only [Exit.inBlock, Exit.then]
  refine bodyPost_ret (results_cell_row Try.results15 _ _ (w.heap.size + 1) 36 (slC s) (0, 0) _ rfl (r1.set _) Try.underlying36 rfl (sizeRslot.trans (by rw [slC_size]))) rfl ?_
  exact ⟨rfl, below_setRow hb (by omega) _⟩
theorem encF_lo (s : Sl) (j : Nat) (hj : j < 8) : encF s j = dig s.1 j := by
  unfold encF layB
  rw [if_pos (by omega), if_pos hj, if_neg (by omega), Nat.sub_zero]
theorem encF_mi (s : Sl) (j : Nat) (hj : j < 4) : encF s (8 + j) = dig s.2.1 j := by
  unfold encF layB
  rw [if_pos (by omega), if_neg (by omega), show 8 + j - 8 = j by omega]
theorem encF_hi (s : Sl) (j : Nat) (hj : j < 32) : encF s (12 + j) = dF s.2.2 j := by
  unfold encF
  rw [if_neg (by omega), show 12 + j - 12 = j by omega]
set_option maxRecDepth 100000 in
set_option maxHeartbeats 8000000 in
theorem refEncode_any (s : Sl) (h1 : s.1 < 18446744073709551616) (h2 : s.2.1 < 4294967296) (w : World) : Calls Try.prog 25 #[.agg (slC s)] w fun e w' => e = .returned (.string (strN (encF s) 44)) ∧ Below w.heap.size w w' := by
  obtain ⟨i0, hi, hz0, hz1, hz2⟩ := info_parts infoU8k
  have r0 : Blk ((w.alloc (.cells (slC s) 36)).alloc (.cells #[] 5)) w.heap.size 36 (slC s) := (Blk.new _ _ _).alloc _
  have r1 : Blk ((w.alloc (.cells (slC s) 36)).alloc (.cells #[] 5)) (w.heap.size + 1) 5 #[] := Blk.new1 _ _ _ _
  have HBB : Hid (Below w.heap.size w ((w.alloc (.cells (slC s) 36)).alloc (.cells #[] 5))) := below_new2 _ _ _
  have x0 : ∀ n, (((w.alloc (.cells (slC s) 36)).alloc (.cells #[] 5)).drewN n).cell? ⟨w.heap.size, 0, none⟩ = some (.int .u64 (s.1 : Int)) := fun n => by
    rw [(r0.below (dkbelow_drewN (Below.refl ((w.alloc (.cells (slC s) 36)).alloc (.cells #[] 5)).heap.size _) n) r0.lt).cell]
    exact va_at (slF s) (by decide)
  have x1 : ∀ n, (((w.alloc (.cells (slC s) 36)).alloc (.cells #[] 5)).drewN n).cell? ⟨w.heap.size, 1, none⟩ = some (.int .u32 (s.2.1 : Int)) := fun n => by
    rw [(r0.below (dkbelow_drewN (Below.refl ((w.alloc (.cells (slC s) 36)).alloc (.cells #[] 5)).heap.size _) n) r0.lt).cell]
    exact va_at (slF s) (by decide)
  have HW : Hid (((w.alloc (.cells (slC s) 36)).alloc (.cells #[] 5)).heap.size = w.heap.size + 2) := by
    show _ = _
    simp
  go_enter Try.func25, Try.ntmps25
  go_wp2_with fail
  generalize ((w.alloc (.cells (slC s) 36)).alloc (.cells #[] 5)) = W0 at *
  go_quiet (fail)
  go_wp2_with fail
  have r0 : Blk (W0.drewN nq) w.heap.size 36 (slC s) := r0.below (dkbelow_drewN (Below.refl W0.heap.size _) _) r0.lt
  have r1 : Blk (W0.drewN nq) (w.heap.size + 1) 5 #[] := r1.below (dkbelow_drewN (Below.refl W0.heap.size _) _) r1.lt
  have HBB : Hid (Below w.heap.size w (W0.drewN nq)) := dkbelow_drewN HBB.out _
  have hWs : w.heap.size + 1 < (W0.drewN nq).heap.size := r1.lt
  clear x0 x1 HW
  generalize W0.drewN nq = W at *
  go_loopw [3, 4, 6] (fun v m i wr => ∃ (k : Nat) (a : Option Addr) (cap : Nat), k ≤ 8 ∧ i = .int .i64 (k : Int) ∧ m = .int .u64 ((s.1 / 256 ^ k : Nat) : Int) ∧ v = .slice a k cap ∧ wr.ownsRow (w.heap.size + 1) 5 1 v k (byL (encF s) k) ∧ Below (w.heap.size + 1) W wr) (fun _ _ i _ => 8 - (intOf i).toNat)
  case atStart => exact ⟨0, _, _, by omega, rfl, by simp, rfl, kown_empty r1 (Nat.le_refl _), Below.refl _ _⟩
  case round =>
    obtain ⟨k, a, cap, hk, rfl, rfl, rfl, hown, hb⟩ := hrel
    have hv := hown.lt
    have hsz := hb.size
    by_cases hlt : k < 8
    · have hqn : s.1 / 256 ^ k ≤ s.1 := Nat.div_le_self _ _
      have HQ : Hid (s.1 / 256 ^ (k + 1) = s.1 / 256 ^ k / 256) := by
        show _ = _
        rw [Nat.pow_succ, Nat.div_div_eq_div_mul]
      have HZ : Hid (byL (encF s) ((k + 1)) = byL (encF s) k ++ [Value.int .u8 ((s.1 / 256 ^ k % 256 : Nat) : Int)]) := by
        show _ = _
        rw [byL_succ, encF_lo s k hlt]
        rfl
      generalize s.1 / 256 ^ k = q at *
      have q0 : (0 : Int) ≤ (q : Int) := by omega
      have q1 : (q : Int) < 18446744073709551616 := by omega
      generalize byL (encF s) k = LL at *
      have k1 : (k : Int) < 8 := by omega
      have k0 : (0 : Int) ≤ (k : Int) := by omega
      go_wp2_with (first
        | (at_builtin; refine wpList_append_own _ rfl _ _ 107 rfl (w.heap.size + 1) 5 i0 (.int .u8 0) 1 1 Try.underlying107 hi hz0 hz1 hz2 rfl (by decide) _ _ _ rfl (hown.alloc _) ⟨wr.heap.size, 0, none⟩ 1 1 [.int .u8 ((q : Int) % 256)] rfl rfl (cell_one_new _ _ _) (fun x hx => by simp at hx; subst hx; rfl) (by unfold maxLen; omega) (by omega) (by simp; omega) ?_)
        | go_in)
      intro v' w2 hown' hgrow _
      have hb2 : Below (w.heap.size + 1) W w2 := (hb.alloc (by omega) _).grown hgrow (by simp; omega) (fun k hk => (hv k hk).1)
      have hown2 : w2.ownsRow (w.heap.size + 1) 5 1 v' ((k + 1)) (byL (encF s) ((k + 1))) := by
        rw [HZ.out]
        try rw [← Nat.add_assoc]
        simpa using hown'
      obtain ⟨g3, cap3, hv3⟩ := kown_slice hown2
      subst hv3
      clear hown hv hgrow hb hown'
      go_wp2_with fail
      refine ⟨⟨k + 1, g3, cap3, by omega, by simp, by rw [HQ.out]; simp, rfl, hown2, hb2⟩, ?_⟩
      simp [intOf]
      try omega
    · have HK8 : Hid (k = 8) := by
        show k = 8
        omega
      have k1 : ¬ (k : Int) < 8 := by omega
      have HO8 : Hid (wr.ownsRow (w.heap.size + 1) 5 1 (.slice a k cap) k (byL (encF s) k)) := hown
      clear hown hv hk hlt
      go_wp2_with fail
      go_loopw [3, 5, 7] (fun v m i wx => ∃ (k : Nat) (a : Option Addr) (cap : Nat), k ≤ 4 ∧ i = .int .i64 (k : Int) ∧ m = .int .u32 ((s.2.1 / 256 ^ k : Nat) : Int) ∧ v = .slice a (8 + k) cap ∧ wx.ownsRow (w.heap.size + 1) 5 1 v (8 + k) (byL (encF s) (8 + k)) ∧ Below (w.heap.size + 1) W wx) (fun _ _ i _ => 4 - (intOf i).toNat)
      case atStart => exact ⟨0, a, cap, by omega, rfl, by simp, by rw [HK8.out], by have := HO8.out; rw [HK8.out] at this ⊢; exact this, hb⟩
      case round =>
        clear hb hsz HO8 HK8 k1
        obtain ⟨k, a, cap, hk, rfl, rfl, rfl, hown, hb⟩ := hrel
        have hv := hown.lt
        have hsz := hb.size
        by_cases hlt : k < 4
        · have hqn : s.2.1 / 256 ^ k ≤ s.2.1 := Nat.div_le_self _ _
          have HQ : Hid (s.2.1 / 256 ^ (k + 1) = s.2.1 / 256 ^ k / 256) := by
            show _ = _
            rw [Nat.pow_succ, Nat.div_div_eq_div_mul]
          have HZ : Hid (byL (encF s) (8 + (k + 1)) = byL (encF s) (8 + k) ++ [Value.int .u8 ((s.2.1 / 256 ^ k % 256 : Nat) : Int)]) := by
            show _ = _
            rw [← Nat.add_assoc, byL_succ, encF_mi s k hlt]
            rfl
          generalize s.2.1 / 256 ^ k = q at *
          have q0 : (0 : Int) ≤ (q : Int) := by omega
          have q1 : (q : Int) < 4294967296 := by omega
          generalize byL (encF s) (8 + k) = LL at *
          have k1 : (k : Int) < 4 := by omega
          have k0 : (0 : Int) ≤ (k : Int) := by omega
          go_wp2_with (first
            | (at_builtin; refine wpList_append_own _ rfl _ _ 107 rfl (w.heap.size + 1) 5 i0 (.int .u8 0) 1 1 Try.underlying107 hi hz0 hz1 hz2 rfl (by decide) _ _ _ rfl (hown.alloc _) ⟨wr.heap.size, 0, none⟩ 1 1 [.int .u8 ((q : Int) % 256)] rfl rfl (cell_one_new _ _ _) (fun x hx => by simp at hx; subst hx; rfl) (by unfold maxLen; omega) (by omega) (by simp; omega) ?_)
            | go_in)
          intro v' w2 hown' hgrow _
          have hb2 : Below (w.heap.size + 1) W w2 := (hb.alloc (by omega) _).grown hgrow (by simp; omega) (fun k hk => (hv k hk).1)
          have hown2 : w2.ownsRow (w.heap.size + 1) 5 1 v' (8 + (k + 1)) (byL (encF s) (8 + (k + 1))) := by
            rw [HZ.out]
            try rw [← Nat.add_assoc]
            simpa using hown'
          obtain ⟨g3, cap3, hv3⟩ := kown_slice hown2
          subst hv3
          clear hown hv hgrow hb hown'
          go_wp2_with fail
          refine ⟨⟨k + 1, g3, cap3, by omega, by simp, by rw [HQ.out]; simp, rfl, hown2, hb2⟩, ?_⟩
          simp [intOf]
          try omega
        · have HK4 : Hid (k = 4) := by
            show k = 4
            omega
          have k1 : ¬ (k : Int) < 4 := by omega
          have HO12 : Hid (wr.ownsRow (w.heap.size + 1) 5 1 (.slice a (8 + k) cap) (8 + k) (byL (encF s) (8 + k))) := hown
          clear hown hv hk hlt
          go_wp2_with fail
          go_loopw [3, 8] (fun v i wx => ∃ (k : Nat) (a : Option Addr) (cap : Nat), k ≤ 32 ∧ i = .int .i64 (k : Int) ∧ v = .slice a (12 + k) cap ∧ wx.ownsRow (w.heap.size + 1) 5 1 v (12 + k) (byL (encF s) (12 + k)) ∧ Below (w.heap.size + 1) W wx) (fun _ i _ => 32 - (intOf i).toNat)
          case atStart => exact ⟨0, a, cap, by omega, rfl, by rw [HK4.out], by have := HO12.out; rw [HK4.out] at this ⊢; exact this, hb⟩
          case round =>
            clear hb hsz HO12 HK4 k1
            obtain ⟨k, a, cap, hk, rfl, rfl, hown, hb⟩ := hrel
            have hv := hown.lt
            have hsz := hb.size
            by_cases hlt : k < 32
            · have HZ : Hid (byL (encF s) (12 + (k + 1)) = byL (encF s) (12 + k) ++ [Value.int .u8 ((dF s.2.2 k : Nat) : Int)]) := by
                show _ = _
                rw [← Nat.add_assoc, byL_succ, encF_hi s k hlt]
              have xk : wr.cell? ⟨w.heap.size, 2 + k, none⟩ = some (.int .u8 ((dF s.2.2 k : Nat) : Int)) := by
                rw [(r0.below hb (by omega)).cell]
                unfold slC
                rw [va_at (slF s) (by omega)]
                unfold slF
                rw [if_neg (by omega), if_neg (by omega), show 2 + k - 2 = k by omega]
              generalize dF s.2.2 k = z at *
              generalize byL (encF s) (12 + k) = LL at *
              have k1 : (k : Int) < 32 := by omega
              have k0 : (0 : Int) ≤ (k : Int) := by omega
              go_wp2_with (first
                | (at_builtin; refine wpList_append_own _ rfl _ _ 107 rfl (w.heap.size + 1) 5 i0 (.int .u8 0) 1 1 Try.underlying107 hi hz0 hz1 hz2 rfl (by decide) _ _ _ rfl (hown.alloc _) ⟨wr.heap.size, 0, none⟩ 1 1 [.int .u8 (z : Int)] rfl rfl (cell_one_new _ _ _) (fun x hx => by simp at hx; subst hx; rfl) (by unfold maxLen; omega) (by omega) (by simp; omega) ?_)
                | go_in)
              intro v' w2 hown' hgrow _
              have hb2 : Below (w.heap.size + 1) W w2 := (hb.alloc (by omega) _).grown hgrow (by simp; omega) (fun k hk => (hv k hk).1)
              have hown2 : w2.ownsRow (w.heap.size + 1) 5 1 v' (12 + (k + 1)) (byL (encF s) (12 + (k + 1))) := by
                rw [HZ.out]
                try rw [← Nat.add_assoc]
                simpa using hown'
              obtain ⟨g3, cap3, hv3⟩ := kown_slice hown2
              subst hv3
              clear hown hv hgrow hb hown'
              go_wp2_with fail
              refine ⟨⟨k + 1, g3, cap3, by omega, by simp, rfl, hown2, hb2⟩, ?_⟩
              simp [intOf]
              try omega
            · obtain rfl : k = 32 := by omega
              obtain ⟨g5, cap5, hv5, _, _⟩ := kown_form hown (by omega)
              injection hv5 with hv5 _ hv6
              subst hv5 hv6
              have hc := run_own_text (P := Try.prog) wr 107 5 9 Try.underlying107 Try.underlying5 Try.underlying9 hown
              go_wp2_with fail
              go_ret
              exact ⟨rfl, HBB.out.trans (hb.mono (by omega))⟩
end Go.Proofs.Ytlmbokfgogkbmaa
