/- A slice of digests as an argument, opened: no condition but that it is one. -/
import Derived.Test.YtlmbokfgogkbmaaHSlEnc
import Derived.Test.YtlmbokfgogkbmaaHSlRD
import Derived.Handy
import Derived.Test.YtlmbokfgogkbmaaRows
import Derived.WalkKit
import Derived.ProofKit
import Derived.OpenShut
import Derived.Carry
import Derived.Deep.Slices
import Derived.Lib.SmallJoins
import Derived.SizedLaws
import Derived.SliceStrings
import Derived.Test.YtlmbokfgogkbmaaHTurnsMix

namespace Go.Proofs.Ytlmbokfgogkbmaa
open Go Go.RowKit
set_option linter.unusedSimpArgs false
set_option linter.unusedVariables false

/-- the slot of 44 bytes -/
def decS (s : ByteArray) : Sl := (hornN (tbyte s) 0 8, hornN (tbyte s) 8 4, sumD fun i => tbyte s (12 + i))
/-- what Decode tells -/
def decBad (s : ByteArray) : Bool := decide (s.size ≠ 44 ∨ (decS s).2.1 = 0 ∧ decS s ≠ sl0)
theorem horn_extract (s : ByteArray) (a k : Nat) (h : a + k ≤ s.size) : hornN (tbyte (s.extract a (a + k))) 0 k = hornN (tbyte s) a k := hornN_congr k 0 a fun i hi => by
  rw [Nat.zero_add, tbyte_extract s a (a + k) i h (by omega)]
theorem dec_cells (c n : Nat) (f : Nat → Nat) : (splice (((slC sl0).setIfInBounds 0 (.int .u64 (c : Int))).setIfInBounds 1 (.int .u32 (n : Int))).toList 2 (byL f 32)).toArray = slC (c, n, sumD f) := by
  unfold slC
  rw [va_set, va_set, va_toList]
  refine Eq.trans (by rfl) ((splice_va 34 2 32 _ (fun j => Value.int .u8 ((f j : Nat) : Int)) (by decide)).trans ?_)
  refine va_congr fun i hi => ?_
  by_cases h2 : 2 ≤ i ∧ i < 2 + 32
  · have e1 : slF (c, n, sumD f) i = .int .u8 ((f (i - 2) : Nat) : Int) := by
      unfold slF
      rw [if_neg (by omega), if_neg (by omega), show dF (c, n, sumD f).2.2 (i - 2) = f (i - 2) from dF_sumD f _ (by omega)]
    rw [e1]
    unfold overF
    rw [if_pos h2]
  · unfold overF upd
    rw [if_neg h2]
    by_cases h1 : i = 1
    · subst h1
      rw [if_pos rfl]
      rfl
    · have h0 : i = 0 := by omega
      subst h0
      rw [if_neg h1, if_pos rfl]
      rfl
set_option maxRecDepth 100000 in
set_option maxHeartbeats 2000000 in
theorem decode_short (s : ByteArray) (hs : s.size ≠ 44) (w : World) : Calls Try.prog 27 #[.string s] w fun e w' => e = .returned (.tuple #[.agg (slC sl0), .int .i64 61]) ∧ Below w.heap.size w w' := by
  have hz := zero_slot
  have h1 : ¬ (s.size : Int) = 44 := by omega
  have r0 : Blk (w.alloc (.cells (slC sl0) 50)) w.heap.size 50 (slC sl0) := Blk.new _ _ _
  have hb : Below w.heap.size w (w.alloc (.cells (slC sl0) 50)) := below_new1 _ _
  go_enter Try.func27, Try.ntmps27
  go_wp2_with (first
    | (refine wpList_store_row (by rfl) 50 _ _ (by rfl) (w.heap.size) (slC sl0) (by rfl) (by rfl) 50 _ r0 (sizeSlot.trans (by rw [slC_size])) (by simp only [slC_size]) (slC_all _) ?_; simp only [Act.put, List.setIfInBounds_toArray, List.set_cons_zero, List.set_cons_succ])
    | fail)
  try simp only [Exit.inBlock, Exit.then]
  refine bodyPost_ret (results_row2 Try.results27 _ _ (w.heap.size) 50 (slC sl0) (0, 0) _ rfl (r0.set _) Try.underlying50 rfl (sizeSlot.trans (by rw [slC_size]))) rfl ?_
  exact ⟨rfl, below_setRow hb (Nat.le_refl _) _⟩
set_option maxRecDepth 100000 in
set_option maxHeartbeats 8000000 in
theorem decode_long (s : ByteArray) (hs : s.size = 44) (X : Sl) (Y : Int) (hX : (X, Y) = if (decS s).2.1 = 0 ∧ decS s ≠ sl0 then (sl0, 61) else (decS s, 0)) (w : World) : Calls Try.prog 27 #[.string s] w fun e w' => e = .returned (.tuple #[.agg (slC X), .int .i64 Y]) ∧ Below w.heap.size w w' := by
  have HXY : Hid ((X, Y) = if (decS s).2.1 = 0 ∧ decS s ≠ sl0 then (sl0, 61) else (decS s, 0)) := hX
  clear hX
  have hz := zero_slot
  have h1 : (s.size : Int) = 44 := by omega
  have hT8 : Hid (∀ w, Calls Try.prog 44 #[.string (s.extract 0 8)] w fun e w' => e = .returned (.int .u64 ((hornN (tbyte s) 0 8 : Nat) : Int)) ∧ w = w') := fun w => by
    have := taken8 (s.extract 0 8) (by rw [extract_size s 0 8 (by omega)]) w
    have e := horn_extract s 0 8 (by omega)
    rw [Nat.zero_add] at e
    rw [e] at this
    exact this
  have hT4 : Hid (∀ w, Calls Try.prog 44 #[.string (s.extract 8 12)] w fun e w' => e = .returned (.int .u64 ((hornN (tbyte s) 8 4 : Nat) : Int)) ∧ w = w') := fun w => by
    have := taken4 (s.extract 8 12) (by rw [extract_size s 8 12 (by omega)]) w
    rw [horn_extract s 8 4 (by omega)] at this
    exact this
  have hc4 : hornN (tbyte s) 8 4 < 4294967296 := hornN_lt (tbyte s) (tbyte_lt s) 4 8
  have e4 : ((hornN (tbyte s) 8 4 : Nat) : Int) % 4294967296 = ((hornN (tbyte s) 8 4 : Nat) : Int) := by omega
  have HDC : Hid ((splice (((slC sl0).setIfInBounds 0 (.int .u64 ((hornN (tbyte s) 0 8 : Nat) : Int))).setIfInBounds 1 (.int .u32 ((hornN (tbyte s) 8 4 : Nat) : Int))).toList 2 (byL (tbyte (s.extract 12 44)) 32)).toArray = slC (decS s)) := by
    rw [byL_congr (f := tbyte (s.extract 12 44)) (g := fun i => tbyte s (12 + i)) fun i hi => tbyte_extract s 12 44 i (by omega) (by omega)]
    exact dec_cells _ _ _
  have HX : Hid ((decS s).2.1 = hornN (tbyte s) 8 4) := rfl
  have hES : (s.extract 12 44).size = 32 := extract_size s 12 44 (by omega)
  have r0 : Blk ((w.alloc (.cells (slC sl0) 50)).alloc (.cells (slC sl0) 50)) w.heap.size 50 (slC sl0) := (Blk.new _ _ _).alloc _
  have r1 : Blk ((w.alloc (.cells (slC sl0) 50)).alloc (.cells (slC sl0) 50)) (w.heap.size + 1) 50 (slC sl0) := Blk.new1 _ _ _ _
  have hb : Below w.heap.size w ((w.alloc (.cells (slC sl0) 50)).alloc (.cells (slC sl0) 50)) := below_new2 _ _ _
  obtain ⟨c8, hc8⟩ : ∃ c8, c8 = hornN (tbyte s) 0 8 := ⟨_, rfl⟩
  obtain ⟨n4, hn4⟩ : ∃ n4, n4 = hornN (tbyte s) 8 4 := ⟨_, rfl⟩
  rw [← hc8] at hT8 HDC
  rw [← hn4] at hT4 HDC e4 HX hc4
  clear hc8 hn4
  go_enter Try.func27, Try.ntmps27
  go_wp2_with fail
  generalize ((w.alloc (.cells (slC sl0) 50)).alloc (.cells (slC sl0) 50)) = w1 at *
  refine (hT8.out _).mono ?_
  rintro e _ ⟨rfl, rfl⟩
  have f0 : w1.frozen? ⟨w.heap.size + 1, 0, none⟩ = false := r1.frozen 0
  have d0 : w1.cell? ⟨w.heap.size + 1, 0, none⟩ = some (.int .u64 0) := by
    rw [r1.cell]
    exact va_at (slF sl0) (by decide)
  go_wp2_with fail
  have r2 : Blk (w1.setCell ⟨w.heap.size + 1, 0, none⟩ (.int .u64 (c8 : Int))) (w.heap.size + 1) 50 ((slC sl0).setIfInBounds 0 (.int .u64 (c8 : Int))) := r1.put 0 _
  have q2 : Blk (w1.setCell ⟨w.heap.size + 1, 0, none⟩ (.int .u64 (c8 : Int))) w.heap.size 50 (slC sl0) := r0.put_other _ _ (by omega)
  have hb2 : Below w.heap.size w (w1.setCell ⟨w.heap.size + 1, 0, none⟩ (.int .u64 (c8 : Int))) := hb.setCell (by show w.heap.size ≤ w.heap.size + 1; omega) _
  clear r1 r0 hb f0 d0
  generalize (w1.setCell ⟨w.heap.size + 1, 0, none⟩ (.int .u64 (c8 : Int))) = w2 at *
  refine (hT4.out _).mono ?_
  rintro e _ ⟨rfl, rfl⟩
  have f1 : w2.frozen? ⟨w.heap.size + 1, 1, none⟩ = false := r2.frozen 1
  have d1 : w2.cell? ⟨w.heap.size + 1, 1, none⟩ = some (.int .u32 0) := by
    rw [r2.cell, Array.getElem?_setIfInBounds_ne (by decide)]
    exact va_at (slF sl0) (by decide)
  go_wp2_with fail
  have r3 : Blk (w2.setCell ⟨w.heap.size + 1, 1, none⟩ (.int .u32 (n4 : Int))) (w.heap.size + 1) 50 (((slC sl0).setIfInBounds 0 (.int .u64 (c8 : Int))).setIfInBounds 1 (.int .u32 (n4 : Int))) := r2.put 1 _
  have q3 : Blk (w2.setCell ⟨w.heap.size + 1, 1, none⟩ (.int .u32 (n4 : Int))) w.heap.size 50 (slC sl0) := q2.put_other _ _ (by omega)
  have hb3 : Below w.heap.size w (w2.setCell ⟨w.heap.size + 1, 1, none⟩ (.int .u32 (n4 : Int))) := hb2.setCell (by show w.heap.size ≤ w.heap.size + 1; omega) _
  clear r2 q2 hb2 f1 d1
  generalize (w2.setCell ⟨w.heap.size + 1, 1, none⟩ (.int .u32 (n4 : Int))) = w3 at *
  refine wp_region_partsS (fun _ => True) [([3], 0, true), ([], 1, true), ([], 2, true), ([], 4, false)] [] [5] (by kernel_rfl) (by kernel_rfl) trivial (partsI_yield ?_)
  simp only [List.cons_append, List.nil_append, List.append_nil, List.filterMap_cons, List.filterMap_nil, List.getElem?_toArray, List.getElem?_cons_zero, List.getElem?_cons_succ]
  go_wp2_with fail
  refine ⟨rfl, _, .pointer (some ⟨w.heap.size + 1, 1, none⟩), rfl, Or.inl ⟨by rfl, fun W hW => by go_simp⟩, partsI_yield ?_⟩
  simp only [Act.put, List.setIfInBounds_toArray, List.set_cons_zero, List.set_cons_succ]
  simp only [List.cons_append, List.nil_append, List.append_nil, List.filterMap_cons, List.filterMap_nil, List.getElem?_toArray, List.getElem?_cons_zero, List.getElem?_cons_succ]
  go_wp2_with fail
  refine ⟨rfl, _, .pointer (some ⟨w.heap.size + 1, 2, none⟩), rfl, Or.inl ⟨by rfl, fun W hW => by go_simp⟩, partsI_yield ?_⟩
  simp only [Act.put, List.setIfInBounds_toArray, List.set_cons_zero, List.set_cons_succ]
  simp only [List.cons_append, List.nil_append, List.append_nil, List.filterMap_cons, List.filterMap_nil, List.getElem?_toArray, List.getElem?_cons_zero, List.getElem?_cons_succ]
  go_wp2_with fail
  refine ⟨rfl, _, .slice (some ⟨w.heap.size + 1, 2, none⟩) 32 32, rfl, Or.inl ⟨by rfl, fun W hW => by go_simp⟩, partsI_force ?_⟩
  simp only [Act.put, List.setIfInBounds_toArray, List.set_cons_zero, List.set_cons_succ]
  simp only [List.cons_append, List.nil_append, List.append_nil, List.filterMap_cons, List.filterMap_nil, List.getElem?_toArray, List.getElem?_cons_zero, List.getElem?_cons_succ]
  go_wp2_with fail
  refine ⟨rfl, trivial, partsI_last ?_⟩
  simp only [List.cons_append, List.nil_append, List.append_nil, List.filterMap_cons, List.filterMap_nil, List.getElem?_toArray, List.getElem?_cons_zero, List.getElem?_cons_succ]
  refine wpList_copy_text rfl _ _ 107 9 rfl 5 Try.underlying107 ksizeU8 (w.heap.size + 1) 2 32 32 (s.extract 12 44) rfl rfl (((slC sl0).setIfInBounds 0 (.int .u64 (c8 : Int))).setIfInBounds 1 (.int .u32 (n4 : Int))) 50 r3.drew 32 (by rw [hES]; rfl) (by rw [Array.size_setIfInBounds, Array.size_setIfInBounds, slC_size]; omega) ?_
  rw [HDC.out]
  simp only [Act.put, List.setIfInBounds_toArray, List.set_cons_zero, List.set_cons_succ]
  go_wp2_with fail
  refine ⟨rfl, ?_⟩
  have r4 : Blk (w3.drew.setRow (w.heap.size + 1) (slC (decS s))) (w.heap.size + 1) 50 (slC (decS s)) := r3.drew.set _
  have q4 : Blk (w3.drew.setRow (w.heap.size + 1) (slC (decS s))) w.heap.size 50 (slC sl0) := q3.drew.other _ (by omega)
  have hb4 : Below w.heap.size w (w3.drew.setRow (w.heap.size + 1) (slC (decS s))) := below_setRow hb3.drew (by omega) _
  have x1 : (w3.drew.setRow (w.heap.size + 1) (slC (decS s))).cell? ⟨w.heap.size + 1, 1, none⟩ = some (.int .u32 (n4 : Int)) := by
    rw [r4.cell, ← HX.out]
    exact va_at (slF (decS s)) (by decide)
  have heq : ∀ W, (Op.equalIn 10000 50 (.agg (slC (decS s))) (.agg (slC sl0))).run Try.prog W = .ok (decide (decS s = sl0)) W := eq_slot (decS s) sl0
  clear HDC r3 q3 hb3 hT8 hT4 hES
  generalize (w3.drew.setRow (w.heap.size + 1) (slC (decS s))) = w4 at *
  by_cases h0 : n4 = 0
  · by_cases hx : decS s = sl0
    · have hc : Hid (¬ ((decS s).2.1 = 0 ∧ decS s ≠ sl0)) := fun h => h.2 hx
      rw [decide_eq_true hx] at heq
      subst h0
      clear hx HX
      go_wp2_with (first
        | (refine wpList_load_rowg (by rfl) 50 _ (by rfl) (w.heap.size + 1) (by rfl) 50 (slC (decS s)) (0, 0) _ r4 Try.underlying50 (by rfl) (sizeSlot.trans (by rw [slC_size])) ?_; simp only [Act.put, List.setIfInBounds_toArray, List.set_cons_zero, List.set_cons_succ])
        | (refine wpList_store_row (by rfl) 50 _ _ (by rfl) (w.heap.size) (slC (decS s)) (by rfl) (by rfl) 50 _ q4 (sizeSlot.trans (by rw [slC_size])) (by simp only [slC_size]) (slC_all _) ?_; simp only [Act.put, List.setIfInBounds_toArray, List.set_cons_zero, List.set_cons_succ])
        | fail)
      try simp only [Exit.inBlock, Exit.then]
      refine bodyPost_ret (results_row2 Try.results27 _ _ (w.heap.size) 50 (slC (decS s)) (0, 0) _ rfl (q4.set _) Try.underlying50 rfl (sizeSlot.trans (by rw [slC_size]))) rfl ?_
      refine ⟨?_, below_setRow hb4 (Nat.le_refl _) _⟩
      have e := HXY.out
      rw [if_neg hc.out] at e
      injection e with e1 e2
      rw [e1, e2]
      rfl
    · have hc : Hid ((decS s).2.1 = 0 ∧ decS s ≠ sl0) := ⟨HX.out.trans h0, hx⟩
      rw [decide_eq_false hx] at heq
      subst h0
      clear hx HX
      go_wp2_with (first
        | (refine wpList_load_rowg (by rfl) 50 _ (by rfl) (w.heap.size + 1) (by rfl) 50 (slC (decS s)) (0, 0) _ r4 Try.underlying50 (by rfl) (sizeSlot.trans (by rw [slC_size])) ?_; simp only [Act.put, List.setIfInBounds_toArray, List.set_cons_zero, List.set_cons_succ])
        | (refine wpList_store_row (by rfl) 50 _ _ (by rfl) (w.heap.size) (slC sl0) (by rfl) (by rfl) 50 _ q4 (sizeSlot.trans (by rw [slC_size])) (by simp only [slC_size]) (slC_all _) ?_; simp only [Act.put, List.setIfInBounds_toArray, List.set_cons_zero, List.set_cons_succ])
        | fail)
      try simp only [Exit.inBlock, Exit.then]
      refine bodyPost_ret (results_row2 Try.results27 _ _ (w.heap.size) 50 (slC sl0) (0, 0) _ rfl (q4.set _) Try.underlying50 rfl (sizeSlot.trans (by rw [slC_size]))) rfl ?_
      refine ⟨?_, below_setRow hb4 (Nat.le_refl _) _⟩
      have e := HXY.out
      rw [if_pos hc.out] at e
      injection e with e1 e2
      rw [e1, e2]
      rfl
  · have hc : Hid (¬ ((decS s).2.1 = 0 ∧ decS s ≠ sl0)) := fun h => h0 (HX.out.symm.trans h.1)
    have d0 : ¬ (n4 : Int) = 0 := by omega
    clear heq HX h0
    go_wp2_with (first
      | (refine wpList_load_rowg (by rfl) 50 _ (by rfl) (w.heap.size + 1) (by rfl) 50 (slC (decS s)) (0, 0) _ r4 Try.underlying50 (by rfl) (sizeSlot.trans (by rw [slC_size])) ?_; simp only [Act.put, List.setIfInBounds_toArray, List.set_cons_zero, List.set_cons_succ])
      | (refine wpList_store_row (by rfl) 50 _ _ (by rfl) (w.heap.size) (slC (decS s)) (by rfl) (by rfl) 50 _ q4 (sizeSlot.trans (by rw [slC_size])) (by simp only [slC_size]) (slC_all _) ?_; simp only [Act.put, List.setIfInBounds_toArray, List.set_cons_zero, List.set_cons_succ])
      | fail)
    try simp only [Exit.inBlock, Exit.then]
    refine bodyPost_ret (results_row2 Try.results27 _ _ (w.heap.size) 50 (slC (decS s)) (0, 0) _ rfl (q4.set _) Try.underlying50 rfl (sizeSlot.trans (by rw [slC_size]))) rfl ?_
    refine ⟨?_, below_setRow hb4 (Nat.le_refl _) _⟩
    have e := HXY.out
    rw [if_neg hc.out] at e
    injection e with e1 e2
    rw [e1, e2]
    rfl
/-- what Decode answers: a slot and an error -/
def decA (s : ByteArray) : Sl × Int := if s.size = 44 ∧ ¬ ((decS s).2.1 = 0 ∧ decS s ≠ sl0) then (decS s, 0) else (sl0, 61)
theorem decode_any (s : ByteArray) (w : World) : Calls Try.prog 27 #[.string s] w fun e w' => e = .returned (.tuple #[.agg (slC (decA s).1), .int .i64 (decA s).2]) ∧ Below w.heap.size w w' := by
  unfold decA
  by_cases hs : s.size = 44
  · by_cases hc : (decS s).2.1 = 0 ∧ decS s ≠ sl0
    · rw [if_neg (fun h => h.2 hc)]
      exact decode_long s hs sl0 61 (by rw [if_pos hc]) w
    · rw [if_pos ⟨hs, hc⟩]
      exact decode_long s hs (decS s) 0 (by rw [if_neg hc]) w
  · rw [if_neg (fun h => hs h.1)]
    exact decode_short s hs w
set_option maxRecDepth 100000 in
set_option maxHeartbeats 2000000 in
theorem ahead_any (a b : Sl) (w : World) : Calls Try.prog 26 #[.agg (slC a), .agg (slC b)] w fun e w' => e = .returned (.bool (decide (b.1 < a.1))) ∧ Below w.heap.size w w' := by
  have hb : Below w.heap.size w ((w.alloc (.cells (slC a) 50)).alloc (.cells (slC b) 50)) := below_new2 _ _ _
  have r0 : Blk ((w.alloc (.cells (slC a) 50)).alloc (.cells (slC b) 50)) w.heap.size 50 (slC a) := (Blk.new _ _ _).alloc _
  have r1 : Blk ((w.alloc (.cells (slC a) 50)).alloc (.cells (slC b) 50)) (w.heap.size + 1) 50 (slC b) := Blk.new1 _ _ _ _
  have x0 : ((w.alloc (.cells (slC a) 50)).alloc (.cells (slC b) 50)).cell? ⟨w.heap.size, 0, none⟩ = some (.int .u64 (a.1 : Int)) := by
    rw [r0.cell]
    exact va_at (slF a) (by decide)
  have x1 : ((w.alloc (.cells (slC a) 50)).alloc (.cells (slC b) 50)).cell? ⟨w.heap.size + 1, 0, none⟩ = some (.int .u64 (b.1 : Int)) := by
    rw [r1.cell]
    exact va_at (slF b) (by decide)
  obtain ⟨ac, hac⟩ : ∃ ac, ac = a.1 := ⟨_, rfl⟩
  obtain ⟨bc, hbc⟩ : ∃ bc, bc = b.1 := ⟨_, rfl⟩
  rw [← hac] at x0
  rw [← hbc] at x1
  rw [← hac, ← hbc]
  generalize slC a = ca at *
  generalize slC b = cb at *
  clear r0 r1 hac hbc
  go_enter Try.func26, Try.ntmps26
  go_wp2_with fail
  go_ret
  exact ⟨rfl, hb⟩
end Go.Proofs.Ytlmbokfgogkbmaa

namespace Go.Proofs.Ytlmbokfgogkbmaa
open Go Go.RowKit
set_option linter.unusedSimpArgs false
set_option linter.unusedVariables false

/-- a new register on a quiet disk -/
theorem RD.new {w1 w2 : World} {B g N k lg r m : Nat} {F : Nat → Nat} {q : QD} {j : Nat} (hd : DiskQ w1 B g N F k lg q) (hq : Quiet q j) (hB : B ≤ w1.heap.size) (hr : RegAt w2 w1.heap.size r m (some ⟨g, 0, none⟩) (.slice none 0 0) []) (hb : Below w1.heap.size w1 w2) : RD w2 B g N F k lg q [] r m (.slice none 0 0) [] := by
  refine ⟨hd.below hb, ?_, hr.mono hB, fun b h1 h2 => ?_⟩
  · rw [hq.cu]
    exact World.ownsRow_nil _ _ _ _
  · have := (hd.foots b h2).2
    have := (hr.foots b h1).1
    omega
def sA : Sl := (1, 2, Vector.replicate 32 0)
theorem ahB_nil (q : QD) : ahB q [] = false := rfl
theorem bhB_nil (q : QD) : bhB q [] = false := rfl
set_option maxRecDepth 100000 in
set_option maxHeartbeats 4000000 in
theorem awake6_any (w : World) : Calls Try.prog 9 #[] w fun e w' => e = .returned (.bool true) ∧ Below w.heap.size w w' := by
  have hz := zero_slot
  have hN : Hid (∀ w : World, Calls Try.prog 8 #[.int .i64 16] w fun e w' => ∃ g q, e = .returned (.tuple #[.pointer (some ⟨g, 0, none⟩), .int .i64 0]) ∧ DiskQ w' w.heap.size g 16 (fun _ => 0) 0 0 q ∧ Quiet q 0 ∧ Below w.heap.size w w') := fun w => diskNew_any 16 (by decide) (by decide) w
  have hR : Hid (∀ (p : Option Addr) (w : World), Calls Try.prog 10 #[.pointer p] w fun e w' => ∃ r m, e = .returned (.pointer (some ⟨r, 0, none⟩)) ∧ RegAt w' w.heap.size r m p (.slice none 0 0) [] ∧ Below w.heap.size w w') := newReg_any
  have heq : ∀ W, (Op.equalIn 10000 50 (.agg (slC sA)) (.agg (slC sA))).run Try.prog W = .ok true W := fun W => by
    have := eq_slot sA sA W
    rw [decide_eq_true rfl] at this
    exact this
  go_enter Try.func9, Try.ntmps9
  go_wp2_with fail
  refine (hN.out _).mono ?_
  rintro e w1 ⟨g, q, rfl, hd1, hq1, hb1⟩
  have HD1 : Hid (DiskQ w1 w.heap.size g 16 (fun _ => 0) 0 0 q) := hd1
  have HQ1 : Hid (Quiet q 0) := hq1
  clear hd1 hq1
  go_wp2_with fail
  refine (hR.out _ _).mono ?_
  rintro e w2 ⟨r, m, rfl, hr2, hb2⟩
  have HRD2 : Hid (RD w2 w.heap.size g 16 (fun _ => 0) 0 0 q [] r m (.slice none 0 0) []) := RD.new HD1.out HQ1.out hb1.size hr2 hb2
  have hbb : Below w.heap.size w w2 := hb1.trans (hb2.mono hb1.size)
  clear hr2 hb2 hb1 HD1
  have k0 := Blk.new w2 50 (slC sl0)
  have k1 := k0.set (slC sA)
  have hb3 : Below w.heap.size w ((w2.alloc (.cells (slC sl0) 50)).setRow w2.heap.size (slC sA)) := below_setRow (hbb.alloc hbb.size _) hbb.size _
  have HRD3 : Hid (RD ((w2.alloc (.cells (slC sl0) 50)).setRow w2.heap.size (slC sA)) w.heap.size g 16 (fun _ => 0) 0 0 q [] r m (.slice none 0 0) []) := HRD2.out.below (below_setRow (below_new1 _ _) (Nat.le_refl _) _)
  have hk2 : w2.heap.size < ((w2.alloc (.cells (slC sl0) 50)).setRow w2.heap.size (slC sA)).heap.size := k1.lt
  go_wp2_with (first
    | (refine wpList_build_at (by rfl) 48 _ (by rfl) [(0, .int .u32 2)] (by rfl) (va 33 (rfF 2 (Vector.replicate 32 0))) (built_ref1 2) ?_; simp only [Act.put, List.setIfInBounds_toArray, List.set_cons_zero, List.set_cons_succ])
    | (refine wpList_build_at (by rfl) 50 _ (by rfl) [(0, .int .u64 1), (1, .agg (va 33 (rfF 2 (Vector.replicate 32 0))))] (by rfl) (slC sA) (built_slot 1 2 _) ?_; simp only [Act.put, List.setIfInBounds_toArray, List.set_cons_zero, List.set_cons_succ])
    | (refine wpList_store_row (by rfl) 50 _ _ (by rfl) (w2.heap.size) (slC sA) (by rfl) (by rfl) 50 _ k0 (sizeSlot.trans (by rw [slC_size])) (by simp only [slC_size]) (slC_all _) ?_; simp only [Act.put, List.setIfInBounds_toArray, List.set_cons_zero, List.set_cons_succ])
    | (refine wpList_load_rowg (by rfl) 50 _ (by rfl) (w2.heap.size) (by rfl) 50 (slC sA) (0, 0) _ k1 Try.underlying50 (by rfl) (sizeSlot.trans (by rw [slC_size])) ?_; simp only [Act.put, List.setIfInBounds_toArray, List.set_cons_zero, List.set_cons_succ])
    | fail)
  have HNE : Hid (¬ rdfoot g 16 q r m (.slice none 0 0) w2.heap.size) := HRD2.out.new_ne (Nat.le_refl _)
  clear k0 HRD2 hbb
  generalize ((w2.alloc (.cells (slC sl0) 50)).setRow w2.heap.size (slC sA)) = w3 at *
  refine (rdWrite_go (by decide) (mm := 0) (by rw [HQ1.out.cu]; exact HQ1.out) (by decide) (by decide) (by decide) sA (by decide) (by decide) (by decide) (by simp) w3 hb3.size HRD3.out).mono ?_
  rw [ahB_nil, bhB_nil]
  rintro e w4 ⟨rfl, q4, lg4, v4, h4, hq4, hev4, hlg4, hm4⟩
  have HRD4 : Hid (RD w4 w.heap.size g 16 (fun _ => 0) 0 lg4 q4 [] r m v4 [sA]) := h4
  have HQ4 : Hid (q4.dd = false) := hq4.dd
  have k4 : Blk w4 w2.heap.size 50 (slC sA) := (hm4.blk k1 HNE.out).1
  have hb4 := HRD3.out.low hb3.size hm4
  have hb5 : Below w.heap.size w w4 := hb3.trans hb4
  clear h4 hq4 hb4 hb3 HRD3 k1 hk2 hm4
  go_wp2_with fail
  refine (rdRead (by decide) w4 HRD4.out).mono ?_
  rw [HQ4.out]
  rintro e w5 ⟨rfl, hb6⟩
  have e5 : slC (if false = true then sl0 else lastS [sA]) = slC sA := rfl
  rw [e5]
  clear e5
  have k5 := k4.below hb6 k4.lt
  have hb7 : Below w.heap.size w w5 := hb5.trans (hb6.mono hb5.size)
  have j0 := Blk.new w5 50 (slC sl0)
  have j1 := j0.set (slC sA)
  have k6 : Blk ((w5.alloc (.cells (slC sl0) 50)).setRow w5.heap.size (slC sA)) w2.heap.size 50 (slC sA) := (k5.alloc _).other _ (Nat.ne_of_lt k5.lt)
  clear hb6 k4
  go_wp2_with (first
    | (refine wpList_store_row (by rfl) 50 _ _ (by rfl) (w5.heap.size) (slC sA) (by rfl) (by rfl) 50 _ j0 (sizeSlot.trans (by rw [slC_size])) (by simp only [slC_size]) (slC_all _) ?_; simp only [Act.put, List.setIfInBounds_toArray, List.set_cons_zero, List.set_cons_succ])
    | (refine wpList_load_rowg (by rfl) 50 _ (by rfl) (w5.heap.size) (by rfl) 50 (slC sA) (0, 0) _ j1 Try.underlying50 (by rfl) (sizeSlot.trans (by rw [slC_size])) ?_; simp only [Act.put, List.setIfInBounds_toArray, List.set_cons_zero, List.set_cons_succ])
    | (refine wpList_load_rowg (by rfl) 50 _ (by rfl) (w2.heap.size) (by rfl) 50 (slC sA) (0, 0) _ k6 Try.underlying50 (by rfl) (sizeSlot.trans (by rw [slC_size])) ?_; simp only [Act.put, List.setIfInBounds_toArray, List.set_cons_zero, List.set_cons_succ])
    | fail)
  go_ret
  exact ⟨rfl, below_setRow (hb7.alloc hb7.size _) hb7.size _⟩
end Go.Proofs.Ytlmbokfgogkbmaa

namespace Go.Proofs.Ytlmbokfgogkbmaa
open Go Go.RowKit
set_option linter.unusedSimpArgs false
set_option linter.unusedVariables false

/-- a struct of two parts -/
theorem wpList_build2 {P : Program} {ops : Array Oper} {rest : List Oper} {o : Oper} {a : Act} {w : World} {Q : Exit → Act → World → Prop} (hg : o.guard = none) (t : TypeId) (x y : Operand) (ho : o.op = .build t #[(0, x), (1, y)]) (vx vy : Value) (hx : a.eval x = vx) (hy : a.eval y = vy)
    (cells : Array Value) (hf : P.built t [(0, vx), (1, vy)] = some cells) (h : wpList P ops Q rest (a.put o.dst (.agg cells)) w) : wpList P ops Q (o :: rest) a w := by
  refine wpList_buildTo hg t _ ho o.dst rfl cells ?_ h
  have e : (Array.map (fun (x : Nat × Operand) => match x with | (i, x) => (i, a.eval x)) #[(0, x), (1, y)]).toList = [(0, vx), (1, vy)] := by simp [hx, hy]
  rw [e]
  exact hf
/-- a slice of digests, as it came in -/
def IsSums (w : World) (a : Option Addr) (n : Nat) (D : Nat → Vector Nat 32) : Prop :=
  ∀ i, i < n → ∃ b o, a = some ⟨b, o, none⟩ ∧ b < w.heap.size ∧ w.rangeAt b (o + i * 32) ((List.range 32).map (iv .u8 (dF (D i)))) ∧ ∀ j, j < 32 → dF (D i) j < 256
theorem sums_range {w w' : World} {b o i B : Nat} {d : Vector Nat 32} (h : w.rangeAt b (o + i * 32) ((List.range 32).map (iv .u8 (dF d)))) (hb : b < B) (hw : Below B w w') : w'.rangeAt b (o + i * 32) ((List.range 32).map (iv .u8 (dF d))) := fun j v hv => by
  have := h j v hv
  have hblk := hw.block b hb
  rw [← this]
  simp [World.cell?, hblk]
/-- a slot that may be written, or the zero one -/
def GoodS (s : Sl) : Prop := s.1 < 18446744073709551616 ∧ s.2.1 < 4294967296 ∧ (∀ i, i < 32 → dF s.2.2 i < 256) ∧ (s.2.1 = 0 → s = sl0)
theorem good_sl0 : GoodS sl0 := ⟨by decide, by decide, fun i hi => by
  show dF (Vector.replicate 32 0) i < 256
  unfold dF
  simp [hi], fun _ => rfl⟩
theorem horn_dig (x : Nat) : ∀ k, hornN (dig x) 0 k = x % 256 ^ k
  | 0 => by simp [hornN, Nat.mod_one]
  | k + 1 => by
    rw [hornN_up, horn_dig x k, Nat.zero_add, Nat.pow_succ, Nat.mod_mul]
    unfold dig
    rw [Nat.mul_comm]
theorem dec_enc (s : Sl) (h : GoodS s) : decA (strN (encF s) 44) = (s, 0) := by
  obtain ⟨h1, h2, h3, h4⟩ := h
  have ht : ∀ j, j < 44 → tbyte (strN (encF s) 44) j = encF s j := fun j hj => strN_at _ _ j hj (encF_lt s h3 j hj)
  have e1 : hornN (tbyte (strN (encF s) 44)) 0 8 = s.1 := by
    rw [hornN_congr (g' := dig s.1) 8 0 0 fun i hi => by
      rw [Nat.zero_add, ht i (by omega)]
      unfold encF layB
      rw [if_pos (by omega), if_pos (by omega), if_neg (by omega), Nat.sub_zero], horn_dig]
    exact Nat.mod_eq_of_lt h1
  have e2 : hornN (tbyte (strN (encF s) 44)) 8 4 = s.2.1 := by
    rw [hornN_congr (g' := dig s.2.1) 4 8 0 fun i hi => by
      rw [Nat.zero_add, ht (8 + i) (by omega)]
      unfold encF layB
      rw [if_pos (by omega), if_neg (by omega), show 8 + i - 8 = i by omega], horn_dig]
    exact Nat.mod_eq_of_lt h2
  have e3 : (sumD fun i => tbyte (strN (encF s) 44) (12 + i)) = s.2.2 := dF_inj fun i hi => by
    rw [dF_sumD _ _ hi, ht (12 + i) (by omega)]
    unfold encF
    rw [if_neg (by omega), show 12 + i - 12 = i by omega]
  have e : decS (strN (encF s) 44) = s := by
    unfold decS
    rw [e1, e2, e3]
  unfold decA
  rw [e, if_pos ⟨strN_size _ _, fun h => h.2 (h4 h.1)⟩]
/-- counters 1, 2, 3 .. -/
def Cnt (L : List Sl) : Prop := ∀ i s, L[i]? = some s → s.1 = i + 1
theorem Cnt.nil : Cnt [] := fun i s h => by simp at h
theorem Cnt.last {L : List Sl} (h : Cnt L) : (lastS L).1 = L.length := by
  rcases Nat.eq_zero_or_pos L.length with h0 | h0
  · have : L = [] := List.length_eq_zero_iff.1 h0
    subst this
    rfl
  · have := h _ _ (lastS_at L h0)
    omega
theorem Cnt.snoc {L : List Sl} (h : Cnt L) (s : Sl) (hs : s.1 = L.length + 1) : Cnt (L ++ [s]) := fun i t ht => by
  rcases Nat.lt_or_ge i L.length with h1 | h1
  · rw [List.getElem?_append_left h1] at ht
    exact h i t ht
  · rw [List.getElem?_append_right h1] at ht
    rcases Nat.eq_or_lt_of_le h1 with h2 | h2
    · subst h2
      simp at ht
      subst ht
      exact hs
    · rw [List.getElem?_eq_none (by simp; omega)] at ht
      cases ht
theorem Cnt.fresh {L : List Sl} (h : Cnt L) (s : Sl) (hs : L.length < s.1) : s ∉ L := fun hm => by
  obtain ⟨i, hi, e⟩ := List.getElem_of_mem hm
  have := h i s (by rw [List.getElem?_eq_getElem hi, e])
  omega
section
variable {B g N k lg r m : Nat} {F : Nat → Nat} {q : QD} {C : List (Int × Bool)} {v : Value} {L : List Sl}
/-- the cuts behind one more -/
def cutMore (q : QD) (C : List (Int × Bool)) (e0 : Int) (f0 : Bool) : List (Int × Bool) := if e0 < q.ev ∨ 64 ≤ C.length then C else C ++ [(e0, f0)]
theorem rdCut (hC : C.length ≤ 64) {mm : Nat} {d0 : Bool} (hq : QuietC q.cu d0 q mm) (e0 : Int) (f0 : Bool) (w : World) (hB : B ≤ w.heap.size) (h : RD w B g N F k lg q C r m v L) :
    Calls Try.prog 11 #[.pointer (some ⟨g, 0, none⟩), .agg #[.int .i64 e0, .bool f0]] w fun e w' => e = .returned (.tuple #[]) ∧ ∃ q', RD w' B g N F k lg q' (cutMore q C e0 f0) r m v L ∧ QuietC q'.cu d0 q' mm ∧ q'.ev = q.ev ∧ Turns (footC g N q) w w' ∧ ∀ b, footC g N q' b → footC g N q b ∨ w.heap.size ≤ b := by
  unfold cutMore
  by_cases hn : e0 < q.ev ∨ 64 ≤ C.length
  · rw [if_pos hn]
    refine (cut_none C hC e0 f0 hn w h.d h.c).mono ?_
    rintro e w' ⟨rfl, hb⟩
    exact ⟨rfl, q, h.below hb, hq, rfl, .of_below hb, fun b hb => .inl hb⟩
  · rw [if_neg hn]
    refine (cut_more C e0 f0 (fun h1 => hn (.inl h1)) (by omega) w hB h.d h.c).mono ?_
    rintro e w' ⟨rfl, v1, h1, h2, h3⟩
    refine ⟨rfl, _, ⟨h1, h2, h.reg.kept fun b hb => h3.1.block b (h.reg.foots b hb).2 fun hf => ?_, fun b hb hf => h.ap b hb hf⟩, ?_, rfl, h3.1, h3.2⟩
    · rcases hf with e | e
      · exact h.ap b hb e
      · exact h.cutsR b e hb
    · obtain ⟨a1, a2, a3, a4, a5, a6⟩ := hq
      exact ⟨a1, a2, rfl, a4, a5, a6⟩
theorem cutMore_len (q : QD) (C : List (Int × Bool)) (e0 : Int) (f0 : Bool) (h : C.length ≤ 64) : (cutMore q C e0 f0).length ≤ 64 := by
  unfold cutMore
  split
  · exact h
  · rw [List.length_append]
    simp
    omega
theorem RD.lowC {w w' : World} (h : RD w B g N F k lg q C r m v L) (hB : B ≤ w.heap.size) (hT : Turns (footC g N q) w w') : Below B w w' := hT.below hB fun b hb => by
  rcases hb with e | e
  · exact (h.d.foots b e).1
  · exact (h.c.lt b e).1
/-- a slot beside the two is written over -/
theorem RD.setRow {w : World} (h : RD w B g N F k lg q C r m v L) {b : Nat} {cs : Array Value} (hb : Blk w b 50 cs) (hn : ¬ rdfoot g N q r m v b) (ds : Array Value) : RD (w.setRow b ds) B g N F k lg q C r m v L :=
  ⟨h.d.kept fun z hz => setRow_other w b z _ fun e => hn (e ▸ .inl hz), own_block h.c fun z hz => setRow_other w b z _ fun e => own_ne h.c hb (by decide) (e ▸ hz), h.reg.kept fun z hz => setRow_other w b z _ fun e => hn (e ▸ .inr hz), h.ap⟩
/-- the power comes back -/
theorem rdRevive {mm : Nat} {d0 : Bool} (hq : QuietC q.cu d0 q mm) (w : World) (h : RD w B g N F k lg q C r m v L) :
    Calls Try.prog 18 #[.pointer (some ⟨g, 0, none⟩)] w fun e w' => e = .returned (.tuple #[]) ∧ ∃ q', RD w' B g N F k lg q' C r m v L ∧ QuietC q'.cu false q' mm ∧ q'.ev = q.ev ∧ RDMoved g N q r m v q' v w w' := by
  refine (revive_c w h.d).mono ?_
  rintro e w' ⟨rfl, h1, h2⟩
  obtain ⟨a1, a2, a3, a4, a5, a6⟩ := hq
  exact ⟨rfl, _, h.doD h1 rfl h2, ⟨rfl, a2, rfl, a4, a5, a6⟩, rfl, .of_d h2⟩
end
end Go.Proofs.Ytlmbokfgogkbmaa

namespace Go.Proofs.Ytlmbokfgogkbmaa
open Go.ChangeShapes Go.WideShapes Go.ChangeAt Go.RowKit Go.Joins
set_option linter.unusedVariables false

theorem sbulk_pos {H : Type} (d : DataW H) : 1 ≤ Rows.uptoBulk d := by
  cases d with
  | lit l => cases l <;> simp [Rows.uptoBulk]
  | _ => simp [Rows.uptoBulk]
theorem sbulk_len {H : Type} : ∀ l : List (DataW H), l.length ≤ Rows.uptoBulkAll l
  | [] => Nat.zero_le _
  | d :: l => by
    have h1 := sbulk_pos d
    have h2 := sbulk_len l
    simp only [List.length_cons, Rows.uptoBulkAll]
    omega
set_option maxRecDepth 100000 in
theorem open_sums {H : Type} {enc : TypeId × Value → H} {W : World} {a0 : Option Addr} {len cap fuel : Nat} {x : DataW H × List MemPlace}
    (hf : DataW.trod enc Try.prog W 0 (fun _ => true) true fuel 75 [.slice a0 len cap] = some x) :
    ∃ D : Nat → Vector Nat 32, IsSums W a0 len D ∧ len ≤ Rows.uptoBulk x.1 := by
  rcases Deep.open_slice Try.underlying75 hf with ⟨hcs, hx⟩ | ⟨a, len', cap', m, n, E, Pl, hcs, _, hl, hm, hmm, hx, hel⟩
  · simp at hcs
    obtain ⟨rfl, rfl, rfl⟩ := hcs
    exact ⟨fun _ => Vector.replicate 32 0, fun i hi => absurd hi (by omega), Nat.zero_le _⟩
  · simp at hcs
    obtain ⟨rfl, rfl, rfl⟩ := hcs
    subst hx
    simp only [if_true] at hmm
    subst hmm
    have hce : Try.prog.cellsOf 44 = 32 := by kernel_rfl
    have hcb : Try.prog.cellsOf 5 = 1 := by kernel_rfl
    have hcs : ∀ i, i < len → ∃ cs' : List Value, (∀ j, j < 32 → W.cell? (a.add (i * 32 + j)) = cs'[j]?) ∧ ∀ j, j < 32 → ∃ z : Nat, cs'[j]? = some (.int .u8 ((z : Nat) : Int)) ∧ z < 256 := fun i hi => by
      obtain ⟨cs', h1, h2⟩ := hel i (by omega)
      rw [hce] at h1
      obtain ⟨_, hcl, hcell⟩ := World.cells?_some h1
      refine ⟨cs', fun j hj => ?_, trod_bytes Try.underlying44 Try.underlying5 hcb h2⟩
      have c0 := hcell j (by omega)
      rw [Addr.add_add] at c0
      exact c0
    have hsp : 0 < len → a.spot = none := fun h0 => by
      obtain ⟨cs', h1, h2⟩ := hcs 0 h0
      obtain ⟨z, hz, _⟩ := h2 0 (by omega)
      have := h1 0 (by omega)
      rw [hz] at this
      simpa [Addr.add] using World.cell?_spot this
    have each : ∀ i j, ∃ z : Nat, z < 256 ∧ (i < len → j < 32 → W.cell? (a.add (i * 32 + j)) = some (.int .u8 ((z : Nat) : Int))) := fun i j => by
      by_cases hi : i < len
      · by_cases hj : j < 32
        · obtain ⟨cs', h1, h2⟩ := hcs i hi
          obtain ⟨z, hz, hlt⟩ := h2 j hj
          exact ⟨z, hlt, fun _ _ => (h1 j hj).trans hz⟩
        · exact ⟨0, by omega, fun _ h => absurd h hj⟩
      · exact ⟨0, by omega, fun h => absurd h hi⟩
    obtain ⟨L, hL⟩ : ∃ L : Nat → Nat → Nat, ∀ i j, L i j < 256 ∧ (i < len → j < 32 → W.cell? (a.add (i * 32 + j)) = some (.int .u8 ((L i j : Nat) : Int))) := ⟨fun i j => Classical.choose (each i j), fun i j => Classical.choose_spec (each i j)⟩
    refine ⟨fun i => sumD (L i), fun i hi => ?_, ?_⟩
    · obtain ⟨b, off, spot⟩ := a
      have hspot : spot = none := hsp (by omega)
      subst hspot
      have cell : ∀ j, j < 32 → W.cell? ⟨b, off + i * 32 + j, none⟩ = some (.int .u8 ((L i j : Nat) : Int)) := fun j hj => by
        have := (hL i j).2 hi hj
        rw [Addr.add_mid] at this
        rw [Nat.add_assoc]
        exact this
      refine ⟨b, off, rfl, kcell_lt (cell 0 (by omega)), fun j v hv => ?_, fun j hj => ?_⟩
      · have hj : j < 32 := by
          have := (List.getElem?_eq_some_iff.1 hv).1
          simpa using this
        rw [cell j hj, ← hv]
        simp only [List.getElem?_map, List.getElem?_range hj, Option.map_some, iv]
        rw [dF_sumD _ _ hj]
      · show dF (sumD (L i)) j < 256
        rw [dF_sumD _ _ hj]
        exact (hL i j).1
    · have := sbulk_len ((List.range len).map E)
      rw [List.length_map, List.length_range] at this
      simp only [Rows.uptoBulk]
      omega
end Go.Proofs.Ytlmbokfgogkbmaa
