/- signetlaw06.awake: it returns true. -/
import Derived.Test.YtlmbokfgogkbmaaHSlRef
import Derived.Handy
import Derived.Test.YtlmbokfgogkbmaaHSlRD
import Derived.Test.YtlmbokfgogkbmaaHSlEnc

namespace Go.Proofs.Ytlmbokfgogkbmaa
open Go Go.RowKit
set_option linter.unusedSimpArgs false
set_option linter.unusedVariables false

theorem sl_load_blkg {P : Program} {ops : Array Oper} {rest : List Oper} {op : Oper} {a : Act} {w : World} {Q : Exit → Act → World → Prop} (hw : Region.wanted op (yielded ops a.tmps) = true) (ty : TypeId) (x : Operand) (ho : op.op = .load ty x)
    (b o n : Nat) (f : Nat → Value) (hx : a.eval x = .pointer (some ⟨b, o, none⟩)) (d : TypeDesc) (hc : w.rangeAt b o ((List.range n).map f))
    (hu : P.underlying ty = some d) (hd : d.isRow = true) (hi : (P.info? ty).map (·.size) = some n)
    (h : wpList P ops Q rest (a.put op.dst (.agg (va n f))) w) : wpList P ops Q (op :: rest) a w :=
  wpList_step fun K hK => by
    rw [if_pos hw]
    exact wp_load_mid ty x ho b o hx _ d hc hu hd (hi.trans (by simp)) (hK _ _ h)
theorem slC_set0 (c a c' : Nat) (d : Vector Nat 32) : (slC (c, a, d)).setIfInBounds 0 (.int .u64 (c' : Int)) = slC (c', a, d) := by
  unfold slC
  rw [va_set]
  refine va_congr fun i _ => ?_
  unfold upd
  by_cases h : i = 0
  · subst h
    rw [if_pos rfl]
    rfl
  · rw [if_neg h]
    unfold slF
    rw [if_neg h, if_neg h]
theorem slC_set1 (c a a' : Nat) (d : Vector Nat 32) : (slC (c, a, d)).setIfInBounds 1 (.int .u32 (a' : Int)) = slC (c, a', d) := by
  unfold slC
  rw [va_set]
  refine va_congr fun i _ => ?_
  unfold upd
  by_cases h : i = 1
  · subst h
    rw [if_pos rfl]
    rfl
  · rw [if_neg h]
    unfold slF
    rw [if_neg h, if_neg h]
theorem slC_set2 (c a k z : Nat) (hk : k < 32) (f : Nat → Nat) : (slC (c, a, sumD f)).setIfInBounds (2 + k) (.int .u8 (z : Int)) = slC (c, a, sumD fun j => if j = k then z else f j) := by
  unfold slC
  rw [va_set]
  refine va_congr fun i hi => ?_
  unfold upd
  by_cases h : i = 2 + k
  · subst h
    rw [if_pos rfl]
    unfold slF
    rw [if_neg (by omega), if_neg (by omega), show dF (c, a, sumD fun j => if j = k then z else f j).2.2 (2 + k - 2) = z by
      show dF (sumD fun j => if j = k then z else f j) (2 + k - 2) = z
      rw [dF_sumD _ _ (by omega), if_pos (by omega)]]
  · rw [if_neg h]
    unfold slF
    by_cases h0 : i = 0
    · rw [if_pos h0, if_pos h0]
    · by_cases h1 : i = 1
      · rw [if_neg h0, if_pos h1, if_neg h0, if_pos h1]
      · rw [if_neg h0, if_neg h1, if_neg h0, if_neg h1]
        have e : dF (c, a, sumD fun j => if j = k then z else f j).2.2 (i - 2) = dF (c, a, sumD f).2.2 (i - 2) := by
          show dF (sumD fun j => if j = k then z else f j) (i - 2) = dF (sumD f) (i - 2)
          rw [dF_sumD _ _ (by omega), dF_sumD _ _ (by omega), if_neg (by omega)]
        rw [e]
theorem sl0_sum : Vector.replicate 32 0 = sumD fun _ => 0 := dF_inj fun i hi => by
  rw [dF_sumD _ _ hi]
  unfold dF
  simp [hi]
theorem sizeRsum : (Try.prog.info? 34).map (·.size) = some 32 := by kernel_rfl
theorem zero_rsum (w : World) : (zeroValue 34).run Try.prog w = .ok (dK (Vector.replicate 32 0)) w := by
  have h : (Try.prog.info? 34).bind (·.zero) = some (dK (Vector.replicate 32 0)) := by kernel_rfl
  cases hq : Try.prog.info? 34 with
  | none => simp [hq] at h
  | some i =>
    have hi : i.zero = some (dK (Vector.replicate 32 0)) := by simpa [hq] using h
    simp [zeroValue, typeInfo, hq, hi]
set_option maxRecDepth 100000 in
set_option maxHeartbeats 2000000 in
theorem refDecode_short (s : ByteArray) (hs : s.size ≠ 44) (w : World) : Calls Try.prog 28 #[.string s] w fun e w' => e = .returned (.tuple #[.agg (slC sl0), .int .i64 61]) ∧ Below w.heap.size w w' := by
  have hz := zero_rslot
  have h1 : ¬ (s.size : Int) = 44 := by omega
  have r0 : Blk ((w.alloc (.cells (slC sl0) 36)).alloc (.cells (slC sl0) 36)) w.heap.size 36 (slC sl0) := (Blk.new _ _ _).alloc _
  have r1 : Blk ((w.alloc (.cells (slC sl0) 36)).alloc (.cells (slC sl0) 36)) (w.heap.size + 1) 36 (slC sl0) := Blk.new1 _ _ _ _
  have r2 := r1.set (slC sl0)
  have r3 : Blk (((w.alloc (.cells (slC sl0) 36)).alloc (.cells (slC sl0) 36)).setRow (w.heap.size + 1) (slC sl0)) w.heap.size 36 (slC sl0) := r0.other _ (by omega)
  have hb : Below w.heap.size w ((w.alloc (.cells (slC sl0) 36)).alloc (.cells (slC sl0) 36)) := below_new2 _ _ _
  go_enter Try.func28, Try.ntmps28
  go_wp2_with (first
    | (refine wpList_store_row (by rfl) 36 _ _ (by rfl) (w.heap.size + 1) (slC sl0) (by rfl) (by rfl) 36 _ r1 (sizeRslot.trans (by rw [slC_size])) (by simp only [slC_size]) (slC_all _) ?_; simp only [Act.put, List.setIfInBounds_toArray, List.set_cons_zero, List.set_cons_succ])
    | (refine wpList_load_rowg (by rfl) 36 _ (by rfl) (w.heap.size + 1) (by rfl) 36 (slC sl0) (0, 0) _ r2 Try.underlying36 (by rfl) (sizeRslot.trans (by rw [slC_size])) ?_; simp only [Act.put, List.setIfInBounds_toArray, List.set_cons_zero, List.set_cons_succ])
    | (refine wpList_store_row (by rfl) 36 _ _ (by rfl) (w.heap.size) (slC sl0) (by rfl) (by rfl) 36 _ r3 (sizeRslot.trans (by rw [slC_size])) (by simp only [slC_size]) (slC_all _) ?_; simp only [Act.put, List.setIfInBounds_toArray, List.set_cons_zero, List.set_cons_succ])
    | fail)
  try simp only [Exit.inBlock, Exit.then]
  refine bodyPost_ret (results_row2 Try.results28 _ _ (w.heap.size) 36 (slC sl0) (0, 0) _ rfl (r3.set _) Try.underlying36 rfl (sizeRslot.trans (by rw [slC_size]))) rfl ?_
  exact ⟨rfl, below_setRow (below_setRow hb (by omega) _) (Nat.le_refl _) _⟩
set_option maxRecDepth 100000 in
set_option maxHeartbeats 16000000 in
theorem refDecode_long (s : ByteArray) (hs : s.size = 44) (X : Sl) (Y : Int) (hX : (X, Y) = if (decS s).2.1 = 0 ∧ decS s ≠ sl0 then (sl0, 61) else (decS s, 0)) (w : World) : Calls Try.prog 28 #[.string s] w fun e w' => e = .returned (.tuple #[.agg (slC X), .int .i64 Y]) ∧ Below w.heap.size w w' := by
  have HXY : Hid ((X, Y) = if (decS s).2.1 = 0 ∧ decS s ≠ sl0 then (sl0, 61) else (decS s, 0)) := hX
  clear hX
  have hz := zero_rslot
  have hzs : ∀ w : World, (zeroValue 34).run Try.prog w = .ok (.agg (va 32 (iv .u8 (dF (Vector.replicate 32 0))))) w := zero_rsum
  have h1 : (s.size : Int) = 44 := by omega
  have r0 : Blk ((w.alloc (.cells (slC sl0) 36)).alloc (.cells (slC sl0) 36)) w.heap.size 36 (slC sl0) := (Blk.new _ _ _).alloc _
  have r1 : Blk ((w.alloc (.cells (slC sl0) 36)).alloc (.cells (slC sl0) 36)) (w.heap.size + 1) 36 (slC sl0) := Blk.new1 _ _ _ _
  have r2 := r1.set (slC sl0)
  have r3 : Blk (((w.alloc (.cells (slC sl0) 36)).alloc (.cells (slC sl0) 36)).setRow (w.heap.size + 1) (slC sl0)) w.heap.size 36 (slC sl0) := r0.other _ (by omega)
  have hb0 : Below w.heap.size w (((w.alloc (.cells (slC sl0) 36)).alloc (.cells (slC sl0) 36)).setRow (w.heap.size + 1) (slC sl0)) := below_setRow (below_new2 _ _ _) (by omega) _
  go_enter Try.func28, Try.ntmps28
  go_wp2_with (first
    | (refine wpList_store_row (by rfl) 36 _ _ (by rfl) (w.heap.size + 1) (slC sl0) (by rfl) (by rfl) 36 _ r1 (sizeRslot.trans (by rw [slC_size])) (by simp only [slC_size]) (slC_all _) ?_; simp only [Act.put, List.setIfInBounds_toArray, List.set_cons_zero, List.set_cons_succ])
    | fail)
  clear r0 r1
  generalize (((w.alloc (.cells (slC sl0) 36)).alloc (.cells (slC sl0) 36)).setRow (w.heap.size + 1) (slC sl0)) = W at *
  go_loopw [5] (fun i wr => ∃ c : Nat, c ≤ 8 ∧ i = .int .i64 ((8 : Int) - 1 - (c : Int)) ∧ Blk wr (w.heap.size + 1) 36 (slC (hornN (tbyte s) (8 - c) c, 0, Vector.replicate 32 0)) ∧ Blk wr w.heap.size 36 (slC sl0) ∧ Below w.heap.size w wr) (fun i _ => (intOf i + 1).toNat)
  case atStart => exact ⟨0, by omega, by simp, r2, r3, hb0⟩
  case round =>
    clear r2 r3 hb0
    obtain ⟨c, hc, rfl, hx, hq, hb⟩ := hrel
    by_cases hlt : c < 8
    · obtain ⟨q, hqe⟩ : ∃ q : Nat, q = 8 - 1 - c := ⟨_, rfl⟩
      have e1 : (8 : Int) - 1 - (c : Int) = (q : Int) := by omega
      have hbd := hornN_lt (tbyte s) (tbyte_lt s) c (8 - c)
      have hp : 256 ^ c ≤ 256 ^ 7 := Nat.pow_le_pow_right (by decide) (by omega)
      have hb2 : hornN (tbyte s) (8 - c) c < 256 ^ 7 := Nat.lt_of_lt_of_le hbd hp
      have HH : Hid (hornN (tbyte s) (8 - (c + 1)) (c + 1) = tbyte s q + 256 * hornN (tbyte s) (8 - c) c) := by
        show _ = _
        rw [show 8 - (c + 1) = q by omega, show 8 - c = q + 1 by omega]
        rfl
      have HQ : Hid (q = 8 - 1 - c) := hqe
      generalize hornN (tbyte s) (8 - c) c = x at *
      have hb3 : x < 72057594037927936 := hb2
      rw [e1]
      have hqs : q < s.size := by omega
      have hxx := text_index s q hqs
      have hx2 := tbyte_lt s q
      have q0 : (0 : Int) ≤ (q : Int) := by omega
      have q1 : (q : Int) < 44 := by omega
      have q2 : (0 : Int) ≤ (q : Int) := by omega
      have e3 : (256 : Int) * (x : Int) % 18446744073709551616 = 256 * (x : Int) := by omega
      have e4 : (256 * (x : Int) + ((tbyte s q : Nat) : Int)) % 18446744073709551616 = 256 * (x : Int) + ((tbyte s q : Nat) : Int) := by omega
      have e5 : ((tbyte s q : Nat) : Int) % 18446744073709551616 = ((tbyte s q : Nat) : Int) := by omega
      have y0 : wr.cell? ⟨w.heap.size + 1, 0, none⟩ = some (.int .u64 (x : Int)) := by
        rw [hx.cell]
        exact va_at (slF _) (by decide)
      have f0 : wr.frozen? ⟨w.heap.size + 1, 0, none⟩ = false := hx.frozen 0
      clear hbd hp hqe e1 hb2
      go_wp2_with fail
      refine wp_region_partsS (fun W => W.cell? ⟨w.heap.size + 1, 0, none⟩ = some (.int .u64 (x : Int))) [([3, 4], 0, true), ([], 1, true), ([], 2, true), ([], 5, false), ([], 6, false), ([], 7, false), ([], 8, false)] [] [9] (by kernel_rfl) (by kernel_rfl) y0 (partsI_yield ?_)
      simp only [List.cons_append, List.nil_append, List.append_nil, List.filterMap_cons, List.filterMap_nil, List.getElem?_toArray, List.getElem?_cons_zero, List.getElem?_cons_succ]
      go_wp2_with fail
      refine ⟨rfl, _, .pointer (some ⟨w.heap.size + 1, 0, none⟩), rfl, Or.inl ⟨by rfl, fun W hW => by go_simp⟩, partsI_yield ?_⟩
      simp only [Act.put, List.setIfInBounds_toArray, List.set_cons_zero, List.set_cons_succ]
      simp only [List.cons_append, List.nil_append, List.append_nil, List.filterMap_cons, List.filterMap_nil, List.getElem?_toArray, List.getElem?_cons_zero, List.getElem?_cons_succ]
      go_wp2_with fail
      refine ⟨rfl, _, .int .u64 (x : Int), rfl, Or.inl ⟨by rfl, fun W hW => by go_simp⟩, partsI_yield ?_⟩
      simp only [Act.put, List.setIfInBounds_toArray, List.set_cons_zero, List.set_cons_succ]
      simp only [List.cons_append, List.nil_append, List.append_nil, List.filterMap_cons, List.filterMap_nil, List.getElem?_toArray, List.getElem?_cons_zero, List.getElem?_cons_succ]
      go_wp2_with fail
      refine ⟨rfl, _, .int .u64 (256 * (x : Int)), rfl, Or.inl ⟨by rfl, fun W hW => by go_simp; rw [IntKind.wrap_u64]; omega⟩, partsI_force ?_⟩
      simp only [Act.put, List.setIfInBounds_toArray, List.set_cons_zero, List.set_cons_succ]
      simp only [List.cons_append, List.nil_append, List.append_nil, List.filterMap_cons, List.filterMap_nil, List.getElem?_toArray, List.getElem?_cons_zero, List.getElem?_cons_succ]
      go_wp2_with fail
      refine ⟨rfl, y0, partsI_force ?_⟩
      simp only [List.cons_append, List.nil_append, List.append_nil, List.filterMap_cons, List.filterMap_nil, List.getElem?_toArray, List.getElem?_cons_zero, List.getElem?_cons_succ]
      go_wp2_with fail
      refine ⟨rfl, y0, partsI_force ?_⟩
      simp only [List.cons_append, List.nil_append, List.append_nil, List.filterMap_cons, List.filterMap_nil, List.getElem?_toArray, List.getElem?_cons_zero, List.getElem?_cons_succ]
      go_wp2_with fail
      refine ⟨rfl, y0, partsI_force ?_⟩
      simp only [List.cons_append, List.nil_append, List.append_nil, List.filterMap_cons, List.filterMap_nil, List.getElem?_toArray, List.getElem?_cons_zero, List.getElem?_cons_succ]
      go_wp2_with fail
      refine ⟨rfl, y0, partsI_last ?_⟩
      simp only [List.cons_append, List.nil_append, List.append_nil, List.filterMap_cons, List.filterMap_nil, List.getElem?_toArray, List.getElem?_cons_zero, List.getElem?_cons_succ]
      go_wp2_with fail
      refine ⟨rfl, ?_⟩
      have HB2 : Hid (Blk (wr.drew.setCell ⟨w.heap.size + 1, 0, none⟩ (.int .u64 (((tbyte s q + 256 * x : Nat)) : Int))) (w.heap.size + 1) 36 (slC (tbyte s q + 256 * x, 0, Vector.replicate 32 0))) := by
        have := hx.drew.put 0 (.int .u64 (((tbyte s q + 256 * x : Nat)) : Int))
        rw [slC_set0] at this
        exact this
      have HC2 : Hid (Blk (wr.drew.setCell ⟨w.heap.size + 1, 0, none⟩ (.int .u64 (((tbyte s q + 256 * x : Nat)) : Int))) w.heap.size 36 (slC sl0)) := hq.drew.put_other _ _ (by omega)
      have hbb : Below w.heap.size w (wr.drew.setCell ⟨w.heap.size + 1, 0, none⟩ (.int .u64 (((tbyte s q + 256 * x : Nat)) : Int))) := hb.drew.setCell (by show w.heap.size ≤ w.heap.size + 1; omega) _
      have ee : (256 * (x : Int) + ((tbyte s q : Nat) : Int)) = (((tbyte s q + 256 * x : Nat)) : Int) := by omega
      rw [ee]
      go_wp2_with fail
      have hqq := HQ.out
      refine ⟨⟨c + 1, by omega, ?_, ?_, HC2.out, hbb⟩, ?_⟩
      · congr 1
        omega
      · rw [HH.out]
        exact HB2.out
      · simp [intOf]
        try omega
    · have HK8 : Hid (c = 8) := by
        show c = 8
        omega
      have k1 : ((8 : Int) - 1 - (c : Int)) < 0 := by omega
      have k2 : ¬ (0 : Int) ≤ ((8 : Int) - 1 - (c : Int)) := by omega
      have hx8 : Blk wr (w.heap.size + 1) 36 (slC (hornN (tbyte s) 0 8, 0, Vector.replicate 32 0)) := by
        have := hx
        rw [HK8.out] at this
        exact this
      generalize hv8 : (8 : Int) - 1 - (c : Int) = i8 at *
      generalize hc8 : hornN (tbyte s) 0 8 = c8 at *
      have HC8 : Hid (hornN (tbyte s) 0 8 = c8) := hc8
      clear hx hc hlt hv8 HK8 hc8
      go_wp2_with fail
      go_loopw [6] (fun i wx => ∃ c : Nat, c ≤ 4 ∧ i = .int .i64 ((12 : Int) - 1 - (c : Int)) ∧ Blk wx (w.heap.size + 1) 36 (slC (c8, hornN (tbyte s) (12 - c) c, Vector.replicate 32 0)) ∧ Blk wx w.heap.size 36 (slC sl0) ∧ Below w.heap.size w wx) (fun i _ => (intOf i + 1).toNat)
      case atStart => exact ⟨0, by omega, by simp, hx8, hq, hb⟩
      case round =>
        clear hx8 hq hb
        obtain ⟨c, hc, rfl, hx, hq, hb⟩ := hrel
        by_cases hlt : c < 4
        · obtain ⟨q, hqe⟩ : ∃ q : Nat, q = 12 - 1 - c := ⟨_, rfl⟩
          have e1 : (12 : Int) - 1 - (c : Int) = (q : Int) := by omega
          have hbd := hornN_lt (tbyte s) (tbyte_lt s) c (12 - c)
          have hp : 256 ^ c ≤ 256 ^ 3 := Nat.pow_le_pow_right (by decide) (by omega)
          have hb2 : hornN (tbyte s) (12 - c) c < 256 ^ 3 := Nat.lt_of_lt_of_le hbd hp
          have HH : Hid (hornN (tbyte s) (12 - (c + 1)) (c + 1) = tbyte s q + 256 * hornN (tbyte s) (12 - c) c) := by
            show _ = _
            rw [show 12 - (c + 1) = q by omega, show 12 - c = q + 1 by omega]
            rfl
          have HQ : Hid (q = 12 - 1 - c) := hqe
          generalize hornN (tbyte s) (12 - c) c = x at *
          have hb3 : x < 16777216 := hb2
          rw [e1]
          have hqs : q < s.size := by omega
          have hxx := text_index s q hqs
          have hx2 := tbyte_lt s q
          have q0 : (0 : Int) ≤ (q : Int) := by omega
          have q1 : (q : Int) < 44 := by omega
          have q2 : (8 : Int) ≤ (q : Int) := by omega
          have e3 : (256 : Int) * (x : Int) % 4294967296 = 256 * (x : Int) := by omega
          have e4 : (256 * (x : Int) + ((tbyte s q : Nat) : Int)) % 4294967296 = 256 * (x : Int) + ((tbyte s q : Nat) : Int) := by omega
          have e5 : ((tbyte s q : Nat) : Int) % 4294967296 = ((tbyte s q : Nat) : Int) := by omega
          have y0 : wr.cell? ⟨w.heap.size + 1, 1, none⟩ = some (.int .u32 (x : Int)) := by
            rw [hx.cell]
            exact va_at (slF _) (by decide)
          have f0 : wr.frozen? ⟨w.heap.size + 1, 1, none⟩ = false := hx.frozen 1
          clear hbd hp hqe e1 hb2
          go_wp2_with fail
          refine wp_region_partsS (fun W => W.cell? ⟨w.heap.size + 1, 1, none⟩ = some (.int .u32 (x : Int))) [([3, 4], 0, true), ([], 1, true), ([], 2, true), ([], 5, false), ([], 6, false), ([], 7, false), ([], 8, false)] [] [9] (by kernel_rfl) (by kernel_rfl) y0 (partsI_yield ?_)
          simp only [List.cons_append, List.nil_append, List.append_nil, List.filterMap_cons, List.filterMap_nil, List.getElem?_toArray, List.getElem?_cons_zero, List.getElem?_cons_succ]
          go_wp2_with fail
          refine ⟨rfl, _, .pointer (some ⟨w.heap.size + 1, 1, none⟩), rfl, Or.inl ⟨by rfl, fun W hW => by go_simp⟩, partsI_yield ?_⟩
          simp only [Act.put, List.setIfInBounds_toArray, List.set_cons_zero, List.set_cons_succ]
          simp only [List.cons_append, List.nil_append, List.append_nil, List.filterMap_cons, List.filterMap_nil, List.getElem?_toArray, List.getElem?_cons_zero, List.getElem?_cons_succ]
          go_wp2_with fail
          refine ⟨rfl, _, .int .u32 (x : Int), rfl, Or.inl ⟨by rfl, fun W hW => by go_simp⟩, partsI_yield ?_⟩
          simp only [Act.put, List.setIfInBounds_toArray, List.set_cons_zero, List.set_cons_succ]
          simp only [List.cons_append, List.nil_append, List.append_nil, List.filterMap_cons, List.filterMap_nil, List.getElem?_toArray, List.getElem?_cons_zero, List.getElem?_cons_succ]
          go_wp2_with fail
          refine ⟨rfl, _, .int .u32 (256 * (x : Int)), rfl, Or.inl ⟨by rfl, fun W hW => by go_simp; rw [IntKind.wrap_u32]; omega⟩, partsI_force ?_⟩
          simp only [Act.put, List.setIfInBounds_toArray, List.set_cons_zero, List.set_cons_succ]
          simp only [List.cons_append, List.nil_append, List.append_nil, List.filterMap_cons, List.filterMap_nil, List.getElem?_toArray, List.getElem?_cons_zero, List.getElem?_cons_succ]
          go_wp2_with fail
          refine ⟨rfl, y0, partsI_force ?_⟩
          simp only [List.cons_append, List.nil_append, List.append_nil, List.filterMap_cons, List.filterMap_nil, List.getElem?_toArray, List.getElem?_cons_zero, List.getElem?_cons_succ]
          go_wp2_with fail
          refine ⟨rfl, y0, partsI_force ?_⟩
          simp only [List.cons_append, List.nil_append, List.append_nil, List.filterMap_cons, List.filterMap_nil, List.getElem?_toArray, List.getElem?_cons_zero, List.getElem?_cons_succ]
          go_wp2_with fail
          refine ⟨rfl, y0, partsI_force ?_⟩
          simp only [List.cons_append, List.nil_append, List.append_nil, List.filterMap_cons, List.filterMap_nil, List.getElem?_toArray, List.getElem?_cons_zero, List.getElem?_cons_succ]
          go_wp2_with fail
          refine ⟨rfl, y0, partsI_last ?_⟩
          simp only [List.cons_append, List.nil_append, List.append_nil, List.filterMap_cons, List.filterMap_nil, List.getElem?_toArray, List.getElem?_cons_zero, List.getElem?_cons_succ]
          go_wp2_with fail
          refine ⟨rfl, ?_⟩
          have HB2 : Hid (Blk (wr.drew.setCell ⟨w.heap.size + 1, 1, none⟩ (.int .u32 (((tbyte s q + 256 * x : Nat)) : Int))) (w.heap.size + 1) 36 (slC (c8, tbyte s q + 256 * x, Vector.replicate 32 0))) := by
            have := hx.drew.put 1 (.int .u32 (((tbyte s q + 256 * x : Nat)) : Int))
            rw [slC_set1] at this
            exact this
          have HC2 : Hid (Blk (wr.drew.setCell ⟨w.heap.size + 1, 1, none⟩ (.int .u32 (((tbyte s q + 256 * x : Nat)) : Int))) w.heap.size 36 (slC sl0)) := hq.drew.put_other _ _ (by omega)
          have hbb : Below w.heap.size w (wr.drew.setCell ⟨w.heap.size + 1, 1, none⟩ (.int .u32 (((tbyte s q + 256 * x : Nat)) : Int))) := hb.drew.setCell (by show w.heap.size ≤ w.heap.size + 1; omega) _
          have ee : (256 * (x : Int) + ((tbyte s q : Nat) : Int)) = (((tbyte s q + 256 * x : Nat)) : Int) := by omega
          rw [ee]
          go_wp2_with fail
          have hqq := HQ.out
          refine ⟨⟨c + 1, by omega, ?_, ?_, HC2.out, hbb⟩, ?_⟩
          · congr 1
            omega
          · rw [HH.out]
            exact HB2.out
          · simp [intOf]
            try omega
        · have HK4 : Hid (c = 4) := by
            show c = 4
            omega
          have k3 : ((12 : Int) - 1 - (c : Int)) < 8 := by omega
          have k4 : ¬ (8 : Int) ≤ ((12 : Int) - 1 - (c : Int)) := by omega
          have hx4 : Blk wr (w.heap.size + 1) 36 (slC (c8, hornN (tbyte s) 8 4, sumD fun j => if j < 0 then tbyte s (12 + j) else 0)) := by
            have := hx
            rw [HK4.out, sl0_sum] at this
            have e : (fun j => if j < 0 then tbyte s (12 + j) else 0) = fun _ => 0 := by
              funext j
              rw [if_neg (by omega)]
            rw [e]
            exact this
          have hn4 := hornN_lt (tbyte s) (tbyte_lt s) 4 8
          generalize hv4 : (12 : Int) - 1 - (c : Int) = i4 at *
          generalize hc4 : hornN (tbyte s) 8 4 = n4 at *
          have HC4 : Hid (hornN (tbyte s) 8 4 = n4) := hc4
          clear hx hc hlt hv4 HK4 hc4
          go_wp2_with fail
          go_loopw [7] (fun i wx => ∃ c : Nat, c ≤ 32 ∧ i = .int .i64 (c : Int) ∧ Blk wx (w.heap.size + 1) 36 (slC (c8, n4, sumD fun j => if j < c then tbyte s (12 + j) else 0)) ∧ Blk wx w.heap.size 36 (slC sl0) ∧ Below w.heap.size w wx) (fun i _ => 32 - (intOf i).toNat)
          case atStart => exact ⟨0, by omega, rfl, hx4, hq, hb⟩
          case round =>
            clear hx4 hq hb
            obtain ⟨c, hc, rfl, hx, hq, hb⟩ := hrel
            by_cases hlt : c < 32
            · have c0 : (0 : Int) ≤ (c : Int) := by omega
              have c1 : (c : Int) < 32 := by omega
              have c2 : (0 : Int) ≤ 12 + (c : Int) := by omega
              have c3 : 12 + (c : Int) < 44 := by omega
              have c4 : (12 + (c : Int)).toNat = 12 + c := by omega
              have hxx := text_index s (12 + c) (by omega)
              have f0 : wr.frozen? ⟨w.heap.size + 1, 2 + c, none⟩ = false := hx.frozen (2 + c)
              have y0 : ∃ z, wr.cell? ⟨w.heap.size + 1, 2 + c, none⟩ = some z := ⟨_, by rw [hx.cell]; exact va_at (slF _) (by omega)⟩
              obtain ⟨z, y0⟩ := y0
              have HB2 : Hid (Blk (wr.setCell ⟨w.heap.size + 1, 2 + c, none⟩ (.int .u8 ((tbyte s (12 + c) : Nat) : Int))) (w.heap.size + 1) 36 (slC (c8, n4, sumD fun j => if j < c + 1 then tbyte s (12 + j) else 0))) := by
                have := hx.put (2 + c) (.int .u8 ((tbyte s (12 + c) : Nat) : Int))
                rw [slC_set2 _ _ c _ hlt] at this
                have e : (fun j => if j = c then tbyte s (12 + c) else if j < c then tbyte s (12 + j) else 0) = fun j => if j < c + 1 then tbyte s (12 + j) else 0 := by
                  funext j
                  by_cases h : j = c
                  · subst h
                    rw [if_pos rfl, if_pos (by omega)]
                  · rw [if_neg h]
                    by_cases h2 : j < c
                    · rw [if_pos h2, if_pos (by omega)]
                    · rw [if_neg h2, if_neg (by omega)]
                rw [e] at this
                exact this
              have HC2 : Hid (Blk (wr.setCell ⟨w.heap.size + 1, 2 + c, none⟩ (.int .u8 ((tbyte s (12 + c) : Nat) : Int))) w.heap.size 36 (slC sl0)) := hq.put_other _ _ (by omega)
              have hbb : Below w.heap.size w (wr.setCell ⟨w.heap.size + 1, 2 + c, none⟩ (.int .u8 ((tbyte s (12 + c) : Nat) : Int))) := hb.setCell (by show w.heap.size ≤ w.heap.size + 1; omega) _
              clear hx hq hb
              go_wp2_with fail
              refine ⟨⟨c + 1, by omega, by simp, HB2.out, HC2.out, hbb⟩, ?_⟩
              simp [intOf]
              try omega
            · have HK : Hid (c = 32) := by
                show c = 32
                omega
              have k5 : ¬ (c : Int) < 32 := by omega
              have HDS : Hid (decS s = (c8, n4, sumD fun j => if j < c then tbyte s (12 + j) else 0)) := by
                show decS s = _
                unfold decS
                rw [HC8.out, HC4.out]
                exact congrArg (fun d => ((c8, n4, d) : Sl)) (dF_inj fun j hj => by
                  rw [dF_sumD _ _ hj, dF_sumD _ _ hj, if_pos (by rw [HK.out]; exact hj)])
              generalize (sumD fun j => if j < c then tbyte s (12 + j) else 0) = D at *
              have HRS : Hid (wr.rangeAt (w.heap.size + 1) 2 ((List.range 32).map (iv .u8 (dF D)))) := sum_range (c8, n4, D) hx
              have y0 : wr.cell? ⟨w.heap.size + 1, 0, none⟩ = some (.int .u64 (c8 : Int)) := by
                rw [hx.cell]
                exact va_at (slF (c8, n4, D)) (by decide)
              have y1 : wr.cell? ⟨w.heap.size + 1, 1, none⟩ = some (.int .u32 (n4 : Int)) := by
                rw [hx.cell]
                exact va_at (slF (c8, n4, D)) (by decide)
              have heq : ∀ W, (Op.equalIn 10000 34 (.agg (va 32 (iv .u8 (dF D)))) (.agg (va 32 (iv .u8 (dF (Vector.replicate 32 0)))))).run Try.prog W = .ok (decide (D = Vector.replicate 32 0)) W := eq_digAt 9998 34 Try.underlying34 D (Vector.replicate 32 0)
              clear hc hlt HK HC8 HC4
              by_cases h0 : n4 = 0
              · by_cases h8 : c8 = 0
                · by_cases hD : D = Vector.replicate 32 0
                  · have HXX : Hid ((X, Y) = ((c8, n4, D), 0)) := by
                      have := HXY.out
                      rw [HDS.out, if_neg (fun h => h.2 (by rw [h0, h8, hD]; rfl))] at this
                      exact this
                    rw [decide_eq_true hD] at heq
                    have e8 : (c8 : Int) = 0 := by omega
                    have e0 : (n4 : Int) = 0 := by omega
                    rw [e8] at y0
                    rw [e0] at y1
                    clear HXY HDS h0 h8 hD
                    go_wp2_with (first
                      | (refine sl_load_blkg (by rfl) 34 _ (by rfl) (w.heap.size + 1) 2 32 (iv .u8 (dF D)) (by rfl) _ HRS.out Try.underlying34 rfl sizeRsum ?_; simp only [Act.put, List.setIfInBounds_toArray, List.set_cons_zero, List.set_cons_succ])
                      | (refine wpList_load_rowg (by rfl) 36 _ (by rfl) (w.heap.size + 1) (by rfl) 36 (slC (c8, n4, D)) (0, 0) _ hx Try.underlying36 (by rfl) (sizeRslot.trans (by rw [slC_size])) ?_; simp only [Act.put, List.setIfInBounds_toArray, List.set_cons_zero, List.set_cons_succ])
                      | (refine wpList_store_row (by rfl) 36 _ _ (by rfl) (w.heap.size) (slC (c8, n4, D)) (by rfl) (by rfl) 36 _ hq (sizeRslot.trans (by rw [slC_size])) (by simp only [slC_size]) (slC_all _) ?_; simp only [Act.put, List.setIfInBounds_toArray, List.set_cons_zero, List.set_cons_succ])
                      | fail)
                    try simp only [Exit.inBlock, Exit.then]
                    refine bodyPost_ret (results_row2 Try.results28 _ _ (w.heap.size) 36 (slC (c8, n4, D)) (0, 0) _ rfl (hq.set _) Try.underlying36 rfl (sizeRslot.trans (by rw [slC_size]))) rfl ?_
                    refine ⟨?_, below_setRow hb (Nat.le_refl _) _⟩
                    have e := HXX.out
                    injection e with e1 e2
                    rw [e1, e2]
                    rfl
                  · have HXX : Hid ((X, Y) = (sl0, 61)) := by
                      have := HXY.out
                      rw [HDS.out, if_pos ⟨h0, fun h => hD (by injection h with _ h; injection h)⟩] at this
                      exact this
                    rw [decide_eq_false hD] at heq
                    have e8 : (c8 : Int) = 0 := by omega
                    have e0 : (n4 : Int) = 0 := by omega
                    rw [e8] at y0
                    rw [e0] at y1
                    clear HXY HDS h0 h8 hD
                    go_wp2_with (first
                      | (refine sl_load_blkg (by rfl) 34 _ (by rfl) (w.heap.size + 1) 2 32 (iv .u8 (dF D)) (by rfl) _ HRS.out Try.underlying34 rfl sizeRsum ?_; simp only [Act.put, List.setIfInBounds_toArray, List.set_cons_zero, List.set_cons_succ])
                      | (refine wpList_load_rowg (by rfl) 36 _ (by rfl) (w.heap.size + 1) (by rfl) 36 (slC (c8, n4, D)) (0, 0) _ hx Try.underlying36 (by rfl) (sizeRslot.trans (by rw [slC_size])) ?_; simp only [Act.put, List.setIfInBounds_toArray, List.set_cons_zero, List.set_cons_succ])
                      | (refine wpList_store_row (by rfl) 36 _ _ (by rfl) (w.heap.size) (slC sl0) (by rfl) (by rfl) 36 _ hq (sizeRslot.trans (by rw [slC_size])) (by simp only [slC_size]) (slC_all _) ?_; simp only [Act.put, List.setIfInBounds_toArray, List.set_cons_zero, List.set_cons_succ])
                      | fail)
                    try simp only [Exit.inBlock, Exit.then]
                    refine bodyPost_ret (results_row2 Try.results28 _ _ (w.heap.size) 36 (slC sl0) (0, 0) _ rfl (hq.set _) Try.underlying36 rfl (sizeRslot.trans (by rw [slC_size]))) rfl ?_
                    refine ⟨?_, below_setRow hb (Nat.le_refl _) _⟩
                    have e := HXX.out
                    injection e with e1 e2
                    rw [e1, e2]
                    rfl
                · have HXX : Hid ((X, Y) = (sl0, 61)) := by
                    have := HXY.out
                    rw [HDS.out, if_pos ⟨h0, fun h => h8 (by injection h)⟩] at this
                    exact this
                  have e8 : ¬ (c8 : Int) = 0 := by omega
                  have e0 : (n4 : Int) = 0 := by omega
                  rw [e0] at y1
                  clear HXY HDS h0 h8
                  go_wp2_with (first
                    | (refine sl_load_blkg (by rfl) 34 _ (by rfl) (w.heap.size + 1) 2 32 (iv .u8 (dF D)) (by rfl) _ HRS.out Try.underlying34 rfl sizeRsum ?_; simp only [Act.put, List.setIfInBounds_toArray, List.set_cons_zero, List.set_cons_succ])
                    | (refine wpList_load_rowg (by rfl) 36 _ (by rfl) (w.heap.size + 1) (by rfl) 36 (slC (c8, n4, D)) (0, 0) _ hx Try.underlying36 (by rfl) (sizeRslot.trans (by rw [slC_size])) ?_; simp only [Act.put, List.setIfInBounds_toArray, List.set_cons_zero, List.set_cons_succ])
                    | (refine wpList_store_row (by rfl) 36 _ _ (by rfl) (w.heap.size) (slC sl0) (by rfl) (by rfl) 36 _ hq (sizeRslot.trans (by rw [slC_size])) (by simp only [slC_size]) (slC_all _) ?_; simp only [Act.put, List.setIfInBounds_toArray, List.set_cons_zero, List.set_cons_succ])
                    | fail)
                  try simp only [Exit.inBlock, Exit.then]
                  refine bodyPost_ret (results_row2 Try.results28 _ _ (w.heap.size) 36 (slC sl0) (0, 0) _ rfl (hq.set _) Try.underlying36 rfl (sizeRslot.trans (by rw [slC_size]))) rfl ?_
                  refine ⟨?_, below_setRow hb (Nat.le_refl _) _⟩
                  have e := HXX.out
                  injection e with e1 e2
                  rw [e1, e2]
                  rfl
              · have HXX : Hid ((X, Y) = ((c8, n4, D), 0)) := by
                  have := HXY.out
                  rw [HDS.out, if_neg (fun h => h0 h.1)] at this
                  exact this
                have e0 : ¬ (n4 : Int) = 0 := by omega
                clear HXY HDS h0
                go_wp2_with (first
                  | (refine sl_load_blkg (by rfl) 34 _ (by rfl) (w.heap.size + 1) 2 32 (iv .u8 (dF D)) (by rfl) _ HRS.out Try.underlying34 rfl sizeRsum ?_; simp only [Act.put, List.setIfInBounds_toArray, List.set_cons_zero, List.set_cons_succ])
                  | (refine wpList_load_rowg (by rfl) 36 _ (by rfl) (w.heap.size + 1) (by rfl) 36 (slC (c8, n4, D)) (0, 0) _ hx Try.underlying36 (by rfl) (sizeRslot.trans (by rw [slC_size])) ?_; simp only [Act.put, List.setIfInBounds_toArray, List.set_cons_zero, List.set_cons_succ])
                  | (refine wpList_store_row (by rfl) 36 _ _ (by rfl) (w.heap.size) (slC (c8, n4, D)) (by rfl) (by rfl) 36 _ hq (sizeRslot.trans (by rw [slC_size])) (by simp only [slC_size]) (slC_all _) ?_; simp only [Act.put, List.setIfInBounds_toArray, List.set_cons_zero, List.set_cons_succ])
                  | fail)
                try simp only [Exit.inBlock, Exit.then]
                refine bodyPost_ret (results_row2 Try.results28 _ _ (w.heap.size) 36 (slC (c8, n4, D)) (0, 0) _ rfl (hq.set _) Try.underlying36 rfl (sizeRslot.trans (by rw [slC_size]))) rfl ?_
                refine ⟨?_, below_setRow hb (Nat.le_refl _) _⟩
                have e := HXX.out
                injection e with e1 e2
                rw [e1, e2]
                rfl
end Go.Proofs.Ytlmbokfgogkbmaa

namespace Go.Proofs.Ytlmbokfgogkbmaa
open Go Go.RowKit
set_option linter.unusedSimpArgs false
set_option linter.unusedVariables false

/-- a new register on a quiet disk -/
theorem RD.new {w1 w2 : World} {B g N k lg r m : Nat} {F : Nat → Nat} {q : QD} {j : Nat} (hd : DiskQ w1 B g N F k lg q) (hq : Quiet q j) (hB : B ≤ w1.heap.size) (hr : RegAt w2 w1.heap.size r m (some ⟨g, 0, none⟩) (.slice none 0 0) []) (hb : Below w1.heap.size w1 w2) : RD w2 B g N F k lg q [] r m (.slice none 0 0) [] := by
  refine ⟨hd.below hb, ?_, hr.mono hB, fun b h1 h2 => ?_⟩
  · rw [hq.cu]
    exact World.ownsRow_nil _ _ _ _
  · have := (hd.foots b h2).2
    have := (hr.foots b h1).1
    omega
def sA : Sl := (1, 2, Vector.replicate 32 0)
theorem ahB_nil (q : QD) : ahB q [] = false := rfl
theorem bhB_nil (q : QD) : bhB q [] = false := rfl
set_option maxRecDepth 100000 in
set_option maxHeartbeats 4000000 in
theorem awake6_any (w : World) : Calls Try.prog 9 #[] w fun e w' => e = .returned (.bool true) ∧ Below w.heap.size w w' := by
  have hz := zero_slot
  have hN : Hid (∀ w : World, Calls Try.prog 8 #[.int .i64 16] w fun e w' => ∃ g q, e = .returned (.tuple #[.pointer (some ⟨g, 0, none⟩), .int .i64 0]) ∧ DiskQ w' w.heap.size g 16 (fun _ => 0) 0 0 q ∧ Quiet q 0 ∧ Below w.heap.size w w') := fun w => diskNew_any 16 (by decide) (by decide) w
  have hR : Hid (∀ (p : Option Addr) (w : World), Calls Try.prog 10 #[.pointer p] w fun e w' => ∃ r m, e = .returned (.pointer (some ⟨r, 0, none⟩)) ∧ RegAt w' w.heap.size r m p (.slice none 0 0) [] ∧ Below w.heap.size w w') := newReg_any
  have heq : ∀ W, (Op.equalIn 10000 50 (.agg (slC sA)) (.agg (slC sA))).run Try.prog W = .ok true W := fun W => by
    have := eq_slot sA sA W
    rw [decide_eq_true rfl] at this
    exact this
  go_enter Try.func9, Try.ntmps9
  go_wp2_with fail
  refine (hN.out _).mono ?_
  rintro e w1 ⟨g, q, rfl, hd1, hq1, hb1⟩
  have HD1 : Hid (DiskQ w1 w.heap.size g 16 (fun _ => 0) 0 0 q) := hd1
  have HQ1 : Hid (Quiet q 0) := hq1
  clear hd1 hq1
  go_wp2_with fail
  refine (hR.out _ _).mono ?_
  rintro e w2 ⟨r, m, rfl, hr2, hb2⟩
  have HRD2 : Hid (RD w2 w.heap.size g 16 (fun _ => 0) 0 0 q [] r m (.slice none 0 0) []) := RD.new HD1.out HQ1.out hb1.size hr2 hb2
  have hbb : Below w.heap.size w w2 := hb1.trans (hb2.mono hb1.size)
  clear hr2 hb2 hb1 HD1
  have k0 := Blk.new w2 50 (slC sl0)
  have k1 := k0.set (slC sA)
  have hb3 : Below w.heap.size w ((w2.alloc (.cells (slC sl0) 50)).setRow w2.heap.size (slC sA)) := below_setRow (hbb.alloc hbb.size _) hbb.size _
  have HRD3 : Hid (RD ((w2.alloc (.cells (slC sl0) 50)).setRow w2.heap.size (slC sA)) w.heap.size g 16 (fun _ => 0) 0 0 q [] r m (.slice none 0 0) []) := HRD2.out.below (below_setRow (below_new1 _ _) (Nat.le_refl _) _)
  have hk2 : w2.heap.size < ((w2.alloc (.cells (slC sl0) 50)).setRow w2.heap.size (slC sA)).heap.size := k1.lt
  go_wp2_with (first
    | (refine wpList_build_at (by rfl) 48 _ (by rfl) [(0, .int .u32 2)] (by rfl) (va 33 (rfF 2 (Vector.replicate 32 0))) (built_ref1 2) ?_; simp only [Act.put, List.setIfInBounds_toArray, List.set_cons_zero, List.set_cons_succ])
    | (refine wpList_build_at (by rfl) 50 _ (by rfl) [(0, .int .u64 1), (1, .agg (va 33 (rfF 2 (Vector.replicate 32 0))))] (by rfl) (slC sA) (built_slot 1 2 _) ?_; simp only [Act.put, List.setIfInBounds_toArray, List.set_cons_zero, List.set_cons_succ])
    | (refine wpList_store_row (by rfl) 50 _ _ (by rfl) (w2.heap.size) (slC sA) (by rfl) (by rfl) 50 _ k0 (sizeSlot.trans (by rw [slC_size])) (by simp only [slC_size]) (slC_all _) ?_; simp only [Act.put, List.setIfInBounds_toArray, List.set_cons_zero, List.set_cons_succ])
    | (refine wpList_load_rowg (by rfl) 50 _ (by rfl) (w2.heap.size) (by rfl) 50 (slC sA) (0, 0) _ k1 Try.underlying50 (by rfl) (sizeSlot.trans (by rw [slC_size])) ?_; simp only [Act.put, List.setIfInBounds_toArray, List.set_cons_zero, List.set_cons_succ])
    | fail)
  have HNE : Hid (¬ rdfoot g 16 q r m (.slice none 0 0) w2.heap.size) := HRD2.out.new_ne (Nat.le_refl _)
  clear k0 HRD2 hbb
  generalize ((w2.alloc (.cells (slC sl0) 50)).setRow w2.heap.size (slC sA)) = w3 at *
  refine (rdWrite_go (by decide) (mm := 0) (by rw [HQ1.out.cu]; exact HQ1.out) (by decide) (by decide) (by decide) sA (by decide) (by decide) (by decide) (by simp) w3 hb3.size HRD3.out).mono ?_
  rw [ahB_nil, bhB_nil]
  rintro e w4 ⟨rfl, q4, lg4, v4, h4, hq4, hev4, hlg4, hm4⟩
  have HRD4 : Hid (RD w4 w.heap.size g 16 (fun _ => 0) 0 lg4 q4 [] r m v4 [sA]) := h4
  have HQ4 : Hid (q4.dd = false) := hq4.dd
  have k4 : Blk w4 w2.heap.size 50 (slC sA) := (hm4.blk k1 HNE.out).1
  have hb4 := HRD3.out.low hb3.size hm4
  have hb5 : Below w.heap.size w w4 := hb3.trans hb4
  clear h4 hq4 hb4 hb3 HRD3 k1 hk2 hm4
  go_wp2_with fail
  refine (rdRead (by decide) w4 HRD4.out).mono ?_
  rw [HQ4.out]
  rintro e w5 ⟨rfl, hb6⟩
  have e5 : slC (if false = true then sl0 else lastS [sA]) = slC sA := rfl
  rw [e5]
  clear e5
  have k5 := k4.below hb6 k4.lt
  have hb7 : Below w.heap.size w w5 := hb5.trans (hb6.mono hb5.size)
  have j0 := Blk.new w5 50 (slC sl0)
  have j1 := j0.set (slC sA)
  have k6 : Blk ((w5.alloc (.cells (slC sl0) 50)).setRow w5.heap.size (slC sA)) w2.heap.size 50 (slC sA) := (k5.alloc _).other _ (Nat.ne_of_lt k5.lt)
  clear hb6 k4
  go_wp2_with (first
    | (refine wpList_store_row (by rfl) 50 _ _ (by rfl) (w5.heap.size) (slC sA) (by rfl) (by rfl) 50 _ j0 (sizeSlot.trans (by rw [slC_size])) (by simp only [slC_size]) (slC_all _) ?_; simp only [Act.put, List.setIfInBounds_toArray, List.set_cons_zero, List.set_cons_succ])
    | (refine wpList_load_rowg (by rfl) 50 _ (by rfl) (w5.heap.size) (by rfl) 50 (slC sA) (0, 0) _ j1 Try.underlying50 (by rfl) (sizeSlot.trans (by rw [slC_size])) ?_; simp only [Act.put, List.setIfInBounds_toArray, List.set_cons_zero, List.set_cons_succ])
    | (refine wpList_load_rowg (by rfl) 50 _ (by rfl) (w2.heap.size) (by rfl) 50 (slC sA) (0, 0) _ k6 Try.underlying50 (by rfl) (sizeSlot.trans (by rw [slC_size])) ?_; simp only [Act.put, List.setIfInBounds_toArray, List.set_cons_zero, List.set_cons_succ])
    | fail)
  go_ret
  exact ⟨rfl, below_setRow (hb7.alloc hb7.size _) hb7.size _⟩
end Go.Proofs.Ytlmbokfgogkbmaa
