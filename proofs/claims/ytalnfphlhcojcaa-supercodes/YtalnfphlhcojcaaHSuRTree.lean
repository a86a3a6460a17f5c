/- The document's trees out of bytes. -/
import Derived.Test.YtalnfphlhcojcaaHSuREnc
import Derived.Handy

namespace Go.Proofs.Ytalnfphlhcojcaa
open Go Go.RowKit
set_option linter.unusedSimpArgs false
set_option linter.unusedVariables false
set_option maxRecDepth 20000
theorem su_get (s : ByteArray) (k : Nat) (h : k < s.size) : tbyte s k = (s[k]'h).toNat := by
  unfold tbyte
  rw [List.getD_eq_getElem?_getD, List.getElem?_eq_getElem (by simpa using h)]
  rfl
/-- a tree's cells while its digest is laid: k bytes are there -/
def tkF (h : Int) (n : Nat) (f : Nat → Nat) (k : Nat) : Nat → Value := fun i => if i = 0 then .int .i64 h else if i = 1 then .int .u32 ((n : Nat) : Int) else if i - 2 < k then .int .u8 ((f (i - 2) : Nat) : Int) else .int .u8 0
theorem tk_start (h : Int) (n : Nat) (f : Nat → Nat) : (tiC h rf0).setIfInBounds 1 (.int .u32 ((n : Nat) : Int)) = va 34 (tkF h n f 0) := by
  unfold tiC
  rw [va_set]
  refine va_congr fun i hi => ?_
  unfold upd tkF tiF rfF
  by_cases h1 : i = 1
  · subst h1
    rfl
  · rw [if_neg h1]
    by_cases h0 : i = 0
    · rw [if_pos h0, if_pos h0]
    · rw [if_neg h0, if_neg h0, if_neg h1, if_neg (by omega), if_neg (by omega)]
      have : dF rf0.2 (i - 1 - 1) = 0 := by
        show dF (Vector.replicate 32 0) (i - 1 - 1) = 0
        unfold dF
        by_cases h2 : i - 1 - 1 < 32
        · rw [Vector.getElem?_eq_getElem h2]; simp
        · rw [Vector.getElem?_eq_none (by omega)]; rfl
      rw [this]
      rfl
theorem tk_step (h : Int) (n : Nat) (f : Nat → Nat) (k : Nat) (hk : k < 32) : (va 34 (tkF h n f k)).setIfInBounds (2 + k) (.int .u8 ((f k : Nat) : Int)) = va 34 (tkF h n f (k + 1)) := by
  rw [va_set]
  refine va_congr fun i hi => ?_
  unfold upd tkF
  by_cases h1 : i = 2 + k
  · subst h1
    rw [if_pos rfl, if_neg (by omega), if_neg (by omega), if_pos (by omega), show 2 + k - 2 = k by omega]
  · rw [if_neg h1]
    by_cases h0 : i = 0
    · rw [if_pos h0, if_pos h0]
    · rw [if_neg h0, if_neg h0]
      by_cases h2 : i = 1
      · rw [if_pos h2, if_pos h2]
      · rw [if_neg h2, if_neg h2]
        by_cases h3 : i - 2 < k
        · rw [if_pos h3, if_pos (by omega)]
        · rw [if_neg h3, if_neg (by omega)]
theorem tk_end (h : Int) (n : Nat) (f : Nat → Nat) : va 34 (tkF h n f 32) = tiC h (n, sumD f) := by
  unfold tiC
  refine va_congr fun i hi => ?_
  unfold tkF tiF rfF
  by_cases h0 : i = 0
  · rw [if_pos h0, if_pos h0]
  · rw [if_neg h0, if_neg h0]
    by_cases h1 : i = 1
    · rw [if_pos h1, if_pos (by omega)]
    · rw [if_neg h1, if_pos (by omega), if_neg (by omega), dF_sumD f (i - 1 - 1) (by omega), show i - 1 - 1 = i - 2 by omega]
theorem sbuilt_rt1 (h : Int) : Try.prog.built 43 [(0, .int .i64 h)] = some (tiC h rf0) := by kernel_rfl
theorem su_bld1 {P : Program} {ops : Array Oper} {rest : List Oper} {o : Oper} {a : Act} {w : World} {Q : Exit → Act → World → Prop} (hg : o.guard = none) (t : TypeId) (x : Operand) (ho : o.op = .build t #[(0, x)]) (vx : Value) (hx : a.eval x = vx)
    (cells : Array Value) (hf : P.built t [(0, vx)] = some cells) (h : wpList P ops Q rest (a.put o.dst (.agg cells)) w) : wpList P ops Q (o :: rest) a w := by
  refine wpList_buildTo hg t _ ho o.dst rfl cells ?_ h
  have e : (Array.map (fun (x : Nat × Operand) => match x with | (i, x) => (i, a.eval x)) #[(0, x)]).toList = [(0, vx)] := by simp [hx]
  rw [e]
  exact hf
theorem sval4 (s : ByteArray) (a b : Nat) (hb : b = a + 4) (h : a + 4 ≤ s.size) (w : World) : Calls Try.prog 32 #[.string (s.extract a b)] w fun e w' => e = .returned (.int .u64 ((at4 s a : Nat) : Int)) ∧ w' = w := by
  subst hb
  have := sval_any (s.extract a (a + 4)) (by rw [extract_size s a (a + 4) h]; omega) w
  rwa [part_at4 s a h] at this
theorem sval8 (s : ByteArray) (a b : Nat) (hb : b = a + 8) (h : a + 8 ≤ s.size) (w : World) : Calls Try.prog 32 #[.string (s.extract a b)] w fun e w' => e = .returned (.int .u64 ((at8 s a : Nat) : Int)) ∧ w' = w := by
  subst hb
  have := sval_any (s.extract a (a + 8)) (by rw [extract_size s a (a + 8) h]; omega) w
  rwa [part_at8 s a h] at this
set_option maxRecDepth 100000 in
set_option maxHeartbeats 4000000 in
theorem rtree24 (s : ByteArray) (hs : s.size = 256) (w : World) : Calls Try.prog 33 #[.string s, .int .i64 24, .int .i64 32] w fun e w' => e = .returned (.agg (tiC ((at4 s 24 : Nat) : Int) (decR s 32))) ∧ Below w.heap.size w w' := by
  have hz := zero_rti
  have H1 : Hid (∀ w, Calls Try.prog 32 #[.string (s.extract 24 28)] w fun e w' => e = .returned (.int .u64 ((at4 s 24 : Nat) : Int)) ∧ w' = w) := sval4 s 24 28 rfl (by omega)
  have H2 : Hid (∀ w, Calls Try.prog 32 #[.string (s.extract 32 36)] w fun e w' => e = .returned (.int .u64 ((at4 s 32 : Nat) : Int)) ∧ w' = w) := sval4 s 32 36 rfl (by omega)
  have HR : Hid (decR s 32 = (at4 s 32, sumD fun i => tbyte s (36 + i))) := rfl
  have l1 := at4_lt s 24
  have l2 := at4_lt s 32
  have hF : ∀ i, tbyte s (36 + i) < 256 := fun i => tbyte_lt _ _
  generalize decR s 32 = R at *
  generalize at4 s 24 = N1 at *
  generalize at4 s 32 = N2 at *
  have v1 : IntKind.i64.wrap (N1 : Int) = (N1 : Int) := by rw [IntKind.wrap_i64]; omega
  have v2 : IntKind.u32.wrap (N2 : Int) = (N2 : Int) := by rw [IntKind.wrap_u32]; omega
  have hbt := sbuilt_rt1 (N1 : Int)
  have r1 : Blk ((w.alloc (.cells (tiC 0 rf0) 43)).alloc (.cells (tiC 0 rf0) 43)) (w.heap.size + 1) 43 (tiC 0 rf0) := Blk.new1 _ _ _ _
  have q0 : Blk (((w.alloc (.cells (tiC 0 rf0) 43)).alloc (.cells (tiC 0 rf0) 43)).setRow (w.heap.size + 1) (tiC (N1 : Int) rf0)) w.heap.size 43 (tiC 0 rf0) := ((Blk.new _ _ _).alloc _).other _ (by omega)
  have q1 : Blk (((w.alloc (.cells (tiC 0 rf0) 43)).alloc (.cells (tiC 0 rf0) 43)).setRow (w.heap.size + 1) (tiC (N1 : Int) rf0)) (w.heap.size + 1) 43 (tiC (N1 : Int) rf0) := r1.set _
  have hb : Below w.heap.size w (((w.alloc (.cells (tiC 0 rf0) 43)).alloc (.cells (tiC 0 rf0) 43)).setRow (w.heap.size + 1) (tiC (N1 : Int) rf0)) := below_setRow (below_new2 _ _ _) (by omega) _
  go_enter Try.func33, Try.ntmps33
  go_wp2_with fail
  refine (H1.out _).mono ?_
  rintro e w1 ⟨rfl, hw1⟩
  subst w1
  go_wp2_with (first
    | (refine su_bld1 (by rfl) 43 _ (by rfl) (.int .i64 (N1 : Int)) (by rfl) (tiC (N1 : Int) rf0) (by exact hbt) ?_; simp only [Act.put, List.setIfInBounds_toArray, List.set_cons_zero, List.set_cons_succ])
    | (refine wpList_store_row (by rfl) 43 _ _ (by rfl) (w.heap.size + 1) (tiC (N1 : Int) rf0) (by rfl) (by rfl) 43 (_) (by exact r1) (sizeRTr.trans (by rw [tiC_size])) (by simp only [tiC_size]) (tiC_all _ _) ?_; simp only [Act.put, List.setIfInBounds_toArray, List.set_cons_zero, List.set_cons_succ])
    | fail)
  clear r1
  generalize (((w.alloc (.cells (tiC 0 rf0) 43)).alloc (.cells (tiC 0 rf0) 43)).setRow (w.heap.size + 1) (tiC (N1 : Int) rf0)) = v at *
  refine (H2.out _).mono ?_
  rintro e w1 ⟨rfl, hw1⟩
  subst w1
  have f1 : v.frozen? ⟨w.heap.size + 1, 1, none⟩ = false := q1.frozen _
  obtain ⟨old, e1⟩ : ∃ old : Value, v.cell? ⟨w.heap.size + 1, 1, none⟩ = some old := ⟨_, by rw [q1.cell]; exact va_at (tiF _ _) (by decide)⟩
  have q2 : Hid (Blk (v.setCell ⟨w.heap.size + 1, 1, none⟩ (.int .u32 (N2 : Int))) (w.heap.size + 1) 43 (va 34 (tkF (N1 : Int) N2 (fun i => tbyte s (36 + i)) 0))) := by
    have := q1.put 1 (.int .u32 (N2 : Int))
    rwa [tk_start _ _ (fun i => tbyte s (36 + i))] at this
  have q3 : Hid (Blk (v.setCell ⟨w.heap.size + 1, 1, none⟩ (.int .u32 (N2 : Int))) w.heap.size 43 (tiC 0 rf0) ∧ Below w.heap.size w (v.setCell ⟨w.heap.size + 1, 1, none⟩ (.int .u32 (N2 : Int)))) := ⟨q0.put_other _ _ (by omega), hb.setCell (by show w.heap.size ≤ w.heap.size + 1; omega) _⟩
  clear q0 q1 hb
  go_wp2_with fail
  clear f1 e1
  generalize (v.setCell ⟨w.heap.size + 1, 1, none⟩ (.int .u32 (N2 : Int))) = v2 at *
  go_loopw [8] (fun i wr => Hid (∃ j : Nat, j ≤ 32 ∧ i = .int .i64 (j : Int) ∧ Blk wr (w.heap.size + 1) 43 (va 34 (tkF (N1 : Int) N2 (fun i => tbyte s (36 + i)) j)) ∧ Blk wr w.heap.size 43 (tiC 0 rf0) ∧ Below w.heap.size w wr)) (fun i _ => 32 - (intOf i).toNat)
  case atStart => exact ⟨0, by omega, rfl, q2.out, q3.out.1, q3.out.2⟩
  case round =>
    obtain ⟨j, hj, rfl, hq, hr, hbel⟩ := Hid.out hrel
    clear hrel q2 q3
    by_cases hlt : j < 32
    · have j1 : (j : Int) < 32 := by omega
      have j2 : (36 : Int) + (j : Int) < 256 := by omega
      have j3 : ((36 : Int) + (j : Int)).toNat = 36 + j := by omega
      have j4 : 36 + j < s.size := by omega
      have HT : Hid (tbyte s (36 + j) = s[36 + j].toNat) := su_get s _ j4
      have f1 : wr.frozen? ⟨w.heap.size + 1, 2 + j, none⟩ = false := hq.frozen _
      obtain ⟨old, e1⟩ : ∃ old : Value, wr.cell? ⟨w.heap.size + 1, 2 + j, none⟩ = some old := ⟨_, by rw [hq.cell]; exact va_at (tkF _ _ _ _) (by omega)⟩
      go_wp2_with fail
      refine ⟨⟨j + 1, by omega, by simp, ?_, hr.put_other _ _ (by omega), hbel.setCell (by show w.heap.size ≤ w.heap.size + 1; omega) _⟩, ?_⟩
      · have h6 := hq.put (2 + j) (.int .u8 (((fun i => tbyte s (36 + i)) j : Nat) : Int))
        rw [tk_step _ _ (fun i => tbyte s (36 + i)) j hlt] at h6
        rw [← HT.out]
        exact h6
      · simp [intOf]; omega
    · obtain rfl : j = 32 := by omega
      rw [tk_end] at hq
      have HRR := HR.out
      rw [← HRR] at hq
      clear HRR HR
      go_wp2_with (first
        | (refine wpList_load_rowg (by rfl) 43 _ (by rfl) (w.heap.size + 1) (by rfl) 43 (tiC (N1 : Int) R) (0, 0) _ (by exact hq) Try.underlying43 (by rfl) (sizeRTr.trans (by rw [tiC_size])) ?_; simp only [Act.put, List.setIfInBounds_toArray, List.set_cons_zero, List.set_cons_succ])
        | (refine wpList_store_row (by rfl) 43 _ _ (by rfl) (w.heap.size) (tiC (N1 : Int) R) (by rfl) (by rfl) 43 (_) (by exact hr) (sizeRTr.trans (by rw [tiC_size])) (by simp only [tiC_size]) (tiC_all _ _) ?_; simp only [Act.put, List.setIfInBounds_toArray, List.set_cons_zero, List.set_cons_succ])
        | fail)
      try simp only [Exit.inBlock, Exit.then]
      refine bodyPost_ret (results_cell1 Try.results33 _ _ (w.heap.size) 43 (tiC (N1 : Int) R) (0, 0) _ rfl (hr.set _) Try.underlying43 rfl (sizeRTr.trans (by rw [tiC_size]))) rfl ?_
      exact ⟨rfl, below_setRow hbel (Nat.le_refl _) _⟩
set_option maxRecDepth 100000 in
set_option maxHeartbeats 4000000 in
theorem rtree68 (s : ByteArray) (hs : s.size = 256) (w : World) : Calls Try.prog 33 #[.string s, .int .i64 68, .int .i64 72] w fun e w' => e = .returned (.agg (tiC ((at4 s 68 : Nat) : Int) (decR s 72))) ∧ Below w.heap.size w w' := by
  have hz := zero_rti
  have H1 : Hid (∀ w, Calls Try.prog 32 #[.string (s.extract 68 72)] w fun e w' => e = .returned (.int .u64 ((at4 s 68 : Nat) : Int)) ∧ w' = w) := sval4 s 68 72 rfl (by omega)
  have H2 : Hid (∀ w, Calls Try.prog 32 #[.string (s.extract 72 76)] w fun e w' => e = .returned (.int .u64 ((at4 s 72 : Nat) : Int)) ∧ w' = w) := sval4 s 72 76 rfl (by omega)
  have HR : Hid (decR s 72 = (at4 s 72, sumD fun i => tbyte s (76 + i))) := rfl
  have l1 := at4_lt s 68
  have l2 := at4_lt s 72
  have hF : ∀ i, tbyte s (76 + i) < 256 := fun i => tbyte_lt _ _
  generalize decR s 72 = R at *
  generalize at4 s 68 = N1 at *
  generalize at4 s 72 = N2 at *
  have v1 : IntKind.i64.wrap (N1 : Int) = (N1 : Int) := by rw [IntKind.wrap_i64]; omega
  have v2 : IntKind.u32.wrap (N2 : Int) = (N2 : Int) := by rw [IntKind.wrap_u32]; omega
  have hbt := sbuilt_rt1 (N1 : Int)
  have r1 : Blk ((w.alloc (.cells (tiC 0 rf0) 43)).alloc (.cells (tiC 0 rf0) 43)) (w.heap.size + 1) 43 (tiC 0 rf0) := Blk.new1 _ _ _ _
  have q0 : Blk (((w.alloc (.cells (tiC 0 rf0) 43)).alloc (.cells (tiC 0 rf0) 43)).setRow (w.heap.size + 1) (tiC (N1 : Int) rf0)) w.heap.size 43 (tiC 0 rf0) := ((Blk.new _ _ _).alloc _).other _ (by omega)
  have q1 : Blk (((w.alloc (.cells (tiC 0 rf0) 43)).alloc (.cells (tiC 0 rf0) 43)).setRow (w.heap.size + 1) (tiC (N1 : Int) rf0)) (w.heap.size + 1) 43 (tiC (N1 : Int) rf0) := r1.set _
  have hb : Below w.heap.size w (((w.alloc (.cells (tiC 0 rf0) 43)).alloc (.cells (tiC 0 rf0) 43)).setRow (w.heap.size + 1) (tiC (N1 : Int) rf0)) := below_setRow (below_new2 _ _ _) (by omega) _
  go_enter Try.func33, Try.ntmps33
  go_wp2_with fail
  refine (H1.out _).mono ?_
  rintro e w1 ⟨rfl, hw1⟩
  subst w1
  go_wp2_with (first
    | (refine su_bld1 (by rfl) 43 _ (by rfl) (.int .i64 (N1 : Int)) (by rfl) (tiC (N1 : Int) rf0) (by exact hbt) ?_; simp only [Act.put, List.setIfInBounds_toArray, List.set_cons_zero, List.set_cons_succ])
    | (refine wpList_store_row (by rfl) 43 _ _ (by rfl) (w.heap.size + 1) (tiC (N1 : Int) rf0) (by rfl) (by rfl) 43 (_) (by exact r1) (sizeRTr.trans (by rw [tiC_size])) (by simp only [tiC_size]) (tiC_all _ _) ?_; simp only [Act.put, List.setIfInBounds_toArray, List.set_cons_zero, List.set_cons_succ])
    | fail)
  clear r1
  generalize (((w.alloc (.cells (tiC 0 rf0) 43)).alloc (.cells (tiC 0 rf0) 43)).setRow (w.heap.size + 1) (tiC (N1 : Int) rf0)) = v at *
  refine (H2.out _).mono ?_
  rintro e w1 ⟨rfl, hw1⟩
  subst w1
  have f1 : v.frozen? ⟨w.heap.size + 1, 1, none⟩ = false := q1.frozen _
  obtain ⟨old, e1⟩ : ∃ old : Value, v.cell? ⟨w.heap.size + 1, 1, none⟩ = some old := ⟨_, by rw [q1.cell]; exact va_at (tiF _ _) (by decide)⟩
  have q2 : Hid (Blk (v.setCell ⟨w.heap.size + 1, 1, none⟩ (.int .u32 (N2 : Int))) (w.heap.size + 1) 43 (va 34 (tkF (N1 : Int) N2 (fun i => tbyte s (76 + i)) 0))) := by
    have := q1.put 1 (.int .u32 (N2 : Int))
    rwa [tk_start _ _ (fun i => tbyte s (76 + i))] at this
  have q3 : Hid (Blk (v.setCell ⟨w.heap.size + 1, 1, none⟩ (.int .u32 (N2 : Int))) w.heap.size 43 (tiC 0 rf0) ∧ Below w.heap.size w (v.setCell ⟨w.heap.size + 1, 1, none⟩ (.int .u32 (N2 : Int)))) := ⟨q0.put_other _ _ (by omega), hb.setCell (by show w.heap.size ≤ w.heap.size + 1; omega) _⟩
  clear q0 q1 hb
  go_wp2_with fail
  clear f1 e1
  generalize (v.setCell ⟨w.heap.size + 1, 1, none⟩ (.int .u32 (N2 : Int))) = v2 at *
  go_loopw [8] (fun i wr => Hid (∃ j : Nat, j ≤ 32 ∧ i = .int .i64 (j : Int) ∧ Blk wr (w.heap.size + 1) 43 (va 34 (tkF (N1 : Int) N2 (fun i => tbyte s (76 + i)) j)) ∧ Blk wr w.heap.size 43 (tiC 0 rf0) ∧ Below w.heap.size w wr)) (fun i _ => 32 - (intOf i).toNat)
  case atStart => exact ⟨0, by omega, rfl, q2.out, q3.out.1, q3.out.2⟩
  case round =>
    obtain ⟨j, hj, rfl, hq, hr, hbel⟩ := Hid.out hrel
    clear hrel q2 q3
    by_cases hlt : j < 32
    · have j1 : (j : Int) < 32 := by omega
      have j2 : (76 : Int) + (j : Int) < 256 := by omega
      have j3 : ((76 : Int) + (j : Int)).toNat = 76 + j := by omega
      have j4 : 76 + j < s.size := by omega
      have HT : Hid (tbyte s (76 + j) = s[76 + j].toNat) := su_get s _ j4
      have f1 : wr.frozen? ⟨w.heap.size + 1, 2 + j, none⟩ = false := hq.frozen _
      obtain ⟨old, e1⟩ : ∃ old : Value, wr.cell? ⟨w.heap.size + 1, 2 + j, none⟩ = some old := ⟨_, by rw [hq.cell]; exact va_at (tkF _ _ _ _) (by omega)⟩
      go_wp2_with fail
      refine ⟨⟨j + 1, by omega, by simp, ?_, hr.put_other _ _ (by omega), hbel.setCell (by show w.heap.size ≤ w.heap.size + 1; omega) _⟩, ?_⟩
      · have h6 := hq.put (2 + j) (.int .u8 (((fun i => tbyte s (76 + i)) j : Nat) : Int))
        rw [tk_step _ _ (fun i => tbyte s (76 + i)) j hlt] at h6
        rw [← HT.out]
        exact h6
      · simp [intOf]; omega
    · obtain rfl : j = 32 := by omega
      rw [tk_end] at hq
      have HRR := HR.out
      rw [← HRR] at hq
      clear HRR HR
      go_wp2_with (first
        | (refine wpList_load_rowg (by rfl) 43 _ (by rfl) (w.heap.size + 1) (by rfl) 43 (tiC (N1 : Int) R) (0, 0) _ (by exact hq) Try.underlying43 (by rfl) (sizeRTr.trans (by rw [tiC_size])) ?_; simp only [Act.put, List.setIfInBounds_toArray, List.set_cons_zero, List.set_cons_succ])
        | (refine wpList_store_row (by rfl) 43 _ _ (by rfl) (w.heap.size) (tiC (N1 : Int) R) (by rfl) (by rfl) 43 (_) (by exact hr) (sizeRTr.trans (by rw [tiC_size])) (by simp only [tiC_size]) (tiC_all _ _) ?_; simp only [Act.put, List.setIfInBounds_toArray, List.set_cons_zero, List.set_cons_succ])
        | fail)
      try simp only [Exit.inBlock, Exit.then]
      refine bodyPost_ret (results_cell1 Try.results33 _ _ (w.heap.size) 43 (tiC (N1 : Int) R) (0, 0) _ rfl (hr.set _) Try.underlying43 rfl (sizeRTr.trans (by rw [tiC_size]))) rfl ?_
      exact ⟨rfl, below_setRow hbel (Nat.le_refl _) _⟩
end Go.Proofs.Ytalnfphlhcojcaa
