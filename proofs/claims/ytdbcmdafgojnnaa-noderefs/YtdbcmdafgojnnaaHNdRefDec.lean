/- The document's reference in a text: the contract of signetref07.Decode. -/
import Derived.Test.YtdbcmdafgojnnaaHNdAwake
import Derived.Handy

namespace Go.Proofs.Ytdbcmdafgojnnaa
open Go Go.RowKit
set_option linter.unusedSimpArgs false
set_option linter.unusedVariables false

theorem rfC_set (n k z : Nat) (hk : k < 32) (f : Nat → Nat) : (rfC (n, sumD f)).setIfInBounds (1 + k) (.int .u8 (z : Int)) = rfC (n, sumD fun j => if j = k then z else f j) := by
  unfold rfC
  rw [va_set]
  refine va_congr fun i hi => ?_
  unfold upd
  by_cases h : i = 1 + k
  · subst h
    rw [if_pos rfl]
    unfold rfF
    rw [if_neg (by omega), show dF (n, sumD fun j => if j = k then z else f j).2 (1 + k - 1) = z by
      show dF (sumD fun j => if j = k then z else f j) (1 + k - 1) = z
      rw [dF_sumD _ _ (by omega), if_pos (by omega)]]
  · rw [if_neg h]
    unfold rfF
    by_cases h0 : i = 0
    · rw [if_pos h0, if_pos h0]
    · rw [if_neg h0, if_neg h0]
      have e : dF (n, sumD fun j => if j = k then z else f j).2 (i - 1) = dF (n, sumD f).2 (i - 1) := by
        show dF (sumD fun j => if j = k then z else f j) (i - 1) = dF (sumD f) (i - 1)
        rw [dF_sumD _ _ (by omega), dF_sumD _ _ (by omega), if_neg (by omega)]
      rw [e]
theorem nd_zero_sum : Vector.replicate 32 0 = sumD fun _ => 0 := dF_inj fun i hi => by
  rw [dF_sumD _ _ hi]
  unfold dF
  simp [hi]
theorem up_step (t : Nat → Nat) (c : Nat) : (fun j => if j = c then t c else if j < c then t j else 0) = fun j => if j < c + 1 then t j else 0 := by
  funext j
  by_cases h : j = c
  · subst h
    rw [if_pos rfl, if_pos (by omega)]
  · rw [if_neg h]
    by_cases h2 : j < c
    · rw [if_pos h2, if_pos (by omega)]
    · rw [if_neg h2, if_neg (by omega)]
set_option maxRecDepth 100000 in
set_option maxHeartbeats 4000000 in
theorem refDecR_bad (s : ByteArray) (i : Int) (hi : -9223372036854775808 ≤ i ∧ i ≤ 9223372036854775807) (hs : s.size ≤ maxLen) (h : i < 0 ∨ (0 ≤ i ∧ (s.size : Int) - 36 < i)) (w : World) : Calls Try.prog 25 #[.string s, .int .i64 i] w fun e w' => e = .returned (.tuple #[.agg (rfC rf0), .bool false]) ∧ Below w.heap.size w w' := by
  have hz := zero_rref
  have r0 : Blk (w.alloc (.cells (rfC rf0) 70)) w.heap.size 70 (rfC rf0) := Blk.new _ _ _
  have hb : Below w.heap.size w (w.alloc (.cells (rfC rf0) 70)) := below_new1 _ _
  have hsz : (w.alloc (.cells (rfC rf0) 70)).heap.size = w.heap.size + 1 := by simp
  by_cases h4 : i < 0 ∨ (0 ≤ i ∧ (s.size : Int) - 4 < i)
  · have HT : Hid (∀ w, Calls Try.prog 59 #[.string s, .int .i64 i, .int .i64 4] w fun e w' => e = .returned (.tuple #[.int .u64 0, .bool false]) ∧ w' = w) := fun w => refTake32_no s i hs h4 w
    clear h h4
    go_enter Try.func25, Try.ntmps25
    go_wp2_with fail
    generalize (w.alloc (.cells (rfC rf0) 70)) = w1 at *
    refine (HT.out w1).mono ?_
    rintro e _ ⟨rfl, rfl⟩
    go_wp2_with (first
      | (refine wpList_store_row (by rfl) 70 _ _ (by rfl) (w.heap.size) (rfC rf0) (by rfl) (by rfl) 70 (_) (by exact r0) (sizeRref.trans (by rw [rfC_size])) (by simp only [rfC_size]) (rfC_all _) ?_; simp only [Act.put, List.setIfInBounds_toArray, List.set_cons_zero, List.set_cons_succ])
      | fail)
    try simp only [Exit.inBlock, Exit.then]
    refine bodyPost_ret (results_row2 Try.results25 _ _ (w.heap.size) 70 (rfC rf0) (0, 0) _ rfl (r0.set _) Try.underlying70 rfl (sizeRref.trans (by rw [rfC_size]))) rfl ?_
    exact ⟨rfl, below_setRow hb (Nat.le_refl _) _⟩
  · obtain ⟨a, rfl⟩ : ∃ a : Nat, i = (a : Int) := ⟨i.toNat, by omega⟩
    have HT : Hid (∀ w, Calls Try.prog 59 #[.string s, .int .i64 (a : Int), .int .i64 4] w fun e w' => e = .returned (.tuple #[.int .u64 (at4 s a : Int), .bool true]) ∧ Below w.heap.size w w') := fun w => refTake32_yes s a hs (by omega) w
    unfold maxLen at hs
    have h9 : (s.size : Int) - (a : Int) < 36 := by omega
    have h8 : (a : Int) ≤ (s.size : Int) := by omega
    generalize at4 s a = n4 at *
    clear h h4
    go_enter Try.func25, Try.ntmps25
    go_wp2_with fail
    generalize (w.alloc (.cells (rfC rf0) 70)) = w1 at *
    refine (HT.out w1).mono ?_
    rintro e w2 ⟨rfl, hb2⟩
    have r2 : Blk w2 w.heap.size 70 (rfC rf0) := r0.below hb2 (by omega)
    have hb3 : Below w.heap.size w w2 := hb.trans (hb2.mono (by omega))
    clear r0 hb hb2
    go_wp2_with (first
      | (refine wpList_store_row (by rfl) 70 _ _ (by rfl) (w.heap.size) (rfC rf0) (by rfl) (by rfl) 70 (_) (by exact r2) (sizeRref.trans (by rw [rfC_size])) (by simp only [rfC_size]) (rfC_all _) ?_; simp only [Act.put, List.setIfInBounds_toArray, List.set_cons_zero, List.set_cons_succ])
      | fail)
    try simp only [Exit.inBlock, Exit.then]
    refine bodyPost_ret (results_row2 Try.results25 _ _ (w.heap.size) 70 (rfC rf0) (0, 0) _ rfl (r2.set _) Try.underlying70 rfl (sizeRref.trans (by rw [rfC_size]))) rfl ?_
    exact ⟨rfl, below_setRow hb3 (Nat.le_refl _) _⟩
set_option maxRecDepth 100000 in
set_option maxHeartbeats 4000000 in
theorem refDecR_good (s : ByteArray) (a : Nat) (hs : s.size ≤ maxLen) (h : a + 36 ≤ s.size) (w : World) : Calls Try.prog 25 #[.string s, .int .i64 (a : Int)] w fun e w' => e = .returned (.tuple #[.agg (rfC (if rOk (decR s a) then decR s a else rf0)), .bool (rOk (decR s a))]) ∧ Below w.heap.size w w' := by
  have HT : Hid (∀ w, Calls Try.prog 59 #[.string s, .int .i64 (a : Int), .int .i64 4] w fun e w' => e = .returned (.tuple #[.int .u64 (at4 s a : Int), .bool true]) ∧ Below w.heap.size w w') := fun w => refTake32_yes s a hs (by omega) w
  unfold maxLen at hs
  have hz := zero_rref
  have r0 : Blk (w.alloc (.cells (rfC rf0) 70)) w.heap.size 70 (rfC rf0) := Blk.new _ _ _
  have hb : Below w.heap.size w (w.alloc (.cells (rfC rf0) 70)) := below_new1 _ _
  have hsz : (w.alloc (.cells (rfC rf0) 70)).heap.size = w.heap.size + 1 := by simp
  have HDS : Hid (∀ c, ¬ c < 32 → decR s a = (at4 s a, sumD fun j => if j < c then tbyte s (a + 4 + j) else 0)) := fun c hc => by
    unfold decR
    have e : (sumD fun i => tbyte s (a + 4 + i)) = sumD fun j => if j < c then tbyte s (a + 4 + j) else 0 := dF_inj fun i hi => by
      rw [dF_sumD _ _ hi, dF_sumD _ _ hi, if_pos (by omega)]
    rw [e]
  have h9 : ¬ (s.size : Int) - (a : Int) < 36 := by omega
  have h8 : (a : Int) ≤ (s.size : Int) := by omega
  have hn := at4_lt s a
  have HBT : Hid (Try.prog.built 70 [(0, .int .u32 (at4 s a : Int))] = some (rfC (at4 s a, sumD fun _ => 0))) := by
    have := built_rref1 (at4 s a)
    rw [nd_zero_sum] at this
    exact this
  have HR : Hid (∀ w, Calls Try.prog 33 #[.agg (rfC (decR s a))] w fun e w' => e = .returned (.bool (rOk (decR s a))) ∧ Below w.heap.size w w') := rright_any (decR s a)
  generalize decR s a = X at *
  generalize rOk X = b at *
  generalize at4 s a = n4 at *
  have e4 : (n4 : Int) % 4294967296 = (n4 : Int) := by omega
  go_enter Try.func25, Try.ntmps25
  go_wp2_with fail
  generalize (w.alloc (.cells (rfC rf0) 70)) = w1 at *
  refine (HT.out w1).mono ?_
  rintro e w2 ⟨rfl, hb2⟩
  have hs2 := hb2.size
  have b0 : Blk (w2.alloc (.cells (rfC rf0) 70)) w2.heap.size 70 (rfC rf0) := Blk.new _ _ _
  have r4 : Blk ((w2.alloc (.cells (rfC rf0) 70)).setRow w2.heap.size (rfC (n4, sumD fun _ => 0))) w.heap.size 70 (rfC rf0) := ((r0.below hb2 (by omega)).alloc _).other _ (by omega)
  have b4 : Blk ((w2.alloc (.cells (rfC rf0) 70)).setRow w2.heap.size (rfC (n4, sumD fun _ => 0))) w2.heap.size 70 (rfC (n4, sumD fun _ => 0)) := b0.set _
  have hb4 : Below w.heap.size w ((w2.alloc (.cells (rfC rf0) 70)).setRow w2.heap.size (rfC (n4, sumD fun _ => 0))) := below_setRow ((hb.trans (hb2.mono (by omega))).alloc (by omega) _) (by omega) _
  have hs4 : ((w2.alloc (.cells (rfC rf0) 70)).setRow w2.heap.size (rfC (n4, sumD fun _ => 0))).heap.size = w2.heap.size + 1 := by simp
  clear r0 hb hb2 HT
  go_wp2_with (first
    | (refine nd_build1 (by rfl) 70 _ (by rfl) (.int .u32 (n4 : Int)) (by rfl) (rfC (n4, sumD fun _ => 0)) (by exact HBT.out) ?_; simp only [Act.put, List.setIfInBounds_toArray, List.set_cons_zero, List.set_cons_succ])
    | (refine wpList_store_row (by rfl) 70 _ _ (by rfl) (w2.heap.size) (rfC (n4, sumD fun _ => 0)) (by rfl) (by rfl) 70 (_) (by exact b0) (sizeRref.trans (by rw [rfC_size])) (by simp only [rfC_size]) (rfC_all _) ?_; simp only [Act.put, List.setIfInBounds_toArray, List.set_cons_zero, List.set_cons_succ])
    | fail)
  clear b0 HBT
  generalize ((w2.alloc (.cells (rfC rf0) 70)).setRow w2.heap.size (rfC (n4, sumD fun _ => 0))) = w4 at *
  go_loopw [9] (fun i wx => ∃ c : Nat, c ≤ 32 ∧ i = .int .i64 (c : Int) ∧ Blk wx w2.heap.size 70 (rfC (n4, sumD fun j => if j < c then tbyte s (a + 4 + j) else 0)) ∧ Blk wx w.heap.size 70 (rfC rf0) ∧ Below w.heap.size w wx ∧ w2.heap.size + 1 ≤ wx.heap.size) (fun i _ => 32 - (intOf i).toNat)
  case atStart => exact ⟨0, by omega, rfl, b4, r4, hb4, by omega⟩
  case round =>
    clear b4 r4 hb4 hs4
    obtain ⟨c, hc, rfl, hx, hq, hb, hsw⟩ := hrel
    by_cases hlt : c < 32
    · have c0 : (0 : Int) ≤ (c : Int) := by omega
      have c1 : (c : Int) < 32 := by omega
      have c2 : (0 : Int) ≤ (a : Int) + 4 + (c : Int) := by omega
      have c3 : (a : Int) + 4 + (c : Int) < (s.size : Int) := by omega
      have c4 : ((a : Int) + 4 + (c : Int)).toNat = a + 4 + c := by omega
      have c5 : a + 4 + c < s.size := by omega
      have hxx := (tbyte_get s (a + 4 + c) c5).symm
      have f0 : wr.frozen? ⟨w2.heap.size, 1 + c, none⟩ = false := hx.frozen (1 + c)
      have y0 : ∃ z, wr.cell? ⟨w2.heap.size, 1 + c, none⟩ = some z := ⟨_, by rw [hx.cell]; exact va_at (rfF _ _) (by omega)⟩
      obtain ⟨z, y0⟩ := y0
      have HB2 : Hid (Blk (wr.setCell ⟨w2.heap.size, 1 + c, none⟩ (.int .u8 ((tbyte s (a + 4 + c) : Nat) : Int))) w2.heap.size 70 (rfC (n4, sumD fun j => if j < c + 1 then tbyte s (a + 4 + j) else 0))) := by
        have := hx.put (1 + c) (.int .u8 ((tbyte s (a + 4 + c) : Nat) : Int))
        rw [rfC_set _ c _ hlt, up_step (fun j => tbyte s (a + 4 + j)) c] at this
        exact this
      have HC2 : Hid (Blk (wr.setCell ⟨w2.heap.size, 1 + c, none⟩ (.int .u8 ((tbyte s (a + 4 + c) : Nat) : Int))) w.heap.size 70 (rfC rf0)) := hq.put_other _ _ (by omega)
      have hbb : Below w.heap.size w (wr.setCell ⟨w2.heap.size, 1 + c, none⟩ (.int .u8 ((tbyte s (a + 4 + c) : Nat) : Int))) := hb.setCell (by show w.heap.size ≤ w2.heap.size; omega) _
      have hsb : (wr.setCell ⟨w2.heap.size, 1 + c, none⟩ (.int .u8 ((tbyte s (a + 4 + c) : Nat) : Int))).heap.size = wr.heap.size := World.size_setCell _ _ _
      clear hx hq hb
      go_wp2_with fail
      refine ⟨⟨c + 1, by omega, by simp, HB2.out, HC2.out, hbb, by omega⟩, ?_⟩
      simp [intOf]
      try omega
    · have e := HDS.out c hlt
      rw [← e] at hx
      clear e HDS
      have k5 : ¬ (c : Int) < 32 := by omega
      go_wp2_with (first
        | (refine wpList_load_rowg (by rfl) 70 _ (by rfl) (w2.heap.size) (by rfl) 70 (rfC X) (0, 0) _ (by exact hx) Try.underlying70 (by rfl) (sizeRref.trans (by rw [rfC_size])) ?_; simp only [Act.put, List.setIfInBounds_toArray, List.set_cons_zero, List.set_cons_succ])
        | fail)
      refine (HR.out wr).mono ?_
      rintro e w5 ⟨rfl, hb5⟩
      have r5 : Blk w5 w2.heap.size 70 (rfC X) := hx.below hb5 (by omega)
      have q5 : Blk w5 w.heap.size 70 (rfC rf0) := hq.below hb5 (by omega)
      have hb6 : Below w.heap.size w w5 := hb.trans (hb5.mono (by omega))
      clear hx hq hb hb5
      cases b
      · go_wp2_with (first
          | (refine wpList_store_row (by rfl) 70 _ _ (by rfl) (w.heap.size) (rfC rf0) (by rfl) (by rfl) 70 (_) (by exact q5) (sizeRref.trans (by rw [rfC_size])) (by simp only [rfC_size]) (rfC_all _) ?_; simp only [Act.put, List.setIfInBounds_toArray, List.set_cons_zero, List.set_cons_succ])
          | fail)
        try simp only [Exit.inBlock, Exit.then]
        refine bodyPost_ret (results_row2 Try.results25 _ _ (w.heap.size) 70 (rfC rf0) (0, 0) _ rfl (q5.set _) Try.underlying70 rfl (sizeRref.trans (by rw [rfC_size]))) rfl ?_
        exact ⟨rfl, below_setRow hb6 (Nat.le_refl _) _⟩
      · go_wp2_with (first
          | (refine wpList_load_rowg (by rfl) 70 _ (by rfl) (w2.heap.size) (by rfl) 70 (rfC X) (0, 0) _ (by exact r5) Try.underlying70 (by rfl) (sizeRref.trans (by rw [rfC_size])) ?_; simp only [Act.put, List.setIfInBounds_toArray, List.set_cons_zero, List.set_cons_succ])
          | (refine wpList_store_row (by rfl) 70 _ _ (by rfl) (w.heap.size) (rfC X) (by rfl) (by rfl) 70 (_) (by exact q5) (sizeRref.trans (by rw [rfC_size])) (by simp only [rfC_size]) (rfC_all _) ?_; simp only [Act.put, List.setIfInBounds_toArray, List.set_cons_zero, List.set_cons_succ])
          | fail)
        try simp only [Exit.inBlock, Exit.then]
        refine bodyPost_ret (results_row2 Try.results25 _ _ (w.heap.size) 70 (rfC X) (0, 0) _ rfl (q5.set _) Try.underlying70 rfl (sizeRref.trans (by rw [rfC_size]))) rfl ?_
        exact ⟨rfl, below_setRow hb6 (Nat.le_refl _) _⟩
end Go.Proofs.Ytdbcmdafgojnnaa
