/- Two blocks in a row; what the statement NodeReads needs. -/
import Derived.Test.YtdbcmdafgojnnaaHNdAwake
import Derived.Handy
import Derived.Test.YtdbcmdafgojnnaaHNdMore
import Derived.Test.YtdbcmdafgojnnaaHTurnsMix

namespace Go.Proofs.Ytdbcmdafgojnnaa
open Go Go.RowKit
set_option linter.unusedSimpArgs false
set_option linter.unusedVariables false

theorem rfC_set (n k z : Nat) (hk : k < 32) (f : Nat → Nat) : (rfC (n, sumD f)).setIfInBounds (1 + k) (.int .u8 (z : Int)) = rfC (n, sumD fun j => if j = k then z else f j) := by
  unfold rfC
  rw [va_set]
  refine va_congr fun i hi => ?_
  unfold upd
  by_cases h : i = 1 + k
  · subst h
    rw [if_pos rfl]
    unfold rfF
    rw [if_neg (by omega), show dF (n, sumD fun j => if j = k then z else f j).2 (1 + k - 1) = z by
      show dF (sumD fun j => if j = k then z else f j) (1 + k - 1) = z
      rw [dF_sumD _ _ (by omega), if_pos (by omega)]]
  · rw [if_neg h]
    unfold rfF
    by_cases h0 : i = 0
    · rw [if_pos h0, if_pos h0]
    · rw [if_neg h0, if_neg h0]
      have e : dF (n, sumD fun j => if j = k then z else f j).2 (i - 1) = dF (n, sumD f).2 (i - 1) := by
        show dF (sumD fun j => if j = k then z else f j) (i - 1) = dF (sumD f) (i - 1)
        rw [dF_sumD _ _ (by omega), dF_sumD _ _ (by omega), if_neg (by omega)]
      rw [e]
theorem nd_zero_sum : Vector.replicate 32 0 = sumD fun _ => 0 := dF_inj fun i hi => by
  rw [dF_sumD _ _ hi]
  unfold dF
  simp [hi]
theorem up_step (t : Nat → Nat) (c : Nat) : (fun j => if j = c then t c else if j < c then t j else 0) = fun j => if j < c + 1 then t j else 0 := by
  funext j
  by_cases h : j = c
  · subst h
    rw [if_pos rfl, if_pos (by omega)]
  · rw [if_neg h]
    by_cases h2 : j < c
    · rw [if_pos h2, if_pos (by omega)]
    · rw [if_neg h2, if_neg (by omega)]
set_option maxRecDepth 100000 in
set_option maxHeartbeats 4000000 in
theorem refDecR_bad (s : ByteArray) (i : Int) (hi : -9223372036854775808 ≤ i ∧ i ≤ 9223372036854775807) (hs : s.size ≤ maxLen) (h : i < 0 ∨ (0 ≤ i ∧ (s.size : Int) - 36 < i)) (w : World) : Calls Try.prog 25 #[.string s, .int .i64 i] w fun e w' => e = .returned (.tuple #[.agg (rfC rf0), .bool false]) ∧ Below w.heap.size w w' := by
  have hz := zero_rref
  have r0 : Blk (w.alloc (.cells (rfC rf0) 70)) w.heap.size 70 (rfC rf0) := Blk.new _ _ _
  have hb : Below w.heap.size w (w.alloc (.cells (rfC rf0) 70)) := below_new1 _ _
  have hsz : (w.alloc (.cells (rfC rf0) 70)).heap.size = w.heap.size + 1 := by simp
  by_cases h4 : i < 0 ∨ (0 ≤ i ∧ (s.size : Int) - 4 < i)
  · have HT : Hid (∀ w, Calls Try.prog 59 #[.string s, .int .i64 i, .int .i64 4] w fun e w' => e = .returned (.tuple #[.int .u64 0, .bool false]) ∧ w' = w) := fun w => refTake32_no s i hs h4 w
    clear h h4
    go_enter Try.func25, Try.ntmps25
    go_wp2_with fail
    generalize (w.alloc (.cells (rfC rf0) 70)) = w1 at *
    refine (HT.out w1).mono ?_
    rintro e _ ⟨rfl, rfl⟩
    go_wp2_with (first
      | (refine wpList_store_row (by rfl) 70 _ _ (by rfl) (w.heap.size) (rfC rf0) (by rfl) (by rfl) 70 (_) (by exact r0) (sizeRref.trans (by rw [rfC_size])) (by simp only [rfC_size]) (rfC_all _) ?_; simp only [Act.put, List.setIfInBounds_toArray, List.set_cons_zero, List.set_cons_succ])
      | fail)
    try simp only [Exit.inBlock, Exit.then]
    refine bodyPost_ret (results_row2 Try.results25 _ _ (w.heap.size) 70 (rfC rf0) (0, 0) _ rfl (r0.set _) Try.underlying70 rfl (sizeRref.trans (by rw [rfC_size]))) rfl ?_
    exact ⟨rfl, below_setRow hb (Nat.le_refl _) _⟩
  · obtain ⟨a, rfl⟩ : ∃ a : Nat, i = (a : Int) := ⟨i.toNat, by omega⟩
    have HT : Hid (∀ w, Calls Try.prog 59 #[.string s, .int .i64 (a : Int), .int .i64 4] w fun e w' => e = .returned (.tuple #[.int .u64 (at4 s a : Int), .bool true]) ∧ Below w.heap.size w w') := fun w => refTake32_yes s a hs (by omega) w
    unfold maxLen at hs
    have h9 : (s.size : Int) - (a : Int) < 36 := by omega
    have h8 : (a : Int) ≤ (s.size : Int) := by omega
    generalize at4 s a = n4 at *
    clear h h4
    go_enter Try.func25, Try.ntmps25
    go_wp2_with fail
    generalize (w.alloc (.cells (rfC rf0) 70)) = w1 at *
    refine (HT.out w1).mono ?_
    rintro e w2 ⟨rfl, hb2⟩
    have r2 : Blk w2 w.heap.size 70 (rfC rf0) := r0.below hb2 (by omega)
    have hb3 : Below w.heap.size w w2 := hb.trans (hb2.mono (by omega))
    clear r0 hb hb2
    go_wp2_with (first
      | (refine wpList_store_row (by rfl) 70 _ _ (by rfl) (w.heap.size) (rfC rf0) (by rfl) (by rfl) 70 (_) (by exact r2) (sizeRref.trans (by rw [rfC_size])) (by simp only [rfC_size]) (rfC_all _) ?_; simp only [Act.put, List.setIfInBounds_toArray, List.set_cons_zero, List.set_cons_succ])
      | fail)
    try simp only [Exit.inBlock, Exit.then]
    refine bodyPost_ret (results_row2 Try.results25 _ _ (w.heap.size) 70 (rfC rf0) (0, 0) _ rfl (r2.set _) Try.underlying70 rfl (sizeRref.trans (by rw [rfC_size]))) rfl ?_
    exact ⟨rfl, below_setRow hb3 (Nat.le_refl _) _⟩
set_option maxRecDepth 100000 in
set_option maxHeartbeats 4000000 in
theorem refDecR_good (s : ByteArray) (a : Nat) (hs : s.size ≤ maxLen) (h : a + 36 ≤ s.size) (w : World) : Calls Try.prog 25 #[.string s, .int .i64 (a : Int)] w fun e w' => e = .returned (.tuple #[.agg (rfC (if rOk (decR s a) then decR s a else rf0)), .bool (rOk (decR s a))]) ∧ Below w.heap.size w w' := by
  have HT : Hid (∀ w, Calls Try.prog 59 #[.string s, .int .i64 (a : Int), .int .i64 4] w fun e w' => e = .returned (.tuple #[.int .u64 (at4 s a : Int), .bool true]) ∧ Below w.heap.size w w') := fun w => refTake32_yes s a hs (by omega) w
  unfold maxLen at hs
  have hz := zero_rref
  have r0 : Blk (w.alloc (.cells (rfC rf0) 70)) w.heap.size 70 (rfC rf0) := Blk.new _ _ _
  have hb : Below w.heap.size w (w.alloc (.cells (rfC rf0) 70)) := below_new1 _ _
  have hsz : (w.alloc (.cells (rfC rf0) 70)).heap.size = w.heap.size + 1 := by simp
  have HDS : Hid (∀ c, ¬ c < 32 → decR s a = (at4 s a, sumD fun j => if j < c then tbyte s (a + 4 + j) else 0)) := fun c hc => by
    unfold decR
    have e : (sumD fun i => tbyte s (a + 4 + i)) = sumD fun j => if j < c then tbyte s (a + 4 + j) else 0 := dF_inj fun i hi => by
      rw [dF_sumD _ _ hi, dF_sumD _ _ hi, if_pos (by omega)]
    rw [e]
  have h9 : ¬ (s.size : Int) - (a : Int) < 36 := by omega
  have h8 : (a : Int) ≤ (s.size : Int) := by omega
  have hn := at4_lt s a
  have HBT : Hid (Try.prog.built 70 [(0, .int .u32 (at4 s a : Int))] = some (rfC (at4 s a, sumD fun _ => 0))) := by
    have := built_rref1 (at4 s a)
    rw [nd_zero_sum] at this
    exact this
  have HR : Hid (∀ w, Calls Try.prog 33 #[.agg (rfC (decR s a))] w fun e w' => e = .returned (.bool (rOk (decR s a))) ∧ Below w.heap.size w w') := rright_any (decR s a)
  generalize decR s a = X at *
  generalize rOk X = b at *
  generalize at4 s a = n4 at *
  have e4 : (n4 : Int) % 4294967296 = (n4 : Int) := by omega
  go_enter Try.func25, Try.ntmps25
  go_wp2_with fail
  generalize (w.alloc (.cells (rfC rf0) 70)) = w1 at *
  refine (HT.out w1).mono ?_
  rintro e w2 ⟨rfl, hb2⟩
  have hs2 := hb2.size
  have b0 : Blk (w2.alloc (.cells (rfC rf0) 70)) w2.heap.size 70 (rfC rf0) := Blk.new _ _ _
  have r4 : Blk ((w2.alloc (.cells (rfC rf0) 70)).setRow w2.heap.size (rfC (n4, sumD fun _ => 0))) w.heap.size 70 (rfC rf0) := ((r0.below hb2 (by omega)).alloc _).other _ (by omega)
  have b4 : Blk ((w2.alloc (.cells (rfC rf0) 70)).setRow w2.heap.size (rfC (n4, sumD fun _ => 0))) w2.heap.size 70 (rfC (n4, sumD fun _ => 0)) := b0.set _
  have hb4 : Below w.heap.size w ((w2.alloc (.cells (rfC rf0) 70)).setRow w2.heap.size (rfC (n4, sumD fun _ => 0))) := below_setRow ((hb.trans (hb2.mono (by omega))).alloc (by omega) _) (by omega) _
  have hs4 : ((w2.alloc (.cells (rfC rf0) 70)).setRow w2.heap.size (rfC (n4, sumD fun _ => 0))).heap.size = w2.heap.size + 1 := by simp
  clear r0 hb hb2 HT
  go_wp2_with (first
    | (refine nd_build1 (by rfl) 70 _ (by rfl) (.int .u32 (n4 : Int)) (by rfl) (rfC (n4, sumD fun _ => 0)) (by exact HBT.out) ?_; simp only [Act.put, List.setIfInBounds_toArray, List.set_cons_zero, List.set_cons_succ])
    | (refine wpList_store_row (by rfl) 70 _ _ (by rfl) (w2.heap.size) (rfC (n4, sumD fun _ => 0)) (by rfl) (by rfl) 70 (_) (by exact b0) (sizeRref.trans (by rw [rfC_size])) (by simp only [rfC_size]) (rfC_all _) ?_; simp only [Act.put, List.setIfInBounds_toArray, List.set_cons_zero, List.set_cons_succ])
    | fail)
  clear b0 HBT
  generalize ((w2.alloc (.cells (rfC rf0) 70)).setRow w2.heap.size (rfC (n4, sumD fun _ => 0))) = w4 at *
  go_loopw [9] (fun i wx => ∃ c : Nat, c ≤ 32 ∧ i = .int .i64 (c : Int) ∧ Blk wx w2.heap.size 70 (rfC (n4, sumD fun j => if j < c then tbyte s (a + 4 + j) else 0)) ∧ Blk wx w.heap.size 70 (rfC rf0) ∧ Below w.heap.size w wx ∧ w2.heap.size + 1 ≤ wx.heap.size) (fun i _ => 32 - (intOf i).toNat)
  case atStart => exact ⟨0, by omega, rfl, b4, r4, hb4, by omega⟩
  case round =>
    clear b4 r4 hb4 hs4
    obtain ⟨c, hc, rfl, hx, hq, hb, hsw⟩ := hrel
    by_cases hlt : c < 32
    · have c0 : (0 : Int) ≤ (c : Int) := by omega
      have c1 : (c : Int) < 32 := by omega
      have c2 : (0 : Int) ≤ (a : Int) + 4 + (c : Int) := by omega
      have c3 : (a : Int) + 4 + (c : Int) < (s.size : Int) := by omega
      have c4 : ((a : Int) + 4 + (c : Int)).toNat = a + 4 + c := by omega
      have c5 : a + 4 + c < s.size := by omega
      have hxx := (tbyte_get s (a + 4 + c) c5).symm
      have f0 : wr.frozen? ⟨w2.heap.size, 1 + c, none⟩ = false := hx.frozen (1 + c)
      have y0 : ∃ z, wr.cell? ⟨w2.heap.size, 1 + c, none⟩ = some z := ⟨_, by rw [hx.cell]; exact va_at (rfF _ _) (by omega)⟩
      obtain ⟨z, y0⟩ := y0
      have HB2 : Hid (Blk (wr.setCell ⟨w2.heap.size, 1 + c, none⟩ (.int .u8 ((tbyte s (a + 4 + c) : Nat) : Int))) w2.heap.size 70 (rfC (n4, sumD fun j => if j < c + 1 then tbyte s (a + 4 + j) else 0))) := by
        have := hx.put (1 + c) (.int .u8 ((tbyte s (a + 4 + c) : Nat) : Int))
        rw [rfC_set _ c _ hlt, up_step (fun j => tbyte s (a + 4 + j)) c] at this
        exact this
      have HC2 : Hid (Blk (wr.setCell ⟨w2.heap.size, 1 + c, none⟩ (.int .u8 ((tbyte s (a + 4 + c) : Nat) : Int))) w.heap.size 70 (rfC rf0)) := hq.put_other _ _ (by omega)
      have hbb : Below w.heap.size w (wr.setCell ⟨w2.heap.size, 1 + c, none⟩ (.int .u8 ((tbyte s (a + 4 + c) : Nat) : Int))) := hb.setCell (by show w.heap.size ≤ w2.heap.size; omega) _
      have hsb : (wr.setCell ⟨w2.heap.size, 1 + c, none⟩ (.int .u8 ((tbyte s (a + 4 + c) : Nat) : Int))).heap.size = wr.heap.size := World.size_setCell _ _ _
      clear hx hq hb
      go_wp2_with fail
      refine ⟨⟨c + 1, by omega, by simp, HB2.out, HC2.out, hbb, by omega⟩, ?_⟩
      simp [intOf]
      try omega
    · have e := HDS.out c hlt
      rw [← e] at hx
      clear e HDS
      have k5 : ¬ (c : Int) < 32 := by omega
      go_wp2_with (first
        | (refine wpList_load_rowg (by rfl) 70 _ (by rfl) (w2.heap.size) (by rfl) 70 (rfC X) (0, 0) _ (by exact hx) Try.underlying70 (by rfl) (sizeRref.trans (by rw [rfC_size])) ?_; simp only [Act.put, List.setIfInBounds_toArray, List.set_cons_zero, List.set_cons_succ])
        | fail)
      refine (HR.out wr).mono ?_
      rintro e w5 ⟨rfl, hb5⟩
      have r5 : Blk w5 w2.heap.size 70 (rfC X) := hx.below hb5 (by omega)
      have q5 : Blk w5 w.heap.size 70 (rfC rf0) := hq.below hb5 (by omega)
      have hb6 : Below w.heap.size w w5 := hb.trans (hb5.mono (by omega))
      clear hx hq hb hb5
      cases b
      · go_wp2_with (first
          | (refine wpList_store_row (by rfl) 70 _ _ (by rfl) (w.heap.size) (rfC rf0) (by rfl) (by rfl) 70 (_) (by exact q5) (sizeRref.trans (by rw [rfC_size])) (by simp only [rfC_size]) (rfC_all _) ?_; simp only [Act.put, List.setIfInBounds_toArray, List.set_cons_zero, List.set_cons_succ])
          | fail)
        try simp only [Exit.inBlock, Exit.then]
        refine bodyPost_ret (results_row2 Try.results25 _ _ (w.heap.size) 70 (rfC rf0) (0, 0) _ rfl (q5.set _) Try.underlying70 rfl (sizeRref.trans (by rw [rfC_size]))) rfl ?_
        exact ⟨rfl, below_setRow hb6 (Nat.le_refl _) _⟩
      · go_wp2_with (first
          | (refine wpList_load_rowg (by rfl) 70 _ (by rfl) (w2.heap.size) (by rfl) 70 (rfC X) (0, 0) _ (by exact r5) Try.underlying70 (by rfl) (sizeRref.trans (by rw [rfC_size])) ?_; simp only [Act.put, List.setIfInBounds_toArray, List.set_cons_zero, List.set_cons_succ])
          | (refine wpList_store_row (by rfl) 70 _ _ (by rfl) (w.heap.size) (rfC X) (by rfl) (by rfl) 70 (_) (by exact q5) (sizeRref.trans (by rw [rfC_size])) (by simp only [rfC_size]) (rfC_all _) ?_; simp only [Act.put, List.setIfInBounds_toArray, List.set_cons_zero, List.set_cons_succ])
          | fail)
        try simp only [Exit.inBlock, Exit.then]
        refine bodyPost_ret (results_row2 Try.results25 _ _ (w.heap.size) 70 (rfC X) (0, 0) _ rfl (q5.set _) Try.underlying70 rfl (sizeRref.trans (by rw [rfC_size]))) rfl ?_
        exact ⟨rfl, below_setRow hb6 (Nat.le_refl _) _⟩
end Go.Proofs.Ytdbcmdafgojnnaa

namespace Go.Proofs.Ytdbcmdafgojnnaa
open Go Go.RowKit
set_option linter.unusedSimpArgs false
set_option linter.unusedVariables false

theorem decK_lt (f : Nat → Nat) (i : Nat) : (decK f i).1 < 4294967296 := by
  unfold decK
  split
  · exact at4_lt _ _
  · decide
/-- a block with a reference that is not right is no node's -/
theorem rdOk_bad (f : Nat → Nat) (hf : ∀ i, f i < 256) (k : Nat) (hk : k < 4) (h : rOk (rawK f k) = false) : rdOk f = false := by
  cases hr : rdOk f
  · rfl
  · unfold rdOk at hr
    rw [Bool.and_eq_true, decide_eq_true_eq] at hr
    have h2 : bkSame f (nodeB (f 4) (decK f)) := fun i hi => (hr.2 i hi).symm
    have h3 := rawK_of (f 4) (hf 4) (decK f) (fun i _ => decK_ok f i) (fun i _ => decK_lt f i) f h2 k hk
    have h4 : decK f k = rf0 := by
      unfold decK
      rw [h]
      rfl
    rw [h3, h4] at h
    revert h
    decide
set_option maxRecDepth 100000 in
set_option maxHeartbeats 4000000 in
theorem refRead_by (f : Nat → Nat) (hf : ∀ i, f i < 256) (X : Array Value) (Y : Int) (HXY : Hid ((X, Y) = if rdOk f then (ndC ((f 4 : Nat) : Int) (decK f), (0 : Int)) else (ndC 0 fun _ => rf0, 70))) (w : World) : Calls Try.prog 41 #[bkV f] w fun e w' => e = .returned (.tuple #[.agg X, .int .i64 Y]) ∧ Below w.heap.size w w' := by
  unfold bkV
  have hz := zero_rnode
  have hzb := zero_256
  have hzr := zero_rref
  have r0 : Blk ((w.alloc (.cells (va 256 (iv .u8 f)) 59)).alloc (.cells (ndC 0 fun _ => rf0) 89)) w.heap.size 59 (va 256 (iv .u8 f)) := (Blk.new _ _ _).alloc _
  have x0 : ((w.alloc (.cells (va 256 (iv .u8 f)) 59)).alloc (.cells (ndC 0 fun _ => rf0) 89)).cell? ⟨w.heap.size, 4, none⟩ = some (.int .u8 ((f 4 : Nat) : Int)) := r0.cv (by decide)
  have HBT : Hid (Try.prog.built 89 [(0, .int .i64 ((f 4 : Nat) : Int))] = some (ndC ((f 4 : Nat) : Int) fun _ => rf0)) := built_rnode1 _
  have f4 := hf 4
  have e4 : ((f 4 : Nat) : Int) % 18446744073709551616 = ((f 4 : Nat) : Int) := by omega
  have b0 : Blk (((w.alloc (.cells (va 256 (iv .u8 f)) 59)).alloc (.cells (ndC 0 fun _ => rf0) 89)).alloc (.cells (ndC 0 fun _ => rf0) 89)) (w.heap.size + 2) 89 (ndC 0 fun _ => rf0) := Blk.new2 _ _ _ _ _
  have a4 : Blk ((((w.alloc (.cells (va 256 (iv .u8 f)) 59)).alloc (.cells (ndC 0 fun _ => rf0) 89)).alloc (.cells (ndC 0 fun _ => rf0) 89)).setRow (w.heap.size + 2) (ndC ((f 4 : Nat) : Int) fun _ => rf0)) w.heap.size 59 (va 256 (iv .u8 f)) := (r0.alloc _).other _ (by omega)
  have q4 : Blk ((((w.alloc (.cells (va 256 (iv .u8 f)) 59)).alloc (.cells (ndC 0 fun _ => rf0) 89)).alloc (.cells (ndC 0 fun _ => rf0) 89)).setRow (w.heap.size + 2) (ndC ((f 4 : Nat) : Int) fun _ => rf0)) (w.heap.size + 1) 89 (ndC 0 fun _ => rf0) := ((Blk.new1 _ _ _ _).alloc _).other _ (by omega)
  have b4 : Blk ((((w.alloc (.cells (va 256 (iv .u8 f)) 59)).alloc (.cells (ndC 0 fun _ => rf0) 89)).alloc (.cells (ndC 0 fun _ => rf0) 89)).setRow (w.heap.size + 2) (ndC ((f 4 : Nat) : Int) fun _ => rf0)) (w.heap.size + 2) 89 (va 133 (ndF ((f 4 : Nat) : Int) fun _ => rf0)) := b0.set _
  have hb4 : Below w.heap.size w ((((w.alloc (.cells (va 256 (iv .u8 f)) 59)).alloc (.cells (ndC 0 fun _ => rf0) 89)).alloc (.cells (ndC 0 fun _ => rf0) 89)).setRow (w.heap.size + 2) (ndC ((f 4 : Nat) : Int) fun _ => rf0)) := below_setRow (below_new3 _ _ _ _) (by omega) _
  have hs4 : ((((w.alloc (.cells (va 256 (iv .u8 f)) 59)).alloc (.cells (ndC 0 fun _ => rf0) 89)).alloc (.cells (ndC 0 fun _ => rf0) 89)).setRow (w.heap.size + 2) (ndC ((f 4 : Nat) : Int) fun _ => rf0)).heap.size = w.heap.size + 3 := by simp
  clear r0
  go_enter Try.func41, Try.ntmps41
  go_wp2_with (first
    | (refine nd_build1 (by rfl) 89 _ (by rfl) (.int .i64 ((f 4 : Nat) : Int)) (by rfl) (ndC ((f 4 : Nat) : Int) fun _ => rf0) (by exact HBT.out) ?_; simp only [Act.put, List.setIfInBounds_toArray, List.set_cons_zero, List.set_cons_succ])
    | (refine wpList_store_row (by rfl) 89 _ _ (by rfl) (w.heap.size + 2) (ndC ((f 4 : Nat) : Int) fun _ => rf0) (by rfl) (by rfl) 89 (_) (by exact b0) (sizeRnode.trans (by rw [ndC_size])) (by simp only [ndC_size]) (ndC_all _ _) ?_; simp only [Act.put, List.setIfInBounds_toArray, List.set_cons_zero, List.set_cons_succ])
    | fail)
  clear b0 x0 HBT
  generalize ((((w.alloc (.cells (va 256 (iv .u8 f)) 59)).alloc (.cells (ndC 0 fun _ => rf0) 89)).alloc (.cells (ndC 0 fun _ => rf0) 89)).setRow (w.heap.size + 2) (ndC ((f 4 : Nat) : Int) fun _ => rf0)) = w4 at *
  go_loopw [5] (fun i wr => ∃ k : Nat, k ≤ 4 ∧ i = .int .i64 (k : Int) ∧ Blk wr w.heap.size 59 (va 256 (iv .u8 f)) ∧ Blk wr (w.heap.size + 1) 89 (ndC 0 fun _ => rf0) ∧ Blk wr (w.heap.size + 2) 89 (va 133 (ndF ((f 4 : Nat) : Int) (upK f k))) ∧ Below w.heap.size w wr ∧ w.heap.size + 3 ≤ wr.heap.size) (fun i _ => 4 - (intOf i).toNat)
  case atStart => exact ⟨0, by omega, rfl, a4, q4, b4, hb4, by omega⟩
  case round =>
    clear a4 q4 b4 hb4 hs4
    obtain ⟨k, hk, rfl, p0, p1, p2, hb, hs⟩ := hrel
    by_cases hlt : k < 4
    · have k1 : (k : Int) < 4 := by omega
      have HD : Hid (∀ w, Calls Try.prog 25 #[.string (strN f 256), .int .i64 (8 + 36 * (k : Int))] w fun e w' => e = .returned (.tuple #[.agg (rfC (decK f k)), .bool (rOk (rawK f k))]) ∧ Below w.heap.size w w') := fun w => by
        have hz : (strN f 256).size = 256 := strN_size _ _
        rw [show (8 + 36 * (k : Int)) = ((8 + 36 * k : Nat) : Int) by omega]
        exact refDecR_good (strN f 256) (8 + 36 * k) (by rw [hz]; unfold maxLen; decide) (by rw [hz]; omega) w
      have HU : Hid (va 133 (over (ndF ((f 4 : Nat) : Int) (upK f k)) (1 + k * 33) (rfC (decK f k)).toList) = va 133 (ndF ((f 4 : Nat) : Int) (upK f (k + 1)))) := by
        show _ = _
        rw [nd_over _ _ k _ hlt, upK_step]
      have HBD : Hid (rOk (rawK f k) = false → rdOk f = false) := rdOk_bad f hf k hlt
      have hc := run_bytes_text (P := Try.prog) wr 77 5 9 Try.underlying77 Try.underlying5 Try.underlying9 p0 0 256 256 (by omega)
      have hx : strN (fun j => f (0 + j)) 256 = strN f 256 := strN_congr fun j _ => by rw [Nat.zero_add]
      rw [hx] at hc
      clear hx
      generalize strN f 256 = t at *
      generalize rOk (rawK f k) = b at *
      have HRS : (rfC (decK f k)).size = 33 := rfC_size _
      have HRA : Hid ((rfC (decK f k)).all (·.oneCell') = true) := rfC_all _
      generalize rfC (decK f k) = rc at *
      go_wp2_with fail
      refine (HD.out wr).mono ?_
      rintro e w5 ⟨rfl, hb5⟩
      have hs5 := hb5.size
      have c0 : Blk (w5.alloc (.cells (rfC rf0) 70)) w5.heap.size 70 (rfC rf0) := Blk.new _ _ _
      have bp : Below w5.heap.size w5 ((w5.alloc (.cells (rfC rf0) 70)).setRow w5.heap.size rc) := below_setRow (below_new1 _ _) (Nat.le_refl _) _
      have bq : Below wr.heap.size wr ((w5.alloc (.cells (rfC rf0) 70)).setRow w5.heap.size rc) := hb5.trans (bp.mono (by omega))
      have d0 : Blk ((w5.alloc (.cells (rfC rf0) 70)).setRow w5.heap.size rc) w.heap.size 59 (va 256 (iv .u8 f)) := p0.below bq (by omega)
      have d1 : Blk ((w5.alloc (.cells (rfC rf0) 70)).setRow w5.heap.size rc) (w.heap.size + 1) 89 (ndC 0 fun _ => rf0) := p1.below bq (by omega)
      have d2 : Blk ((w5.alloc (.cells (rfC rf0) 70)).setRow w5.heap.size rc) (w.heap.size + 2) 89 (va 133 (ndF ((f 4 : Nat) : Int) (upK f k))) := p2.below bq (by omega)
      have d3 : Blk ((w5.alloc (.cells (rfC rf0) 70)).setRow w5.heap.size rc) w5.heap.size 70 rc := c0.set _
      have hb6 : Below w.heap.size w ((w5.alloc (.cells (rfC rf0) 70)).setRow w5.heap.size rc) := hb.trans (bq.mono (by omega))
      have hs6 : ((w5.alloc (.cells (rfC rf0) 70)).setRow w5.heap.size rc).heap.size = w5.heap.size + 1 := by simp
      clear p0 p1 p2 hb hb5 HD hc bp bq
      cases b
      · have hxy := HXY.out
        rw [HBD.out (by first | rfl | trivial)] at hxy
        injection hxy with hx hy
        clear HXY HBD HU
        go_wp2_with (first
          | (refine wpList_store_row (by rfl) 70 _ _ (by rfl) (w5.heap.size) (rc) (by rfl) (by rfl) 70 (rfC rf0) (by exact c0) (sizeRref.trans (by rw [HRS])) (by rw [HRS, rfC_size]) (HRA.out) ?_; simp only [Act.put, List.setIfInBounds_toArray, List.set_cons_zero, List.set_cons_succ])
          | (refine wpList_store_row (by rfl) 89 _ _ (by rfl) (w.heap.size + 1) (ndC 0 fun _ => rf0) (by rfl) (by rfl) 89 (_) (by exact d1) (sizeRnode.trans (by rw [ndC_size])) (by simp only [ndC_size]) (ndC_all _ _) ?_; simp only [Act.put, List.setIfInBounds_toArray, List.set_cons_zero, List.set_cons_succ])
          | fail)
        try simp only [Exit.inBlock, Exit.then]
        refine bodyPost_ret (results_row2 Try.results41 _ _ (w.heap.size + 1) 89 (ndC 0 fun _ => rf0) (0, 0) _ rfl (d1.set _) Try.underlying89 rfl (sizeRnode.trans (by rw [ndC_size]))) rfl ?_
        subst hx hy
        exact ⟨rfl, below_setRow hb6 (by omega) _⟩
      · go_wp2_with (first
          | (refine wpList_store_row (by rfl) 70 _ _ (by rfl) (w5.heap.size) (rc) (by rfl) (by rfl) 70 (rfC rf0) (by exact c0) (sizeRref.trans (by rw [HRS])) (by rw [HRS, rfC_size]) (HRA.out) ?_; simp only [Act.put, List.setIfInBounds_toArray, List.set_cons_zero, List.set_cons_succ])
          | (refine wpList_load_rowg (by rfl) 70 _ (by rfl) (w5.heap.size) (by rfl) 70 (rc) (0, 0) _ (by exact d3) Try.underlying70 (by rfl) (sizeRref.trans (by rw [HRS])) ?_; simp only [Act.put, List.setIfInBounds_toArray, List.set_cons_zero, List.set_cons_succ])
          | (refine wpList_store_mid (by rfl) 70 _ _ (by rfl) (w.heap.size + 2) (1 + k * 33) rc (by rfl) (by rfl) (by exact d2.there (1 + k * 33) _ (by rw [HRS, va_size]; omega)) (sizeRref.trans (by rw [HRS])) (HRA.out) ?_; simp only [Act.put, List.setIfInBounds_toArray, List.set_cons_zero, List.set_cons_succ])
          | fail)
        generalize ((w5.alloc (.cells (rfC rf0) 70)).setRow w5.heap.size rc) = w6 at *
        have g0 : Blk (w6.setCells (w.heap.size + 2) (1 + k * 33) rc.toList) w.heap.size 59 (va 256 (iv .u8 f)) := d0.cells_other (by omega) _ _ _
        have g1 : Blk (w6.setCells (w.heap.size + 2) (1 + k * 33) rc.toList) (w.heap.size + 1) 89 (ndC 0 fun _ => rf0) := d1.cells_other (by omega) _ _ _
        have g2 : Blk (w6.setCells (w.heap.size + 2) (1 + k * 33) rc.toList) (w.heap.size + 2) 89 (va 133 (ndF ((f 4 : Nat) : Int) (upK f (k + 1)))) := by
          rw [← HU.out]
          exact d2.cells_put _ _ _
        have hb7 : Below w.heap.size w (w6.setCells (w.heap.size + 2) (1 + k * 33) rc.toList) := below_setCells (by omega) _ _ _ hb6
        have hs7 : (w6.setCells (w.heap.size + 2) (1 + k * 33) rc.toList).heap.size = w6.heap.size := size_setCells _ _ _
        clear d0 d1 d2 d3 c0 hb6
        generalize (w6.setCells (w.heap.size + 2) (1 + k * 33) rc.toList) = w7 at *
        try go_wp2_with fail
        refine ⟨⟨k + 1, by omega, by simp, g0, g1, g2, hb7, by omega⟩, ?_⟩
        simp [intOf]
        try omega
    · have e : k = 4 := by omega
      subst e
      have HK : Hid (va 133 (ndF ((f 4 : Nat) : Int) (upK f 4)) = ndC ((f 4 : Nat) : Int) (decK f)) := nd_congr fun i hi => by
        unfold upK
        rw [if_pos hi]
      have c3 : Blk wr (w.heap.size + 2) 89 (ndC ((f 4 : Nat) : Int) (decK f)) := by
        rw [← HK.out]
        exact p2
      have k4 : ¬ (((4 : Nat) : Int) < 4) := by omega
      clear p2 HK
      have HB : Hid (∀ w, Calls Try.prog 35 #[.agg (ndC ((f 4 : Nat) : Int) (decK f))] w fun e w' => e = .returned (.tuple #[.agg (va 256 (iv .u8 (blkF ((f 4 : Nat) : Int) (decK f)))), .int .i64 (if ndOk ((f 4 : Nat) : Int) (decK f) then 0 else 1)]) ∧ Below w.heap.size w w') := refBlock_any _ _ (fun i _ => decK_ok f i) fun i _ => decK_lt f i
      have HQ : Hid (∀ W, (Op.equalIn 10000 59 (.agg (va 256 (iv .u8 (blkF ((f 4 : Nat) : Int) (decK f))))) (.agg (va 256 (iv .u8 f)))).run Try.prog W = .ok (decide (bkSame (blkF ((f 4 : Nat) : Int) (decK f)) f)) W) := eq_bk 59 Try.underlying59 _ _
      have HG : Hid (ndOk ((f 4 : Nat) : Int) (decK f) = true → blkF ((f 4 : Nat) : Int) (decK f) = nodeB (f 4) (decK f)) := fun h => by
        unfold blkF
        rw [h]
        rfl
      have HRO : Hid (rdOk f = (ndOk ((f 4 : Nat) : Int) (decK f) && decide (bkSame (nodeB (f 4) (decK f)) f))) := rfl
      generalize blkF ((f 4 : Nat) : Int) (decK f) = bf at *
      generalize hok : ndOk ((f 4 : Nat) : Int) (decK f) = ok at *
      obtain ⟨nc, hnc⟩ : ∃ nc, nc = ndC ((f 4 : Nat) : Int) (decK f) := ⟨_, rfl⟩
      have HNS : nc.size = 133 := by rw [hnc]; exact ndC_size _ _
      have HNA : Hid (nc.all (·.oneCell') = true) := by rw [hnc]; exact ndC_all _ _
      rw [← hnc] at c3 HB HXY
      clear hnc hok
      go_wp2_with (first
        | (refine wpList_load_rowg (by rfl) 89 _ (by rfl) (w.heap.size + 2) (by rfl) 89 (nc) (0, 0) _ (by exact c3) Try.underlying89 (by rfl) (sizeRnode.trans (by rw [HNS])) ?_; simp only [Act.put, List.setIfInBounds_toArray, List.set_cons_zero, List.set_cons_succ])
        | fail)
      refine (HB.out wr).mono ?_
      rintro e w5 ⟨rfl, hb5⟩
      have hs5 := hb5.size
      have bp : Below w5.heap.size w5 ((w5.alloc (.cells (va 256 (iv .u8 fun _ => 0)) 59)).setRow w5.heap.size (va 256 (iv .u8 bf))) := below_setRow (below_new1 _ _) (Nat.le_refl _) _
      have bq : Below wr.heap.size wr ((w5.alloc (.cells (va 256 (iv .u8 fun _ => 0)) 59)).setRow w5.heap.size (va 256 (iv .u8 bf))) := hb5.trans (bp.mono (by omega))
      have d3 : Blk (w5.alloc (.cells (va 256 (iv .u8 fun _ => 0)) 59)) w5.heap.size 59 (va 256 (iv .u8 fun _ => 0)) := Blk.new _ _ _
      have g0 : Blk ((w5.alloc (.cells (va 256 (iv .u8 fun _ => 0)) 59)).setRow w5.heap.size (va 256 (iv .u8 bf))) w.heap.size 59 (va 256 (iv .u8 f)) := p0.below bq (by omega)
      have g1 : Blk ((w5.alloc (.cells (va 256 (iv .u8 fun _ => 0)) 59)).setRow w5.heap.size (va 256 (iv .u8 bf))) (w.heap.size + 1) 89 (ndC 0 fun _ => rf0) := p1.below bq (by omega)
      have g2 : Blk ((w5.alloc (.cells (va 256 (iv .u8 fun _ => 0)) 59)).setRow w5.heap.size (va 256 (iv .u8 bf))) (w.heap.size + 2) 89 nc := c3.below bq (by omega)
      have g3 : Blk ((w5.alloc (.cells (va 256 (iv .u8 fun _ => 0)) 59)).setRow w5.heap.size (va 256 (iv .u8 bf))) w5.heap.size 59 (va 256 (iv .u8 bf)) := d3.set _
      have hb7 : Below w.heap.size w ((w5.alloc (.cells (va 256 (iv .u8 fun _ => 0)) 59)).setRow w5.heap.size (va 256 (iv .u8 bf))) := hb.trans (bq.mono (by omega))
      clear p0 p1 c3 hb hb5 HB bp bq
      cases ok
      · have hxy := HXY.out
        rw [HRO.out] at hxy
        injection hxy with hx hy
        clear HXY HRO HG HQ
        go_wp2_with (first
          | (refine wpList_store_row (by rfl) 59 _ _ (by rfl) (w5.heap.size) (va 256 (iv .u8 (bf))) (by rfl) (by rfl) 59 (_) (by exact d3) (ndSize256.trans (by rw [va_size])) (by simp only [va_size]) (iv_one _ _ _) ?_; simp only [Act.put, List.setIfInBounds_toArray, List.set_cons_zero, List.set_cons_succ])
          | (refine wpList_store_row (by rfl) 89 _ _ (by rfl) (w.heap.size + 1) (ndC 0 fun _ => rf0) (by rfl) (by rfl) 89 (_) (by exact g1) (sizeRnode.trans (by rw [ndC_size])) (by simp only [ndC_size]) (ndC_all _ _) ?_; simp only [Act.put, List.setIfInBounds_toArray, List.set_cons_zero, List.set_cons_succ])
          | fail)
        try simp only [Exit.inBlock, Exit.then]
        refine bodyPost_ret (results_row2 Try.results41 _ _ (w.heap.size + 1) 89 (ndC 0 fun _ => rf0) (0, 0) _ rfl (g1.set _) Try.underlying89 rfl (sizeRnode.trans (by rw [ndC_size]))) rfl ?_
        subst hx hy
        exact ⟨rfl, below_setRow hb7 (by omega) _⟩
      · have hbf := HG.out rfl
        have hxy := HXY.out
        rw [HRO.out, Bool.true_and, ← hbf] at hxy
        have heq := HQ.out
        generalize decide (bkSame bf f) = c at *
        clear HXY HRO HG HQ hbf
        cases c
        · injection hxy with hx hy
          go_wp2_with (first
            | (refine wpList_store_row (by rfl) 59 _ _ (by rfl) (w5.heap.size) (va 256 (iv .u8 (bf))) (by rfl) (by rfl) 59 (_) (by exact d3) (ndSize256.trans (by rw [va_size])) (by simp only [va_size]) (iv_one _ _ _) ?_; simp only [Act.put, List.setIfInBounds_toArray, List.set_cons_zero, List.set_cons_succ])
            | (refine wpList_load_rowg (by rfl) 59 _ (by rfl) (w5.heap.size) (by rfl) 59 (va 256 (iv .u8 (bf))) (0, 0) _ (by exact g3) Try.underlying59 (by rfl) (ndSize256.trans (by rw [va_size])) ?_; simp only [Act.put, List.setIfInBounds_toArray, List.set_cons_zero, List.set_cons_succ])
            | (refine wpList_load_rowg (by rfl) 59 _ (by rfl) (w.heap.size) (by rfl) 59 (va 256 (iv .u8 (f))) (0, 0) _ (by exact g0) Try.underlying59 (by rfl) (ndSize256.trans (by rw [va_size])) ?_; simp only [Act.put, List.setIfInBounds_toArray, List.set_cons_zero, List.set_cons_succ])
            | (refine wpList_store_row (by rfl) 89 _ _ (by rfl) (w.heap.size + 1) (ndC 0 fun _ => rf0) (by rfl) (by rfl) 89 (_) (by exact g1) (sizeRnode.trans (by rw [ndC_size])) (by simp only [ndC_size]) (ndC_all _ _) ?_; simp only [Act.put, List.setIfInBounds_toArray, List.set_cons_zero, List.set_cons_succ])
            | fail)
          try simp only [Exit.inBlock, Exit.then]
          refine bodyPost_ret (results_row2 Try.results41 _ _ (w.heap.size + 1) 89 (ndC 0 fun _ => rf0) (0, 0) _ rfl (g1.set _) Try.underlying89 rfl (sizeRnode.trans (by rw [ndC_size]))) rfl ?_
          subst hx hy
          exact ⟨rfl, below_setRow hb7 (by omega) _⟩
        · injection hxy with hx hy
          go_wp2_with (first
            | (refine wpList_store_row (by rfl) 59 _ _ (by rfl) (w5.heap.size) (va 256 (iv .u8 (bf))) (by rfl) (by rfl) 59 (_) (by exact d3) (ndSize256.trans (by rw [va_size])) (by simp only [va_size]) (iv_one _ _ _) ?_; simp only [Act.put, List.setIfInBounds_toArray, List.set_cons_zero, List.set_cons_succ])
            | (refine wpList_load_rowg (by rfl) 59 _ (by rfl) (w5.heap.size) (by rfl) 59 (va 256 (iv .u8 (bf))) (0, 0) _ (by exact g3) Try.underlying59 (by rfl) (ndSize256.trans (by rw [va_size])) ?_; simp only [Act.put, List.setIfInBounds_toArray, List.set_cons_zero, List.set_cons_succ])
            | (refine wpList_load_rowg (by rfl) 59 _ (by rfl) (w.heap.size) (by rfl) 59 (va 256 (iv .u8 (f))) (0, 0) _ (by exact g0) Try.underlying59 (by rfl) (ndSize256.trans (by rw [va_size])) ?_; simp only [Act.put, List.setIfInBounds_toArray, List.set_cons_zero, List.set_cons_succ])
            | (refine wpList_load_rowg (by rfl) 89 _ (by rfl) (w.heap.size + 2) (by rfl) 89 (nc) (0, 0) _ (by exact g2) Try.underlying89 (by rfl) (sizeRnode.trans (by rw [HNS])) ?_; simp only [Act.put, List.setIfInBounds_toArray, List.set_cons_zero, List.set_cons_succ])
            | (refine wpList_store_row (by rfl) 89 _ _ (by rfl) (w.heap.size + 1) (nc) (by rfl) (by rfl) 89 _ (by exact g1) (sizeRnode.trans (by rw [HNS])) (by rw [HNS, ndC_size]) (HNA.out) ?_; simp only [Act.put, List.setIfInBounds_toArray, List.set_cons_zero, List.set_cons_succ])
            | fail)
          try simp only [Exit.inBlock, Exit.then]
          refine bodyPost_ret (results_row2 Try.results41 _ _ (w.heap.size + 1) 89 (nc) (0, 0) _ rfl (g1.set _) Try.underlying89 rfl (sizeRnode.trans (by rw [HNS]))) rfl ?_
          subst hx hy
          exact ⟨rfl, below_setRow hb7 (by omega) _⟩
theorem refRead_any (f : Nat → Nat) (hf : ∀ i, f i < 256) (w : World) : Calls Try.prog 41 #[bkV f] w fun e w' => e = .returned (.tuple #[.agg (if rdOk f then ndC ((f 4 : Nat) : Int) (decK f) else ndC 0 fun _ => rf0), .int .i64 (if rdOk f then 0 else 70)]) ∧ Below w.heap.size w w' := by
  refine refRead_by f hf _ _ ?_ w
  show (_, _) = _
  cases rdOk f
  · rfl
  · rfl
end Go.Proofs.Ytdbcmdafgojnnaa

namespace Go.Proofs.Ytdbcmdafgojnnaa
open Go Go.RowKit
set_option linter.unusedSimpArgs false
set_option linter.unusedVariables false

theorem fold_setO (o : Nat) : ∀ (l : List Value) (k : Nat) (A : Array Value), o + k + l.length ≤ A.size →
    ((l.zipIdx k).foldl (fun cs (x : Value × Nat) => cs.setIfInBounds (o + x.2) x.1) A).size = A.size ∧
    ∀ i, ((l.zipIdx k).foldl (fun cs (x : Value × Nat) => cs.setIfInBounds (o + x.2) x.1) A)[i]? = if o + k ≤ i ∧ i < o + k + l.length then l[i - (o + k)]? else A[i]?
  | [], k, A, h => ⟨rfl, fun i => by simp; omega⟩
  | v :: l, k, A, h => by
    rw [List.zipIdx_cons, List.foldl_cons]
    obtain ⟨h1, h2⟩ := fold_setO o l (k + 1) (A.setIfInBounds (o + k) v) (by simp at h ⊢; omega)
    refine ⟨by rw [h1]; simp, fun i => ?_⟩
    rw [h2 i]
    simp at h
    by_cases hi : i = o + k
    · subst hi
      rw [if_neg (by omega), if_pos (by simp), Array.getElem?_setIfInBounds, if_pos rfl, if_pos (by omega), Nat.sub_self]
      rfl
    · by_cases hj : o + (k + 1) ≤ i ∧ i < o + (k + 1) + l.length
      · rw [if_pos hj, if_pos (by simp; omega)]
        obtain ⟨d, hd⟩ : ∃ d, i - (o + k) = d + 1 := ⟨i - (o + k) - 1, by omega⟩
        rw [hd, List.getElem?_cons_succ, show i - (o + (k + 1)) = d by omega]
      · rw [if_neg hj, if_neg (by simp; omega), Array.getElem?_setIfInBounds, if_neg (by omega)]
theorem fold_setA (o : Nat) (cs A : Array Value) (h : o + cs.size ≤ A.size) :
    (cs.zipIdx.foldl (fun z (x : Value × Nat) => match x with | (c, j) => z.setIfInBounds (o + j) c) A).size = A.size ∧ ∀ i, (cs.zipIdx.foldl (fun z (x : Value × Nat) => match x with | (c, j) => z.setIfInBounds (o + j) c) A)[i]? = if o ≤ i ∧ i < o + cs.size then cs[i - o]? else A[i]? := by
  have e3 : cs.zipIdx.foldl (fun z (x : Value × Nat) => match x with | (c, j) => z.setIfInBounds (o + j) c) A = (cs.toList.zipIdx 0).foldl (fun z (x : Value × Nat) => z.setIfInBounds (o + x.2) x.1) A := by
    rw [← Array.foldl_toList]
    simp
  rw [e3]
  obtain ⟨e1, e2⟩ := fold_setO o cs.toList 0 A (by simpa using h)
  refine ⟨e1, fun i => ?_⟩
  rw [e2 i]
  simp
theorem fill_two (n : Nat) (cells a b : Array Value) (h1 : cells.size = 2 * n) (ha : a.size = n) (hb : b.size = n) : Instr.fill (fun i => some (i * n, n)) cells [(0, .agg a), (1, .agg b)] = some (a ++ b) := by
  have hca : (Value.agg a).cells = a := rfl
  have hcb : (Value.agg b).cells = b := rfl
  obtain ⟨s1, g1⟩ := fold_setA 0 a cells (by omega)
  unfold Instr.fill
  simp only [hca, ha, h1, ne_eq, not_true_eq_false, decide_false, Bool.false_or, Nat.zero_mul, gt_iff_lt, Bool.false_eq_true, if_false]
  rw [if_neg (by simp; omega)]
  generalize a.zipIdx.foldl (fun z (x : Value × Nat) => match x with | (c, j) => z.setIfInBounds (0 + j) c) cells = A1 at *
  unfold Instr.fill
  simp only [hcb, hb, Nat.one_mul]
  rw [if_neg (by simp; omega)]
  unfold Instr.fill
  congr 1
  obtain ⟨s2, g2⟩ := fold_setA n b A1 (by omega)
  apply Array.ext_getElem?
  intro i
  rw [g2 i, g1 i, Array.getElem?_append]
  by_cases hi : n ≤ i ∧ i < n + b.size
  · rw [if_pos hi, if_neg (by omega), ha]
  · rw [if_neg hi]
    by_cases h0 : i < n
    · rw [if_pos (by omega), if_pos (by omega), Nat.sub_zero]
    · rw [if_neg (by omega), if_neg (by omega), Array.getElem?_eq_none (by omega), Array.getElem?_eq_none (by omega)]
/-- a slice of two arrays -/
theorem nd_buildTwo {P : Program} {ops : Array Oper} {rest : List Oper} {o : Oper} {a : Act} {w : World} {Q : Exit → Act → World → Prop} (hg : o.guard = none) (t e : TypeId) (x y : Operand) (ho : o.op = .buildSlice t 2 #[(0, x), (1, y)])
    (cs ds : Array Value) (hx : a.eval x = .agg cs) (hy : a.eval y = .agg ds) (ie : TypeInfo) (z : Value) (n : Nat)
    (hu : P.underlying t = some (.slice e)) (hie : P.info? e = some ie) (hz : ie.zero = some z) (hn : ie.size = n) (hcs : cs.size = n) (hds : ds.size = n) (h0 : 0 < n) (h24 : 2 * n ≤ 16777216)
    (h : wpList P ops Q rest (a.put o.dst (.slice (some ⟨w.heap.size, 0, none⟩) 2 2)) (w.alloc (.cells (cs ++ ds) e))) : wpList P ops Q (o :: rest) a w := by
  refine wpList_buildSlice hg t e 2 _ ho (cs ++ ds) ie z hu hie hz (by rw [hn]; omega) (by rw [hn]; omega) ?_ h
  rw [hn]
  have e1 : (Array.map (fun (x : Nat × Operand) => match x with | (i, x) => (i, a.eval x)) #[(0, x), (1, y)]).toList = [(0, Value.agg cs), (1, Value.agg ds)] := by
    simp [hx, hy]
  rw [e1]
  exact fill_two n _ _ _ (by simp) hcs hds
/-- what Read answers -/
def rdL (f : Nat → Nat) : Int := if rdOk f then ((f 4 : Nat) : Int) else 0
def rdK (f : Nat → Nat) : Nat → Rf := if rdOk f then decK f else fun _ => rf0
theorem rd_cells (f : Nat → Nat) : (if rdOk f then ndC ((f 4 : Nat) : Int) (decK f) else ndC 0 fun _ => rf0) = ndC (rdL f) (rdK f) := by
  unfold rdL rdK
  cases rdOk f
  · rfl
  · rfl
/-- two blocks in a row -/
def twoF (f g : Nat → Nat) (k : Nat) : Nat → Nat := if k = 0 then f else g
theorem two_range (f g : Nat → Nat) {w : World} {b t : Nat} (h : Blk w b t (va 256 (iv .u8 f) ++ va 256 (iv .u8 g))) (k : Nat) (hk : k < 2) : w.rangeAt b (k * 256) ((List.range 256).map (iv .u8 (twoF f g k))) := fun j v hv => by
  have hj : j < 256 := by
    rcases Nat.lt_or_ge j 256 with h1 | h1
    · exact h1
    · rw [List.getElem?_eq_none (by simpa using h1)] at hv
      cases hv
  rw [List.getElem?_map, List.getElem?_range hj] at hv
  simp only [Option.map_some] at hv
  rw [h.cell, Array.getElem?_append, va_size, ← hv]
  have h2 : k = 0 ∨ k = 1 := by omega
  rcases h2 with rfl | rfl
  · rw [if_pos (by omega), show 0 * 256 + j = j by omega, va_at _ hj]
    rfl
  · rw [if_neg (by omega), show 1 * 256 + j - 256 = j by omega, va_at _ hj]
    rfl
/-- a byte that is one more -/
def spoil (f : Nat → Nat) (p : Nat) : Nat → Nat := fun j => if j = p then (f p + 1) % 256 else f j
end Go.Proofs.Ytdbcmdafgojnnaa
