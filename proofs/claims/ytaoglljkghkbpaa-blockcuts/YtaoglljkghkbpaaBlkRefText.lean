/- The document's answers for blocks: Of, Text, Take: contracts of the verifier's functions. -/
import Derived.Test.YtaoglljkghkbpaaBlkRef
import Derived.OwnWalk
import Derived.Maps.AppendAt
import Derived.Handy
namespace Go.Proofs.Ytaoglljkghkbpaa
open Go.RowKit
set_option linter.unusedSimpArgs false
set_option linter.unusedVariables false

theorem fup_text (s : ByteArray) : va 256 (iv .u8 (putAt (fun _ => 0) 0 s.size (tbyte s))) = va 256 (iv .u8 (tbyte s)) := va_congr fun i hi => by
  unfold iv putAt
  by_cases h : i < s.size
  · rw [if_pos (by omega), Nat.sub_zero]
  · rw [if_neg (by omega), tbyte_out s i (by omega)]

set_option maxRecDepth 100000 in
set_option maxHeartbeats 4000000 in
theorem refBlockOf_fit (s : ByteArray) (h : s.size ≤ 256) (w : World) :
    Calls Try.prog 11 #[.string s] w fun e w' => e = .returned (.tuple #[bkV (tbyte s), .int .i64 0]) ∧ Below w.heap.size w w' := by
  have hz := zero_rbk
  have HF : Hid (va 256 (iv .u8 (putAt (fun _ => 0) 0 s.size (tbyte s))) = va 256 (iv .u8 (tbyte s))) := fup_text s
  have b0 : Blk ((w.alloc (Obj.cells (va 256 (iv IntKind.u8 fun x => 0)) 28)).alloc (Obj.cells (va 256 (iv IntKind.u8 fun x => 0)) 28)) w.heap.size 28 (va 256 (iv .u8 fun _ => 0)) := (Blk.new _ _ _).alloc _
  have b1 := Blk.new1 w (Obj.cells (va 256 (iv IntKind.u8 fun x => 0)) 28) 28 (va 256 (iv IntKind.u8 fun x => 0))
  have hb := below_new2 w (Obj.cells (va 256 (iv IntKind.u8 fun x => 0)) 28) (Obj.cells (va 256 (iv IntKind.u8 fun x => 0)) 28)
  have t1 : ¬ ((256 : Int) < (s.size : Int)) := by omega
  unfold bkV
  go_enter Try.func11, Try.ntmps11
  go_wp2_with (first
    | (refine wpList_store_row (by rfl) 28 _ _ (by rfl) (w.heap.size + 1) (va 256 (iv .u8 fun _ => 0)) (by rfl) (by rfl) 28 _ b1 (sizeRbk.trans (by rw [va_size])) (by simp only [va_size]) (iv_one _ _ _) ?_; simp only [Act.put, List.setIfInBounds_toArray, List.set_cons_zero, List.set_cons_succ])
    | fail)
  have b2 := b1.set (va 256 (iv .u8 fun _ => 0))
  have b3 := b0.other (g := w.heap.size + 1) (va 256 (iv .u8 fun _ => 0)) (by omega)
  have hb2 := below_setRow hb (Nat.le_succ _) (va 256 (iv .u8 fun _ => 0))
  clear b0 b1 hb
  generalize ((w.alloc (Obj.cells (va 256 (iv IntKind.u8 fun x => 0)) 28)).alloc (Obj.cells (va 256 (iv IntKind.u8 fun x => 0)) 28)).setRow (w.heap.size + 1) (va 256 (iv .u8 fun _ => 0)) = W at *
  clear hz
  go_loopw [5] (fun i wr => ∃ k : Nat, k ≤ s.size ∧ i = .int .i64 k ∧ Blk wr (w.heap.size + 1) 28 (va 256 (iv .u8 (putAt (fun _ => 0) 0 k (tbyte s)))) ∧ Blk wr w.heap.size 28 (va 256 (iv .u8 fun _ => 0)) ∧ Below w.heap.size w wr) (fun i _ => s.size - (intOf i).toNat)
  case atStart =>
    refine ⟨0, by omega, rfl, ?_, b3, hb2⟩
    rw [putAt_zero]
    exact b2
  case round =>
    clear b2 b3 hb2
    obtain ⟨k, hk, rfl, b0, b1, hb⟩ := hrel
    by_cases hlt : k < s.size
    · have q1 : (k : Int) < 256 := by omega
      have k0 : (0 : Int) ≤ (k : Int) := by omega
      have k1 : (k : Int) < (s.size : Int) := by omega
      have hx := text_index s k hlt
      have c0 := b0.cv (i := k) (by omega)
      have f0 := b0.frozen k
      have p1 := b0.put k (.int .u8 ((tbyte s k : Nat) : Int))
      have hq2 := putAt_step (fun _ => 0) 0 k (tbyte s)
      rw [Nat.zero_add] at hq2
      rw [va_set, hq2] at p1
      have HP : Hid (Blk (wr.setCell ⟨w.heap.size + 1, k, none⟩ (.int .u8 ((tbyte s k : Nat) : Int))) (w.heap.size + 1) 28 (va 256 (iv .u8 (putAt (fun _ => 0) 0 (k + 1) (tbyte s))))) := p1
      have HB1 : Hid (Blk (wr.setCell ⟨w.heap.size + 1, k, none⟩ (.int .u8 ((tbyte s k : Nat) : Int))) w.heap.size 28 (va 256 (iv .u8 fun _ => 0))) := b1.put_other k _ (by omega)
      have HBb : Hid (Below w.heap.size w (wr.setCell ⟨w.heap.size + 1, k, none⟩ (.int .u8 ((tbyte s k : Nat) : Int)))) := hb.setCell (Nat.le_succ _) _
      clear p1 hq2 b0 b1 hb
      go_wp2_with fail
      refine ⟨⟨k + 1, by omega, by simp, HP.out, HB1.out, HBb.out⟩, ?_⟩
      simp [intOf]
      omega
    · obtain rfl : k = s.size := by omega
      rw [HF.out] at b0
      clear HF
      go_wp2_with (first
        | (refine wpList_load_row (by rfl) 28 _ (by rfl) (w.heap.size + 1) (by rfl) 28 (va 256 (iv .u8 (tbyte s))) (0, 0) _ b0 Try.underlying28 (by rfl) (sizeRbk.trans (by rw [va_size])) ?_; simp only [Act.put, List.setIfInBounds_toArray, List.set_cons_zero, List.set_cons_succ])
        | (refine wpList_store_row (by rfl) 28 _ _ (by rfl) (w.heap.size) (va 256 (iv .u8 (tbyte s))) (by rfl) (by rfl) 28 _ b1 (sizeRbk.trans (by rw [va_size])) (by simp only [va_size]) (iv_one _ _ _) ?_; simp only [Act.put, List.setIfInBounds_toArray, List.set_cons_zero, List.set_cons_succ])
        | fail)
      try simp only [Exit.inBlock, Exit.then]
      refine bodyPost_ret (results_row2 Try.results11 _ _ (w.heap.size) 28 (va 256 (iv .u8 (tbyte s))) (0, 0) _ rfl (b1.set _) Try.underlying28 rfl (sizeRbk.trans (by rw [va_size]))) rfl ?_
      exact ⟨rfl, below_setRow hb (by omega) _⟩

set_option maxRecDepth 100000 in
set_option maxHeartbeats 4000000 in
theorem refBlockOf_bad (s : ByteArray) (h : 256 < s.size) (w : World) :
    Calls Try.prog 11 #[.string s] w fun e w' => e = .returned (.tuple #[bkV fun _ => 0, .int .i64 40]) ∧ Below w.heap.size w w' := by
  have hz := zero_rbk
  have b0 : Blk ((w.alloc (Obj.cells (va 256 (iv IntKind.u8 fun x => 0)) 28)).alloc (Obj.cells (va 256 (iv IntKind.u8 fun x => 0)) 28)) w.heap.size 28 (va 256 (iv .u8 fun _ => 0)) := (Blk.new _ _ _).alloc _
  have b1 := Blk.new1 w (Obj.cells (va 256 (iv IntKind.u8 fun x => 0)) 28) 28 (va 256 (iv IntKind.u8 fun x => 0))
  have hb := below_new2 w (Obj.cells (va 256 (iv IntKind.u8 fun x => 0)) 28) (Obj.cells (va 256 (iv IntKind.u8 fun x => 0)) 28)
  have b2 := b1.set (va 256 (iv .u8 fun _ => 0))
  have b3 := b0.other (g := w.heap.size + 1) (va 256 (iv .u8 fun _ => 0)) (by omega)
  have hb2 := below_setRow hb (Nat.le_succ _) (va 256 (iv .u8 fun _ => 0))
  have t1 : (256 : Int) < (s.size : Int) := by omega
  unfold bkV
  go_enter Try.func11, Try.ntmps11
  go_wp2_with (first
    | (refine wpList_store_row (by rfl) 28 _ _ (by rfl) (w.heap.size + 1) (va 256 (iv .u8 fun _ => 0)) (by rfl) (by rfl) 28 _ b1 (sizeRbk.trans (by rw [va_size])) (by simp only [va_size]) (iv_one _ _ _) ?_; simp only [Act.put, List.setIfInBounds_toArray, List.set_cons_zero, List.set_cons_succ])
    | (refine wpList_load_row (by rfl) 28 _ (by rfl) (w.heap.size + 1) (by rfl) 28 (va 256 (iv .u8 fun _ => 0)) (0, 0) _ b2 Try.underlying28 (by rfl) (sizeRbk.trans (by rw [va_size])) ?_; simp only [Act.put, List.setIfInBounds_toArray, List.set_cons_zero, List.set_cons_succ])
    | (refine wpList_store_row (by rfl) 28 _ _ (by rfl) (w.heap.size) (va 256 (iv .u8 fun _ => 0)) (by rfl) (by rfl) 28 _ b3 (sizeRbk.trans (by rw [va_size])) (by simp only [va_size]) (iv_one _ _ _) ?_; simp only [Act.put, List.setIfInBounds_toArray, List.set_cons_zero, List.set_cons_succ])
    | fail)
  try simp only [Exit.inBlock, Exit.then]
  refine bodyPost_ret (results_row2 Try.results11 _ _ (w.heap.size) 28 (va 256 (iv .u8 fun _ => 0)) (0, 0) _ rfl (b3.set _) Try.underlying28 rfl (sizeRbk.trans (by rw [va_size]))) rfl ?_
  exact ⟨rfl, below_setRow hb2 (Nat.le_refl _) _⟩

set_option maxRecDepth 100000 in
set_option maxHeartbeats 4000000 in
theorem refText_any (f : Nat → Nat) (w : World) :
    Calls Try.prog 13 #[bkV f] w fun e w' => e = .returned (.string (strN f 256)) ∧ Below w.heap.size w w' := by
  obtain ⟨i0, hi, hz0, hz1, hz2⟩ := info_parts infoU8k
  have b0 : Blk ((w.alloc (Obj.cells (va 256 (iv IntKind.u8 f)) 28)).alloc (Obj.cells #[] 5)) w.heap.size 28 (va 256 (iv .u8 f)) := (Blk.new _ _ _).alloc _
  have b1 := Blk.new1 w (Obj.cells (va 256 (iv IntKind.u8 f)) 28) 5 #[]
  have hb := below_new2 w (Obj.cells (va 256 (iv IntKind.u8 f)) 28) (Obj.cells #[] 5)
  unfold bkV
  go_enter Try.func13, Try.ntmps13
  go_wp2_with fail
  generalize (w.alloc (Obj.cells (va 256 (iv IntKind.u8 f)) 28)).alloc (Obj.cells #[] 5) = W at *
  go_loopw [3, 4] (fun v i wr => ∃ k g cap : Nat, k ≤ 256 ∧ i = .int .i64 k ∧ v = .slice (some ⟨g, 0, none⟩) k cap ∧ wr.ownsRow (w.heap.size + 1) 5 1 v k (byL f k) ∧ Blk wr w.heap.size 28 (va 256 (iv .u8 f)) ∧ Below w.heap.size w wr ∧ w.heap.size + 1 ≤ wr.heap.size) (fun _ i _ => 256 - (intOf i).toNat)
  case atStart => exact ⟨0, w.heap.size + 1, 0, by omega, rfl, rfl, kown_empty b1 (Nat.le_refl _), b0, hb, by have := b1.lt; omega⟩
  case round =>
    clear b0 b1 hb
    obtain ⟨k, g, cap, hk, rfl, rfl, hown, b0, hb, hsz⟩ := hrel
    have hv := hown.lt
    by_cases hlt : k < 256
    · have k0 : (0 : Int) ≤ (k : Int) := by omega
      have k1 : (k : Int) < 256 := by omega
      have c0 := b0.cv (i := k) (by omega)
      unfold iv at c0
      have HZ : Hid (byL f (k + 1) = byL f k ++ [Value.int .u8 ((f k : Nat) : Int)]) := byL_succ f k
      generalize byL f k = L at *
      go_wp2_with (first
        | (at_builtin; refine wpList_append_own _ rfl _ _ 78 rfl (w.heap.size + 1) 5 i0 (.int .u8 0) 1 1 Try.underlying78 hi hz0 hz1 hz2 rfl (by decide) _ _ _ rfl (hown.alloc _) ⟨wr.heap.size, 0, none⟩ 1 1 [.int .u8 ((f k : Nat) : Int)] rfl rfl (cell_one_new _ _ _) (fun x hx => by simp at hx; subst hx; rfl) (by unfold maxLen; omega) (by omega) (by simp; omega) ?_)
        | go_in)
      intro v' w2 hown' hgrow _
      have hb2 : Below (w.heap.size + 1) wr w2 := ((Below.refl _ _).alloc hsz _).grown hgrow (by simp; omega) (fun k hk => (hv k hk).1)
      rw [← HZ.out] at hown'
      obtain ⟨g3, cap3, rfl, hg3, hg3'⟩ := kown_form hown' (Nat.succ_pos k)
      have b0' := b0.below hb2 (Nat.lt_succ_self _)
      have hb3 : Below w.heap.size w w2 := hb.trans (hb2.mono (Nat.le_succ _))
      have hsz3 : w.heap.size + 1 ≤ w2.heap.size := by omega
      clear hown hv hgrow hb hb2 b0 c0
      go_wp2_with fail
      go_roundw
      case rel => exact ⟨k + 1, g3, cap3, by omega, by simp, rfl, hown', b0', hb3, hsz3⟩
      case measure => simp [intOf]; omega
    · obtain rfl : k = 256 := by omega
      have hc := run_own_text (P := Try.prog) wr 78 5 9 Try.underlying78 Try.underlying5 Try.underlying9 hown
      go_wp2_with fail
      go_ret
      exact ⟨rfl, hb⟩

theorem strN_mod (f : Nat → Nat) (n j : Nat) (hj : j < n) : tbyte (strN f n) j = f j % 256 := by
  unfold tbyte strN
  rw [strOfNums_data, List.getD_eq_getElem?_getD]
  simp [hj]
theorem strN_extract (f : Nat → Nat) (N r q : Nat) (hq : q ≤ N) : (strN f N).extract r q = strN (fun j => f (r + j)) (q - r) := by
  have h1 : q ≤ (strN f N).size := by rw [strN_size]; exact hq
  refine text_ext (by rw [extract_size _ _ _ h1, strN_size]) fun j hj => ?_
  rw [extract_size _ _ _ h1] at hj
  rw [tbyte_extract _ _ _ _ h1 (by omega), strN_mod _ _ _ (by omega), strN_mod _ _ _ (by omega)]

set_option maxRecDepth 100000 in
set_option maxHeartbeats 4000000 in
theorem refTake_fit (f : Nat → Nat) (r n : Nat) (h : r + n ≤ 256) (w : World) :
    Calls Try.prog 18 #[bkV f, .int .i64 (r : Int), .int .i64 (n : Int)] w fun e w' => e = .returned (.tuple #[.string (strN (fun j => f (r + j)) n), .int .i64 0]) ∧ Below w.heap.size w w' := by
  have hI : Hid (∀ w : World, Calls Try.prog 38 #[.int .i64 (r : Int), .int .i64 (n : Int)] w fun e w' => e = .returned (.bool true) ∧ w' = w) := fun w => by
    have := refFits_any (r : Int) (n : Int) (by omega) (by omega) w
    rw [decide_eq_true (show Fit (r : Int) (n : Int) from ⟨by omega, by omega, by omega⟩)] at this
    exact this
  have hT : Hid (∀ w : World, Calls Try.prog 13 #[bkV f] w fun e w' => e = .returned (.string (strN f 256)) ∧ Below w.heap.size w w') := fun w => refText_any f w
  have hx : (strN f 256).extract r (r + n) = strN (fun j => f (r + j)) n := by
    rw [strN_extract f 256 r (r + n) h, show r + n - r = n from by omega]
  unfold bkV at *
  have b0 := Blk.new w 28 (va 256 (iv .u8 f))
  have hb := below_new1 w (Obj.cells (va 256 (iv IntKind.u8 f)) 28)
  have hsz := strN_size f 256
  go_enter Try.func18, Try.ntmps18
  go_wp2_with fail
  refine (hI.out _).mono ?_
  rintro e w1 ⟨rfl, rfl⟩
  generalize w.alloc (Obj.cells (va 256 (iv IntKind.u8 f)) 28) = W at *
  clear hI
  obtain ⟨q, hq⟩ : ∃ q : Nat, q = r + n := ⟨_, rfl⟩
  rw [← hq] at hx
  have r0 : (0 : Int) ≤ (r : Int) := by omega
  have r1 : (r : Int) ≤ 256 := by omega
  have r2 : (q : Int) ≤ 256 := by omega
  have r3 : (r : Int) ≤ (q : Int) := by omega
  have e1 : (r : Int) + (n : Int) = (q : Int) := by omega
  clear hq
  go_wp2_with (first
    | (refine wpList_load_row (by rfl) 28 _ (by rfl) (w.heap.size) (by rfl) 28 (va 256 (iv .u8 f)) (0, 0) _ b0 Try.underlying28 (by rfl) (sizeRbk.trans (by rw [va_size])) ?_; simp only [Act.put, List.setIfInBounds_toArray, List.set_cons_zero, List.set_cons_succ])
    | fail)
  refine (hT.out _).mono ?_
  rintro e w2 ⟨rfl, hb2⟩
  have hb3 : Below w.heap.size w w2 := hb.trans (hb2.mono hb.size)
  clear hT hb hb2 b0
  generalize strN f 256 = S at *
  go_wp2_with fail
  try simp only [Exit.inBlock, Exit.then]
  refine bodyPost_ret (results_tmp2 Try.results18 _ _ _) rfl ?_
  exact ⟨rfl, hb3⟩

set_option maxRecDepth 100000 in
set_option maxHeartbeats 4000000 in
theorem refTake_bad (f : Nat → Nat) (a n : Int) (ha : -9223372036854775808 ≤ a ∧ a ≤ 9223372036854775807) (hn : -9223372036854775808 ≤ n ∧ n ≤ 9223372036854775807) (h : ¬ Fit a n) (w : World) :
    Calls Try.prog 18 #[bkV f, .int .i64 a, .int .i64 n] w fun e w' => e = .returned (.tuple #[.string (strN (fun _ => 0) 0), .int .i64 40]) ∧ Below w.heap.size w w' := by
  have hI : Hid (∀ w : World, Calls Try.prog 38 #[.int .i64 a, .int .i64 n] w fun e w' => e = .returned (.bool false) ∧ w' = w) := fun w => by
    have := refFits_any a n ha hn w
    rw [decide_eq_false h] at this
    exact this
  unfold bkV
  go_enter Try.func18, Try.ntmps18
  go_wp2_with fail
  refine (hI.out _).mono ?_
  rintro e w1 ⟨rfl, rfl⟩
  have hb := below_new1 w (Obj.cells (va 256 (iv IntKind.u8 f)) 28)
  generalize w.alloc (Obj.cells (va 256 (iv IntKind.u8 f)) 28) = W at *
  clear hI
  go_wp2_with fail
  try simp only [Exit.inBlock, Exit.then]
  refine bodyPost_ret (results_tmp2 Try.results18 _ _ _) rfl ?_
  exact ⟨rfl, hb⟩
end Go.Proofs.Ytaoglljkghkbpaa
