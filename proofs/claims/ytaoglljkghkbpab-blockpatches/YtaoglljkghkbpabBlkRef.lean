/- The document's answers for blocks: Fits, Of, Lay: contracts of the verifier's functions. -/
import Derived.Test.YtaoglljkghkbpabBlkLay
import Derived.Test.YtaoglljkghkbpabBlkOwn
import Derived.Handy
namespace Go.Proofs.Ytaoglljkghkbpab
open Go.RowKit
set_option linter.unusedSimpArgs false
set_option linter.unusedVariables false

set_option maxRecDepth 100000 in
theorem refFits_any (a m : Int) (ha : -9223372036854775808 ≤ a ∧ a ≤ 9223372036854775807) (hm : -9223372036854775808 ≤ m ∧ m ≤ 9223372036854775807) (w : World) :
    Calls Try.prog 16 #[.int .i64 a, .int .i64 m] w fun e w' => e = .returned (.bool (decide (Fit a m))) ∧ w' = w := by
  obtain ⟨a1, a2⟩ := ha
  obtain ⟨m1, m2⟩ := hm
  by_cases h1 : 0 ≤ a
  · by_cases h2 : 0 ≤ m
    · by_cases h4 : a ≤ 256
      · by_cases h3 : m ≤ 256 - a
        · have hd : decide (Fit a m) = true := decide_eq_true ⟨h1, h2, by omega⟩
          rw [hd]
          clear hd
          go_enter Try.func16, Try.ntmps16
          go_wp2_with fail
          go_ret
          exact ⟨rfl, rfl⟩
        · have hd : decide (Fit a m) = false := decide_eq_false fun h => h3 (by have := h.2.2; omega)
          rw [hd]
          clear hd
          go_enter Try.func16, Try.ntmps16
          go_wp2_with fail
          go_ret
          exact ⟨rfl, rfl⟩
      · have hd : decide (Fit a m) = false := decide_eq_false fun h => h4 (by have := h.2.2; omega)
        rw [hd]
        clear hd
        go_enter Try.func16, Try.ntmps16
        go_wp2_with fail
        go_ret
        exact ⟨rfl, rfl⟩
    · have hd : decide (Fit a m) = false := decide_eq_false fun h => h2 h.2.1
      rw [hd]
      clear hd
      go_enter Try.func16, Try.ntmps16
      go_wp2_with fail
      go_ret
      exact ⟨rfl, rfl⟩
  · have hd : decide (Fit a m) = false := decide_eq_false fun h => h1 h.1
    rw [hd]
    clear hd
    go_enter Try.func16, Try.ntmps16
    go_wp2_with fail
    go_ret
    exact ⟨rfl, rfl⟩

theorem putAt_step (f : Nat → Nat) (r k : Nat) (b : Nat → Nat) : va 256 (upd (iv .u8 (putAt f r k b)) (r + k) (.int .u8 ((b k : Nat) : Int))) = va 256 (iv .u8 (putAt f r (k + 1) b)) := va_congr fun i _ => by
  unfold upd iv putAt
  by_cases h : i = r + k
  · rw [if_pos h, if_pos (by omega), show i - r = k from by omega]
  · rw [if_neg h]
    by_cases h2 : r ≤ i ∧ i < r + k
    · rw [if_pos h2, if_pos (by omega)]
    · rw [if_neg h2, if_neg (by omega)]
theorem putAt_zero (f : Nat → Nat) (r : Nat) (b : Nat → Nat) : putAt f r 0 b = f := by
  funext i
  unfold putAt
  rw [if_neg (by omega)]
theorem text_index (s : ByteArray) (k : Nat) (h : k < s.size) : (s[k]'h).toNat = tbyte s k := by
  unfold tbyte
  rw [List.getD_eq_getElem?_getD, List.getElem?_eq_getElem (by simpa using h)]
  rfl

set_option maxRecDepth 100000 in
set_option maxHeartbeats 4000000 in
theorem refLay_fit (f : Nat → Nat) (r : Nat) (s : ByteArray) (h : r + s.size ≤ 256) (w : World) :
    Calls Try.prog 9 #[bkV f, .int .i64 (r : Int), .string s] w fun e w' => e = .returned (.tuple #[bkV (putAt f r s.size (tbyte s)), .int .i64 0]) ∧ Below w.heap.size w w' := by
  have hI : Hid (∀ w : World, Calls Try.prog 16 #[.int .i64 (r : Int), .int .i64 (s.size : Int)] w fun e w' => e = .returned (.bool true) ∧ w' = w) := fun w => by
    have := refFits_any (r : Int) (s.size : Int) (by omega) (by omega) w
    rw [decide_eq_true (show Fit (r : Int) (s.size : Int) from ⟨by omega, by omega, by omega⟩)] at this
    exact this
  have hz := zero_rbk
  obtain ⟨F, hF⟩ : ∃ F, F = putAt f r s.size (tbyte s) := ⟨_, rfl⟩
  rw [← hF]
  have HF : Hid (F = putAt f r s.size (tbyte s)) := hF
  clear hF
  unfold bkV
  go_enter Try.func9, Try.ntmps9
  go_wp2_with fail
  refine (hI.out _).mono ?_
  rintro e w1 ⟨rfl, rfl⟩
  have b0 : Blk ((w.alloc (Obj.cells (va 256 (iv IntKind.u8 f)) 35)).alloc (Obj.cells (va 256 (iv IntKind.u8 fun x => 0)) 35)) w.heap.size 35 (va 256 (iv .u8 f)) := (Blk.new _ _ _).alloc _
  have b1 := Blk.new1 w (Obj.cells (va 256 (iv IntKind.u8 f)) 35) 35 (va 256 (iv IntKind.u8 fun x => 0))
  have hb := below_new2 w (Obj.cells (va 256 (iv IntKind.u8 f)) 35) (Obj.cells (va 256 (iv IntKind.u8 fun x => 0)) 35)
  generalize (w.alloc (Obj.cells (va 256 (iv IntKind.u8 f)) 35)).alloc (Obj.cells (va 256 (iv IntKind.u8 fun x => 0)) 35) = W at *
  clear hI hz
  go_wp2_with fail
  go_loopw [8] (fun i wr => ∃ k : Nat, k ≤ s.size ∧ i = .int .i64 k ∧ Blk wr w.heap.size 35 (va 256 (iv .u8 (putAt f r k (tbyte s)))) ∧ Blk wr (w.heap.size + 1) 35 (va 256 (iv .u8 fun _ => 0)) ∧ Below w.heap.size w wr) (fun i _ => s.size - (intOf i).toNat)
  case atStart =>
    refine ⟨0, by omega, rfl, ?_, b1, hb⟩
    rw [putAt_zero]
    exact b0
  case round =>
    clear b0 b1 hb
    obtain ⟨k, hk, rfl, b0, b1, hb⟩ := hrel
    by_cases hlt : k < s.size
    · obtain ⟨q, hq⟩ : ∃ q : Nat, q = r + k := ⟨_, rfl⟩
      have e1 : (r : Int) + (k : Int) = (q : Int) := by omega
      have q0 : (0 : Int) ≤ (q : Int) := by omega
      have q1 : (q : Int) < 256 := by omega
      have k0 : (0 : Int) ≤ (k : Int) := by omega
      have k1 : (k : Int) < (s.size : Int) := by omega
      have hx := text_index s k hlt
      have c0 := b0.cv (i := q) (by omega)
      have f0 := b0.frozen q
      have p1 := b0.put q (.int .u8 ((tbyte s k : Nat) : Int))
      have hq2 := putAt_step f r k (tbyte s)
      rw [va_set, hq, hq2] at p1
      have HP : Hid (Blk (wr.setCell ⟨w.heap.size, q, none⟩ (.int .u8 ((tbyte s k : Nat) : Int))) w.heap.size 35 (va 256 (iv .u8 (putAt f r (k + 1) (tbyte s))))) := by rw [hq]; exact p1
      have HB1 : Hid (Blk (wr.setCell ⟨w.heap.size, q, none⟩ (.int .u8 ((tbyte s k : Nat) : Int))) (w.heap.size + 1) 35 (va 256 (iv .u8 fun _ => 0))) := b1.put_other q _ (by omega)
      have HBb : Hid (Below w.heap.size w (wr.setCell ⟨w.heap.size, q, none⟩ (.int .u8 ((tbyte s k : Nat) : Int)))) := hb.setCell (Nat.le_refl _) _
      have HK : Hid (r + s.size ≤ 256) := h
      clear hq p1 hq2 h b0 b1 hb
      go_wp2_with fail
      refine ⟨⟨k + 1, by omega, by simp, HP.out, HB1.out, HBb.out⟩, ?_⟩
      simp [intOf]
      omega
    · obtain rfl : k = s.size := by omega
      rw [← HF.out] at b0
      clear HF
      go_wp2_with (first
        | (refine wpList_load_row (by rfl) 35 _ (by rfl) (w.heap.size) (by rfl) 35 (va 256 (iv .u8 F)) (0, 0) _ b0 Try.underlying35 (by rfl) (sizeRbk.trans (by rw [va_size])) ?_; simp only [Act.put, List.setIfInBounds_toArray, List.set_cons_zero, List.set_cons_succ])
        | (refine wpList_store_row (by rfl) 35 _ _ (by rfl) (w.heap.size + 1) (va 256 (iv .u8 F)) (by rfl) (by rfl) 35 _ b1 (sizeRbk.trans (by rw [va_size])) (by simp only [va_size]) (iv_one _ _ _) ?_; simp only [Act.put, List.setIfInBounds_toArray, List.set_cons_zero, List.set_cons_succ])
        | fail)
      try simp only [Exit.inBlock, Exit.then]
      refine bodyPost_ret (results_row2 Try.results9 _ _ (w.heap.size + 1) 35 (va 256 (iv .u8 F)) (0, 0) _ rfl (b1.set _) Try.underlying35 rfl (sizeRbk.trans (by rw [va_size]))) rfl ?_
      exact ⟨rfl, below_setRow hb (by omega) _⟩

set_option maxRecDepth 100000 in
set_option maxHeartbeats 4000000 in
theorem refLay_bad (f : Nat → Nat) (a : Int) (ha : -9223372036854775808 ≤ a ∧ a ≤ 9223372036854775807) (s : ByteArray) (hz : s.size ≤ 9223372036854775807) (h : ¬ Fit a (s.size : Int)) (w : World) :
    Calls Try.prog 9 #[bkV f, .int .i64 a, .string s] w fun e w' => e = .returned (.tuple #[bkV fun _ => 0, .int .i64 40]) ∧ Below w.heap.size w w' := by
  have hI : Hid (∀ w : World, Calls Try.prog 16 #[.int .i64 a, .int .i64 (s.size : Int)] w fun e w' => e = .returned (.bool false) ∧ w' = w) := fun w => by
    have := refFits_any a (s.size : Int) ha (by omega) w
    rw [decide_eq_false h] at this
    exact this
  have hz := zero_rbk
  unfold bkV
  go_enter Try.func9, Try.ntmps9
  go_wp2_with fail
  refine (hI.out _).mono ?_
  rintro e w1 ⟨rfl, rfl⟩
  have b1 := Blk.new1 w (Obj.cells (va 256 (iv IntKind.u8 f)) 35) 35 (va 256 (iv IntKind.u8 fun x => 0))
  have hb := below_new2 w (Obj.cells (va 256 (iv IntKind.u8 f)) 35) (Obj.cells (va 256 (iv IntKind.u8 fun x => 0)) 35)
  generalize (w.alloc (Obj.cells (va 256 (iv IntKind.u8 f)) 35)).alloc (Obj.cells (va 256 (iv IntKind.u8 fun x => 0)) 35) = W at *
  clear hI
  go_wp2_with (first
    | (refine wpList_store_row (by rfl) 35 _ _ (by rfl) (w.heap.size + 1) (va 256 (iv .u8 fun _ => 0)) (by rfl) (by rfl) 35 _ b1 (sizeRbk.trans (by rw [va_size])) (by simp only [va_size]) (iv_one _ _ _) ?_; simp only [Act.put, List.setIfInBounds_toArray, List.set_cons_zero, List.set_cons_succ])
    | fail)
  try simp only [Exit.inBlock, Exit.then]
  refine bodyPost_ret (results_row2 Try.results9 _ _ (w.heap.size + 1) 35 (va 256 (iv .u8 fun _ => 0)) (0, 0) _ rfl (b1.set _) Try.underlying35 rfl (sizeRbk.trans (by rw [va_size]))) rfl ?_
  exact ⟨rfl, below_setRow hb (by omega) _⟩
end Go.Proofs.Ytaoglljkghkbpab
