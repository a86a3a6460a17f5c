/- Bytes laid into a block: the program's contracts of inside and Lay. -/
import Derived.Test.YtaoglljkghkbpaaBlkKit
import Derived.Handy
namespace Go.Proofs.Ytaoglljkghkbpaa
open Go.RowKit
set_option linter.unusedSimpArgs false
set_option linter.unusedVariables false

def Fit (a m : Int) : Prop := 0 ≤ a ∧ 0 ≤ m ∧ a ≤ 256 - m
instance (a m : Int) : Decidable (Fit a m) := by unfold Fit; infer_instance

set_option maxRecDepth 100000 in
theorem inside_any (a m : Int) (ha : -9223372036854775808 ≤ a ∧ a ≤ 9223372036854775807) (hm : -9223372036854775808 ≤ m ∧ m ≤ 9223372036854775807) (w : World) :
    Calls Try.prog 37 #[.int .i64 a, .int .i64 m] w fun e w' => e = .returned (.bool (decide (Fit a m))) ∧ w' = w := by
  obtain ⟨a1, a2⟩ := ha
  obtain ⟨m1, m2⟩ := hm
  by_cases h1 : 0 ≤ a
  · by_cases h2 : 0 ≤ m
    · by_cases h3 : a ≤ 256 - m
      · have hd : decide (Fit a m) = true := decide_eq_true ⟨h1, h2, h3⟩
        rw [hd]
        clear hd
        go_enter Try.func37, Try.ntmps37
        go_wp2_with fail
        go_ret
        exact ⟨rfl, rfl⟩
      · have hd : decide (Fit a m) = false := decide_eq_false fun h => h3 h.2.2
        rw [hd]
        clear hd
        go_enter Try.func37, Try.ntmps37
        go_wp2_with fail
        go_ret
        exact ⟨rfl, rfl⟩
    · have hd : decide (Fit a m) = false := decide_eq_false fun h => h2 h.2.1
      rw [hd]
      clear hd
      go_enter Try.func37, Try.ntmps37
      go_wp2_with fail
      go_ret
      exact ⟨rfl, rfl⟩
  · have hd : decide (Fit a m) = false := decide_eq_false fun h => h1 h.1
    rw [hd]
    clear hd
    go_enter Try.func37, Try.ntmps37
    go_wp2_with fail
    go_ret
    exact ⟨rfl, rfl⟩

set_option maxRecDepth 100000 in
set_option maxHeartbeats 4000000 in
theorem lay_fit (f : Nat → Nat) (r : Nat) (s : ByteArray) (h : r + s.size ≤ 256) (w : World) :
    Calls Try.prog 15 #[bkV f, .int .i64 (r : Int), .string s] w fun e w' => e = .returned (.tuple #[bkV (putAt f r s.size (tbyte s)), .int .i64 0]) ∧ Below w.heap.size w w' := by
  have hI : Hid (∀ w : World, Calls Try.prog 37 #[.int .i64 (r : Int), .int .i64 (s.size : Int)] w fun e w' => e = .returned (.bool true) ∧ w' = w) := fun w => by
    have := inside_any (r : Int) (s.size : Int) (by omega) (by omega) w
    rw [decide_eq_true (show Fit (r : Int) (s.size : Int) from ⟨by omega, by omega, by omega⟩)] at this
    exact this
  have hz := zero_bk
  obtain ⟨F, hF⟩ : ∃ F, F = putAt f r s.size (tbyte s) := ⟨_, rfl⟩
  rw [← hF]
  unfold bkV
  go_enter Try.func15, Try.ntmps15
  go_wp2_with fail
  refine (hI.out _).mono ?_
  rintro e w1 ⟨rfl, rfl⟩
  have b0 : Blk ((w.alloc (Obj.cells (va 256 (iv IntKind.u8 f)) 23)).alloc (Obj.cells (va 256 (iv IntKind.u8 fun x => 0)) 23)) w.heap.size 23 (va 256 (iv .u8 f)) := (Blk.new _ _ _).alloc _
  have b1 := Blk.new1 w (Obj.cells (va 256 (iv IntKind.u8 f)) 23) 23 (va 256 (iv IntKind.u8 fun x => 0))
  have hb := below_new2 w (Obj.cells (va 256 (iv IntKind.u8 f)) 23) (Obj.cells (va 256 (iv IntKind.u8 fun x => 0)) 23)
  generalize (w.alloc (Obj.cells (va 256 (iv IntKind.u8 f)) 23)).alloc (Obj.cells (va 256 (iv IntKind.u8 fun x => 0)) 23) = W at *
  clear hI hz
  have r0 : (0 : Int) ≤ (r : Int) := by omega
  have r1 : (r : Int) ≤ 256 := by omega
  by_cases hr : 256 = r
  · obtain rfl : r = 256 := hr.symm
    have hs0 : s.size = 0 := by omega
    have hc := run_copy_text (P := Try.prog) W 78 9 3 5 w.heap.size 0 0 0 s _ 23 0 Try.underlying78 ksizeU8 b0 (by show _ = min _ _; omega) (by rw [va_size]; decide)
    rw [splice_put 256 0 0 f (tbyte s) (by decide)] at hc
    have e0 : va 256 (iv .u8 (putAt f 0 0 (tbyte s))) = va 256 (iv .u8 (putAt f 256 s.size (tbyte s))) := va_congr fun i hi => by
      unfold iv putAt
      rw [if_neg (by omega), if_neg (by omega)]
    rw [e0] at hc
    have b2 := b0.set (va 256 (iv .u8 (putAt f 256 s.size (tbyte s))))
    have b3 := b1.other (g := w.heap.size) (va 256 (iv .u8 (putAt f 256 s.size (tbyte s)))) (by omega)
    have hb2 := below_setRow hb (Nat.le_refl _) (va 256 (iv .u8 (putAt f 256 s.size (tbyte s))))
    generalize W.setRow w.heap.size (va 256 (iv .u8 (putAt f 256 s.size (tbyte s)))) = W2 at *
    rw [← hF] at b2
    clear hF
    clear e0 b0 b1 hb
    go_wp2_with (first
      | (refine wpList_load_row (by rfl) 23 _ (by rfl) (w.heap.size) (by rfl) 23 (va 256 (iv .u8 F)) (0, 0) _ b2 Try.underlying23 (by rfl) (sizeBk.trans (by rw [va_size])) ?_; simp only [Act.put, List.setIfInBounds_toArray, List.set_cons_zero, List.set_cons_succ])
      | (refine wpList_store_row (by rfl) 23 _ _ (by rfl) (w.heap.size + 1) (va 256 (iv .u8 F)) (by rfl) (by rfl) 23 _ b3 (sizeBk.trans (by rw [va_size])) (by simp only [va_size]) (iv_one _ _ _) ?_; simp only [Act.put, List.setIfInBounds_toArray, List.set_cons_zero, List.set_cons_succ])
      | fail)
    try simp only [Exit.inBlock, Exit.then]
    refine bodyPost_ret (results_row2 Try.results15 _ _ (w.heap.size + 1) 23 (va 256 (iv .u8 F)) (0, 0) _ rfl (b3.set _) Try.underlying23 rfl (sizeBk.trans (by rw [va_size]))) rfl ?_
    exact ⟨rfl, below_setRow hb2 (by omega) _⟩
  · have hc := run_copy_text (P := Try.prog) W 78 9 3 5 w.heap.size r (256 - r) (256 - r) s _ 23 s.size Try.underlying78 ksizeU8 b0 (by show _ = min _ _; omega) (by rw [va_size]; exact h)
    rw [splice_put 256 r s.size f (tbyte s) h] at hc
    have b2 := b0.set (va 256 (iv .u8 (putAt f r s.size (tbyte s))))
    have b3 := b1.other (g := w.heap.size) (va 256 (iv .u8 (putAt f r s.size (tbyte s)))) (by omega)
    have hb2 := below_setRow hb (Nat.le_refl _) (va 256 (iv .u8 (putAt f r s.size (tbyte s))))
    generalize W.setRow w.heap.size (va 256 (iv .u8 (putAt f r s.size (tbyte s)))) = W2 at *
    rw [← hF] at b2
    clear hF
    clear b0 b1 hb
    go_wp2_with (first
      | (refine wpList_load_row (by rfl) 23 _ (by rfl) (w.heap.size) (by rfl) 23 (va 256 (iv .u8 F)) (0, 0) _ b2 Try.underlying23 (by rfl) (sizeBk.trans (by rw [va_size])) ?_; simp only [Act.put, List.setIfInBounds_toArray, List.set_cons_zero, List.set_cons_succ])
      | (refine wpList_store_row (by rfl) 23 _ _ (by rfl) (w.heap.size + 1) (va 256 (iv .u8 F)) (by rfl) (by rfl) 23 _ b3 (sizeBk.trans (by rw [va_size])) (by simp only [va_size]) (iv_one _ _ _) ?_; simp only [Act.put, List.setIfInBounds_toArray, List.set_cons_zero, List.set_cons_succ])
      | fail)
    try simp only [Exit.inBlock, Exit.then]
    refine bodyPost_ret (results_row2 Try.results15 _ _ (w.heap.size + 1) 23 (va 256 (iv .u8 F)) (0, 0) _ rfl (b3.set _) Try.underlying23 rfl (sizeBk.trans (by rw [va_size]))) rfl ?_
    exact ⟨rfl, below_setRow hb2 (by omega) _⟩

set_option maxRecDepth 100000 in
set_option maxHeartbeats 4000000 in
theorem lay_bad (f : Nat → Nat) (a : Int) (ha : -9223372036854775808 ≤ a ∧ a ≤ 9223372036854775807) (s : ByteArray) (hz : s.size ≤ 9223372036854775807) (h : ¬ Fit a (s.size : Int)) (w : World) :
    Calls Try.prog 15 #[bkV f, .int .i64 a, .string s] w fun e w' => e = .returned (.tuple #[bkV fun _ => 0, .int .i64 40]) ∧ Below w.heap.size w w' := by
  have hI : Hid (∀ w : World, Calls Try.prog 37 #[.int .i64 a, .int .i64 (s.size : Int)] w fun e w' => e = .returned (.bool false) ∧ w' = w) := fun w => by
    have := inside_any a (s.size : Int) ha (by omega) w
    rw [decide_eq_false h] at this
    exact this
  have hz := zero_bk
  unfold bkV
  go_enter Try.func15, Try.ntmps15
  go_wp2_with fail
  refine (hI.out _).mono ?_
  rintro e w1 ⟨rfl, rfl⟩
  have b1 := Blk.new1 w (Obj.cells (va 256 (iv IntKind.u8 f)) 23) 23 (va 256 (iv IntKind.u8 fun x => 0))
  have hb := below_new2 w (Obj.cells (va 256 (iv IntKind.u8 f)) 23) (Obj.cells (va 256 (iv IntKind.u8 fun x => 0)) 23)
  generalize (w.alloc (Obj.cells (va 256 (iv IntKind.u8 f)) 23)).alloc (Obj.cells (va 256 (iv IntKind.u8 fun x => 0)) 23) = W at *
  clear hI
  go_wp2_with (first
    | (refine wpList_store_row (by rfl) 23 _ _ (by rfl) (w.heap.size + 1) (va 256 (iv .u8 fun _ => 0)) (by rfl) (by rfl) 23 _ b1 (sizeBk.trans (by rw [va_size])) (by simp only [va_size]) (iv_one _ _ _) ?_; simp only [Act.put, List.setIfInBounds_toArray, List.set_cons_zero, List.set_cons_succ])
    | fail)
  try simp only [Exit.inBlock, Exit.then]
  refine bodyPost_ret (results_row2 Try.results15 _ _ (w.heap.size + 1) 23 (va 256 (iv .u8 fun _ => 0)) (0, 0) _ rfl (b1.set _) Try.underlying23 rfl (sizeBk.trans (by rw [va_size]))) rfl ?_
  exact ⟨rfl, below_setRow hb (by omega) _⟩
end Go.Proofs.Ytaoglljkghkbpaa
