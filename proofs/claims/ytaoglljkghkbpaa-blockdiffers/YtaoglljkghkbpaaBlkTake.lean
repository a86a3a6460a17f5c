/- Bytes taken out of a block, whether it is zero, the block of a text: the program's contracts. -/
import Derived.Test.YtaoglljkghkbpaaBlkLay
import Derived.Handy
namespace Go.Proofs.Ytaoglljkghkbpaa
open Go.RowKit
set_option linter.unusedSimpArgs false
set_option linter.unusedVariables false

set_option maxRecDepth 100000 in
set_option maxHeartbeats 4000000 in
theorem take_fit (f : Nat → Nat) (r n : Nat) (h : r + n ≤ 256) (w : World) :
    Calls Try.prog 17 #[bkV f, .int .i64 (r : Int), .int .i64 (n : Int)] w fun e w' => e = .returned (.tuple #[.string (strN (fun j => f (r + j)) n), .int .i64 0]) ∧ Below w.heap.size w w' := by
  have hI : Hid (∀ w : World, Calls Try.prog 37 #[.int .i64 (r : Int), .int .i64 (n : Int)] w fun e w' => e = .returned (.bool true) ∧ w' = w) := fun w => by
    have := inside_any (r : Int) (n : Int) (by omega) (by omega) w
    rw [decide_eq_true (show Fit (r : Int) (n : Int) from ⟨by omega, by omega, by omega⟩)] at this
    exact this
  unfold bkV
  go_enter Try.func17, Try.ntmps17
  go_wp2_with fail
  refine (hI.out _).mono ?_
  rintro e w1 ⟨rfl, rfl⟩
  have b0 := Blk.new w 23 (va 256 (iv .u8 f))
  have hb := below_new1 w (Obj.cells (va 256 (iv IntKind.u8 f)) 23)
  generalize w.alloc (Obj.cells (va 256 (iv IntKind.u8 f)) 23) = W at *
  clear hI
  have r0 : (0 : Int) ≤ (r : Int) := by omega
  have r1 : (r : Int) ≤ 256 := by omega
  obtain ⟨q, hq⟩ : ∃ q : Nat, q = r + n := ⟨_, rfl⟩
  have r2 : (q : Int) ≤ 256 := by omega
  have r3 : (r : Int) ≤ (q : Int) := by omega
  have e1 : (r : Int) + (n : Int) = (q : Int) := by omega
  have e2 : q - r = n := by omega
  have HQ : Hid (q = r + n) := hq
  clear hq
  by_cases hr : 256 = r
  · obtain rfl : r = 256 := hr.symm
    obtain rfl : n = 0 := by omega
    obtain rfl : q = 256 := by have := HQ.out; omega
    have hc := run_bytes_text (P := Try.prog) W 78 5 9 Try.underlying78 Try.underlying5 Try.underlying9 b0 0 0 0 (by omega)
    have hx : strN (fun j => f (0 + j)) 0 = strN (fun j => f (256 + j)) 0 := rfl
    rw [hx] at hc
    go_wp2_with fail
    try simp only [Exit.inBlock, Exit.then]
    refine bodyPost_ret (results_tmp2 Try.results17 _ _ _) rfl ?_
    exact ⟨rfl, hb⟩
  · have hc := run_bytes_text (P := Try.prog) W 78 5 9 Try.underlying78 Try.underlying5 Try.underlying9 b0 r n (256 - r) h
    go_wp2_with fail
    try simp only [Exit.inBlock, Exit.then]
    refine bodyPost_ret (results_tmp2 Try.results17 _ _ _) rfl ?_
    exact ⟨rfl, hb⟩

set_option maxRecDepth 100000 in
set_option maxHeartbeats 4000000 in
theorem take_bad (f : Nat → Nat) (a n : Int) (ha : -9223372036854775808 ≤ a ∧ a ≤ 9223372036854775807) (hn : -9223372036854775808 ≤ n ∧ n ≤ 9223372036854775807) (h : ¬ Fit a n) (w : World) :
    Calls Try.prog 17 #[bkV f, .int .i64 a, .int .i64 n] w fun e w' => e = .returned (.tuple #[.string (strN (fun _ => 0) 0), .int .i64 40]) ∧ Below w.heap.size w w' := by
  have hI : Hid (∀ w : World, Calls Try.prog 37 #[.int .i64 a, .int .i64 n] w fun e w' => e = .returned (.bool false) ∧ w' = w) := fun w => by
    have := inside_any a n ha hn w
    rw [decide_eq_false h] at this
    exact this
  unfold bkV
  go_enter Try.func17, Try.ntmps17
  go_wp2_with fail
  refine (hI.out _).mono ?_
  rintro e w1 ⟨rfl, rfl⟩
  have hb := below_new1 w (Obj.cells (va 256 (iv IntKind.u8 f)) 23)
  generalize w.alloc (Obj.cells (va 256 (iv IntKind.u8 f)) 23) = W at *
  clear hI
  go_wp2_with fail
  try simp only [Exit.inBlock, Exit.then]
  refine bodyPost_ret (results_tmp2 Try.results17 _ _ _) rfl ?_
  exact ⟨rfl, hb⟩

set_option maxRecDepth 100000 in
set_option maxHeartbeats 4000000 in
theorem zero_any (f : Nat → Nat) (w : World) :
    Calls Try.prog 14 #[bkV f] w fun e w' => e = .returned (.bool (decide (bkSame f fun _ => 0))) ∧ Below w.heap.size w w' := by
  have hq := eq_bk 23 Try.underlying23 f (fun _ => 0)
  unfold bkV at hq
  unfold bkV
  have b0 := Blk.new w 23 (va 256 (iv .u8 f))
  have hb := below_new1 w (Obj.cells (va 256 (iv IntKind.u8 f)) 23)
  have hz := zero_bk
  generalize decide (bkSame f fun _ => 0) = d at *
  go_enter Try.func14, Try.ntmps14
  go_wp2_with (first
    | (refine wpList_load_row (by rfl) 23 _ (by rfl) (w.heap.size) (by rfl) 23 (va 256 (iv .u8 f)) (0, 0) _ b0 Try.underlying23 (by rfl) (sizeBk.trans (by rw [va_size])) ?_; simp only [Act.put, List.setIfInBounds_toArray, List.set_cons_zero, List.set_cons_succ])
    | fail)
  go_ret
  exact ⟨rfl, hb⟩

/-- the block of a text -/
theorem put_text (s : ByteArray) : bkV (putAt (fun _ => 0) 0 s.size (tbyte s)) = bkV (tbyte s) := bkV_congr fun i hi => by
  unfold putAt
  by_cases h : i < s.size
  · rw [if_pos (by omega), Nat.sub_zero]
  · rw [if_neg (by omega), tbyte_out s i (by omega)]

set_option maxRecDepth 100000 in
set_option maxHeartbeats 4000000 in
theorem blockOf_by (s : ByteArray) (F : Nat → Nat) (x : Int) (hL : ∀ w : World, Calls Try.prog 15 #[bkV fun _ => 0, .int .i64 0, .string s] w fun e w' => e = .returned (.tuple #[bkV F, .int .i64 x]) ∧ Below w.heap.size w w') (w : World) :
    Calls Try.prog 10 #[.string s] w fun e w' => e = .returned (.tuple #[bkV F, .int .i64 x]) ∧ Below w.heap.size w w' := by
  have HL : Hid (∀ w : World, Calls Try.prog 15 #[bkV fun _ => 0, .int .i64 0, .string s] w fun e w' => e = .returned (.tuple #[bkV F, .int .i64 x]) ∧ Below w.heap.size w w') := hL
  clear hL
  unfold bkV at *
  have hz := zero_bk
  have b0 := Blk.new w 23 (va 256 (iv .u8 fun _ => 0))
  have hb := below_new1 w (Obj.cells (va 256 (iv IntKind.u8 fun _ => 0)) 23)
  go_enter Try.func10, Try.ntmps10
  go_wp2_with fail
  generalize w.alloc (Obj.cells (va 256 (iv IntKind.u8 fun _ => 0)) 23) = W at *
  go_wp2_with fail
  refine (HL.out _).mono ?_
  rintro e w1 ⟨rfl, hb1⟩
  have b1 := b0.below hb1 b0.lt
  have hb2 : Below w.heap.size w w1 := hb.trans (hb1.mono hb.size)
  clear hb hb1 b0 HL hz
  go_wp2_with (first
    | (refine wpList_store_row (by rfl) 23 _ _ (by rfl) (w.heap.size) (va 256 (iv .u8 F)) (by rfl) (by rfl) 23 _ b1 (sizeBk.trans (by rw [va_size])) (by simp only [va_size]) (iv_one _ _ _) ?_; simp only [Act.put, List.setIfInBounds_toArray, List.set_cons_zero, List.set_cons_succ])
    | fail)
  try simp only [Exit.inBlock, Exit.then]
  refine bodyPost_ret (results_row2 Try.results10 _ _ (w.heap.size) 23 (va 256 (iv .u8 F)) (0, 0) _ rfl (b1.set _) Try.underlying23 rfl (sizeBk.trans (by rw [va_size]))) rfl ?_
  exact ⟨rfl, below_setRow hb2 (Nat.le_refl _) _⟩
theorem blockOf_fit (s : ByteArray) (h : s.size ≤ 256) (w : World) :
    Calls Try.prog 10 #[.string s] w fun e w' => e = .returned (.tuple #[bkV (tbyte s), .int .i64 0]) ∧ Below w.heap.size w w' := by
  refine blockOf_by s _ 0 (fun w => ?_) w
  have := lay_fit (fun _ => 0) 0 s (by omega) w
  rw [put_text] at this
  exact this
theorem blockOf_bad (s : ByteArray) (h : 256 < s.size) (hs : s.size ≤ 9223372036854775807) (w : World) :
    Calls Try.prog 10 #[.string s] w fun e w' => e = .returned (.tuple #[bkV fun _ => 0, .int .i64 40]) ∧ Below w.heap.size w w' :=
  blockOf_by s _ 40 (fun w => lay_bad (fun _ => 0) 0 (by omega) s hs (fun h => by unfold Fit at h; omega) w) w

set_option maxRecDepth 100000 in
set_option maxHeartbeats 4000000 in
theorem awake4_any (w : World) : Calls Try.prog 9 #[] w fun e w' => e = .returned (.bool true) ∧ Below w.heap.size w w' := by
  have hO : Hid (∀ w : World, Calls Try.prog 10 #[.string { data := #[97, 98] }] w fun e w' => e = .returned (.tuple #[bkV (tbyte { data := #[97, 98] }), .int .i64 0]) ∧ Below w.heap.size w w') := fun w => blockOf_fit _ (by decide) w
  have hT : Hid (∀ w : World, Calls Try.prog 17 #[bkV (tbyte { data := #[97, 98] }), .int .i64 1, .int .i64 2] w fun e w' => e = .returned (.tuple #[.string { data := #[98, 0] }, .int .i64 0]) ∧ Below w.heap.size w w') := fun w => by
    have := take_fit (tbyte { data := #[97, 98] }) 1 2 (by decide) w
    rw [show strN (fun j => tbyte { data := #[97, 98] } (1 + j)) 2 = { data := #[98, 0] } by decide +kernel] at this
    exact this
  have hZ : Hid (∀ w : World, Calls Try.prog 14 #[bkV (tbyte { data := #[97, 98] })] w fun e w' => e = .returned (.bool false) ∧ Below w.heap.size w w') := fun w => by
    have := zero_any (tbyte { data := #[97, 98] }) w
    rw [decide_eq_false (fun h => absurd (h 0 (by decide)) (by decide +kernel))] at this
    exact this
  generalize tbyte { data := #[97, 98] } = F at *
  unfold bkV at *
  have hz := zero_bk
  go_enter Try.func9, Try.ntmps9
  go_wp2_with fail
  refine (hO.out _).mono ?_
  rintro e w1 ⟨rfl, hb1⟩
  have b0 := Blk.new w1 23 (va 256 (iv .u8 fun _ => 0))
  have hb2 : Below w.heap.size w (w1.alloc (Obj.cells (va 256 (iv IntKind.u8 fun _ => 0)) 23)) := hb1.alloc hb1.size _
  have hw1 := hb1.size
  have b1 := b0.set (va 256 (iv .u8 F))
  have hb3 := below_setRow hb2 hw1 (va 256 (iv .u8 F))
  clear hb1 hO hb2
  go_wp2_with (first
    | (refine wpList_store_row (by rfl) 23 _ _ (by rfl) (w1.heap.size) (va 256 (iv .u8 F)) (by rfl) (by rfl) 23 _ b0 (sizeBk.trans (by rw [va_size])) (by simp only [va_size]) (iv_one _ _ _) ?_; simp only [Act.put, List.setIfInBounds_toArray, List.set_cons_zero, List.set_cons_succ])
    | (refine wpList_load_row (by rfl) 23 _ (by rfl) (w1.heap.size) (by rfl) 23 (va 256 (iv .u8 F)) (0, 0) _ b1 Try.underlying23 (by rfl) (sizeBk.trans (by rw [va_size])) ?_; simp only [Act.put, List.setIfInBounds_toArray, List.set_cons_zero, List.set_cons_succ])
    | fail)
  generalize (w1.alloc (Obj.cells (va 256 (iv IntKind.u8 fun _ => 0)) 23)).setRow w1.heap.size (va 256 (iv .u8 F)) = w2 at *
  refine (hT.out _).mono ?_
  rintro e w3 ⟨rfl, hb4⟩
  have b2 := b1.below hb4 b1.lt
  have hb5 : Below w.heap.size w w3 := hb3.trans (hb4.mono hb3.size)
  clear hb3 hb4 b1 b0 hT hz
  go_wp2_with (first
    | (refine wpList_load_rowg (by rfl) 23 _ (by rfl) (w1.heap.size) (by rfl) 23 (va 256 (iv .u8 F)) (0, 0) _ b2 Try.underlying23 (by rfl) (sizeBk.trans (by rw [va_size])) ?_; simp only [Act.put, List.setIfInBounds_toArray, List.set_cons_zero, List.set_cons_succ])
    | fail)
  refine (hZ.out _).mono ?_
  rintro e w4 ⟨rfl, hb6⟩
  have hb7 : Below w.heap.size w w4 := hb5.trans (hb6.mono hb5.size)
  clear hb5 hb6 b2 hZ
  go_wp2_with fail
  go_ret
  exact ⟨rfl, hb7⟩
end Go.Proofs.Ytaoglljkghkbpaa
