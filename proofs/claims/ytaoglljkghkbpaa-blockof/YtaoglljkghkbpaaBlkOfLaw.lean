/- The statement BlockOf, if what it calls returns what it does. -/
import Derived.Test.YtaoglljkghkbpaaBlkTxt
import Derived.Test.YtaoglljkghkbpaaBlkRefText
import Derived.Test.YtaoglljkghkbpaaBlkSeg
import Derived.Handy
namespace Go.Proofs.Ytaoglljkghkbpaa
open Go.RowKit
set_option linter.unusedSimpArgs false
set_option linter.unusedVariables false

theorem of_both (s : ByteArray) (hs : s.size ≤ 9223372036854775807) : ∃ (F : Nat → Nat) (x : Int),
    (∀ w : World, Calls Try.prog 10 #[.string s] w fun e w' => e = .returned (.tuple #[bkV F, .int .i64 x]) ∧ Below w.heap.size w w') ∧
    (∀ w : World, Calls Try.prog 11 #[.string s] w fun e w' => e = .returned (.tuple #[bkV F, .int .i64 x]) ∧ Below w.heap.size w w') := by
  by_cases h : s.size ≤ 256
  · exact ⟨_, 0, blockOf_fit s h, refBlockOf_fit s h⟩
  · exact ⟨_, 40, blockOf_bad s (by omega) hs, refBlockOf_bad s (by omega)⟩
/-- the first k bytes are 0 -/
def zeroTo (f : Nat → Nat) (k : Nat) : Bool := decide (∀ i, i < k → f i = 0)
theorem zeroTo_zero (f : Nat → Nat) : zeroTo f 0 = true := decide_eq_true fun i hi => absurd hi (by omega)
theorem zeroTo_step (f : Nat → Nat) (k : Nat) : zeroTo f (k + 1) = (zeroTo f k && decide (f k = 0)) := by
  unfold zeroTo
  rw [Bool.eq_iff_iff, Bool.and_eq_true, decide_eq_true_eq, decide_eq_true_eq, decide_eq_true_eq]
  constructor
  · exact fun h => ⟨fun i hi => h i (by omega), h k (by omega)⟩
  · rintro ⟨h1, h2⟩ i hi
    by_cases e : i = k
    · rw [e]; exact h2
    · exact h1 i (by omega)
theorem beq_dec (n : Nat) : (((n : Nat) : Int) == 0) = decide (n = 0) := by
  rw [Bool.eq_iff_iff]
  simp
theorem run_index_bk (f : Nat → Nat) (k : Nat) (hk : k < 256) (w : World) : (Instr.index 23 (.agg (va 256 (iv .u8 f))) (.int .i64 (k : Int))).run Try.prog w = .ok (.int .u8 ((f k : Nat) : Int)) w := by
  have hi := sizeU8
  cases hq : Try.prog.info? 5 with
  | none => simp [hq] at hi
  | some i =>
    have h1 : i.size = 1 := by simpa [hq] using hi
    have h2 : (k : Int) < (256 : Int) := by omega
    have hc := va_at (iv .u8 f) hk
    simp [Instr.index, asIntOf, run_underlying Try.underlying23, part, isAgg, run_underlying Try.underlying5, sizeOf, typeInfo, hq, h1, h2, hc, iv]
    intro h
    omega

set_option maxRecDepth 100000 in
set_option maxHeartbeats 8000000 in
theorem blockOfLaw (s : ByteArray) (hs : s.size ≤ 9223372036854775807) (f : Nat → Nat) (w : World) :
    Calls Try.prog 3 #[.string s, bkV f] w fun e w' => e = .returned (.bool true) ∧ Below w.heap.size w w' := by
  obtain ⟨F, x, hO0, hR0⟩ := of_both s hs
  have hO : Hid (∀ w : World, Calls Try.prog 10 #[.string s] w fun e w' => e = .returned (.tuple #[bkV F, .int .i64 x]) ∧ Below w.heap.size w w') := hO0
  have hR : Hid (∀ w : World, Calls Try.prog 11 #[.string s] w fun e w' => e = .returned (.tuple #[bkV F, .int .i64 x]) ∧ Below w.heap.size w w') := hR0
  have hA : Hid (∀ w : World, Calls Try.prog 9 #[] w fun e w' => e = .returned (.bool true) ∧ Below w.heap.size w w') := fun w => awake4_any w
  have hT : Hid (∀ w : World, Calls Try.prog 12 #[bkV f] w fun e w' => e = .returned (.string (strN f 256)) ∧ Below w.heap.size w w') := fun w => textOf_any f w
  have hU : Hid (∀ w : World, Calls Try.prog 13 #[bkV f] w fun e w' => e = .returned (.string (strN f 256)) ∧ Below w.heap.size w w') := fun w => refText_any f w
  have hZ : Hid (∀ w : World, Calls Try.prog 14 #[bkV f] w fun e w' => e = .returned (.bool (zeroTo f 256)) ∧ Below w.heap.size w w') := fun w => by
    have := zero_any f w
    exact this
  have hq : ∀ w, (Op.equalIn 10000 23 (bkV F) (bkV F)).run Try.prog w = .ok true w := fun w => by
    rw [eq_bk 23 Try.underlying23, decide_eq_true (fun _ _ => rfl)]
  clear hO0 hR0 hs
  have hz := zero_bk
  have hz2 := zero_rbk
  unfold bkV at *
  go_enter Try.func3, Try.ntmps3
  go_wp2_with fail
  have b0 := Blk.new w 23 (va 256 (iv .u8 f))
  have hb := below_new1 w (Obj.cells (va 256 (iv IntKind.u8 f)) 23)
  generalize w.alloc (Obj.cells (va 256 (iv IntKind.u8 f)) 23) = w0 at *
  refine (hA.out _).mono ?_
  rintro e w1 ⟨rfl, hb1⟩
  have b1 := b0.below hb1 b0.lt
  have hc1 : Below w.heap.size w w1 := hb.trans (hb1.mono hb.size)
  clear b0 hb hb1 hA
  go_wp2_with fail
  refine (hO.out _).mono ?_
  rintro e w2 ⟨rfl, hb2⟩
  have b2 := (b1.below hb2 b1.lt).alloc (Obj.cells (va 256 (iv IntKind.u8 fun _ => 0)) 23)
  have c2 := Blk.new w2 23 (va 256 (iv .u8 fun _ => 0))
  have hlt2 : w.heap.size < w2.heap.size := Nat.lt_of_lt_of_le b1.lt hb2.size
  have hc2 : Below w.heap.size w (w2.alloc (Obj.cells (va 256 (iv IntKind.u8 fun _ => 0)) 23)) := (hc1.trans (hb2.mono hc1.size)).alloc (Nat.le_of_lt hlt2) _
  clear b1 hb2 hc1 hO
  go_wp2_with (first
    | (refine wpList_store_row (by rfl) 23 _ _ (by rfl) (w2.heap.size) (va 256 (iv .u8 F)) (by rfl) (by rfl) 23 _ c2 (sizeBk.trans (by rw [va_size])) (by simp only [va_size]) (iv_one _ _ _) ?_; simp only [Act.put, List.setIfInBounds_toArray, List.set_cons_zero, List.set_cons_succ])
    | fail)
  have b3 := b2.other (g := w2.heap.size) (va 256 (iv .u8 F)) (by omega)
  have c3 := c2.set (va 256 (iv .u8 F))
  have hc3 := below_setRow hc2 (Nat.le_of_lt hlt2) (va 256 (iv .u8 F))
  clear b2 c2 hc2
  generalize (w2.alloc (Obj.cells (va 256 (iv IntKind.u8 fun _ => 0)) 23)).setRow w2.heap.size (va 256 (iv .u8 F)) = w3 at *
  refine (hR.out _).mono ?_
  rintro e w4 ⟨rfl, hb4⟩
  have b4 := (b3.below hb4 b3.lt).alloc (Obj.cells (va 256 (iv IntKind.u8 fun _ => 0)) 28)
  have c4 := (c3.below hb4 c3.lt).alloc (Obj.cells (va 256 (iv IntKind.u8 fun _ => 0)) 28)
  have d4 := Blk.new w4 28 (va 256 (iv .u8 fun _ => 0))
  have hlt4 : w2.heap.size < w4.heap.size := Nat.lt_of_lt_of_le c3.lt hb4.size
  have hc4 : Below w.heap.size w (w4.alloc (Obj.cells (va 256 (iv IntKind.u8 fun _ => 0)) 28)) := (hc3.trans (hb4.mono hc3.size)).alloc (by omega) _
  clear b3 c3 hb4 hc3 hR
  have b5 := b4.other (g := w4.heap.size) (va 256 (iv .u8 F)) (by omega)
  have c5 := c4.other (g := w4.heap.size) (va 256 (iv .u8 F)) (by omega)
  have d5 := d4.set (va 256 (iv .u8 F))
  have hc5 := below_setRow hc4 (Nat.le_of_lt (Nat.lt_trans hlt2 hlt4)) (va 256 (iv .u8 F))
  go_wp2_with (first
    | (refine wpList_store_row (by rfl) 28 _ _ (by rfl) (w4.heap.size) (va 256 (iv .u8 F)) (by rfl) (by rfl) 28 _ d4 (sizeRbk.trans (by rw [va_size])) (by simp only [va_size]) (iv_one _ _ _) ?_; simp only [Act.put, List.setIfInBounds_toArray, List.set_cons_zero, List.set_cons_succ])
    | (refine wpList_load_row (by rfl) 23 _ (by rfl) (w.heap.size) (by rfl) 23 (va 256 (iv .u8 f)) (0, 0) _ b5 Try.underlying23 (by rfl) (sizeBk.trans (by rw [va_size])) ?_; simp only [Act.put, List.setIfInBounds_toArray, List.set_cons_zero, List.set_cons_succ])
    | fail)
  clear b4 c4 d4 hc4 hz hz2
  generalize (w4.alloc (Obj.cells (va 256 (iv IntKind.u8 fun _ => 0)) 28)).setRow w4.heap.size (va 256 (iv .u8 F)) = w5 at *
  go_loopw [9, 25] (fun z i wr => ∃ k : Nat, k ≤ 256 ∧ i = .int .i64 k ∧ z = .bool (zeroTo f k) ∧ wr = w5) (fun _ i _ => 256 - (intOf i).toNat)
  case atStart => exact ⟨0, by omega, rfl, by rw [zeroTo_zero], rfl⟩
  case round =>
    obtain ⟨k, hk, rfl, rfl, rfl⟩ := hrel
    by_cases hlt : k < 256
    · have k1 : (k : Int) < 256 := by omega
      have hx := run_index_bk f k hlt
      have HZ : Hid (zeroTo f (k + 1) = (zeroTo f k && decide (f k = 0))) := zeroTo_step f k
      clear hq
      cases hzk : zeroTo f k with
      | true =>
        go_wp2_with fail
        refine ⟨⟨k + 1, by omega, by simp, ?_, trivial⟩, ?_⟩
        · rw [HZ.out, hzk]
          simp only [Bool.true_and, Bool.false_and, beq_dec]
        · simp [intOf]
          omega
      | false =>
        go_wp2_with fail
        refine ⟨⟨k + 1, by omega, by simp, ?_, trivial⟩, ?_⟩
        · rw [HZ.out, hzk]
          simp only [Bool.true_and, Bool.false_and, beq_dec]
        · simp [intOf]
          omega
    · obtain rfl : k = 256 := by omega
      generalize strN f 256 = T at *
      generalize zeroTo f 256 = z at *
      go_wp2_with fail
      refine wp_region_partsI [] [([], 0, true), ([], 1, false), ([], 2, false), ([3, 4, 5], 6, false), ([7, 8], 9, true), ([], 11, true), ([], 10, false), ([], 12, false), ([], 13, false), ([14, 15, 18], 16, false), ([], 17, false), ([], 19, false)] [20, 21] [] wr.heap.size (by kernel_rfl) (by kernel_rfl) (fun _ hx => nomatch hx) (partsI_yield ?_)
      simp only [List.cons_append, List.nil_append, List.append_nil, List.filterMap_cons, List.filterMap_nil, List.getElem?_toArray, List.getElem?_cons_zero, List.getElem?_cons_succ]
      have hS : Below wr.heap.size wr wr.drew := (Below.refl _ _).drew
      go_wp2_with fail
      refine ⟨rfl, _, .agg (va 256 (iv .u8 F)), rfl, kyields_load (by rfl) 23 _ (by rfl) (w2.heap.size) 256 (iv .u8 F) (by rfl) _ 23 (fun W hW => c5.below hW c5.lt) Try.underlying23 rfl sizeBk, partsI_force ?_⟩
      simp only [Act.put, List.setIfInBounds_toArray, List.set_cons_zero, List.set_cons_succ]
      simp only [List.cons_append, List.nil_append, List.append_nil, List.filterMap_cons, List.filterMap_nil, List.getElem?_toArray, List.getElem?_cons_zero, List.getElem?_cons_succ]
      (refine wpList_load_rowg (by rfl) 28 _ (by rfl) (w4.heap.size) (by rfl) 28 (va 256 (iv .u8 F)) (0, 0) _ (d5.below hS d5.lt) Try.underlying28 (by rfl) (sizeRbk.trans (by rw [va_size])) ?_; simp only [Act.put, List.setIfInBounds_toArray, List.set_cons_zero, List.set_cons_succ])
      go_wp2_with fail
      refine ⟨rfl, hS, partsI_force ?_⟩
      simp only [List.cons_append, List.nil_append, List.append_nil, List.filterMap_cons, List.filterMap_nil, List.getElem?_toArray, List.getElem?_cons_zero, List.getElem?_cons_succ]
      go_wp2_with fail
      refine ⟨rfl, hS, partsI_force ?_⟩
      simp only [List.cons_append, List.nil_append, List.append_nil, List.filterMap_cons, List.filterMap_nil, List.getElem?_toArray, List.getElem?_cons_zero, List.getElem?_cons_succ]
      go_wp2_with fail
      refine ⟨rfl, hS, partsI_yield ?_⟩
      simp only [List.cons_append, List.nil_append, List.append_nil, List.filterMap_cons, List.filterMap_nil, List.getElem?_toArray, List.getElem?_cons_zero, List.getElem?_cons_succ]
      go_wp2_with fail
      refine ⟨rfl, _, .agg (va 256 (iv .u8 f)), rfl, kyields_load (by rfl) 23 _ (by rfl) (w.heap.size) 256 (iv .u8 f) (by rfl) _ 23 (fun W hW => b5.below hW b5.lt) Try.underlying23 rfl sizeBk, partsI_yield ?_⟩
      simp only [Act.put, List.setIfInBounds_toArray, List.set_cons_zero, List.set_cons_succ]
      simp only [List.cons_append, List.nil_append, List.append_nil, List.filterMap_cons, List.filterMap_nil, List.getElem?_toArray, List.getElem?_cons_zero, List.getElem?_cons_succ]
      go_wp2_with fail
      refine ⟨rfl, _, .agg (va 256 (iv .u8 f)), rfl, kyields_load (by rfl) 23 _ (by rfl) (w.heap.size) 256 (iv .u8 f) (by rfl) _ 23 (fun W hW => b5.below hW b5.lt) Try.underlying23 rfl sizeBk, partsI_force ?_⟩
      simp only [Act.put, List.setIfInBounds_toArray, List.set_cons_zero, List.set_cons_succ]
      simp only [List.cons_append, List.nil_append, List.append_nil, List.filterMap_cons, List.filterMap_nil, List.getElem?_toArray, List.getElem?_cons_zero, List.getElem?_cons_succ]
      go_wp2_with fail
      refine (hT.out _).mono ?_
      rintro e w6 ⟨rfl, hb6⟩
      have hS6 : Below wr.heap.size wr w6 := hS.trans (hb6.mono hS.size)
      clear hS hb6 hT
      have hS := hS6
      clear hS6
      go_wp2_with fail
      refine ⟨rfl, hS, partsI_force ?_⟩
      simp only [List.cons_append, List.nil_append, List.append_nil, List.filterMap_cons, List.filterMap_nil, List.getElem?_toArray, List.getElem?_cons_zero, List.getElem?_cons_succ]
      go_wp2_with fail
      refine (hU.out _).mono ?_
      rintro e w7 ⟨rfl, hb7⟩
      have hS7 : Below wr.heap.size wr w7 := hS.trans (hb7.mono hS.size)
      clear hS hb7 hU
      have hS := hS7
      clear hS7
      go_wp2_with fail
      refine ⟨rfl, hS, partsI_force ?_⟩
      simp only [List.cons_append, List.nil_append, List.append_nil, List.filterMap_cons, List.filterMap_nil, List.getElem?_toArray, List.getElem?_cons_zero, List.getElem?_cons_succ]
      go_wp2_with fail
      refine ⟨rfl, hS, partsI_force ?_⟩
      simp only [List.cons_append, List.nil_append, List.append_nil, List.filterMap_cons, List.filterMap_nil, List.getElem?_toArray, List.getElem?_cons_zero, List.getElem?_cons_succ]
      go_wp2_with fail
      refine Or.inl (wp_load_row 23 _ (by rfl) (w.heap.size) (by rfl) 23 (va 256 (iv .u8 f)) (0, 0) _ (b5.below hS b5.lt) Try.underlying23 (by rfl) (sizeBk.trans (by rw [va_size])) ?_)
      simp only [Act.put, List.setIfInBounds_toArray, List.set_cons_zero, List.set_cons_succ]
      go_wp2_with fail
      refine ⟨rfl, hS, partsI_force ?_⟩
      simp only [List.cons_append, List.nil_append, List.append_nil, List.filterMap_cons, List.filterMap_nil, List.getElem?_toArray, List.getElem?_cons_zero, List.getElem?_cons_succ]
      go_wp2_with fail
      refine (hZ.out _).mono ?_
      rintro e w8 ⟨rfl, hb8⟩
      have hS8 : Below wr.heap.size wr w8 := hS.trans (hb8.mono hS.size)
      clear hS hb8 hZ
      have hS := hS8
      clear hS8
      go_wp2_with fail
      refine ⟨rfl, hS, partsI_force ?_⟩
      simp only [List.cons_append, List.nil_append, List.append_nil, List.filterMap_cons, List.filterMap_nil, List.getElem?_toArray, List.getElem?_cons_zero, List.getElem?_cons_succ]
      go_wp2_with fail
      refine ⟨rfl, hS, partsI_last ?_⟩
      simp only [List.cons_append, List.nil_append, List.append_nil, List.filterMap_cons, List.filterMap_nil, List.getElem?_toArray, List.getElem?_cons_zero, List.getElem?_cons_succ]
      go_wp2_with fail
      refine ⟨rfl, ?_⟩
      go_wp2_with fail
      go_ret
      exact ⟨rfl, hc5.trans (hS.mono hc5.size)⟩
end Go.Proofs.Ytaoglljkghkbpaa
