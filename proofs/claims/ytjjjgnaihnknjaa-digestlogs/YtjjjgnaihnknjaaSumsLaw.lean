/- The statement DigestSums, if what it calls returns what it does; and the test that stands ahead of the statements of this layer. -/
import Derived.Test.YtjjjgnaihnknjaaRows
import Derived.Test.YtjjjgnaihnknjaaSplice
import Derived.Laws.BytesArg
import Derived.Handy
import Derived.Test.YtjjjgnaihnknjaaMathState
import Derived.ChangeKeysEq
import Derived.WalkKit
import Derived.Test.YtjjjgnaihnknjaaDigOf
import Derived.Test.YtjjjgnaihnknjaaDigRef

namespace Go.Proofs.Ytjjjgnaihnknjaa
open Go.RowKit
set_option linter.unusedSimpArgs false
set_option linter.unusedVariables false

theorem sizeSumT : (Try.prog.info? 39).map (·.size) = some 32 := by kernel_rfl
theorem run_index_agg {P : Program} (w : World) (t e n : Nat) (cs : Array Value) (k : Nat) (κ : IntKind) (x : Int) (ht : P.underlying t = some (.array n e)) (he : P.underlying e = some (.int κ)) (hi : (P.info? e).map (·.size) = some 1) (hk : k < n) (hc : cs[k]? = some (.int κ x)) :
    (Instr.index t (.agg cs) (.int .i64 (k : Int))).run P w = .ok (.int κ x) w := by
  cases hq : P.info? e with
  | none => simp [hq] at hi
  | some i =>
    have h1 : i.size = 1 := by simpa [hq] using hi
    have h2 : (k : Int) < (n : Int) := by omega
    simp [Instr.index, asIntOf, run_underlying ht, part, isAgg, run_underlying he, sizeOf, typeInfo, hq, h1, h2, hc]
    intro h
    omega
theorem text_step (k : Nat) : va 64 (upd (upd (iv .u8 (fupN (2 * k) (fun _ => 48) fun _ => 0)) (2 * k) (.int .u8 48)) (2 * k + 1) (.int .u8 48)) = va 64 (iv .u8 (fupN (2 * (k + 1)) (fun _ => 48) fun _ => 0)) := by
  have e := fup_step .u8 64 (2 * k) (fun _ => 48) fun _ => 0
  have e1 : upd (iv .u8 (fupN (2 * k) (fun _ => 48) fun _ => 0)) (2 * k) (.int .u8 48) = iv .u8 (fupN (2 * k + 1) (fun _ => 48) fun _ => 0) := by
    rw [show (Value.int .u8 48) = Value.int .u8 ((48 : Nat) : Int) from rfl, upd_iv]
    congr 1
    funext j
    unfold updN fupN
    by_cases h : j = 2 * k
    · rw [if_pos h, if_pos (by omega)]
    · rw [if_neg h]
      by_cases h2 : j < 2 * k
      · rw [if_pos h2, if_pos (by omega)]
      · rw [if_neg h2, if_neg (by omega)]
  rw [e1]
  exact fup_step .u8 64 (2 * k + 1) (fun _ => 48) fun _ => 0

set_option maxRecDepth 100000 in
set_option maxHeartbeats 4000000 in
theorem text_zero (w : World) :
    Calls Try.prog 24 #[.agg (va 32 (iv .u8 fun _ => 0))] w fun e w' => ∃ t, e = .returned (.string t) ∧ t.size = 64 ∧ Below w.heap.size w w' := by
  have h0 : Blk (w.alloc (.cells (va 32 (iv .u8 fun _ => 0)) 39)) w.heap.size 39 (va 32 (iv .u8 fun _ => 0)) := Blk.new _ _ _
  have h0' := fun o => h0.alloc o
  clear h0
  go_enter Try.func24, Try.ntmps24
  go_wp2_with (first
    | (refine wpList_load_row (by rfl) 39 _ (by rfl) w.heap.size (by rfl) 39 (va 32 (iv .u8 fun _ => 0)) (0, 0) _ (h0' _) Try.underlying39 (by rfl) (sizeSumT.trans (by rw [va_size])) ?_; simp only [Act.put, List.setIfInBounds_toArray, List.set_cons_zero, List.set_cons_succ])
    | fail)
  clear h0'
  go_loopw [7] (fun i wr => ∃ k : Nat, k ≤ 32 ∧ i = .int .i64 k ∧ Blk wr (w.heap.size + 1) 91 (va 64 (iv .u8 (fupN (2 * k) (fun _ => 48) fun _ => 0))) ∧ Below w.heap.size w wr) (fun i _ => 32 - (intOf i).toNat)
  case atStart =>
    refine ⟨0, by omega, rfl, ?_, ((Below.refl _ _).alloc (Nat.le_refl _) _).alloc (by simp) _⟩
    have e : (w.alloc (.cells (va 32 (iv .u8 fun _ => 0)) 39)).heap.size = w.heap.size + 1 := by simp
    rw [← e, Nat.mul_zero, fup_zero]
    exact Blk.new _ _ (va 64 (iv .u8 fun _ => 0))
  case round =>
    obtain ⟨k, hk, rfl, h1, hb⟩ := hrel
    by_cases hlt : k < 32
    · have hx : Sem.run Try.prog (Instr.index 39 (.agg (va 32 (iv .u8 fun _ => 0))) (.int .i64 (k : Int))) wr = .ok (.int .u8 0) wr := run_index_agg wr 39 5 32 _ k .u8 0 Try.underlying39 Try.underlying5 (by kernel_rfl) hlt (va_at _ hlt)
      obtain ⟨q, hq⟩ : ∃ q : Nat, q = 2 * k := ⟨_, rfl⟩
      have HS := text_step k
      rw [← hq] at h1 HS
      have d0 : (({ data := #[48, 49, 50, 51, 52, 53, 54, 55, 56, 57, 97, 98, 99, 100, 101, 102] } : ByteArray)[0]'(by decide)).toNat = 48 := rfl
      have i0 : (0 : Int) ≤ (k : Int) := by omega
      have i1 : (k : Int) < 32 := by omega
      have e1 : (2 : Int) * (k : Int) = (q : Int) := by omega
      have q0 : (0 : Int) ≤ (q : Int) := by omega
      have q1 : (q : Int) < 64 := by omega
      have q2 : (q : Int) + 1 < 64 := by omega
      have q3 : q ≤ 62 := by omega
      have c0 := h1.cv (i := q) (by omega)
      have f0 := h1.frozen q
      have p1 := h1.put q (.int .u8 48)
      rw [va_set] at p1
      have c1 := p1.cv (i := q + 1) (by omega)
      have f1 := p1.frozen (q + 1)
      have p2 := p1.put (q + 1) (.int .u8 48)
      rw [va_set, HS] at p2
      have HP : Hid (Blk ((wr.setCell ⟨w.heap.size + 1, q, none⟩ (.int .u8 48)).setCell ⟨w.heap.size + 1, q + 1, none⟩ (.int .u8 48)) (w.heap.size + 1) 91 (va 64 (iv .u8 (fupN (2 * (k + 1)) (fun _ => 48) fun _ => 0)))) := p2
      clear HS p1 p2 hq
      go_wp2_with fail
      refine ⟨⟨k + 1, by omega, by simp, HP.out, (hb.setCell (by show w.heap.size ≤ w.heap.size + 1; omega) _).setCell (by show w.heap.size ≤ w.heap.size + 1; omega) _⟩, ?_⟩
      simp [intOf]
      omega
    · obtain rfl : k = 32 := by omega
      rw [fup_all _ 64 (2 * 32) _ _ (Nat.le_refl _)] at h1
      have hcv := run_convert_bytes_arg (P := Try.prog) wr 44 5 Try.underlying44 Try.underlying5 (w.heap.size + 1) 0 64 64 (List.replicate 64 48) (by simp) (fun i hi => by
        rw [Nat.zero_add, h1.cv hi, List.getD_eq_getElem?_getD, List.getElem?_replicate, if_pos hi]
        rfl) 9 Try.underlying9
      have hsz : (strOfNums (List.replicate 64 48)).size = 64 := by rw [strOfNums_size]; simp
      generalize strOfNums (List.replicate 64 48) = tx at *
      go_wp2_with fail
      go_ret
      exact ⟨_, rfl, hsz, hb⟩
end Go.Proofs.Ytjjjgnaihnknjaa

namespace Go.Proofs.Ytjjjgnaihnknjaa
open Go Go.RowKit

theorem run_items {P : Program} {w : World} {e : TypeId} {k : IntKind} (d : Nat) (he : P.underlying e = some (.int k)) (f g : Nat → Int) (xs ys : Array Value) :
    ∀ is : List Nat, (∀ i ∈ is, xs[i]? = some (.int k (f i)) ∧ ys[i]? = some (.int k (g i))) → (Op.eqItems (d + 1) e 1 xs ys is).run P w = .ok (is.all fun i => f i == g i) w
  | [], _ => by simp [Op.eqItems]
  | i :: is, h => by
    obtain ⟨h1, h2⟩ := h i (by simp)
    have ih := run_items (w := w) d he f g xs ys is fun j hj => h j (by simp [hj])
    have p1 : (part e xs (i * 1)).run P w = .ok (.int k (f i)) w := by
      simp [part, isAgg, run_underlying he, h1]
    have p2 : (part e ys (i * 1)).run P w = .ok (.int k (g i)) w := by
      simp [part, isAgg, run_underlying he, h2]
    have p3 : (Op.equalIn (d + 1) e (.int k (f i)) (.int k (g i))).run P w = .ok (f i == g i) w := by
      simp [Op.equalIn, run_underlying he]
    simp only [Op.eqItems, Sem.run_bind, p1, p2, p3, Result.andThen_ok]
    by_cases hq : f i = g i
    · simp only [hq, beq_self_eq_true, Bool.not_true, Bool.false_eq_true, if_false, ih, List.all_cons, Bool.true_and]
    · have : (f i == g i) = false := by simpa using hq
      simp only [this, Bool.not_false, if_true, Sem.run_pure, List.all_cons, Bool.false_and]

set_option maxRecDepth 100000 in
theorem eq_state (t : TypeId) (ht : Try.prog.underlying t = some (.array 16 22)) (a b : St) (w : World) : (Op.equalIn 10000 t (.agg (stA a)) (.agg (stA b))).run Try.prog w = .ok (decide (a = b)) w := by
  obtain ⟨i, hi⟩ : ∃ i, Try.prog.info? 22 = some i := Option.isSome_iff_exists.1 (by kernel_rfl)
  have hc : Try.prog.cellsOf 22 = 1 := by kernel_rfl
  rw [show (10000 : Nat) = 9998 + 1 + 1 from rfl, run_equalIn_array w (9998 + 1) (stA a) (stA b) ht hi, hc,
    run_items 9998 Try.underlying22 (fun i => (a.at i : Int)) (fun i => (b.at i : Int)) _ _ _ (fun i hi => ⟨stA_at a i (by simpa using hi), stA_at b i (by simpa using hi)⟩)]
  congr 1
  rw [Bool.eq_iff_iff, List.all_eq_true, decide_eq_true_eq]
  constructor
  · intro h
    refine stA_inj a b ?_
    apply Array.ext_getElem?
    intro i
    by_cases hi : i < 16
    · rw [stA_at a i hi, stA_at b i hi]
      have := h i (by simpa using hi)
      simp only [beq_iff_eq] at this
      rw [this]
    · rw [Array.getElem?_eq_none (by rw [stA_size]; omega), Array.getElem?_eq_none (by rw [stA_size]; omega)]
  · rintro rfl i _
    simp

end Go.Proofs.Ytjjjgnaihnknjaa

namespace Go.Proofs.Ytjjjgnaihnknjaa
open Go.RowKit
set_option linter.unusedSimpArgs false
set_option linter.unusedVariables false

set_option maxRecDepth 100000 in
/-- a digest compared with itself -/
theorem eq_sum (f : Nat → Nat) (w : World) : (Op.equalIn 10000 39 (.agg (va 32 (iv .u8 f))) (.agg (va 32 (iv .u8 f)))).run Try.prog w = .ok true w := by
  obtain ⟨i, hi⟩ : ∃ i, Try.prog.info? 5 = some i := Option.isSome_iff_exists.1 (by kernel_rfl)
  have hc : Try.prog.cellsOf 5 = 1 := by kernel_rfl
  rw [show (10000 : Nat) = 9998 + 1 + 1 from rfl, run_equalIn_array w (9998 + 1) (va 32 (iv .u8 f)) (va 32 (iv .u8 f)) Try.underlying39 hi, hc,
    run_items 9998 Try.underlying5 (fun i => ((f i : Nat) : Int)) (fun i => ((f i : Nat) : Int)) (va 32 (iv .u8 f)) (va 32 (iv .u8 f)) _ (fun i hi => ⟨va_at (iv .u8 f) (by simpa using hi), va_at (iv .u8 f) (by simpa using hi)⟩)]
  congr 1
  simp

set_option maxRecDepth 100000 in
set_option maxHeartbeats 4000000 in
theorem awake3_any (w : World) : Calls Try.prog 13 #[] w fun e w' => e = .returned (.bool true) ∧ Below w.heap.size w w' := by
  have hT : Hid (∀ w : World, Calls Try.prog 24 #[.agg #[.int .u8 0, .int .u8 0, .int .u8 0, .int .u8 0, .int .u8 0, .int .u8 0, .int .u8 0, .int .u8 0, .int .u8 0, .int .u8 0, .int .u8 0, .int .u8 0, .int .u8 0, .int .u8 0, .int .u8 0, .int .u8 0, .int .u8 0, .int .u8 0, .int .u8 0, .int .u8 0, .int .u8 0, .int .u8 0, .int .u8 0, .int .u8 0, .int .u8 0, .int .u8 0, .int .u8 0, .int .u8 0, .int .u8 0, .int .u8 0, .int .u8 0, .int .u8 0]] w fun e w' => ∃ t, e = .returned (.string t) ∧ t.size = 64 ∧ Below w.heap.size w w') := fun w => text_zero w
  have hP : Hid (∀ w : World, Calls Try.prog 16 #[.string { data := #[] }] w fun e w' => e = .returned (.int .i64 1) ∧ w' = w) := fun w => pieces_any { data := #[] } (by decide) w
  have hO : Hid (∀ w : World, Calls Try.prog 14 #[.int .u8 1, .string { data := #[97] }] w fun e w' => e = .returned (.agg (va 32 (iv .u8 (ofC (firstN 1) (byteAt { data := #[97] }) 1)))) ∧ Below w.heap.size w w') := fun w => of_any 1 (by decide) { data := #[97] } (by decide) w
  have hR : Hid (∀ w : World, Calls Try.prog 15 #[.int .u8 1, .string { data := #[97] }] w fun e w' => e = .returned (.agg (va 32 (iv .u8 (ofC (firstN 1) (byteAt { data := #[97] }) 1)))) ∧ Below w.heap.size w w') := fun w => refOf_any 1 (by decide) { data := #[97] } (by decide) w
  generalize ofC (firstN 1) (byteAt { data := #[97] }) 1 = x at *
  have hq := eq_sum x
  go_enter Try.func13, Try.ntmps13
  go_wp2_with fail
  refine (hT.out _).mono ?_
  rintro e w1 ⟨t, rfl, ht, hb1⟩
  go_wp2_with fail
  refine (hP.out _).mono ?_
  rintro e w2 ⟨rfl, rfl⟩
  go_wp2_with fail
  refine (hO.out _).mono ?_
  rintro e w3 ⟨rfl, hb3⟩
  go_wp2_with fail
  refine (hR.out _).mono ?_
  rintro e w4 ⟨rfl, hb4⟩
  have hb : Below w.heap.size w w4 := hb1.trans ((hb3.mono hb1.size).trans (hb4.mono (Nat.le_trans hb1.size hb3.size)))
  clear hb1 hb3 hb4
  go_wp2_with fail
  go_ret
  exact ⟨rfl, hb⟩

set_option maxRecDepth 100000 in
set_option maxHeartbeats 4000000 in
theorem sumsLaw (tag : Nat) (h : tag < 256) (s : ByteArray) (hs : s.size ≤ 140737488351232) (w : World) :
    Calls Try.prog 4 #[.int .u8 (tag : Int), .string s] w fun e w' => e = .returned (.bool true) ∧ Below w.heap.size w w' := by
  have hA : Hid (∀ w : World, Calls Try.prog 13 #[] w fun e w' => e = .returned (.bool true) ∧ Below w.heap.size w w') := fun w => awake3_any w
  have hO : Hid (∀ w : World, Calls Try.prog 14 #[.int .u8 (tag : Int), .string s] w fun e w' => e = .returned (.agg (va 32 (iv .u8 (ofC (firstN tag) (byteAt s) s.size)))) ∧ Below w.heap.size w w') := fun w => of_any tag h s hs w
  have hR : Hid (∀ w : World, Calls Try.prog 15 #[.int .u8 (tag : Int), .string s] w fun e w' => e = .returned (.agg (va 32 (iv .u8 (ofC (firstN tag) (byteAt s) s.size)))) ∧ Below w.heap.size w w') := fun w => refOf_any tag h s hs w
  have hP : Hid (∀ w : World, Calls Try.prog 16 #[.string s] w fun e w' => e = .returned (.int .i64 (((s.size + 8) / 32 + 1 : Nat) : Int)) ∧ w' = w) := fun w => pieces_any s hs w
  have hQ : Hid (∀ w : World, Calls Try.prog 17 #[.string s] w fun e w' => e = .returned (.int .i64 (((s.size + 8) / 32 + 1 : Nat) : Int)) ∧ w' = w) := fun w => refPieces_any s hs w
  generalize ofC (firstN tag) (byteAt s) s.size = x at *
  generalize (((s.size + 8) / 32 + 1 : Nat) : Int) = z at *
  have hq := eq_sum x
  clear hs
  go_enter Try.func4, Try.ntmps4
  go_wp2_with fail
  refine (hA.out _).mono ?_
  rintro e w1 ⟨rfl, hb1⟩
  go_wp2_with fail
  refine (hO.out _).mono ?_
  rintro e w2 ⟨rfl, hb2⟩
  go_wp2_with fail
  refine (hR.out _).mono ?_
  rintro e w3 ⟨rfl, hb3⟩
  have hb : Below w.heap.size w w3 := hb1.trans ((hb2.mono hb1.size).trans (hb3.mono (Nat.le_trans hb1.size hb2.size)))
  clear hb1 hb2 hb3
  go_wp2_with fail
  refine (hP.out _).mono ?_
  rintro e w4 ⟨rfl, rfl⟩
  go_wp2_with fail
  refine (hQ.out _).mono ?_
  rintro e w5 ⟨rfl, rfl⟩
  go_wp2_with fail
  go_ret
  exact ⟨rfl, hb⟩
end Go.Proofs.Ytjjjgnaihnknjaa
