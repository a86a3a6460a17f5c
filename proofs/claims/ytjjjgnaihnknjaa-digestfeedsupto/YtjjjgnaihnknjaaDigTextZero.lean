/- The zero digest in digits has 64 of them: the program's contract. -/
import Derived.Test.YtjjjgnaihnknjaaRows
import Derived.Test.YtjjjgnaihnknjaaSplice
import Derived.Laws.BytesArg
import Derived.Handy
namespace Go.Proofs.Ytjjjgnaihnknjaa
open Go.RowKit
set_option linter.unusedSimpArgs false
set_option linter.unusedVariables false

theorem sizeSumT : (Try.prog.info? 39).map (·.size) = some 32 := by kernel_rfl
theorem run_index_agg {P : Program} (w : World) (t e n : Nat) (cs : Array Value) (k : Nat) (κ : IntKind) (x : Int) (ht : P.underlying t = some (.array n e)) (he : P.underlying e = some (.int κ)) (hi : (P.info? e).map (·.size) = some 1) (hk : k < n) (hc : cs[k]? = some (.int κ x)) :
    (Instr.index t (.agg cs) (.int .i64 (k : Int))).run P w = .ok (.int κ x) w := by
  cases hq : P.info? e with
  | none => simp [hq] at hi
  | some i =>
    have h1 : i.size = 1 := by simpa [hq] using hi
    have h2 : (k : Int) < (n : Int) := by omega
    simp [Instr.index, asIntOf, run_underlying ht, part, isAgg, run_underlying he, sizeOf, typeInfo, hq, h1, h2, hc]
    intro h
    omega
theorem text_step (k : Nat) : va 64 (upd (upd (iv .u8 (fupN (2 * k) (fun _ => 48) fun _ => 0)) (2 * k) (.int .u8 48)) (2 * k + 1) (.int .u8 48)) = va 64 (iv .u8 (fupN (2 * (k + 1)) (fun _ => 48) fun _ => 0)) := by
  have e := fup_step .u8 64 (2 * k) (fun _ => 48) fun _ => 0
  have e1 : upd (iv .u8 (fupN (2 * k) (fun _ => 48) fun _ => 0)) (2 * k) (.int .u8 48) = iv .u8 (fupN (2 * k + 1) (fun _ => 48) fun _ => 0) := by
    rw [show (Value.int .u8 48) = Value.int .u8 ((48 : Nat) : Int) from rfl, upd_iv]
    congr 1
    funext j
    unfold updN fupN
    by_cases h : j = 2 * k
    · rw [if_pos h, if_pos (by omega)]
    · rw [if_neg h]
      by_cases h2 : j < 2 * k
      · rw [if_pos h2, if_pos (by omega)]
      · rw [if_neg h2, if_neg (by omega)]
  rw [e1]
  exact fup_step .u8 64 (2 * k + 1) (fun _ => 48) fun _ => 0

set_option maxRecDepth 100000 in
set_option maxHeartbeats 4000000 in
theorem text_zero (w : World) :
    Calls Try.prog 24 #[.agg (va 32 (iv .u8 fun _ => 0))] w fun e w' => ∃ t, e = .returned (.string t) ∧ t.size = 64 ∧ Below w.heap.size w w' := by
  have h0 : Blk (w.alloc (.cells (va 32 (iv .u8 fun _ => 0)) 39)) w.heap.size 39 (va 32 (iv .u8 fun _ => 0)) := Blk.new _ _ _
  have h0' := fun o => h0.alloc o
  clear h0
  go_enter Try.func24, Try.ntmps24
  go_wp2_with (first
    | (refine wpList_load_row (by rfl) 39 _ (by rfl) w.heap.size (by rfl) 39 (va 32 (iv .u8 fun _ => 0)) (0, 0) _ (h0' _) Try.underlying39 (by rfl) (sizeSumT.trans (by rw [va_size])) ?_; simp only [Act.put, List.setIfInBounds_toArray, List.set_cons_zero, List.set_cons_succ])
    | fail)
  clear h0'
  go_loopw [7] (fun i wr => ∃ k : Nat, k ≤ 32 ∧ i = .int .i64 k ∧ Blk wr (w.heap.size + 1) 91 (va 64 (iv .u8 (fupN (2 * k) (fun _ => 48) fun _ => 0))) ∧ Below w.heap.size w wr) (fun i _ => 32 - (intOf i).toNat)
  case atStart =>
    refine ⟨0, by omega, rfl, ?_, ((Below.refl _ _).alloc (Nat.le_refl _) _).alloc (by simp) _⟩
    have e : (w.alloc (.cells (va 32 (iv .u8 fun _ => 0)) 39)).heap.size = w.heap.size + 1 := by simp
    rw [← e, Nat.mul_zero, fup_zero]
    exact Blk.new _ _ (va 64 (iv .u8 fun _ => 0))
  case round =>
    obtain ⟨k, hk, rfl, h1, hb⟩ := hrel
    by_cases hlt : k < 32
    · have hx : Sem.run Try.prog (Instr.index 39 (.agg (va 32 (iv .u8 fun _ => 0))) (.int .i64 (k : Int))) wr = .ok (.int .u8 0) wr := run_index_agg wr 39 5 32 _ k .u8 0 Try.underlying39 Try.underlying5 (by kernel_rfl) hlt (va_at _ hlt)
      obtain ⟨q, hq⟩ : ∃ q : Nat, q = 2 * k := ⟨_, rfl⟩
      have HS := text_step k
      rw [← hq] at h1 HS
      have d0 : (({ data := #[48, 49, 50, 51, 52, 53, 54, 55, 56, 57, 97, 98, 99, 100, 101, 102] } : ByteArray)[0]'(by decide)).toNat = 48 := rfl
      have i0 : (0 : Int) ≤ (k : Int) := by omega
      have i1 : (k : Int) < 32 := by omega
      have e1 : (2 : Int) * (k : Int) = (q : Int) := by omega
      have q0 : (0 : Int) ≤ (q : Int) := by omega
      have q1 : (q : Int) < 64 := by omega
      have q2 : (q : Int) + 1 < 64 := by omega
      have q3 : q ≤ 62 := by omega
      have c0 := h1.cv (i := q) (by omega)
      have f0 := h1.frozen q
      have p1 := h1.put q (.int .u8 48)
      rw [va_set] at p1
      have c1 := p1.cv (i := q + 1) (by omega)
      have f1 := p1.frozen (q + 1)
      have p2 := p1.put (q + 1) (.int .u8 48)
      rw [va_set, HS] at p2
      have HP : Hid (Blk ((wr.setCell ⟨w.heap.size + 1, q, none⟩ (.int .u8 48)).setCell ⟨w.heap.size + 1, q + 1, none⟩ (.int .u8 48)) (w.heap.size + 1) 91 (va 64 (iv .u8 (fupN (2 * (k + 1)) (fun _ => 48) fun _ => 0)))) := p2
      clear HS p1 p2 hq
      go_wp2_with fail
      refine ⟨⟨k + 1, by omega, by simp, HP.out, (hb.setCell (by show w.heap.size ≤ w.heap.size + 1; omega) _).setCell (by show w.heap.size ≤ w.heap.size + 1; omega) _⟩, ?_⟩
      simp [intOf]
      omega
    · obtain rfl : k = 32 := by omega
      rw [fup_all _ 64 (2 * 32) _ _ (Nat.le_refl _)] at h1
      have hcv := run_convert_bytes_arg (P := Try.prog) wr 44 5 Try.underlying44 Try.underlying5 (w.heap.size + 1) 0 64 64 (List.replicate 64 48) (by simp) (fun i hi => by
        rw [Nat.zero_add, h1.cv hi, List.getD_eq_getElem?_getD, List.getElem?_replicate, if_pos hi]
        rfl) 9 Try.underlying9
      have hsz : (strOfNums (List.replicate 64 48)).size = 64 := by rw [strOfNums_size]; simp
      generalize strOfNums (List.replicate 64 48) = tx at *
      go_wp2_with fail
      go_ret
      exact ⟨_, rfl, hsz, hb⟩
end Go.Proofs.Ytjjjgnaihnknjaa
