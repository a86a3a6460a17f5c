/- The digest's first chain, and into how many pieces a text is cut: contracts of the program and of the document's answer. -/
import Derived.Test.YtaoglljkghkbpaaDigBytes
import Derived.Test.YtaoglljkghkbpaaOrders
import Derived.Handy
namespace Go.Proofs.Ytaoglljkghkbpaa
open Go.RowKit
set_option linter.unusedSimpArgs false

theorem sizeChain : (Try.prog.info? 102).map (·.size) = some 8 := by kernel_rfl
theorem first_val (tag k : Nat) (ht : tag < 256) : bits .xor .u32 (2654435769 * ((k : Int) + 1) % 4294967296) ((tag : Int) * 16777216) = (firstN tag k : Int) := by
  have := u32_xor_nat (2654435769 * (k + 1) % 4294967296) (tag * 16777216) (Nat.mod_lt _ (by decide)) (by omega)
  unfold firstN
  rw [← this]
  congr 1
set_option maxHeartbeats 1000000 in
theorem first_any (tag : Nat) (h : tag < 256) (w : World) :
    Calls Try.prog 48 #[.int .u8 (tag : Int)] w fun e w' => e = .returned (.agg (va 8 (iv .u32 (firstN tag)))) ∧ Below w.heap.size w w' := by
  go_enter Try.func48, Try.ntmps48
  go_wp2
  go_loopw [5] (fun i wr => ∃ k : Nat, k ≤ 8 ∧ i = .int .i64 k ∧ Blk wr w.heap.size 102 (va 8 (iv .u32 fun _ => 0)) ∧ Blk wr (w.heap.size + 1) 102 (va 8 (iv .u32 (fupN k (firstN tag) fun _ => 0))) ∧ Below w.heap.size w wr) (fun i _ => 8 - (intOf i).toNat)
  case atStart =>
    refine ⟨0, by omega, rfl, ?_, ?_, ?_⟩
    · exact (Blk.new w _ _).alloc _
    · have e : (w.alloc (.cells (va 8 (iv .u32 fun _ => 0)) 102)).heap.size = w.heap.size + 1 := by simp
      rw [← e]
      exact Blk.new _ _ _
    · exact ((Below.refl _ _).alloc (Nat.le_refl _) _).alloc (by simp) _
  case round =>
    obtain ⟨k, hk, rfl, h0, h1, hb⟩ := hrel
    by_cases hlt : k < 8
    · have HV : Hid (bits .xor .u32 (2654435769 * ((k : Int) + 1) % 4294967296) ((tag : Int) * 16777216) = (firstN tag k : Int)) := first_val tag k h
      have ck := h1.cv hlt
      have fk := h1.frozen k
      go_wp2
      go_roundw
      case rel =>
        refine ⟨k + 1, by omega, by go_num, h0.put_other _ _ (by omega), ?_, hb.setCell (by simp) _⟩
        have := h1.put k (.int .u32 (firstN tag k : Int))
        rw [va_set, fup_step, ← HV.out] at this
        exact this
      case measure => simp [intOf]; omega
    · obtain rfl : k = 8 := by omega
      rw [fup_all _ 8 8 _ _ (Nat.le_refl _)] at h1
      go_wp2_with (first
        | (refine wpList_load_row (by rfl) 102 _ (by rfl) (w.heap.size + 1) (by rfl) 102 (va 8 (iv .u32 (firstN tag))) (0, 0) _ h1 Try.underlying102 (by rfl) (sizeChain.trans (by rw [va_size])) ?_; simp only [Act.put, List.setIfInBounds_toArray, List.set_cons_zero, List.set_cons_succ])
        | (refine wpList_store_row (by rfl) 102 _ _ (by rfl) w.heap.size (va 8 (iv .u32 (firstN tag))) (by rfl) (by rfl) 102 _ h0 (sizeChain.trans (by rw [va_size])) (by rw [va_size, va_size]) (iv_one _ _ _) ?_; simp only [Act.put, List.setIfInBounds_toArray, List.set_cons_zero, List.set_cons_succ])
        | fail)
      try simp only [Exit.inBlock, Exit.then]
      refine bodyPost_ret (results_cell_row Try.results48 _ _ w.heap.size 102 (va 8 (iv .u32 (firstN tag))) (0, 0) _ rfl (h0.set _) Try.underlying102 rfl (sizeChain.trans (by rw [va_size]))) rfl ?_
      exact ⟨rfl, below_setRow hb (Nat.le_refl _) _⟩

end Go.Proofs.Ytaoglljkghkbpaa
