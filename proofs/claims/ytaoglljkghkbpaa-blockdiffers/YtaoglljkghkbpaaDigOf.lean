/- The digest of a tag and a text: the program's contract; and the hasher's Sum of whatever it holds. -/
import Derived.Test.YtaoglljkghkbpaaDigWrite
import Derived.Test.YtaoglljkghkbpaaDigHSum
import Derived.Handy
namespace Go.Proofs.Ytaoglljkghkbpaa
open Go.RowKit
set_option linter.unusedSimpArgs false
set_option linter.unusedVariables false

/-- the digest of the text t, m bytes of it, out of a first chain -/
def ofC (c0 t : Nat → Nat) (m : Nat) : Nat → Nat := sumN (runN c0 (padN t m) ((m + 8) / 32 + 1))
theorem hold_sum (c0 t p : Nat → Nat) (m : Nat) (hp : ∀ j, j < m % 32 → p j = t (32 * (m / 32) + j)) (i : Nat) (hi : i < 32) :
    sumN (runN (runN c0 t (m / 32)) (endN p (m % 32) m) ((m % 32 + 8) / 32 + 1)) i = ofC c0 t m i := by
  unfold ofC
  have e : (m + 8) / 32 + 1 = m / 32 + ((m % 32 + 8) / 32 + 1) := by omega
  rw [e, run_add c0 (padN t m) (m / 32) ((m % 32 + 8) / 32 + 1)]
  refine sum_congr (run_congr (run_congr (fun _ _ => rfl) _ fun j hj => ?_) _ fun j hj => ?_) i hi
  · show t j = padN t m j
    unfold padN
    rw [if_pos (by omega)]
  · show endN p (m % 32) m j = padN t m (32 * (m / 32) + j)
    rw [pad_split]
    unfold endN
    by_cases h1 : j < m % 32
    · rw [if_pos h1, if_pos h1, hp j h1]
    · rw [if_neg h1, if_neg h1]
theorem sum_holds (g m : Nat) (c0 t : Nat → Nat) (hc0 : okC c0) (ht : ∀ i, t i < 256) (hm : m ≤ 140737488351232) (w : World) (h : Holds w g c0 t m) :
    Calls Try.prog 46 #[.pointer (some ⟨g, 0, none⟩)] w fun e w' => e = .returned (.agg (va 32 (iv .u8 (ofC c0 t m)))) ∧ Below w.heap.size w w' := by
  obtain ⟨p, hp, hpt, hB⟩ := h
  refine (hsum_any g m _ p (run_ok hc0 ht _) hp (by omega) w hB).mono ?_
  rintro e w' ⟨rfl, hb⟩
  refine ⟨?_, hb⟩
  have e : va 32 (iv .u8 (sumN (runN (runN c0 t (m / 32)) (endN p (m % 32) m) ((m % 32 + 8) / 32 + 1)))) = va 32 (iv .u8 (ofC c0 t m)) := va_congr fun i hi => by
    unfold iv
    rw [hold_sum c0 t p m hpt i hi]
  rw [e]
theorem new_holds (tag : Nat) (h : tag < 256) (t : Nat → Nat) (w : World) :
    Calls Try.prog 44 #[.int .u8 (tag : Int)] w fun e w' => ∃ g, e = .returned (.pointer (some ⟨g, 0, none⟩)) ∧ w.heap.size ≤ g ∧ Holds w' g (firstN tag) t 0 ∧ Below w.heap.size w w' := by
  refine (new_any tag h w).mono ?_
  rintro e w' ⟨g, rfl, hg, hB, hb⟩
  exact ⟨g, rfl, hg, ⟨fun _ => 0, fun _ _ => Nat.zero_lt_succ _, fun j hj => absurd hj (by omega), hB⟩, hb⟩
theorem Holds.lt {w : World} {g m : Nat} {c0 t : Nat → Nat} (h : Holds w g c0 t m) : g < w.heap.size := by
  obtain ⟨p, _, _, hB⟩ := h
  exact hB.lt

set_option maxHeartbeats 4000000 in
theorem of_any (tag : Nat) (h : tag < 256) (s : ByteArray) (hs : s.size ≤ 140737488351232) (w : World) :
    Calls Try.prog 33 #[.int .u8 (tag : Int), .string s] w fun e w' => e = .returned (.agg (va 32 (iv .u8 (ofC (firstN tag) (byteAt s) s.size)))) ∧ Below w.heap.size w w' := by
  have hN : Hid (∀ w : World, Calls Try.prog 44 #[.int .u8 (tag : Int)] w fun e w' => ∃ g, e = .returned (.pointer (some ⟨g, 0, none⟩)) ∧ w.heap.size ≤ g ∧ Holds w' g (firstN tag) (byteAt s) 0 ∧ Below w.heap.size w w') := fun w => new_holds tag h _ w
  have hW : Hid (∀ (g : Nat) (w : World), Holds w g (firstN tag) (byteAt s) 0 → Calls Try.prog 45 #[.pointer (some ⟨g, 0, none⟩), .string s] w fun e w' => e = .returned (.tuple #[]) ∧ Holds w' g (firstN tag) (byteAt s) s.size ∧ Keeps g w w') := fun g w hH => by
    have := write_any g 0 (firstN tag) (byteAt s) s (first_ok tag h) (byteAt_lt s) (by omega) (fun j _ => by rw [Nat.zero_add]) w hH
    rw [Nat.zero_add] at this
    exact this
  have hS : Hid (∀ (g : Nat) (w : World), Holds w g (firstN tag) (byteAt s) s.size → Calls Try.prog 46 #[.pointer (some ⟨g, 0, none⟩)] w fun e w' => e = .returned (.agg (va 32 (iv .u8 (ofC (firstN tag) (byteAt s) s.size)))) ∧ Below w.heap.size w w') := fun g w hH => sum_holds g s.size _ _ (first_ok tag h) (byteAt_lt s) hs w hH
  clear hs
  generalize ofC (firstN tag) (byteAt s) s.size = x at *
  have r0 : Blk (w.alloc (.cells #[.int .u8 0, .int .u8 0, .int .u8 0, .int .u8 0, .int .u8 0, .int .u8 0, .int .u8 0, .int .u8 0, .int .u8 0, .int .u8 0, .int .u8 0, .int .u8 0, .int .u8 0, .int .u8 0, .int .u8 0, .int .u8 0, .int .u8 0, .int .u8 0, .int .u8 0, .int .u8 0, .int .u8 0, .int .u8 0, .int .u8 0, .int .u8 0, .int .u8 0, .int .u8 0, .int .u8 0, .int .u8 0, .int .u8 0, .int .u8 0, .int .u8 0, .int .u8 0] 69)) w.heap.size 69 (va 32 (iv .u8 fun _ => 0)) := Blk.new _ _ _
  have b0 : Below w.heap.size w (w.alloc (.cells #[.int .u8 0, .int .u8 0, .int .u8 0, .int .u8 0, .int .u8 0, .int .u8 0, .int .u8 0, .int .u8 0, .int .u8 0, .int .u8 0, .int .u8 0, .int .u8 0, .int .u8 0, .int .u8 0, .int .u8 0, .int .u8 0, .int .u8 0, .int .u8 0, .int .u8 0, .int .u8 0, .int .u8 0, .int .u8 0, .int .u8 0, .int .u8 0, .int .u8 0, .int .u8 0, .int .u8 0, .int .u8 0, .int .u8 0, .int .u8 0, .int .u8 0, .int .u8 0] 69)) := (Below.refl _ _).alloc (Nat.le_refl _) _
  go_enter Try.func33, Try.ntmps33
  go_wp2_with fail
  refine (hN.out _).mono ?_
  rintro e w1 ⟨g, rfl, hg, hH, hb⟩
  have r1 := r0.below hb r0.lt
  have b1 : Below w.heap.size w w1 := b0.trans (hb.mono (Nat.le_of_lt r0.lt))
  have hg1 : w.heap.size < g := Nat.lt_of_lt_of_le r0.lt hg
  clear r0 b0 hb hg hN
  go_wp2_with fail
  refine (hW.out _ _ hH).mono ?_
  rintro e w2 ⟨rfl, hH2, hk⟩
  have r2 := hk.blk r1 (by omega)
  have b2 : Below w.heap.size w w2 := b1.trans (hk.1.mono (by omega))
  clear r1 b1 hH hk hW
  go_wp2_with fail
  refine (hS.out _ _ hH2).mono ?_
  rintro e w3 ⟨rfl, hb3⟩
  have r3 := r2.below hb3 r2.lt
  have b3 : Below w.heap.size w w3 := b2.trans (hb3.mono b2.size)
  clear r2 b2 hH2 hb3 hS
  go_wp2_with (first
    | (refine wpList_store_row (by rfl) 69 _ _ (by rfl) w.heap.size (va 32 (iv .u8 x)) (by rfl) (by rfl) 69 _ r3 (sizeSum.trans (by rw [va_size])) (by rw [va_size, va_size]) (iv_one _ _ _) ?_; simp only [Act.put, List.setIfInBounds_toArray, List.set_cons_zero, List.set_cons_succ])
    | fail)
  try simp only [Exit.inBlock, Exit.then]
  refine bodyPost_ret (results_cell_row Try.results33 _ _ w.heap.size 69 (va 32 (iv .u8 x)) (0, 0) _ rfl (r3.set _) Try.underlying69 rfl (sizeSum.trans (by rw [va_size]))) rfl ?_
  exact ⟨rfl, below_setRow b3 (Nat.le_refl _) _⟩
end Go.Proofs.Ytaoglljkghkbpaa
