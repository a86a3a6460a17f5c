/- What the statement DigestFeeds needs: texts joined out of parts, a nil hasher, the length of a hasher, and that what is held stays. -/
import Derived.Test.YtjjjgnaihnknjaaDigOf
import Derived.Test.YtjjjgnaihnknjaaDigRef
import Derived.Handy
namespace Go.Proofs.Ytjjjgnaihnknjaa
open Go.RowKit
set_option linter.unusedSimpArgs false
set_option linter.unusedVariables false

/-- the first i parts, joined -/
def preB (l : List ByteArray) (i : Nat) : ByteArray := (l.take i).foldl (· ++ ·) ByteArray.empty
theorem preB_zero (l : List ByteArray) : preB l 0 = ByteArray.empty := by simp [preB]
theorem preB_succ (l : List ByteArray) (i : Nat) (h : i < l.length) : preB l (i + 1) = preB l i ++ l.getD i ByteArray.empty := by
  unfold preB
  rw [List.take_add_one, List.getElem?_eq_getElem h, List.foldl_append]
  simp [List.getD, List.getElem?_eq_getElem h]
theorem preB_stop (l : List ByteArray) (i : Nat) (h : l.length ≤ i) : preB l i = preB l l.length := by
  unfold preB
  rw [List.take_of_length_le h, List.take_length]
theorem size_app (a b : ByteArray) : (a ++ b).size = a.size + b.size := ByteArray.size_append
theorem byteAt_app (a b : ByteArray) (j : Nat) : byteAt (a ++ b) j = if j < a.size then byteAt a j else byteAt b (j - a.size) := by
  have e : (a ++ b).data.toList = a.data.toList ++ b.data.toList := by
    rw [ByteArray.data_append]
    simp
  have hs : a.data.toList.length = a.size := Array.length_toList
  unfold byteAt
  rw [e]
  simp only [List.getD_eq_getElem?_getD]
  by_cases h : j < a.size
  · rw [if_pos h, List.getElem?_append_left (by omega)]
  · rw [if_neg h, List.getElem?_append_right (by omega), hs]
theorem preB_step (l : List ByteArray) (i : Nat) : (preB l i).size ≤ (preB l (i + 1)).size ∧ ∀ j, j < (preB l i).size → byteAt (preB l i) j = byteAt (preB l (i + 1)) j := by
  by_cases h : i < l.length
  · rw [preB_succ l i h, size_app]
    exact ⟨by omega, fun j hj => by rw [byteAt_app, if_pos hj]⟩
  · rw [preB_stop l i (by omega), preB_stop l (i + 1) (by omega)]
    exact ⟨Nat.le_refl _, fun _ _ => rfl⟩
theorem preB_mono (l : List ByteArray) (i : Nat) : ∀ k, (preB l i).size ≤ (preB l (i + k)).size ∧ ∀ j, j < (preB l i).size → byteAt (preB l i) j = byteAt (preB l (i + k)) j
  | 0 => ⟨Nat.le_refl _, fun _ _ => rfl⟩
  | k + 1 => by
    obtain ⟨h1, h2⟩ := preB_mono l i k
    obtain ⟨h3, h4⟩ := preB_step l (i + k)
    exact ⟨Nat.le_trans h1 h3, fun j hj => (h2 j hj).trans (h4 j (by omega))⟩
theorem preB_whole (l : List ByteArray) (i : Nat) : (preB l i).size ≤ (preB l l.length).size ∧ ∀ j, j < (preB l i).size → byteAt (preB l i) j = byteAt (preB l l.length) j := by
  by_cases h : i ≤ l.length
  · have := preB_mono l i (l.length - i)
    rwa [show i + (l.length - i) = l.length from by omega] at this
  · rw [preB_stop l i (by omega)]
    exact ⟨Nat.le_refl _, fun _ _ => rfl⟩
theorem ofC_congr {c0 t u : Nat → Nat} {m : Nat} (h : ∀ j, j < m → t j = u j) : va 32 (iv .u8 (ofC c0 t m)) = va 32 (iv .u8 (ofC c0 u m)) := va_congr fun i hi => by
  have e : padN t m = padN u m := by
    funext j
    unfold padN
    by_cases hj : j < m
    · rw [if_pos hj, if_pos hj, h j hj]
    · rw [if_neg hj, if_neg hj]
  unfold iv ofC
  rw [e]
theorem Holds.keep {w w' : World} {g g' m : Nat} {c0 t : Nat → Nat} (h : Holds w g' c0 t m) (hk : Keeps g w w') (hne : g' ≠ g) : Holds w' g' c0 t m := by
  obtain ⟨p, hp, hpt, hB⟩ := h
  exact ⟨p, hp, hpt, hk.blk hB hne⟩
theorem Holds.below {w w' : World} {g m B : Nat} {c0 t : Nat → Nat} (h : Holds w g c0 t m) (hb : Below B w w') (hB : g < B) : Holds w' g c0 t m := by
  obtain ⟨p, hp, hpt, hB'⟩ := h
  exact ⟨p, hp, hpt, hB'.below hb hB⟩

set_option maxHeartbeats 1000000 in
theorem write_nil (x : ByteArray) (w : World) :
    Calls Try.prog 18 #[.pointer none, .string x] w fun e w' => e = .returned (.tuple #[]) ∧ w' = w := by
  go_enter Try.func18, Try.ntmps18
  go_wp2_with fail
  refine bodyPost_ret (results_none Try.results18 _ _ _) rfl ?_
  exact ⟨rfl, rfl⟩
set_option maxHeartbeats 1000000 in
theorem len_nil (w : World) :
    Calls Try.prog 20 #[.pointer none] w fun e w' => e = .returned (.int .i64 0) ∧ w' = w := by
  go_enter Try.func20, Try.ntmps20
  go_wp2_with fail
  go_ret
  exact ⟨rfl, rfl⟩
set_option maxHeartbeats 1000000 in
theorem len_holds (g m : Nat) (c0 t : Nat → Nat) (w : World) (h : Holds w g c0 t m) :
    Calls Try.prog 20 #[.pointer (some ⟨g, 0, none⟩)] w fun e w' => e = .returned (.int .i64 (m : Int)) ∧ w' = w := by
  obtain ⟨p, _, _, hB⟩ := h
  have cm : w.cell? ⟨g, 40, none⟩ = some (.int .i64 (m : Int)) := hB.cv (by decide)
  clear hB
  go_enter Try.func20, Try.ntmps20
  go_wp2_with fail
  go_ret
  exact ⟨rfl, rfl⟩
set_option maxRecDepth 100000 in
set_option maxHeartbeats 4000000 in
theorem sum_nil (w : World) :
    Calls Try.prog 21 #[.pointer none] w fun e w' => e = .returned (.agg (va 32 (iv .u8 fun _ => 0))) ∧ Below w.heap.size w w' := by
  have r0 : Blk (w.alloc (.cells #[.int .u8 0, .int .u8 0, .int .u8 0, .int .u8 0, .int .u8 0, .int .u8 0, .int .u8 0, .int .u8 0, .int .u8 0, .int .u8 0, .int .u8 0, .int .u8 0, .int .u8 0, .int .u8 0, .int .u8 0, .int .u8 0, .int .u8 0, .int .u8 0, .int .u8 0, .int .u8 0, .int .u8 0, .int .u8 0, .int .u8 0, .int .u8 0, .int .u8 0, .int .u8 0, .int .u8 0, .int .u8 0, .int .u8 0, .int .u8 0, .int .u8 0, .int .u8 0] 39)) w.heap.size 39 (va 32 (iv .u8 fun _ => 0)) := Blk.new _ _ _
  have b0 : Below w.heap.size w (w.alloc (.cells #[.int .u8 0, .int .u8 0, .int .u8 0, .int .u8 0, .int .u8 0, .int .u8 0, .int .u8 0, .int .u8 0, .int .u8 0, .int .u8 0, .int .u8 0, .int .u8 0, .int .u8 0, .int .u8 0, .int .u8 0, .int .u8 0, .int .u8 0, .int .u8 0, .int .u8 0, .int .u8 0, .int .u8 0, .int .u8 0, .int .u8 0, .int .u8 0, .int .u8 0, .int .u8 0, .int .u8 0, .int .u8 0, .int .u8 0, .int .u8 0, .int .u8 0, .int .u8 0] 39)) := (Below.refl _ _).alloc (Nat.le_refl _) _
  go_enter Try.func21, Try.ntmps21
  go_wp2_with (first
    | (refine wpList_store_row (by rfl) 39 _ _ (by rfl) w.heap.size (va 32 (iv .u8 fun _ => 0)) (by rfl) (by rfl) 39 _ r0 (sizeSum.trans (by rw [va_size])) rfl (iv_one _ _ _) ?_; simp only [Act.put, List.setIfInBounds_toArray, List.set_cons_zero, List.set_cons_succ])
    | fail)
  try simp only [Exit.inBlock, Exit.then]
  refine bodyPost_ret (results_cell_row Try.results21 _ _ w.heap.size 39 (va 32 (iv .u8 fun _ => 0)) (0, 0) _ rfl (r0.set _) Try.underlying39 rfl (sizeSum.trans (by rw [va_size]))) rfl ?_
  exact ⟨rfl, below_setRow b0 (Nat.le_refl _) _⟩
end Go.Proofs.Ytjjjgnaihnknjaa
