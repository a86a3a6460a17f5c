/- Contracts of the document's own functions on numbers in bytes: what each returns, and that no memory that was there has changed. Strings are of every length that there can be. -/
import Derived.Test.YtijacihmdfhjcaaBytes
import Derived.Lib.ConvBytes
namespace Go.Proofs.Ytijacihmdfhjcaa
open Go.RowKit

theorem below_bytesWorld (w : World) (e : TypeId) (s : ByteArray) : Below w.heap.size w (Lib.bytesWorld w e s) :=
  ⟨rfl, rfl, rfl, by rw [Lib.bytesWorld_size]; omega, fun k hk => Lib.bytesWorld_at_old w e s k hk⟩

theorem byteAt_extract (s : ByteArray) (a k j : Nat) (hj : j < k) : byteAt (s.extract a (a + k)) j = byteAt s (a + j) := by
  unfold byteAt
  rw [ByteArray.data_extract]
  simp [List.getD, hj]
theorem byteAt_lt (s : ByteArray) (j : Nat) : byteAt s j < 256 := UInt8.toNat_lt _

theorem bw_cell (w : World) (s : ByteArray) (a k j : Nat) (hj : j < k) (h : a + k ≤ s.size) :
    (Lib.bytesWorld w 5 (s.extract a (a + k))).cell? ⟨w.heap.size, j, none⟩ = some (.int .u8 ((byteAt s (a + j) : Nat) : Int)) := by
  rw [Lib.bytesWorld_cell w 5 _ j (by simp; omega)]
  rw [← byteAt_extract s a k j hj]; rfl

set_option maxHeartbeats 1000000 in
theorem bytesEq_any (b1 c1 b2 c2 k : Nat) (xs : List Int) (hx : xs.length = k) (w : World) (h1 : ∀ i, i < k → w.cell? ⟨b1, i, none⟩ = some (.int .u8 (xs.getD i 0))) (h2 : ∀ i, i < k → w.cell? ⟨b2, i, none⟩ = some (.int .u8 (xs.getD i 0))) :
    Calls Try.prog 12 #[.slice (some ⟨b1, 0, none⟩) k c1, .slice (some ⟨b2, 0, none⟩) k c2] w fun e w' => e = .returned (.bool true) ∧ w' = w := by
  have e1 := run_convert_bytes_arg (P := Try.prog) w 33 5 Try.underlying33 Try.underlying5 b1 0 k c1 xs hx (by simpa using h1) 9 Try.underlying9
  have e2 := run_convert_bytes_arg (P := Try.prog) w 33 5 Try.underlying33 Try.underlying5 b2 0 k c2 xs hx (by simpa using h2) 9 Try.underlying9
  clear h1 h2
  generalize strOfNums xs = t at *
  go_enter Try.func12, Try.ntmps12
  go_wp2
  go_ret
  exact ⟨by simp, rfl⟩

set_option maxHeartbeats 1000000 in
theorem refBytes_own (n k : Nat) (hk : k ≤ 8) (hn : n < 18446744073709551616) (w : World) :
    Calls Try.prog 13 #[.int .u64 (n : Int), .int .i64 (k : Int)] w fun e w' => ∃ v, e = .returned v ∧ w'.ownsRow w.heap.size 5 1 v k ((digs n k).map (Value.int .u8)) ∧ Below w.heap.size w w' := by
  obtain ⟨i0, hi, hz0, hz1, hz2⟩ := info_parts Try.info5
  go_enter Try.func13, Try.ntmps13
  go_wp2
  go_loopw [0, 5, 6] (fun m v i wr => ∃ j : Nat, j ≤ k ∧ i = .int .i64 j ∧ m = .int .u64 ((n / 256 ^ j : Nat) : Int) ∧ wr.ownsRow w.heap.size 5 1 v j ((digs n j).map (Value.int .u8)) ∧ Below w.heap.size w wr) (fun _ _ i _ => k - (intOf i).toNat)
  case atStart =>
    refine ⟨0, by omega, rfl, by simp, ?_, (Below.refl _ _).alloc (Nat.le_refl _) _⟩
    exact World.ownsRow_lit w #[] 0 (Nat.le_refl _) (by decide) rfl
  case round =>
    obtain ⟨j, hj, rfl, rfl, hown, hbel⟩ := hrel
    by_cases hlt : j < k
    · have hv := hown.lt
      have hqn : n / 256 ^ j ≤ n := Nat.div_le_self _ _
      have HD := digs_succ n j
      have HQ : n / 256 ^ (j + 1) = n / 256 ^ j / 256 := by rw [Nat.pow_succ, Nat.div_div_eq_div_mul]
      generalize hq : n / 256 ^ j = q at *
      have HD' : Hid (digs n (j + 1) = digs n j ++ [((q % 256 : Nat) : Int)]) := HD
      have HQ' : Hid (n / 256 ^ (j + 1) = q / 256) := HQ
      clear HD HQ hq
      go_wp2_with (first
        | (at_builtin; refine wpList_append_own _ rfl _ _ 33 rfl w.heap.size 5 i0 (.int .u8 0) 1 1 Try.underlying33 hi hz0 hz1 hz2 rfl (by decide) _ _ _ rfl (hown.alloc _) ⟨wr.heap.size, 0, none⟩ 1 1 [.int .u8 ((q : Int) % 256)] rfl rfl (cell_one_new _ _ _) (fun x hx => by simp at hx; subst hx; rfl) (by unfold maxLen; omega) (by omega) (by have := hbel.size; simp; omega) ?_)
        | go_in)
      intro v' w1 hown' hgrow _
      have hb1 : Below w.heap.size w w1 := (hbel.alloc (by have := hbel.size; omega) _).grown hgrow (by have := hbel.size; simp; omega) (fun k hk => (hv k hk).1)
      clear hown hv hgrow hbel
      go_wp2
      go_roundw
      case rel =>
        refine ⟨j + 1, by omega, by go_num, ?_, ?_, hb1⟩
        · rw [HQ'.out]; simp
        · rw [HD'.out]; simpa using hown'
      case measure => simp [intOf]; omega
    · go_wp2
      go_ret
      have : j = k := by omega
      subst this
      exact ⟨_, rfl, hown, hbel⟩

theorem refBytes_any (n k : Nat) (hk0 : 1 ≤ k) (hk : k ≤ 8) (hn : n < 18446744073709551616) (w : World) :
    Calls Try.prog 13 #[.int .u64 (n : Int), .int .i64 (k : Int)] w fun e w' => ∃ g c, e = .returned (.slice (some ⟨g, 0, none⟩) k c) ∧ w.heap.size ≤ g ∧ g < w'.heap.size ∧
      (∀ i, i < k → w'.cell? ⟨g, i, none⟩ = some (.int .u8 ((digs n k).getD i 0))) ∧ Below w.heap.size w w' := by
  refine (refBytes_own n k hk hn w).mono ?_
  rintro e w' ⟨v, rfl, hown, hb⟩
  have hl := hown.lt
  rcases hown.2 with ⟨_, h0⟩ | ⟨g, cap, cur, rfl, h1, h2, h3, h4, h5, h6⟩
  · omega
  · refine ⟨g, cap, rfl, h1, (hl g rfl).2, ?_, hb⟩
    intro i hi
    rw [hown.cellAt i (by omega)]
    simp [List.getD, digs_length, hi]


set_option maxHeartbeats 1000000 in
theorem refOf16_any (b c a0 a1 : Nat) (w : World) (h0 : a0 < 256) (h1 : a1 < 256) (c0 : w.cell? ⟨b, 0, none⟩ = some (.int .u8 (a0 : Int))) (c1 : w.cell? ⟨b, 1, none⟩ = some (.int .u8 (a1 : Int))) :
    Calls Try.prog 40 #[.slice (some ⟨b, 0, none⟩) 2 c] w fun e w' => e = .returned (.int .u64 (le2 a0 a1 : Int)) ∧ w' = w := by
  go_enter Try.func40, Try.ntmps40
  go_wp2
  go_rounds 3
  go_returns
  refine ⟨ret_int ?_, rfl⟩
  unfold le2
  omega
set_option maxHeartbeats 1000000 in
theorem refTake16_yes (s : ByteArray) (a : Nat) (hs : s.size ≤ maxLen) (h : a + 2 ≤ s.size) (w : World) :
    Calls Try.prog 20 #[.string s, .int .i64 (a : Int), .int .i64 2] w fun e w' => e = .returned (.tuple #[.int .u64 (at2 s a : Int), .bool true]) ∧ Below w.heap.size w w' := by
  unfold maxLen at hs
  have hcv := fun w s => Lib.run_convert_string_bytes (P := Try.prog) w 9 33 5 s Try.underlying9 Try.underlying33 Try.underlying5
  go_enter Try.func20, Try.ntmps20
  go_wp2_with fail
  refine (refOf16_any w.heap.size _ (byteAt s (a + 0)) (byteAt s (a + 1)) _ (byteAt_lt _ _) (byteAt_lt _ _) (bw_cell w s a 2 0 (by decide) h) (bw_cell w s a 2 1 (by decide) h)).mono ?_
  rintro e w1 ⟨rfl, rfl⟩
  clear hcv
  go_wp2
  go_ret2
  exact ⟨rfl, below_bytesWorld _ _ _⟩
set_option maxHeartbeats 1000000 in
theorem refTake16_no (s : ByteArray) (i : Int) (_hs : s.size ≤ maxLen) (h : i < 0 ∨ (0 ≤ i ∧ (s.size : Int) - 2 < i)) (w : World) :
    Calls Try.prog 20 #[.string s, .int .i64 i, .int .i64 2] w fun e w' => e = .returned (.tuple #[.int .u64 0, .bool false]) ∧ w' = w := by
  unfold maxLen at _hs
  rcases h with h | ⟨h0, h⟩
  · go_enter Try.func20, Try.ntmps20
    go_wp2
    go_ret2
    exact ⟨rfl, rfl⟩
  · by_cases h2 : (s.size : Int) < i
    · go_enter Try.func20, Try.ntmps20
      go_wp2
      go_ret2
      exact ⟨rfl, rfl⟩
    · have e2 : decide ((s.size : Int) - i < 2) = true := by simp; omega
      have h3 : i ≤ (s.size : Int) := by omega
      go_enter Try.func20, Try.ntmps20
      go_wp2
      go_ret2
      exact ⟨rfl, rfl⟩

set_option maxHeartbeats 1000000 in
theorem refOf32_any (b c a0 a1 a2 a3 : Nat) (w : World) (h0 : a0 < 256) (h1 : a1 < 256) (h2 : a2 < 256) (h3 : a3 < 256) (c0 : w.cell? ⟨b, 0, none⟩ = some (.int .u8 (a0 : Int))) (c1 : w.cell? ⟨b, 1, none⟩ = some (.int .u8 (a1 : Int))) (c2 : w.cell? ⟨b, 2, none⟩ = some (.int .u8 (a2 : Int))) (c3 : w.cell? ⟨b, 3, none⟩ = some (.int .u8 (a3 : Int))) :
    Calls Try.prog 40 #[.slice (some ⟨b, 0, none⟩) 4 c] w fun e w' => e = .returned (.int .u64 (le4 a0 a1 a2 a3 : Int)) ∧ w' = w := by
  go_enter Try.func40, Try.ntmps40
  go_wp2
  go_rounds 5
  go_returns
  refine ⟨ret_int ?_, rfl⟩
  unfold le4
  omega
set_option maxHeartbeats 1000000 in
theorem refTake32_yes (s : ByteArray) (a : Nat) (hs : s.size ≤ maxLen) (h : a + 4 ≤ s.size) (w : World) :
    Calls Try.prog 20 #[.string s, .int .i64 (a : Int), .int .i64 4] w fun e w' => e = .returned (.tuple #[.int .u64 (at4 s a : Int), .bool true]) ∧ Below w.heap.size w w' := by
  unfold maxLen at hs
  have hcv := fun w s => Lib.run_convert_string_bytes (P := Try.prog) w 9 33 5 s Try.underlying9 Try.underlying33 Try.underlying5
  go_enter Try.func20, Try.ntmps20
  go_wp2_with fail
  refine (refOf32_any w.heap.size _ (byteAt s (a + 0)) (byteAt s (a + 1)) (byteAt s (a + 2)) (byteAt s (a + 3)) _ (byteAt_lt _ _) (byteAt_lt _ _) (byteAt_lt _ _) (byteAt_lt _ _) (bw_cell w s a 4 0 (by decide) h) (bw_cell w s a 4 1 (by decide) h) (bw_cell w s a 4 2 (by decide) h) (bw_cell w s a 4 3 (by decide) h)).mono ?_
  rintro e w1 ⟨rfl, rfl⟩
  clear hcv
  go_wp2
  go_ret2
  exact ⟨rfl, below_bytesWorld _ _ _⟩
set_option maxHeartbeats 1000000 in
theorem refTake32_no (s : ByteArray) (i : Int) (_hs : s.size ≤ maxLen) (h : i < 0 ∨ (0 ≤ i ∧ (s.size : Int) - 4 < i)) (w : World) :
    Calls Try.prog 20 #[.string s, .int .i64 i, .int .i64 4] w fun e w' => e = .returned (.tuple #[.int .u64 0, .bool false]) ∧ w' = w := by
  unfold maxLen at _hs
  rcases h with h | ⟨h0, h⟩
  · go_enter Try.func20, Try.ntmps20
    go_wp2
    go_ret2
    exact ⟨rfl, rfl⟩
  · by_cases h2 : (s.size : Int) < i
    · go_enter Try.func20, Try.ntmps20
      go_wp2
      go_ret2
      exact ⟨rfl, rfl⟩
    · have e2 : decide ((s.size : Int) - i < 4) = true := by simp; omega
      have h3 : i ≤ (s.size : Int) := by omega
      go_enter Try.func20, Try.ntmps20
      go_wp2
      go_ret2
      exact ⟨rfl, rfl⟩

set_option maxHeartbeats 1000000 in
theorem refOf64_any (b c a0 a1 a2 a3 a4 a5 a6 a7 : Nat) (w : World) (h0 : a0 < 256) (h1 : a1 < 256) (h2 : a2 < 256) (h3 : a3 < 256) (h4 : a4 < 256) (h5 : a5 < 256) (h6 : a6 < 256) (h7 : a7 < 256) (c0 : w.cell? ⟨b, 0, none⟩ = some (.int .u8 (a0 : Int))) (c1 : w.cell? ⟨b, 1, none⟩ = some (.int .u8 (a1 : Int))) (c2 : w.cell? ⟨b, 2, none⟩ = some (.int .u8 (a2 : Int))) (c3 : w.cell? ⟨b, 3, none⟩ = some (.int .u8 (a3 : Int))) (c4 : w.cell? ⟨b, 4, none⟩ = some (.int .u8 (a4 : Int))) (c5 : w.cell? ⟨b, 5, none⟩ = some (.int .u8 (a5 : Int))) (c6 : w.cell? ⟨b, 6, none⟩ = some (.int .u8 (a6 : Int))) (c7 : w.cell? ⟨b, 7, none⟩ = some (.int .u8 (a7 : Int))) :
    Calls Try.prog 40 #[.slice (some ⟨b, 0, none⟩) 8 c] w fun e w' => e = .returned (.int .u64 (le8 a0 a1 a2 a3 a4 a5 a6 a7 : Int)) ∧ w' = w := by
  go_enter Try.func40, Try.ntmps40
  go_wp2
  go_rounds 9
  go_returns
  refine ⟨ret_int ?_, rfl⟩
  unfold le8
  omega
set_option maxHeartbeats 1000000 in
theorem refTake64_yes (s : ByteArray) (a : Nat) (hs : s.size ≤ maxLen) (h : a + 8 ≤ s.size) (w : World) :
    Calls Try.prog 20 #[.string s, .int .i64 (a : Int), .int .i64 8] w fun e w' => e = .returned (.tuple #[.int .u64 (at8 s a : Int), .bool true]) ∧ Below w.heap.size w w' := by
  unfold maxLen at hs
  have hcv := fun w s => Lib.run_convert_string_bytes (P := Try.prog) w 9 33 5 s Try.underlying9 Try.underlying33 Try.underlying5
  go_enter Try.func20, Try.ntmps20
  go_wp2_with fail
  refine (refOf64_any w.heap.size _ (byteAt s (a + 0)) (byteAt s (a + 1)) (byteAt s (a + 2)) (byteAt s (a + 3)) (byteAt s (a + 4)) (byteAt s (a + 5)) (byteAt s (a + 6)) (byteAt s (a + 7)) _ (byteAt_lt _ _) (byteAt_lt _ _) (byteAt_lt _ _) (byteAt_lt _ _) (byteAt_lt _ _) (byteAt_lt _ _) (byteAt_lt _ _) (byteAt_lt _ _) (bw_cell w s a 8 0 (by decide) h) (bw_cell w s a 8 1 (by decide) h) (bw_cell w s a 8 2 (by decide) h) (bw_cell w s a 8 3 (by decide) h) (bw_cell w s a 8 4 (by decide) h) (bw_cell w s a 8 5 (by decide) h) (bw_cell w s a 8 6 (by decide) h) (bw_cell w s a 8 7 (by decide) h)).mono ?_
  rintro e w1 ⟨rfl, rfl⟩
  clear hcv
  go_wp2
  go_ret2
  exact ⟨rfl, below_bytesWorld _ _ _⟩
set_option maxHeartbeats 1000000 in
theorem refTake64_no (s : ByteArray) (i : Int) (_hs : s.size ≤ maxLen) (h : i < 0 ∨ (0 ≤ i ∧ (s.size : Int) - 8 < i)) (w : World) :
    Calls Try.prog 20 #[.string s, .int .i64 i, .int .i64 8] w fun e w' => e = .returned (.tuple #[.int .u64 0, .bool false]) ∧ w' = w := by
  unfold maxLen at _hs
  rcases h with h | ⟨h0, h⟩
  · go_enter Try.func20, Try.ntmps20
    go_wp2
    go_ret2
    exact ⟨rfl, rfl⟩
  · by_cases h2 : (s.size : Int) < i
    · go_enter Try.func20, Try.ntmps20
      go_wp2
      go_ret2
      exact ⟨rfl, rfl⟩
    · have e2 : decide ((s.size : Int) - i < 8) = true := by simp; omega
      have h3 : i ≤ (s.size : Int) := by omega
      go_enter Try.func20, Try.ntmps20
      go_wp2
      go_ret2
      exact ⟨rfl, rfl⟩

end Go.Proofs.Ytijacihmdfhjcaa
