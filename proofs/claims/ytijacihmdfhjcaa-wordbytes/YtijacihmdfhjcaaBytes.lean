/- Contracts of the functions on numbers in bytes, in the program and in the document's answer: what each returns, and that no memory that was there has changed. Strings are of every length that there can be. -/
import Derived.Test.YtijacihmdfhjcaaExtends
import Derived.Test.YtijacihmdfhjcaaMathBytes
import Derived.Handy
namespace Go.Proofs.Ytijacihmdfhjcaa
open Go.RowKit

theorem Try.info5 : (Try.prog.info? 5).map (fun i => (i.zero, i.size, i.bytes)) = some (some (.int .u8 0), 1, 1) := by kernel_rfl

/-- the byte of a text at a place, and numbers of its bytes -/
def byteAt (s : ByteArray) (i : Nat) : Nat := (s.data.toList.getD i 0).toNat
theorem byteAt_get (s : ByteArray) (i : Nat) (h : i < s.size) : byteAt s i = s[i].toNat := by
  have h' : i < s.data.size := h
  simp [byteAt, List.getD]
  rw [Array.getElem?_eq_getElem h']; rfl
def at2 (s : ByteArray) (a : Nat) : Nat := le2 (byteAt s a) (byteAt s (a + 1))
def at4 (s : ByteArray) (a : Nat) : Nat := le4 (byteAt s a) (byteAt s (a + 1)) (byteAt s (a + 2)) (byteAt s (a + 3))
def at8 (s : ByteArray) (a : Nat) : Nat := le8 (byteAt s a) (byteAt s (a + 1)) (byteAt s (a + 2)) (byteAt s (a + 3)) (byteAt s (a + 4)) (byteAt s (a + 5)) (byteAt s (a + 6)) (byteAt s (a + 7))

set_option maxHeartbeats 400000 in
theorem there_yes (s : ByteArray) (a k : Nat) (hs : s.size ≤ maxLen) (hk : k ≤ 8) (h : a + k ≤ s.size) (w : World) :
    Calls Try.prog 39 #[.string s, .int .i64 (a : Int), .int .i64 (k : Int)] w fun e w' => e = .returned (.bool true) ∧ w' = w := by
  unfold maxLen at hs
  have e1 : decide ((a : Int) ≤ (s.size : Int) - (k : Int)) = true := by simp; omega
  go_enter Try.func39, Try.ntmps39
  go_wp2
  go_ret
  exact ⟨by simp, rfl⟩
set_option maxHeartbeats 400000 in
theorem there_no (s : ByteArray) (i k : Int) (hs : s.size ≤ maxLen) (hk : 0 ≤ k) (hk2 : k ≤ 8) (h : i < 0 ∨ (0 ≤ i ∧ (s.size : Int) - k < i)) (w : World) :
    Calls Try.prog 39 #[.string s, .int .i64 i, .int .i64 k] w fun e w' => e = .returned (.bool false) ∧ w' = w := by
  unfold maxLen at hs
  rcases h with h | ⟨h0, h⟩
  · go_enter Try.func39, Try.ntmps39
    go_wp2
    go_ret
    exact ⟨by simp, rfl⟩
  · have e1 : decide (i ≤ (s.size : Int) - k) = false := by simp; omega
    go_enter Try.func39, Try.ntmps39
    go_wp2
    go_ret
    exact ⟨by simp, rfl⟩

set_option maxHeartbeats 1000000 in
theorem bytes16_any (x : Nat) (w : World) :
    Calls Try.prog 8 #[.int .u16 (x : Int)] w fun e w' => e = .returned (.agg #[.int .u8 ((x % 256 : Nat) : Int), .int .u8 ((x / 256 % 256 : Nat) : Int)]) ∧ Below w.heap.size w w' := by
  go_enter Try.func8, Try.ntmps8
  go_wp2
  go_rounds 3
  go_returns
  refine ⟨by simp, ?_⟩
  go_grown

set_option maxHeartbeats 1000000 in
theorem of16_any (a0 a1 : Nat) (h0 : a0 < 256) (h1 : a1 < 256) (w : World) :
    Calls Try.prog 14 #[.agg #[.int .u8 (a0 : Int), .int .u8 (a1 : Int)]] w fun e w' => e = .returned (.int .u16 (le2 a0 a1 : Int)) ∧ Below w.heap.size w w' := by
  go_enter Try.func14, Try.ntmps14
  go_wp2
  go_rounds 3
  go_returns
  refine ⟨ret_int (of2_val a0 a1 h0 h1), ?_⟩
  go_grown

set_option maxHeartbeats 1000000 in
theorem take16_no (s : ByteArray) (i : Int) (hs : s.size ≤ maxLen) (h : i < 0 ∨ (0 ≤ i ∧ (s.size : Int) - 2 < i)) (w : World) :
    Calls Try.prog 17 #[.string s, .int .i64 i] w fun e w' => e = .returned (.tuple #[.int .u16 0, .bool false]) ∧ Below w.heap.size w w' := by
  go_enter Try.func17, Try.ntmps17
  go_wp2_with fail
  refine (there_no s i 2 hs (by decide) (by decide) h _).mono ?_
  rintro e w' ⟨rfl, rfl⟩
  go_wp2
  go_ret2
  refine ⟨rfl, ?_⟩
  go_grown
set_option maxHeartbeats 1000000 in
theorem take16_yes (s : ByteArray) (a : Nat) (hs : s.size ≤ maxLen) (h : a + 2 ≤ s.size) (w : World) :
    Calls Try.prog 17 #[.string s, .int .i64 (a : Int)] w fun e w' => e = .returned (.tuple #[.int .u16 (at2 s a : Int), .bool true]) ∧ Below w.heap.size w w' := by
  have hs' := hs
  unfold maxLen at hs
  have HE : Hid (at2 s a = le2 s[a].toNat s[a + 1].toNat) := by
    show at2 s a = le2 s[a].toNat s[a + 1].toNat
    unfold at2; rw [byteAt_get s a (by omega), byteAt_get s (a + 1) (by omega)]
  go_enter Try.func17, Try.ntmps17
  go_wp2_with fail
  refine (there_yes s a 2 hs' (by decide) h _).mono ?_
  rintro e w' ⟨rfl, rfl⟩
  go_wp2
  refine wp_loop_rounds 3 ?_
  rw [rounds_succ]
  go_wp2
  rw [rounds_succ]
  go_wp2
  rw [rounds_succ]
  go_wp2_with fail
  refine (of16_any _ _ (UInt8.toNat_lt _) (UInt8.toNat_lt _) _).mono ?_
  rintro e w1 ⟨rfl, hb⟩
  go_wp2
  go_ret2
  rw [HE.out]
  refine ⟨rfl, ?_⟩
  exact ((Below.refl _ _).alloc (Nat.le_refl _) _).trans (hb.mono (by simp))

set_option maxHeartbeats 1000000 in
theorem bytes32_any (x : Nat) (w : World) :
    Calls Try.prog 9 #[.int .u32 (x : Int)] w fun e w' => e = .returned (.agg #[.int .u8 ((x % 256 : Nat) : Int), .int .u8 ((x / 256 % 256 : Nat) : Int), .int .u8 ((x / 65536 % 256 : Nat) : Int), .int .u8 ((x / 16777216 % 256 : Nat) : Int)]) ∧ Below w.heap.size w w' := by
  go_enter Try.func9, Try.ntmps9
  go_wp2
  go_rounds 5
  go_returns
  refine ⟨by simp, ?_⟩
  go_grown

set_option maxHeartbeats 1000000 in
theorem of32_any (a0 a1 a2 a3 : Nat) (h0 : a0 < 256) (h1 : a1 < 256) (h2 : a2 < 256) (h3 : a3 < 256) (w : World) :
    Calls Try.prog 15 #[.agg #[.int .u8 (a0 : Int), .int .u8 (a1 : Int), .int .u8 (a2 : Int), .int .u8 (a3 : Int)]] w fun e w' => e = .returned (.int .u32 (le4 a0 a1 a2 a3 : Int)) ∧ Below w.heap.size w w' := by
  go_enter Try.func15, Try.ntmps15
  go_wp2
  go_rounds 5
  go_returns
  refine ⟨ret_int (of4_val a0 a1 a2 a3 h0 h1 h2 h3), ?_⟩
  go_grown

set_option maxHeartbeats 1000000 in
theorem take32_no (s : ByteArray) (i : Int) (hs : s.size ≤ maxLen) (h : i < 0 ∨ (0 ≤ i ∧ (s.size : Int) - 4 < i)) (w : World) :
    Calls Try.prog 18 #[.string s, .int .i64 i] w fun e w' => e = .returned (.tuple #[.int .u32 0, .bool false]) ∧ Below w.heap.size w w' := by
  go_enter Try.func18, Try.ntmps18
  go_wp2_with fail
  refine (there_no s i 4 hs (by decide) (by decide) h _).mono ?_
  rintro e w' ⟨rfl, rfl⟩
  go_wp2
  go_ret2
  refine ⟨rfl, ?_⟩
  go_grown
set_option maxHeartbeats 1000000 in
theorem take32_yes (s : ByteArray) (a : Nat) (hs : s.size ≤ maxLen) (h : a + 4 ≤ s.size) (w : World) :
    Calls Try.prog 18 #[.string s, .int .i64 (a : Int)] w fun e w' => e = .returned (.tuple #[.int .u32 (at4 s a : Int), .bool true]) ∧ Below w.heap.size w w' := by
  have hs' := hs
  unfold maxLen at hs
  have HE : Hid (at4 s a = le4 s[a].toNat s[a + 1].toNat s[a + 2].toNat s[a + 3].toNat) := by
    show at4 s a = le4 s[a].toNat s[a + 1].toNat s[a + 2].toNat s[a + 3].toNat
    unfold at4; rw [byteAt_get s a (by omega), byteAt_get s (a + 1) (by omega), byteAt_get s (a + 2) (by omega), byteAt_get s (a + 3) (by omega)]
  go_enter Try.func18, Try.ntmps18
  go_wp2_with fail
  refine (there_yes s a 4 hs' (by decide) h _).mono ?_
  rintro e w' ⟨rfl, rfl⟩
  go_wp2
  refine wp_loop_rounds 5 ?_
  rw [rounds_succ]
  go_wp2
  rw [rounds_succ]
  go_wp2
  rw [rounds_succ]
  go_wp2
  rw [rounds_succ]
  go_wp2
  rw [rounds_succ]
  go_wp2_with fail
  refine (of32_any _ _ _ _ (UInt8.toNat_lt _) (UInt8.toNat_lt _) (UInt8.toNat_lt _) (UInt8.toNat_lt _) _).mono ?_
  rintro e w1 ⟨rfl, hb⟩
  go_wp2
  go_ret2
  rw [HE.out]
  refine ⟨rfl, ?_⟩
  exact ((Below.refl _ _).alloc (Nat.le_refl _) _).trans (hb.mono (by simp))

set_option maxHeartbeats 1000000 in
theorem bytes64_any (x : Nat) (w : World) :
    Calls Try.prog 10 #[.int .u64 (x : Int)] w fun e w' => e = .returned (.agg #[.int .u8 ((x % 256 : Nat) : Int), .int .u8 ((x / 256 % 256 : Nat) : Int), .int .u8 ((x / 65536 % 256 : Nat) : Int), .int .u8 ((x / 16777216 % 256 : Nat) : Int), .int .u8 ((x / 4294967296 % 256 : Nat) : Int), .int .u8 ((x / 1099511627776 % 256 : Nat) : Int), .int .u8 ((x / 281474976710656 % 256 : Nat) : Int), .int .u8 ((x / 72057594037927936 % 256 : Nat) : Int)]) ∧ Below w.heap.size w w' := by
  go_enter Try.func10, Try.ntmps10
  go_wp2
  go_rounds 9
  go_returns
  refine ⟨by simp, ?_⟩
  go_grown

set_option maxHeartbeats 1000000 in
theorem of64_any (a0 a1 a2 a3 a4 a5 a6 a7 : Nat) (h0 : a0 < 256) (h1 : a1 < 256) (h2 : a2 < 256) (h3 : a3 < 256) (h4 : a4 < 256) (h5 : a5 < 256) (h6 : a6 < 256) (h7 : a7 < 256) (w : World) :
    Calls Try.prog 16 #[.agg #[.int .u8 (a0 : Int), .int .u8 (a1 : Int), .int .u8 (a2 : Int), .int .u8 (a3 : Int), .int .u8 (a4 : Int), .int .u8 (a5 : Int), .int .u8 (a6 : Int), .int .u8 (a7 : Int)]] w fun e w' => e = .returned (.int .u64 (le8 a0 a1 a2 a3 a4 a5 a6 a7 : Int)) ∧ Below w.heap.size w w' := by
  go_enter Try.func16, Try.ntmps16
  go_wp2
  go_rounds 9
  go_returns
  refine ⟨ret_int (of8_val a0 a1 a2 a3 a4 a5 a6 a7 h0 h1 h2 h3 h4 h5 h6 h7), ?_⟩
  go_grown

set_option maxHeartbeats 1000000 in
theorem take64_no (s : ByteArray) (i : Int) (hs : s.size ≤ maxLen) (h : i < 0 ∨ (0 ≤ i ∧ (s.size : Int) - 8 < i)) (w : World) :
    Calls Try.prog 19 #[.string s, .int .i64 i] w fun e w' => e = .returned (.tuple #[.int .u64 0, .bool false]) ∧ Below w.heap.size w w' := by
  go_enter Try.func19, Try.ntmps19
  go_wp2_with fail
  refine (there_no s i 8 hs (by decide) (by decide) h _).mono ?_
  rintro e w' ⟨rfl, rfl⟩
  go_wp2
  go_ret2
  refine ⟨rfl, ?_⟩
  go_grown
set_option maxHeartbeats 1000000 in
theorem take64_yes (s : ByteArray) (a : Nat) (hs : s.size ≤ maxLen) (h : a + 8 ≤ s.size) (w : World) :
    Calls Try.prog 19 #[.string s, .int .i64 (a : Int)] w fun e w' => e = .returned (.tuple #[.int .u64 (at8 s a : Int), .bool true]) ∧ Below w.heap.size w w' := by
  have hs' := hs
  unfold maxLen at hs
  have HE : Hid (at8 s a = le8 s[a].toNat s[a + 1].toNat s[a + 2].toNat s[a + 3].toNat s[a + 4].toNat s[a + 5].toNat s[a + 6].toNat s[a + 7].toNat) := by
    show at8 s a = le8 s[a].toNat s[a + 1].toNat s[a + 2].toNat s[a + 3].toNat s[a + 4].toNat s[a + 5].toNat s[a + 6].toNat s[a + 7].toNat
    unfold at8; rw [byteAt_get s a (by omega), byteAt_get s (a + 1) (by omega), byteAt_get s (a + 2) (by omega), byteAt_get s (a + 3) (by omega), byteAt_get s (a + 4) (by omega), byteAt_get s (a + 5) (by omega), byteAt_get s (a + 6) (by omega), byteAt_get s (a + 7) (by omega)]
  go_enter Try.func19, Try.ntmps19
  go_wp2_with fail
  refine (there_yes s a 8 hs' (by decide) h _).mono ?_
  rintro e w' ⟨rfl, rfl⟩
  go_wp2
  refine wp_loop_rounds 9 ?_
  rw [rounds_succ]
  go_wp2
  rw [rounds_succ]
  go_wp2
  rw [rounds_succ]
  go_wp2
  rw [rounds_succ]
  go_wp2
  rw [rounds_succ]
  go_wp2
  rw [rounds_succ]
  go_wp2
  rw [rounds_succ]
  go_wp2
  rw [rounds_succ]
  go_wp2
  rw [rounds_succ]
  go_wp2_with fail
  refine (of64_any _ _ _ _ _ _ _ _ (UInt8.toNat_lt _) (UInt8.toNat_lt _) (UInt8.toNat_lt _) (UInt8.toNat_lt _) (UInt8.toNat_lt _) (UInt8.toNat_lt _) (UInt8.toNat_lt _) (UInt8.toNat_lt _) _).mono ?_
  rintro e w1 ⟨rfl, hb⟩
  go_wp2
  go_ret2
  rw [HE.out]
  refine ⟨rfl, ?_⟩
  exact ((Below.refl _ _).alloc (Nat.le_refl _) _).trans (hb.mono (by simp))

end Go.Proofs.Ytijacihmdfhjcaa
