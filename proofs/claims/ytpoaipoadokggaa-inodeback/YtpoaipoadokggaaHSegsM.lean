/- A region that draws its order, as a machine: operations that are shown to yield are taken ahead; then whatever is ready may come next: a relation over what has been done so far (a list of bools) says enough for each next step. No program in it. -/
import Derived.Test.YtpoaipoadokggaaHIoCheck
import Derived.BigQuiet
import Derived.Deep.QuietTactic
import Derived.Handy
import Derived.Test.YtpoaipoadokggaaHSegsS

namespace Go.Proofs.Ytpoaipoadokggaa
open Go Go.RowKit
set_option linter.unusedSimpArgs false
set_option linter.unusedVariables false
set_option maxRecDepth 20000
/-- what Check answers -/
def chE (x : Ino) : Int := if chk x = true then 0 else 140
set_option maxHeartbeats 4000000 in
theorem check_any (x : Ino) (hx : InW x) (w : World) : Calls Try.prog 11 #[.agg (inC x)] w fun e w' => e = .returned (.int .i64 (chE x)) ∧ Below w.heap.size w w' := by
  have hz := zero_ino
  have r0 : Blk (w.alloc (.cells (inC x) 31)) w.heap.size 31 (inC x) := Blk.new _ _ _
  have HB0 : Hid (Below w.heap.size w (w.alloc (.cells (inC x) 31)) ∧ w.heap.size < (w.alloc (.cells (inC x) 31)).heap.size) := ⟨below_new1 _ _, by simp⟩
  have hq : ∀ W, (Op.equalIn 10000 31 (.agg (inC x)) (.agg (inC in0))).run Try.prog W = .ok (decide (x = in0)) W := eq_ino 9995 x in0
  have HL : Hid (∀ w, Calls Try.prog 29 #[.agg (inC x)] w fun e w' => e = .returned (.bool (lnk x)) ∧ Below w.heap.size w w') := rightLinks_any x
  have HS : Hid (∀ w, Calls Try.prog 30 #[.agg (inC x)] w fun e w' => e = .returned (.bool (siz x)) ∧ Below w.heap.size w w') := rightSize_any x
  have HT : Hid (siz x = true → ∀ w, Calls Try.prog 31 #[.agg (inC x)] w fun e w' => e = .returned (.bool (tre x)) ∧ Below w.heap.size w w') := fun h => rightTree_any x hx (by
    unfold siz at h
    split at h
    · cases h
    · simp only [Bool.and_eq_true, decide_eq_true_eq] at h
      exact h.2)
  have HO : Hid (chE x = if (decide (x = in0) || (lnk x && (siz x && tre x))) = true then 0 else 140) := rfl
  obtain ⟨b, hb⟩ : ∃ b, b = decide (x = in0) := ⟨_, rfl⟩
  rw [← hb] at hq HO
  clear hb
  generalize chE x = B at *
  generalize lnk x = bl at *
  generalize siz x = bs at *
  generalize tre x = bt at *
  go_enter Try.func11, Try.ntmps11
  cases b
  · go_wp2_with (first | (refine wpList_load_rowg (by rfl) 31 _ (by rfl) (w.heap.size) (by rfl) 31 (inC x) (0, 0) _ (by exact r0) Try.underlying31 (by rfl) (sizeIno.trans (by rw [inC_size])) ?_; simp only [Act.put, List.setIfInBounds_toArray, List.set_cons_zero, List.set_cons_succ]) | fail)
    generalize (w.alloc (.cells (inC x) 31)) = w0 at *
    refine (HL.out _).mono ?_
    intro e w1 hw1
    obtain ⟨he1, hb1⟩ := hw1
    subst he1
    have HB1 : Hid (Below w.heap.size w w1 ∧ w.heap.size < w1.heap.size) := ⟨HB0.out.1.trans (hb1.mono (by have := HB0.out.2; omega)), by have := HB0.out.2; have := hb1.size; omega⟩
    have r1 : Blk w1 w.heap.size 31 (inC x) := r0.below hb1 (HB0.out.2)
    clear hb1 HB0 r0
    cases bl
    · go_wp2_with fail
      go_ret
      exact ⟨by rw [HO.out]; rfl, HB1.out.1⟩
    · go_wp2_with (first | (refine wpList_load_rowg (by rfl) 31 _ (by rfl) (w.heap.size) (by rfl) 31 (inC x) (0, 0) _ (by exact r1) Try.underlying31 (by rfl) (sizeIno.trans (by rw [inC_size])) ?_; simp only [Act.put, List.setIfInBounds_toArray, List.set_cons_zero, List.set_cons_succ]) | fail)
      refine (HS.out _).mono ?_
      intro e w2 hw2
      obtain ⟨he2, hb2⟩ := hw2
      subst he2
      have HB2 : Hid (Below w.heap.size w w2 ∧ w.heap.size < w2.heap.size) := ⟨HB1.out.1.trans (hb2.mono (by have := HB1.out.2; omega)), by have := HB1.out.2; have := hb2.size; omega⟩
      have r2 : Blk w2 w.heap.size 31 (inC x) := r1.below hb2 (HB1.out.2)
      clear hb2 HB1 r1
      cases bs
      · go_wp2_with fail
        go_ret
        exact ⟨by rw [HO.out]; rfl, HB2.out.1⟩
      · have HT' : Hid (∀ w, Calls Try.prog 31 #[.agg (inC x)] w fun e w' => e = .returned (.bool bt) ∧ Below w.heap.size w w') := HT.out rfl
        clear HT
        go_wp2_with (first | (refine wpList_load_rowg (by rfl) 31 _ (by rfl) (w.heap.size) (by rfl) 31 (inC x) (0, 0) _ (by exact r2) Try.underlying31 (by rfl) (sizeIno.trans (by rw [inC_size])) ?_; simp only [Act.put, List.setIfInBounds_toArray, List.set_cons_zero, List.set_cons_succ]) | fail)
        refine (HT'.out _).mono ?_
        intro e w3 hw3
        obtain ⟨he3, hb3⟩ := hw3
        subst he3
        have HB3 : Hid (Below w.heap.size w w3 ∧ w.heap.size < w3.heap.size) := ⟨HB2.out.1.trans (hb3.mono (by have := HB2.out.2; omega)), by have := HB2.out.2; have := hb3.size; omega⟩
        have r3 : Blk w3 w.heap.size 31 (inC x) := r2.below hb3 (HB2.out.2)
        clear hb3 HB2 r2
        cases bt
        · go_wp2_with fail
          go_ret
          exact ⟨by rw [HO.out]; rfl, HB3.out.1⟩
        · go_wp2_with fail
          go_ret
          exact ⟨by rw [HO.out]; rfl, HB3.out.1⟩
  · go_wp2_with (first | (refine wpList_load_rowg (by rfl) 31 _ (by rfl) (w.heap.size) (by rfl) 31 (inC x) (0, 0) _ (by exact r0) Try.underlying31 (by rfl) (sizeIno.trans (by rw [inC_size])) ?_; simp only [Act.put, List.setIfInBounds_toArray, List.set_cons_zero, List.set_cons_succ]) | fail)
    go_ret
    exact ⟨by rw [HO.out]; rfl, HB0.out.1⟩
theorem tdiv_nn (a b : Int) (h : 0 ≤ a) : a.tdiv b = a / b := Int.tdiv_eq_ediv_of_nonneg h
theorem tmod_nn (a b : Int) (h : 0 ≤ a) : a.tmod b = a % b := Int.tmod_eq_emod_of_nonneg h
set_option maxHeartbeats 4000000 in
theorem height_any (n : Int) (hn : -9223372036854775808 ≤ n ∧ n ≤ 9223372036854775807) (w : World) : Calls Try.prog 14 #[.int .i64 n] w fun e w' => e = .returned (if 0 ≤ n ∧ n ≤ 1048576 then .tuple #[.int .i64 (hL 256 n), .int .i64 0] else .tuple #[.int .i64 0, .int .i64 1]) ∧ w' = w := by
  by_cases h1 : 0 ≤ n
  · by_cases h2 : n ≤ 1048576
    · rw [if_pos ⟨h1, h2⟩]
      have HL : Hid (∀ w : World, Calls Try.prog 34 #[.int .i64 256, .int .i64 n] w fun e w' => e = .returned (.int .i64 (hL 256 n)) ∧ w' = w) := least256 n hn.1 (by omega)
      generalize hL 256 n = H at *
      have h3 : ¬ n < 0 := by omega
      have h4 : ¬ 1048576 < n := by omega
      go_enter Try.func14, Try.ntmps14
      go_wp2_with fail
      refine (HL.out _).mono ?_
      intro e w2 hw2
      obtain ⟨he2, hb2⟩ := hw2
      subst he2 hb2
      go_wp2_with fail
      go_ret2
      exact ⟨rfl, rfl⟩
    · rw [if_neg fun h => h2 h.2]
      have h3 : ¬ n < 0 := by omega
      have h4 : 1048576 < n := by omega
      clear h1 h2
      go_enter Try.func14, Try.ntmps14
      go_wp2_with fail
      go_ret2
      exact ⟨rfl, rfl⟩
  · rw [if_neg fun h => h1 h.1]
    have h3 : n < 0 := by omega
    clear h1
    go_enter Try.func14, Try.ntmps14
    go_wp2_with fail
    go_ret2
    exact ⟨rfl, rfl⟩
set_option maxHeartbeats 4000000 in
theorem place_any (n : Int) (hn : -9223372036854775808 ≤ n ∧ n ≤ 9223372036854775807) (w : World) : Calls Try.prog 18 #[.int .i64 n] w fun e w' => e = .returned (if 1 ≤ n ∧ n ≤ 4096 then .tuple #[.int .i64 ((n - 1) / 4), .int .i64 ((n - 1) % 4), .int .i64 0] else .tuple #[.int .i64 0, .int .i64 0, .int .i64 141]) ∧ w' = w := by
  by_cases h1 : 1 ≤ n
  · by_cases h2 : n ≤ 4096
    · rw [if_pos ⟨h1, h2⟩]
      have HE : Hid ((n - 1).tdiv 4 = (n - 1) / 4 ∧ (n - 1).tmod 4 = (n - 1) % 4) := ⟨tdiv_nn _ _ (by omega), tmod_nn _ _ (by omega)⟩
      have h3 : ¬ n < 1 := by omega
      have h4 : ¬ 4096 < n := by omega
      go_enter Try.func18, Try.ntmps18
      go_wp2_with fail
      go_ret3
      exact ⟨by first | rfl | (rw [← HE.out.1, ← HE.out.2]; rfl), rfl⟩
    · rw [if_neg fun h => h2 h.2]
      have h3 : ¬ n < 1 := by omega
      have h4 : 4096 < n := by omega
      clear h1 h2
      go_enter Try.func18, Try.ntmps18
      go_wp2_with fail
      go_ret3
      exact ⟨rfl, rfl⟩
  · rw [if_neg fun h => h1 h.1]
    have h3 : n < 1 := by omega
    clear h1
    go_enter Try.func18, Try.ntmps18
    go_wp2_with fail
    go_ret3
    exact ⟨rfl, rfl⟩
end Go.Proofs.Ytpoaipoadokggaa

namespace Go.Proofs.Ytpoaipoadokggaa
open Go Go.RowKit
set_option linter.unusedSimpArgs false
set_option linter.unusedVariables false
def at2 (s : ByteArray) (a : Nat) : Nat := le2 (tbyte s a) (tbyte s (a + 1))
def at8 (s : ByteArray) (a : Nat) : Nat := le8 (tbyte s a) (tbyte s (a + 1)) (tbyte s (a + 2)) (tbyte s (a + 3)) (tbyte s (a + 4)) (tbyte s (a + 5)) (tbyte s (a + 6)) (tbyte s (a + 7))
set_option maxHeartbeats 1000000 in
theorem bytes16_any (x : Nat) (w : World) :
    Calls Try.prog 24 #[.int .u16 (x : Int)] w fun e w' => e = .returned (.agg #[.int .u8 ((x % 256 : Nat) : Int), .int .u8 ((x / 256 % 256 : Nat) : Int)]) ∧ Below w.heap.size w w' := by
  go_enter Try.func24, Try.ntmps24
  go_wp2
  go_rounds 3
  go_returns
  refine ⟨by simp, ?_⟩
  go_grown
set_option maxHeartbeats 1000000 in
theorem of16_any (a0 a1 : Nat) (h0 : a0 < 256) (h1 : a1 < 256) (w : World) :
    Calls Try.prog 44 #[.agg #[.int .u8 (a0 : Int), .int .u8 (a1 : Int)]] w fun e w' => e = .returned (.int .u16 (le2 a0 a1 : Int)) ∧ Below w.heap.size w w' := by
  go_enter Try.func44, Try.ntmps44
  go_wp2
  go_rounds 3
  go_returns
  refine ⟨ret_int (of2_val a0 a1 h0 h1), ?_⟩
  go_grown
set_option maxHeartbeats 1000000 in
theorem take16_no (s : ByteArray) (i : Int) (hs : s.size ≤ maxLen) (h : i < 0 ∨ (0 ≤ i ∧ (s.size : Int) - 2 < i)) (w : World) :
    Calls Try.prog 38 #[.string s, .int .i64 i] w fun e w' => e = .returned (.tuple #[.int .u16 0, .bool false]) ∧ Below w.heap.size w w' := by
  go_enter Try.func38, Try.ntmps38
  go_wp2_with fail
  refine (there_no s i 2 hs (by decide) (by decide) h _).mono ?_
  rintro e w' ⟨rfl, rfl⟩
  go_wp2
  go_ret2
  refine ⟨rfl, ?_⟩
  go_grown
set_option maxHeartbeats 1000000 in
theorem take16_yes (s : ByteArray) (a : Nat) (hs : s.size ≤ maxLen) (h : a + 2 ≤ s.size) (w : World) :
    Calls Try.prog 38 #[.string s, .int .i64 (a : Int)] w fun e w' => e = .returned (.tuple #[.int .u16 (at2 s a : Int), .bool true]) ∧ Below w.heap.size w w' := by
  have hs' := hs
  unfold maxLen at hs
  have HE : Hid (at2 s a = le2 s[a].toNat s[a + 1].toNat) := by
    show at2 s a = le2 s[a].toNat s[a + 1].toNat
    unfold at2; rw [tbyte_get s a (by omega), tbyte_get s (a + 1) (by omega)]
  go_enter Try.func38, Try.ntmps38
  go_wp2_with fail
  refine (there_yes s a 2 hs' (by decide) h _).mono ?_
  rintro e w' ⟨rfl, rfl⟩
  go_wp2
  refine wp_loop_rounds 3 ?_
  rw [rounds_succ]
  go_wp2
  rw [rounds_succ]
  go_wp2
  rw [rounds_succ]
  go_wp2_with fail
  refine (of16_any _ _ (UInt8.toNat_lt _) (UInt8.toNat_lt _) _).mono ?_
  rintro e w1 ⟨rfl, hb⟩
  go_wp2
  go_ret2
  rw [HE.out]
  refine ⟨rfl, ?_⟩
  exact ((Below.refl _ _).alloc (Nat.le_refl _) _).trans (hb.mono (by simp))
set_option maxHeartbeats 1000000 in
theorem of64_any (a0 a1 a2 a3 a4 a5 a6 a7 : Nat) (h0 : a0 < 256) (h1 : a1 < 256) (h2 : a2 < 256) (h3 : a3 < 256) (h4 : a4 < 256) (h5 : a5 < 256) (h6 : a6 < 256) (h7 : a7 < 256) (w : World) :
    Calls Try.prog 45 #[.agg #[.int .u8 (a0 : Int), .int .u8 (a1 : Int), .int .u8 (a2 : Int), .int .u8 (a3 : Int), .int .u8 (a4 : Int), .int .u8 (a5 : Int), .int .u8 (a6 : Int), .int .u8 (a7 : Int)]] w fun e w' => e = .returned (.int .u64 (le8 a0 a1 a2 a3 a4 a5 a6 a7 : Int)) ∧ Below w.heap.size w w' := by
  go_enter Try.func45, Try.ntmps45
  go_wp2
  go_rounds 9
  go_returns
  refine ⟨ret_int (of8_val a0 a1 a2 a3 a4 a5 a6 a7 h0 h1 h2 h3 h4 h5 h6 h7), ?_⟩
  go_grown
set_option maxHeartbeats 1000000 in
theorem take64_no (s : ByteArray) (i : Int) (hs : s.size ≤ maxLen) (h : i < 0 ∨ (0 ≤ i ∧ (s.size : Int) - 8 < i)) (w : World) :
    Calls Try.prog 39 #[.string s, .int .i64 i] w fun e w' => e = .returned (.tuple #[.int .u64 0, .bool false]) ∧ Below w.heap.size w w' := by
  go_enter Try.func39, Try.ntmps39
  go_wp2_with fail
  refine (there_no s i 8 hs (by decide) (by decide) h _).mono ?_
  rintro e w' ⟨rfl, rfl⟩
  go_wp2
  go_ret2
  refine ⟨rfl, ?_⟩
  go_grown
set_option maxHeartbeats 1000000 in
theorem take64_yes (s : ByteArray) (a : Nat) (hs : s.size ≤ maxLen) (h : a + 8 ≤ s.size) (w : World) :
    Calls Try.prog 39 #[.string s, .int .i64 (a : Int)] w fun e w' => e = .returned (.tuple #[.int .u64 (at8 s a : Int), .bool true]) ∧ Below w.heap.size w w' := by
  have hs' := hs
  unfold maxLen at hs
  have HE : Hid (at8 s a = le8 s[a].toNat s[a + 1].toNat s[a + 2].toNat s[a + 3].toNat s[a + 4].toNat s[a + 5].toNat s[a + 6].toNat s[a + 7].toNat) := by
    show at8 s a = le8 s[a].toNat s[a + 1].toNat s[a + 2].toNat s[a + 3].toNat s[a + 4].toNat s[a + 5].toNat s[a + 6].toNat s[a + 7].toNat
    unfold at8; rw [tbyte_get s a (by omega), tbyte_get s (a + 1) (by omega), tbyte_get s (a + 2) (by omega), tbyte_get s (a + 3) (by omega), tbyte_get s (a + 4) (by omega), tbyte_get s (a + 5) (by omega), tbyte_get s (a + 6) (by omega), tbyte_get s (a + 7) (by omega)]
  go_enter Try.func39, Try.ntmps39
  go_wp2_with fail
  refine (there_yes s a 8 hs' (by decide) h _).mono ?_
  rintro e w' ⟨rfl, rfl⟩
  go_wp2
  refine wp_loop_rounds 9 ?_
  rw [rounds_succ]
  go_wp2
  rw [rounds_succ]
  go_wp2
  rw [rounds_succ]
  go_wp2
  rw [rounds_succ]
  go_wp2
  rw [rounds_succ]
  go_wp2
  rw [rounds_succ]
  go_wp2
  rw [rounds_succ]
  go_wp2
  rw [rounds_succ]
  go_wp2
  rw [rounds_succ]
  go_wp2_with fail
  refine (of64_any _ _ _ _ _ _ _ _ (UInt8.toNat_lt _) (UInt8.toNat_lt _) (UInt8.toNat_lt _) (UInt8.toNat_lt _) (UInt8.toNat_lt _) (UInt8.toNat_lt _) (UInt8.toNat_lt _) (UInt8.toNat_lt _) _).mono ?_
  rintro e w1 ⟨rfl, hb⟩
  go_wp2
  go_ret2
  rw [HE.out]
  refine ⟨rfl, ?_⟩
  exact ((Below.refl _ _).alloc (Nat.le_refl _) _).trans (hb.mono (by simp))
theorem at2_lt (s : ByteArray) (a : Nat) : at2 s a < 65536 := by
  have := tbyte_lt s a; have := tbyte_lt s (a + 1); unfold at2 le2; omega
theorem at8_lt (s : ByteArray) (a : Nat) : at8 s a < 18446744073709551616 := by
  have := tbyte_lt s a; have := tbyte_lt s (a + 1); have := tbyte_lt s (a + 2); have := tbyte_lt s (a + 3); have := tbyte_lt s (a + 4); have := tbyte_lt s (a + 5); have := tbyte_lt s (a + 6); have := tbyte_lt s (a + 7); unfold at8 le8; omega
theorem bytes16_va (x : Nat) (w : World) : Calls Try.prog 24 #[.int .u16 (x : Int)] w fun e w' => e = .returned (.agg (va 2 (iv .u8 (dig x)))) ∧ Below w.heap.size w w' := by
  have h : va 2 (iv .u8 (dig x)) = #[.int .u8 ((x % 256 : Nat) : Int), .int .u8 ((x / 256 % 256 : Nat) : Int)] := by
    show #[iv .u8 (dig x) 0, iv .u8 (dig x) 1] = _
    simp [iv, dig]
  rw [h]
  exact bytes16_any x w
/-- what a text has at a place; nought where it ends ahead of that -/
def tk2 (s : ByteArray) (a : Nat) : Nat := if a + 2 ≤ s.size then at2 s a else 0
def tk8 (s : ByteArray) (a : Nat) : Nat := if a + 8 ≤ s.size then at8 s a else 0
theorem take16_tk (s : ByteArray) (a : Nat) (hs : s.size ≤ maxLen) (w : World) : Calls Try.prog 38 #[.string s, .int .i64 (a : Int)] w fun e w' => (∃ b, e = .returned (.tuple #[.int .u16 (tk2 s a : Int), .bool b])) ∧ Below w.heap.size w w' := by
  unfold tk2
  by_cases h : a + 2 ≤ s.size
  · rw [if_pos h]
    exact (take16_yes s a hs h w).mono fun e w' ⟨h1, h2⟩ => ⟨⟨_, h1⟩, h2⟩
  · rw [if_neg h]
    exact (take16_no s a hs (Or.inr (by omega)) w).mono fun e w' ⟨h1, h2⟩ => ⟨⟨_, h1⟩, h2⟩
theorem take64_tk (s : ByteArray) (a : Nat) (hs : s.size ≤ maxLen) (w : World) : Calls Try.prog 39 #[.string s, .int .i64 (a : Int)] w fun e w' => (∃ b, e = .returned (.tuple #[.int .u64 (tk8 s a : Int), .bool b])) ∧ Below w.heap.size w w' := by
  unfold tk8
  by_cases h : a + 8 ≤ s.size
  · rw [if_pos h]
    exact (take64_yes s a hs h w).mono fun e w' ⟨h1, h2⟩ => ⟨⟨_, h1⟩, h2⟩
  · rw [if_neg h]
    exact (take64_no s a hs (Or.inr (by omega)) w).mono fun e w' ⟨h1, h2⟩ => ⟨⟨_, h1⟩, h2⟩
end Go.Proofs.Ytpoaipoadokggaa

namespace Go.Proofs.Ytpoaipoadokggaa
open Go Go.RowKit

/-- the plan of a region's walk -/
inductive Plan where
  | fin (takes : List Nat)
  | force (ts : List Nat) (i : Nat) (next : Plan)
  | yield (ts : List Nat) (i : Nat) (next : Plan)
  | fork (i j : Nat) (p q : Plan)
def Plan.len : Plan → Nat
  | .fin takes => takes.length
  | .force ts _ p => ts.length + (1 + p.len)
  | .yield ts _ p => ts.length + (1 + p.len)
  | .fork _ _ p _ => p.len + 1
/-- the check -/
def Plan.ok (ops : Array Oper) : Plan → Array Bool → Bool
  | .fin takes, listed => match takesB .any ops [] [] takes listed with
    | some l => (Region.ready .any ops l).isEmpty
    | none => false
  | .force ts i p, listed => match takesB .any ops [] [] ts listed with
    | some l => forceW .any ops l i && p.ok ops (l.setIfInBounds i true)
    | none => false
  | .yield ts i p, listed => match takesB .any ops [] [] ts listed with
    | some l => yieldW .any ops l [] i && p.ok ops (l.setIfInBounds i true)
    | none => false
  | .fork i j p q, listed => Region.ready .any ops listed == [i, j] && (ops[i]?).isSome && (ops[j]?).isSome && p.len == q.len && p.ok ops (listed.setIfInBounds i true) && q.ok ops (listed.setIfInBounds j true)
section
variable {P : Program} {ops : Array Oper} {Q : Exit → Act → World → Prop} {S : World → Prop}
end
end Go.Proofs.Ytpoaipoadokggaa

namespace Go.Proofs.Ytpoaipoadokggaa
open Go Go.RowKit
section
variable {P : Program} {ops : Array Oper} {Q : Exit → Act → World → Prop} {S : World → Prop}
/-- every order from here on: each operation that is ready may come next (pre) -/
def machB (ops : Array Oper) (pre : Nat → Array Bool → Bool) (fin : Array Bool → Bool) : Nat → Array Bool → Bool
  | 0, l => (Region.ready .any ops l).isEmpty && fin l
  | f + 1, l => !(Region.ready .any ops l).isEmpty && (Region.ready .any ops l).all fun i => pre i l && (ops[i]?).isSome && machB ops pre fin f (l.setIfInBounds i true)
/-- the operations that are taken ahead, then the machine: the check -/
def yieldsB (ops : Array Oper) (pre : Nat → Array Bool → Bool) (fin : Array Bool → Bool) : List Nat → Nat → Array Bool → Bool
  | [], f, l => machB ops pre fin f l
  | i :: ys, f, l => yieldW .any ops l [] i && yieldsB ops pre fin ys f (l.setIfInBounds i true)
/-- .. and the walk -/
def wpYields (P : Program) (ops : Array Oper) (S : World → Prop) (K : Array Bool → Act → Prop) : List Nat → Array Bool → Act → Prop
  | [], l, a => K l a
  | i :: ys, l, a => ∃ o v, ops[i]? = some o ∧ YieldsIf P ops S o v a ∧ wpYields P ops S K ys (l.setIfInBounds i true) (a.put o.dst v)
theorem mach_step {pre : Nat → Array Bool → Bool} {fin : Array Bool → Bool} {R : Array Bool → Act → World → Prop}
    (hstep : ∀ i l a w, pre i l = true → R l a w → wpList P ops (Strict fun _ a' w' => S w' ∧ R (l.setIfInBounds i true) a' w') ([i].filterMap fun i => ops[i]?) a w)
    (hend : ∀ l a w, fin l = true → R l a w → Strict Q .normal a w) :
    ∀ (fuel : Nat) (l : Array Bool) (a : Act) (w : World), machB ops pre fin fuel l = true → R l a w → wpAnyW P .any ops (Strict Q) S (([] : List Nat).contains ·) fuel l a w
  | 0, l, a, w, hg, hR => by
    simp only [machB, Bool.and_eq_true, List.isEmpty_iff] at hg
    exact ⟨hg.1, hend l a w hg.2 hR⟩
  | fuel + 1, l, a, w, hg, hR => by
    unfold machB at hg
    simp only [Bool.and_eq_true, Bool.not_eq_true'] at hg
    refine ⟨fun h => (by rw [h] at hg; exact absurd hg.1 (by decide)), fun i hi => ?_⟩
    have hg2 := hg.2
    rw [List.all_eq_true] at hg2
    have h2 := hg2 i hi
    simp only [Bool.and_eq_true] at h2
    obtain ⟨o, ho⟩ := Option.isSome_iff_exists.1 h2.1.2
    refine wpOp_mono (fun a' w' h' => ?_) (wpOp_strict (wpList_one ho (hstep i l a w h2.1.1 hR)))
    exact ⟨fun _ => h'.2.1, mach_step hstep hend fuel _ a' w' h2.2 h'.2.2⟩
theorem yields_step (hs : Region.noSelect ops = true) {pre : Nat → Array Bool → Bool} {fin : Array Bool → Bool} {K : Array Bool → Act → Prop} {w : World} (hS : S w) {f : Nat}
    (hK : ∀ l a, machB ops pre fin f l = true → K l a → wpAnyW P .any ops (Strict Q) S (([] : List Nat).contains ·) f l a w) :
    ∀ (ys : List Nat) (l : Array Bool) (a : Act), yieldsB ops pre fin ys f l = true → wpYields P ops S K ys l a → wpAnyW P .any ops (Strict Q) S (([] : List Nat).contains ·) (ys.length + f) l a w
  | [], l, a, hb, h => by
    rw [List.length_nil, Nat.zero_add]
    exact hK l a hb h
  | i :: ys, l, a, hb, h => by
    simp only [yieldsB, Bool.and_eq_true] at hb
    obtain ⟨o, v, ho, hy, hn⟩ := h
    have hc := hb.1
    unfold yieldW at hc
    rw [ho] at hc
    simp only [Bool.and_eq_true, Bool.not_eq_true'] at hc
    rw [List.length_cons, show ys.length + 1 + f = ys.length + f + 1 from by omega]
    exact takeS_gen hs ho hc.1.1.1 hc.1.1.2 hc.1.2 hc.2 hy hS (yields_step hs hS hK ys _ _ hb.2 hn)
/-- the whole check -/
def machWhole (ops : Array Oper) (pre : Nat → Array Bool → Bool) (fin : Array Bool → Bool) (ys : List Nat) (f : Nat) : Bool :=
  (ys.length + f == ops.size) && Region.noSelect ops && yieldsB ops pre fin ys f (Array.replicate ops.size false)
/-- THE LAW. -/
theorem wp_region_mach {id : Nat} {a : Act} {w : World} (S : World → Prop) (pre : Nat → Array Bool → Bool) (fin : Array Bool → Bool) (ys : List Nat) (f : Nat) (R : Array Bool → Act → World → Prop)
    (hm : P.follows .mixedOrders = true) (hB : machWhole ops pre fin ys f = true) (hS : S w.drew)
    (hy : wpYields P ops S (fun l a' => R l a' w.drew) ys (Array.replicate ops.size false) a)
    (hstep : ∀ i l a w, pre i l = true → R l a w → wpList P ops (Strict fun _ a' w' => S w' ∧ R (l.setIfInBounds i true) a' w') ([i].filterMap fun i => ops[i]?) a w)
    (hend : ∀ l a w, fin l = true → R l a w → Strict Q .normal a w) : (Code.region id ops true).wp P Q a w := by
  unfold machWhole at hB
  simp only [Bool.and_eq_true, beq_iff_eq] at hB
  obtain ⟨⟨e, hs⟩, hb⟩ := hB
  refine Code.wp_mono Strict.imp (wp_region_any hm ?_)
  rw [← e] at hb hy ⊢
  exact wpAny_of_W _ _ _ _ (yields_step hs hS (fun l a' h1 h2 => mach_step hstep hend f l a' _ h1 h2) ys _ a hb hy)
end
end Go.Proofs.Ytpoaipoadokggaa
