/- Contracts of the functions that turn and shift bits, in the program and in the document's answer: what each returns, and that the world stays; for every word and every number. -/
import Derived.Test.YtijacihmdfhjcaaRows
import Derived.Test.YtijacihmdfhjcaaMath
import Derived.WalkKit
import Derived.ProofKit
import Derived.OpenShut
import Derived.WalkSpells
import Derived.Below
namespace Go.Proofs.Ytijacihmdfhjcaa
open Go.RowKit

theorem ret_int {k : IntKind} {a b : Int} (h : a = b) : Ending.returned (.int k a) = .returned (.int k b) := by rw [h]
theorem ret_int2 {k : IntKind} {a b : Int} {v : Value} (h : a = b) : Ending.returned (.tuple #[.int k a, v]) = .returned (.tuple #[.int k b, v]) := by rw [h]

set_option maxHeartbeats 400000 in
theorem bit_yes (x : Nat) (i : Int) (hx : x < 18446744073709551616) (h : tb x i = true) (w : World) :
    Calls Try.prog 42 #[.int .u64 x, .int .i64 i] w fun e w' => e = .returned (.int .u64 1) ∧ w' = w := by
  have h0 : 0 ≤ i := by
    by_cases h0 : 0 ≤ i
    · exact h0
    · rw [tb_neg x i (by omega)] at h; cases h
  have h1 : i < 64 := by
    by_cases h0 : i < 64
    · exact h0
    · rw [tb_big x i hx (by omega)] at h; cases h
  obtain ⟨k, rfl⟩ := Int.eq_ofNat_of_zero_le h0
  rw [tb_nat] at h
  have hd := testBit_div x k
  rw [if_pos h] at hd
  have H : Hid ((((x : Int) / 2 ^ k).tmod 2) = 1) := by
    show (((x : Int) / 2 ^ k).tmod 2) = 1
    rw [Int.tmod_eq_emod_of_nonneg (Int.ediv_nonneg (by omega) (Int.pow_nonneg (by decide)))]
    have : (((x : Int) / 2 ^ k) % 2) = ((x / 2 ^ k % 2 : Nat) : Int) := by simp
    rw [this, hd]; rfl
  clear h hd h0
  go_enter Try.func42, Try.ntmps42
  go_wp2
  go_ret
  exact ⟨ret_int H.out, rfl⟩

set_option maxHeartbeats 400000 in
theorem bit_no (x : Nat) (i : Int) (hx : x < 18446744073709551616) (h : tb x i = false) (w : World) :
    Calls Try.prog 42 #[.int .u64 x, .int .i64 i] w fun e w' => e = .returned (.int .u64 0) ∧ w' = w := by
  by_cases h0 : 0 ≤ i
  · by_cases h1 : i < 64
    · obtain ⟨k, rfl⟩ := Int.eq_ofNat_of_zero_le h0
      rw [tb_nat] at h
      have hd := testBit_div x k
      rw [h] at hd
      have H : Hid ((((x : Int) / 2 ^ k).tmod 2) = 0) := by
        show (((x : Int) / 2 ^ k).tmod 2) = 0
        rw [Int.tmod_eq_emod_of_nonneg (Int.ediv_nonneg (by omega) (Int.pow_nonneg (by decide)))]
        have : (((x : Int) / 2 ^ k) % 2) = ((x / 2 ^ k % 2 : Nat) : Int) := by simp
        rw [this, hd]; rfl
      clear h hd h0
      go_enter Try.func42, Try.ntmps42
      go_wp2
      go_ret
      exact ⟨ret_int H.out, rfl⟩
    · clear h
      go_enter Try.func42, Try.ntmps42
      go_wp2
      go_ret
      exact ⟨rfl, rfl⟩
  · clear h
    go_enter Try.func42, Try.ntmps42
    go_wp2
    go_ret
    exact ⟨rfl, rfl⟩

/-- the lowest five bits of a number, whatever its sign -/
theorem and31 (i : Int) : bits .and .u64 (IntKind.u64.wrap i) 31 = ((i % 32).toNat : Int) := by
  have h1 := IntKind.wrap_u64 i
  obtain ⟨n, hn⟩ := Int.eq_ofNat_of_zero_le (a := IntKind.u64.wrap i) (by omega)
  have h2 : n < 18446744073709551616 := by omega
  have h3 : (n : Int) % 32 = i % 32 := by omega
  rw [hn]
  have := u64_and_nat n 31 h2 (by decide)
  rw [show ((31 : Nat) : Int) = (31 : Int) from rfl] at this
  show bits .and .u64 (n : Int) 31 = _
  rw [this, nat_mask5, ← h3]; omega

theorem turn_val (x s : Nat) (hx : x < 4294967296) :
    bits .or .u32 ((x : Int) * 2 ^ s % 4294967296) ((x : Int) / 2 ^ (32 - s)) = (turnN x s : Int) := by
  have e1 : ((x : Int) * 2 ^ s % 4294967296) = ((x * 2 ^ s % 2 ^ 32 : Nat) : Int) := by simp
  have e2 : ((x : Int) / 2 ^ (32 - s)) = ((x / 2 ^ (32 - s) : Nat) : Int) := by simp
  rw [e1, e2, u32_or_nat _ _ (Nat.mod_lt _ (by decide)) (Nat.lt_of_le_of_lt (Nat.div_le_self _ _) hx)]
  rfl

set_option maxHeartbeats 400000 in
theorem rot_any (x : Nat) (i : Int) (hx : x < 4294967296) (w : World) :
    Calls Try.prog 41 #[.int .u32 x, .int .i64 i] w fun e w' => e = .returned (.int .u32 (turnN x (i % 32).toNat)) ∧ w' = w := by
  have h31 := and31 i
  generalize hs' : (i % 32).toNat = s at *
  have hs : s < 32 := by omega
  clear hs'
  go_enter Try.func41, Try.ntmps41
  go_wp2
  go_ret
  exact ⟨ret_int (turn_val x s hx), rfl⟩

set_option maxHeartbeats 400000 in
theorem turn_any (x : Nat) (i : Int) (hx : x < 4294967296) (w : World) :
    Calls Try.prog 21 #[.int .u32 x, .int .i64 i] w fun e w' => e = .returned (.int .u32 (turnN x (i % 32).toNat)) ∧ w' = w := by
  go_enter Try.func21, Try.ntmps21
  go_wp2_with fail
  refine (rot_any x i hx _).mono ?_
  rintro e w' ⟨rfl, rfl⟩
  go_wp2
  go_ret
  exact ⟨rfl, rfl⟩

set_option maxHeartbeats 400000 in
theorem refTurn_neg (x : Nat) (i : Int) (s : Nat) (hx : x < 4294967296) (hs : s < 32) (w : World) (hn : i.tmod 32 < 0) (hb : i.tmod 32 + 32 = s) :
    Calls Try.prog 22 #[.int .u32 x, .int .i64 i] w fun e w' => e = .returned (.int .u32 (turnN x s)) ∧ w' = w := by
  go_enter Try.func22, Try.ntmps22
  go_wp2
  go_loop [5, 6] (fun out i => ∃ k : Nat, k ≤ 32 ∧ i = .int .i64 k ∧ out = .int .u32 (orTo (fun i => x.testBit i) (fun i => (i + s) % 32) k)) (fun _ i => 32 - (intOf i).toNat)
  case atStart => exact ⟨0, by omega, rfl, rfl⟩
  case round =>
    obtain ⟨k, hk, rfl, rfl⟩ := hrel
    by_cases hlt : k < 32
    · by_cases ht : tb x k = true
      · go_wp2_with fail
        refine (bit_yes x k (by omega) ht _).mono ?_
        rintro e w' ⟨rfl, rfl⟩
        go_wp2
        go_round
        case rel => exact ⟨k + 1, by omega, by go_num, congrArg _ (or32_step (fun i => x.testBit i) (fun i => (i + s) % 32) (fun i => Nat.mod_lt _ (by decide)) k (by rw [tb_nat] at ht; exact ht))⟩
        case measure => simp [intOf]; omega
      · rw [Bool.not_eq_true] at ht
        go_wp2_with fail
        refine (bit_no x k (by omega) ht _).mono ?_
        rintro e w' ⟨rfl, rfl⟩
        go_wp2
        go_round
        case rel => exact ⟨k + 1, by omega, by go_num, by rw [orTo_no _ _ k (by rw [tb_nat] at ht; exact ht)]⟩
        case measure => simp [intOf]; omega
    · have : k = 32 := by omega
      subst this
      go_wp2
      go_ret
      exact ⟨ret_int (by rw [orTo_turn x s hx hs]), rfl⟩

set_option maxHeartbeats 400000 in
theorem refTurn_pos (x : Nat) (i : Int) (s : Nat) (hx : x < 4294967296) (hs : s < 32) (w : World) (hb : i.tmod 32 = s) :
    Calls Try.prog 22 #[.int .u32 x, .int .i64 i] w fun e w' => e = .returned (.int .u32 (turnN x s)) ∧ w' = w := by
  go_enter Try.func22, Try.ntmps22
  go_wp2
  go_loop [5, 6] (fun out i => ∃ k : Nat, k ≤ 32 ∧ i = .int .i64 k ∧ out = .int .u32 (orTo (fun i => x.testBit i) (fun i => (i + s) % 32) k)) (fun _ i => 32 - (intOf i).toNat)
  case atStart => exact ⟨0, by omega, rfl, rfl⟩
  case round =>
    obtain ⟨k, hk, rfl, rfl⟩ := hrel
    by_cases hlt : k < 32
    · by_cases ht : tb x k = true
      · go_wp2_with fail
        refine (bit_yes x k (by omega) ht _).mono ?_
        rintro e w' ⟨rfl, rfl⟩
        go_wp2
        go_round
        case rel => exact ⟨k + 1, by omega, by go_num, congrArg _ (or32_step (fun i => x.testBit i) (fun i => (i + s) % 32) (fun i => Nat.mod_lt _ (by decide)) k (by rw [tb_nat] at ht; exact ht))⟩
        case measure => simp [intOf]; omega
      · rw [Bool.not_eq_true] at ht
        go_wp2_with fail
        refine (bit_no x k (by omega) ht _).mono ?_
        rintro e w' ⟨rfl, rfl⟩
        go_wp2
        go_round
        case rel => exact ⟨k + 1, by omega, by go_num, by rw [orTo_no _ _ k (by rw [tb_nat] at ht; exact ht)]⟩
        case measure => simp [intOf]; omega
    · have : k = 32 := by omega
      subst this
      go_wp2
      go_ret
      exact ⟨ret_int (by rw [orTo_turn x s hx hs]), rfl⟩

theorem tmod32_neg (i : Int) (h : i.tmod 32 < 0) : i.tmod 32 + 32 = ((i % 32).toNat : Int) := by
  have e := Int.tmod_eq_emod (a := i) (b := 32)
  by_cases c : 0 ≤ i ∨ (32 : Int) ∣ i
  · rw [if_pos c] at e; omega
  · rw [if_neg c] at e
    have : ((32 : Int).natAbs : Int) = 32 := rfl
    omega
theorem tmod32_pos (i : Int) (h : ¬ i.tmod 32 < 0) : i.tmod 32 = ((i % 32).toNat : Int) := by
  have e := Int.tmod_eq_emod (a := i) (b := 32)
  by_cases c : 0 ≤ i ∨ (32 : Int) ∣ i
  · rw [if_pos c] at e; omega
  · rw [if_neg c] at e
    have : ((32 : Int).natAbs : Int) = 32 := rfl
    omega

theorem refTurn_any (x : Nat) (i : Int) (hx : x < 4294967296) (w : World) :
    Calls Try.prog 22 #[.int .u32 x, .int .i64 i] w fun e w' => e = .returned (.int .u32 (turnN x (i % 32).toNat)) ∧ w' = w := by
  by_cases hn : i.tmod 32 < 0
  · exact refTurn_neg x i _ hx (by omega) w hn (tmod32_neg i hn)
  · exact refTurn_pos x i _ hx (by omega) w (tmod32_pos i hn)

theorem size_neg (i : Int) (h : i < 0) (h2 : -9223372036854775808 ≤ i) (w : World) :
    Calls Try.prog 43 #[.int .i64 i] w fun e w' => e = .returned (.int .u64 (-i)) ∧ w' = w := by
  have H : Hid (IntKind.u64.wrap (-IntKind.u64.wrap i) = -i) := by
    show IntKind.u64.wrap (-IntKind.u64.wrap i) = -i
    rw [IntKind.wrap_u64, IntKind.wrap_u64]; omega
  clear h2
  go_enter Try.func43, Try.ntmps43
  go_wp2
  go_ret
  exact ⟨ret_int H.out, rfl⟩
theorem size_pos (i : Int) (h : 0 ≤ i) (h2 : i ≤ 9223372036854775807) (w : World) :
    Calls Try.prog 43 #[.int .i64 i] w fun e w' => e = .returned (.int .u64 i) ∧ w' = w := by
  have H : Hid (IntKind.u64.wrap i = i) := by
    show IntKind.u64.wrap i = i
    rw [IntKind.wrap_u64]; omega
  clear h2
  go_enter Try.func43, Try.ntmps43
  go_wp2
  go_ret
  exact ⟨ret_int (by first | exact H.out | rfl), rfl⟩

end Go.Proofs.Ytijacihmdfhjcaa
