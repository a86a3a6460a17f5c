/- Contracts of the small functions that the statement on counted bits leans on, in the program and in the document's answer: what each returns, and that the world stays. -/
import Derived.Test.YtijacihmdfhjcaaDoorRows
import Derived.Test.YtijacihmdfhjcaaDoorMath
import Derived.Test.YtijacihmdfhjcaaDoorMathSign
import Derived.WalkKit
import Derived.ProofKit
import Derived.OpenShut
import Derived.WalkSpells
import Derived.Below
namespace Go.Proofs.YtijacihmdfhjcaaDoor
open Go.RowKit

theorem ret_int {k : IntKind} {a b : Int} (h : a = b) : Ending.returned (.int k a) = .returned (.int k b) := by rw [h]

theorem ret_int2 {k : IntKind} {a b : Int} {v : Value} (h : a = b) : Ending.returned (.tuple #[.int k a, v]) = .returned (.tuple #[.int k b, v]) := by rw [h]

theorem bit_yes (x : Nat) (i : Int) (hx : x < 18446744073709551616) (h : tb x i = true) (w : World) :
    Calls Tryd.prog 21 #[.int .u64 x, .int .i64 i] w fun e w' => e = .returned (.int .u64 1) ∧ w' = w := by
  have h0 : 0 ≤ i := by
    by_cases h0 : 0 ≤ i
    · exact h0
    · rw [tb_neg x i (by omega)] at h; cases h
  have h1 : i < 64 := by
    by_cases h0 : i < 64
    · exact h0
    · rw [tb_big x i hx (by omega)] at h; cases h
  obtain ⟨k, rfl⟩ := Int.eq_ofNat_of_zero_le h0
  rw [tb_nat] at h
  have hd := testBit_div x k
  rw [if_pos h] at hd
  have H : Hid ((((x : Int) / 2 ^ k).tmod 2) = 1) := by
    show (((x : Int) / 2 ^ k).tmod 2) = 1
    rw [Int.tmod_eq_emod_of_nonneg (Int.ediv_nonneg (by omega) (Int.pow_nonneg (by decide)))]
    have : (((x : Int) / 2 ^ k) % 2) = ((x / 2 ^ k % 2 : Nat) : Int) := by simp
    rw [this, hd]; rfl
  clear h hd h0
  go_enter Tryd.func21, Tryd.ntmps21
  go_wp2
  go_ret
  exact ⟨ret_int H.out, rfl⟩

theorem bit_no (x : Nat) (i : Int) (hx : x < 18446744073709551616) (h : tb x i = false) (w : World) :
    Calls Tryd.prog 21 #[.int .u64 x, .int .i64 i] w fun e w' => e = .returned (.int .u64 0) ∧ w' = w := by
  by_cases h0 : 0 ≤ i
  · by_cases h1 : i < 64
    · obtain ⟨k, rfl⟩ := Int.eq_ofNat_of_zero_le h0
      rw [tb_nat] at h
      have hd := testBit_div x k
      rw [h] at hd
      have H : Hid ((((x : Int) / 2 ^ k).tmod 2) = 0) := by
        show (((x : Int) / 2 ^ k).tmod 2) = 0
        rw [Int.tmod_eq_emod_of_nonneg (Int.ediv_nonneg (by omega) (Int.pow_nonneg (by decide)))]
        have : (((x : Int) / 2 ^ k) % 2) = ((x / 2 ^ k % 2 : Nat) : Int) := by simp
        rw [this, hd]; rfl
      clear h hd h0
      go_enter Tryd.func21, Tryd.ntmps21
      go_wp2
      go_ret
      exact ⟨ret_int H.out, rfl⟩
    · clear h
      go_enter Tryd.func21, Tryd.ntmps21
      go_wp2
      go_ret
      exact ⟨rfl, rfl⟩
  · clear h
    go_enter Tryd.func21, Tryd.ntmps21
    go_wp2
    go_ret
    exact ⟨rfl, rfl⟩

theorem and31 (i : Int) : bits .and .u64 (IntKind.u64.wrap i) 31 = ((i % 32).toNat : Int) := by
  have h1 := IntKind.wrap_u64 i
  obtain ⟨n, hn⟩ := Int.eq_ofNat_of_zero_le (a := IntKind.u64.wrap i) (by omega)
  have h2 : n < 18446744073709551616 := by omega
  have h3 : (n : Int) % 32 = i % 32 := by omega
  rw [hn]
  have := u64_and_nat n 31 h2 (by decide)
  rw [show ((31 : Nat) : Int) = (31 : Int) from rfl] at this
  show bits .and .u64 (n : Int) 31 = _
  rw [this, nat_mask5, ← h3]; omega

theorem turn_val (x s : Nat) (hx : x < 4294967296) :
    bits .or .u32 ((x : Int) * 2 ^ s % 4294967296) ((x : Int) / 2 ^ (32 - s)) = (turnN x s : Int) := by
  have e1 : ((x : Int) * 2 ^ s % 4294967296) = ((x * 2 ^ s % 2 ^ 32 : Nat) : Int) := by simp
  have e2 : ((x : Int) / 2 ^ (32 - s)) = ((x / 2 ^ (32 - s) : Nat) : Int) := by simp
  rw [e1, e2, u32_or_nat _ _ (Nat.mod_lt _ (by decide)) (Nat.lt_of_le_of_lt (Nat.div_le_self _ _) hx)]
  rfl

theorem rot_any (x : Nat) (i : Int) (hx : x < 4294967296) (w : World) :
    Calls Tryd.prog 24 #[.int .u32 x, .int .i64 i] w fun e w' => e = .returned (.int .u32 (turnN x (i % 32).toNat)) ∧ w' = w := by
  have h31 := and31 i
  generalize hs' : (i % 32).toNat = s at *
  have hs : s < 32 := by omega
  clear hs'
  go_enter Tryd.func24, Tryd.ntmps24
  go_wp2
  go_ret
  exact ⟨ret_int (turn_val x s hx), rfl⟩

theorem turn_any (x : Nat) (i : Int) (hx : x < 4294967296) (w : World) :
    Calls Tryd.prog 19 #[.int .u32 x, .int .i64 i] w fun e w' => e = .returned (.int .u32 (turnN x (i % 32).toNat)) ∧ w' = w := by
  go_enter Tryd.func19, Tryd.ntmps19
  go_wp2_with fail
  refine (rot_any x i hx _).mono ?_
  rintro e w' ⟨rfl, rfl⟩
  go_wp2
  go_ret
  exact ⟨rfl, rfl⟩

theorem w64 (a : Int) : wrap64 a = IntKind.i64.wrap a := (IntWalk.i64_left a).symm

theorem ext_ok (x b : Nat) (h1 : 1 ≤ b) (h2 : b ≤ 64) (w : World) :
    Calls Tryd.prog 18 #[.int .u64 x, .int .i64 b] w fun e w' => e = .returned (.tuple #[.int .i64 (extZ x b), .int .i64 0]) ∧ w' = w := by
  have H : Hid (wrap64 (IntKind.u64.wrap ((x : Int) * 2 ^ (64 - b))) / 2 ^ (64 - b) = extZ x b) := by
    show wrap64 (IntKind.u64.wrap ((x : Int) * 2 ^ (64 - b))) / 2 ^ (64 - b) = extZ x b
    rw [w64]; exact ext_val x b h1 h2
  go_enter Tryd.func18, Tryd.ntmps18
  go_wp2
  go_ret2
  exact ⟨ret_int2 H.out, rfl⟩

theorem lowest_any (b : Nat) (h1 : 1 ≤ b) (h2 : b ≤ 64) (w : World) :
    Calls Tryd.prog 14 #[.int .i64 b] w fun e w' => e = .returned (.int .u64 (onesN b)) ∧ w' = w := by
  have H : Hid ((18446744073709551615 : Int) / 2 ^ (64 - b) = (onesN b : Int)) := ones_val b h2
  go_enter Tryd.func14, Tryd.ntmps14
  go_wp2
  go_ret
  exact ⟨ret_int H.out, rfl⟩

theorem refLowest_any (x b : Nat) (hx : x < 18446744073709551616) (h2 : b ≤ 64) (w : World) :
    Calls Tryd.prog 15 #[.int .u64 x, .int .i64 b] w fun e w' => e = .returned (.int .u64 (lowN x b)) ∧ w' = w := by
  go_enter Tryd.func15, Tryd.ntmps15
  go_wp2
  go_loop [5, 6] (fun out i => ∃ k : Nat, k ≤ b ∧ i = .int .i64 k ∧ out = .int .u64 (lowN x k)) (fun _ i => b - (intOf i).toNat)
  case atStart => exact ⟨0, by omega, rfl, by rw [lowN_zero]; rfl⟩
  case round =>
    obtain ⟨k, hk, rfl, rfl⟩ := hrel
    by_cases hlt : k < b
    · by_cases ht : tb x (k : Int) = true
      · go_wp2_with fail
        refine (bit_yes x _ hx ht _).mono ?_
        rintro e w' ⟨rfl, rfl⟩
        go_wp2
        go_round
        case rel => exact ⟨k + 1, by omega, by go_num, congrArg _ (or_step x k (by rw [tb_nat] at ht; exact ht) (by omega))⟩
        case measure => simp [intOf]; omega
      · rw [Bool.not_eq_true] at ht
        go_wp2_with fail
        refine (bit_no x _ hx ht _).mono ?_
        rintro e w' ⟨rfl, rfl⟩
        go_wp2
        go_round
        case rel => exact ⟨k + 1, by omega, by go_num, by rw [lowN_no _ k (by rw [tb_nat] at ht; exact ht)]⟩
        case measure => simp [intOf]; omega
    · have : k = b := by omega
      subst this
      go_wp2
      go_ret
      exact ⟨rfl, rfl⟩

theorem awake_any (w : World) :
    Calls Tryd.prog 6 #[] w fun e w' => e = .returned (.bool true) ∧ w' = w := by
  have e1 : extZ 255 8 = -1 := by decide
  have e2 : turnN 1 31 = 2147483648 := by decide
  go_enter Tryd.func6, Tryd.ntmps6
  go_wp2_with fail
  refine (ext_ok 255 8 (by decide) (by decide) _).mono ?_
  rintro e w' ⟨rfl, rfl⟩
  go_wp2_with fail
  refine (turn_any 1 31 (by decide) _).mono ?_
  rintro e w' ⟨rfl, rfl⟩
  go_wp2
  go_ret
  exact ⟨rfl, rfl⟩

end Go.Proofs.YtijacihmdfhjcaaDoor
