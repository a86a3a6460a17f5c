/- Contracts of the functions that count bits and tell the highest and the lowest one, in the program (and in Go's package math/bits beneath it) and in the document's answer: what each returns, and that the world stays. The lowest one is read off a table of Go's: its contract asks that the table is there. -/
import Derived.Test.YtijacihmdfhjcaaDoorDoorBase
import Derived.Test.YtijacihmdfhjcaaDoorMathTop
import Derived.Handy
import Derived.Deep.Light
namespace Go.Proofs.YtijacihmdfhjcaaDoor
open Go.RowKit
set_option linter.unusedVariables false

set_option maxHeartbeats 1000000 in
theorem onesCount_core (x y1 y2 ys y3 z1 z2 z3 r : Nat)
    (r1 : IntKind.u64.wrap (bits .and .u64 ((x : Int) / 2) 6148914691236517205 + bits .and .u64 (x : Int) 6148914691236517205) = (y1 : Int))
    (r2 : IntKind.u64.wrap (bits .and .u64 ((y1 : Int) / 4) 3689348814741910323 + bits .and .u64 (y1 : Int) 3689348814741910323) = (y2 : Int))
    (r3 : IntKind.u64.wrap ((y2 : Int) / 16 + (y2 : Int)) = (ys : Int)) (r4 : bits .and .u64 (ys : Int) 1085102592571150095 = (y3 : Int))
    (r5 : IntKind.u64.wrap ((y3 : Int) + (y3 : Int) / 256) = (z1 : Int)) (r6 : IntKind.u64.wrap ((z1 : Int) + (z1 : Int) / 65536) = (z2 : Int)) (r7 : IntKind.u64.wrap ((z2 : Int) + (z2 : Int) / 4294967296) = (z3 : Int))
    (r8 : wrap64 (z3 : Int) = (z3 : Int)) (r9 : bits .and .i64 (z3 : Int) 127 = (r : Int)) (w : World) :
    Calls Tryd.prog 20 #[.int .u64 (x : Int)] w fun e w' => e = .returned (.int .i64 (r : Int)) ∧ w' = w := by
  go_enter Tryd.func20, Tryd.ntmps20
  go_wp2
  go_ret
  exact ⟨rfl, rfl⟩
set_option maxHeartbeats 400000 in
theorem ones_any (x : Nat) (hx : x < 18446744073709551616) (w : World) :
    Calls Tryd.prog 7 #[.int .u64 (x : Int)] w fun e w' => e = .returned (.int .i64 (onesTo x 64 : Int)) ∧ w' = w := by
  obtain ⟨y1, y2, ys, y3, z1, z2, z3, r1, r2, r3, r4, r5, r6, r7, l, o⟩ := pop_facts x hx
  have c := onesCount_core x y1 y2 ys y3 z1 z2 z3 (onesTo x 64) r1 r2 r3 r4 r5 r6 r7 (by rw [w64]; exact wrapI64_id _ (by omega) (by omega)) (by rw [and127 z3 l, o])
  clear r1 r2 r3 r4 r5 r6 r7 l o
  have C : Hid (∀ w : World, Calls Tryd.prog 20 #[.int .u64 (x : Int)] w fun e w' => e = .returned (.int .i64 (onesTo x 64 : Int)) ∧ w' = w) := c
  clear c
  go_enter Tryd.func7, Tryd.ntmps7
  go_wp2_with fail
  refine (C.out _).mono ?_
  rintro e w' ⟨rfl, rfl⟩
  go_wp2
  go_ret
  exact ⟨rfl, rfl⟩

set_option maxHeartbeats 400000 in
theorem refOnes_any (x : Nat) (hx : x < 18446744073709551616) (w : World) :
    Calls Tryd.prog 8 #[.int .u64 (x : Int)] w fun e w' => e = .returned (.int .i64 (onesTo x 64 : Int)) ∧ w' = w := by
  go_enter Tryd.func8, Tryd.ntmps8
  go_wp2
  go_loop [3, 4] (fun n i => ∃ k : Nat, k ≤ 64 ∧ i = .int .i64 k ∧ n = .int .i64 (onesTo x k : Int)) (fun _ i => 64 - (intOf i).toNat)
  case atStart => exact ⟨0, by omega, rfl, rfl⟩
  case round =>
    obtain ⟨k, hk, rfl, rfl⟩ := hrel
    have hle := onesTo_le x k
    by_cases hlt : k < 64
    · by_cases ht : tb x (k : Int) = true
      · have HS : Hid (onesTo x (k + 1) = onesTo x k + 1) := by
          show onesTo x (k + 1) = onesTo x k + 1
          rw [tb_nat] at ht
          conv => lhs; unfold onesTo
          rw [ht]; rfl
        go_wp2_with fail
        refine (bit_yes x _ hx ht _).mono ?_
        rintro e w' ⟨rfl, rfl⟩
        go_wp2
        go_round
        case rel => exact ⟨k + 1, by omega, by go_num, by rw [HS.out]; go_num⟩
        case measure => simp [intOf]; omega
      · rw [Bool.not_eq_true] at ht
        have HS : Hid (onesTo x (k + 1) = onesTo x k) := by
          show onesTo x (k + 1) = onesTo x k
          rw [tb_nat] at ht
          conv => lhs; unfold onesTo
          rw [ht]; rfl
        go_wp2_with fail
        refine (bit_no x _ hx ht _).mono ?_
        rintro e w' ⟨rfl, rfl⟩
        go_wp2
        go_round
        case rel => exact ⟨k + 1, by omega, by go_num, by rw [HS.out]; try go_num⟩
        case measure => simp [intOf]; omega
    · have : k = 64 := by omega
      subst this
      go_wp2
      go_ret
      exact ⟨rfl, rfl⟩

theorem wrap_len (c k r : Nat) (hc : c ≤ 56) (hk : k ≤ 8) (hr : r = c + k) : wrap64 ((c : Int) + wrap64 (k : Int)) = (r : Int) := by
  rw [w64, w64, wrapI64_id (k : Int) (by omega) (by omega), wrapI64_id _ (by omega) (by omega)]; omega
theorem len_lt (q : Nat) (h : q < 256) : Lib.bitLen q ≤ 8 := Lib.bitLen_le8 ⟨q, h⟩

theorem len_val56 (x : Int) (h0 : 0 ≤ x) (hx : x ≤ 18446744073709551615) (h1 : 4294967296 ≤ x) (h2 : 65536 ≤ x / 4294967296) (h3 : 256 ≤ x / 4294967296 / 65536) : wrap64 (56 + wrap64 (Lib.bitLen (x / 4294967296 / 65536 / 256).toNat : Int)) = (Lib.bitLen x.toNat : Int) := by
  have e : (x / 4294967296 / 65536 / 256).toNat = x.toNat / 72057594037927936 := by omega
  have l : Lib.bitLen (x.toNat / 72057594037927936) ≤ 8 := len_lt _ (by omega)
  have s := Lib.bitLen_shift56 x.toNat (by omega) (by omega)
  rw [e]
  exact wrap_len 56 _ _ (by decide) l s

theorem len_val48 (x : Int) (h0 : 0 ≤ x) (hx : x ≤ 18446744073709551615) (h1 : 4294967296 ≤ x) (h2 : 65536 ≤ x / 4294967296) (h3 : x / 4294967296 / 65536 < 256) : wrap64 (48 + wrap64 (Lib.bitLen (x / 4294967296 / 65536).toNat : Int)) = (Lib.bitLen x.toNat : Int) := by
  have e : (x / 4294967296 / 65536).toNat = x.toNat / 281474976710656 := by omega
  have l : Lib.bitLen (x.toNat / 281474976710656) ≤ 8 := len_lt _ (by omega)
  have s := Lib.bitLen_shift48 x.toNat (by omega) (by omega)
  rw [e]
  exact wrap_len 48 _ _ (by decide) l s

theorem len_val40 (x : Int) (h0 : 0 ≤ x) (hx : x ≤ 18446744073709551615) (h1 : 4294967296 ≤ x) (h2 : x / 4294967296 < 65536) (h3 : 256 ≤ x / 4294967296) : wrap64 (40 + wrap64 (Lib.bitLen (x / 4294967296 / 256).toNat : Int)) = (Lib.bitLen x.toNat : Int) := by
  have e : (x / 4294967296 / 256).toNat = x.toNat / 1099511627776 := by omega
  have l : Lib.bitLen (x.toNat / 1099511627776) ≤ 8 := len_lt _ (by omega)
  have s := Lib.bitLen_shift40 x.toNat (by omega) (by omega)
  rw [e]
  exact wrap_len 40 _ _ (by decide) l s

theorem len_val32 (x : Int) (h0 : 0 ≤ x) (hx : x ≤ 18446744073709551615) (h1 : 4294967296 ≤ x) (h2 : x / 4294967296 < 65536) (h3 : x / 4294967296 < 256) : wrap64 (32 + wrap64 (Lib.bitLen (x / 4294967296).toNat : Int)) = (Lib.bitLen x.toNat : Int) := by
  have e : (x / 4294967296).toNat = x.toNat / 4294967296 := by omega
  have l : Lib.bitLen (x.toNat / 4294967296) ≤ 8 := len_lt _ (by omega)
  have s := Lib.bitLen_shift32 x.toNat (by omega) (by omega)
  rw [e]
  exact wrap_len 32 _ _ (by decide) l s

theorem len_val24 (x : Int) (h0 : 0 ≤ x) (hx : x ≤ 18446744073709551615) (h1 : x < 4294967296) (h2 : 65536 ≤ x) (h3 : 256 ≤ x / 65536) : wrap64 (24 + wrap64 (Lib.bitLen (x / 65536 / 256).toNat : Int)) = (Lib.bitLen x.toNat : Int) := by
  have e : (x / 65536 / 256).toNat = x.toNat / 16777216 := by omega
  have l : Lib.bitLen (x.toNat / 16777216) ≤ 8 := len_lt _ (by omega)
  have s := Lib.bitLen_shift24 x.toNat (by omega) (by omega)
  rw [e]
  exact wrap_len 24 _ _ (by decide) l s

theorem len_val16 (x : Int) (h0 : 0 ≤ x) (hx : x ≤ 18446744073709551615) (h1 : x < 4294967296) (h2 : 65536 ≤ x) (h3 : x / 65536 < 256) : wrap64 (16 + wrap64 (Lib.bitLen (x / 65536).toNat : Int)) = (Lib.bitLen x.toNat : Int) := by
  have e : (x / 65536).toNat = x.toNat / 65536 := by omega
  have l : Lib.bitLen (x.toNat / 65536) ≤ 8 := len_lt _ (by omega)
  have s := Lib.bitLen_shift16 x.toNat (by omega) (by omega)
  rw [e]
  exact wrap_len 16 _ _ (by decide) l s

theorem len_val8 (x : Int) (h0 : 0 ≤ x) (hx : x ≤ 18446744073709551615) (h1 : x < 4294967296) (h2 : x < 65536) (h3 : 256 ≤ x) : wrap64 (8 + wrap64 (Lib.bitLen (x / 256).toNat : Int)) = (Lib.bitLen x.toNat : Int) := by
  have e : (x / 256).toNat = x.toNat / 256 := by omega
  have l : Lib.bitLen (x.toNat / 256) ≤ 8 := len_lt _ (by omega)
  have s := Lib.bitLen_shift8 x.toNat (by omega) (by omega)
  rw [e]
  exact wrap_len 8 _ _ (by decide) l s

theorem len_val0 (x : Int) (h0 : 0 ≤ x) (h3 : x < 256) : wrap64 (Lib.bitLen x.toNat : Int) = (Lib.bitLen x.toNat : Int) := by
  have l : Lib.bitLen x.toNat ≤ 8 := len_lt _ (by omega)
  rw [w64, wrapI64_id _ (by omega) (by omega)]

set_option maxRecDepth 100000 in
set_option maxHeartbeats 4000000 in
theorem len64_int (x : Int) (h0 : 0 ≤ x) (hx : x ≤ 18446744073709551615) (w : World) :
    Calls Tryd.prog 22 #[.int .u64 x] w fun e w' => e = .returned (.int .i64 (Lib.bitLen x.toNat : Int)) ∧ w' = w := by
  go_enter Tryd.func22, Tryd.ntmps22
  go_wp2
  all_goals first
    | (go_ret; refine ⟨ret_int ?_, rfl⟩; go_light; simp only [tab_get])
    | (exfalso; go_light; have hs := Lib.len8tab_size; omega)
  all_goals first | exact len_val56 x h0 hx (by assumption) (by assumption) (by assumption) | exact len_val48 x h0 hx (by assumption) (by assumption) (by assumption) | exact len_val40 x h0 hx (by assumption) (by assumption) (by assumption) | exact len_val32 x h0 hx (by assumption) (by assumption) (by assumption) | exact len_val24 x h0 hx (by assumption) (by assumption) (by assumption) | exact len_val16 x h0 hx (by assumption) (by assumption) (by assumption) | exact len_val8 x h0 hx (by assumption) (by assumption) (by assumption) | exact len_val0 x h0 (by assumption) | (rw [len_val0 x h0 (by assumption)]; exact len_val0 x h0 (by assumption))
theorem len64_any (x : Nat) (hx : x < 18446744073709551616) (w : World) :
    Calls Tryd.prog 22 #[.int .u64 (x : Int)] w fun e w' => e = .returned (.int .i64 (Lib.bitLen x : Int)) ∧ w' = w := by
  have := len64_int (x : Int) (by omega) (by omega) w
  rw [Int.toNat_natCast] at this
  exact this

theorem bitLen_le64 (x : Nat) (hx : x < 18446744073709551616) : Lib.bitLen x ≤ 64 := Lib.bitLen_le x 64 (by decide) hx

set_option maxHeartbeats 400000 in
theorem high_any (x : Nat) (hx : x < 18446744073709551616) (w : World) :
    Calls Tryd.prog 9 #[.int .u64 (x : Int)] w fun e w' => e = .returned (.int .i64 ((Lib.bitLen x : Int) - 1)) ∧ w' = w := by
  have hb := bitLen_le64 x hx
  go_enter Tryd.func9, Tryd.ntmps9
  go_wp2_with fail
  refine (len64_any x hx _).mono ?_
  rintro e w' ⟨rfl, rfl⟩
  go_wp2
  go_ret
  exact ⟨rfl, rfl⟩

set_option maxHeartbeats 400000 in
theorem refHigh_any (x : Nat) (hx : x < 18446744073709551616) (w : World) :
    Calls Tryd.prog 10 #[.int .u64 (x : Int)] w fun e w' => e = .returned (.int .i64 ((Lib.bitLen x : Int) - 1)) ∧ w' = w := by
  go_enter Tryd.func10, Tryd.ntmps10
  go_wp2
  go_loop [3] (fun i => ∃ k : Nat, k ≤ 64 ∧ i = .int .i64 ((k : Int) - 1) ∧ Hid (∀ j, k ≤ j → x.testBit j = false)) (fun i => (intOf i + 1).toNat)
  case atStart => exact ⟨64, by omega, rfl, fun j hj => lt64_bit x j hx hj⟩
  case round =>
    obtain ⟨k, hk, rfl, hn⟩ := hrel
    by_cases hlt : 0 < k
    · by_cases ht : tb x ((k : Int) - 1) = true
      · have HT : Hid (Lib.bitLen x = k) := by
          show Lib.bitLen x = k
          have e : (k : Int) - 1 = ((k - 1 : Nat) : Int) := by omega
          rw [e, tb_nat] at ht
          rw [top_at x (k - 1) hx ht (fun j hj => hn.out j (by omega))]; omega
        go_wp2_with fail
        refine (bit_yes x _ hx ht _).mono ?_
        rintro e w' ⟨rfl, rfl⟩
        go_wp2
        go_ret
        exact ⟨ret_int (by rw [HT.out]), rfl⟩
      · rw [Bool.not_eq_true] at ht
        have HN : Hid (∀ j, k - 1 ≤ j → x.testBit j = false) := by
          show ∀ j, k - 1 ≤ j → x.testBit j = false
          intro j hj
          by_cases e : j = k - 1
          · subst e
            have e : (k : Int) - 1 = ((k - 1 : Nat) : Int) := by omega
            rw [e, tb_nat] at ht; exact ht
          · exact hn.out j (by omega)
        go_wp2_with fail
        refine (bit_no x _ hx ht _).mono ?_
        rintro e w' ⟨rfl, rfl⟩
        go_wp2
        go_round
        case rel => exact ⟨k - 1, by omega, by go_num, HN⟩
        case measure => simp [intOf]; omega
    · have : k = 0 := by omega
      subst this
      have HT : Hid (Lib.bitLen x = 0) := top_none x fun j => hn.out j (by omega)
      go_wp2
      go_ret
      exact ⟨ret_int (by rw [HT.out]; rfl), rfl⟩

/-- the lowest one's place, or -1 -/
def lowZ (x : Nat) : Int := if x = 0 then -1 else (Lib.ctz 64 x : Int)

set_option maxHeartbeats 400000 in
theorem refLow_any (x : Nat) (hx : x < 18446744073709551616) (w : World) :
    Calls Tryd.prog 12 #[.int .u64 (x : Int)] w fun e w' => e = .returned (.int .i64 (lowZ x)) ∧ w' = w := by
  go_enter Tryd.func12, Tryd.ntmps12
  go_wp2
  go_loop [3] (fun i => ∃ k : Nat, k ≤ 64 ∧ i = .int .i64 (k : Int) ∧ Hid (∀ j, j < k → x.testBit j = false)) (fun i => 64 - (intOf i).toNat)
  case atStart => exact ⟨0, by omega, rfl, fun j hj => absurd hj (Nat.not_lt_zero j)⟩
  case round =>
    obtain ⟨k, hk, rfl, hn⟩ := hrel
    by_cases hlt : k < 64
    · by_cases ht : tb x (k : Int) = true
      · have HT : Hid (lowZ x = k) := by
          show lowZ x = k
          have ht' := ht
          rw [tb_nat] at ht'
          have h0 : x ≠ 0 := by rintro rfl; simp at ht'
          obtain ⟨a, b, c⟩ := low_at x hx h0
          unfold lowZ; rw [if_neg h0]
          have h1 : ¬ Lib.ctz 64 x < k := fun h => by rw [hn.out _ h] at a; cases a
          have h2 : ¬ k < Lib.ctz 64 x := fun h => by rw [b _ h] at ht'; cases ht'
          omega
        go_wp2_with fail
        refine (bit_yes x _ hx ht _).mono ?_
        rintro e w' ⟨rfl, rfl⟩
        go_wp2
        go_ret
        exact ⟨ret_int (by rw [HT.out]), rfl⟩
      · rw [Bool.not_eq_true] at ht
        have HN : Hid (∀ j, j < k + 1 → x.testBit j = false) := by
          show ∀ j, j < k + 1 → x.testBit j = false
          intro j hj
          by_cases e : j = k
          · subst e; rw [tb_nat] at ht; exact ht
          · exact hn.out j (by omega)
        go_wp2_with fail
        refine (bit_no x _ hx ht _).mono ?_
        rintro e w' ⟨rfl, rfl⟩
        go_wp2
        go_round
        case rel => exact ⟨k + 1, by omega, by go_num, HN⟩
        case measure => simp [intOf]; omega
    · have : k = 64 := by omega
      subst this
      have HT : Hid (lowZ x = -1) := by
        show lowZ x = -1
        have : x = 0 := Nat.eq_of_testBit_eq fun j => by
          by_cases hj : j < 64
          · rw [hn.out j hj]; simp
          · rw [lt64_bit x j hx (by omega)]; simp
        subst this; rfl
      go_wp2
      go_ret
      exact ⟨ret_int (by rw [HT.out]), rfl⟩

/-- the table of Go's package math/bits in its variable -/
def TabAt (w : World) : Prop := ∀ j, j < 64 → w.cell? ⟨0, j, none⟩ = some (.int .u8 ((Lib.deBruijn64tab.getD j 0 : Nat) : Int))

set_option maxHeartbeats 1000000 in
theorem tz_walk (x n p idx k : Nat) (w : World) (hx0 : ((x : Int) == 0) = false)
    (r1 : IntKind.u64.wrap (-(x : Int)) = (n : Int)) (r2 : bits .and .u64 (x : Int) (n : Int) = (p : Int)) (r3 : IntKind.u64.wrap ((p : Int) * 285870213051353865) / 288230376151711744 = (idx : Int))
    (hi : idx < 64) (hk : k < 64) (hcell : w.cell? ⟨0, idx, none⟩ = some (.int .u8 (k : Int))) :
    Calls Tryd.prog 23 #[.int .u64 (x : Int)] w fun e w' => e = .returned (.int .i64 (k : Int)) ∧ w' = w := by
  go_enter Tryd.func23, Tryd.ntmps23
  go_wp2
  go_ret
  exact ⟨rfl, rfl⟩
theorem tz64_any (x : Nat) (hx : x < 18446744073709551616) (hx0 : x ≠ 0) (w : World) (hT : TabAt w) :
    Calls Tryd.prog 23 #[.int .u64 (x : Int)] w fun e w' => e = .returned (.int .i64 (Lib.ctz 64 x : Int)) ∧ w' = w := by
  obtain ⟨hlow, hk⟩ := Lib.lowest_bit 64 x hx0 hx
  obtain ⟨hi, htab⟩ := Lib.deBruijn64_at _ hk
  have hcell := hT _ hi
  rw [htab] at hcell
  refine tz_walk x (18446744073709551616 - x) (2 ^ Lib.ctz 64 x) _ _ w (by simp; omega) ?_ ?_ ?_ hi hk hcell
  · rw [IntKind.wrap_u64]; omega
  · rw [u64_and_nat x _ hx (by omega)]; exact congrArg _ hlow
  · rw [IntKind.wrap_u64, Int.natCast_ediv, Int.natCast_emod, Int.natCast_mul]; rfl

set_option maxHeartbeats 400000 in
theorem low_any (x : Nat) (hx : x < 18446744073709551616) (w : World) (hT : TabAt w) :
    Calls Tryd.prog 11 #[.int .u64 (x : Int)] w fun e w' => e = .returned (.int .i64 (lowZ x)) ∧ w' = w := by
  by_cases h0 : x = 0
  · subst h0
    go_enter Tryd.func11, Tryd.ntmps11
    go_wp2
    go_ret
    exact ⟨rfl, rfl⟩
  · have e0 : ((x : Int) == 0) = false := by simp; omega
    have HZ : Hid (lowZ x = (Lib.ctz 64 x : Int)) := by
      show lowZ x = (Lib.ctz 64 x : Int)
      unfold lowZ; rw [if_neg h0]
    go_enter Tryd.func11, Tryd.ntmps11
    go_wp2_with fail
    refine (tz64_any x hx h0 _ hT).mono ?_
    rintro e w' ⟨rfl, rfl⟩
    go_wp2
    go_ret
    exact ⟨ret_int (by rw [HZ.out]), rfl⟩

end Go.Proofs.YtijacihmdfhjcaaDoor
