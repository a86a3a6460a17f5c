/- Plain facts on the highest and the lowest bit of a word, and on counted bits in the forms that the walk leaves; no program in them. No conditions beyond those that each states. -/
import Derived.Test.YtjjjgnaihnknjaaMathCount
import Derived.Lib.Tables
import Derived.Lib.BitFns
import Derived.Lib.TrailingZeros
namespace Go.Proofs.Ytjjjgnaihnknjaa

theorem and64 (a b : Nat) (c : Int) (hc : c = b) (ha : a < 18446744073709551616) (hb : b < 18446744073709551616) : bits .and .u64 (a : Int) c = ((a &&& b : Nat) : Int) := by
  subst hc; exact u64_and_nat a b ha hb

theorem pop_facts (x : Nat) (hx : x < 18446744073709551616) : ∃ y1 y2 ys y3 z1 z2 z3 : Nat,
    IntKind.u64.wrap (bits .and .u64 ((x : Int) / 2) 6148914691236517205 + bits .and .u64 (x : Int) 6148914691236517205) = (y1 : Int) ∧
    IntKind.u64.wrap (bits .and .u64 ((y1 : Int) / 4) 3689348814741910323 + bits .and .u64 (y1 : Int) 3689348814741910323) = (y2 : Int) ∧
    IntKind.u64.wrap ((y2 : Int) / 16 + (y2 : Int)) = (ys : Int) ∧ bits .and .u64 (ys : Int) 1085102592571150095 = (y3 : Int) ∧
    IntKind.u64.wrap ((y3 : Int) + (y3 : Int) / 256) = (z1 : Int) ∧ IntKind.u64.wrap ((z1 : Int) + (z1 : Int) / 65536) = (z2 : Int) ∧ IntKind.u64.wrap ((z2 : Int) + (z2 : Int) / 4294967296) = (z3 : Int) ∧
    z3 < 9223372036854775808 ∧ z3 % 128 = onesTo x 64 := by
  have hl : (bytesOf x).length = 8 := rfl
  have hlt := bytesOf_lt x
  have ok := fun b (hb : b ∈ bytesOf x) => bytes_ok ⟨b, hlt b hb⟩
  have s1 := step1 x hx
  have s2 := step2 ((bytesOf x).map f1) (by simp [hl]) (fun c hc => by
    obtain ⟨b, hb, rfl⟩ := List.mem_map.1 hc
    exact (ok b hb).1)
  have s3 := step3 (((bytesOf x).map f1).map f2) (by simp [hl]) (fun c hc => by
    obtain ⟨b', hb', rfl⟩ := List.mem_map.1 hc
    obtain ⟨b, hb, rfl⟩ := List.mem_map.1 hb'
    exact ⟨(ok b hb).2.1, (ok b hb).2.2.1⟩)
  have e3 : (((bytesOf x).map f1).map f2).map f3 = (bytesOf x).map fun b => onesTo b 8 := by
    rw [List.map_map, List.map_map]
    exact List.map_congr_left fun b hb => (ok b hb).2.2.2
  rw [e3] at s3
  have o := onesTo_val (bytesOf x) hlt
  rw [val_bytesOf x hx, hl] at o
  have b1 : (x / 2 &&& 6148914691236517205) ≤ 6148914691236517205 := Nat.and_le_right
  have b2 : (x &&& 6148914691236517205) ≤ 6148914691236517205 := Nat.and_le_right
  generalize hy1 : val ((bytesOf x).map f1) = y1 at *
  have c1 : (y1 / 4 &&& 3689348814741910323) ≤ 3689348814741910323 := Nat.and_le_right
  have c2 : (y1 &&& 3689348814741910323) ≤ 3689348814741910323 := Nat.and_le_right
  generalize hy2 : val (((bytesOf x).map f1).map f2) = y2 at *
  have l1 : y1 < 18446744073709551616 := by omega
  have l2 : y2 ≤ 7378697629483820646 := by omega
  obtain ⟨g0, g1, g2, g3, g4⟩ := fold8 (onesTo (x % 256) 8) (onesTo (x / 256 % 256) 8) (onesTo (x / 65536 % 256) 8) (onesTo (x / 16777216 % 256) 8) (onesTo (x / 4294967296 % 256) 8) (onesTo (x / 1099511627776 % 256) 8) (onesTo (x / 281474976710656 % 256) 8) (onesTo (x / 72057594037927936 % 256) 8)
    (onesTo_le _ 8) (onesTo_le _ 8) (onesTo_le _ 8) (onesTo_le _ 8) (onesTo_le _ 8) (onesTo_le _ 8) (onesTo_le _ 8) (onesTo_le _ 8) _ _ _ _ rfl rfl rfl rfl
  have hv : val ((bytesOf x).map fun b => onesTo b 8) = val [onesTo (x % 256) 8, onesTo (x / 256 % 256) 8, onesTo (x / 65536 % 256) 8, onesTo (x / 16777216 % 256) 8, onesTo (x / 4294967296 % 256) 8, onesTo (x / 1099511627776 % 256) 8, onesTo (x / 281474976710656 % 256) 8, onesTo (x / 72057594037927936 % 256) 8] := rfl
  have hsum : sum ((bytesOf x).map fun b => onesTo b 8) = onesTo (x % 256) 8 + onesTo (x / 256 % 256) 8 + onesTo (x / 65536 % 256) 8 + onesTo (x / 16777216 % 256) 8 + onesTo (x / 4294967296 % 256) 8 + onesTo (x / 1099511627776 % 256) 8 + onesTo (x / 281474976710656 % 256) 8 + onesTo (x / 72057594037927936 % 256) 8 := by
    simp only [bytesOf, List.map_cons, List.map_nil, sum]; omega
  rw [hsum] at o
  rw [hv] at s3
  clear hv hsum ok hlt e3
  generalize val [onesTo (x % 256) 8, onesTo (x / 256 % 256) 8, onesTo (x / 65536 % 256) 8, onesTo (x / 16777216 % 256) 8, onesTo (x / 4294967296 % 256) 8, onesTo (x / 1099511627776 % 256) 8, onesTo (x / 281474976710656 % 256) 8, onesTo (x / 72057594037927936 % 256) 8] = y3 at *
  refine ⟨y1, y2, y2 / 16 + y2, y3, y3 + y3 / 256, y3 + y3 / 256 + (y3 + y3 / 256) / 65536, _, ?_, ?_, ?_, ?_, ?_, ?_, ?_, g3, g4.trans o.symm⟩
  · have d : ((x : Int) / 2) = ((x / 2 : Nat) : Int) := by simp
    rw [d, and64 (x / 2) 6148914691236517205 6148914691236517205 rfl (by omega) (by decide), and64 x 6148914691236517205 6148914691236517205 rfl hx (by decide), IntKind.wrap_u64]; omega
  · have d : ((y1 : Int) / 4) = ((y1 / 4 : Nat) : Int) := by simp
    rw [d, and64 (y1 / 4) 3689348814741910323 3689348814741910323 rfl (by omega) (by decide), and64 y1 3689348814741910323 3689348814741910323 rfl l1 (by decide), IntKind.wrap_u64]; omega
  · rw [IntKind.wrap_u64]; omega
  · rw [and64 _ 1085102592571150095 1085102592571150095 rfl (by omega) (by decide), s3]
  · rw [IntKind.wrap_u64]; omega
  · rw [IntKind.wrap_u64]; omega
  · rw [IntKind.wrap_u64]; omega

theorem and127 (z : Nat) (hz : z < 9223372036854775808) : bits .and .i64 (z : Int) 127 = ((z % 128 : Nat) : Int) := by
  have h1 : (BitVec.ofInt 64 (z : Int)).toNat = z := by
    rw [BitVec.ofInt_natCast, BitVec.toNat_ofNat]; exact Nat.mod_eq_of_lt (by omega)
  have h2 : (BitVec.ofInt 64 (127 : Int)).toNat = 127 := by decide
  show IntKind.i64.wrap ((BitVec.ofInt 64 (z : Int) &&& BitVec.ofInt 64 (127 : Int)).toNat : Int) = _
  rw [BitVec.toNat_and, h1, h2, Nat.and_two_pow_sub_one_eq_mod z 7]
  exact wrapI64_id _ (by omega) (by omega)

theorem tab_at : ∀ i : Fin 256, (Lib.len8tab[i.val]?.getD 0).toNat = Lib.bitLen i.val := by decide +kernel
theorem tab_get (i : Nat) (h : i < Lib.len8tab.size) : (Lib.len8tab[i]'h).toNat = Lib.bitLen i := by
  have h2 : i < 256 := by rw [Lib.len8tab_size] at h; exact h
  have e := tab_at ⟨i, h2⟩
  rw [← e]; simp [h]

/-- the highest one is at i just if the bits above are noughts -/
theorem top_at (x i : Nat) (hx : x < 18446744073709551616) (h : x.testBit i = true) (hn : ∀ j, i < j → x.testBit j = false) : Lib.bitLen x = i + 1 := by
  have lo : 2 ^ i ≤ x := Nat.ge_two_pow_of_testBit h
  have hi2 : x < 2 ^ (i + 1) := by
    apply Nat.lt_of_not_le
    intro hle
    obtain ⟨j, hj, hb⟩ := Nat.exists_ge_and_testBit_of_ge_two_pow hle
    rw [hn j (by omega)] at hb; cases hb
  have e : x / 2 ^ i = 1 := by
    rw [Nat.pow_succ] at hi2
    exact Nat.div_eq_of_lt_le (by omega) (by omega)
  rw [Lib.bitLen_shift i x lo hx, e]; rfl
theorem top_none (x : Nat) (hn : ∀ j, x.testBit j = false) : Lib.bitLen x = 0 := by
  have : x = 0 := Nat.eq_of_testBit_eq fun j => by rw [hn j]; simp
  subst this; rfl

/-- the lowest one -/
theorem low_at (x : Nat) (hx : x < 18446744073709551616) (h0 : x ≠ 0) : x.testBit (Lib.ctz 64 x) = true ∧ (∀ j, j < Lib.ctz 64 x → x.testBit j = false) ∧ Lib.ctz 64 x < 64 := by
  have e : Lib.ctz 64 x = Lib.ctzFrom 64 x := by simp [Lib.ctz, h0]
  obtain ⟨m, hm, hk⟩ := Lib.ctzFrom_spec 64 x (by omega) hx
  rw [e]
  generalize Lib.ctzFrom 64 x = k at *
  refine ⟨?_, ?_, hk⟩
  · rw [hm, Nat.mul_comm, Nat.testBit_mul_two_pow]; simp [Nat.testBit_zero]
  · intro j hj
    rw [hm, Nat.mul_comm, Nat.testBit_mul_two_pow]; simp; intro; omega

end Go.Proofs.Ytjjjgnaihnknjaa
