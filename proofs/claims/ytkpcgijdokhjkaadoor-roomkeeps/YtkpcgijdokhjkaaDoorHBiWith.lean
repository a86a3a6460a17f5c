/- Two maps of bits held against each other and put together: Same, with, Either, Less, Cross: the contracts. -/
import Derived.Test.YtkpcgijdokhjkaaDoorHBiMake
import Derived.Handy

namespace Go.Proofs.YtkpcgijdokhjkaaDoor
open Go Go.RowKit
set_option linter.unusedVariables false
set_option linter.unusedSimpArgs false
section
variable {B g n b c : Nat} {W : Nat → Nat}
theorem sumW_le (W : Nat → Nat) (k : Nat) : sumW W k ≤ 64 * k := by rw [sumW_cnt]; exact cntF_le _ _
set_option maxHeartbeats 1000000 in
theorem count_any (w : World) (h : BM w B g n b c W) : Calls Tryd.prog 27 #[.pointer (some ⟨g, 0, none⟩)] w fun e w' => e = .returned (.int .i64 (cntF (bitF W) n : Int)) ∧ w' = w := by
  have c1 := h.c1
  have hl := lvN_le h.n2
  have HW : Hid (∀ i, i < 16 * lvN n → w.cell? ⟨b, i, none⟩ = some (.int .u64 ((W i : Nat) : Int))) := fun i hi => h.word hi
  have HL : Hid (∀ i, W i < 18446744073709551616) := h.lt
  have HE : Hid (sumW W (16 * lvN n) = cntF (bitF W) n) := by
    show sumW W (16 * lvN n) = cntF (bitF W) n
    rw [sumW_cnt]
    exact cntF_tail _ _ _ (by have := lvN_ge (n := n); omega) h.tail
  clear h
  have hk : 16 * lvN n ≤ 128 := by omega
  clear hl
  generalize 16 * lvN n = k at *
  go_enter Tryd.func27, Tryd.ntmps27
  go_wp2_with fail
  go_loop [3, 13] (fun t i => ∃ j : Nat, j ≤ k ∧ i = .int .i64 (j : Int) ∧ t = .int .i64 (sumW W j : Int)) (fun _ i => k - (intOf i).toNat)
  case atStart => exact ⟨0, by omega, rfl, rfl⟩
  case round =>
    obtain ⟨j, hj, rfl, rfl⟩ := hrel
    have hs := sumW_le W j
    by_cases hlt : j < k
    · have cw := HW.out j hlt
      have a1 : (j : Int) < (k : Int) := by omega
      have HS : Hid (wrap64 ((sumW W j : Int) + (onesTo (W j) 64 : Int)) = (sumW W (j + 1) : Int)) := by
        show wrap64 ((sumW W j : Int) + (onesTo (W j) 64 : Int)) = (sumW W (j + 1) : Int)
        have := onesTo_le (W j) 64
        rw [w64, wrapI64_id _ (by omega) (by omega)]
        show _ = ((sumW W j + onesTo (W j) 64 : Nat) : Int)
        omega
      go_wp2_with fail
      refine (ones_any (W j) (HL.out j) _).mono ?_
      rintro e w' ⟨rfl, rfl⟩
      go_wp2
      go_round
      case rel => exact ⟨j + 1, by omega, by go_num, by rw [HS.out]⟩
      case measure => simp [intOf]; omega
    · obtain rfl : j = k := by omega
      have a1 : ¬ ((j : Int) < (j : Int)) := by omega
      go_wp2_with fail
      go_ret
      exact ⟨by rw [← HE.out]; rfl, rfl⟩
/-- a word with its bits turned over, or not -/
def Turn (tn : Nat) (is : Bool) : Prop := (tn = 0 ∧ is = true) ∨ (tn = 18446744073709551615 ∧ is = false)
theorem Turn.bit {tn : Nat} {is : Bool} (h : Turn tn is) (W : Nat → Nat) (i j : Nat) (hj : j < 64) : (W i ^^^ tn).testBit j = (bitF W (64 * i + j) == is) := by
  rw [bitF_at W i j hj, Nat.testBit_xor]
  rcases h with ⟨rfl, rfl⟩ | ⟨rfl, rfl⟩
  · cases (W i).testBit j <;> simp
  · rw [show (18446744073709551615 : Nat) = 2 ^ 64 - 1 from rfl, Nat.testBit_two_pow_sub_one]
    cases (W i).testBit j <;> simp [hj]
theorem Turn.lt {tn : Nat} {is : Bool} (h : Turn tn is) : tn < 18446744073709551616 := by
  rcases h with ⟨rfl, rfl⟩ | ⟨rfl, rfl⟩ <;> decide
/-- what is left of a word behind the places ahead -/
def Left (W : Nat → Nat) (is : Bool) (f a x : Nat) : Prop := f < 64 * (a + 1) ∧ x < 18446744073709551616 ∧ (∀ j, j < 64 → x.testBit j = (decide (f ≤ 64 * a + j) && (bitF W (64 * a + j) == is))) ∧ (∀ q, f ≤ q → q < 64 * a → bitF W q = !is)
theorem beq_not {b is : Bool} (h : (b == is) = false) : b = !is := by cases b <;> cases is <;> first | rfl | exact absurd h (by decide)
theorem left_first {tn : Nat} {is : Bool} (h : Turn tn is) (hl : ∀ i, W i < 18446744073709551616) (f : Nat) : Left W is f (f / 64) ((W (f / 64) ^^^ tn) &&& notN (2 ^ (f % 64) - 1)) := by
  refine ⟨by omega, and_lt64 _ _ (xor_lt64 _ _ (hl _) h.lt), fun j hj => ?_, fun q h1 h2 => by omega⟩
  have hp : 2 ^ (f % 64) < 18446744073709551616 := pow_lt_u64 _ (by omega)
  rw [Nat.testBit_and, notN_bit _ _ (by omega) hj, h.bit W _ _ hj, Nat.testBit_two_pow_sub_one]
  have : (!decide (j < f % 64)) = decide (f ≤ 64 * (f / 64) + j) := by
    rw [← decide_not]; apply decide_eq_decide.2; omega
  rw [this, Bool.and_comm]
theorem left_all {is : Bool} {f a : Nat} (h0 : Left W is f a 0) : ∀ q, f ≤ q → q < 64 * (a + 1) → bitF W q = !is := fun q h1 h2 => by
  by_cases hq : q < 64 * a
  · exact h0.2.2.2 q h1 hq
  · have := h0.2.2.1 (q - 64 * a) (by omega)
    rw [show 64 * a + (q - 64 * a) = q from by omega] at this
    simp only [Nat.zero_testBit, h1, decide_true, Bool.true_and] at this
    exact beq_not this.symm
theorem left_next {tn : Nat} {is : Bool} (h : Turn tn is) (hl : ∀ i, W i < 18446744073709551616) {f a : Nat} (h0 : Left W is f a 0) : Left W is f (a + 1) (W (a + 1) ^^^ tn) := by
  refine ⟨by have := h0.1; omega, xor_lt64 _ _ (hl _) h.lt, fun j hj => ?_, left_all h0⟩
  rw [h.bit W _ _ hj]
  have hf : f ≤ 64 * (a + 1) + j := by have := h0.1; omega
  simp [hf]
/-- the lowest bit of what is left is the place that is looked for -/
theorem left_low {is : Bool} {f a x : Nat} (h : Left W is f a x) (h0 : x ≠ 0) : f ≤ 64 * a + Lib.ctz 64 x ∧ bitF W (64 * a + Lib.ctz 64 x) = is ∧ (∀ q, f ≤ q → q < 64 * a + Lib.ctz 64 x → bitF W q = !is) ∧ Lib.ctz 64 x < 64 := by
  obtain ⟨l1, l2, l3⟩ := low_at x h.2.1 h0
  have e := h.2.2.1 _ l3
  rw [l1] at e
  have e2 := (Bool.and_eq_true_iff.1 e.symm)
  refine ⟨of_decide_eq_true e2.1, eq_of_beq e2.2, fun q h1 h2 => ?_, l3⟩
  by_cases hq : q < 64 * a
  · exact h.2.2.2 q h1 hq
  · have := h.2.2.1 (q - 64 * a) (by omega)
    rw [show 64 * a + (q - 64 * a) = q from by omega, l2 _ (by omega)] at this
    simp only [h1, decide_true, Bool.true_and] at this
    exact beq_not this.symm
theorem seek_out (w : World) (h : BM w B g n b c W) (f : Int) (tn : Nat) (hf : (n : Int) ≤ f) : Calls Tryd.prog 65 #[.pointer (some ⟨g, 0, none⟩), .int .i64 f, .int .u64 (tn : Int)] w fun e w' => e = .returned (.int .i64 (-1)) ∧ w' = w := by
  have a0 : max f 0 = f := by have := h.n1; omega
  have HI : Hid (Calls Tryd.prog 56 #[.pointer (some ⟨g, 0, none⟩), .int .i64 f] w fun e w' => e = .returned (.bool false) ∧ w' = w) := inside_no _ h f (.inr hf)
  clear h
  go_enter Tryd.func65, Tryd.ntmps65
  go_wp2_with fail
  refine HI.out.mono ?_
  rintro e w' ⟨rfl, rfl⟩
  go_wp2_with fail
  go_ret
  exact ⟨rfl, rfl⟩
theorem nat_ne_neg (k : Nat) : ((k : Nat) : Int) ≠ -1 := by omega
set_option maxHeartbeats 4000000 in
theorem seek_in (w : World) (hT : TabAt w) (h : BM w B g n b c W) (f : Int) (m : Nat) (hm : max f 0 = (m : Int)) (hf : m < n) (tn : Nat) (is : Bool) (ht : Turn tn is) : Calls Tryd.prog 65 #[.pointer (some ⟨g, 0, none⟩), .int .i64 f, .int .u64 (tn : Int)] w fun e w' => e = .returned (.int .i64 (nxt (bitF W) is n m)) ∧ w' = w := by
  have c1 := h.c1
  have hq := quo64 m
  have hn2 := h.n2
  have hwq : IntKind.i64.wrap ((m / 64 : Nat) : Int) = ((m / 64 : Nat) : Int) := wrapI64_id _ (by omega) (by omega)
  have hk0 := lvN_le hn2
  have hkn : n ≤ 64 * (16 * lvN n) := by have := lvN_ge (n := n); omega
  have HI : Hid (Calls Tryd.prog 56 #[.pointer (some ⟨g, 0, none⟩), .int .i64 (m : Int)] w fun e w' => e = .returned (.bool true) ∧ w' = w) := inside_yes _ h m hf
  have HJ : Hid (∀ p : Nat, p < n → Calls Tryd.prog 56 #[.pointer (some ⟨g, 0, none⟩), .int .i64 (p : Int)] w fun e w' => e = .returned (.bool true) ∧ w' = w) := fun p hp => inside_yes _ h p hp
  have HK : Hid (∀ p : Nat, n ≤ p → Calls Tryd.prog 56 #[.pointer (some ⟨g, 0, none⟩), .int .i64 (p : Int)] w fun e w' => e = .returned (.bool false) ∧ w' = w) := fun p hp => inside_no _ h p (.inr (by omega))
  have HO := one_any m (by omega) w
  have HW : Hid (∀ i, i < 16 * lvN n → w.cell? ⟨b, i, none⟩ = some (.int .u64 ((W i : Nat) : Int))) := fun i hi => h.word hi
  have HX : Hid (∀ i, bits .xor .u64 ((W i : Nat) : Int) (tn : Int) = ((W i ^^^ tn : Nat) : Int)) := fun i => u64_xor_nat _ _ (h.lt i) ht.lt
  have hpow : 2 ^ (m % 64) < 18446744073709551616 := pow_lt_u64 _ (by omega)
  have hpos : 0 < 2 ^ (m % 64) := Nat.two_pow_pos _
  have HA : IntKind.u64.wrap (((2 ^ (m % 64) : Nat) : Int) - 1) = ((2 ^ (m % 64) - 1 : Nat) : Int) := by
    rw [show ((2 ^ (m % 64) : Nat) : Int) - 1 = ((2 ^ (m % 64) - 1 : Nat) : Int) from by omega]
    exact wrapU64 _ (by omega)
  have HN : bits .andNot .u64 ((W (m / 64) ^^^ tn : Nat) : Int) ((2 ^ (m % 64) - 1 : Nat) : Int) = (((W (m / 64) ^^^ tn) &&& notN (2 ^ (m % 64) - 1) : Nat) : Int) := u64_andNot_nat _ _ (xor_lt64 _ _ (h.lt _) ht.lt) (by omega)
  have HL := left_first ht h.lt m
  have HNX : Hid (∀ a, Left W is m a 0 → Left W is m (a + 1) (W (a + 1) ^^^ tn)) := fun a ha => left_next ht h.lt ha
  have cw := HW.out (m / 64) (by omega)
  have HX0 := HX.out (m / 64)
  have i0 : ((m / 64 : Nat) : Int) < ((16 * lvN n : Nat) : Int) := by omega
  clear h ht hpow hpos
  generalize hx1 : W (m / 64) ^^^ tn = x1 at *
  generalize 2 ^ (m % 64) - 1 = x2 at *
  generalize 2 ^ (m % 64) = x3 at *
  generalize x1 &&& notN x2 = x4 at *
  generalize W (m / 64) = x0 at *
  have hk : 16 * lvN n ≤ 128 := by omega
  clear hk0 hx1
  generalize hq0 : m / 64 = a0 at *
  generalize 16 * lvN n = k at *
  have a0k : a0 < k := by omega
  by_cases hneg : f < 0
  · obtain rfl : m = 0 := by omega
    obtain rfl : a0 = 0 := by omega
    go_enter Tryd.func65, Tryd.ntmps65
    go_wp2_with fail
    refine HI.out.mono ?_
    rintro e w' ⟨rfl, rfl⟩
    go_wp2_with fail
    refine HO.mono ?_
    rintro e w' ⟨rfl, rfl⟩
    go_wp2_with fail
    have HL0 : Hid (Left W is 0 0 x4) := HL
    clear HI HO HA HN HX0 cw HL hq0 hq hwq i0 hm hneg
    go_loop [7, 9] (fun t x => ∃ a y : Nat, a < k ∧ t = .int .i64 (a : Int) ∧ x = .int .u64 (y : Int) ∧ Left W is 0 a y) (fun t _ => k - (intOf t).toNat)
    case atStart => exact ⟨0, x4, a0k, rfl, rfl, HL0.out⟩
    case round =>
      obtain ⟨a, y, ha, rfl, rfl, hy⟩ := hrel
      have hy1 := hy.2.1
      by_cases h0 : y = 0
      · subst h0
        have HY : Hid (Left W is 0 a 0) := hy
        clear hy
        by_cases hlt : a + 1 < k
        · have hw : wrap64 ((a : Int) + 1) = ((a + 1 : Nat) : Int) := by rw [w64, wrapI64_id _ (by omega) (by omega)]; omega
          have cw := HW.out (a + 1) hlt
          have b1 : ¬ (((a + 1 : Nat) : Int) = (k : Int)) := by omega
          have b2 : ((a + 1 : Nat) : Int) < (k : Int) := by omega
          have HX0 := HX.out (a + 1)
          have HY2 := HNX.out a HY.out
          have HY3 : Hid (Left W is 0 (a + 1) (W (a + 1) ^^^ tn)) := HY2
          clear HY2
          have HM : Hid (a + 1 < k ∧ a < k) := ⟨hlt, ha⟩
          generalize W (a + 1) ^^^ tn = y2 at *
          generalize hA1 : a + 1 = a1 at *
          go_wp2
          go_round
          case rel => exact ⟨a1, y2, HM.out.1, by rw [← hA1]; rfl, rfl, HY3.out⟩
          case measure => simp [intOf]; have := HM.out; omega
        · have hw : wrap64 ((a : Int) + 1) = (k : Int) := by rw [w64, wrapI64_id _ (by omega) (by omega)]; omega
          have hr : NextIs (bitF W) is n 0 (-1) := ⟨fun _ p h1 h2 => left_all HY.out p h1 (by omega), fun e => absurd rfl e⟩
          have HR : Hid ((-1 : Int) = nxt (bitF W) is n 0) := nxt_eq hr
          clear hr
          go_wp2
          go_ret
          exact ⟨by rw [← HR.out]; rfl, rfl⟩
      · obtain ⟨l1, l2, l3, l4⟩ := left_low hy h0
        have HLow := low_any y hy1 h0 _ hT
        have ep : ((64 * a + Lib.ctz 64 y : Nat) : Int) = (a : Int) * 64 + (Lib.ctz 64 y : Int) := by omega
        have e0 : ((y : Int) == 0) = false := by simp; omega
        generalize Lib.ctz 64 y = z at *
        by_cases hpn : 64 * a + z < n
        · have hr : NextIs (bitF W) is n 0 ((64 * a + z : Nat) : Int) := ⟨fun e => absurd e (nat_ne_neg _), fun _ => ⟨64 * a + z, Eq.refl _, l1, hpn, l2, l3⟩⟩
          have HR : Hid (((64 * a + z : Nat) : Int) = nxt (bitF W) is n 0) := nxt_eq hr
          clear hr
          have HIN := HJ.out _ hpn
          clear l1 l2 l3 hy hpn
          rw [ep] at HIN HR
          clear ep
          go_wp2_with fail
          refine HLow.mono ?_
          intro e w2 hw2
          obtain ⟨he2, hw2⟩ := hw2
          subst he2
          subst hw2
          go_wp2_with fail
          refine HIN.mono ?_
          intro e w2 hw2
          obtain ⟨he2, hw2⟩ := hw2
          subst he2
          subst hw2
          go_wp2_with fail
          go_ret
          exact ⟨by rw [← HR.out]; rfl, rfl⟩
        · have hr : NextIs (bitF W) is n 0 (-1) := ⟨fun _ p h1 h2 => l3 p h1 (Nat.lt_of_lt_of_le h2 (Nat.le_of_not_lt hpn)), fun e => absurd rfl e⟩
          have HR : Hid ((-1 : Int) = nxt (bitF W) is n 0) := nxt_eq hr
          clear hr
          have HIN := HK.out (64 * a + z) (Nat.le_of_not_lt hpn)
          clear l1 l2 l3 hy hpn
          rw [ep] at HIN
          clear ep
          go_wp2_with fail
          refine HLow.mono ?_
          intro e w2 hw2
          obtain ⟨he2, hw2⟩ := hw2
          subst he2
          subst hw2
          go_wp2_with fail
          refine HIN.mono ?_
          intro e w2 hw2
          obtain ⟨he2, hw2⟩ := hw2
          subst he2
          subst hw2
          go_wp2_with fail
          go_ret
          exact ⟨by rw [← HR.out]; rfl, rfl⟩
  · obtain rfl : f = (m : Int) := by omega
    clear hm hneg
    have hneg2 : (0 : Int) ≤ (m : Int) := by omega
    go_enter Tryd.func65, Tryd.ntmps65
    go_wp2_with fail
    refine HI.out.mono ?_
    rintro e w' ⟨rfl, rfl⟩
    go_wp2_with fail
    refine HO.mono ?_
    rintro e w' ⟨rfl, rfl⟩
    go_wp2_with fail
    have HL0 : Hid (Left W is m a0 x4) := HL
    clear HI HO HA HN HX0 cw HL hq0 hq hwq i0
    go_loop [7, 9] (fun t x => ∃ a y : Nat, a < k ∧ t = .int .i64 (a : Int) ∧ x = .int .u64 (y : Int) ∧ Left W is m a y) (fun t _ => k - (intOf t).toNat)
    case atStart => exact ⟨a0, x4, a0k, rfl, rfl, HL0.out⟩
    case round =>
      obtain ⟨a, y, ha, rfl, rfl, hy⟩ := hrel
      have hy1 := hy.2.1
      by_cases h0 : y = 0
      · subst h0
        have HY : Hid (Left W is m a 0) := hy
        clear hy
        by_cases hlt : a + 1 < k
        · have hw : wrap64 ((a : Int) + 1) = ((a + 1 : Nat) : Int) := by rw [w64, wrapI64_id _ (by omega) (by omega)]; omega
          have cw := HW.out (a + 1) hlt
          have b1 : ¬ (((a + 1 : Nat) : Int) = (k : Int)) := by omega
          have b2 : ((a + 1 : Nat) : Int) < (k : Int) := by omega
          have HX0 := HX.out (a + 1)
          have HY2 := HNX.out a HY.out
          have HY3 : Hid (Left W is m (a + 1) (W (a + 1) ^^^ tn)) := HY2
          clear HY2
          have HM : Hid (a + 1 < k ∧ a < k) := ⟨hlt, ha⟩
          generalize W (a + 1) ^^^ tn = y2 at *
          generalize hA1 : a + 1 = a1 at *
          go_wp2
          go_round
          case rel => exact ⟨a1, y2, HM.out.1, by rw [← hA1]; rfl, rfl, HY3.out⟩
          case measure => simp [intOf]; have := HM.out; omega
        · have hw : wrap64 ((a : Int) + 1) = (k : Int) := by rw [w64, wrapI64_id _ (by omega) (by omega)]; omega
          have hr : NextIs (bitF W) is n m (-1) := ⟨fun _ p h1 h2 => left_all HY.out p h1 (by omega), fun e => absurd rfl e⟩
          have HR : Hid ((-1 : Int) = nxt (bitF W) is n m) := nxt_eq hr
          clear hr
          go_wp2
          go_ret
          exact ⟨by rw [← HR.out]; rfl, rfl⟩
      · obtain ⟨l1, l2, l3, l4⟩ := left_low hy h0
        have HLow := low_any y hy1 h0 _ hT
        have ep : ((64 * a + Lib.ctz 64 y : Nat) : Int) = (a : Int) * 64 + (Lib.ctz 64 y : Int) := by omega
        have e0 : ((y : Int) == 0) = false := by simp; omega
        generalize Lib.ctz 64 y = z at *
        by_cases hpn : 64 * a + z < n
        · have hr : NextIs (bitF W) is n m ((64 * a + z : Nat) : Int) := ⟨fun e => absurd e (nat_ne_neg _), fun _ => ⟨64 * a + z, Eq.refl _, l1, hpn, l2, l3⟩⟩
          have HR : Hid (((64 * a + z : Nat) : Int) = nxt (bitF W) is n m) := nxt_eq hr
          clear hr
          have HIN := HJ.out _ hpn
          clear l1 l2 l3 hy hpn
          rw [ep] at HIN HR
          clear ep
          go_wp2_with fail
          refine HLow.mono ?_
          intro e w2 hw2
          obtain ⟨he2, hw2⟩ := hw2
          subst he2
          subst hw2
          go_wp2_with fail
          refine HIN.mono ?_
          intro e w2 hw2
          obtain ⟨he2, hw2⟩ := hw2
          subst he2
          subst hw2
          go_wp2_with fail
          go_ret
          exact ⟨by rw [← HR.out]; rfl, rfl⟩
        · have hr : NextIs (bitF W) is n m (-1) := ⟨fun _ p h1 h2 => l3 p h1 (Nat.lt_of_lt_of_le h2 (Nat.le_of_not_lt hpn)), fun e => absurd rfl e⟩
          have HR : Hid ((-1 : Int) = nxt (bitF W) is n m) := nxt_eq hr
          clear hr
          have HIN := HK.out (64 * a + z) (Nat.le_of_not_lt hpn)
          clear l1 l2 l3 hy hpn
          rw [ep] at HIN
          clear ep
          go_wp2_with fail
          refine HLow.mono ?_
          intro e w2 hw2
          obtain ⟨he2, hw2⟩ := hw2
          subst he2
          subst hw2
          go_wp2_with fail
          refine HIN.mono ?_
          intro e w2 hw2
          obtain ⟨he2, hw2⟩ := hw2
          subst he2
          subst hw2
          go_wp2_with fail
          go_ret
          exact ⟨by rw [← HR.out]; rfl, rfl⟩
/-- Next and Free: the least place from one on that is one, that is nought -/
def fromN (f : Int) : Nat := (max f 0).toNat
theorem seek_any (w : World) (hT : TabAt w) (h : BM w B g n b c W) (f : Int) (tn : Nat) (is : Bool) (ht : Turn tn is) : Calls Tryd.prog 65 #[.pointer (some ⟨g, 0, none⟩), .int .i64 f, .int .u64 (tn : Int)] w fun e w' => e = .returned (.int .i64 (nxt (bitF W) is n (fromN f))) ∧ w' = w := by
  by_cases hf : (n : Int) ≤ f
  · refine (seek_out w h f tn hf).mono ?_
    rintro e w' ⟨rfl, rfl⟩
    have hr : NextIs (bitF W) is n (fromN f) (-1) := ⟨fun _ p h1 h2 => by unfold fromN at h1; omega, fun e => absurd rfl e⟩
    exact ⟨by rw [← nxt_eq hr], rfl⟩
  · exact seek_in w hT h f (fromN f) (by unfold fromN; omega) (by have := h.n1; unfold fromN; omega) tn is ht
theorem next_any (w : World) (hT : TabAt w) (h : BM w B g n b c W) (f : Int) : Calls Tryd.prog 71 #[.pointer (some ⟨g, 0, none⟩), .int .i64 f] w fun e w' => e = .returned (.int .i64 (nxt (bitF W) true n (fromN f))) ∧ w' = w := by
  have HS : Hid (Calls Tryd.prog 65 #[.pointer (some ⟨g, 0, none⟩), .int .i64 f, .int .u64 0] w fun e w' => e = .returned (.int .i64 (nxt (bitF W) true n (fromN f))) ∧ w' = w) := seek_any w hT h f 0 true (.inl ⟨rfl, rfl⟩)
  clear h
  generalize nxt (bitF W) true n (fromN f) = r at *
  go_enter Tryd.func71, Tryd.ntmps71
  go_wp2_with fail
  refine HS.out.mono ?_
  rintro e w' ⟨rfl, rfl⟩
  go_wp2_with fail
  go_ret
  exact ⟨rfl, rfl⟩
theorem free_any (w : World) (hT : TabAt w) (h : BM w B g n b c W) (f : Int) : Calls Tryd.prog 42 #[.pointer (some ⟨g, 0, none⟩), .int .i64 f] w fun e w' => e = .returned (.int .i64 (nxt (bitF W) false n (fromN f))) ∧ w' = w := by
  have HS : Hid (Calls Tryd.prog 65 #[.pointer (some ⟨g, 0, none⟩), .int .i64 f, .int .u64 18446744073709551615] w fun e w' => e = .returned (.int .i64 (nxt (bitF W) false n (fromN f))) ∧ w' = w) := seek_any w hT h f 18446744073709551615 false (.inr ⟨rfl, rfl⟩)
  clear h
  generalize nxt (bitF W) false n (fromN f) = r at *
  go_enter Tryd.func42, Tryd.ntmps42
  go_wp2_with fail
  refine HS.out.mono ?_
  rintro e w' ⟨rfl, rfl⟩
  go_wp2_with fail
  go_ret
  exact ⟨rfl, rfl⟩
end
end Go.Proofs.YtkpcgijdokhjkaaDoor

namespace Go.Proofs.YtkpcgijdokhjkaaDoor
open Go Go.RowKit
set_option linter.unusedVariables false
set_option linter.unusedSimpArgs false
section
variable {B B' g g' n n' b b' c c' : Nat} {V W : Nat → Nat}
/-- what two words come to -/
structure Both (f : Nat) (op : Nat → Nat → Nat) (bop : Bool → Bool → Bool) : Prop where
  call : ∀ (x y : Nat) (w : World), x < 18446744073709551616 → y < 18446744073709551616 → Calls Tryd.prog f #[.int .u64 (x : Int), .int .u64 (y : Int)] w fun e w' => e = .returned (.int .u64 ((op x y : Nat) : Int)) ∧ w' = w
  lt : ∀ x y, x < 18446744073709551616 → y < 18446744073709551616 → op x y < 18446744073709551616
  bit : ∀ x y j, x < 18446744073709551616 → y < 18446744073709551616 → j < 64 → (op x y).testBit j = bop (x.testBit j) (y.testBit j)
  none : bop false false = false
theorem both_either : Both 64 (fun x y => x ||| y) (fun x y => x || y) := ⟨fun x y w hx hy => by
    have H : Hid (bits .or .u64 (x : Int) (y : Int) = ((x ||| y : Nat) : Int)) := u64_or_nat _ _ hx hy
    go_enter Tryd.func64, Tryd.ntmps64
    go_wp2_with fail
    go_ret
    exact ⟨by rw [← H.out]; rfl, rfl⟩, fun x y => or_lt64 x y, fun x y j _ _ _ => Nat.testBit_or x y j, rfl⟩
theorem both_less : Both 77 (fun x y => x &&& notN y) (fun x y => x && !y) := ⟨fun x y w hx hy => by
    have H : Hid (bits .andNot .u64 (x : Int) (y : Int) = ((x &&& notN y : Nat) : Int)) := u64_andNot_nat _ _ hx hy
    go_enter Tryd.func77, Tryd.ntmps77
    go_wp2_with fail
    go_ret
    exact ⟨by rw [← H.out]; rfl, rfl⟩, fun x y hx _ => and_lt64 x _ hx, fun x y j _ hy hj => by rw [Nat.testBit_and, notN_bit y j hy hj], rfl⟩
theorem both_cross : Both 78 (fun x y => x &&& y) (fun x y => x && y) := ⟨fun x y w hx hy => by
    have H : Hid (bits .and .u64 (x : Int) (y : Int) = ((x &&& y : Nat) : Int)) := u64_and_nat _ _ hx hy
    go_enter Tryd.func78, Tryd.ntmps78
    go_wp2_with fail
    go_ret
    exact ⟨by rw [← H.out]; rfl, rfl⟩, fun x y hx _ => and_lt64 x _ hx, fun x y j _ _ _ => Nat.testBit_and x y j, rfl⟩
def mixW (op : Nat → Nat → Nat) (V W : Nat → Nat) (j : Nat) : Nat → Nat := fun i => if i < j then op (V i) (W i) else V i
theorem mixW_step (op : Nat → Nat → Nat) (V W : Nat → Nat) (j : Nat) : updN (mixW op V W j) j (op (V j) (W j)) = mixW op V W (j + 1) := by
  funext i
  unfold updN mixW
  by_cases h : i = j
  · subst h; simp
  · rw [if_neg h]
    by_cases h2 : i < j
    · rw [if_pos h2, if_pos (by omega)]
    · rw [if_neg h2, if_neg (by omega)]
theorem mixW_bit {f : Nat} {op : Nat → Nat → Nat} {bop : Bool → Bool → Bool} (hf : Both f op bop) (hV : ∀ i, V i < 18446744073709551616) (hW : ∀ i, W i < 18446744073709551616) (j p : Nat) : bitF (mixW op V W j) p = if p / 64 < j then bop (bitF V p) (bitF W p) else bitF V p := by
  unfold bitF mixW
  by_cases h : p / 64 < j
  · rw [if_pos h, if_pos h, hf.bit _ _ _ (hV _) (hW _) (by omega)]
  · rw [if_neg h, if_neg h]
set_option maxHeartbeats 4000000 in
theorem with_either {op : Nat → Nat → Nat} {bop : Bool → Bool → Bool} (hf : Both 64 op bop) (w : World) (h : BM w B g n b c V) (h' : BM w B' g' n b' c' W) : Calls Tryd.prog 63 #[.pointer (some ⟨g, 0, none⟩), .pointer (some ⟨g', 0, none⟩), .func (.func 64) #[] #[]] w fun e w' => ∃ g2, e = .returned (.tuple #[.pointer (some ⟨g2, 0, none⟩), .int .i64 0]) ∧ (∃ b2 c2 U, BM w' w.heap.size g2 n b2 c2 U ∧ ∀ p, bitF U p = bop (bitF V p) (bitF W p)) ∧ Below w.heap.size w w' := by
  have c0 := h.c0
  have d0 := h'.c0
  have hl := lvN_le h.n2
  have hge := lvN_ge (n := n)
  have HCL : Hid (∀ m, Calls Tryd.prog 39 #[.pointer (some ⟨g, 0, none⟩)] (w.drewN m) fun e w' => ∃ g2 b2 c2, e = .returned (.pointer (some ⟨g2, 0, none⟩)) ∧ BM w' w.heap.size g2 n b2 c2 V ∧ Below w.heap.size w w') := fun m => by
    refine (bclone_any _ (h.dN m)).mono ?_
    rintro e w1 ⟨g2, b2, c2, rfl, h1, h2⟩
    exact ⟨g2, b2, c2, rfl, h1, ⟨h2.os, h2.tape, h2.output, h2.size, h2.block⟩⟩
  have HO : Hid (∀ U : World, Below w.heap.size w U → BM U B' g' n b' c' W) := fun U hU => h'.below hU
  have HV := h.lt
  have HW := h'.lt
  have HVT := h.tail
  have HWT := h'.tail
  clear h h'
  go_enter Tryd.func63, Tryd.ntmps63
  go_wp2_with fail
  go_quiet (fail)
  go_wp2_with fail
  refine (HCL.out _).mono ?_
  rintro e w1 ⟨g2, b2, c2, rfl, hM1, hb1⟩
  have o1 := (HO.out w1 hb1).c1
  have HK : Hid (16 * lvN n ≤ 128 ∧ n ≤ 64 * (16 * lvN n)) := ⟨by omega, by omega⟩
  go_wp2_with fail
  have HF : Hid (Both 64 op bop) := hf
  have HM1 : Hid (BM w1 w.heap.size g2 n b2 c2 (mixW op V W 0)) := hM1.congr (fun i => by unfold mixW; rw [if_neg (by omega)]; exact HV i) fun p => by rw [mixW_bit hf HV HW, if_neg (by omega)]
  have HB1 : Hid (Below w.heap.size w w1) := hb1
  have HVL : Hid (∀ i, V i < 18446744073709551616) := HV
  have HWL : Hid (∀ i, W i < 18446744073709551616) := HW
  have HT0 : Hid (∀ j p, n ≤ p → bitF (mixW op V W j) p = false) := fun j p hp => by
    rw [mixW_bit hf HV HW, HVT p hp, HWT p hp, hf.none]
    split <;> rfl
  clear hM1 hb1 HV HW HVT HWT HCL hf o1 c0 d0 hl hge
  generalize hk0 : 16 * lvN n = k at *
  go_loopw [41] (fun t wr => ∃ j : Nat, j ≤ k ∧ t = .int .i64 (j : Int) ∧ BM wr w.heap.size g2 n b2 c2 (mixW op V W j) ∧ Below w.heap.size w wr) (fun t _ => k - (intOf t).toNat)
  case atStart => exact ⟨0, by omega, rfl, HM1.out, HB1.out⟩
  case round =>
    clear HM1 HB1
    have hk128 := HK.out.1
    obtain ⟨j, hj, rfl, hM, hb⟩ := hrel
    by_cases hlt : j < k
    · have j0 : (0 : Int) ≤ (j : Int) := by omega
      have j1 : (j : Int) < (k : Int) := by omega
      have hO := HO.out wr hb
      have co := hO.word (i := j) (by omega)
      have hx : mixW op V W j j = V j := by unfold mixW; rw [if_neg (by omega)]
      have cx := hM.word (i := j) (by omega)
      rw [hx] at cx
      have cf := hM.frozen j
      have c1 := hM.c1
      rw [hk0] at c1
      have HBOTH : Hid (∀ U : World, Calls Tryd.prog 64 #[.int .u64 ((V j : Nat) : Int), .int .u64 ((W j : Nat) : Int)] U fun e w' => e = .returned (.int .u64 ((op (V j) (W j) : Nat) : Int)) ∧ w' = U) := fun U => HF.out.call _ _ U (HVL.out j) (HWL.out j)
      have HPUT : Hid (∀ U : World, BM U w.heap.size g2 n b2 c2 (mixW op V W j) → BM (U.setCell ⟨b2, j, none⟩ (.int .u64 ((op (V j) (W j) : Nat) : Int))) w.heap.size g2 n b2 c2 (mixW op V W (j + 1))) := fun U hU => by
        have := hU.put (i := j) (x := op (V j) (W j)) (by omega) (HF.out.lt _ _ (HVL.out j) (HWL.out j)) (by rw [mixW_step]; exact HT0.out (j + 1))
        rw [mixW_step] at this
        exact this
      have HJ : Hid (j < k) := hlt
      have HBL : w.heap.size ≤ b2 := hM.blt.1
      have S0 : wr.drew.cell? ⟨g2, 1, none⟩ = some (.slice (some ⟨b2, 0, none⟩) k c2) ∧ wr.drew.cell? ⟨b2, j, none⟩ = some (.int .u64 ((V j : Nat) : Int)) ∧ wr.drew.frozen? ⟨b2, j, none⟩ = false ∧ BM wr.drew w.heap.size g2 n b2 c2 (mixW op V W j) ∧ Below w.heap.size w wr.drew := ⟨c1, cx, cf, hM.keep rfl rfl, hb.drew⟩
      clear hO hx cx cf c1 hM hb
      generalize op (V j) (W j) = z at *
      generalize V j = x at *
      generalize W j = y at *
      go_wp2_with fail
      refine wp_region_partsS (fun U => U.cell? ⟨g2, 1, none⟩ = some (.slice (some ⟨b2, 0, none⟩) k c2) ∧ U.cell? ⟨b2, j, none⟩ = some (.int .u64 (x : Int)) ∧ U.frozen? ⟨b2, j, none⟩ = false ∧ BM U w.heap.size g2 n b2 c2 (mixW op V W j) ∧ Below w.heap.size w U) [([0, 4, 5, 6, 10, 13], 1, true), ([], 2, true), ([], 3, true), ([], 7, false), ([], 8, false), ([], 9, false), ([11], 12, false), ([], 14, false)] [15] [16] (by kernel_rfl) (by kernel_rfl) S0 (partsI_yield ?_)
      simp only [List.cons_append, List.nil_append, List.append_nil, List.filterMap_cons, List.filterMap_nil, List.getElem?_toArray, List.getElem?_cons_zero, List.getElem?_cons_succ]
      go_wp2_with fail
      refine ⟨rfl, _, .pointer (some ⟨g2, 0, none⟩), rfl, Or.inl ⟨by rfl, fun W hW => by go_simp⟩, partsI_yield ?_⟩
      simp only [Act.put, List.setIfInBounds_toArray, List.set_cons_zero, List.set_cons_succ]
      simp only [List.cons_append, List.nil_append, List.append_nil, List.filterMap_cons, List.filterMap_nil, List.getElem?_toArray, List.getElem?_cons_zero, List.getElem?_cons_succ]
      go_wp2_with fail
      refine ⟨rfl, _, .pointer (some ⟨g2, 1, none⟩), rfl, Or.inl ⟨by rfl, fun W hW => by go_simp⟩, partsI_yield ?_⟩
      simp only [Act.put, List.setIfInBounds_toArray, List.set_cons_zero, List.set_cons_succ]
      simp only [List.cons_append, List.nil_append, List.append_nil, List.filterMap_cons, List.filterMap_nil, List.getElem?_toArray, List.getElem?_cons_zero, List.getElem?_cons_succ]
      go_wp2_with fail
      refine ⟨rfl, _, .slice (some ⟨b2, 0, none⟩) k c2, rfl, Or.inl ⟨by rfl, fun W hW => by have c1 := hW.1; go_simp⟩, partsI_force ?_⟩
      simp only [Act.put, List.setIfInBounds_toArray, List.set_cons_zero, List.set_cons_succ]
      simp only [List.cons_append, List.nil_append, List.append_nil, List.filterMap_cons, List.filterMap_nil, List.getElem?_toArray, List.getElem?_cons_zero, List.getElem?_cons_succ]
      go_wp2_with fail
      refine ⟨rfl, S0, partsI_force ?_⟩
      simp only [List.cons_append, List.nil_append, List.append_nil, List.filterMap_cons, List.filterMap_nil, List.getElem?_toArray, List.getElem?_cons_zero, List.getElem?_cons_succ]
      go_wp2_with fail
      refine ⟨rfl, S0, partsI_force ?_⟩
      simp only [List.cons_append, List.nil_append, List.append_nil, List.filterMap_cons, List.filterMap_nil, List.getElem?_toArray, List.getElem?_cons_zero, List.getElem?_cons_succ]
      have q1 := S0.1
      go_wp2_with fail
      refine ⟨rfl, S0, partsI_force ?_⟩
      simp only [List.cons_append, List.nil_append, List.append_nil, List.filterMap_cons, List.filterMap_nil, List.getElem?_toArray, List.getElem?_cons_zero, List.getElem?_cons_succ]
      have q2 := S0.2.1
      go_wp2_with fail
      refine ⟨rfl, S0, partsI_force ?_⟩
      simp only [List.cons_append, List.nil_append, List.append_nil, List.filterMap_cons, List.filterMap_nil, List.getElem?_toArray, List.getElem?_cons_zero, List.getElem?_cons_succ]
      go_wp2_with fail
      refine (HBOTH.out _).mono ?_
      rintro e2 w5 ⟨rfl, rfl⟩
      go_wp2_with fail
      refine ⟨rfl, S0, partsI_last ?_⟩
      simp only [List.cons_append, List.nil_append, List.append_nil, List.filterMap_cons, List.filterMap_nil, List.getElem?_toArray, List.getElem?_cons_zero, List.getElem?_cons_succ]
      obtain ⟨q1, q2, q3, hM5, hb5⟩ := S0
      have HM6 : Hid (BM (wr.drew.setCell ⟨b2, j, none⟩ (.int .u64 (z : Int))) w.heap.size g2 n b2 c2 (mixW op V W (j + 1))) := HPUT.out _ hM5
      have HB6 : Hid (Below w.heap.size w (wr.drew.setCell ⟨b2, j, none⟩ (.int .u64 (z : Int)))) := hb5.setCell (p := ⟨b2, j, none⟩) HBL _
      clear HPUT HBOTH hM5 hb5
      go_wp2_with fail
      refine ⟨rfl, ?_⟩
      go_wp2_with fail
      go_roundw
      case rel => exact ⟨j + 1, HJ.out, by first | rfl | go_num | simp, HM6.out, HB6.out⟩
      case measure => simp [intOf]; have := HJ.out; omega
    · obtain rfl : j = k := by omega
      have j1 : ¬ ((j : Int) < (j : Int)) := by omega
      have HR : Hid (∃ b2 c2 U, BM wr w.heap.size g2 n b2 c2 U ∧ ∀ p, bitF U p = bop (bitF V p) (bitF W p)) := ⟨b2, c2, _, hM, fun p => by
        rw [mixW_bit HF.out HVL.out HWL.out]
        by_cases hp : p / 64 < j
        · rw [if_pos hp]
        · rw [if_neg hp]
          have h1 := HT0.out 0 p (by have := HK.out; omega)
          rw [mixW_bit HF.out HVL.out HWL.out, if_neg (by omega)] at h1
          have hw := (HO.out wr hb).tail p (by have := HK.out; omega)
          rw [h1, hw, HF.out.none]⟩
      clear hM
      go_wp2_with fail
      go_ret2
      exact ⟨g2, rfl, HR.out, hb⟩
set_option maxHeartbeats 4000000 in
theorem with_less {op : Nat → Nat → Nat} {bop : Bool → Bool → Bool} (hf : Both 77 op bop) (w : World) (h : BM w B g n b c V) (h' : BM w B' g' n b' c' W) : Calls Tryd.prog 63 #[.pointer (some ⟨g, 0, none⟩), .pointer (some ⟨g', 0, none⟩), .func (.func 77) #[] #[]] w fun e w' => ∃ g2, e = .returned (.tuple #[.pointer (some ⟨g2, 0, none⟩), .int .i64 0]) ∧ (∃ b2 c2 U, BM w' w.heap.size g2 n b2 c2 U ∧ ∀ p, bitF U p = bop (bitF V p) (bitF W p)) ∧ Below w.heap.size w w' := by
  have c0 := h.c0
  have d0 := h'.c0
  have hl := lvN_le h.n2
  have hge := lvN_ge (n := n)
  have HCL : Hid (∀ m, Calls Tryd.prog 39 #[.pointer (some ⟨g, 0, none⟩)] (w.drewN m) fun e w' => ∃ g2 b2 c2, e = .returned (.pointer (some ⟨g2, 0, none⟩)) ∧ BM w' w.heap.size g2 n b2 c2 V ∧ Below w.heap.size w w') := fun m => by
    refine (bclone_any _ (h.dN m)).mono ?_
    rintro e w1 ⟨g2, b2, c2, rfl, h1, h2⟩
    exact ⟨g2, b2, c2, rfl, h1, ⟨h2.os, h2.tape, h2.output, h2.size, h2.block⟩⟩
  have HO : Hid (∀ U : World, Below w.heap.size w U → BM U B' g' n b' c' W) := fun U hU => h'.below hU
  have HV := h.lt
  have HW := h'.lt
  have HVT := h.tail
  have HWT := h'.tail
  clear h h'
  go_enter Tryd.func63, Tryd.ntmps63
  go_wp2_with fail
  go_quiet (fail)
  go_wp2_with fail
  refine (HCL.out _).mono ?_
  rintro e w1 ⟨g2, b2, c2, rfl, hM1, hb1⟩
  have o1 := (HO.out w1 hb1).c1
  have HK : Hid (16 * lvN n ≤ 128 ∧ n ≤ 64 * (16 * lvN n)) := ⟨by omega, by omega⟩
  go_wp2_with fail
  have HF : Hid (Both 77 op bop) := hf
  have HM1 : Hid (BM w1 w.heap.size g2 n b2 c2 (mixW op V W 0)) := hM1.congr (fun i => by unfold mixW; rw [if_neg (by omega)]; exact HV i) fun p => by rw [mixW_bit hf HV HW, if_neg (by omega)]
  have HB1 : Hid (Below w.heap.size w w1) := hb1
  have HVL : Hid (∀ i, V i < 18446744073709551616) := HV
  have HWL : Hid (∀ i, W i < 18446744073709551616) := HW
  have HT0 : Hid (∀ j p, n ≤ p → bitF (mixW op V W j) p = false) := fun j p hp => by
    rw [mixW_bit hf HV HW, HVT p hp, HWT p hp, hf.none]
    split <;> rfl
  clear hM1 hb1 HV HW HVT HWT HCL hf o1 c0 d0 hl hge
  generalize hk0 : 16 * lvN n = k at *
  go_loopw [41] (fun t wr => ∃ j : Nat, j ≤ k ∧ t = .int .i64 (j : Int) ∧ BM wr w.heap.size g2 n b2 c2 (mixW op V W j) ∧ Below w.heap.size w wr) (fun t _ => k - (intOf t).toNat)
  case atStart => exact ⟨0, by omega, rfl, HM1.out, HB1.out⟩
  case round =>
    clear HM1 HB1
    have hk128 := HK.out.1
    obtain ⟨j, hj, rfl, hM, hb⟩ := hrel
    by_cases hlt : j < k
    · have j0 : (0 : Int) ≤ (j : Int) := by omega
      have j1 : (j : Int) < (k : Int) := by omega
      have hO := HO.out wr hb
      have co := hO.word (i := j) (by omega)
      have hx : mixW op V W j j = V j := by unfold mixW; rw [if_neg (by omega)]
      have cx := hM.word (i := j) (by omega)
      rw [hx] at cx
      have cf := hM.frozen j
      have c1 := hM.c1
      rw [hk0] at c1
      have HBOTH : Hid (∀ U : World, Calls Tryd.prog 77 #[.int .u64 ((V j : Nat) : Int), .int .u64 ((W j : Nat) : Int)] U fun e w' => e = .returned (.int .u64 ((op (V j) (W j) : Nat) : Int)) ∧ w' = U) := fun U => HF.out.call _ _ U (HVL.out j) (HWL.out j)
      have HPUT : Hid (∀ U : World, BM U w.heap.size g2 n b2 c2 (mixW op V W j) → BM (U.setCell ⟨b2, j, none⟩ (.int .u64 ((op (V j) (W j) : Nat) : Int))) w.heap.size g2 n b2 c2 (mixW op V W (j + 1))) := fun U hU => by
        have := hU.put (i := j) (x := op (V j) (W j)) (by omega) (HF.out.lt _ _ (HVL.out j) (HWL.out j)) (by rw [mixW_step]; exact HT0.out (j + 1))
        rw [mixW_step] at this
        exact this
      have HJ : Hid (j < k) := hlt
      have HBL : w.heap.size ≤ b2 := hM.blt.1
      have S0 : wr.drew.cell? ⟨g2, 1, none⟩ = some (.slice (some ⟨b2, 0, none⟩) k c2) ∧ wr.drew.cell? ⟨b2, j, none⟩ = some (.int .u64 ((V j : Nat) : Int)) ∧ wr.drew.frozen? ⟨b2, j, none⟩ = false ∧ BM wr.drew w.heap.size g2 n b2 c2 (mixW op V W j) ∧ Below w.heap.size w wr.drew := ⟨c1, cx, cf, hM.keep rfl rfl, hb.drew⟩
      clear hO hx cx cf c1 hM hb
      generalize op (V j) (W j) = z at *
      generalize V j = x at *
      generalize W j = y at *
      go_wp2_with fail
      refine wp_region_partsS (fun U => U.cell? ⟨g2, 1, none⟩ = some (.slice (some ⟨b2, 0, none⟩) k c2) ∧ U.cell? ⟨b2, j, none⟩ = some (.int .u64 (x : Int)) ∧ U.frozen? ⟨b2, j, none⟩ = false ∧ BM U w.heap.size g2 n b2 c2 (mixW op V W j) ∧ Below w.heap.size w U) [([0, 4, 5, 6, 10, 13], 1, true), ([], 2, true), ([], 3, true), ([], 7, false), ([], 8, false), ([], 9, false), ([11], 12, false), ([], 14, false)] [15] [16] (by kernel_rfl) (by kernel_rfl) S0 (partsI_yield ?_)
      simp only [List.cons_append, List.nil_append, List.append_nil, List.filterMap_cons, List.filterMap_nil, List.getElem?_toArray, List.getElem?_cons_zero, List.getElem?_cons_succ]
      go_wp2_with fail
      refine ⟨rfl, _, .pointer (some ⟨g2, 0, none⟩), rfl, Or.inl ⟨by rfl, fun W hW => by go_simp⟩, partsI_yield ?_⟩
      simp only [Act.put, List.setIfInBounds_toArray, List.set_cons_zero, List.set_cons_succ]
      simp only [List.cons_append, List.nil_append, List.append_nil, List.filterMap_cons, List.filterMap_nil, List.getElem?_toArray, List.getElem?_cons_zero, List.getElem?_cons_succ]
      go_wp2_with fail
      refine ⟨rfl, _, .pointer (some ⟨g2, 1, none⟩), rfl, Or.inl ⟨by rfl, fun W hW => by go_simp⟩, partsI_yield ?_⟩
      simp only [Act.put, List.setIfInBounds_toArray, List.set_cons_zero, List.set_cons_succ]
      simp only [List.cons_append, List.nil_append, List.append_nil, List.filterMap_cons, List.filterMap_nil, List.getElem?_toArray, List.getElem?_cons_zero, List.getElem?_cons_succ]
      go_wp2_with fail
      refine ⟨rfl, _, .slice (some ⟨b2, 0, none⟩) k c2, rfl, Or.inl ⟨by rfl, fun W hW => by have c1 := hW.1; go_simp⟩, partsI_force ?_⟩
      simp only [Act.put, List.setIfInBounds_toArray, List.set_cons_zero, List.set_cons_succ]
      simp only [List.cons_append, List.nil_append, List.append_nil, List.filterMap_cons, List.filterMap_nil, List.getElem?_toArray, List.getElem?_cons_zero, List.getElem?_cons_succ]
      go_wp2_with fail
      refine ⟨rfl, S0, partsI_force ?_⟩
      simp only [List.cons_append, List.nil_append, List.append_nil, List.filterMap_cons, List.filterMap_nil, List.getElem?_toArray, List.getElem?_cons_zero, List.getElem?_cons_succ]
      go_wp2_with fail
      refine ⟨rfl, S0, partsI_force ?_⟩
      simp only [List.cons_append, List.nil_append, List.append_nil, List.filterMap_cons, List.filterMap_nil, List.getElem?_toArray, List.getElem?_cons_zero, List.getElem?_cons_succ]
      have q1 := S0.1
      go_wp2_with fail
      refine ⟨rfl, S0, partsI_force ?_⟩
      simp only [List.cons_append, List.nil_append, List.append_nil, List.filterMap_cons, List.filterMap_nil, List.getElem?_toArray, List.getElem?_cons_zero, List.getElem?_cons_succ]
      have q2 := S0.2.1
      go_wp2_with fail
      refine ⟨rfl, S0, partsI_force ?_⟩
      simp only [List.cons_append, List.nil_append, List.append_nil, List.filterMap_cons, List.filterMap_nil, List.getElem?_toArray, List.getElem?_cons_zero, List.getElem?_cons_succ]
      go_wp2_with fail
      refine (HBOTH.out _).mono ?_
      rintro e2 w5 ⟨rfl, rfl⟩
      go_wp2_with fail
      refine ⟨rfl, S0, partsI_last ?_⟩
      simp only [List.cons_append, List.nil_append, List.append_nil, List.filterMap_cons, List.filterMap_nil, List.getElem?_toArray, List.getElem?_cons_zero, List.getElem?_cons_succ]
      obtain ⟨q1, q2, q3, hM5, hb5⟩ := S0
      have HM6 : Hid (BM (wr.drew.setCell ⟨b2, j, none⟩ (.int .u64 (z : Int))) w.heap.size g2 n b2 c2 (mixW op V W (j + 1))) := HPUT.out _ hM5
      have HB6 : Hid (Below w.heap.size w (wr.drew.setCell ⟨b2, j, none⟩ (.int .u64 (z : Int)))) := hb5.setCell (p := ⟨b2, j, none⟩) HBL _
      clear HPUT HBOTH hM5 hb5
      go_wp2_with fail
      refine ⟨rfl, ?_⟩
      go_wp2_with fail
      go_roundw
      case rel => exact ⟨j + 1, HJ.out, by first | rfl | go_num | simp, HM6.out, HB6.out⟩
      case measure => simp [intOf]; have := HJ.out; omega
    · obtain rfl : j = k := by omega
      have j1 : ¬ ((j : Int) < (j : Int)) := by omega
      have HR : Hid (∃ b2 c2 U, BM wr w.heap.size g2 n b2 c2 U ∧ ∀ p, bitF U p = bop (bitF V p) (bitF W p)) := ⟨b2, c2, _, hM, fun p => by
        rw [mixW_bit HF.out HVL.out HWL.out]
        by_cases hp : p / 64 < j
        · rw [if_pos hp]
        · rw [if_neg hp]
          have h1 := HT0.out 0 p (by have := HK.out; omega)
          rw [mixW_bit HF.out HVL.out HWL.out, if_neg (by omega)] at h1
          have hw := (HO.out wr hb).tail p (by have := HK.out; omega)
          rw [h1, hw, HF.out.none]⟩
      clear hM
      go_wp2_with fail
      go_ret2
      exact ⟨g2, rfl, HR.out, hb⟩
set_option maxHeartbeats 4000000 in
theorem with_cross {op : Nat → Nat → Nat} {bop : Bool → Bool → Bool} (hf : Both 78 op bop) (w : World) (h : BM w B g n b c V) (h' : BM w B' g' n b' c' W) : Calls Tryd.prog 63 #[.pointer (some ⟨g, 0, none⟩), .pointer (some ⟨g', 0, none⟩), .func (.func 78) #[] #[]] w fun e w' => ∃ g2, e = .returned (.tuple #[.pointer (some ⟨g2, 0, none⟩), .int .i64 0]) ∧ (∃ b2 c2 U, BM w' w.heap.size g2 n b2 c2 U ∧ ∀ p, bitF U p = bop (bitF V p) (bitF W p)) ∧ Below w.heap.size w w' := by
  have c0 := h.c0
  have d0 := h'.c0
  have hl := lvN_le h.n2
  have hge := lvN_ge (n := n)
  have HCL : Hid (∀ m, Calls Tryd.prog 39 #[.pointer (some ⟨g, 0, none⟩)] (w.drewN m) fun e w' => ∃ g2 b2 c2, e = .returned (.pointer (some ⟨g2, 0, none⟩)) ∧ BM w' w.heap.size g2 n b2 c2 V ∧ Below w.heap.size w w') := fun m => by
    refine (bclone_any _ (h.dN m)).mono ?_
    rintro e w1 ⟨g2, b2, c2, rfl, h1, h2⟩
    exact ⟨g2, b2, c2, rfl, h1, ⟨h2.os, h2.tape, h2.output, h2.size, h2.block⟩⟩
  have HO : Hid (∀ U : World, Below w.heap.size w U → BM U B' g' n b' c' W) := fun U hU => h'.below hU
  have HV := h.lt
  have HW := h'.lt
  have HVT := h.tail
  have HWT := h'.tail
  clear h h'
  go_enter Tryd.func63, Tryd.ntmps63
  go_wp2_with fail
  go_quiet (fail)
  go_wp2_with fail
  refine (HCL.out _).mono ?_
  rintro e w1 ⟨g2, b2, c2, rfl, hM1, hb1⟩
  have o1 := (HO.out w1 hb1).c1
  have HK : Hid (16 * lvN n ≤ 128 ∧ n ≤ 64 * (16 * lvN n)) := ⟨by omega, by omega⟩
  go_wp2_with fail
  have HF : Hid (Both 78 op bop) := hf
  have HM1 : Hid (BM w1 w.heap.size g2 n b2 c2 (mixW op V W 0)) := hM1.congr (fun i => by unfold mixW; rw [if_neg (by omega)]; exact HV i) fun p => by rw [mixW_bit hf HV HW, if_neg (by omega)]
  have HB1 : Hid (Below w.heap.size w w1) := hb1
  have HVL : Hid (∀ i, V i < 18446744073709551616) := HV
  have HWL : Hid (∀ i, W i < 18446744073709551616) := HW
  have HT0 : Hid (∀ j p, n ≤ p → bitF (mixW op V W j) p = false) := fun j p hp => by
    rw [mixW_bit hf HV HW, HVT p hp, HWT p hp, hf.none]
    split <;> rfl
  clear hM1 hb1 HV HW HVT HWT HCL hf o1 c0 d0 hl hge
  generalize hk0 : 16 * lvN n = k at *
  go_loopw [41] (fun t wr => ∃ j : Nat, j ≤ k ∧ t = .int .i64 (j : Int) ∧ BM wr w.heap.size g2 n b2 c2 (mixW op V W j) ∧ Below w.heap.size w wr) (fun t _ => k - (intOf t).toNat)
  case atStart => exact ⟨0, by omega, rfl, HM1.out, HB1.out⟩
  case round =>
    clear HM1 HB1
    have hk128 := HK.out.1
    obtain ⟨j, hj, rfl, hM, hb⟩ := hrel
    by_cases hlt : j < k
    · have j0 : (0 : Int) ≤ (j : Int) := by omega
      have j1 : (j : Int) < (k : Int) := by omega
      have hO := HO.out wr hb
      have co := hO.word (i := j) (by omega)
      have hx : mixW op V W j j = V j := by unfold mixW; rw [if_neg (by omega)]
      have cx := hM.word (i := j) (by omega)
      rw [hx] at cx
      have cf := hM.frozen j
      have c1 := hM.c1
      rw [hk0] at c1
      have HBOTH : Hid (∀ U : World, Calls Tryd.prog 78 #[.int .u64 ((V j : Nat) : Int), .int .u64 ((W j : Nat) : Int)] U fun e w' => e = .returned (.int .u64 ((op (V j) (W j) : Nat) : Int)) ∧ w' = U) := fun U => HF.out.call _ _ U (HVL.out j) (HWL.out j)
      have HPUT : Hid (∀ U : World, BM U w.heap.size g2 n b2 c2 (mixW op V W j) → BM (U.setCell ⟨b2, j, none⟩ (.int .u64 ((op (V j) (W j) : Nat) : Int))) w.heap.size g2 n b2 c2 (mixW op V W (j + 1))) := fun U hU => by
        have := hU.put (i := j) (x := op (V j) (W j)) (by omega) (HF.out.lt _ _ (HVL.out j) (HWL.out j)) (by rw [mixW_step]; exact HT0.out (j + 1))
        rw [mixW_step] at this
        exact this
      have HJ : Hid (j < k) := hlt
      have HBL : w.heap.size ≤ b2 := hM.blt.1
      have S0 : wr.drew.cell? ⟨g2, 1, none⟩ = some (.slice (some ⟨b2, 0, none⟩) k c2) ∧ wr.drew.cell? ⟨b2, j, none⟩ = some (.int .u64 ((V j : Nat) : Int)) ∧ wr.drew.frozen? ⟨b2, j, none⟩ = false ∧ BM wr.drew w.heap.size g2 n b2 c2 (mixW op V W j) ∧ Below w.heap.size w wr.drew := ⟨c1, cx, cf, hM.keep rfl rfl, hb.drew⟩
      clear hO hx cx cf c1 hM hb
      generalize op (V j) (W j) = z at *
      generalize V j = x at *
      generalize W j = y at *
      go_wp2_with fail
      refine wp_region_partsS (fun U => U.cell? ⟨g2, 1, none⟩ = some (.slice (some ⟨b2, 0, none⟩) k c2) ∧ U.cell? ⟨b2, j, none⟩ = some (.int .u64 (x : Int)) ∧ U.frozen? ⟨b2, j, none⟩ = false ∧ BM U w.heap.size g2 n b2 c2 (mixW op V W j) ∧ Below w.heap.size w U) [([0, 4, 5, 6, 10, 13], 1, true), ([], 2, true), ([], 3, true), ([], 7, false), ([], 8, false), ([], 9, false), ([11], 12, false), ([], 14, false)] [15] [16] (by kernel_rfl) (by kernel_rfl) S0 (partsI_yield ?_)
      simp only [List.cons_append, List.nil_append, List.append_nil, List.filterMap_cons, List.filterMap_nil, List.getElem?_toArray, List.getElem?_cons_zero, List.getElem?_cons_succ]
      go_wp2_with fail
      refine ⟨rfl, _, .pointer (some ⟨g2, 0, none⟩), rfl, Or.inl ⟨by rfl, fun W hW => by go_simp⟩, partsI_yield ?_⟩
      simp only [Act.put, List.setIfInBounds_toArray, List.set_cons_zero, List.set_cons_succ]
      simp only [List.cons_append, List.nil_append, List.append_nil, List.filterMap_cons, List.filterMap_nil, List.getElem?_toArray, List.getElem?_cons_zero, List.getElem?_cons_succ]
      go_wp2_with fail
      refine ⟨rfl, _, .pointer (some ⟨g2, 1, none⟩), rfl, Or.inl ⟨by rfl, fun W hW => by go_simp⟩, partsI_yield ?_⟩
      simp only [Act.put, List.setIfInBounds_toArray, List.set_cons_zero, List.set_cons_succ]
      simp only [List.cons_append, List.nil_append, List.append_nil, List.filterMap_cons, List.filterMap_nil, List.getElem?_toArray, List.getElem?_cons_zero, List.getElem?_cons_succ]
      go_wp2_with fail
      refine ⟨rfl, _, .slice (some ⟨b2, 0, none⟩) k c2, rfl, Or.inl ⟨by rfl, fun W hW => by have c1 := hW.1; go_simp⟩, partsI_force ?_⟩
      simp only [Act.put, List.setIfInBounds_toArray, List.set_cons_zero, List.set_cons_succ]
      simp only [List.cons_append, List.nil_append, List.append_nil, List.filterMap_cons, List.filterMap_nil, List.getElem?_toArray, List.getElem?_cons_zero, List.getElem?_cons_succ]
      go_wp2_with fail
      refine ⟨rfl, S0, partsI_force ?_⟩
      simp only [List.cons_append, List.nil_append, List.append_nil, List.filterMap_cons, List.filterMap_nil, List.getElem?_toArray, List.getElem?_cons_zero, List.getElem?_cons_succ]
      go_wp2_with fail
      refine ⟨rfl, S0, partsI_force ?_⟩
      simp only [List.cons_append, List.nil_append, List.append_nil, List.filterMap_cons, List.filterMap_nil, List.getElem?_toArray, List.getElem?_cons_zero, List.getElem?_cons_succ]
      have q1 := S0.1
      go_wp2_with fail
      refine ⟨rfl, S0, partsI_force ?_⟩
      simp only [List.cons_append, List.nil_append, List.append_nil, List.filterMap_cons, List.filterMap_nil, List.getElem?_toArray, List.getElem?_cons_zero, List.getElem?_cons_succ]
      have q2 := S0.2.1
      go_wp2_with fail
      refine ⟨rfl, S0, partsI_force ?_⟩
      simp only [List.cons_append, List.nil_append, List.append_nil, List.filterMap_cons, List.filterMap_nil, List.getElem?_toArray, List.getElem?_cons_zero, List.getElem?_cons_succ]
      go_wp2_with fail
      refine (HBOTH.out _).mono ?_
      rintro e2 w5 ⟨rfl, rfl⟩
      go_wp2_with fail
      refine ⟨rfl, S0, partsI_last ?_⟩
      simp only [List.cons_append, List.nil_append, List.append_nil, List.filterMap_cons, List.filterMap_nil, List.getElem?_toArray, List.getElem?_cons_zero, List.getElem?_cons_succ]
      obtain ⟨q1, q2, q3, hM5, hb5⟩ := S0
      have HM6 : Hid (BM (wr.drew.setCell ⟨b2, j, none⟩ (.int .u64 (z : Int))) w.heap.size g2 n b2 c2 (mixW op V W (j + 1))) := HPUT.out _ hM5
      have HB6 : Hid (Below w.heap.size w (wr.drew.setCell ⟨b2, j, none⟩ (.int .u64 (z : Int)))) := hb5.setCell (p := ⟨b2, j, none⟩) HBL _
      clear HPUT HBOTH hM5 hb5
      go_wp2_with fail
      refine ⟨rfl, ?_⟩
      go_wp2_with fail
      go_roundw
      case rel => exact ⟨j + 1, HJ.out, by first | rfl | go_num | simp, HM6.out, HB6.out⟩
      case measure => simp [intOf]; have := HJ.out; omega
    · obtain rfl : j = k := by omega
      have j1 : ¬ ((j : Int) < (j : Int)) := by omega
      have HR : Hid (∃ b2 c2 U, BM wr w.heap.size g2 n b2 c2 U ∧ ∀ p, bitF U p = bop (bitF V p) (bitF W p)) := ⟨b2, c2, _, hM, fun p => by
        rw [mixW_bit HF.out HVL.out HWL.out]
        by_cases hp : p / 64 < j
        · rw [if_pos hp]
        · rw [if_neg hp]
          have h1 := HT0.out 0 p (by have := HK.out; omega)
          rw [mixW_bit HF.out HVL.out HWL.out, if_neg (by omega)] at h1
          have hw := (HO.out wr hb).tail p (by have := HK.out; omega)
          rw [h1, hw, HF.out.none]⟩
      clear hM
      go_wp2_with fail
      go_ret2
      exact ⟨g2, rfl, HR.out, hb⟩
end
end Go.Proofs.YtkpcgijdokhjkaaDoor
