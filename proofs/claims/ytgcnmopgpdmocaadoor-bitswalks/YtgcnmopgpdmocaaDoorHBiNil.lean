/- A nil map of bits: the contracts of its calls; a bit is set (awake); the walk of the statement on nil maps. -/
import Derived.Test.YtgcnmopgpdmocaaDoorHBiMake
import Derived.Handy

namespace Go.Proofs.YtgcnmopgpdmocaaDoor
open Go Go.RowKit
set_option linter.unusedVariables false
set_option linter.unusedSimpArgs false
section
variable {B g n b c : Nat} {W : Nat → Nat}
theorem sumW_le (W : Nat → Nat) (k : Nat) : sumW W k ≤ 64 * k := by rw [sumW_cnt]; exact cntF_le _ _
set_option maxHeartbeats 1000000 in
theorem count_any (w : World) (h : BM w B g n b c W) : Calls Tryd.prog 26 #[.pointer (some ⟨g, 0, none⟩)] w fun e w' => e = .returned (.int .i64 (cntF (bitF W) n : Int)) ∧ w' = w := by
  have c1 := h.c1
  have hl := lvN_le h.n2
  have HW : Hid (∀ i, i < 16 * lvN n → w.cell? ⟨b, i, none⟩ = some (.int .u64 ((W i : Nat) : Int))) := fun i hi => h.word hi
  have HL : Hid (∀ i, W i < 18446744073709551616) := h.lt
  have HE : Hid (sumW W (16 * lvN n) = cntF (bitF W) n) := by
    show sumW W (16 * lvN n) = cntF (bitF W) n
    rw [sumW_cnt]
    exact cntF_tail _ _ _ (by have := lvN_ge (n := n); omega) h.tail
  clear h
  have hk : 16 * lvN n ≤ 128 := by omega
  clear hl
  generalize 16 * lvN n = k at *
  go_enter Tryd.func26, Tryd.ntmps26
  go_wp2_with fail
  go_loop [3, 13] (fun t i => ∃ j : Nat, j ≤ k ∧ i = .int .i64 (j : Int) ∧ t = .int .i64 (sumW W j : Int)) (fun _ i => k - (intOf i).toNat)
  case atStart => exact ⟨0, by omega, rfl, rfl⟩
  case round =>
    obtain ⟨j, hj, rfl, rfl⟩ := hrel
    have hs := sumW_le W j
    by_cases hlt : j < k
    · have cw := HW.out j hlt
      have a1 : (j : Int) < (k : Int) := by omega
      have HS : Hid (wrap64 ((sumW W j : Int) + (onesTo (W j) 64 : Int)) = (sumW W (j + 1) : Int)) := by
        show wrap64 ((sumW W j : Int) + (onesTo (W j) 64 : Int)) = (sumW W (j + 1) : Int)
        have := onesTo_le (W j) 64
        rw [w64, wrapI64_id _ (by omega) (by omega)]
        show _ = ((sumW W j + onesTo (W j) 64 : Nat) : Int)
        omega
      go_wp2_with fail
      refine (ones_any (W j) (HL.out j) _).mono ?_
      rintro e w' ⟨rfl, rfl⟩
      go_wp2
      go_round
      case rel => exact ⟨j + 1, by omega, by go_num, by rw [HS.out]⟩
      case measure => simp [intOf]; omega
    · obtain rfl : j = k := by omega
      have a1 : ¬ ((j : Int) < (j : Int)) := by omega
      go_wp2_with fail
      go_ret
      exact ⟨by rw [← HE.out]; rfl, rfl⟩
/-- a word with its bits turned over, or not -/
def Turn (tn : Nat) (is : Bool) : Prop := (tn = 0 ∧ is = true) ∨ (tn = 18446744073709551615 ∧ is = false)
theorem Turn.bit {tn : Nat} {is : Bool} (h : Turn tn is) (W : Nat → Nat) (i j : Nat) (hj : j < 64) : (W i ^^^ tn).testBit j = (bitF W (64 * i + j) == is) := by
  rw [bitF_at W i j hj, Nat.testBit_xor]
  rcases h with ⟨rfl, rfl⟩ | ⟨rfl, rfl⟩
  · cases (W i).testBit j <;> simp
  · rw [show (18446744073709551615 : Nat) = 2 ^ 64 - 1 from rfl, Nat.testBit_two_pow_sub_one]
    cases (W i).testBit j <;> simp [hj]
theorem Turn.lt {tn : Nat} {is : Bool} (h : Turn tn is) : tn < 18446744073709551616 := by
  rcases h with ⟨rfl, rfl⟩ | ⟨rfl, rfl⟩ <;> decide
/-- what is left of a word behind the places ahead -/
def Left (W : Nat → Nat) (is : Bool) (f a x : Nat) : Prop := f < 64 * (a + 1) ∧ x < 18446744073709551616 ∧ (∀ j, j < 64 → x.testBit j = (decide (f ≤ 64 * a + j) && (bitF W (64 * a + j) == is))) ∧ (∀ q, f ≤ q → q < 64 * a → bitF W q = !is)
theorem beq_not {b is : Bool} (h : (b == is) = false) : b = !is := by cases b <;> cases is <;> first | rfl | exact absurd h (by decide)
theorem left_first {tn : Nat} {is : Bool} (h : Turn tn is) (hl : ∀ i, W i < 18446744073709551616) (f : Nat) : Left W is f (f / 64) ((W (f / 64) ^^^ tn) &&& notN (2 ^ (f % 64) - 1)) := by
  refine ⟨by omega, and_lt64 _ _ (xor_lt64 _ _ (hl _) h.lt), fun j hj => ?_, fun q h1 h2 => by omega⟩
  have hp : 2 ^ (f % 64) < 18446744073709551616 := pow_lt_u64 _ (by omega)
  rw [Nat.testBit_and, notN_bit _ _ (by omega) hj, h.bit W _ _ hj, Nat.testBit_two_pow_sub_one]
  have : (!decide (j < f % 64)) = decide (f ≤ 64 * (f / 64) + j) := by
    rw [← decide_not]; apply decide_eq_decide.2; omega
  rw [this, Bool.and_comm]
theorem left_all {is : Bool} {f a : Nat} (h0 : Left W is f a 0) : ∀ q, f ≤ q → q < 64 * (a + 1) → bitF W q = !is := fun q h1 h2 => by
  by_cases hq : q < 64 * a
  · exact h0.2.2.2 q h1 hq
  · have := h0.2.2.1 (q - 64 * a) (by omega)
    rw [show 64 * a + (q - 64 * a) = q from by omega] at this
    simp only [Nat.zero_testBit, h1, decide_true, Bool.true_and] at this
    exact beq_not this.symm
theorem left_next {tn : Nat} {is : Bool} (h : Turn tn is) (hl : ∀ i, W i < 18446744073709551616) {f a : Nat} (h0 : Left W is f a 0) : Left W is f (a + 1) (W (a + 1) ^^^ tn) := by
  refine ⟨by have := h0.1; omega, xor_lt64 _ _ (hl _) h.lt, fun j hj => ?_, left_all h0⟩
  rw [h.bit W _ _ hj]
  have hf : f ≤ 64 * (a + 1) + j := by have := h0.1; omega
  simp [hf]
/-- the lowest bit of what is left is the place that is looked for -/
theorem left_low {is : Bool} {f a x : Nat} (h : Left W is f a x) (h0 : x ≠ 0) : f ≤ 64 * a + Lib.ctz 64 x ∧ bitF W (64 * a + Lib.ctz 64 x) = is ∧ (∀ q, f ≤ q → q < 64 * a + Lib.ctz 64 x → bitF W q = !is) ∧ Lib.ctz 64 x < 64 := by
  obtain ⟨l1, l2, l3⟩ := low_at x h.2.1 h0
  have e := h.2.2.1 _ l3
  rw [l1] at e
  have e2 := (Bool.and_eq_true_iff.1 e.symm)
  refine ⟨of_decide_eq_true e2.1, eq_of_beq e2.2, fun q h1 h2 => ?_, l3⟩
  by_cases hq : q < 64 * a
  · exact h.2.2.2 q h1 hq
  · have := h.2.2.1 (q - 64 * a) (by omega)
    rw [show 64 * a + (q - 64 * a) = q from by omega, l2 _ (by omega)] at this
    simp only [h1, decide_true, Bool.true_and] at this
    exact beq_not this.symm
theorem seek_out (w : World) (h : BM w B g n b c W) (f : Int) (tn : Nat) (hf : (n : Int) ≤ f) : Calls Tryd.prog 46 #[.pointer (some ⟨g, 0, none⟩), .int .i64 f, .int .u64 (tn : Int)] w fun e w' => e = .returned (.int .i64 (-1)) ∧ w' = w := by
  have a0 : max f 0 = f := by have := h.n1; omega
  have HI : Hid (Calls Tryd.prog 38 #[.pointer (some ⟨g, 0, none⟩), .int .i64 f] w fun e w' => e = .returned (.bool false) ∧ w' = w) := inside_no _ h f (.inr hf)
  clear h
  go_enter Tryd.func46, Tryd.ntmps46
  go_wp2_with fail
  refine HI.out.mono ?_
  rintro e w' ⟨rfl, rfl⟩
  go_wp2_with fail
  go_ret
  exact ⟨rfl, rfl⟩
theorem nat_ne_neg (k : Nat) : ((k : Nat) : Int) ≠ -1 := by omega
set_option maxHeartbeats 4000000 in
theorem seek_in (w : World) (hT : TabAt w) (h : BM w B g n b c W) (f : Int) (m : Nat) (hm : max f 0 = (m : Int)) (hf : m < n) (tn : Nat) (is : Bool) (ht : Turn tn is) : Calls Tryd.prog 46 #[.pointer (some ⟨g, 0, none⟩), .int .i64 f, .int .u64 (tn : Int)] w fun e w' => e = .returned (.int .i64 (nxt (bitF W) is n m)) ∧ w' = w := by
  have c1 := h.c1
  have hq := quo64 m
  have hn2 := h.n2
  have hwq : IntKind.i64.wrap ((m / 64 : Nat) : Int) = ((m / 64 : Nat) : Int) := wrapI64_id _ (by omega) (by omega)
  have hk0 := lvN_le hn2
  have hkn : n ≤ 64 * (16 * lvN n) := by have := lvN_ge (n := n); omega
  have HI : Hid (Calls Tryd.prog 38 #[.pointer (some ⟨g, 0, none⟩), .int .i64 (m : Int)] w fun e w' => e = .returned (.bool true) ∧ w' = w) := inside_yes _ h m hf
  have HJ : Hid (∀ p : Nat, p < n → Calls Tryd.prog 38 #[.pointer (some ⟨g, 0, none⟩), .int .i64 (p : Int)] w fun e w' => e = .returned (.bool true) ∧ w' = w) := fun p hp => inside_yes _ h p hp
  have HK : Hid (∀ p : Nat, n ≤ p → Calls Tryd.prog 38 #[.pointer (some ⟨g, 0, none⟩), .int .i64 (p : Int)] w fun e w' => e = .returned (.bool false) ∧ w' = w) := fun p hp => inside_no _ h p (.inr (by omega))
  have HO := one_any m (by omega) w
  have HW : Hid (∀ i, i < 16 * lvN n → w.cell? ⟨b, i, none⟩ = some (.int .u64 ((W i : Nat) : Int))) := fun i hi => h.word hi
  have HX : Hid (∀ i, bits .xor .u64 ((W i : Nat) : Int) (tn : Int) = ((W i ^^^ tn : Nat) : Int)) := fun i => u64_xor_nat _ _ (h.lt i) ht.lt
  have hpow : 2 ^ (m % 64) < 18446744073709551616 := pow_lt_u64 _ (by omega)
  have hpos : 0 < 2 ^ (m % 64) := Nat.two_pow_pos _
  have HA : IntKind.u64.wrap (((2 ^ (m % 64) : Nat) : Int) - 1) = ((2 ^ (m % 64) - 1 : Nat) : Int) := by
    rw [show ((2 ^ (m % 64) : Nat) : Int) - 1 = ((2 ^ (m % 64) - 1 : Nat) : Int) from by omega]
    exact wrapU64 _ (by omega)
  have HN : bits .andNot .u64 ((W (m / 64) ^^^ tn : Nat) : Int) ((2 ^ (m % 64) - 1 : Nat) : Int) = (((W (m / 64) ^^^ tn) &&& notN (2 ^ (m % 64) - 1) : Nat) : Int) := u64_andNot_nat _ _ (xor_lt64 _ _ (h.lt _) ht.lt) (by omega)
  have HL := left_first ht h.lt m
  have HNX : Hid (∀ a, Left W is m a 0 → Left W is m (a + 1) (W (a + 1) ^^^ tn)) := fun a ha => left_next ht h.lt ha
  have cw := HW.out (m / 64) (by omega)
  have HX0 := HX.out (m / 64)
  have i0 : ((m / 64 : Nat) : Int) < ((16 * lvN n : Nat) : Int) := by omega
  clear h ht hpow hpos
  generalize hx1 : W (m / 64) ^^^ tn = x1 at *
  generalize 2 ^ (m % 64) - 1 = x2 at *
  generalize 2 ^ (m % 64) = x3 at *
  generalize x1 &&& notN x2 = x4 at *
  generalize W (m / 64) = x0 at *
  have hk : 16 * lvN n ≤ 128 := by omega
  clear hk0 hx1
  generalize hq0 : m / 64 = a0 at *
  generalize 16 * lvN n = k at *
  have a0k : a0 < k := by omega
  by_cases hneg : f < 0
  · obtain rfl : m = 0 := by omega
    obtain rfl : a0 = 0 := by omega
    go_enter Tryd.func46, Tryd.ntmps46
    go_wp2_with fail
    refine HI.out.mono ?_
    rintro e w' ⟨rfl, rfl⟩
    go_wp2_with fail
    refine HO.mono ?_
    rintro e w' ⟨rfl, rfl⟩
    go_wp2_with fail
    have HL0 : Hid (Left W is 0 0 x4) := HL
    clear HI HO HA HN HX0 cw HL hq0 hq hwq i0 hm hneg
    go_loop [7, 9] (fun t x => ∃ a y : Nat, a < k ∧ t = .int .i64 (a : Int) ∧ x = .int .u64 (y : Int) ∧ Left W is 0 a y) (fun t _ => k - (intOf t).toNat)
    case atStart => exact ⟨0, x4, a0k, rfl, rfl, HL0.out⟩
    case round =>
      obtain ⟨a, y, ha, rfl, rfl, hy⟩ := hrel
      have hy1 := hy.2.1
      by_cases h0 : y = 0
      · subst h0
        have HY : Hid (Left W is 0 a 0) := hy
        clear hy
        by_cases hlt : a + 1 < k
        · have hw : wrap64 ((a : Int) + 1) = ((a + 1 : Nat) : Int) := by rw [w64, wrapI64_id _ (by omega) (by omega)]; omega
          have cw := HW.out (a + 1) hlt
          have b1 : ¬ (((a + 1 : Nat) : Int) = (k : Int)) := by omega
          have b2 : ((a + 1 : Nat) : Int) < (k : Int) := by omega
          have HX0 := HX.out (a + 1)
          have HY2 := HNX.out a HY.out
          have HY3 : Hid (Left W is 0 (a + 1) (W (a + 1) ^^^ tn)) := HY2
          clear HY2
          have HM : Hid (a + 1 < k ∧ a < k) := ⟨hlt, ha⟩
          generalize W (a + 1) ^^^ tn = y2 at *
          generalize hA1 : a + 1 = a1 at *
          go_wp2
          go_round
          case rel => exact ⟨a1, y2, HM.out.1, by rw [← hA1]; rfl, rfl, HY3.out⟩
          case measure => simp [intOf]; have := HM.out; omega
        · have hw : wrap64 ((a : Int) + 1) = (k : Int) := by rw [w64, wrapI64_id _ (by omega) (by omega)]; omega
          have hr : NextIs (bitF W) is n 0 (-1) := ⟨fun _ p h1 h2 => left_all HY.out p h1 (by omega), fun e => absurd rfl e⟩
          have HR : Hid ((-1 : Int) = nxt (bitF W) is n 0) := nxt_eq hr
          clear hr
          go_wp2
          go_ret
          exact ⟨by rw [← HR.out]; rfl, rfl⟩
      · obtain ⟨l1, l2, l3, l4⟩ := left_low hy h0
        have HLow := low_any y hy1 h0 _ hT
        have ep : ((64 * a + Lib.ctz 64 y : Nat) : Int) = (a : Int) * 64 + (Lib.ctz 64 y : Int) := by omega
        have e0 : ((y : Int) == 0) = false := by simp; omega
        generalize Lib.ctz 64 y = z at *
        by_cases hpn : 64 * a + z < n
        · have hr : NextIs (bitF W) is n 0 ((64 * a + z : Nat) : Int) := ⟨fun e => absurd e (nat_ne_neg _), fun _ => ⟨64 * a + z, Eq.refl _, l1, hpn, l2, l3⟩⟩
          have HR : Hid (((64 * a + z : Nat) : Int) = nxt (bitF W) is n 0) := nxt_eq hr
          clear hr
          have HIN := HJ.out _ hpn
          clear l1 l2 l3 hy hpn
          rw [ep] at HIN HR
          clear ep
          go_wp2_with fail
          refine HLow.mono ?_
          intro e w2 hw2
          obtain ⟨he2, hw2⟩ := hw2
          subst he2
          subst hw2
          go_wp2_with fail
          refine HIN.mono ?_
          intro e w2 hw2
          obtain ⟨he2, hw2⟩ := hw2
          subst he2
          subst hw2
          go_wp2_with fail
          go_ret
          exact ⟨by rw [← HR.out]; rfl, rfl⟩
        · have hr : NextIs (bitF W) is n 0 (-1) := ⟨fun _ p h1 h2 => l3 p h1 (Nat.lt_of_lt_of_le h2 (Nat.le_of_not_lt hpn)), fun e => absurd rfl e⟩
          have HR : Hid ((-1 : Int) = nxt (bitF W) is n 0) := nxt_eq hr
          clear hr
          have HIN := HK.out (64 * a + z) (Nat.le_of_not_lt hpn)
          clear l1 l2 l3 hy hpn
          rw [ep] at HIN
          clear ep
          go_wp2_with fail
          refine HLow.mono ?_
          intro e w2 hw2
          obtain ⟨he2, hw2⟩ := hw2
          subst he2
          subst hw2
          go_wp2_with fail
          refine HIN.mono ?_
          intro e w2 hw2
          obtain ⟨he2, hw2⟩ := hw2
          subst he2
          subst hw2
          go_wp2_with fail
          go_ret
          exact ⟨by rw [← HR.out]; rfl, rfl⟩
  · obtain rfl : f = (m : Int) := by omega
    clear hm hneg
    have hneg2 : (0 : Int) ≤ (m : Int) := by omega
    go_enter Tryd.func46, Tryd.ntmps46
    go_wp2_with fail
    refine HI.out.mono ?_
    rintro e w' ⟨rfl, rfl⟩
    go_wp2_with fail
    refine HO.mono ?_
    rintro e w' ⟨rfl, rfl⟩
    go_wp2_with fail
    have HL0 : Hid (Left W is m a0 x4) := HL
    clear HI HO HA HN HX0 cw HL hq0 hq hwq i0
    go_loop [7, 9] (fun t x => ∃ a y : Nat, a < k ∧ t = .int .i64 (a : Int) ∧ x = .int .u64 (y : Int) ∧ Left W is m a y) (fun t _ => k - (intOf t).toNat)
    case atStart => exact ⟨a0, x4, a0k, rfl, rfl, HL0.out⟩
    case round =>
      obtain ⟨a, y, ha, rfl, rfl, hy⟩ := hrel
      have hy1 := hy.2.1
      by_cases h0 : y = 0
      · subst h0
        have HY : Hid (Left W is m a 0) := hy
        clear hy
        by_cases hlt : a + 1 < k
        · have hw : wrap64 ((a : Int) + 1) = ((a + 1 : Nat) : Int) := by rw [w64, wrapI64_id _ (by omega) (by omega)]; omega
          have cw := HW.out (a + 1) hlt
          have b1 : ¬ (((a + 1 : Nat) : Int) = (k : Int)) := by omega
          have b2 : ((a + 1 : Nat) : Int) < (k : Int) := by omega
          have HX0 := HX.out (a + 1)
          have HY2 := HNX.out a HY.out
          have HY3 : Hid (Left W is m (a + 1) (W (a + 1) ^^^ tn)) := HY2
          clear HY2
          have HM : Hid (a + 1 < k ∧ a < k) := ⟨hlt, ha⟩
          generalize W (a + 1) ^^^ tn = y2 at *
          generalize hA1 : a + 1 = a1 at *
          go_wp2
          go_round
          case rel => exact ⟨a1, y2, HM.out.1, by rw [← hA1]; rfl, rfl, HY3.out⟩
          case measure => simp [intOf]; have := HM.out; omega
        · have hw : wrap64 ((a : Int) + 1) = (k : Int) := by rw [w64, wrapI64_id _ (by omega) (by omega)]; omega
          have hr : NextIs (bitF W) is n m (-1) := ⟨fun _ p h1 h2 => left_all HY.out p h1 (by omega), fun e => absurd rfl e⟩
          have HR : Hid ((-1 : Int) = nxt (bitF W) is n m) := nxt_eq hr
          clear hr
          go_wp2
          go_ret
          exact ⟨by rw [← HR.out]; rfl, rfl⟩
      · obtain ⟨l1, l2, l3, l4⟩ := left_low hy h0
        have HLow := low_any y hy1 h0 _ hT
        have ep : ((64 * a + Lib.ctz 64 y : Nat) : Int) = (a : Int) * 64 + (Lib.ctz 64 y : Int) := by omega
        have e0 : ((y : Int) == 0) = false := by simp; omega
        generalize Lib.ctz 64 y = z at *
        by_cases hpn : 64 * a + z < n
        · have hr : NextIs (bitF W) is n m ((64 * a + z : Nat) : Int) := ⟨fun e => absurd e (nat_ne_neg _), fun _ => ⟨64 * a + z, Eq.refl _, l1, hpn, l2, l3⟩⟩
          have HR : Hid (((64 * a + z : Nat) : Int) = nxt (bitF W) is n m) := nxt_eq hr
          clear hr
          have HIN := HJ.out _ hpn
          clear l1 l2 l3 hy hpn
          rw [ep] at HIN HR
          clear ep
          go_wp2_with fail
          refine HLow.mono ?_
          intro e w2 hw2
          obtain ⟨he2, hw2⟩ := hw2
          subst he2
          subst hw2
          go_wp2_with fail
          refine HIN.mono ?_
          intro e w2 hw2
          obtain ⟨he2, hw2⟩ := hw2
          subst he2
          subst hw2
          go_wp2_with fail
          go_ret
          exact ⟨by rw [← HR.out]; rfl, rfl⟩
        · have hr : NextIs (bitF W) is n m (-1) := ⟨fun _ p h1 h2 => l3 p h1 (Nat.lt_of_lt_of_le h2 (Nat.le_of_not_lt hpn)), fun e => absurd rfl e⟩
          have HR : Hid ((-1 : Int) = nxt (bitF W) is n m) := nxt_eq hr
          clear hr
          have HIN := HK.out (64 * a + z) (Nat.le_of_not_lt hpn)
          clear l1 l2 l3 hy hpn
          rw [ep] at HIN
          clear ep
          go_wp2_with fail
          refine HLow.mono ?_
          intro e w2 hw2
          obtain ⟨he2, hw2⟩ := hw2
          subst he2
          subst hw2
          go_wp2_with fail
          refine HIN.mono ?_
          intro e w2 hw2
          obtain ⟨he2, hw2⟩ := hw2
          subst he2
          subst hw2
          go_wp2_with fail
          go_ret
          exact ⟨by rw [← HR.out]; rfl, rfl⟩
/-- Next and Free: the least place from one on that is one, that is nought -/
def fromN (f : Int) : Nat := (max f 0).toNat
theorem seek_any (w : World) (hT : TabAt w) (h : BM w B g n b c W) (f : Int) (tn : Nat) (is : Bool) (ht : Turn tn is) : Calls Tryd.prog 46 #[.pointer (some ⟨g, 0, none⟩), .int .i64 f, .int .u64 (tn : Int)] w fun e w' => e = .returned (.int .i64 (nxt (bitF W) is n (fromN f))) ∧ w' = w := by
  by_cases hf : (n : Int) ≤ f
  · refine (seek_out w h f tn hf).mono ?_
    rintro e w' ⟨rfl, rfl⟩
    have hr : NextIs (bitF W) is n (fromN f) (-1) := ⟨fun _ p h1 h2 => by unfold fromN at h1; omega, fun e => absurd rfl e⟩
    exact ⟨by rw [← nxt_eq hr], rfl⟩
  · exact seek_in w hT h f (fromN f) (by unfold fromN; omega) (by have := h.n1; unfold fromN; omega) tn is ht
theorem next_any (w : World) (hT : TabAt w) (h : BM w B g n b c W) (f : Int) : Calls Tryd.prog 35 #[.pointer (some ⟨g, 0, none⟩), .int .i64 f] w fun e w' => e = .returned (.int .i64 (nxt (bitF W) true n (fromN f))) ∧ w' = w := by
  have HS : Hid (Calls Tryd.prog 46 #[.pointer (some ⟨g, 0, none⟩), .int .i64 f, .int .u64 0] w fun e w' => e = .returned (.int .i64 (nxt (bitF W) true n (fromN f))) ∧ w' = w) := seek_any w hT h f 0 true (.inl ⟨rfl, rfl⟩)
  clear h
  generalize nxt (bitF W) true n (fromN f) = r at *
  go_enter Tryd.func35, Tryd.ntmps35
  go_wp2_with fail
  refine HS.out.mono ?_
  rintro e w' ⟨rfl, rfl⟩
  go_wp2_with fail
  go_ret
  exact ⟨rfl, rfl⟩
end
end Go.Proofs.YtgcnmopgpdmocaaDoor

namespace Go.Proofs.YtgcnmopgpdmocaaDoor
open Go Go.RowKit
set_option linter.unusedVariables false
set_option linter.unusedSimpArgs false
def boL (F : Nat → Bool) (n : Nat) : List Value := (List.range n).map fun i => Value.bool (F i)
theorem boL_at (F : Nat → Bool) (n i : Nat) (h : i < n) : (boL F n)[i]? = some (.bool (F i)) := by simp [boL, h]
theorem boL_len (F : Nat → Bool) (n : Nat) : (boL F n).length = n := by simp [boL]
theorem boL_congr {F G : Nat → Bool} {n : Nat} (h : ∀ i, i < n → F i = G i) : boL F n = boL G n := List.map_congr_left fun i hi => by rw [h i (List.mem_range.1 hi)]
theorem boL_set (F : Nat → Bool) (n i : Nat) (x : Bool) : (boL F n).set i (.bool x) = boL (fun j => if j = i then x else F j) n := by
  apply List.ext_getElem?
  intro j
  rw [List.getElem?_set]
  by_cases hj : j < n
  · rw [boL_at (fun j => if j = i then x else F j) _ _ hj]
    by_cases he : i = j
    · subst he
      rw [if_pos rfl, boL_len, if_pos hj]
      simp
    · rw [if_neg he, boL_at _ _ _ hj]
      simp [Ne.symm he]
  · have e1 : (boL F n)[j]? = none := List.getElem?_eq_none (by rw [boL_len]; omega)
    have e2 : (boL (fun j => if j = i then x else F j) n)[j]? = none := List.getElem?_eq_none (by rw [boL_len]; omega)
    rw [e1, e2, boL_len]
    split
    · rw [if_neg (by omega)]
    · rfl
/-- a list of n bools in block k -/
structure BA (w : World) (B k n c : Nat) (F : Nat → Bool) : Prop where
  n2 : n ≤ 8192
  row : w.ownsRow B 4 1 (.slice (some ⟨k, 0, none⟩) n c) n (boL F n)
section
variable {w w' : World} {B k n c : Nat} {F : Nat → Bool}
theorem BA.lt (h : BA w B k n c F) : B ≤ k ∧ k < w.heap.size := h.row.lt k rfl
theorem BA.keep (h : BA w B k n c F) (hk : w'.heap[k]? = w.heap[k]?) : BA w' B k n c F := ⟨h.n2, kown_kept h.row fun j _ hv => by
    have : j = k := by simp [Value.ownBlock] at hv; omega
    subst this
    exact hk⟩
theorem BA.below (h : BA w B k n c F) (hb : Below w.heap.size w w') : BA w' B k n c F := h.keep (hb.block k h.lt.2)
theorem BA.only {b : Nat} (h : BA w B k n c F) (ho : Only b w w') (hne : k ≠ b) : BA w' B k n c F := h.keep (ho.block k h.lt.2 hne)
theorem BA.dN (h : BA w B k n c F) (m : Nat) : BA (w.drewN m) B k n c F := h.keep rfl
theorem BA.mono {B' : Nat} (h : BA w B k n c F) (hB : B' ≤ B) : BA w B' k n c F := ⟨h.n2, kown_mono h.row hB⟩
theorem BA.congr {G : Nat → Bool} (h : BA w B k n c F) (he : ∀ i, i < n → F i = G i) : BA w B k n c G := ⟨h.n2, by rw [← boL_congr he]; exact h.row⟩
theorem BA.at (h : BA w B k n c F) {i : Nat} (hi : i < n) : w.cell? ⟨k, i, none⟩ = some (.bool (F i)) := by rw [h.row.cellAt i (by omega), boL_at _ _ _ hi]
theorem BA.frozen (h : BA w B k n c F) (i : Nat) : w.frozen? ⟨k, i, none⟩ = false := h.row.frozenAt i
theorem BA.put (h : BA w B k n c F) (i : Nat) (x : Bool) : BA (w.setCell ⟨k, i, none⟩ (.bool x)) B k n c (fun j => if j = i then x else F j) := ⟨h.n2, by
  have := (h.row.stored i (.bool x)).1
  rw [boL_set] at this
  exact this⟩
theorem BA.ne {g n' b' c' : Nat} {W : Nat → Nat} (h : BA w B k n c F) {B' : Nat} (hM : BM w B' g n' b' c' W) : k ≠ g ∧ k ≠ b' := by
  rcases h.row.2 with ⟨hn, _⟩ | ⟨g', cap', cur, hv, hb, hg, _⟩
  · cases hn
  · injection hv with hv1 hv2 hv3
    injection hv1 with hv1
    injection hv1 with hv1
    subst hv1
    refine ⟨fun e => ?_, fun e => ?_⟩
    · rw [e] at hg
      have := hM.cells
      unfold Blk at this
      rw [hg] at this
      injection this with this
      injection this with h1 h2
      exact absurd h2 (by decide)
    · rcases hM.row.2 with ⟨hn, _⟩ | ⟨g2, cap2, cur2, hv2, hb2, hg2, _⟩
      · cases hn
      · injection hv2 with hw1 hw2 hw3
        injection hw1 with hw1
        injection hw1 with hw1
        subst hw1
        rw [e, hg2] at hg
        injection hg with hg
        injection hg with h1 h2
        exact absurd h2 (by decide)
set_option maxHeartbeats 1000000 in
theorem rcount_any (w : World) (h : BA w B k n c F) : Calls Tryd.prog 18 #[.slice (some ⟨k, 0, none⟩) n c] w fun e w' => e = .returned (.int .i64 (cntF F n : Int)) ∧ w' = w := by
  have HC : Hid (∀ i, i < n → w.cell? ⟨k, i, none⟩ = some (.bool (F i))) := fun i hi => h.at hi
  have hn2 := h.n2
  clear h
  go_enter Tryd.func18, Tryd.ntmps18
  go_wp2_with fail
  go_loop [3, 4] (fun t i => ∃ j : Nat, j ≤ n ∧ i = .int .i64 (j : Int) ∧ t = .int .i64 (cntF F j : Int)) (fun _ i => n - (intOf i).toNat)
  case atStart => exact ⟨0, by omega, rfl, rfl⟩
  case round =>
    obtain ⟨j, hj, rfl, rfl⟩ := hrel
    have hle := cntF_le F j
    by_cases hlt : j < n
    · have a1 : (j : Int) < (n : Int) := by omega
      have cw := HC.out j hlt
      cases hF : F j
      · have HS : Hid (cntF F (j + 1) = cntF F j) := by
          show cntF F j + _ = cntF F j
          rw [hF]; rfl
        rw [hF] at cw
        clear hF
        generalize cntF F j = s at *
        go_wp2
        go_round
        case rel => exact ⟨j + 1, by omega, by go_num, by rw [HS.out]; try rfl⟩
        case measure => simp [intOf]; omega
      · have HS : Hid (cntF F (j + 1) = cntF F j + 1) := by
          show cntF F j + _ = cntF F j + 1
          rw [hF]; rfl
        rw [hF] at cw
        clear hF
        generalize cntF F j = s at *
        go_wp2
        go_round
        case rel => exact ⟨j + 1, by omega, by go_num, by rw [HS.out]; go_num⟩
        case measure => simp [intOf]; omega
    · obtain rfl : j = n := by omega
      have a1 : ¬ ((j : Int) < (j : Int)) := by omega
      go_wp2_with fail
      go_ret
      exact ⟨rfl, rfl⟩
set_option maxHeartbeats 1000000 in
theorem rnext_one (w : World) (h : BA w B k n c F) (f : Int) : Calls Tryd.prog 17 #[.slice (some ⟨k, 0, none⟩) n c, .int .i64 f, .bool true] w fun e w' => e = .returned (.int .i64 (nxt F true n (fromN f))) ∧ w' = w := by
  have HC : Hid (∀ i, i < n → w.cell? ⟨k, i, none⟩ = some (.bool (F i))) := fun i hi => h.at hi
  have hn2 := h.n2
  clear h
  go_enter Tryd.func17, Tryd.ntmps17
  go_wp2_with fail
  go_loop [7] (fun i => ∃ j : Nat, j ≤ n ∧ i = .int .i64 (j : Int) ∧ ∀ q, fromN f ≤ q → q < j → F q = !true) (fun i => n - (intOf i).toNat)
  case atStart => exact ⟨0, by omega, rfl, fun q _ h => by omega⟩
  case round =>
    obtain ⟨j, hj, rfl, hq⟩ := hrel
    have HQ : Hid (∀ q, fromN f ≤ q → q < j → F q = !true) := hq
    clear hq
    by_cases hlt : j < n
    · have a1 : (j : Int) < (n : Int) := by omega
      have cw := HC.out j hlt
      by_cases hf : f ≤ (j : Int)
      · cases hF : F j
        · have HF : Hid (F j = false) := hF
          rw [hF] at cw
          clear hF
          go_wp2
          go_round
          case rel =>
            refine ⟨j + 1, by omega, by go_num, fun q h1 h2 => ?_⟩
            by_cases hqj : q = j
            · rw [hqj]; exact HF.out
            · exact HQ.out q h1 (by omega)
          case measure => simp [intOf]; omega
        · have HF : Hid (F j = true) := hF
          rw [hF] at cw
          clear hF
          have hr : NextIs F true n (fromN f) (j : Int) := ⟨fun e => absurd e (nat_ne_neg _), fun _ => ⟨j, rfl, by unfold fromN; omega, hlt, HF.out, HQ.out⟩⟩
          have HR : Hid ((j : Int) = nxt F true n (fromN f)) := nxt_eq hr
          clear hr
          go_wp2_with fail
          go_ret
          exact ⟨by rw [← HR.out]; rfl, rfl⟩
      · have hf2 : ¬ (f ≤ (j : Int)) := hf
        go_wp2
        go_round
        case rel => exact ⟨j + 1, by omega, by go_num, fun q h1 h2 => by unfold fromN at h1; omega⟩
        case measure => simp [intOf]; omega
    · obtain rfl : j = n := by omega
      have a1 : ¬ ((j : Int) < (j : Int)) := by omega
      have hr : NextIs F true j (fromN f) (-1) := ⟨fun _ p h1 h2 => HQ.out p h1 h2, fun e => absurd rfl e⟩
      have HR : Hid ((-1 : Int) = nxt F true j (fromN f)) := nxt_eq hr
      clear hr
      go_wp2_with fail
      go_ret
      exact ⟨by rw [← HR.out]; rfl, rfl⟩
end
end Go.Proofs.YtgcnmopgpdmocaaDoor

namespace Go.Proofs.YtgcnmopgpdmocaaDoor
open Go Go.RowKit
set_option linter.unusedVariables false
set_option linter.unusedSimpArgs false
theorem cnt_three : cntF (bitF (putW (fun _ => 0) 3)) 16 = 1 := by decide
set_option maxHeartbeats 1000000 in
theorem awake11_any (w : World) : Calls Tryd.prog 7 #[] w fun e w' => e = .returned (.bool true) ∧ Below w.heap.size w w' := by
  have HN : Hid (Calls Tryd.prog 23 #[.int .i64 16] w fun e w' => ∃ g b c, e = .returned (.tuple #[.pointer (some ⟨g, 0, none⟩), .int .i64 0]) ∧ BM w' w.heap.size g 16 b c (fun _ => 0) ∧ Below w.heap.size w w') := newM_ok 16 (by decide) (by decide) w
  go_enter Tryd.func7, Tryd.ntmps7
  go_wp2_with fail
  refine HN.out.mono ?_
  rintro e w1 ⟨g, b, c, rfl, h1, hb1⟩
  have HS : Hid (Calls Tryd.prog 14 #[.pointer (some ⟨g, 0, none⟩), .int .i64 3] w1 fun e w' => e = .returned (.bool true) ∧ BM w' w.heap.size g 16 b c (putW (fun _ => 0) 3) ∧ Only b w1 w') := set_new w1 h1 3 (by decide) (by decide)
  go_wp2_with fail
  refine HS.out.mono ?_
  rintro e w2 ⟨rfl, h2, ho2⟩
  have hb2 : Below w.heap.size w w2 := hb1.trans (ho2.below hb1.size h1.blt.1)
  have HH : Hid (Calls Tryd.prog 25 #[.pointer (some ⟨g, 0, none⟩), .int .i64 3] w2 fun e w' => e = .returned (.bool true) ∧ ∃ m, w' = w2.drewN m) := by
    have := has_yes w2 h2 3 (by decide)
    rw [show bitF (putW (fun _ => 0) 3) 3 = true from by decide] at this
    exact this
  go_wp2_with fail
  refine HH.out.mono ?_
  rintro e w3 ⟨rfl, md, rfl⟩
  have HC : Hid (Calls Tryd.prog 26 #[.pointer (some ⟨g, 0, none⟩)] (w2.drewN md) fun e w' => e = .returned (.int .i64 1) ∧ w' = w2.drewN md) := by
    have := count_any _ (h2.dN md)
    rw [cnt_three] at this
    exact this
  have hb3 : Below w.heap.size w (w2.drewN md) := below_dN hb2 md
  clear h1 h2 ho2 hb2 hb1
  generalize w2.drewN md = w3 at *
  go_wp2_with fail
  refine HC.out.mono ?_
  rintro e w4 ⟨rfl, rfl⟩
  go_wp2_with fail
  go_ret
  exact ⟨rfl, hb3⟩
end Go.Proofs.YtgcnmopgpdmocaaDoor
