/- A room in the memory: two maps of bits; what keeps it; New, maps, Blocks, Take, Let, State: the contracts. -/
import Derived.Test.YtkpcgijdokhjkaaDoorHBiMake
import Derived.Handy

namespace Go.Proofs.YtkpcgijdokhjkaaDoor
open Go Go.RowKit
set_option linter.unusedVariables false
set_option linter.unusedSimpArgs false
section
variable {B g n b c : Nat} {W : Nat → Nat}
/-- a word with its bits turned over, or not -/
def Turn (tn : Nat) (is : Bool) : Prop := (tn = 0 ∧ is = true) ∨ (tn = 18446744073709551615 ∧ is = false)
theorem Turn.bit {tn : Nat} {is : Bool} (h : Turn tn is) (W : Nat → Nat) (i j : Nat) (hj : j < 64) : (W i ^^^ tn).testBit j = (bitF W (64 * i + j) == is) := by
  rw [bitF_at W i j hj, Nat.testBit_xor]
  rcases h with ⟨rfl, rfl⟩ | ⟨rfl, rfl⟩
  · cases (W i).testBit j <;> simp
  · rw [show (18446744073709551615 : Nat) = 2 ^ 64 - 1 from rfl, Nat.testBit_two_pow_sub_one]
    cases (W i).testBit j <;> simp [hj]
theorem Turn.lt {tn : Nat} {is : Bool} (h : Turn tn is) : tn < 18446744073709551616 := by
  rcases h with ⟨rfl, rfl⟩ | ⟨rfl, rfl⟩ <;> decide
/-- what is left of a word behind the places ahead -/
def Left (W : Nat → Nat) (is : Bool) (f a x : Nat) : Prop := f < 64 * (a + 1) ∧ x < 18446744073709551616 ∧ (∀ j, j < 64 → x.testBit j = (decide (f ≤ 64 * a + j) && (bitF W (64 * a + j) == is))) ∧ (∀ q, f ≤ q → q < 64 * a → bitF W q = !is)
theorem beq_not {b is : Bool} (h : (b == is) = false) : b = !is := by cases b <;> cases is <;> first | rfl | exact absurd h (by decide)
theorem left_first {tn : Nat} {is : Bool} (h : Turn tn is) (hl : ∀ i, W i < 18446744073709551616) (f : Nat) : Left W is f (f / 64) ((W (f / 64) ^^^ tn) &&& notN (2 ^ (f % 64) - 1)) := by
  refine ⟨by omega, and_lt64 _ _ (xor_lt64 _ _ (hl _) h.lt), fun j hj => ?_, fun q h1 h2 => by omega⟩
  have hp : 2 ^ (f % 64) < 18446744073709551616 := pow_lt_u64 _ (by omega)
  rw [Nat.testBit_and, notN_bit _ _ (by omega) hj, h.bit W _ _ hj, Nat.testBit_two_pow_sub_one]
  have : (!decide (j < f % 64)) = decide (f ≤ 64 * (f / 64) + j) := by
    rw [← decide_not]; apply decide_eq_decide.2; omega
  rw [this, Bool.and_comm]
theorem left_all {is : Bool} {f a : Nat} (h0 : Left W is f a 0) : ∀ q, f ≤ q → q < 64 * (a + 1) → bitF W q = !is := fun q h1 h2 => by
  by_cases hq : q < 64 * a
  · exact h0.2.2.2 q h1 hq
  · have := h0.2.2.1 (q - 64 * a) (by omega)
    rw [show 64 * a + (q - 64 * a) = q from by omega] at this
    simp only [Nat.zero_testBit, h1, decide_true, Bool.true_and] at this
    exact beq_not this.symm
theorem left_next {tn : Nat} {is : Bool} (h : Turn tn is) (hl : ∀ i, W i < 18446744073709551616) {f a : Nat} (h0 : Left W is f a 0) : Left W is f (a + 1) (W (a + 1) ^^^ tn) := by
  refine ⟨by have := h0.1; omega, xor_lt64 _ _ (hl _) h.lt, fun j hj => ?_, left_all h0⟩
  rw [h.bit W _ _ hj]
  have hf : f ≤ 64 * (a + 1) + j := by have := h0.1; omega
  simp [hf]
/-- the lowest bit of what is left is the place that is looked for -/
theorem left_low {is : Bool} {f a x : Nat} (h : Left W is f a x) (h0 : x ≠ 0) : f ≤ 64 * a + Lib.ctz 64 x ∧ bitF W (64 * a + Lib.ctz 64 x) = is ∧ (∀ q, f ≤ q → q < 64 * a + Lib.ctz 64 x → bitF W q = !is) ∧ Lib.ctz 64 x < 64 := by
  obtain ⟨l1, l2, l3⟩ := low_at x h.2.1 h0
  have e := h.2.2.1 _ l3
  rw [l1] at e
  have e2 := (Bool.and_eq_true_iff.1 e.symm)
  refine ⟨of_decide_eq_true e2.1, eq_of_beq e2.2, fun q h1 h2 => ?_, l3⟩
  by_cases hq : q < 64 * a
  · exact h.2.2.2 q h1 hq
  · have := h.2.2.1 (q - 64 * a) (by omega)
    rw [show 64 * a + (q - 64 * a) = q from by omega, l2 _ (by omega)] at this
    simp only [h1, decide_true, Bool.true_and] at this
    exact beq_not this.symm
theorem seek_out (w : World) (h : BM w B g n b c W) (f : Int) (tn : Nat) (hf : (n : Int) ≤ f) : Calls Tryd.prog 65 #[.pointer (some ⟨g, 0, none⟩), .int .i64 f, .int .u64 (tn : Int)] w fun e w' => e = .returned (.int .i64 (-1)) ∧ w' = w := by
  have a0 : max f 0 = f := by have := h.n1; omega
  have HI : Hid (Calls Tryd.prog 56 #[.pointer (some ⟨g, 0, none⟩), .int .i64 f] w fun e w' => e = .returned (.bool false) ∧ w' = w) := inside_no _ h f (.inr hf)
  clear h
  go_enter Tryd.func65, Tryd.ntmps65
  go_wp2_with fail
  refine HI.out.mono ?_
  rintro e w' ⟨rfl, rfl⟩
  go_wp2_with fail
  go_ret
  exact ⟨rfl, rfl⟩
theorem nat_ne_neg (k : Nat) : ((k : Nat) : Int) ≠ -1 := by omega
set_option maxHeartbeats 4000000 in
theorem seek_in (w : World) (hT : TabAt w) (h : BM w B g n b c W) (f : Int) (m : Nat) (hm : max f 0 = (m : Int)) (hf : m < n) (tn : Nat) (is : Bool) (ht : Turn tn is) : Calls Tryd.prog 65 #[.pointer (some ⟨g, 0, none⟩), .int .i64 f, .int .u64 (tn : Int)] w fun e w' => e = .returned (.int .i64 (nxt (bitF W) is n m)) ∧ w' = w := by
  have c1 := h.c1
  have hq := quo64 m
  have hn2 := h.n2
  have hwq : IntKind.i64.wrap ((m / 64 : Nat) : Int) = ((m / 64 : Nat) : Int) := wrapI64_id _ (by omega) (by omega)
  have hk0 := lvN_le hn2
  have hkn : n ≤ 64 * (16 * lvN n) := by have := lvN_ge (n := n); omega
  have HI : Hid (Calls Tryd.prog 56 #[.pointer (some ⟨g, 0, none⟩), .int .i64 (m : Int)] w fun e w' => e = .returned (.bool true) ∧ w' = w) := inside_yes _ h m hf
  have HJ : Hid (∀ p : Nat, p < n → Calls Tryd.prog 56 #[.pointer (some ⟨g, 0, none⟩), .int .i64 (p : Int)] w fun e w' => e = .returned (.bool true) ∧ w' = w) := fun p hp => inside_yes _ h p hp
  have HK : Hid (∀ p : Nat, n ≤ p → Calls Tryd.prog 56 #[.pointer (some ⟨g, 0, none⟩), .int .i64 (p : Int)] w fun e w' => e = .returned (.bool false) ∧ w' = w) := fun p hp => inside_no _ h p (.inr (by omega))
  have HO := one_any m (by omega) w
  have HW : Hid (∀ i, i < 16 * lvN n → w.cell? ⟨b, i, none⟩ = some (.int .u64 ((W i : Nat) : Int))) := fun i hi => h.word hi
  have HX : Hid (∀ i, bits .xor .u64 ((W i : Nat) : Int) (tn : Int) = ((W i ^^^ tn : Nat) : Int)) := fun i => u64_xor_nat _ _ (h.lt i) ht.lt
  have hpow : 2 ^ (m % 64) < 18446744073709551616 := pow_lt_u64 _ (by omega)
  have hpos : 0 < 2 ^ (m % 64) := Nat.two_pow_pos _
  have HA : IntKind.u64.wrap (((2 ^ (m % 64) : Nat) : Int) - 1) = ((2 ^ (m % 64) - 1 : Nat) : Int) := by
    rw [show ((2 ^ (m % 64) : Nat) : Int) - 1 = ((2 ^ (m % 64) - 1 : Nat) : Int) from by omega]
    exact wrapU64 _ (by omega)
  have HN : bits .andNot .u64 ((W (m / 64) ^^^ tn : Nat) : Int) ((2 ^ (m % 64) - 1 : Nat) : Int) = (((W (m / 64) ^^^ tn) &&& notN (2 ^ (m % 64) - 1) : Nat) : Int) := u64_andNot_nat _ _ (xor_lt64 _ _ (h.lt _) ht.lt) (by omega)
  have HL := left_first ht h.lt m
  have HNX : Hid (∀ a, Left W is m a 0 → Left W is m (a + 1) (W (a + 1) ^^^ tn)) := fun a ha => left_next ht h.lt ha
  have cw := HW.out (m / 64) (by omega)
  have HX0 := HX.out (m / 64)
  have i0 : ((m / 64 : Nat) : Int) < ((16 * lvN n : Nat) : Int) := by omega
  clear h ht hpow hpos
  generalize hx1 : W (m / 64) ^^^ tn = x1 at *
  generalize 2 ^ (m % 64) - 1 = x2 at *
  generalize 2 ^ (m % 64) = x3 at *
  generalize x1 &&& notN x2 = x4 at *
  generalize W (m / 64) = x0 at *
  have hk : 16 * lvN n ≤ 128 := by omega
  clear hk0 hx1
  generalize hq0 : m / 64 = a0 at *
  generalize 16 * lvN n = k at *
  have a0k : a0 < k := by omega
  by_cases hneg : f < 0
  · obtain rfl : m = 0 := by omega
    obtain rfl : a0 = 0 := by omega
    go_enter Tryd.func65, Tryd.ntmps65
    go_wp2_with fail
    refine HI.out.mono ?_
    rintro e w' ⟨rfl, rfl⟩
    go_wp2_with fail
    refine HO.mono ?_
    rintro e w' ⟨rfl, rfl⟩
    go_wp2_with fail
    have HL0 : Hid (Left W is 0 0 x4) := HL
    clear HI HO HA HN HX0 cw HL hq0 hq hwq i0 hm hneg
    go_loop [7, 9] (fun t x => ∃ a y : Nat, a < k ∧ t = .int .i64 (a : Int) ∧ x = .int .u64 (y : Int) ∧ Left W is 0 a y) (fun t _ => k - (intOf t).toNat)
    case atStart => exact ⟨0, x4, a0k, rfl, rfl, HL0.out⟩
    case round =>
      obtain ⟨a, y, ha, rfl, rfl, hy⟩ := hrel
      have hy1 := hy.2.1
      by_cases h0 : y = 0
      · subst h0
        have HY : Hid (Left W is 0 a 0) := hy
        clear hy
        by_cases hlt : a + 1 < k
        · have hw : wrap64 ((a : Int) + 1) = ((a + 1 : Nat) : Int) := by rw [w64, wrapI64_id _ (by omega) (by omega)]; omega
          have cw := HW.out (a + 1) hlt
          have b1 : ¬ (((a + 1 : Nat) : Int) = (k : Int)) := by omega
          have b2 : ((a + 1 : Nat) : Int) < (k : Int) := by omega
          have HX0 := HX.out (a + 1)
          have HY2 := HNX.out a HY.out
          have HY3 : Hid (Left W is 0 (a + 1) (W (a + 1) ^^^ tn)) := HY2
          clear HY2
          have HM : Hid (a + 1 < k ∧ a < k) := ⟨hlt, ha⟩
          generalize W (a + 1) ^^^ tn = y2 at *
          generalize hA1 : a + 1 = a1 at *
          go_wp2
          go_round
          case rel => exact ⟨a1, y2, HM.out.1, by rw [← hA1]; rfl, rfl, HY3.out⟩
          case measure => simp [intOf]; have := HM.out; omega
        · have hw : wrap64 ((a : Int) + 1) = (k : Int) := by rw [w64, wrapI64_id _ (by omega) (by omega)]; omega
          have hr : NextIs (bitF W) is n 0 (-1) := ⟨fun _ p h1 h2 => left_all HY.out p h1 (by omega), fun e => absurd rfl e⟩
          have HR : Hid ((-1 : Int) = nxt (bitF W) is n 0) := nxt_eq hr
          clear hr
          go_wp2
          go_ret
          exact ⟨by rw [← HR.out]; rfl, rfl⟩
      · obtain ⟨l1, l2, l3, l4⟩ := left_low hy h0
        have HLow := low_any y hy1 h0 _ hT
        have ep : ((64 * a + Lib.ctz 64 y : Nat) : Int) = (a : Int) * 64 + (Lib.ctz 64 y : Int) := by omega
        have e0 : ((y : Int) == 0) = false := by simp; omega
        generalize Lib.ctz 64 y = z at *
        by_cases hpn : 64 * a + z < n
        · have hr : NextIs (bitF W) is n 0 ((64 * a + z : Nat) : Int) := ⟨fun e => absurd e (nat_ne_neg _), fun _ => ⟨64 * a + z, Eq.refl _, l1, hpn, l2, l3⟩⟩
          have HR : Hid (((64 * a + z : Nat) : Int) = nxt (bitF W) is n 0) := nxt_eq hr
          clear hr
          have HIN := HJ.out _ hpn
          clear l1 l2 l3 hy hpn
          rw [ep] at HIN HR
          clear ep
          go_wp2_with fail
          refine HLow.mono ?_
          intro e w2 hw2
          obtain ⟨he2, hw2⟩ := hw2
          subst he2
          subst hw2
          go_wp2_with fail
          refine HIN.mono ?_
          intro e w2 hw2
          obtain ⟨he2, hw2⟩ := hw2
          subst he2
          subst hw2
          go_wp2_with fail
          go_ret
          exact ⟨by rw [← HR.out]; rfl, rfl⟩
        · have hr : NextIs (bitF W) is n 0 (-1) := ⟨fun _ p h1 h2 => l3 p h1 (Nat.lt_of_lt_of_le h2 (Nat.le_of_not_lt hpn)), fun e => absurd rfl e⟩
          have HR : Hid ((-1 : Int) = nxt (bitF W) is n 0) := nxt_eq hr
          clear hr
          have HIN := HK.out (64 * a + z) (Nat.le_of_not_lt hpn)
          clear l1 l2 l3 hy hpn
          rw [ep] at HIN
          clear ep
          go_wp2_with fail
          refine HLow.mono ?_
          intro e w2 hw2
          obtain ⟨he2, hw2⟩ := hw2
          subst he2
          subst hw2
          go_wp2_with fail
          refine HIN.mono ?_
          intro e w2 hw2
          obtain ⟨he2, hw2⟩ := hw2
          subst he2
          subst hw2
          go_wp2_with fail
          go_ret
          exact ⟨by rw [← HR.out]; rfl, rfl⟩
  · obtain rfl : f = (m : Int) := by omega
    clear hm hneg
    have hneg2 : (0 : Int) ≤ (m : Int) := by omega
    go_enter Tryd.func65, Tryd.ntmps65
    go_wp2_with fail
    refine HI.out.mono ?_
    rintro e w' ⟨rfl, rfl⟩
    go_wp2_with fail
    refine HO.mono ?_
    rintro e w' ⟨rfl, rfl⟩
    go_wp2_with fail
    have HL0 : Hid (Left W is m a0 x4) := HL
    clear HI HO HA HN HX0 cw HL hq0 hq hwq i0
    go_loop [7, 9] (fun t x => ∃ a y : Nat, a < k ∧ t = .int .i64 (a : Int) ∧ x = .int .u64 (y : Int) ∧ Left W is m a y) (fun t _ => k - (intOf t).toNat)
    case atStart => exact ⟨a0, x4, a0k, rfl, rfl, HL0.out⟩
    case round =>
      obtain ⟨a, y, ha, rfl, rfl, hy⟩ := hrel
      have hy1 := hy.2.1
      by_cases h0 : y = 0
      · subst h0
        have HY : Hid (Left W is m a 0) := hy
        clear hy
        by_cases hlt : a + 1 < k
        · have hw : wrap64 ((a : Int) + 1) = ((a + 1 : Nat) : Int) := by rw [w64, wrapI64_id _ (by omega) (by omega)]; omega
          have cw := HW.out (a + 1) hlt
          have b1 : ¬ (((a + 1 : Nat) : Int) = (k : Int)) := by omega
          have b2 : ((a + 1 : Nat) : Int) < (k : Int) := by omega
          have HX0 := HX.out (a + 1)
          have HY2 := HNX.out a HY.out
          have HY3 : Hid (Left W is m (a + 1) (W (a + 1) ^^^ tn)) := HY2
          clear HY2
          have HM : Hid (a + 1 < k ∧ a < k) := ⟨hlt, ha⟩
          generalize W (a + 1) ^^^ tn = y2 at *
          generalize hA1 : a + 1 = a1 at *
          go_wp2
          go_round
          case rel => exact ⟨a1, y2, HM.out.1, by rw [← hA1]; rfl, rfl, HY3.out⟩
          case measure => simp [intOf]; have := HM.out; omega
        · have hw : wrap64 ((a : Int) + 1) = (k : Int) := by rw [w64, wrapI64_id _ (by omega) (by omega)]; omega
          have hr : NextIs (bitF W) is n m (-1) := ⟨fun _ p h1 h2 => left_all HY.out p h1 (by omega), fun e => absurd rfl e⟩
          have HR : Hid ((-1 : Int) = nxt (bitF W) is n m) := nxt_eq hr
          clear hr
          go_wp2
          go_ret
          exact ⟨by rw [← HR.out]; rfl, rfl⟩
      · obtain ⟨l1, l2, l3, l4⟩ := left_low hy h0
        have HLow := low_any y hy1 h0 _ hT
        have ep : ((64 * a + Lib.ctz 64 y : Nat) : Int) = (a : Int) * 64 + (Lib.ctz 64 y : Int) := by omega
        have e0 : ((y : Int) == 0) = false := by simp; omega
        generalize Lib.ctz 64 y = z at *
        by_cases hpn : 64 * a + z < n
        · have hr : NextIs (bitF W) is n m ((64 * a + z : Nat) : Int) := ⟨fun e => absurd e (nat_ne_neg _), fun _ => ⟨64 * a + z, Eq.refl _, l1, hpn, l2, l3⟩⟩
          have HR : Hid (((64 * a + z : Nat) : Int) = nxt (bitF W) is n m) := nxt_eq hr
          clear hr
          have HIN := HJ.out _ hpn
          clear l1 l2 l3 hy hpn
          rw [ep] at HIN HR
          clear ep
          go_wp2_with fail
          refine HLow.mono ?_
          intro e w2 hw2
          obtain ⟨he2, hw2⟩ := hw2
          subst he2
          subst hw2
          go_wp2_with fail
          refine HIN.mono ?_
          intro e w2 hw2
          obtain ⟨he2, hw2⟩ := hw2
          subst he2
          subst hw2
          go_wp2_with fail
          go_ret
          exact ⟨by rw [← HR.out]; rfl, rfl⟩
        · have hr : NextIs (bitF W) is n m (-1) := ⟨fun _ p h1 h2 => l3 p h1 (Nat.lt_of_lt_of_le h2 (Nat.le_of_not_lt hpn)), fun e => absurd rfl e⟩
          have HR : Hid ((-1 : Int) = nxt (bitF W) is n m) := nxt_eq hr
          clear hr
          have HIN := HK.out (64 * a + z) (Nat.le_of_not_lt hpn)
          clear l1 l2 l3 hy hpn
          rw [ep] at HIN
          clear ep
          go_wp2_with fail
          refine HLow.mono ?_
          intro e w2 hw2
          obtain ⟨he2, hw2⟩ := hw2
          subst he2
          subst hw2
          go_wp2_with fail
          refine HIN.mono ?_
          intro e w2 hw2
          obtain ⟨he2, hw2⟩ := hw2
          subst he2
          subst hw2
          go_wp2_with fail
          go_ret
          exact ⟨by rw [← HR.out]; rfl, rfl⟩
/-- Next and Free: the least place from one on that is one, that is nought -/
def fromN (f : Int) : Nat := (max f 0).toNat
theorem seek_any (w : World) (hT : TabAt w) (h : BM w B g n b c W) (f : Int) (tn : Nat) (is : Bool) (ht : Turn tn is) : Calls Tryd.prog 65 #[.pointer (some ⟨g, 0, none⟩), .int .i64 f, .int .u64 (tn : Int)] w fun e w' => e = .returned (.int .i64 (nxt (bitF W) is n (fromN f))) ∧ w' = w := by
  by_cases hf : (n : Int) ≤ f
  · refine (seek_out w h f tn hf).mono ?_
    rintro e w' ⟨rfl, rfl⟩
    have hr : NextIs (bitF W) is n (fromN f) (-1) := ⟨fun _ p h1 h2 => by unfold fromN at h1; omega, fun e => absurd rfl e⟩
    exact ⟨by rw [← nxt_eq hr], rfl⟩
  · exact seek_in w hT h f (fromN f) (by unfold fromN; omega) (by have := h.n1; unfold fromN; omega) tn is ht
theorem free_any (w : World) (hT : TabAt w) (h : BM w B g n b c W) (f : Int) : Calls Tryd.prog 42 #[.pointer (some ⟨g, 0, none⟩), .int .i64 f] w fun e w' => e = .returned (.int .i64 (nxt (bitF W) false n (fromN f))) ∧ w' = w := by
  have HS : Hid (Calls Tryd.prog 65 #[.pointer (some ⟨g, 0, none⟩), .int .i64 f, .int .u64 18446744073709551615] w fun e w' => e = .returned (.int .i64 (nxt (bitF W) false n (fromN f))) ∧ w' = w) := seek_any w hT h f 18446744073709551615 false (.inr ⟨rfl, rfl⟩)
  clear h
  generalize nxt (bitF W) false n (fromN f) = r at *
  go_enter Tryd.func42, Tryd.ntmps42
  go_wp2_with fail
  refine HS.out.mono ?_
  rintro e w' ⟨rfl, rfl⟩
  go_wp2_with fail
  go_ret
  exact ⟨rfl, rfl⟩
end
end Go.Proofs.YtkpcgijdokhjkaaDoor

namespace Go.Proofs.YtkpcgijdokhjkaaDoor
open Go Go.RowKit
set_option linter.unusedVariables false
set_option linter.unusedSimpArgs false
section
variable {B B' g g' n n' b b' c c' : Nat} {V W : Nat → Nat}
/-- what two words come to -/
structure Both (f : Nat) (op : Nat → Nat → Nat) (bop : Bool → Bool → Bool) : Prop where
  call : ∀ (x y : Nat) (w : World), x < 18446744073709551616 → y < 18446744073709551616 → Calls Tryd.prog f #[.int .u64 (x : Int), .int .u64 (y : Int)] w fun e w' => e = .returned (.int .u64 ((op x y : Nat) : Int)) ∧ w' = w
  lt : ∀ x y, x < 18446744073709551616 → y < 18446744073709551616 → op x y < 18446744073709551616
  bit : ∀ x y j, x < 18446744073709551616 → y < 18446744073709551616 → j < 64 → (op x y).testBit j = bop (x.testBit j) (y.testBit j)
  none : bop false false = false
theorem both_either : Both 64 (fun x y => x ||| y) (fun x y => x || y) := ⟨fun x y w hx hy => by
    have H : Hid (bits .or .u64 (x : Int) (y : Int) = ((x ||| y : Nat) : Int)) := u64_or_nat _ _ hx hy
    go_enter Tryd.func64, Tryd.ntmps64
    go_wp2_with fail
    go_ret
    exact ⟨by rw [← H.out]; rfl, rfl⟩, fun x y => or_lt64 x y, fun x y j _ _ _ => Nat.testBit_or x y j, rfl⟩
def mixW (op : Nat → Nat → Nat) (V W : Nat → Nat) (j : Nat) : Nat → Nat := fun i => if i < j then op (V i) (W i) else V i
theorem mixW_step (op : Nat → Nat → Nat) (V W : Nat → Nat) (j : Nat) : updN (mixW op V W j) j (op (V j) (W j)) = mixW op V W (j + 1) := by
  funext i
  unfold updN mixW
  by_cases h : i = j
  · subst h; simp
  · rw [if_neg h]
    by_cases h2 : i < j
    · rw [if_pos h2, if_pos (by omega)]
    · rw [if_neg h2, if_neg (by omega)]
theorem mixW_bit {f : Nat} {op : Nat → Nat → Nat} {bop : Bool → Bool → Bool} (hf : Both f op bop) (hV : ∀ i, V i < 18446744073709551616) (hW : ∀ i, W i < 18446744073709551616) (j p : Nat) : bitF (mixW op V W j) p = if p / 64 < j then bop (bitF V p) (bitF W p) else bitF V p := by
  unfold bitF mixW
  by_cases h : p / 64 < j
  · rw [if_pos h, if_pos h, hf.bit _ _ _ (hV _) (hW _) (by omega)]
  · rw [if_neg h, if_neg h]
set_option maxHeartbeats 4000000 in
theorem with_either {op : Nat → Nat → Nat} {bop : Bool → Bool → Bool} (hf : Both 64 op bop) (w : World) (h : BM w B g n b c V) (h' : BM w B' g' n b' c' W) : Calls Tryd.prog 63 #[.pointer (some ⟨g, 0, none⟩), .pointer (some ⟨g', 0, none⟩), .func (.func 64) #[] #[]] w fun e w' => ∃ g2, e = .returned (.tuple #[.pointer (some ⟨g2, 0, none⟩), .int .i64 0]) ∧ (∃ b2 c2 U, BM w' w.heap.size g2 n b2 c2 U ∧ ∀ p, bitF U p = bop (bitF V p) (bitF W p)) ∧ Below w.heap.size w w' := by
  have c0 := h.c0
  have d0 := h'.c0
  have hl := lvN_le h.n2
  have hge := lvN_ge (n := n)
  have HCL : Hid (∀ m, Calls Tryd.prog 39 #[.pointer (some ⟨g, 0, none⟩)] (w.drewN m) fun e w' => ∃ g2 b2 c2, e = .returned (.pointer (some ⟨g2, 0, none⟩)) ∧ BM w' w.heap.size g2 n b2 c2 V ∧ Below w.heap.size w w') := fun m => by
    refine (bclone_any _ (h.dN m)).mono ?_
    rintro e w1 ⟨g2, b2, c2, rfl, h1, h2⟩
    exact ⟨g2, b2, c2, rfl, h1, ⟨h2.os, h2.tape, h2.output, h2.size, h2.block⟩⟩
  have HO : Hid (∀ U : World, Below w.heap.size w U → BM U B' g' n b' c' W) := fun U hU => h'.below hU
  have HV := h.lt
  have HW := h'.lt
  have HVT := h.tail
  have HWT := h'.tail
  clear h h'
  go_enter Tryd.func63, Tryd.ntmps63
  go_wp2_with fail
  go_quiet (fail)
  go_wp2_with fail
  refine (HCL.out _).mono ?_
  rintro e w1 ⟨g2, b2, c2, rfl, hM1, hb1⟩
  have o1 := (HO.out w1 hb1).c1
  have HK : Hid (16 * lvN n ≤ 128 ∧ n ≤ 64 * (16 * lvN n)) := ⟨by omega, by omega⟩
  go_wp2_with fail
  have HF : Hid (Both 64 op bop) := hf
  have HM1 : Hid (BM w1 w.heap.size g2 n b2 c2 (mixW op V W 0)) := hM1.congr (fun i => by unfold mixW; rw [if_neg (by omega)]; exact HV i) fun p => by rw [mixW_bit hf HV HW, if_neg (by omega)]
  have HB1 : Hid (Below w.heap.size w w1) := hb1
  have HVL : Hid (∀ i, V i < 18446744073709551616) := HV
  have HWL : Hid (∀ i, W i < 18446744073709551616) := HW
  have HT0 : Hid (∀ j p, n ≤ p → bitF (mixW op V W j) p = false) := fun j p hp => by
    rw [mixW_bit hf HV HW, HVT p hp, HWT p hp, hf.none]
    split <;> rfl
  clear hM1 hb1 HV HW HVT HWT HCL hf o1 c0 d0 hl hge
  generalize hk0 : 16 * lvN n = k at *
  go_loopw [41] (fun t wr => ∃ j : Nat, j ≤ k ∧ t = .int .i64 (j : Int) ∧ BM wr w.heap.size g2 n b2 c2 (mixW op V W j) ∧ Below w.heap.size w wr) (fun t _ => k - (intOf t).toNat)
  case atStart => exact ⟨0, by omega, rfl, HM1.out, HB1.out⟩
  case round =>
    clear HM1 HB1
    have hk128 := HK.out.1
    obtain ⟨j, hj, rfl, hM, hb⟩ := hrel
    by_cases hlt : j < k
    · have j0 : (0 : Int) ≤ (j : Int) := by omega
      have j1 : (j : Int) < (k : Int) := by omega
      have hO := HO.out wr hb
      have co := hO.word (i := j) (by omega)
      have hx : mixW op V W j j = V j := by unfold mixW; rw [if_neg (by omega)]
      have cx := hM.word (i := j) (by omega)
      rw [hx] at cx
      have cf := hM.frozen j
      have c1 := hM.c1
      rw [hk0] at c1
      have HBOTH : Hid (∀ U : World, Calls Tryd.prog 64 #[.int .u64 ((V j : Nat) : Int), .int .u64 ((W j : Nat) : Int)] U fun e w' => e = .returned (.int .u64 ((op (V j) (W j) : Nat) : Int)) ∧ w' = U) := fun U => HF.out.call _ _ U (HVL.out j) (HWL.out j)
      have HPUT : Hid (∀ U : World, BM U w.heap.size g2 n b2 c2 (mixW op V W j) → BM (U.setCell ⟨b2, j, none⟩ (.int .u64 ((op (V j) (W j) : Nat) : Int))) w.heap.size g2 n b2 c2 (mixW op V W (j + 1))) := fun U hU => by
        have := hU.put (i := j) (x := op (V j) (W j)) (by omega) (HF.out.lt _ _ (HVL.out j) (HWL.out j)) (by rw [mixW_step]; exact HT0.out (j + 1))
        rw [mixW_step] at this
        exact this
      have HJ : Hid (j < k) := hlt
      have HBL : w.heap.size ≤ b2 := hM.blt.1
      have S0 : wr.drew.cell? ⟨g2, 1, none⟩ = some (.slice (some ⟨b2, 0, none⟩) k c2) ∧ wr.drew.cell? ⟨b2, j, none⟩ = some (.int .u64 ((V j : Nat) : Int)) ∧ wr.drew.frozen? ⟨b2, j, none⟩ = false ∧ BM wr.drew w.heap.size g2 n b2 c2 (mixW op V W j) ∧ Below w.heap.size w wr.drew := ⟨c1, cx, cf, hM.keep rfl rfl, hb.drew⟩
      clear hO hx cx cf c1 hM hb
      generalize op (V j) (W j) = z at *
      generalize V j = x at *
      generalize W j = y at *
      go_wp2_with fail
      refine wp_region_partsS (fun U => U.cell? ⟨g2, 1, none⟩ = some (.slice (some ⟨b2, 0, none⟩) k c2) ∧ U.cell? ⟨b2, j, none⟩ = some (.int .u64 (x : Int)) ∧ U.frozen? ⟨b2, j, none⟩ = false ∧ BM U w.heap.size g2 n b2 c2 (mixW op V W j) ∧ Below w.heap.size w U) [([0, 4, 5, 6, 10, 13], 1, true), ([], 2, true), ([], 3, true), ([], 7, false), ([], 8, false), ([], 9, false), ([11], 12, false), ([], 14, false)] [15] [16] (by kernel_rfl) (by kernel_rfl) S0 (partsI_yield ?_)
      simp only [List.cons_append, List.nil_append, List.append_nil, List.filterMap_cons, List.filterMap_nil, List.getElem?_toArray, List.getElem?_cons_zero, List.getElem?_cons_succ]
      go_wp2_with fail
      refine ⟨rfl, _, .pointer (some ⟨g2, 0, none⟩), rfl, Or.inl ⟨by rfl, fun W hW => by go_simp⟩, partsI_yield ?_⟩
      simp only [Act.put, List.setIfInBounds_toArray, List.set_cons_zero, List.set_cons_succ]
      simp only [List.cons_append, List.nil_append, List.append_nil, List.filterMap_cons, List.filterMap_nil, List.getElem?_toArray, List.getElem?_cons_zero, List.getElem?_cons_succ]
      go_wp2_with fail
      refine ⟨rfl, _, .pointer (some ⟨g2, 1, none⟩), rfl, Or.inl ⟨by rfl, fun W hW => by go_simp⟩, partsI_yield ?_⟩
      simp only [Act.put, List.setIfInBounds_toArray, List.set_cons_zero, List.set_cons_succ]
      simp only [List.cons_append, List.nil_append, List.append_nil, List.filterMap_cons, List.filterMap_nil, List.getElem?_toArray, List.getElem?_cons_zero, List.getElem?_cons_succ]
      go_wp2_with fail
      refine ⟨rfl, _, .slice (some ⟨b2, 0, none⟩) k c2, rfl, Or.inl ⟨by rfl, fun W hW => by have c1 := hW.1; go_simp⟩, partsI_force ?_⟩
      simp only [Act.put, List.setIfInBounds_toArray, List.set_cons_zero, List.set_cons_succ]
      simp only [List.cons_append, List.nil_append, List.append_nil, List.filterMap_cons, List.filterMap_nil, List.getElem?_toArray, List.getElem?_cons_zero, List.getElem?_cons_succ]
      go_wp2_with fail
      refine ⟨rfl, S0, partsI_force ?_⟩
      simp only [List.cons_append, List.nil_append, List.append_nil, List.filterMap_cons, List.filterMap_nil, List.getElem?_toArray, List.getElem?_cons_zero, List.getElem?_cons_succ]
      go_wp2_with fail
      refine ⟨rfl, S0, partsI_force ?_⟩
      simp only [List.cons_append, List.nil_append, List.append_nil, List.filterMap_cons, List.filterMap_nil, List.getElem?_toArray, List.getElem?_cons_zero, List.getElem?_cons_succ]
      have q1 := S0.1
      go_wp2_with fail
      refine ⟨rfl, S0, partsI_force ?_⟩
      simp only [List.cons_append, List.nil_append, List.append_nil, List.filterMap_cons, List.filterMap_nil, List.getElem?_toArray, List.getElem?_cons_zero, List.getElem?_cons_succ]
      have q2 := S0.2.1
      go_wp2_with fail
      refine ⟨rfl, S0, partsI_force ?_⟩
      simp only [List.cons_append, List.nil_append, List.append_nil, List.filterMap_cons, List.filterMap_nil, List.getElem?_toArray, List.getElem?_cons_zero, List.getElem?_cons_succ]
      go_wp2_with fail
      refine (HBOTH.out _).mono ?_
      rintro e2 w5 ⟨rfl, rfl⟩
      go_wp2_with fail
      refine ⟨rfl, S0, partsI_last ?_⟩
      simp only [List.cons_append, List.nil_append, List.append_nil, List.filterMap_cons, List.filterMap_nil, List.getElem?_toArray, List.getElem?_cons_zero, List.getElem?_cons_succ]
      obtain ⟨q1, q2, q3, hM5, hb5⟩ := S0
      have HM6 : Hid (BM (wr.drew.setCell ⟨b2, j, none⟩ (.int .u64 (z : Int))) w.heap.size g2 n b2 c2 (mixW op V W (j + 1))) := HPUT.out _ hM5
      have HB6 : Hid (Below w.heap.size w (wr.drew.setCell ⟨b2, j, none⟩ (.int .u64 (z : Int)))) := hb5.setCell (p := ⟨b2, j, none⟩) HBL _
      clear HPUT HBOTH hM5 hb5
      go_wp2_with fail
      refine ⟨rfl, ?_⟩
      go_wp2_with fail
      go_roundw
      case rel => exact ⟨j + 1, HJ.out, by first | rfl | go_num | simp, HM6.out, HB6.out⟩
      case measure => simp [intOf]; have := HJ.out; omega
    · obtain rfl : j = k := by omega
      have j1 : ¬ ((j : Int) < (j : Int)) := by omega
      have HR : Hid (∃ b2 c2 U, BM wr w.heap.size g2 n b2 c2 U ∧ ∀ p, bitF U p = bop (bitF V p) (bitF W p)) := ⟨b2, c2, _, hM, fun p => by
        rw [mixW_bit HF.out HVL.out HWL.out]
        by_cases hp : p / 64 < j
        · rw [if_pos hp]
        · rw [if_neg hp]
          have h1 := HT0.out 0 p (by have := HK.out; omega)
          rw [mixW_bit HF.out HVL.out HWL.out, if_neg (by omega)] at h1
          have hw := (HO.out wr hb).tail p (by have := HK.out; omega)
          rw [h1, hw, HF.out.none]⟩
      clear hM
      go_wp2_with fail
      go_ret2
      exact ⟨g2, rfl, HR.out, hb⟩
end
end Go.Proofs.YtkpcgijdokhjkaaDoor

namespace Go.Proofs.YtkpcgijdokhjkaaDoor
open Go Go.RowKit
set_option linter.unusedVariables false
set_option linter.unusedSimpArgs false
section
variable {B B' g g' n n' b b' c c' : Nat} {V W : Nat → Nat}
/-- a map put together of two -/
def Made (w w' : World) (g2 n : Nat) (F : Nat → Bool) : Prop := (∃ b2 c2 U, BM w' w.heap.size g2 n b2 c2 U ∧ ∀ p, bitF U p = F p) ∧ Below w.heap.size w w'
theorem either_like (w : World) (h : BM w B g n b c V) (h' : BM w B' g' n b' c' W) : Calls Tryd.prog 41 #[.pointer (some ⟨g, 0, none⟩), .pointer (some ⟨g', 0, none⟩)] w fun e w' => ∃ g2, e = .returned (.tuple #[.pointer (some ⟨g2, 0, none⟩), .int .i64 0]) ∧ Made w w' g2 n fun p => bitF V p || bitF W p := by
  have HW := with_either both_either w h h'
  clear h h'
  go_enter Tryd.func41, Tryd.ntmps41
  go_wp2_with fail
  refine HW.mono ?_
  rintro e w1 ⟨g2, rfl, h1, h2⟩
  have HM : Hid (Made w w1 g2 n fun p => bitF V p || bitF W p) := ⟨h1, h2⟩
  clear h1 h2
  go_wp2_with fail
  go_ret2
  exact ⟨_, rfl, HM.out⟩
end
end Go.Proofs.YtkpcgijdokhjkaaDoor

namespace Go.Proofs.YtkpcgijdokhjkaaDoor
open Go Go.RowKit
set_option linter.unusedVariables false
set_option linter.unusedSimpArgs false
theorem nsize  (w : World) : Calls Tryd.prog 48 #[.pointer none] w fun e w' => e = .returned (.int .i64 0) ∧ w' = w := by
  go_enter Tryd.func48, Tryd.ntmps48
  go_wp2_with fail
  go_ret
  exact ⟨rfl, rfl⟩
theorem ninside (p : Int) (w : World) : Calls Tryd.prog 56 #[.pointer none, .int .i64 p] w fun e w' => e = .returned (.bool false) ∧ w' = w := by
  by_cases h : 0 ≤ p
  · have h1 : ¬ (p < 0) := by omega
    go_enter Tryd.func56, Tryd.ntmps56
    go_wp2_with fail
    refine (nsize _).mono ?_
    rintro e w' ⟨rfl, rfl⟩
    go_wp2_with fail
    go_ret
    exact ⟨by simp; try omega, rfl⟩
  · have h1 : ¬ (0 ≤ p) := by omega
    go_enter Tryd.func56, Tryd.ntmps56
    go_wp2_with fail
    go_ret
    exact ⟨rfl, rfl⟩
theorem nhas (p : Int) (w : World) : Calls Tryd.prog 26 #[.pointer none, .int .i64 p] w fun e w' => e = .returned (.bool false) ∧ ∃ m, w' = w.drewN m := by
  have HI : Hid (∀ m, Calls Tryd.prog 56 #[.pointer none, .int .i64 p] (w.drewN m) fun e w' => e = .returned (.bool false) ∧ w' = (w.drewN m)) := fun m => ninside p _
  go_enter Tryd.func26, Tryd.ntmps26
  go_wp2_with fail
  go_quiet ((go_at_call 56; exact Calls.quiet_of_same (HI.out _)))
  go_wp2_with fail
  go_ret
  exact ⟨rfl, _, rfl⟩
theorem nclear (p : Int) (w : World) : Calls Tryd.prog 44 #[.pointer none, .int .i64 p] w fun e w' => e = .returned (.bool false) ∧ ∃ m, w' = w.drewN m := by
  go_enter Tryd.func44, Tryd.ntmps44
  go_wp2_with fail
  refine (nhas p _).mono ?_
  rintro e w2 ⟨rfl, md, rfl⟩
  go_wp2_with fail
  go_ret
  exact ⟨rfl, md, rfl⟩
theorem nfill (p q : Int) (w : World) : Calls Tryd.prog 76 #[.pointer none, .int .i64 p, .int .i64 q] w fun e w' => e = .returned (.int .i64 90) ∧ w' = w := by
  go_enter Tryd.func76, Tryd.ntmps76
  go_wp2_with fail
  go_ret
  exact ⟨rfl, rfl⟩
theorem ncount  (w : World) : Calls Tryd.prog 27 #[.pointer none] w fun e w' => e = .returned (.int .i64 0) ∧ w' = w := by
  go_enter Tryd.func27, Tryd.ntmps27
  go_wp2_with fail
  go_ret
  exact ⟨rfl, rfl⟩
theorem nseek (p : Int) (tn : Int) (w : World) : Calls Tryd.prog 65 #[.pointer none, .int .i64 p, .int .u64 tn] w fun e w' => e = .returned (.int .i64 (-1)) ∧ w' = w := by
  by_cases h : p < 0
  · go_enter Tryd.func65, Tryd.ntmps65
    go_wp2_with fail
    refine (ninside 0 _).mono ?_
    rintro e w' ⟨rfl, rfl⟩
    go_wp2_with fail
    go_ret
    exact ⟨rfl, rfl⟩
  · have h1 : 0 ≤ p := by omega
    go_enter Tryd.func65, Tryd.ntmps65
    go_wp2_with fail
    refine (ninside p _).mono ?_
    rintro e w' ⟨rfl, rfl⟩
    go_wp2_with fail
    go_ret
    exact ⟨rfl, rfl⟩
theorem nfree (p : Int) (w : World) : Calls Tryd.prog 42 #[.pointer none, .int .i64 p] w fun e w' => e = .returned (.int .i64 (-1)) ∧ w' = w := by
  go_enter Tryd.func42, Tryd.ntmps42
  go_wp2_with fail
  refine (nseek p _ _).mono ?_
  rintro e w' ⟨rfl, rfl⟩
  go_wp2_with fail
  go_ret
  exact ⟨rfl, rfl⟩
theorem nnext (p : Int) (w : World) : Calls Tryd.prog 71 #[.pointer none, .int .i64 p] w fun e w' => e = .returned (.int .i64 (-1)) ∧ w' = w := by
  go_enter Tryd.func71, Tryd.ntmps71
  go_wp2_with fail
  refine (nseek p _ _).mono ?_
  rintro e w' ⟨rfl, rfl⟩
  go_wp2_with fail
  go_ret
  exact ⟨rfl, rfl⟩
set_option maxHeartbeats 1000000 in
theorem nleaves (w : World) : Calls Tryd.prog 47 #[.pointer none] w fun e w' => e = .returned (.slice none 0 0) ∧ w' = w := by
  have hz : lvN 0 = 0 := by decide
  have HV := leaves_any 0 (by decide)
  rw [hz] at HV
  have HW : Hid (∀ w : World, Calls Tryd.prog 54 #[.int .i64 0] w fun e w' => e = .returned (.int .i64 0) ∧ w' = w) := HV
  clear HV
  go_enter Tryd.func47, Tryd.ntmps47
  go_wp2_with fail
  refine (nsize _).mono ?_
  rintro e w' ⟨rfl, rfl⟩
  go_wp2_with fail
  refine (HW.out _).mono ?_
  rintro e w' ⟨rfl, rfl⟩
  go_wp2_with fail
  go_loop [3, 8] (fun l f => l = .slice none 0 0 ∧ f = .int .i64 0) (fun _ _ => 0)
  case atStart => exact ⟨rfl, rfl⟩
  case round =>
    obtain ⟨rfl, rfl⟩ := hrel
    go_wp2_with fail
    go_ret
    exact ⟨rfl, rfl⟩
theorem nwith2 (v : Value) (w : World) : Calls Tryd.prog 63 #[.pointer none, .pointer none, v] w fun e w' => e = .returned (.tuple #[.pointer none, .int .i64 1]) ∧ w' = w := by
  go_enter Tryd.func63, Tryd.ntmps63
  go_wp2_with fail
  go_ret2
  exact ⟨rfl, rfl⟩
theorem nless (w : World) : Calls Tryd.prog 68 #[.pointer none, .pointer none] w fun e w' => e = .returned (.tuple #[.pointer none, .int .i64 1]) ∧ w' = w := by
  go_enter Tryd.func68, Tryd.ntmps68
  go_wp2_with fail
  refine (nwith2 _ _).mono ?_
  rintro e w2 ⟨rfl, rfl⟩
  go_wp2_with fail
  go_ret2
  exact ⟨rfl, rfl⟩
end Go.Proofs.YtkpcgijdokhjkaaDoor

namespace Go.Proofs.YtkpcgijdokhjkaaDoor
open Go Go.RowKit
set_option linter.unusedVariables false
set_option linter.unusedSimpArgs false
theorem put_if' (W : Nat → Nat) (p q : Nat) : bitF (putW W p) q = if q = p then true else bitF W q := by
  rw [bitF_put]; by_cases h : q = p <;> simp [h]
/-- only blocks of one's own turn -/
structure Touch (P : Nat → Prop) (w w' : World) : Prop where
  os : w'.os = w.os
  tape : w'.tape = w.tape
  output : w'.output = w.output
  size : w.heap.size ≤ w'.heap.size
  block : ∀ k, k < w.heap.size → ¬ P k → w'.heap[k]? = w.heap[k]?
theorem Touch.trans {P : Nat → Prop} {w v u : World} (h : Touch P w v) (k : Touch P v u) : Touch P w u := ⟨k.os.trans h.os, k.tape.trans h.tape, k.output.trans h.output, Nat.le_trans h.size k.size, fun j hj hn => (k.block j (Nat.lt_of_lt_of_le hj h.size) hn).trans (h.block j hj hn)⟩
theorem Touch.of_below {P : Nat → Prop} {w w' : World} (h : Below w.heap.size w w') : Touch P w w' := ⟨h.os, h.tape, h.output, h.size, fun k hk _ => h.block k hk⟩
theorem Touch.of_only {P : Nat → Prop} {b : Nat} {w w' : World} (h : Only b w w') (hb : P b) : Touch P w w' := ⟨h.os, h.tape, h.output, h.size, fun k hk hn => h.block k hk fun e => hn (e ▸ hb)⟩
theorem Touch.below {P : Nat → Prop} {B : Nat} {w w' : World} (h : Touch P w w') (hB : B ≤ w.heap.size) (hP : ∀ k, k < B → ¬ P k) : Below B w w' := ⟨h.os, h.tape, h.output, h.size, fun k hk => h.block k (by omega) (hP k hk)⟩
theorem Touch.dN {P : Nat → Prop} {w v : World} (h : Touch P w v) (m : Nat) : Touch P w (v.drewN m) := ⟨h.1, h.2, h.3, h.4, h.5⟩
theorem Touch.refl (P : Nat → Prop) (w : World) : Touch P w w := ⟨rfl, rfl, rfl, Nat.le_refl _, fun _ _ _ => rfl⟩
structure RM (w : World) (P : Nat → Prop) (r n gu bu cu gn bn cn : Nat) (U X : Nat → Nat) : Prop where
  cells : Blk w r 81 #[.pointer (some ⟨gu, 0, none⟩), .pointer (some ⟨gn, 0, none⟩)]
  u : BM w 0 gu n bu cu U
  x : BM w 0 gn n bn cn X
  own : P r ∧ P gu ∧ P bu ∧ P gn ∧ P bn
  ne : bn ≠ gu ∧ bn ≠ bu ∧ bn ≠ r ∧ bu ≠ gn ∧ bu ≠ r ∧ gu ≠ gn ∧ r ≠ gu ∧ r ≠ gn
  z : bitF U 0 = false ∧ bitF X 0 = false
  n16 : 16 ≤ n
/-- a room: which blocks the committed tree has, which the next one -/
def RoomIs (w : World) (P : Nat → Prop) (r n : Nat) (F G : Nat → Bool) : Prop := ∃ gu bu cu gn bn cn U X, RM w P r n gu bu cu gn bn cn U X ∧ (∀ p, bitF U p = F p) ∧ (∀ p, bitF X p = G p)
section
variable {w w' : World} {P : Nat → Prop} {r n gu bu cu gn bn cn : Nat} {U X : Nat → Nat} {F G : Nat → Bool}
theorem RM.keep (h : RM w P r n gu bu cu gn bn cn U X) (hr : w'.heap[r]? = w.heap[r]?) (h1 : w'.heap[gu]? = w.heap[gu]?) (h2 : w'.heap[bu]? = w.heap[bu]?) (h3 : w'.heap[gn]? = w.heap[gn]?) (h4 : w'.heap[bn]? = w.heap[bn]?) : RM w' P r n gu bu cu gn bn cn U X :=
  ⟨hr.trans h.cells, h.u.keep h1 h2, h.x.keep h3 h4, h.own, h.ne, h.z, h.n16⟩
theorem RM.below (h : RM w P r n gu bu cu gn bn cn U X) (hb : Below w.heap.size w w') : RM w' P r n gu bu cu gn bn cn U X :=
  h.keep (hb.block _ h.cells.lt) (hb.block _ h.u.glt) (hb.block _ h.u.blt.2) (hb.block _ h.x.glt) (hb.block _ h.x.blt.2)
theorem RoomIs.below (h : RoomIs w P r n F G) (hb : Below w.heap.size w w') : RoomIs w' P r n F G := by
  obtain ⟨gu, bu, cu, gn, bn, cn, U, X, hR, h1, h2⟩ := h
  exact ⟨gu, bu, cu, gn, bn, cn, U, X, hR.below hb, h1, h2⟩
theorem RM.dN (h : RM w P r n gu bu cu gn bn cn U X) (m : Nat) : RM (w.drewN m) P r n gu bu cu gn bn cn U X := h.keep rfl rfl rfl rfl rfl
theorem RoomIs.dN (h : RoomIs w P r n F G) (m : Nat) : RoomIs (w.drewN m) P r n F G := by
  obtain ⟨gu, bu, cu, gn, bn, cn, U, X, hR, h1, h2⟩ := h
  exact ⟨gu, bu, cu, gn, bn, cn, U, X, hR.dN m, h1, h2⟩
theorem RM.c0 (h : RM w P r n gu bu cu gn bn cn U X) : w.cell? ⟨r, 0, none⟩ = some (.pointer (some ⟨gu, 0, none⟩)) := by rw [h.cells.cell]; rfl
theorem RM.c1 (h : RM w P r n gu bu cu gn bn cn U X) : w.cell? ⟨r, 1, none⟩ = some (.pointer (some ⟨gn, 0, none⟩)) := by rw [h.cells.cell]; rfl
/-- the next tree's map has turned -/
theorem RM.next {V : Nat → Nat} (h : RM w P r n gu bu cu gn bn cn U X) (hx : BM w' 0 gn n bn cn V) (ho : Only bn w w') (hz : bitF V 0 = false) : RM w' P r n gu bu cu gn bn cn U V :=
  ⟨(ho.block _ h.cells.lt (Ne.symm h.ne.2.2.1)).trans h.cells, h.u.only ho h.ne.1 h.ne.2.1, hx, h.own, h.ne, ⟨h.z.1, hz⟩, h.n16⟩
theorem rmaps_any (h : RM w P r n gu bu cu gn bn cn U X) : Calls Tryd.prog 40 #[.pointer (some ⟨r, 0, none⟩)] w fun e w' => e = .returned (.tuple #[.pointer (some ⟨gu, 0, none⟩), .pointer (some ⟨gn, 0, none⟩)]) ∧ ∃ m, w' = w.drewN m := by
  have c0 := h.c0
  have c1 := h.c1
  clear h
  go_enter Tryd.func40, Tryd.ntmps40
  go_wp2_with fail
  go_quiet (fail)
  go_wp2_with fail
  go_ret2
  exact ⟨rfl, _, rfl⟩
theorem rblocks_any (h : RM w P r n gu bu cu gn bn cn U X) : Calls Tryd.prog 18 #[.pointer (some ⟨r, 0, none⟩)] w fun e w' => e = .returned (.int .i64 (n : Int)) ∧ ∃ m, w' = w.drewN m := by
  have HM := rmaps_any h
  have HS : Hid (∀ m, Calls Tryd.prog 48 #[.pointer (some ⟨gn, 0, none⟩)] (w.drewN m) fun e w' => e = .returned (.int .i64 (n : Int)) ∧ w' = w.drewN m) := fun m => bsize_any _ (h.x.dN m)
  clear h
  go_enter Tryd.func18, Tryd.ntmps18
  go_wp2_with fail
  refine HM.mono ?_
  rintro e w1 ⟨rfl, m, rfl⟩
  go_wp2_with fail
  refine (HS.out m).mono ?_
  rintro e w2 ⟨rfl, rfl⟩
  go_wp2_with fail
  go_ret
  exact ⟨rfl, m, rfl⟩
/-- the least block that is free, or -1 -/
def freeF (F G : Nat → Bool) (n : Nat) : Int := nxt (fun p => F p || G p) false n 1
theorem rtake_any (hT : TabAt w) (h0 : 0 < w.heap.size) (h : RoomIs w P r n F G) : Calls Tryd.prog 12 #[.pointer (some ⟨r, 0, none⟩)] w fun e w' =>
    (freeF F G n = -1 ∧ e = .returned (.tuple #[.int .u32 0, .int .i64 3]) ∧ RoomIs w' P r n F G ∧ Touch P w w') ∨
    (∃ p : Nat, freeF F G n = (p : Int) ∧ 1 ≤ p ∧ p < n ∧ F p = false ∧ G p = false ∧ e = .returned (.tuple #[.int .u32 (p : Int), .int .i64 0]) ∧ RoomIs w' P r n F (fun q => if q = p then true else G q) ∧ Touch P w w') := by
  obtain ⟨gu, bu, cu, gn, bn, cn, U, X, hR, hF, hG⟩ := h
  have HM := rmaps_any hR
  have HE : Hid (∀ m, Calls Tryd.prog 41 #[.pointer (some ⟨gu, 0, none⟩), .pointer (some ⟨gn, 0, none⟩)] (w.drewN m) fun e w' => ∃ g2, e = .returned (.tuple #[.pointer (some ⟨g2, 0, none⟩), .int .i64 0]) ∧ Made (w.drewN m) w' g2 n fun p => bitF U p || bitF X p) := fun m => either_like _ (hR.u.dN m) (hR.x.dN m)
  have HR : Hid (RM w P r n gu bu cu gn bn cn U X) := hR
  have HT : Hid (TabAt w) := hT
  clear hR hT
  go_enter Tryd.func12, Tryd.ntmps12
  go_wp2_with fail
  refine HM.mono ?_
  rintro e w1 ⟨rfl, m, rfl⟩
  go_wp2_with fail
  refine (HE.out m).mono ?_
  rintro e w2 ⟨g2, rfl, ⟨b2, c2, V, hV, hVb⟩, hb2'⟩
  have hb2 : Below w.heap.size w w2 := ⟨hb2'.1, hb2'.2, hb2'.3, hb2'.4, hb2'.5⟩
  have HFR := free_any w2 (HT.out.below h0 hb2) hV 1
  have hnx : nxt (bitF V) false n (fromN 1) = freeF F G n := by
    unfold freeF
    rw [show fromN 1 = 1 from rfl]
    exact nxt_congr (fun p _ => (hVb p).trans (by show (bitF U p || bitF X p) = _; rw [hF, hG])) false 1
  rw [hnx] at HFR
  have hR2 := HR.out.below hb2
  have hnis := nxt_is (fun p => F p || G p) false n 1
  have HD : Hid (NextIs (fun p => F p || G p) false n 1 (freeF F G n)) := hnis
  clear hV hVb hb2' hnx hnis HE HM
  go_wp2_with fail
  refine HFR.mono ?_
  rintro e w3 ⟨rfl, rfl⟩
  by_cases hf : freeF F G n = -1
  · rw [hf]
    have HRR : Hid (RoomIs w3 P r n F G) := ⟨gu, bu, cu, gn, bn, cn, U, X, hR2, hF, hG⟩
    clear hR2 HFR
    go_wp2_with fail
    go_ret2
    exact .inl ⟨hf, rfl, HRR.out, Touch.of_below hb2⟩
  · obtain ⟨p, e, h1, h2, h3, h4⟩ := HD.out.some hf
    have hp2 : p < 8192 := Nat.lt_of_lt_of_le h2 hR2.x.n2
    have hfg : F p = false ∧ G p = false := by simpa using h3
    have hx : bitF X p = false := by rw [hG]; exact hfg.2
    have HS := set_new w3 hR2.x p h2 hx
    have HRR : Hid (∀ w4, BM w4 0 gn n bn cn (putW X p) → Only bn w3 w4 → RoomIs w4 P r n F (fun q => if q = p then true else G q) ∧ Touch P w w4) := fun w4 hM hO => ⟨⟨gu, bu, cu, gn, bn, cn, U, _, hR2.next hM hO (by rw [put_if', if_neg (by omega)]; exact hR2.z.2), hF, fun q => by rw [put_if', hG]⟩, (Touch.of_below hb2).trans (Touch.of_only hO hR2.own.2.2.2.2)⟩
    have hpi : ¬ ((p : Int) < 0) := by omega
    have hcv : ((p : Int) % 4294967296) = (p : Int) := by omega
    have HX : Hid (freeF F G n = (p : Int) ∧ 1 ≤ p ∧ p < n ∧ F p = false ∧ G p = false) := ⟨e, h1, h2, hfg⟩
    rw [e]
    clear hR2 HFR e h1 h3 h4 hfg hx hb2 hf HD
    go_wp2_with fail
    refine HS.mono ?_
    rintro e w4 ⟨rfl, hM4, hO4⟩
    have hh := HRR.out w4 hM4 hO4
    clear HRR hM4 hO4
    go_wp2_with fail
    go_ret2
    obtain ⟨x1, x2, x3, x4, x5⟩ := HX.out
    exact .inr ⟨p, x1, x2, x3, x4, x5, rfl, hh.1, hh.2⟩
/-- a block's state -/
def stN (F G : Nat → Bool) (p : Nat) : Nat := if F p then (if G p then 2 else 4) else (if G p then 3 else 1)
def stAt (F G : Nat → Bool) (n p : Nat) : Nat := if p = 0 ∨ n ≤ p then 0 else stN F G p
set_option maxHeartbeats 2000000 in
theorem rstate_any (h : RoomIs w P r n F G) (p : Nat) (hp : p < 4294967296) : Calls Tryd.prog 14 #[.pointer (some ⟨r, 0, none⟩), .int .u32 (p : Int)] w fun e w' => e = .returned (.int .i64 (stAt F G n p : Int)) ∧ ∃ m, w' = w.drewN m := by
  obtain ⟨gu, bu, cu, gn, bn, cn, U, X, hR, hF, hG⟩ := h
  have HM := rmaps_any hR
  have HB : Hid (∀ m, Calls Tryd.prog 18 #[.pointer (some ⟨r, 0, none⟩)] (w.drewN m) fun e w' => e = .returned (.int .i64 (n : Int)) ∧ ∃ m', w' = w.drewN m') := fun m => by
    refine (rblocks_any (hR.dN m)).mono ?_
    rintro e w' ⟨rfl, m', rfl⟩
    exact ⟨rfl, _, World.drewN_drewN ..⟩
  have hn2 := hR.x.n2
  by_cases h0 : p = 0
  · subst h0
    have hst : stAt F G n 0 = 0 := by unfold stAt; rw [if_pos (.inl rfl)]
    rw [hst]
    clear hR
    go_enter Tryd.func14, Tryd.ntmps14
    go_wp2_with fail
    refine HM.mono ?_
    rintro e w1 ⟨rfl, m, rfl⟩
    go_wp2_with fail
    go_ret
    exact ⟨rfl, m, rfl⟩
  · have hcv : ((n : Int) % 4294967296) = (n : Int) := by omega
    have hpz : ¬ ((p : Int) = 0) := by omega
    by_cases hle : n ≤ p
    · have hst : stAt F G n p = 0 := by unfold stAt; rw [if_pos (.inr hle)]
      rw [hst]
      have hlei : (n : Int) ≤ (p : Int) := by omega
      clear hR hst
      go_enter Tryd.func14, Tryd.ntmps14
      go_wp2_with fail
      refine HM.mono ?_
      rintro e w1 ⟨rfl, m, rfl⟩
      go_wp2_with fail
      refine (HB.out m).mono ?_
      rintro e w2 ⟨rfl, m2, rfl⟩
      go_wp2_with fail
      go_ret
      exact ⟨rfl, m2, rfl⟩
    · have hst : stAt F G n p = stN F G p := by unfold stAt; rw [if_neg (by omega)]
      rw [hst]
      have hlei : ¬ ((n : Int) ≤ (p : Int)) := by omega
      have H1 : Hid (∀ m, Calls Tryd.prog 26 #[.pointer (some ⟨gu, 0, none⟩), .int .i64 (p : Int)] (w.drewN m) fun e w' => e = .returned (.bool (F p)) ∧ ∃ m', w' = w.drewN m') := fun m => by
        refine (has_yes _ (hR.u.dN m) p (by omega)).mono ?_
        rintro e w' ⟨rfl, m', rfl⟩
        exact ⟨by rw [hF], _, World.drewN_drewN ..⟩
      have H2 : Hid (∀ m, Calls Tryd.prog 26 #[.pointer (some ⟨gn, 0, none⟩), .int .i64 (p : Int)] (w.drewN m) fun e w' => e = .returned (.bool (G p)) ∧ ∃ m', w' = w.drewN m') := fun m => by
        refine (has_yes _ (hR.x.dN m) p (by omega)).mono ?_
        rintro e w' ⟨rfl, m', rfl⟩
        exact ⟨by rw [hG], _, World.drewN_drewN ..⟩
      have hsN : stN F G p = if F p then (if G p then 2 else 4) else (if G p then 3 else 1) := rfl
      rw [hsN]
      clear hR hst hF hG hsN
      generalize F p = x at *
      generalize G p = y at *
      go_enter Tryd.func14, Tryd.ntmps14
      go_wp2_with fail
      refine HM.mono ?_
      rintro e w1 ⟨rfl, m, rfl⟩
      go_wp2_with fail
      refine (HB.out m).mono ?_
      rintro e w2 ⟨rfl, m2, rfl⟩
      go_wp2_with fail
      refine (H1.out m2).mono ?_
      rintro e w3 ⟨rfl, m3, rfl⟩
      go_wp2_with fail
      refine (H2.out m3).mono ?_
      rintro e w4 ⟨rfl, m4, rfl⟩
      cases x <;> cases y
      all_goals
        go_wp2_with fail
        go_ret
        exact ⟨rfl, m4, rfl⟩
end
end Go.Proofs.YtkpcgijdokhjkaaDoor
