/- The statement of names: any text; two compared. -/
import Derived.Test.YtgpghdhkbliodaaHSegsP
import Derived.Test.YtgpghdhkbliodaaHNaDig
import Derived.BigQuiet
import Derived.Deep.QuietTactic
import Derived.Handy

namespace Go.Proofs.Ytgpghdhkbliodaa
set_option maxRecDepth 20000
open Go Go.RowKit Go.Nam
set_option linter.unusedVariables false
set_option linter.unusedSimpArgs false
theorem compare_any (a b : ByteArray) (w : World) :
    Calls Try.prog 8 #[.string a, .string b] w fun e w' => e = .returned (.int .i64 (Lib.compareBytes a.data.toList b.data.toList)) ∧ w' = w := by
  have HC := scompare_any a b
  generalize Lib.compareBytes a.data.toList b.data.toList = c at HC
  go_enter Try.func8, Try.ntmps8
  go_wp2_with (first | (go_at_call 16; refine (HC _).mono ?_; rintro e w' ⟨rfl, rfl⟩))
  go_ret
  exact ⟨rfl, rfl⟩
theorem dropAt {l : List UInt8} {i : Nat} {c : UInt8} (h : l[i]? = some c) : l.drop i = c :: l.drop (i + 1) := by
  obtain ⟨h1, h2⟩ := List.getElem?_eq_some_iff.1 h
  rw [← h2]; exact List.drop_eq_getElem_cons h1
theorem cmp_drop_nil {a b : List UInt8} (i : Nat) (hb : i < b.length) (ha : a.length ≤ i) : Lib.compareBytes (a.drop i) (b.drop i) = -1 := by
  rw [List.drop_eq_nil_of_le ha, List.drop_eq_getElem_cons hb]; rfl
theorem cmp_nil_drop {a b : List UInt8} (i : Nat) (ha : i < a.length) (hb : b.length ≤ i) : Lib.compareBytes (a.drop i) (b.drop i) = 1 := by
  rw [List.drop_eq_nil_of_le hb, List.drop_eq_getElem_cons ha]; rfl
theorem cmp_nil_nil {a b : List UInt8} (i : Nat) (ha : a.length ≤ i) (hb : b.length ≤ i) : Lib.compareBytes (a.drop i) (b.drop i) = 0 := by
  rw [List.drop_eq_nil_of_le hb, List.drop_eq_nil_of_le ha]; rfl
set_option maxHeartbeats 4000000 in
theorem rcompare_any (a b : ByteArray) (ha : a.size ≤ 4611686018427387904) (hb : b.size ≤ 4611686018427387904) (w : World) :
    Calls Try.prog 9 #[.string a, .string b] w fun e w' => e = .returned (.int .i64 (Lib.compareBytes a.data.toList b.data.toList)) ∧ ∃ n, w' = w.drewN n := by
  have HAL : Hid (a.size = a.data.toList.length) := Lib.size_eq a
  have HBL : Hid (b.size = b.data.toList.length) := Lib.size_eq b
  generalize hc : Lib.compareBytes a.data.toList b.data.toList = c
  have HC : Hid (Lib.compareBytes a.data.toList b.data.toList = c) := hc
  clear hc
  go_enter Try.func9, Try.ntmps9
  go_wp2_with fail
  go_loopw [5] (fun v wr => Hid (∃ i : Nat, i ≤ a.size ∧ i ≤ b.size ∧ v = .int .i64 (i : Int) ∧ Lib.compareBytes (a.data.toList.drop i) (b.data.toList.drop i) = c ∧ ∃ n, wr = w.drewN n)) (fun v _ => a.size - (intOf v).toNat)
  case atStart => exact ⟨0, by omega, by omega, rfl, HC.out, 0, rfl⟩
  case round =>
    obtain ⟨i, hia, hib, rfl, hcc, nd, rfl⟩ := Hid.out hrel
    have HI : Hid (Lib.compareBytes (a.data.toList.drop i) (b.data.toList.drop i) = c) := hcc
    clear hrel hcc HC
    have fin : Hid (∀ n, ∃ m, (w.drewN nd).drewN n = w.drewN m) := fun n => ⟨_, World.drewN_drewN _ _ _⟩
    by_cases h1 : i < a.size
    · have i1 : (i : Int) < (a.size : Int) := by omega
      by_cases h2 : i < b.size
      · have i2 : (i : Int) < (b.size : Int) := by omega
        obtain ⟨x, hx⟩ : ∃ x : UInt8, a[i]'h1 = x := ⟨_, rfl⟩
        obtain ⟨y, hy⟩ : ∃ y : UInt8, b[i]'h2 = y := ⟨_, rfl⟩
        have HX : Hid (a.data.toList[i]? = some x) := by show _ = _; rw [← hx]; exact Lib.data_getElem? a i h1
        have HY : Hid (b.data.toList[i]? = some y) := by show _ = _; rw [← hy]; exact Lib.data_getElem? b i h2
        have HN : Hid ((if x < y then (-1 : Int) else if y < x then 1 else Lib.compareBytes (a.data.toList.drop (i + 1)) (b.data.toList.drop (i + 1))) = c) := by
          have := HI.out
          rw [dropAt HX.out, dropAt HY.out] at this
          exact this
        clear HI HX HY
        by_cases c1 : x < y
        · have l1 : (x.toNat : Int) < (y.toNat : Int) := by have := UInt8.lt_iff_toNat_lt.1 c1; omega
          obtain rfl : -1 = c := by have := HN.out; rwa [if_pos c1] at this
          clear HN c1
          go_wp2_with fail
          go_quiet (fail)
          go_wp2_with fail
          go_ret
          exact ⟨rfl, fin.out _⟩
        · have l1 : ¬ ((x.toNat : Int) < (y.toNat : Int)) := by intro h; exact c1 (UInt8.lt_iff_toNat_lt.2 (by omega))
          by_cases c2 : y < x
          · have l2 : (y.toNat : Int) < (x.toNat : Int) := by have := UInt8.lt_iff_toNat_lt.1 c2; omega
            obtain rfl : 1 = c := by have := HN.out; rwa [if_neg c1, if_pos c2] at this
            clear HN c1 c2
            go_wp2_with fail
            go_quiet (fail)
            have fin2 : Hid (∀ n, ∃ m, ((w.drewN nd).drewN nq).drewN n = w.drewN m) := fun n => ⟨_, by rw [World.drewN_drewN, World.drewN_drewN]⟩
            generalize (w.drewN nd).drewN nq = w3 at fin2 ⊢
            go_wp2_with fail
            go_quiet (fail)
            go_wp2_with fail
            go_ret
            exact ⟨rfl, fin2.out _⟩
          · have l2 : ¬ ((y.toNat : Int) < (x.toNat : Int)) := by intro h; exact c2 (UInt8.lt_iff_toNat_lt.2 (by omega))
            have HM : Hid (Lib.compareBytes (a.data.toList.drop (i + 1)) (b.data.toList.drop (i + 1)) = c) := by have := HN.out; rwa [if_neg c1, if_neg c2] at this
            clear HN c1 c2
            go_wp2_with fail
            go_quiet (fail)
            have fin2 : Hid (∀ n, ∃ m, ((w.drewN nd).drewN nq).drewN n = w.drewN m) := fun n => ⟨_, by rw [World.drewN_drewN, World.drewN_drewN]⟩
            generalize (w.drewN nd).drewN nq = w3 at fin2 ⊢
            go_wp2_with fail
            go_quiet (fail)
            go_wp2_with fail
            go_roundw
            case rel => exact ⟨i + 1, by omega, by omega, by first | rfl | go_num | simp, HM.out, fin2.out _⟩
            case measure => simp [intOf]; omega
      · have i2 : ¬ ((i : Int) < (b.size : Int)) := by omega
        obtain rfl : 1 = c := (cmp_nil_drop i (by rw [← HAL.out]; exact h1) (by rw [← HBL.out]; omega)).symm.trans HI.out
        have l1 : ¬ ((a.size : Int) < (b.size : Int)) := by omega
        have l2 : (b.size : Int) < (a.size : Int) := by omega
        go_wp2_with fail
        go_ret
        exact ⟨rfl, nd, rfl⟩
    · have i1 : ¬ ((i : Int) < (a.size : Int)) := by omega
      by_cases h2 : i < b.size
      · obtain rfl : -1 = c := (cmp_drop_nil i (by rw [← HBL.out]; exact h2) (by rw [← HAL.out]; omega)).symm.trans HI.out
        have l1 : (a.size : Int) < (b.size : Int) := by omega
        go_wp2_with fail
        go_ret
        exact ⟨rfl, nd, rfl⟩
      · obtain rfl : 0 = c := (cmp_nil_nil i (by rw [← HAL.out]; omega) (by rw [← HBL.out]; omega)).symm.trans HI.out
        have l1 : ¬ ((a.size : Int) < (b.size : Int)) := by omega
        have l2 : ¬ ((b.size : Int) < (a.size : Int)) := by omega
        go_wp2_with fail
        go_ret
        exact ⟨rfl, nd, rfl⟩
end Go.Proofs.Ytgpghdhkbliodaa

namespace Go.Proofs.Ytgpghdhkbliodaa
set_option maxRecDepth 20000
open Go Go.RowKit Go.Nam
set_option linter.unusedVariables false
set_option linter.unusedSimpArgs false
theorem bdrewE {B : Nat} {a w w' : World} (h : Below B a w) (k : ∃ n, w' = w.drewN n) : Below B a w' := by
  obtain ⟨n, rfl⟩ := k; exact bdrewN h n
set_option maxHeartbeats 4000000 in
theorem nameChecksLaw (s t : ByteArray) (hs : s.size ≤ 140737488355327) (ht : t.size ≤ 140737488355327) (w : World) :
    Calls Try.prog 3 #[.string s, .string t] w fun e w' => e = .returned (.bool true) ∧ Below w.heap.size w w' := by
  have HA : Hid (∀ w : World, Calls Try.prog 6 #[] w fun e w' => e = .returned (.bool true) ∧ Below w.heap.size w w') := awake13_any
  have HI : Hid (∀ w : World, Calls Try.prog 5 #[.string s] w fun e w' => e = .returned (.bool (isName s.data.toList)) ∧ w' = w) := is_any s
  have HK : Hid (∀ w : World, Calls Try.prog 7 #[.string s] w fun e w' => e = .returned (.int .i64 (if isName s.data.toList = true then 0 else 130)) ∧ Below w.heap.size w w') := check_any s
  have HC1 : Hid (∀ w : World, Calls Try.prog 8 #[.string s, .string t] w fun e w' => e = .returned (.int .i64 (Lib.compareBytes s.data.toList t.data.toList)) ∧ w' = w) := compare_any s t
  have HC2 : Hid (∀ w : World, Calls Try.prog 8 #[.string t, .string s] w fun e w' => e = .returned (.int .i64 (-(Lib.compareBytes s.data.toList t.data.toList))) ∧ w' = w) := by
    show ∀ w : World, _
    rw [← cmp_flip]
    exact compare_any t s
  have HR : Hid (∀ w : World, Calls Try.prog 9 #[.string s, .string t] w fun e w' => e = .returned (.int .i64 (Lib.compareBytes s.data.toList t.data.toList)) ∧ ∃ n, w' = w.drewN n) := rcompare_any s t (by omega) (by omega)
  have hone := cmp_one s.data.toList t.data.toList
  generalize Lib.compareBytes s.data.toList t.data.toList = c at HC1 HC2 HR hone
  generalize isName s.data.toList = m at HI HK
  clear hs ht
  have hcc : (c == c) = true := by simp
  have hnn : (-c == -c) = true := by simp
  have hw : IntKind.i64.wrap (-c) = -c := by rcases hone with rfl | rfl | rfl <;> decide
  have hw2 : wrap64 (-c) = -c := by unfold wrap64; omega
  clear hone
  cases m
  · simp only [Bool.false_eq_true, if_false] at HK
    go_enter Try.func3, Try.ntmps3
    go_wp2_with (first | (go_at_call 5; refine (HI.out _).mono ?_; rintro e w' ⟨rfl, rfl⟩))
    go_wp2_with fail
    refine (HA.out _).mono ?_
    intro e w2 hw2
    obtain ⟨he2, hb2⟩ := hw2
    subst he2
    go_wp2_with fail
    refine (HK.out _).mono ?_
    intro e w3 hw3
    obtain ⟨he3, hw3⟩ := hw3
    subst he3
    have hb3 := hb2.trans (hw3.mono hb2.size)
    clear hb2 hw3
    go_wp2_with fail
    refine (HC1.out _).mono ?_
    rintro e w4 ⟨rfl, rfl⟩
    go_wp2_with fail
    refine (HR.out _).mono ?_
    intro e w5 hw5
    obtain ⟨he5, hw5⟩ := hw5
    subst he5
    have hb5 := bdrewE hb3 hw5
    clear hb3 hw5
    go_wp2_with fail
    refine (HC2.out _).mono ?_
    rintro e w6 ⟨rfl, rfl⟩
    go_wp2_with fail
    refine (HR.out _).mono ?_
    intro e w7 hw7
    obtain ⟨he7, hw7⟩ := hw7
    subst he7
    have HB7 : Hid (Below _ _ _) := bdrewE hb5 hw7
    clear hb5 hw7
    go_wp2_with fail
    go_ret
    exact ⟨rfl, HB7.out⟩
  · simp only [if_true] at HK
    go_enter Try.func3, Try.ntmps3
    go_wp2_with (first | (go_at_call 5; refine (HI.out _).mono ?_; rintro e w' ⟨rfl, rfl⟩))
    go_wp2_with fail
    refine (HA.out _).mono ?_
    intro e w2 hw2
    obtain ⟨he2, hb2⟩ := hw2
    subst he2
    go_wp2_with fail
    refine (HK.out _).mono ?_
    intro e w3 hw3
    obtain ⟨he3, hw3⟩ := hw3
    subst he3
    have hb3 := hb2.trans (hw3.mono hb2.size)
    clear hb2 hw3
    go_wp2_with fail
    refine (HC1.out _).mono ?_
    rintro e w4 ⟨rfl, rfl⟩
    go_wp2_with fail
    refine (HR.out _).mono ?_
    intro e w5 hw5
    obtain ⟨he5, hw5⟩ := hw5
    subst he5
    have hb5 := bdrewE hb3 hw5
    clear hb3 hw5
    go_wp2_with fail
    refine (HC2.out _).mono ?_
    rintro e w6 ⟨rfl, rfl⟩
    go_wp2_with fail
    refine (HR.out _).mono ?_
    intro e w7 hw7
    obtain ⟨he7, hw7⟩ := hw7
    subst he7
    have HB7 : Hid (Below _ _ _) := bdrewE hb5 hw7
    clear hb5 hw7
    go_wp2_with fail
    go_ret
    exact ⟨rfl, HB7.out⟩
end Go.Proofs.Ytgpghdhkbliodaa
