/- Slices of texts, two texts, a path as arguments, opened: no condition but that they are ones. -/
import Derived.Test.YthoohhokoeihiabHPaParse2
import Derived.BigQuiet
import Derived.Deep.QuietTactic
import Derived.Lib.Bytealg
import Derived.Test.YthoohhokoeihiabHOrders
import Derived.Handy
import Derived.Test.YthoohhokoeihiabRows
import Derived.WalkKit
import Derived.ProofKit
import Derived.OpenShut
import Derived.Carry
import Derived.SliceStrings
import Derived.Lib.SmallJoins
import Derived.SizedLaws

namespace Go.Proofs.Ythoohhokoeihiab
open Go Go.RowKit Go.Shelf
set_option linter.unusedVariables false
set_option linter.unusedSimpArgs false
/-- a slice at a holds these texts -/
def IsN (w : World) (a : Option Addr) (N : List ByteArray) : Prop := N = [] ∨ ∃ g o, a = some ⟨g, o, none⟩ ∧ g < w.heap.size ∧ ∀ j x, N[j]? = some x → w.cell? ⟨g, o + j, none⟩ = some (.string x)
theorem IsN.below {w w' : World} {a : Option Addr} {N : List ByteArray} (h : IsN w a N) (hb : Below w.heap.size w w') : IsN w' a N := by
  rcases h with h | ⟨g, o, rfl, hg, hc⟩
  · exact .inl h
  · exact .inr ⟨g, o, rfl, Nat.lt_of_lt_of_le hg hb.size, fun j x hj => (hb.cell (p := ⟨g, o + j, none⟩) hg).trans (hc j x hj)⟩
theorem IsN.at {w : World} {a : Option Addr} {N : List ByteArray} (h : IsN w a N) {j : Nat} (hj : j < N.length) : ∃ g o, a = some ⟨g, o, none⟩ ∧ g < w.heap.size ∧ w.cell? ⟨g, o + j, none⟩ = some (.string N[j]) := by
  rcases h with rfl | ⟨g, o, rfl, hg, hc⟩
  · simp at hj
  · exact ⟨g, o, rfl, hg, hc j _ (List.getElem?_eq_getElem hj)⟩
theorem IsN.take {w : World} {a : Option Addr} {N : List ByteArray} (h : IsN w a N) (k : Nat) : IsN w a (N.take k) := by
  rcases h with rfl | ⟨g, o, rfl, hg, hc⟩
  · exact .inl (by simp)
  · refine .inr ⟨g, o, rfl, hg, fun j x hj => hc j x ?_⟩
    rw [List.getElem?_take] at hj
    split at hj
    · exact hj
    · cases hj
set_option maxRecDepth 100000 in
set_option maxHeartbeats 4000000 in
theorem same18_any {w : World} {a b : Option Addr} {c d : Nat} {N M : List ByteArray} (hN : IsN w a N) (hM : IsN w b M) (h1 : N.length ≤ 9223372036854775807) (h2 : M.length ≤ 9223372036854775807) :
    Calls Try.prog 7 #[.slice a N.length c, .slice b M.length d] w fun e w' => e = .returned (.bool (decide (N = M))) ∧ Below w.heap.size w w' := by
  by_cases hl : N.length = M.length
  · obtain ⟨m, hm⟩ : ∃ m, decide (N = M) = m := ⟨_, rfl⟩
    rw [hm]
    have HM : Hid (decide (N = M) = m) := hm
    obtain ⟨n, hn⟩ : ∃ n, N.length = n := ⟨_, rfl⟩
    have hn2 : M.length = n := hl.symm.trans hn
    rw [hn] at h1 ⊢
    rw [hn2]
    have HN : Hid (IsN w a N) := hN
    have HM2 : Hid (IsN w b M) := hM
    have HL : Hid (N.length = n ∧ M.length = n) := ⟨hn, hn2⟩
    clear hm hN hM hn hn2 hl h2
    go_enter Try.func7, Try.ntmps7
    go_wp2_with fail
    go_loopw [13] (fun v wr => Hid (∃ i : Nat, i ≤ n ∧ v = .int .i64 (i : Int) ∧ (∀ j, j < i → N[j]? = M[j]?) ∧ Below w.heap.size w wr)) (fun v wr => n - (intOf v).toNat)
    case atStart => exact ⟨0, by omega, rfl, fun j hj => by omega, Below.refl _ _⟩
    case round =>
      obtain ⟨i, hin, rfl, hcl, hb⟩ := Hid.out hrel
      have HCL : Hid ((∀ j, j < i → N[j]? = M[j]?) ∧ Below w.heap.size w wr) := ⟨hcl, hb⟩
      clear hrel hcl
      by_cases hi : i < n
      · have hiz : (i : Int) < (n : Int) := by omega
        have hi0 : (0 : Int) ≤ (i : Int) := by omega
        obtain ⟨g, o, rfl, hg, hc⟩ := (HN.out.below hb).at (j := i) (by rw [HL.out.1]; exact hi)
        obtain ⟨g2, o2, rfl, hg2, hc2⟩ := (HM2.out.below hb).at (j := i) (by rw [HL.out.2]; exact hi)
        obtain ⟨x, hx⟩ : ∃ x, N[i]'(by rw [HL.out.1]; exact hi) = x := ⟨_, rfl⟩
        obtain ⟨y, hy⟩ : ∃ y, M[i]'(by rw [HL.out.2]; exact hi) = y := ⟨_, rfl⟩
        rw [hx] at hc
        rw [hy] at hc2
        have HXY : Hid (N[i]? = some x ∧ M[i]? = some y) := ⟨by rw [← hx]; exact List.getElem?_eq_getElem _, by rw [← hy]; exact List.getElem?_eq_getElem _⟩
        clear hx hy hb
        have hcd : ∀ k, (wr.drewN k).cell? ⟨g, o + i, none⟩ = some (.string x) := fun k => hc
        have hcd2 : ∀ k, (wr.drewN k).cell? ⟨g2, o2 + i, none⟩ = some (.string y) := fun k => hc2
        by_cases hxy : x = y
        · subst hxy
          have ht : (x.toList == x.toList) = true := by simp
          have HS : Hid (∀ j, j < i + 1 → N[j]? = M[j]?) := fun j hj => by
            rcases Nat.lt_succ_iff_lt_or_eq.1 hj with h | rfl
            · exact HCL.out.1 j h
            · rw [HXY.out.1, HXY.out.2]
          go_wp2_with fail
          go_quiet (fail)
          go_wp2_with fail
          go_roundw
          case rel => exact ⟨i + 1, by omega, by first | rfl | go_num | simp, HS.out, bdrewN HCL.out.2 _⟩
          case measure => simp [intOf]; omega
        · have ht : (x.toList == y.toList) = false := by
            rw [beq_eq_false_iff_ne]
            intro e
            rw [Lib.toList_data, Lib.toList_data] at e
            exact hxy (ba_ext e)
          obtain rfl : m = false := by
            rw [← HM.out]
            refine decide_eq_false fun e => hxy ?_
            have := HXY.out.1
            rw [e, HXY.out.2] at this
            injection this with this
            exact this.symm
          clear hxy
          go_wp2_with fail
          go_quiet (fail)
          go_wp2_with fail
          go_ret
          exact ⟨rfl, bdrewN HCL.out.2 _⟩
      · obtain rfl : i = n := by omega
        have hiz : ¬ (i : Int) < (i : Int) := by omega
        obtain rfl : m = true := by
          rw [← HM.out]
          refine decide_eq_true (List.ext_getElem? fun j => ?_)
          by_cases hj : j < i
          · exact HCL.out.1 j hj
          · rw [List.getElem?_eq_none (by rw [HL.out.1]; omega), List.getElem?_eq_none (by rw [HL.out.2]; omega)]
        go_wp2_with fail
        go_ret
        exact ⟨rfl, HCL.out.2⟩
  · have hz : ¬ (N.length : Int) = (M.length : Int) := by omega
    rw [decide_eq_false (fun e => hl (by rw [e]))]
    go_enter Try.func7, Try.ntmps7
    go_wp2_with fail
    go_ret
    exact ⟨rfl, Below.refl _ _⟩
end Go.Proofs.Ythoohhokoeihiab

namespace Go.Nam
open Go.Lib

def lexN : List Nat → List Nat → Int
  | [], [] => 0
  | [], _ :: _ => -1
  | _ :: _, [] => 1
  | a :: x, b :: y => if a < b then -1 else if b < a then 1 else lexN x y

theorem lexN_flip : ∀ x y : List Nat, lexN y x = - lexN x y
  | [], [] => rfl
  | [], _ :: _ => rfl
  | _ :: _, [] => rfl
  | a :: x, b :: y => by
    have ih := lexN_flip x y
    simp only [lexN]
    repeat' split
    all_goals first | omega | rfl

theorem lexN_zero : ∀ x y : List Nat, lexN x y = 0 ↔ x = y
  | [], [] => by simp [lexN]
  | [], _ :: _ => by simp [lexN]
  | _ :: _, [] => by simp [lexN]
  | a :: x, b :: y => by
    have ih := lexN_zero x y
    simp only [lexN, List.cons.injEq]
    by_cases h1 : a < b
    · rw [if_pos h1]; constructor
      · intro h; cases h
      · rintro ⟨rfl, _⟩; omega
    · rw [if_neg h1]
      by_cases h2 : b < a
      · rw [if_pos h2]; constructor
        · intro h; cases h
        · rintro ⟨rfl, _⟩; omega
      · rw [if_neg h2, ih]
        have : a = b := by omega
        simp [this]

theorem lexN_one : ∀ x y : List Nat, lexN x y = -1 ∨ lexN x y = 0 ∨ lexN x y = 1
  | [], [] => by simp [lexN]
  | [], _ :: _ => by simp [lexN]
  | _ :: _, [] => by simp [lexN]
  | a :: x, b :: y => by
    have ih := lexN_one x y
    simp only [lexN]
    repeat' split
    all_goals first | omega | exact ih

theorem lexN_trans : ∀ x y z : List Nat, lexN x y ≤ 0 → lexN y z ≤ 0 → lexN x z ≤ 0 ∧ (lexN x z = 0 → lexN x y = 0 ∧ lexN y z = 0)
  | [], [], z, h1, h2 => ⟨h2, fun h => ⟨rfl, h⟩⟩
  | [], _ :: _, [], h1, h2 => by simp [lexN] at h2
  | [], _ :: _, _ :: _, h1, h2 => by simp [lexN]
  | _ :: _, [], _, h1, h2 => by simp [lexN] at h1
  | _ :: _, _ :: _, [], h1, h2 => by simp [lexN] at h2
  | a :: x, b :: y, c :: z, h1, h2 => by
    have ih := lexN_trans x y z
    simp only [lexN] at h1 h2 ⊢
    repeat' split at h1
    all_goals repeat' split at h2
    all_goals repeat' split
    all_goals first | omega | (have := ih (by omega) (by omega); omega)

/-- The library's order of bytes is this one. -/
theorem cmp_lex : ∀ x y : List UInt8, compareBytes x y = lexN (x.map (·.toNat)) (y.map (·.toNat))
  | [], [] => rfl
  | [], _ :: _ => rfl
  | _ :: _, [] => rfl
  | a :: x, b :: y => by
    have ih := cmp_lex x y
    simp only [compareBytes, List.map_cons, lexN, ih, UInt8.lt_iff_toNat_lt]

theorem map_inj {a b : List UInt8} (h : a.map (·.toNat) = b.map (·.toNat)) : a = b := by
  induction a generalizing b with
  | nil => cases b with
    | nil => rfl
    | cons => simp at h
  | cons x a ih => cases b with
    | nil => simp at h
    | cons y b =>
      simp only [List.map_cons, List.cons.injEq] at h
      rw [ih h.2, UInt8.toNat_inj.1 h.1]

theorem cmp_zero {a b : List UInt8} : compareBytes a b = 0 ↔ a = b := by
  rw [cmp_lex, lexN_zero]
  constructor
  · exact map_inj
  · rintro rfl; rfl

theorem cmp_flip (a b : List UInt8) : compareBytes b a = - compareBytes a b := by rw [cmp_lex, cmp_lex, lexN_flip]

theorem cmp_one (a b : List UInt8) : compareBytes a b = -1 ∨ compareBytes a b = 0 ∨ compareBytes a b = 1 := by rw [cmp_lex]; exact lexN_one _ _
end Go.Nam

namespace Go.Proofs.Ythoohhokoeihiab
set_option maxRecDepth 20000
open Go Go.RowKit Go.Nam
set_option linter.unusedVariables false
set_option linter.unusedSimpArgs false
theorem compare_any (a b : ByteArray) (w : World) :
    Calls Try.prog 9 #[.string a, .string b] w fun e w' => e = .returned (.int .i64 (Lib.compareBytes a.data.toList b.data.toList)) ∧ w' = w := by
  have HC := scompare_any a b
  generalize Lib.compareBytes a.data.toList b.data.toList = c at HC
  go_enter Try.func9, Try.ntmps9
  go_wp2_with (first | (go_at_call 11; refine (HC _).mono ?_; rintro e w' ⟨rfl, rfl⟩))
  go_ret
  exact ⟨rfl, rfl⟩
end Go.Proofs.Ythoohhokoeihiab

namespace Go.Proofs.Ythoohhokoeihiab
open Go Go.RowKit Go.Nam
set_option linter.unusedVariables false
set_option linter.unusedSimpArgs false
def cB (x y : ByteArray) : Int := Lib.compareBytes x.data.toList y.data.toList
theorem cB_one (x y : ByteArray) : cB x y = -1 ∨ cB x y = 0 ∨ cB x y = 1 := cmp_one _ _
theorem cB_flip (x y : ByteArray) : cB y x = -cB x y := cmp_flip _ _
theorem cB_zero {x y : ByteArray} : cB x y = 0 ↔ x = y := ⟨fun h => ba_ext (cmp_zero.1 h), fun h => cmp_zero.2 (by rw [h])⟩
theorem cB_lt {x y z : ByteArray} (h1 : cB x y = -1) (h2 : cB y z = -1) : cB x z = -1 := by
  have h0 := cB_one x z
  unfold cB at *
  rw [cmp_lex] at *
  obtain ⟨h3, h4⟩ := lexN_trans _ _ _ (Int.le_trans (Int.le_of_eq h1) (by decide)) (Int.le_trans (Int.le_of_eq h2) (by decide))
  rcases h0 with h | h | h
  · exact h
  · have := (h4 h).1; omega
  · omega
/-- the order of lists -/
def ordN : List ByteArray → List ByteArray → Int
  | [], [] => 0
  | [], _ :: _ => -1
  | _ :: _, [] => 1
  | x :: a, y :: b => if cB x y = 0 then ordN a b else cB x y
theorem ordN_one : ∀ a b : List ByteArray, ordN a b = -1 ∨ ordN a b = 0 ∨ ordN a b = 1
  | [], [] => by simp [ordN]
  | [], _ :: _ => by simp [ordN]
  | _ :: _, [] => by simp [ordN]
  | x :: a, y :: b => by
    unfold ordN
    split
    · exact ordN_one a b
    · exact cB_one x y
theorem ordN_flip : ∀ a b : List ByteArray, ordN b a = -ordN a b
  | [], [] => by simp [ordN]
  | [], _ :: _ => by simp [ordN]
  | _ :: _, [] => by simp [ordN]
  | x :: a, y :: b => by
    have ih := ordN_flip a b
    have h := cB_flip x y
    unfold ordN
    by_cases h0 : cB x y = 0
    · rw [if_pos h0, if_pos (by omega)]; exact ih
    · rw [if_neg h0, if_neg (by omega)]; exact h
theorem ordN_zero : ∀ a b : List ByteArray, ordN a b = 0 ↔ a = b
  | [], [] => by simp [ordN]
  | [], _ :: _ => by simp [ordN]
  | _ :: _, [] => by simp [ordN]
  | x :: a, y :: b => by
    have ih := ordN_zero a b
    unfold ordN
    by_cases h0 : cB x y = 0
    · rw [if_pos h0, ih, cB_zero.1 h0]; simp
    · rw [if_neg h0]
      constructor
      · intro h; exact absurd h h0
      · intro h; injection h with h1 h2; exact absurd (cB_zero.2 h1) h0
theorem ordN_lt : ∀ a b c : List ByteArray, ordN a b = -1 → ordN b c = -1 → ordN a c = -1
  | [], [], _, h1, _ => by simp [ordN] at h1
  | [], _ :: _, [], _, h2 => by simp [ordN] at h2
  | [], _ :: _, _ :: _, _, _ => rfl
  | _ :: _, [], _, h1, _ => by simp [ordN] at h1
  | _ :: _, _ :: _, [], _, h2 => by simp [ordN] at h2
  | x :: a, y :: b, z :: c, h1, h2 => by
    unfold ordN at h1 h2 ⊢
    by_cases e1 : cB x y = 0
    · rw [if_pos e1] at h1
      have exy := cB_zero.1 e1
      subst exy
      by_cases e2 : cB x z = 0
      · rw [if_pos e2] at h2 ⊢
        exact ordN_lt a b c h1 h2
      · rw [if_neg e2] at h2 ⊢
        exact h2
    · rw [if_neg e1] at h1
      by_cases e2 : cB y z = 0
      · have eyz := cB_zero.1 e2
        subst eyz
        rw [if_neg e1]; exact h1
      · rw [if_neg e2] at h2
        have := cB_lt h1 h2
        rw [if_neg (by omega)]; exact this
theorem ordN_same (a b c : List ByteArray) (h : ordN a b = ordN b c) : ordN a c = ordN a b := by
  rcases ordN_one a b with h1 | h1 | h1
  · rw [h1]; exact ordN_lt a b c h1 (by omega)
  · rw [(ordN_zero a b).1 h1]
    rw [← h, h1]
    exact ((ordN_zero b b).2 rfl).symm
  · have h2 : ordN c b = -1 := by rw [ordN_flip b c]; omega
    have h3 : ordN b a = -1 := by rw [ordN_flip a b]; omega
    have h4 := ordN_lt c b a h2 h3
    rw [ordN_flip c a]
    omega
theorem ordN_drop {N M : List ByteArray} {i : Nat} {x y : ByteArray} (hx : N[i]? = some x) (hy : M[i]? = some y) : ordN (N.drop i) (M.drop i) = if cB x y = 0 then ordN (N.drop (i + 1)) (M.drop (i + 1)) else cB x y := by
  obtain ⟨h1, e1⟩ := List.getElem?_eq_some_iff.1 hx
  obtain ⟨h2, e2⟩ := List.getElem?_eq_some_iff.1 hy
  rw [List.drop_eq_getElem_cons h1, List.drop_eq_getElem_cons h2, e1, e2]
  rfl
set_option maxRecDepth 100000 in
set_option maxHeartbeats 4000000 in
theorem cmpFunc_any {w : World} {a b : Option Addr} {c d : Nat} {N M : List ByteArray} (hN : IsN w a N) (hM : IsN w b M) (h1 : N.length ≤ 9223372036854775807) (h2 : M.length ≤ 9223372036854775807) :
    Calls Try.prog 8 #[.slice a N.length c, .slice b M.length d, .func (.func 9) #[] #[]] w fun e w' => e = .returned (.int .i64 (ordN N M)) ∧ w' = w := by
  obtain ⟨r, hr⟩ : ∃ r, ordN N M = r := ⟨_, rfl⟩
  rw [hr]
  have HR : Hid (ordN N M = r) := hr
  obtain ⟨n, hn⟩ : ∃ n, N.length = n := ⟨_, rfl⟩
  obtain ⟨m, hm⟩ : ∃ m, M.length = m := ⟨_, rfl⟩
  rw [hn] at h1 ⊢
  rw [hm] at h2 ⊢
  have HL : Hid (N.length = n ∧ M.length = m) := ⟨hn, hm⟩
  have HN : Hid (IsN w a N) := hN
  have HM : Hid (IsN w b M) := hM
  clear hr hn hm hN hM
  go_enter Try.func8, Try.ntmps8
  go_wp2_with fail
  go_loop [13] (fun v => Hid (∃ i : Nat, i ≤ n ∧ i ≤ m ∧ v = .int .i64 (i : Int) ∧ ordN (N.drop i) (M.drop i) = r)) (fun v => n - (intOf v).toNat)
  case atStart => exact ⟨0, by omega, by omega, rfl, HR.out⟩
  case round =>
    obtain ⟨i, hin, him, rfl, hcl⟩ := Hid.out hrel
    have HCL : Hid (ordN (N.drop i) (M.drop i) = r) := hcl
    clear hrel hcl
    by_cases hi : i < n
    · have hiz : (i : Int) < (n : Int) := by omega
      have hi0 : (0 : Int) ≤ (i : Int) := by omega
      have hin2 : i < N.length := by rw [HL.out.1]; omega
      obtain ⟨g, o, rfl, hg, hc⟩ := HN.out.at (j := i) hin2
      obtain ⟨x, hx⟩ : ∃ x, N[i]'hin2 = x := ⟨_, rfl⟩
      rw [hx] at hc
      have HX : Hid (N[i]? = some x) := by show N[i]? = _; rw [← hx]; exact List.getElem?_eq_getElem _
      clear hx
      by_cases hj : i < m
      · have him1 : ¬ (m : Int) ≤ (i : Int) := by omega
        have him3 : (i : Int) < (m : Int) := by omega
        have him2 : i < M.length := by rw [HL.out.2]; omega
        obtain ⟨g2, o2, rfl, hg2, hc2⟩ := HM.out.at (j := i) him2
        obtain ⟨y, hy⟩ : ∃ y, M[i]'him2 = y := ⟨_, rfl⟩
        rw [hy] at hc2
        have HY : Hid (M[i]? = some y) := by show M[i]? = _; rw [← hy]; exact List.getElem?_eq_getElem _
        have HD : Hid (ordN (N.drop i) (M.drop i) = if cB x y = 0 then ordN (N.drop (i + 1)) (M.drop (i + 1)) else cB x y) := ordN_drop HX.out HY.out
        have HCc : Hid (∀ w : World, Calls Try.prog 9 #[.string x, .string y] w fun e w' => e = .returned (.int .i64 (cB x y)) ∧ w' = w) := fun w => compare_any x y w
        clear hy
        by_cases hz : cB x y = 0
        · rw [hz, if_pos rfl] at HD
          rw [hz] at HCc
          clear hz
          go_wp2_with fail
          refine (HCc.out _).mono ?_
          rintro e w2 ⟨rfl, hw2⟩
          subst w2
          go_wp2_with fail
          go_round
          case rel => exact ⟨i + 1, by omega, by omega, by first | rfl | go_num | simp, HD.out.symm.trans HCL.out⟩
          case measure => simp [intOf]; omega
        · rw [if_neg hz] at HD
          have hr2 : r = cB x y := HCL.out.symm.trans HD.out
          have hz2 : r ≠ 0 := by rw [hr2]; exact hz
          rw [← hr2] at HCc
          clear hz hr2 HD
          go_wp2_with fail
          refine (HCc.out _).mono ?_
          rintro e w2 ⟨rfl, hw2⟩
          subst w2
          go_wp2_with fail
          go_ret
          exact ⟨rfl, rfl⟩
      · obtain rfl : i = m := by omega
        have him1 : (i : Int) ≤ (i : Int) := by omega
        obtain rfl : r = 1 := by
          have e9 : M.drop i = [] := List.drop_eq_nil_of_le (by rw [HL.out.2]; exact Nat.le_refl _)
          rw [← HCL.out, e9, List.drop_eq_getElem_cons hin2]
          rfl
        go_wp2_with fail
        go_ret
        exact ⟨rfl, rfl⟩
    · obtain rfl : i = n := by omega
      have hiz : ¬ (i : Int) < (i : Int) := by omega
      by_cases hj : i < m
      · have him3 : (i : Int) < (m : Int) := by omega
        obtain rfl : r = -1 := by
          have e9 : N.drop i = [] := List.drop_eq_nil_of_le (by rw [HL.out.1]; exact Nat.le_refl _)
          rw [← HCL.out, e9, List.drop_eq_getElem_cons (by rw [HL.out.2]; exact hj)]
          rfl
        go_wp2_with fail
        go_ret
        exact ⟨rfl, rfl⟩
      · have him3 : ¬ (i : Int) < (m : Int) := by omega
        obtain rfl : r = 0 := by
          have e8 : N.drop i = [] := List.drop_eq_nil_of_le (by rw [HL.out.1]; exact Nat.le_refl _)
          have e9 : M.drop i = [] := List.drop_eq_nil_of_le (by rw [HL.out.2]; omega)
          rw [← HCL.out, e8, e9]
          rfl
        go_wp2_with fail
        go_ret
        exact ⟨rfl, rfl⟩
theorem pcompare_any {w : World} {a b : Option Addr} {c d : Nat} {N M : List ByteArray} (hN : IsN w a N) (hM : IsN w b M) (h1 : N.length ≤ 9223372036854775807) (h2 : M.length ≤ 9223372036854775807) :
    Calls Try.prog 4 #[.slice a N.length c, .slice b M.length d] w fun e w' => e = .returned (.int .i64 (ordN N M)) ∧ w' = w := by
  have HX := cmpFunc_any (c := c) (d := d) hN hM h1 h2
  generalize ordN N M = r at *
  clear hN hM
  go_enter Try.func4, Try.ntmps4
  go_wp2_with fail
  refine HX.mono ?_
  rintro e w2 ⟨rfl, hw2⟩
  subst w2
  go_wp2_with fail
  go_ret
  exact ⟨rfl, rfl⟩
end Go.Proofs.Ythoohhokoeihiab

namespace Go.Proofs.Ythoohhokoeihiab
open Go Go.RowKit Go.Nam
set_option linter.unusedVariables false
set_option linter.unusedSimpArgs false
theorem binOp_string_gtr9 (t : TypeId) (a b : ByteArray) : binOp .gtr t (.string a) (.string b) = pure (.bool (!(Op.bytesLess a.toList b.toList || a.toList == b.toList))) := by simp [binOp, Op.stringOp]
attribute [local go_sem] binOp_string_gtr9
theorem less_is : ∀ a b : List UInt8, Op.bytesLess a b = decide (Lib.compareBytes a b = -1)
  | [], [] => by simp [Op.bytesLess, Lib.compareBytes]
  | [], _ :: _ => by simp [Op.bytesLess, Lib.compareBytes]
  | _ :: _, [] => by simp [Op.bytesLess, Lib.compareBytes]
  | a :: x, b :: y => by
    have ih := less_is x y
    unfold Op.bytesLess Lib.compareBytes
    by_cases h1 : a < b
    · simp [h1]
    · by_cases h2 : b < a
      · have h3 : (a == b) = false := by rw [beq_eq_false_iff_ne]; intro e; subst e; exact h1 h2
        simp [h1, h2, h3]
      · have h3 : a = b := by
          have e1 : ¬ a.toNat < b.toNat := h1
          have e2 : ¬ b.toNat < a.toNat := h2
          exact UInt8.toNat_inj.1 (by omega)
        subst h3
        simp [h1, ih]
theorem less_cB (x y : ByteArray) : Op.bytesLess x.toList y.toList = decide (cB x y = -1) := by
  rw [less_is, Lib.toList_data, Lib.toList_data]
  rfl
theorem less_cB2 (x y : ByteArray) : Op.bytesLess y.toList x.toList = decide (cB x y = 1) := by
  rw [less_cB, cB_flip x y]
  by_cases h : cB x y = 1
  · rw [decide_eq_true h, decide_eq_true (by omega)]
  · rw [decide_eq_false h, decide_eq_false (by omega)]
set_option maxRecDepth 100000 in
set_option maxHeartbeats 4000000 in
theorem order18_any {w : World} {a b : Option Addr} {c d : Nat} {N M : List ByteArray} (hN : IsN w a N) (hM : IsN w b M) (h1 : N.length ≤ 9223372036854775807) (h2 : M.length ≤ 9223372036854775807) :
    Calls Try.prog 6 #[.slice a N.length c, .slice b M.length d] w fun e w' => e = .returned (.int .i64 (ordN N M)) ∧ Below w.heap.size w w' := by
  obtain ⟨r, hr⟩ : ∃ r, ordN N M = r := ⟨_, rfl⟩
  rw [hr]
  have HR : Hid (ordN N M = r) := hr
  obtain ⟨n, hn⟩ : ∃ n, N.length = n := ⟨_, rfl⟩
  obtain ⟨m, hm⟩ : ∃ m, M.length = m := ⟨_, rfl⟩
  rw [hn] at h1 ⊢
  rw [hm] at h2 ⊢
  have HL : Hid (N.length = n ∧ M.length = m) := ⟨hn, hm⟩
  have HN : Hid (IsN w a N) := hN
  have HM : Hid (IsN w b M) := hM
  clear hr hn hm hN hM
  go_enter Try.func6, Try.ntmps6
  go_wp2_with fail
  go_loopw [5] (fun v wr => Hid (∃ i : Nat, i ≤ n ∧ i ≤ m ∧ v = .int .i64 (i : Int) ∧ ordN (N.drop i) (M.drop i) = r ∧ Below w.heap.size w wr)) (fun v wr => n - (intOf v).toNat)
  case atStart => exact ⟨0, by omega, by omega, rfl, HR.out, Below.refl _ _⟩
  case round =>
    obtain ⟨i, hin, him, rfl, hcl, hb⟩ := Hid.out hrel
    have HCL : Hid (ordN (N.drop i) (M.drop i) = r ∧ Below w.heap.size w wr) := ⟨hcl, hb⟩
    clear hrel hcl
    by_cases hi : i < n ∧ i < m
    · have hiz : (i : Int) < (n : Int) := by omega
      have hi0 : (0 : Int) ≤ (i : Int) := by omega
      have him3 : (i : Int) < (m : Int) := by omega
      have hin2 : i < N.length := by rw [HL.out.1]; omega
      have him2 : i < M.length := by rw [HL.out.2]; omega
      obtain ⟨g, o, rfl, hg, hc⟩ := (HN.out.below hb).at (j := i) hin2
      obtain ⟨g2, o2, rfl, hg2, hc2⟩ := (HM.out.below hb).at (j := i) him2
      obtain ⟨x, hx⟩ : ∃ x, N[i]'hin2 = x := ⟨_, rfl⟩
      obtain ⟨y, hy⟩ : ∃ y, M[i]'him2 = y := ⟨_, rfl⟩
      rw [hx] at hc
      rw [hy] at hc2
      have HXY : Hid (N[i]? = some x ∧ M[i]? = some y) := ⟨by rw [← hx]; exact List.getElem?_eq_getElem _, by rw [← hy]; exact List.getElem?_eq_getElem _⟩
      have HD : Hid (ordN (N.drop i) (M.drop i) = if cB x y = 0 then ordN (N.drop (i + 1)) (M.drop (i + 1)) else cB x y) := ordN_drop HXY.out.1 HXY.out.2
      clear hx hy hin2 him2 hb
      have l1 := less_cB x y
      have l2 := less_cB2 x y
      rcases cB_one x y with hz | hz | hz
      · rw [hz, if_neg (by decide)] at HD
        rw [hz] at l1 l2
        obtain rfl : r = -1 := HCL.out.1.symm.trans HD.out
        have l1' : Op.bytesLess x.toList y.toList = true := l1
        clear l1 l2 hz HD
        go_wp2_with fail
        go_quiet (fail)
        go_wp2_with fail
        go_ret
        first | exact ⟨rfl, bdrewN HCL.out.2 _⟩ | exact ⟨rfl, bdrewN (bdrewN HCL.out.2 _) _⟩
      · rw [hz, if_pos rfl] at HD
        rw [hz] at l1 l2
        have l1' : Op.bytesLess x.toList y.toList = false := l1
        have l2' : Op.bytesLess y.toList x.toList = false := l2
        have he : x = y := cB_zero.1 hz
        have heb : (x.toList == y.toList) = true := by rw [he]; simp
        clear l1 l2 hz he
        go_wp2_with fail
        go_quiet (fail)
        go_wp2_with fail
        go_quiet (fail)
        go_wp2_with fail
        go_roundw
        case rel => exact ⟨i + 1, by omega, by omega, by first | rfl | go_num | simp, HD.out.symm.trans HCL.out.1, bdrewN HCL.out.2 _⟩
        case measure => simp [intOf]; omega
      · rw [hz, if_neg (by decide)] at HD
        rw [hz] at l1 l2
        obtain rfl : r = 1 := HCL.out.1.symm.trans HD.out
        have l1' : Op.bytesLess x.toList y.toList = false := l1
        have l2' : Op.bytesLess y.toList x.toList = true := l2
        have heb : (x.toList == y.toList) = false := by
          rw [beq_eq_false_iff_ne]
          intro e
          rw [Lib.toList_data, Lib.toList_data] at e
          have := cB_zero.2 (ba_ext e)
          omega
        clear l1 l2 hz HD
        go_wp2_with fail
        go_quiet (fail)
        go_wp2_with fail
        go_quiet (fail)
        go_wp2_with fail
        go_ret
        first | exact ⟨rfl, bdrewN HCL.out.2 _⟩ | exact ⟨rfl, bdrewN (bdrewN HCL.out.2 _) _⟩
    · by_cases hi1 : i < n
      · have hiz : (i : Int) < (n : Int) := by omega
        obtain rfl : i = m := by omega
        have him3 : ¬ (i : Int) < (i : Int) := by omega
        have hnm : ¬ (n : Int) < (i : Int) := by omega
        obtain rfl : r = 1 := by
          have e9 : M.drop i = [] := List.drop_eq_nil_of_le (by rw [HL.out.2]; exact Nat.le_refl _)
          rw [← HCL.out.1, e9, List.drop_eq_getElem_cons (by rw [HL.out.1]; exact hi1)]
          rfl
        go_wp2_with fail
        go_ret
        exact ⟨rfl, HCL.out.2⟩
      · obtain rfl : i = n := by omega
        have hiz : ¬ (i : Int) < (i : Int) := by omega
        have e8 : N.drop i = [] := List.drop_eq_nil_of_le (by rw [HL.out.1]; exact Nat.le_refl _)
        by_cases hj : i < m
        · have him3 : (i : Int) < (m : Int) := by omega
          obtain rfl : r = -1 := by
            rw [← HCL.out.1, e8, List.drop_eq_getElem_cons (by rw [HL.out.2]; exact hj)]
            rfl
          clear e8
          go_wp2_with fail
          go_ret
          exact ⟨rfl, HCL.out.2⟩
        · obtain rfl : i = m := by omega
          obtain rfl : r = 0 := by
            have e9 : M.drop i = [] := List.drop_eq_nil_of_le (by rw [HL.out.2]; exact Nat.le_refl _)
            rw [← HCL.out.1, e8, e9]
            rfl
          clear e8
          go_wp2_with fail
          go_ret
          exact ⟨rfl, HCL.out.2⟩
end Go.Proofs.Ythoohhokoeihiab

namespace Go.Proofs.Ythoohhokoeihiab
open Go Go.RowKit Go.Shelf
set_option linter.unusedVariables false
set_option linter.unusedSimpArgs false
theorem prs_awake : prs [47, 97, 47, 47, 98, 47, 46, 47, 99, 47, 46, 46, 47, 100] = ([⟨#[97]⟩, ⟨#[98]⟩, ⟨#[100]⟩], false, 0, 0) := by kernel_rfl
set_option maxRecDepth 100000 in
set_option maxHeartbeats 4000000 in
theorem awake18_any (w : World) : Calls Try.prog 5 #[] w fun e w' => e = .returned (.bool true) ∧ Below w.heap.size w w' := by
  have HX : Hid (∀ w : World, Calls Try.prog 10 #[.string ⟨#[47, 97, 47, 47, 98, 47, 46, 47, 99, 47, 46, 46, 47, 100]⟩] w fun e w' => ∃ g cap, e = .returned (.tuple #[.agg #[.slice (some ⟨g, 0, none⟩) 3 cap, .bool false], .int .i64 0, .int .i64 0]) ∧ w'.cell? ⟨g, 2, none⟩ = some (.string ⟨#[100]⟩) ∧ g < w'.heap.size ∧ Below w.heap.size w w') := fun w => by
    refine (parse_any _ w).mono ?_
    rintro e w' ⟨v, he, ho, hb⟩
    have e1 : prs ((⟨#[47, 97, 47, 47, 98, 47, 46, 47, 99, 47, 46, 46, 47, 100]⟩ : ByteArray).data.toList) = ([⟨#[97]⟩, ⟨#[98]⟩, ⟨#[100]⟩], false, 0, 0) := prs_awake
    rw [e1] at he ho
    obtain ⟨g, cap, rfl⟩ := ownsRow_succ ho
    exact ⟨g, cap, he, ho.cellAt 2 (by decide), (ho.lt g rfl).2, hb⟩
  go_enter Try.func5, Try.ntmps5
  go_wp2_with fail
  refine (HX.out _).mono ?_
  rintro e w9 ⟨g, cap, rfl, hc, hg, hb⟩
  have hb2 := hb.alloc hb.size (.cells #[.slice (some ⟨g, 0, none⟩) 3 cap, .bool false] 30)
  have hc2 : (w9.alloc (.cells #[.slice (some ⟨g, 0, none⟩) 3 cap, .bool false] 30)).cell? ⟨g, 2, none⟩ = some (.string ⟨#[100]⟩) := (((Below.refl _ w9).alloc (Nat.le_refl _) _).cell (p := ⟨g, 2, none⟩) hg).trans hc
  go_wp2_with fail
  go_ret
  exact ⟨rfl, hb2⟩
end Go.Proofs.Ythoohhokoeihiab

namespace Go.Proofs.Ythoohhokoeihiab
open Go Go.RowKit Go.Nam
set_option linter.unusedVariables false
set_option linter.unusedSimpArgs false
set_option maxRecDepth 100000 in
set_option maxHeartbeats 8000000 in
theorem pathOrdersLaw (a b c : Option Addr) (ca cb cc : Nat) (N M K : List ByteArray) (w : World) (hN : IsN w a N) (hM : IsN w b M) (hK : IsN w c K) (h1 : N.length ≤ 9223372036854775807) (h2 : M.length ≤ 9223372036854775807) (h3 : K.length ≤ 9223372036854775807) :
    Calls Try.prog 3 #[.slice a N.length ca, .slice b M.length cb, .slice c K.length cc] w fun e w' => e = .returned (.bool true) ∧ Below w.heap.size w w' := by
  have HA : Hid (∀ w : World, Calls Try.prog 5 #[] w fun e w' => e = .returned (.bool true) ∧ Below w.heap.size w w') := awake18_any
  have H1 : Hid (_ ∧ _ ∧ _) := ⟨pcompare_any (c := ca) (d := cb) hN hM h1 h2, pcompare_any (c := cb) (d := cc) hM hK h2 h3, pcompare_any (c := ca) (d := cc) hN hK h1 h3⟩
  have H2 : Hid (∀ V, Below w.heap.size w V → Calls Try.prog 4 #[.slice b M.length cb, .slice a N.length ca] V fun e w' => e = .returned (.int .i64 (-ordN N M)) ∧ w' = V) := fun V hV => by
    have := pcompare_any (c := cb) (d := ca) (hM.below hV) (hN.below hV) h2 h1
    rwa [ordN_flip N M] at this
  have H3 : Hid (∀ V, Below w.heap.size w V → Calls Try.prog 6 #[.slice a N.length ca, .slice b M.length cb] V fun e w' => e = .returned (.int .i64 (ordN N M)) ∧ Below V.heap.size V w') := fun V hV => order18_any (hN.below hV) (hM.below hV) h1 h2
  have H4 : Hid (∀ V, Below w.heap.size w V → Calls Try.prog 7 #[.slice a N.length ca, .slice b M.length cb] V fun e w' => e = .returned (.bool (ordN N M == 0)) ∧ Below V.heap.size V w') := fun V hV => by
    have := same18_any (c := ca) (d := cb) (hN.below hV) (hM.below hV) h1 h2
    have e : decide (N = M) = (ordN N M == 0) := by
      by_cases h : N = M
      · rw [decide_eq_true h, (ordN_zero N M).2 h]; rfl
      · rw [decide_eq_false h]
        symm
        rw [beq_eq_false_iff_ne]
        exact fun e => h ((ordN_zero N M).1 e)
    rwa [e] at this
  have hone := ordN_one N M
  have hsame := ordN_same N M K
  generalize ordN N M = x at *
  generalize ordN M K = y at *
  generalize ordN N K = z at *
  have hw : IntKind.i64.wrap (-x) = -x := by rcases hone with rfl | rfl | rfl <;> decide
  have hw2 : wrap64 (-x) = -x := by unfold wrap64; omega
  have hxx : (x != x) = false := by simp
  have hnn : (-x != -x) = false := by simp
  have hbb : ((x == 0) != (x == 0)) = false := by simp
  clear hN hM hK hone
  go_enter Try.func3, Try.ntmps3
  go_wp2_with fail
  refine H1.out.1.mono ?_
  rintro e w1 ⟨rfl, hw1⟩
  subst w1
  go_wp2_with fail
  refine H1.out.2.1.mono ?_
  rintro e w1 ⟨rfl, hw1⟩
  subst w1
  go_wp2_with fail
  refine H1.out.2.2.mono ?_
  rintro e w1 ⟨rfl, hw1⟩
  subst w1
  go_wp2_with fail
  refine (HA.out _).mono ?_
  rintro e w2 ⟨rfl, hb2⟩
  go_wp2_with fail
  refine (H3.out _ hb2).mono ?_
  rintro e w3 ⟨rfl, hb3⟩
  have hB3 := hb2.trans (hb3.mono hb2.size)
  clear hb2 hb3
  go_wp2_with fail
  refine (H2.out _ hB3).mono ?_
  rintro e w4 ⟨rfl, hw4⟩
  subst w4
  go_wp2_with fail
  refine (H4.out _ hB3).mono ?_
  rintro e w5 ⟨rfl, hb5⟩
  have hB5 := hB3.trans (hb5.mono hB3.size)
  clear hB3 hb5
  by_cases hxy : x = y
  · have hz : z = x := hsame hxy
    have hxyb : (x != y) = false := by simpa using hxy
    have hzb : (z == x) = true := by simpa using hz
    clear hsame hxy hz
    go_wp2_with fail
    go_ret
    exact ⟨rfl, hB5⟩
  · have hxyb : (x != y) = true := by simpa using hxy
    clear hsame hxy
    go_wp2_with fail
    go_ret
    exact ⟨rfl, hB5⟩
end Go.Proofs.Ythoohhokoeihiab

namespace Go.Proofs.Ythoohhokoeihiab
open Go.ChangeShapes Go.WideShapes Go.ChangeAt Go.RowKit Go.Joins
set_option linter.unusedVariables false
set_option linter.unusedSimpArgs false
theorem pcell_lt {w : World} {a : Addr} {v : Value} (h : w.cell? a = some v) : a.block < w.heap.size := by
  obtain ⟨e, n, hs, _⟩ := World.shape?_of_cell? h
  unfold World.shape? at hs
  cases hb : w.heap[a.block]? with
  | none => simp [hb] at hs
  | some o => exact (Array.getElem?_eq_some_iff.1 hb).1
set_option maxRecDepth 100000 in
theorem open_names {H : Type} {enc : TypeId × Value → H} {W : World} {a0 : Option Addr} {len cap fuel : Nat} {x : DataW H × List MemPlace}
    (hf : DataW.trod enc Try.prog W 0 (fun _ => true) true fuel 22 [.slice a0 len cap] = some x) (hsz : ∀ n ∈ x.1.weights Try.prog 22, n ≤ reachBytes) :
    ∃ N : List ByteArray, N.length = len ∧ IsN W a0 N ∧ len * 16 ≤ 140737488351232 ∧ (∀ s ∈ N, s.size ≤ 9223372036854775807) ∧ (a0 = none → len = 0 ∧ cap = 0) ∧ len ≤ cap := by
  rcases open_strings Try.underlying22 Try.underlying9 (show Try.prog.cellsOf 9 = 1 by kernel_rfl) hf with ⟨hcs, hx⟩ | ⟨a, len', cap', ss, hcs, _, hl, hm, hz, hx, hcell, hss⟩
  · simp at hcs
    obtain ⟨rfl, rfl, rfl⟩ := hcs
    exact ⟨[], rfl, .inl rfl, by omega, by simp, fun _ => ⟨rfl, rfl⟩, Nat.le_refl _⟩
  · simp at hcs
    obtain ⟨rfl, rfl, rfl⟩ := hcs
    subst hx
    simp only [if_true] at hz
    have hu := Try.underlying22
    have hby : Try.prog.bytesOf 9 = 16 := by kernel_rfl
    have hw0 := hsz (((strs (H := H) (ss.take len)).length + (strs (H := H) (ss.drop len)).length) * Try.prog.bytesOf 9) (by simp [DataW.weights, hu])
    rw [hby] at hw0
    have hlen4 : len * 16 ≤ 140737488351232 := by
      unfold reachBytes at hw0
      simp [strs] at hw0
      omega
    refine ⟨ss.take len, by simp; omega, ?_, hlen4, fun s hs => ?_, fun h => (by cases h), hl⟩
    · by_cases h0 : len = 0
      · exact .inl (by simp [h0])
      · right
        obtain ⟨b, off, spot⟩ := a
        have hspot : spot = none := by simpa [Addr.add] using World.cell?_spot (hcell 0 (by omega))
        subst hspot
        refine ⟨b, off, rfl, pcell_lt (hcell 0 (by omega)), fun j x hj => ?_⟩
        have hjl : j < len := by
          have := (List.getElem?_eq_some_iff.1 hj).1
          simp at this
          omega
        have h := hcell j (by omega)
        rw [Addr.add_mid] at h
        rw [h]
        rw [List.getElem?_take_of_lt hjl] at hj
        simp [List.getD, hj]
    · have := hss s (List.take_subset _ _ hs)
      unfold maxLen at this
      omega
end Go.Proofs.Ythoohhokoeihiab
