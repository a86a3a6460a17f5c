/- Slices of texts, two texts, a path as arguments, opened: no condition but that they are ones. -/
import Derived.Test.YthoohhokoeihiaaHPaParse2
import Derived.BigQuiet
import Derived.Deep.QuietTactic
import Derived.Shelf.Strings.OnBuilder
import Derived.Shelf.Slices.Equal
import Derived.Shelf.Slices.Clone
import Derived.Shelf.Slices.Empties2
import Derived.Test.YthoohhokoeihiaaProg
import Derived.Lib.FJoinFns
import Derived.Laws.AppendOwnNone
import Derived.Test.YthoohhokoeihiaaRows
import Derived.WalkKit
import Derived.ProofKit
import Derived.OpenShut
import Derived.Carry
import Derived.SliceStrings
import Derived.Lib.SmallJoins
import Derived.SizedLaws

namespace Go.Proofs.Ythoohhokoeihiaa
open Go Go.RowKit Go.Shelf
set_option linter.unusedVariables false
set_option linter.unusedSimpArgs false
/-- a slice at a holds these texts -/
def IsN (w : World) (a : Option Addr) (N : List ByteArray) : Prop := N = [] ∨ ∃ g o, a = some ⟨g, o, none⟩ ∧ g < w.heap.size ∧ ∀ j x, N[j]? = some x → w.cell? ⟨g, o + j, none⟩ = some (.string x)
theorem IsN.below {w w' : World} {a : Option Addr} {N : List ByteArray} (h : IsN w a N) (hb : Below w.heap.size w w') : IsN w' a N := by
  rcases h with h | ⟨g, o, rfl, hg, hc⟩
  · exact .inl h
  · exact .inr ⟨g, o, rfl, Nat.lt_of_lt_of_le hg hb.size, fun j x hj => (hb.cell (p := ⟨g, o + j, none⟩) hg).trans (hc j x hj)⟩
theorem IsN.at {w : World} {a : Option Addr} {N : List ByteArray} (h : IsN w a N) {j : Nat} (hj : j < N.length) : ∃ g o, a = some ⟨g, o, none⟩ ∧ g < w.heap.size ∧ w.cell? ⟨g, o + j, none⟩ = some (.string N[j]) := by
  rcases h with rfl | ⟨g, o, rfl, hg, hc⟩
  · simp at hj
  · exact ⟨g, o, rfl, hg, hc j _ (List.getElem?_eq_getElem hj)⟩
theorem IsN.take {w : World} {a : Option Addr} {N : List ByteArray} (h : IsN w a N) (k : Nat) : IsN w a (N.take k) := by
  rcases h with rfl | ⟨g, o, rfl, hg, hc⟩
  · exact .inl (by simp)
  · refine .inr ⟨g, o, rfl, hg, fun j x hj => hc j x ?_⟩
    rw [List.getElem?_take] at hj
    split at hj
    · exact hj
    · cases hj
/-- an own slice of texts -/
theorem own_isN {w : World} {B n : Nat} {a : Option Addr} {m c : Nat} {N : List ByteArray} (h : w.ownsRow B 9 1 (.slice a m c) n (N.map Value.string)) : IsN w a N := by
  rcases h.2 with ⟨hv, hn⟩ | ⟨g, cap, cur, hv, hB, hg, hrest⟩
  · left
    have := h.1
    rw [hn] at this
    simpa using this
  · right
    cases hv
    refine ⟨g, 0, rfl, (Array.getElem?_eq_some_iff.1 hg).1, fun j x hj => ?_⟩
    have hl := (List.getElem?_eq_some_iff.1 hj).1
    have hn := h.1
    rw [List.length_map, Nat.mul_one] at hn
    rw [Nat.zero_add, h.cellAt j (by omega), List.getElem?_map, hj]
    rfl
set_option maxRecDepth 100000 in
set_option maxHeartbeats 4000000 in
theorem is18_any (s : ByteArray) (hs : s.size ≤ 9223372036854775807) (w : World) :
    Calls Try.prog 33 #[.string s] w fun e w' => e = .returned (.bool (isName s.data.toList)) ∧ w' = w := by
  have HTL : Hid (s.toList = s.data.toList) := Lib.toList_data s
  have HSL : Hid (s.size = s.data.toList.length) := Lib.size_eq s
  generalize hm : isName s.data.toList = m
  have HM : Hid (isName s.data.toList = m) := hm
  clear hm
  go_enter Try.func33, Try.ntmps33
  go_wp2_with fail
  go_loop [3] (fun v => Hid (∃ i : Nat, i ≤ s.size ∧ v = .int .i64 (i : Int) ∧ Cln s.data.toList i)) (fun v => s.size - (intOf v).toNat)
  case atStart => exact ⟨0, by omega, rfl, fun j b hj => by omega⟩
  case round =>
    obtain ⟨i, hin, rfl, hcl⟩ := Hid.out hrel
    have HCL : Hid (Cln s.data.toList i) := hcl
    clear hrel hcl
    by_cases hi : i < s.size
    · have hiz : (i : Int) < (s.size : Int) := by omega
      have hxl := Lib.data_getElem? s i hi
      obtain ⟨x, hx⟩ : ∃ x : UInt8, s[i]'hi = x := ⟨_, rfl⟩
      rw [hx] at hxl
      have HX : Hid (s.data.toList[i]? = some x) := hxl
      clear hxl
      by_cases x0 : x = 0
      · have b0 : ((x.toNat : Int) == 0) = true := by rw [x0]; rfl
        obtain rfl : m = false := HM.out ▸ isName_bad (Or.inr (Or.inr (Or.inr (Or.inr (has2_yes HX.out (Or.inl x0))))))
        clear x0
        go_wp2_with fail
        go_ret
        exact ⟨rfl, rfl⟩
      · have b0 : ((x.toNat : Int) == 0) = false := ubeq_ne x0
        by_cases x1 : x = 47
        · have b1 : ((x.toNat : Int) == 47) = true := by rw [x1]; rfl
          obtain rfl : m = false := HM.out ▸ isName_bad (Or.inr (Or.inr (Or.inr (Or.inr (has2_yes HX.out (Or.inr x1))))))
          clear x1 x0
          go_wp2_with fail
          go_ret
          exact ⟨rfl, rfl⟩
        · have b1 : ((x.toNat : Int) == 47) = false := ubeq_ne x1
          have HN : Hid (Cln s.data.toList (i + 1)) := HCL.out.one HX.out x0 x1
          clear x0 x1
          go_wp2_with fail
          go_round
          case rel => exact ⟨i + 1, by omega, by first | rfl | go_num | simp, HN.out⟩
          case measure => simp [intOf]; omega
    · obtain rfl : i = s.size := by omega
      have hiz : ¬ ((s.size : Int) < (s.size : Int)) := by omega
      have h4 := has2_no (l := s.data.toList) (by rw [← HSL.out]; exact HCL.out)
      have HV : Hid (∀ {b0 b1 b2 b3 : Bool}, (s.toList == []) = b0 → (s.toList == [46]) = b1 → (s.toList == [46, 46]) = b2 → decide (56 < s.size) = b3 → m = (!b0 && !b1 && !b2 && !b3)) := by
        intro b0 b1 b2 b3 e0 e1 e2 e3
        rw [← HM.out]
        unfold isName
        rw [h4, ← HSL.out, e3, ← HTL.out, e0, e1, e2]
        simp
      clear h4
      by_cases u0 : s.toList = []
      · have z0 : s.size = 0 := by rw [HSL.out, ← HTL.out, u0]; rfl
        have := HV.out (b1 := false) (b2 := false) (b3 := false) (b0 := true) (by rw [u0]; rfl) (by rw [u0]; rfl) (by rw [u0]; rfl) (by rw [z0]; rfl)
        obtain rfl : m = false := this
        go_wp2_with fail
        go_ret
        exact ⟨rfl, rfl⟩
      have q0 : s.toList.isEmpty = false := by simpa using u0
      have e0 : (s.toList == []) = false := by rw [beq_eq_false_iff_ne]; exact u0
      by_cases u3 : 56 < s.size
      · have z3 : ¬ (s.size : Int) ≤ 56 := by omega
        have := HV.out (b0 := false) (b3 := true) e0 rfl rfl (by rw [decide_eq_true u3])
        obtain rfl : m = false := by rw [this]; simp
        clear this
        go_wp2_with fail
        go_ret
        exact ⟨rfl, rfl⟩
      have z3 : (s.size : Int) ≤ 56 := by omega
      by_cases u1 : s.toList = [46]
      · have := HV.out (b0 := false) (b1 := true) e0 (by rw [u1]; rfl) rfl rfl
        obtain rfl : m = false := by rw [this]; simp
        clear this e0 q0
        go_wp2_with fail
        go_ret
        exact ⟨rfl, rfl⟩
      have e1 : (s.toList == [46]) = false := by rw [beq_eq_false_iff_ne]; exact u1
      by_cases u2 : s.toList = [46, 46]
      · have := HV.out (b0 := false) (b1 := false) (b2 := true) e0 e1 (by rw [u2]; rfl) rfl
        obtain rfl : m = false := by rw [this]; simp
        clear this e0 q0 e1
        go_wp2_with fail
        go_ret
        exact ⟨rfl, rfl⟩
      have e2 : (s.toList == [46, 46]) = false := by rw [beq_eq_false_iff_ne]; exact u2
      have := HV.out (b3 := false) e0 e1 e2 (by rw [decide_eq_false u3])
      obtain rfl : m = true := by rw [this]; simp
      clear this
      go_wp2_with fail
      go_ret
      exact ⟨rfl, rfl⟩
set_option maxRecDepth 100000 in
set_option maxHeartbeats 4000000 in
theorem same18_any {w : World} {a b : Option Addr} {c d : Nat} {N M : List ByteArray} (hN : IsN w a N) (hM : IsN w b M) (h1 : N.length ≤ 9223372036854775807) (h2 : M.length ≤ 9223372036854775807) :
    Calls Try.prog 19 #[.slice a N.length c, .slice b M.length d] w fun e w' => e = .returned (.bool (decide (N = M))) ∧ Below w.heap.size w w' := by
  by_cases hl : N.length = M.length
  · obtain ⟨m, hm⟩ : ∃ m, decide (N = M) = m := ⟨_, rfl⟩
    rw [hm]
    have HM : Hid (decide (N = M) = m) := hm
    obtain ⟨n, hn⟩ : ∃ n, N.length = n := ⟨_, rfl⟩
    have hn2 : M.length = n := hl.symm.trans hn
    rw [hn] at h1 ⊢
    rw [hn2]
    have HN : Hid (IsN w a N) := hN
    have HM2 : Hid (IsN w b M) := hM
    have HL : Hid (N.length = n ∧ M.length = n) := ⟨hn, hn2⟩
    clear hm hN hM hn hn2 hl h2
    go_enter Try.func19, Try.ntmps19
    go_wp2_with fail
    go_loopw [13] (fun v wr => Hid (∃ i : Nat, i ≤ n ∧ v = .int .i64 (i : Int) ∧ (∀ j, j < i → N[j]? = M[j]?) ∧ Below w.heap.size w wr)) (fun v wr => n - (intOf v).toNat)
    case atStart => exact ⟨0, by omega, rfl, fun j hj => by omega, Below.refl _ _⟩
    case round =>
      obtain ⟨i, hin, rfl, hcl, hb⟩ := Hid.out hrel
      have HCL : Hid ((∀ j, j < i → N[j]? = M[j]?) ∧ Below w.heap.size w wr) := ⟨hcl, hb⟩
      clear hrel hcl
      by_cases hi : i < n
      · have hiz : (i : Int) < (n : Int) := by omega
        have hi0 : (0 : Int) ≤ (i : Int) := by omega
        obtain ⟨g, o, rfl, hg, hc⟩ := (HN.out.below hb).at (j := i) (by rw [HL.out.1]; exact hi)
        obtain ⟨g2, o2, rfl, hg2, hc2⟩ := (HM2.out.below hb).at (j := i) (by rw [HL.out.2]; exact hi)
        obtain ⟨x, hx⟩ : ∃ x, N[i]'(by rw [HL.out.1]; exact hi) = x := ⟨_, rfl⟩
        obtain ⟨y, hy⟩ : ∃ y, M[i]'(by rw [HL.out.2]; exact hi) = y := ⟨_, rfl⟩
        rw [hx] at hc
        rw [hy] at hc2
        have HXY : Hid (N[i]? = some x ∧ M[i]? = some y) := ⟨by rw [← hx]; exact List.getElem?_eq_getElem _, by rw [← hy]; exact List.getElem?_eq_getElem _⟩
        clear hx hy hb
        have hcd : ∀ k, (wr.drewN k).cell? ⟨g, o + i, none⟩ = some (.string x) := fun k => hc
        have hcd2 : ∀ k, (wr.drewN k).cell? ⟨g2, o2 + i, none⟩ = some (.string y) := fun k => hc2
        by_cases hxy : x = y
        · subst hxy
          have ht : (x.toList == x.toList) = true := by simp
          have HS : Hid (∀ j, j < i + 1 → N[j]? = M[j]?) := fun j hj => by
            rcases Nat.lt_succ_iff_lt_or_eq.1 hj with h | rfl
            · exact HCL.out.1 j h
            · rw [HXY.out.1, HXY.out.2]
          go_wp2_with fail
          go_quiet (fail)
          go_wp2_with fail
          go_roundw
          case rel => exact ⟨i + 1, by omega, by first | rfl | go_num | simp, HS.out, bdrewN HCL.out.2 _⟩
          case measure => simp [intOf]; omega
        · have ht : (x.toList == y.toList) = false := by
            rw [beq_eq_false_iff_ne]
            intro e
            rw [Lib.toList_data, Lib.toList_data] at e
            exact hxy (ba_ext e)
          obtain rfl : m = false := by
            rw [← HM.out]
            refine decide_eq_false fun e => hxy ?_
            have := HXY.out.1
            rw [e, HXY.out.2] at this
            injection this with this
            exact this.symm
          clear hxy
          go_wp2_with fail
          go_quiet (fail)
          go_wp2_with fail
          go_ret
          exact ⟨rfl, bdrewN HCL.out.2 _⟩
      · obtain rfl : i = n := by omega
        have hiz : ¬ (i : Int) < (i : Int) := by omega
        obtain rfl : m = true := by
          rw [← HM.out]
          refine decide_eq_true (List.ext_getElem? fun j => ?_)
          by_cases hj : j < i
          · exact HCL.out.1 j hj
          · rw [List.getElem?_eq_none (by rw [HL.out.1]; omega), List.getElem?_eq_none (by rw [HL.out.2]; omega)]
        go_wp2_with fail
        go_ret
        exact ⟨rfl, HCL.out.2⟩
  · have hz : ¬ (N.length : Int) = (M.length : Int) := by omega
    rw [decide_eq_false (fun e => hl (by rw [e]))]
    go_enter Try.func19, Try.ntmps19
    go_wp2_with fail
    go_ret
    exact ⟨rfl, Below.refl _ _⟩
end Go.Proofs.Ythoohhokoeihiaa

namespace Go.Proofs
open Go.Shelf
def Try.joinA_ren : Go.Shelf.Ren := ⟨fun | 156 => 41 | 165 => 50 | 166 => 51 | 169 => 52 | 240 => 57 | 241 => 58 | 276 => 64 | 277 => 65 | n => n, fun | 31 => 23 | 9 => 9 | 3 => 3 | 4 => 4 | 0 => 0 | 20 => 20 | 72 => 77 | 76 => 81 | 70 => 74 | 37 => 75 | 75 => 80 | 127 => 84 | 164 => 99 | 5 => 5 | 80 => 83 | n => n, fun | n => n⟩
theorem Try.joinA : Go.Proofs.Lays.n156 Try.prog Try.joinA_ren := {
  mixed := by kernel_rfl
  f156 := Try.func41.trans (congrArg some (by kernel_rfl))
  f165 := Try.func50.trans (congrArg some (by kernel_rfl))
  f166 := Try.func51.trans (congrArg some (by kernel_rfl))
  f169 := Try.func52.trans (congrArg some (by kernel_rfl))
  f240 := Try.func57.trans (congrArg some (by kernel_rfl))
  f241 := Try.func58.trans (congrArg some (by kernel_rfl))
  f276 := Try.func64.trans (congrArg some (by kernel_rfl))
  f277 := Try.func65.trans (congrArg some (by kernel_rfl))
  t0 := Try.underlying0
  a0 := Try.isAgg0
  z0 := Try.sizeOf0
  v0 := Try.zeroValue0
  t3 := Try.underlying3
  a3 := Try.isAgg3
  z3 := Try.sizeOf3
  v3 := Try.zeroValue3
  t4 := Try.underlying4
  a4 := Try.isAgg4
  z4 := Try.sizeOf4
  v4 := Try.zeroValue4
  t9 := Try.underlying9
  a9 := Try.isAgg9
  z9 := Try.sizeOf9
  v9 := Try.zeroValue9
  t20 := Try.underlying20
  a20 := Try.isAgg20
  z20 := Try.sizeOf20
  v20 := Try.zeroValue20
  t31 := Try.underlying23
  a31 := Try.isAgg23
  z31 := Try.sizeOf23
  v31 := Try.zeroValue23
  t37 := Try.underlying75
  a37 := Try.isAgg75
  z37 := Try.sizeOf75
  v37 := Try.zeroValue75
  t70 := Try.underlying74
  a70 := Try.isAgg74
  z70 := Try.sizeOf74
  v70 := Try.zeroValue74
  t72 := Try.underlying77
  a72 := Try.isAgg77
  z72 := Try.sizeOf77
  v72 := Try.zeroValue77
  t75 := Try.underlying80
  a75 := Try.isAgg80
  z75 := Try.sizeOf80
  v75 := Try.zeroValue80
  t76 := Try.underlying81
  a76 := Try.isAgg81
  z76 := Try.sizeOf81
  v76 := Try.zeroValue81
  t127 := Try.underlying84
  a127 := Try.isAgg84
  z127 := Try.sizeOf84
  v127 := Try.zeroValue84
  t164 := Try.underlying99
  a164 := Try.isAgg99
  z164 := Try.sizeOf99
  v164 := Try.zeroValue99 }
end Go.Proofs

namespace Go.Proofs.Ythoohhokoeihiaa
open Go Go.RowKit Go.Shelf
set_option linter.unusedVariables false
set_option linter.unusedSimpArgs false
/-- at most 32 names -/
def GoodN (N : List ByteArray) : Prop := N.length ≤ 32 ∧ ∀ x ∈ N, isName x.data.toList = true
theorem GoodN.nil : GoodN [] := ⟨by simp, by simp⟩
theorem GoodN.drop {N : List ByteArray} (h : GoodN N) : GoodN N.dropLast := ⟨by have := h.1; simp; omega, fun x hx => h.2 x (List.dropLast_subset N hx)⟩
theorem GoodN.take {N : List ByteArray} (h : GoodN N) (k : Nat) : GoodN (N.take k) := ⟨by have := h.1; simp; omega, fun x hx => h.2 x (List.take_subset k N hx)⟩
/-- the one form -/
def frmL (N : List ByteArray) : List UInt8 := 47 :: Lib.join (N.map (·.data.toList)) [47]
/-- a slash ahead of each -/
def accN (N : List ByteArray) : List UInt8 := Lib.joinTail [47] (N.map (·.data.toList))
theorem frm_acc {N : List ByteArray} (h : N ≠ []) : frmL N = accN N := by
  cases N with
  | nil => exact absurd rfl h
  | cons x N =>
    unfold frmL accN
    rw [List.map_cons, Lib.join_cons]
    simp [Lib.joinTail]
theorem frm_nil : frmL [] = [47] := rfl
theorem acc_snoc (N : List ByteArray) (x : ByteArray) : accN (N ++ [x]) = accN N ++ 47 :: x.data.toList := by
  unfold accN
  simp [Lib.joinTail]
theorem acc_len : ∀ N : List ByteArray, (accN N).length = N.length + (N.map fun x => x.size).sum
  | [] => rfl
  | x :: N => by
    have ih := acc_len N
    unfold accN at ih ⊢
    simp only [Lib.joinTail, List.map_cons, List.flatten_cons, List.length_append, List.length_cons, List.sum_cons, List.length_nil, Lib.size_eq] at ih ⊢
    omega
theorem sum_le : ∀ (N : List ByteArray), (∀ x ∈ N, isName x.data.toList = true) → (N.map fun x => x.size).sum ≤ 56 * N.length
  | [], _ => by simp
  | x :: N, h => by
    have ih := sum_le N fun y hy => h y (List.mem_cons_of_mem _ hy)
    have := (isName_len (h x (by simp))).2
    rw [← Lib.size_eq] at this
    simp only [List.map_cons, List.sum_cons, List.length_cons]
    omega
theorem good_len {N : List ByteArray} (h : GoodN N) : (accN N).length ≤ 1824 := by
  have := sum_le N h.2
  have := h.1
  rw [acc_len]
  omega
theorem frm_len {N : List ByteArray} (h : GoodN N) : (frmL N).length ≤ 1824 := by
  by_cases hN : N = []
  · rw [hN, frm_nil]; decide
  · rw [frm_acc hN]; exact good_len h
theorem jn_len {N : List ByteArray} (h : GoodN N) : (Lib.join (N.map (·.data.toList)) [47]).length ≤ 1824 := by
  have := frm_len h
  unfold frmL at this
  rw [List.length_cons] at this
  omega
theorem bx_join : Builder.Extra Try.prog Try.joinA_ren where
  sizeBuilder := by kernel_rfl
  liesBuilder := by kernel_rfl
  t5 := Try.underlying5
  a5 := Try.isAgg5
  z5 := Try.sizeOf5
  v5 := Try.zeroValue5
  infoByte := by kernel_rfl
  cellsByte := by kernel_rfl
  sizeByte := by kernel_rfl
  neB5 := by decide
theorem join_any {w : World} {a : Option Addr} {N : List ByteArray} {c : Nat} (hN : IsN w a N) (hc : N.length ≤ c) (hl : N.length ≤ 1000000) (hj : (Lib.join (N.map (·.data.toList)) [47]).length ≤ 1000000) :
    Calls Try.prog 41 #[.slice a N.length c, .string ⟨#[47]⟩] w fun e w' => e = .returned (.string (bsL (Lib.join (N.map (·.data.toList)) [47]))) ∧ Below w.heap.size w w' := by
  rcases hN with rfl | ⟨g, o, rfl, hg, hcs⟩
  · refine (Any.strings_Join_none Try.joinA bx_join a c ⟨#[47]⟩ w).mono ?_
    rintro e w' ⟨rfl, rfl⟩
    exact ⟨rfl, Below.refl _ _⟩
  · exact Any.strings_Join Try.joinA bx_join g o c N ⟨#[47]⟩ w hcs hg (by omega) hc (by show (Lib.join (N.map (·.data.toList)) [47]).length ≤ _; omega)
theorem bs_cat (a b : List UInt8) : bsL a ++ bsL b = bsL (a ++ b) := by
  apply ba_ext
  rw [bsL_data]
  show (ByteArray.append (bsL a) (bsL b)).data.toList = _
  rw [show ByteArray.append (bsL a) (bsL b) = bsL a ++ bsL b from rfl]
  simp [bsL]
set_option maxRecDepth 100000 in
set_option maxHeartbeats 4000000 in
theorem oneForm_any {w : World} {a : Option Addr} {N : List ByteArray} {c : Nat} (hN : IsN w a N) (hc : N.length ≤ c) (hG : GoodN N) :
    Calls Try.prog 34 #[.slice a N.length c] w fun e w' => e = .returned (.string (bsL (frmL N))) ∧ Below w.heap.size w w' := by
  have hjl := jn_len hG
  have HX : Hid (Calls Try.prog 41 #[.slice a N.length c, .string ⟨#[47]⟩] w fun e w' => e = .returned (.string (bsL (Lib.join (N.map (·.data.toList)) [47]))) ∧ Below w.heap.size w w') := join_any hN hc (by have := hG.1; omega) (by omega)
  have he : (⟨#[47]⟩ : ByteArray) ++ bsL (Lib.join (N.map (·.data.toList)) [47]) = bsL (frmL N) := bs_cat [47] _
  have hz : (bsL (Lib.join (N.map (·.data.toList)) [47])).size = (Lib.join (N.map (·.data.toList)) [47]).length := bsL_size _
  generalize bsL (Lib.join (N.map (·.data.toList)) [47]) = p at *
  have hps : p.size ≤ 1824 := by rw [hz]; exact hjl
  have h1 : (⟨#[47]⟩ : ByteArray).size = 1 := rfl
  clear hN hG hz hjl
  generalize bsL (frmL N) = q at *
  go_enter Try.func34, Try.ntmps34
  go_wp2_with fail
  refine HX.out.mono ?_
  rintro e w9 ⟨rfl, hw9⟩
  go_wp2_with fail
  go_ret
  exact ⟨by first | rfl | rw [he], hw9⟩
set_option maxRecDepth 100000 in
set_option maxHeartbeats 4000000 in
theorem form18_any {w : World} {a : Option Addr} {N : List ByteArray} {c : Nat} (hN : IsN w a N) (hG : GoodN N) :
    Calls Try.prog 14 #[.slice a N.length c] w fun e w' => e = .returned (.string (bsL (frmL N))) ∧ w' = w := by
  by_cases h0 : N = []
  · subst h0
    go_enter Try.func14, Try.ntmps14
    go_wp2_with fail
    go_ret
    exact ⟨rfl, rfl⟩
  · rw [frm_acc h0]
    have HN : Hid (IsN w a N) := hN
    have HG : Hid (GoodN N) := hG
    obtain ⟨n, hn⟩ : ∃ n, N.length = n := ⟨_, rfl⟩
    have HL : Hid (N.length = n) := hn
    have hn0 : ¬ (n : Int) = 0 := by have := List.length_pos_iff.2 h0; omega
    have hn32 : n ≤ 32 := by rw [← hn]; exact hG.1
    rw [hn]
    obtain ⟨r, hr⟩ : ∃ r, bsL (accN N) = r := ⟨_, rfl⟩
    rw [hr]
    have HR : Hid (bsL (accN N) = r) := hr
    clear hn hr hN hG h0
    go_enter Try.func14, Try.ntmps14
    go_wp2_with fail
    go_loop [3, 11] (fun u v => Hid (∃ i : Nat, i ≤ n ∧ v = .int .i64 (i : Int) ∧ u = .string (bsL (accN (N.take i))))) (fun u v => n - (intOf v).toNat)
    case atStart => exact ⟨0, by omega, rfl, rfl⟩
    case round =>
      obtain ⟨i, hin, rfl, rfl⟩ := Hid.out hrel
      clear hrel
      by_cases hi : i < n
      · have hiz : (i : Int) < (n : Int) := by omega
        have hi0 : (0 : Int) ≤ (i : Int) := by omega
        have hiN : i < N.length := by rw [HL.out]; exact hi
        obtain ⟨g, o, rfl, hg, hc⟩ := HN.out.at (j := i) hiN
        have hxs : (N[i]'hiN).size ≤ 56 := by rw [Lib.size_eq]; exact (isName_len (HG.out.2 _ (List.getElem_mem hiN))).2
        have hsn : N.take (i + 1) = N.take i ++ [N[i]'hiN] := (List.take_append_getElem hiN).symm
        obtain ⟨x, hx⟩ : ∃ x, N[i]'hiN = x := ⟨_, rfl⟩
        rw [hx] at hc hxs hsn
        have hcat : bsL (accN (N.take i)) ++ ((⟨#[47]⟩ : ByteArray) ++ x) = bsL (accN (N.take (i + 1))) := by
          rw [hsn, acc_snoc]
          have e1 : (⟨#[47]⟩ : ByteArray) ++ x = bsL (47 :: x.data.toList) := by
            have := bs_cat [47] x.data.toList
            rw [bsL_of] at this
            exact this
          rw [e1, bs_cat]
        have ha : (bsL (accN (N.take i))).size ≤ 1824 := by rw [bsL_size]; exact good_len (HG.out.take i)
        obtain ⟨q, hq⟩ : ∃ q, bsL (accN (N.take i)) = q := ⟨_, rfl⟩
        rw [hq] at hcat ha
        have HC : Hid (q ++ ((⟨#[47]⟩ : ByteArray) ++ x) = bsL (accN (N.take (i + 1)))) := hcat
        have h1 : (⟨#[47]⟩ : ByteArray).size = 1 := rfl
        have h2 : ((⟨#[47]⟩ : ByteArray) ++ x).size = 1 + x.size := by rw [ByteArray.size_append]; rfl
        rw [hq]
        clear hsn hx hcat hq
        go_wp2_with fail
        go_round
        case rel => exact ⟨i + 1, by omega, by first | rfl | go_num | simp, by rw [← HC.out]⟩
        case measure => simp [intOf]; omega
      · obtain rfl : i = n := by omega
        have hiz : ¬ (i : Int) < (i : Int) := by omega
        have he : bsL (accN (N.take i)) = r := by rw [List.take_of_length_le (by rw [HL.out]; exact Nat.le_refl _)]; exact HR.out
        rw [he]
        go_wp2_with fail
        go_ret
        exact ⟨rfl, rfl⟩
end Go.Proofs.Ythoohhokoeihiaa

namespace Go.Proofs.Ythoohhokoeihiaa
open Go Go.RowKit Go.Shelf
set_option linter.unusedVariables false
set_option linter.unusedSimpArgs false
/-- what Print answers: text, place, error -/
inductive PrtIs (N : List ByteArray) : ByteArray → Nat → Int → Prop
  | bad (i : Nat) (x : ByteArray) (hx : N[i]? = some x) (hb : isName x.data.toList = false) (hl : ∀ j y, j < i → N[j]? = some y → isName y.data.toList = true) : PrtIs N ⟨#[]⟩ i 130
  | deep (ha : ∀ y ∈ N, isName y.data.toList = true) (hd : 32 < N.length) : PrtIs N ⟨#[]⟩ 32 182
  | long (hg : GoodN N) (hl : 1024 < (frmL N).length) : PrtIs N ⟨#[]⟩ 0 181
  | ok (hg : GoodN N) (hl : (frmL N).length ≤ 1024) : PrtIs N (bsL (frmL N)) 0 0
theorem prt_ex (N : List ByteArray) : ∃ t i e, PrtIs N t i e := by
  by_cases h : ∀ y ∈ N, isName y.data.toList = true
  · by_cases hd : 32 < N.length
    · exact ⟨_, _, _, .deep h hd⟩
    · have hg : GoodN N := ⟨by omega, h⟩
      by_cases hl : 1024 < (frmL N).length
      · exact ⟨_, _, _, .long hg hl⟩
      · exact ⟨_, _, _, .ok hg (by omega)⟩
  · have : ∃ i : Nat, ∃ x : ByteArray, N[i]? = some x ∧ isName x.data.toList = false := by
      obtain ⟨y, hy⟩ := Classical.not_forall.1 h
      obtain ⟨hy1, hy2⟩ := Classical.not_imp.1 hy
      obtain ⟨i, hi, e⟩ := List.getElem_of_mem hy1
      exact ⟨i, y, by rw [← e]; exact List.getElem?_eq_getElem hi, by simpa using hy2⟩
    obtain ⟨i, ⟨x, hx, hb⟩, hl⟩ : ∃ i : Nat, (∃ x : ByteArray, N[i]? = some x ∧ isName x.data.toList = false) ∧ ∀ j, j < i → ¬ (∃ x : ByteArray, N[j]? = some x ∧ isName x.data.toList = false) := by
      obtain ⟨i, hi⟩ := this
      induction i using Nat.strongRecOn with
      | _ i ih =>
        by_cases h2 : ∃ j, j < i ∧ ∃ x : ByteArray, N[j]? = some x ∧ isName x.data.toList = false
        · obtain ⟨j, hj, hx⟩ := h2
          exact ih j hj hx
        · exact ⟨i, hi, fun j hj hx => h2 ⟨j, hj, hx⟩⟩
    exact ⟨_, _, _, .bad i x hx hb fun j y hj hy => by
      cases hn : isName y.data.toList
      · exact absurd ⟨y, hy, hn⟩ (hl j hj)
      · rfl⟩
theorem prt_at {N : List ByteArray} {t : ByteArray} {i : Nat} {e : Int} (h : PrtIs N t i e) {k : Nat} {x : ByteArray} (hx : N[k]? = some x) (hb : isName x.data.toList = false) (hl : ∀ j y, j < k → N[j]? = some y → isName y.data.toList = true) : t = ⟨#[]⟩ ∧ i = k ∧ e = 130 := by
  have hm : x ∈ N := List.mem_of_getElem? hx
  cases h with
  | bad i x' hx' hb' hl' =>
    refine ⟨rfl, ?_, rfl⟩
    rcases Nat.lt_trichotomy i k with h | h | h
    · have := hl i x' h hx'; rw [hb'] at this; cases this
    · exact h
    · have := hl' k x h hx; rw [hb] at this; cases this
  | deep ha hd => have := ha x hm; rw [hb] at this; cases this
  | long hg hl' => have := hg.2 x hm; rw [hb] at this; cases this
  | ok hg hl' => have := hg.2 x hm; rw [hb] at this; cases this
theorem prt_all {N : List ByteArray} {t : ByteArray} {i : Nat} {e : Int} (h : PrtIs N t i e) (ha : ∀ y ∈ N, isName y.data.toList = true) : (32 < N.length ∧ t = ⟨#[]⟩ ∧ i = 32 ∧ e = 182) ∨ (GoodN N ∧ 1024 < (frmL N).length ∧ t = ⟨#[]⟩ ∧ i = 0 ∧ e = 181) ∨ (GoodN N ∧ (frmL N).length ≤ 1024 ∧ t = bsL (frmL N) ∧ i = 0 ∧ e = 0) := by
  cases h with
  | bad i x' hx' hb' hl' => have := ha x' (List.mem_of_getElem? hx'); rw [hb'] at this; cases this
  | deep ha hd => exact .inl ⟨hd, rfl, rfl, rfl⟩
  | long hg hl' => exact .inr (.inl ⟨hg, hl', rfl, rfl, rfl⟩)
  | ok hg hl' => exact .inr (.inr ⟨hg, hl', rfl, rfl, rfl⟩)
theorem all_of {N : List ByteArray} {n : Nat} (hn : N.length = n) (h : ∀ j y, j < n → N[j]? = some y → isName y.data.toList = true) : ∀ y ∈ N, isName y.data.toList = true := fun y hy => by
  obtain ⟨j, hj, e⟩ := List.getElem_of_mem hy
  exact h j y (by omega) (by rw [← e]; exact List.getElem?_eq_getElem hj)
set_option maxRecDepth 100000 in
set_option maxHeartbeats 4000000 in
theorem print_any {w : World} {a : Option Addr} {N : List ByteArray} {c : Nat} (hN : IsN w a N) (hc : N.length ≤ c) (h1 : N.length ≤ 9223372036854775807) {t : ByteArray} {i : Nat} {z : Int} (hp : PrtIs N t i z) :
    Calls Try.prog 17 #[.slice a N.length c] w fun e w' => e = .returned (.tuple #[.string t, .int .i64 (i : Int), .int .i64 z]) ∧ Below w.heap.size w w' := by
  obtain ⟨n, hn⟩ : ∃ n, N.length = n := ⟨_, rfl⟩
  have HF : Hid (GoodN N → ∀ V, Below w.heap.size w V → Calls Try.prog 34 #[.slice a n c] V fun e w' => e = .returned (.string (bsL (frmL N))) ∧ Below V.heap.size V w') := fun hg V hV => by
    have := oneForm_any (c := c) (hN.below hV) hc hg
    rwa [hn] at this
  rw [hn] at h1 ⊢
  have HL : Hid (N.length = n) := hn
  have HN : Hid (IsN w a N) := hN
  have HP : Hid (PrtIs N t i z) := hp
  have HK : Hid (∀ (x : ByteArray) (w : World), Calls Try.prog 36 #[.string x] w fun e w' => e = .returned (.int .i64 (if isName x.data.toList = true then 0 else 130)) ∧ Below w.heap.size w w') := fun x w => check_any x w
  clear hN hn hp hc
  go_enter Try.func17, Try.ntmps17
  go_wp2_with fail
  go_loopw [11] (fun v wr => Hid (∃ k : Nat, k ≤ n ∧ v = .int .i64 (k : Int) ∧ (∀ j y, j < k → N[j]? = some y → isName y.data.toList = true) ∧ Below w.heap.size w wr)) (fun v wr => n - (intOf v).toNat)
  case atStart => exact ⟨0, by omega, rfl, fun j y hj => by omega, Below.refl _ _⟩
  case round =>
    obtain ⟨k, hkn, rfl, hcl, hb⟩ := Hid.out hrel
    have HCL : Hid (_ ∧ _) := ⟨hcl, hb⟩
    clear hrel hcl
    by_cases hk : k < n
    · have hkz : (k : Int) < (n : Int) := by omega
      have hk0 : (0 : Int) ≤ (k : Int) := by omega
      have hkN : k < N.length := by rw [HL.out]; exact hk
      obtain ⟨g, o, rfl, hg, hc⟩ := (HN.out.below hb).at (j := k) hkN
      obtain ⟨x, hx⟩ : ∃ x, N[k]'hkN = x := ⟨_, rfl⟩
      rw [hx] at hc
      have HX : Hid (N[k]? = some x) := by show N[k]? = _; rw [← hx]; exact List.getElem?_eq_getElem _
      have HKx := HK.out x
      clear hx hb hkN
      cases hnm : isName x.data.toList
      · obtain ⟨rfl, rfl, rfl⟩ := prt_at HP.out HX.out hnm HCL.out.1
        rw [hnm] at HKx
        simp only [Bool.false_eq_true, if_false] at HKx
        clear hnm
        go_wp2_with fail
        refine (HKx _).mono ?_
        rintro e w2 ⟨rfl, hb2⟩
        go_wp2_with fail
        go_ret3
        exact ⟨rfl, HCL.out.2.trans (hb2.mono HCL.out.2.size)⟩
      · rw [hnm] at HKx
        simp only [if_true] at HKx
        have HS : Hid (∀ j y, j < k + 1 → N[j]? = some y → isName y.data.toList = true) := fun j y hj hy => by
          rcases Nat.lt_succ_iff_lt_or_eq.1 hj with h | rfl
          · exact HCL.out.1 j y h hy
          · rw [HX.out] at hy; injection hy with hy; rw [← hy]; exact hnm
        clear hnm
        go_wp2_with fail
        refine (HKx _).mono ?_
        rintro e w2 ⟨rfl, hb2⟩
        go_wp2_with fail
        go_roundw
        case rel => exact ⟨k + 1, by omega, by first | rfl | go_num | simp, HS.out, HCL.out.2.trans (hb2.mono HCL.out.2.size)⟩
        case measure => simp [intOf]; omega
    · obtain rfl : k = n := by omega
      have hkz : ¬ (k : Int) < (k : Int) := by omega
      have HB : Hid (Below w.heap.size w wr) := hb
      rcases prt_all HP.out (all_of HL.out HCL.out.1) with ⟨hd, rfl, rfl, rfl⟩ | ⟨hg, hl, rfl, rfl, rfl⟩ | ⟨hg, hl, ht, rfl, rfl⟩
      · rw [HL.out] at hd
        have hdz : (32 : Int) < (k : Int) := by omega
        go_wp2_with fail
        go_ret3
        exact ⟨rfl, HB.out⟩
      · have hdz : ¬ (32 : Int) < (k : Int) := by have := hg.1; rw [HL.out] at this; omega
        have HFx := HF.out hg wr HB.out
        have hfl : (1024 : Int) < ((bsL (frmL N)).size : Int) := by rw [bsL_size]; omega
        generalize bsL (frmL N) = q at *
        clear hg hl hb
        go_wp2_with fail
        refine HFx.mono ?_
        rintro e w2 ⟨rfl, hb2⟩
        go_wp2_with fail
        go_ret3
        exact ⟨rfl, HB.out.trans (hb2.mono HB.out.size)⟩
      · have hdz : ¬ (32 : Int) < (k : Int) := by have := hg.1; rw [HL.out] at this; omega
        have HFx := HF.out hg wr HB.out
        have hfl : ¬ (1024 : Int) < ((bsL (frmL N)).size : Int) := by rw [bsL_size]; omega
        rw [← ht] at HFx hfl
        clear hg hl ht hb
        go_wp2_with fail
        refine HFx.mono ?_
        rintro e w2 ⟨rfl, hb2⟩
        go_wp2_with fail
        go_ret3
        exact ⟨rfl, HB.out.trans (hb2.mono HB.out.size)⟩
set_option maxRecDepth 100000 in
set_option maxHeartbeats 4000000 in
theorem rprint_any {w : World} {a : Option Addr} {N : List ByteArray} {c : Nat} (hN : IsN w a N) (hS : ∀ x ∈ N, x.size ≤ 9223372036854775807) (h1 : N.length ≤ 9223372036854775807) {t : ByteArray} {i : Nat} {z : Int} (hp : PrtIs N t i z) :
    Calls Try.prog 18 #[.slice a N.length c] w fun e w' => e = .returned (.tuple #[.string t, .int .i64 (i : Int), .int .i64 z]) ∧ w' = w := by
  obtain ⟨n, hn⟩ : ∃ n, N.length = n := ⟨_, rfl⟩
  have HF : Hid (GoodN N → Calls Try.prog 14 #[.slice a n c] w fun e w' => e = .returned (.string (bsL (frmL N))) ∧ w' = w) := fun hg => by
    have := form18_any (c := c) hN hg
    rwa [hn] at this
  rw [hn] at h1 ⊢
  have HL : Hid (N.length = n) := hn
  have HN : Hid (IsN w a N) := hN
  have HP : Hid (PrtIs N t i z) := hp
  have HSz : Hid (∀ x ∈ N, x.size ≤ 9223372036854775807) := hS
  clear hN hn hp hS
  go_enter Try.func18, Try.ntmps18
  go_wp2_with fail
  go_loop [10] (fun v => Hid (∃ k : Nat, k ≤ n ∧ v = .int .i64 (k : Int) ∧ (∀ j y, j < k → N[j]? = some y → isName y.data.toList = true))) (fun v => n - (intOf v).toNat)
  case atStart => exact ⟨0, by omega, rfl, fun j y hj => by omega⟩
  case round =>
    obtain ⟨k, hkn, rfl, hcl⟩ := Hid.out hrel
    have HCL : Hid (_) := hcl
    clear hrel hcl
    by_cases hk : k < n
    · have hkz : (k : Int) < (n : Int) := by omega
      have hk0 : (0 : Int) ≤ (k : Int) := by omega
      have hkN : k < N.length := by rw [HL.out]; exact hk
      obtain ⟨g, o, rfl, hg, hc⟩ := HN.out.at (j := k) hkN
      obtain ⟨x, hx⟩ : ∃ x, N[k]'hkN = x := ⟨_, rfl⟩
      have hxs : x.size ≤ 9223372036854775807 := HSz.out x (by rw [← hx]; exact List.getElem_mem hkN)
      rw [hx] at hc
      have HX : Hid (N[k]? = some x) := by show N[k]? = _; rw [← hx]; exact List.getElem?_eq_getElem _
      have HKx := is18_any x hxs
      clear hx hkN
      cases hnm : isName x.data.toList
      · obtain ⟨rfl, rfl, rfl⟩ := prt_at HP.out HX.out hnm HCL.out
        rw [hnm] at HKx
        clear hnm
        go_wp2_with fail
        refine (HKx _).mono ?_
        rintro e w2 ⟨rfl, hw2⟩
        subst w2
        go_wp2_with fail
        go_ret3
        exact ⟨rfl, rfl⟩
      · rw [hnm] at HKx
        have HS : Hid (∀ j y, j < k + 1 → N[j]? = some y → isName y.data.toList = true) := fun j y hj hy => by
          rcases Nat.lt_succ_iff_lt_or_eq.1 hj with h | rfl
          · exact HCL.out j y h hy
          · rw [HX.out] at hy; injection hy with hy; rw [← hy]; exact hnm
        clear hnm
        go_wp2_with fail
        refine (HKx _).mono ?_
        rintro e w2 ⟨rfl, hw2⟩
        subst w2
        go_wp2_with fail
        go_round
        case rel => exact ⟨k + 1, by omega, by first | rfl | go_num | simp, HS.out⟩
        case measure => simp [intOf]; omega
    · obtain rfl : k = n := by omega
      have hkz : ¬ (k : Int) < (k : Int) := by omega
      rcases prt_all HP.out (all_of HL.out HCL.out) with ⟨hd, rfl, rfl, rfl⟩ | ⟨hg, hl, rfl, rfl, rfl⟩ | ⟨hg, hl, ht, rfl, rfl⟩
      · rw [HL.out] at hd
        have hdz : (32 : Int) < (k : Int) := by omega
        go_wp2_with fail
        go_ret3
        exact ⟨rfl, rfl⟩
      · have hdz : ¬ (32 : Int) < (k : Int) := by have := hg.1; rw [HL.out] at this; omega
        have HFx := HF.out hg
        have hfl : (1024 : Int) < ((bsL (frmL N)).size : Int) := by rw [bsL_size]; omega
        generalize bsL (frmL N) = q at *
        clear hg hl
        go_wp2_with fail
        refine HFx.mono ?_
        rintro e w2 ⟨rfl, hw2⟩
        subst w2
        go_wp2_with fail
        go_ret3
        exact ⟨rfl, rfl⟩
      · have hdz : ¬ (32 : Int) < (k : Int) := by have := hg.1; rw [HL.out] at this; omega
        have HFx := HF.out hg
        have hfl : ¬ (1024 : Int) < ((bsL (frmL N)).size : Int) := by rw [bsL_size]; omega
        rw [← ht] at HFx hfl
        clear hg hl ht
        go_wp2_with fail
        refine HFx.mono ?_
        rintro e w2 ⟨rfl, hw2⟩
        subst w2
        go_wp2_with fail
        go_ret3
        exact ⟨rfl, rfl⟩
end Go.Proofs.Ythoohhokoeihiaa

namespace Go.Proofs.Ythoohhokoeihiaa
open Go Go.RowKit Go.Shelf
set_option linter.unusedVariables false
set_option linter.unusedSimpArgs false
theorem prs_awake : prs [47, 97, 47, 47, 98, 47, 46, 47, 99, 47, 46, 46, 47, 100] = ([⟨#[97]⟩, ⟨#[98]⟩, ⟨#[100]⟩], false, 0, 0) := by kernel_rfl
set_option maxRecDepth 100000 in
set_option maxHeartbeats 4000000 in
theorem awake18_any (w : World) : Calls Try.prog 9 #[] w fun e w' => e = .returned (.bool true) ∧ Below w.heap.size w w' := by
  have HX : Hid (∀ w : World, Calls Try.prog 10 #[.string ⟨#[47, 97, 47, 47, 98, 47, 46, 47, 99, 47, 46, 46, 47, 100]⟩] w fun e w' => ∃ g cap, e = .returned (.tuple #[.agg #[.slice (some ⟨g, 0, none⟩) 3 cap, .bool false], .int .i64 0, .int .i64 0]) ∧ w'.cell? ⟨g, 2, none⟩ = some (.string ⟨#[100]⟩) ∧ g < w'.heap.size ∧ Below w.heap.size w w') := fun w => by
    refine (parse_any _ w).mono ?_
    rintro e w' ⟨v, he, ho, hb⟩
    have e1 : prs ((⟨#[47, 97, 47, 47, 98, 47, 46, 47, 99, 47, 46, 46, 47, 100]⟩ : ByteArray).data.toList) = ([⟨#[97]⟩, ⟨#[98]⟩, ⟨#[100]⟩], false, 0, 0) := prs_awake
    rw [e1] at he ho
    obtain ⟨g, cap, rfl⟩ := ownsRow_succ ho
    exact ⟨g, cap, he, ho.cellAt 2 (by decide), (ho.lt g rfl).2, hb⟩
  go_enter Try.func9, Try.ntmps9
  go_wp2_with fail
  refine (HX.out _).mono ?_
  rintro e w9 ⟨g, cap, rfl, hc, hg, hb⟩
  have hb2 := hb.alloc hb.size (.cells #[.slice (some ⟨g, 0, none⟩) 3 cap, .bool false] 25)
  have hc2 : (w9.alloc (.cells #[.slice (some ⟨g, 0, none⟩) 3 cap, .bool false] 25)).cell? ⟨g, 2, none⟩ = some (.string ⟨#[100]⟩) := (((Below.refl _ w9).alloc (Nat.le_refl _) _).cell (p := ⟨g, 2, none⟩) hg).trans hc
  go_wp2_with fail
  go_ret
  exact ⟨rfl, hb2⟩
end Go.Proofs.Ythoohhokoeihiaa

namespace Go.Proofs.Ythoohhokoeihiaa
open Go Go.RowKit Go.Shelf
set_option linter.unusedVariables false
set_option linter.unusedSimpArgs false
/-- append([]string{}, names...): an own copy -/
theorem wpList_append_names {P : Program} {ops : Array Oper} {rest : List Oper} {o : Oper} {a : Act} {w : World} {Q : Exit → Act → World → Prop} (hgd : o.guard = none) (s x : Operand) (t : TypeId)
    (ho : o.op = .call { callee := .builtin .append, args := #[s, x], argTypes := #[t, t] }) (B : Nat) (e : TypeId) (i : TypeInfo) (z : Value) (ht : P.underlying t = some (.slice e)) (hi : P.info? e = some i) (hz : i.zero = some z) (hsize : i.size = 1) (hby : i.bytes = 16) (hzs : z.cells.size = 1)
    (v : Value) (hs : a.eval s = v) (hown : w.ownsRow B e 1 v 0 []) (a1 : Option Addr) (c : Nat) (N : List ByteArray) (hx : a.eval x = .slice a1 N.length c) (hA : IsN w a1 N) (hN : a1 = none → N.length = 0 ∧ c = 0) (hn : N.length * 16 ≤ 140737488351232) (hbase : B ≤ w.heap.size)
    (h : ∀ v' w', w'.ownsRow B e 1 v' N.length (N.map Value.string) → Below B w w' → wpList P ops Q rest (a.put o.dst v') w') : wpList P ops Q (o :: rest) a w := by
  cases a1 with
  | none =>
    obtain ⟨h0, rfl⟩ := hN rfl
    have h0' : N = [] := List.length_eq_zero_iff.1 h0
    subst h0'
    exact wpList_append_own_none hgd s x t ho B e i 1 ht hi v 0 [] hs hown hx (h v w hown (Below.refl _ _))
  | some ad =>
    have hv := hown.lt
    refine wpList_append_own w hgd s x t ho B e i z 1 16 ht hi hz hsize hby hzs (by decide) v 0 [] hs hown ad N.length c (N.map Value.string) hx (by simp) (fun j u hu => ?_) (fun u hu => ?_) (by unfold maxLen; omega) (by omega) hbase fun v' w' h1 h2 _ => ?_
    · rw [List.getElem?_map] at hu
      cases hxj : N[j]? with
      | none => rw [hxj] at hu; cases hu
      | some y =>
        rw [hxj] at hu
        injection hu with hu
        rcases hA with rfl | ⟨g, o, e1, _, hc⟩
        · simp at hxj
        · injection e1 with e2
          subst e2
          rw [Addr.add_mid, ← hu]
          exact hc j y hxj
    · obtain ⟨j, _, rfl⟩ := List.mem_map.1 hu
      rfl
    · rw [List.nil_append, Nat.zero_add] at h1
      exact h v' w' h1 ((Below.refl _ _).grown h2 hbase (fun k hk => (hv k hk).1))
theorem own_cap0 {w : World} {B n m c : Nat} {a : Option Addr} {t : TypeId} {xs : List Value} (h : w.ownsRow B t 1 (.slice a m c) n xs) : n ≤ c := by
  rcases h.2 with ⟨hv, hn⟩ | ⟨g, cap, cur, hv, _, _, hc, _⟩
  · omega
  · cases hv; exact hc
set_option maxRecDepth 100000 in
set_option maxHeartbeats 4000000 in
theorem pathPrintsLaw (a : Option Addr) (c : Nat) (N : List ByteArray) (w : World) (hN : IsN w a N) (hn : N.length * 16 ≤ 140737488351232) (hS : ∀ x ∈ N, x.size ≤ 9223372036854775807) (h0 : a = none → N.length = 0 ∧ c = 0) :
    Calls Try.prog 4 #[.slice a N.length c] w fun e w' => e = .returned (.bool true) ∧ Below w.heap.size w w' := by
  obtain ⟨t, i, z, hp⟩ := prt_ex N
  have HP : Hid (PrtIs N t i z) := hp
  have HA : Hid (∀ w : World, Calls Try.prog 9 #[] w fun e w' => e = .returned (.bool true) ∧ Below w.heap.size w w') := awake18_any
  have HS : Hid (∀ x ∈ N, x.size ≤ 9223372036854775807) := hS
  have HN : Hid (IsN w a N) := hN
  have H0 : Hid (a = none → N.length = 0 ∧ c = 0) := h0
  have htt : (t.toList == t.toList) = true := by simp
  have hii : ((i : Int) == (i : Int)) = true := by simp
  have hzz : (z == z) = true := by simp
  obtain ⟨i0, hi0, hz0, hz1, hz2⟩ := info_parts infoStr
  clear hp hS hN h0
  go_enter Try.func4, Try.ntmps4
  go_wp2_with fail
  refine (HA.out _).mono ?_
  rintro e w1 ⟨rfl, hb1⟩
  have al1 := (Below.refl w1.heap.size w1).alloc (Nat.le_refl _) (.cells #[] 9)
  have HEM : Hid ((w1.alloc (.cells #[] 9)).ownsRow w1.heap.size 9 1 (.slice (some ⟨w1.heap.size, 0, none⟩) 0 0) 0 []) := kown_empty (Blk.new w1 9 #[]) (Nat.le_refl _)
  have HN1 : Hid (IsN (w1.alloc (.cells #[] 9)) a N) := (HN.out.below hb1).below al1
  have HB1 : Hid (Below w.heap.size w (w1.alloc (.cells #[] 9))) := hb1.alloc hb1.size _
  have hs1 : w.heap.size ≤ w1.heap.size := hb1.size
  clear hb1 al1
  go_wp2_with (first
    | (at_builtin; refine wpList_append_names _ rfl _ _ 23 rfl w1.heap.size 9 i0 (.string ⟨#[]⟩) Try.underlying23 hi0 hz0 hz1 hz2 rfl _ rfl HEM.out a c N rfl HN1.out H0.out hn (by simp) ?_)
    | (at_builtin; refine wpList_append_names rfl _ _ 23 rfl w1.heap.size 9 i0 (.string ⟨#[]⟩) Try.underlying23 hi0 hz0 hz1 hz2 rfl _ rfl HEM.out a c N rfl HN1.out H0.out hn (by simp) ?_)
    | fail)
  intro v' w2 ho2 hb2
  obtain ⟨b, d, rfl⟩ := kown_slice ho2
  have hB2 := HB1.out.trans (hb2.mono hs1)
  have n2 := own_isN ho2
  have hcap := own_cap0 ho2
  have m2 : IsN w2 a N := HN.out.below hB2
  have HI : Hid (_ ∧ _ ∧ _) := ⟨n2, m2, hB2⟩
  have HX := print_any (c := d) n2 hcap (by omega) HP.out
  clear ho2 hb2 HEM HN1 HB1 n2 m2 hB2
  go_wp2_with fail
  refine HX.mono ?_
  rintro e w3 ⟨rfl, hb3⟩
  obtain ⟨n2, m2, hB2⟩ := HI.out
  have n3 := n2.below hb3
  have m3 := m2.below hb3
  have hB3 := hB2.trans (hb3.mono hB2.size)
  have HY := rprint_any (c := c) m3 HS.out (by omega) HP.out
  have HZ := same18_any (c := d) (d := c) n3 m3 (by omega) (by omega)
  rw [decide_eq_true rfl] at HZ
  clear n2 m2 hB2 HI hb3 HX n3 m3
  go_wp2_with fail
  refine HY.mono ?_
  rintro e w4 ⟨rfl, hw4⟩
  subst w4
  clear HY
  go_wp2_with fail
  refine HZ.mono ?_
  rintro e w5 ⟨rfl, hb5⟩
  go_wp2_with fail
  go_ret
  exact ⟨rfl, hB3.trans (hb5.mono hB3.size)⟩
end Go.Proofs.Ythoohhokoeihiaa

namespace Go.Proofs.Ythoohhokoeihiaa
open Go.ChangeShapes Go.WideShapes Go.ChangeAt Go.RowKit Go.Joins
set_option linter.unusedVariables false
set_option linter.unusedSimpArgs false
theorem pcell_lt {w : World} {a : Addr} {v : Value} (h : w.cell? a = some v) : a.block < w.heap.size := by
  obtain ⟨e, n, hs, _⟩ := World.shape?_of_cell? h
  unfold World.shape? at hs
  cases hb : w.heap[a.block]? with
  | none => simp [hb] at hs
  | some o => exact (Array.getElem?_eq_some_iff.1 hb).1
set_option maxRecDepth 100000 in
theorem open_names {H : Type} {enc : TypeId × Value → H} {W : World} {a0 : Option Addr} {len cap fuel : Nat} {x : DataW H × List MemPlace}
    (hf : DataW.trod enc Try.prog W 0 (fun _ => true) true fuel 23 [.slice a0 len cap] = some x) (hsz : ∀ n ∈ x.1.weights Try.prog 23, n ≤ reachBytes) :
    ∃ N : List ByteArray, N.length = len ∧ IsN W a0 N ∧ len * 16 ≤ 140737488351232 ∧ (∀ s ∈ N, s.size ≤ 9223372036854775807) ∧ (a0 = none → len = 0 ∧ cap = 0) ∧ len ≤ cap := by
  rcases open_strings Try.underlying23 Try.underlying9 (show Try.prog.cellsOf 9 = 1 by kernel_rfl) hf with ⟨hcs, hx⟩ | ⟨a, len', cap', ss, hcs, _, hl, hm, hz, hx, hcell, hss⟩
  · simp at hcs
    obtain ⟨rfl, rfl, rfl⟩ := hcs
    exact ⟨[], rfl, .inl rfl, by omega, by simp, fun _ => ⟨rfl, rfl⟩, Nat.le_refl _⟩
  · simp at hcs
    obtain ⟨rfl, rfl, rfl⟩ := hcs
    subst hx
    simp only [if_true] at hz
    have hu := Try.underlying23
    have hby : Try.prog.bytesOf 9 = 16 := by kernel_rfl
    have hw0 := hsz (((strs (H := H) (ss.take len)).length + (strs (H := H) (ss.drop len)).length) * Try.prog.bytesOf 9) (by simp [DataW.weights, hu])
    rw [hby] at hw0
    have hlen4 : len * 16 ≤ 140737488351232 := by
      unfold reachBytes at hw0
      simp [strs] at hw0
      omega
    refine ⟨ss.take len, by simp; omega, ?_, hlen4, fun s hs => ?_, fun h => (by cases h), hl⟩
    · by_cases h0 : len = 0
      · exact .inl (by simp [h0])
      · right
        obtain ⟨b, off, spot⟩ := a
        have hspot : spot = none := by simpa [Addr.add] using World.cell?_spot (hcell 0 (by omega))
        subst hspot
        refine ⟨b, off, rfl, pcell_lt (hcell 0 (by omega)), fun j x hj => ?_⟩
        have hjl : j < len := by
          have := (List.getElem?_eq_some_iff.1 hj).1
          simp at this
          omega
        have h := hcell j (by omega)
        rw [Addr.add_mid] at h
        rw [h]
        rw [List.getElem?_take_of_lt hjl] at hj
        simp [List.getD, hj]
    · have := hss s (List.take_subset _ _ hs)
      unfold maxLen at this
      omega
end Go.Proofs.Ythoohhokoeihiaa
