/- The one form of names: the program's oneForm and Clean, the document's Form. -/
import Derived.Test.YthoohhokoeihiaaHPaParse2
import Derived.BigQuiet
import Derived.Deep.QuietTactic
import Derived.Shelf.Strings.OnBuilder
import Derived.Shelf.Slices.Equal
import Derived.Shelf.Slices.Clone
import Derived.Shelf.Slices.Empties2
import Derived.Test.YthoohhokoeihiaaProg
import Derived.Lib.FJoinFns

namespace Go.Proofs.Ythoohhokoeihiaa
open Go Go.RowKit Go.Shelf
set_option linter.unusedVariables false
set_option linter.unusedSimpArgs false
/-- a slice at a holds these texts -/
def IsN (w : World) (a : Option Addr) (N : List ByteArray) : Prop := N = [] ∨ ∃ g o, a = some ⟨g, o, none⟩ ∧ g < w.heap.size ∧ ∀ j x, N[j]? = some x → w.cell? ⟨g, o + j, none⟩ = some (.string x)
theorem IsN.below {w w' : World} {a : Option Addr} {N : List ByteArray} (h : IsN w a N) (hb : Below w.heap.size w w') : IsN w' a N := by
  rcases h with h | ⟨g, o, rfl, hg, hc⟩
  · exact .inl h
  · exact .inr ⟨g, o, rfl, Nat.lt_of_lt_of_le hg hb.size, fun j x hj => (hb.cell (p := ⟨g, o + j, none⟩) hg).trans (hc j x hj)⟩
theorem IsN.at {w : World} {a : Option Addr} {N : List ByteArray} (h : IsN w a N) {j : Nat} (hj : j < N.length) : ∃ g o, a = some ⟨g, o, none⟩ ∧ g < w.heap.size ∧ w.cell? ⟨g, o + j, none⟩ = some (.string N[j]) := by
  rcases h with rfl | ⟨g, o, rfl, hg, hc⟩
  · simp at hj
  · exact ⟨g, o, rfl, hg, hc j _ (List.getElem?_eq_getElem hj)⟩
theorem IsN.take {w : World} {a : Option Addr} {N : List ByteArray} (h : IsN w a N) (k : Nat) : IsN w a (N.take k) := by
  rcases h with rfl | ⟨g, o, rfl, hg, hc⟩
  · exact .inl (by simp)
  · refine .inr ⟨g, o, rfl, hg, fun j x hj => hc j x ?_⟩
    rw [List.getElem?_take] at hj
    split at hj
    · exact hj
    · cases hj
/-- an own slice of texts -/
theorem own_isN {w : World} {B n : Nat} {a : Option Addr} {m c : Nat} {N : List ByteArray} (h : w.ownsRow B 9 1 (.slice a m c) n (N.map Value.string)) : IsN w a N := by
  rcases h.2 with ⟨hv, hn⟩ | ⟨g, cap, cur, hv, hB, hg, hrest⟩
  · left
    have := h.1
    rw [hn] at this
    simpa using this
  · right
    cases hv
    refine ⟨g, 0, rfl, (Array.getElem?_eq_some_iff.1 hg).1, fun j x hj => ?_⟩
    have hl := (List.getElem?_eq_some_iff.1 hj).1
    have hn := h.1
    rw [List.length_map, Nat.mul_one] at hn
    rw [Nat.zero_add, h.cellAt j (by omega), List.getElem?_map, hj]
    rfl
set_option maxRecDepth 100000 in
set_option maxHeartbeats 4000000 in
theorem is18_any (s : ByteArray) (hs : s.size ≤ 9223372036854775807) (w : World) :
    Calls Try.prog 33 #[.string s] w fun e w' => e = .returned (.bool (isName s.data.toList)) ∧ w' = w := by
  have HTL : Hid (s.toList = s.data.toList) := Lib.toList_data s
  have HSL : Hid (s.size = s.data.toList.length) := Lib.size_eq s
  generalize hm : isName s.data.toList = m
  have HM : Hid (isName s.data.toList = m) := hm
  clear hm
  go_enter Try.func33, Try.ntmps33
  go_wp2_with fail
  go_loop [3] (fun v => Hid (∃ i : Nat, i ≤ s.size ∧ v = .int .i64 (i : Int) ∧ Cln s.data.toList i)) (fun v => s.size - (intOf v).toNat)
  case atStart => exact ⟨0, by omega, rfl, fun j b hj => by omega⟩
  case round =>
    obtain ⟨i, hin, rfl, hcl⟩ := Hid.out hrel
    have HCL : Hid (Cln s.data.toList i) := hcl
    clear hrel hcl
    by_cases hi : i < s.size
    · have hiz : (i : Int) < (s.size : Int) := by omega
      have hxl := Lib.data_getElem? s i hi
      obtain ⟨x, hx⟩ : ∃ x : UInt8, s[i]'hi = x := ⟨_, rfl⟩
      rw [hx] at hxl
      have HX : Hid (s.data.toList[i]? = some x) := hxl
      clear hxl
      by_cases x0 : x = 0
      · have b0 : ((x.toNat : Int) == 0) = true := by rw [x0]; rfl
        obtain rfl : m = false := HM.out ▸ isName_bad (Or.inr (Or.inr (Or.inr (Or.inr (has2_yes HX.out (Or.inl x0))))))
        clear x0
        go_wp2_with fail
        go_ret
        exact ⟨rfl, rfl⟩
      · have b0 : ((x.toNat : Int) == 0) = false := ubeq_ne x0
        by_cases x1 : x = 47
        · have b1 : ((x.toNat : Int) == 47) = true := by rw [x1]; rfl
          obtain rfl : m = false := HM.out ▸ isName_bad (Or.inr (Or.inr (Or.inr (Or.inr (has2_yes HX.out (Or.inr x1))))))
          clear x1 x0
          go_wp2_with fail
          go_ret
          exact ⟨rfl, rfl⟩
        · have b1 : ((x.toNat : Int) == 47) = false := ubeq_ne x1
          have HN : Hid (Cln s.data.toList (i + 1)) := HCL.out.one HX.out x0 x1
          clear x0 x1
          go_wp2_with fail
          go_round
          case rel => exact ⟨i + 1, by omega, by first | rfl | go_num | simp, HN.out⟩
          case measure => simp [intOf]; omega
    · obtain rfl : i = s.size := by omega
      have hiz : ¬ ((s.size : Int) < (s.size : Int)) := by omega
      have h4 := has2_no (l := s.data.toList) (by rw [← HSL.out]; exact HCL.out)
      have HV : Hid (∀ {b0 b1 b2 b3 : Bool}, (s.toList == []) = b0 → (s.toList == [46]) = b1 → (s.toList == [46, 46]) = b2 → decide (56 < s.size) = b3 → m = (!b0 && !b1 && !b2 && !b3)) := by
        intro b0 b1 b2 b3 e0 e1 e2 e3
        rw [← HM.out]
        unfold isName
        rw [h4, ← HSL.out, e3, ← HTL.out, e0, e1, e2]
        simp
      clear h4
      by_cases u0 : s.toList = []
      · have z0 : s.size = 0 := by rw [HSL.out, ← HTL.out, u0]; rfl
        have := HV.out (b1 := false) (b2 := false) (b3 := false) (b0 := true) (by rw [u0]; rfl) (by rw [u0]; rfl) (by rw [u0]; rfl) (by rw [z0]; rfl)
        obtain rfl : m = false := this
        go_wp2_with fail
        go_ret
        exact ⟨rfl, rfl⟩
      have q0 : s.toList.isEmpty = false := by simpa using u0
      have e0 : (s.toList == []) = false := by rw [beq_eq_false_iff_ne]; exact u0
      by_cases u3 : 56 < s.size
      · have z3 : ¬ (s.size : Int) ≤ 56 := by omega
        have := HV.out (b0 := false) (b3 := true) e0 rfl rfl (by rw [decide_eq_true u3])
        obtain rfl : m = false := by rw [this]; simp
        clear this
        go_wp2_with fail
        go_ret
        exact ⟨rfl, rfl⟩
      have z3 : (s.size : Int) ≤ 56 := by omega
      by_cases u1 : s.toList = [46]
      · have := HV.out (b0 := false) (b1 := true) e0 (by rw [u1]; rfl) rfl rfl
        obtain rfl : m = false := by rw [this]; simp
        clear this e0 q0
        go_wp2_with fail
        go_ret
        exact ⟨rfl, rfl⟩
      have e1 : (s.toList == [46]) = false := by rw [beq_eq_false_iff_ne]; exact u1
      by_cases u2 : s.toList = [46, 46]
      · have := HV.out (b0 := false) (b1 := false) (b2 := true) e0 e1 (by rw [u2]; rfl) rfl
        obtain rfl : m = false := by rw [this]; simp
        clear this e0 q0 e1
        go_wp2_with fail
        go_ret
        exact ⟨rfl, rfl⟩
      have e2 : (s.toList == [46, 46]) = false := by rw [beq_eq_false_iff_ne]; exact u2
      have := HV.out (b3 := false) e0 e1 e2 (by rw [decide_eq_false u3])
      obtain rfl : m = true := by rw [this]; simp
      clear this
      go_wp2_with fail
      go_ret
      exact ⟨rfl, rfl⟩
set_option maxRecDepth 100000 in
set_option maxHeartbeats 4000000 in
theorem same18_any {w : World} {a b : Option Addr} {c d : Nat} {N M : List ByteArray} (hN : IsN w a N) (hM : IsN w b M) (h1 : N.length ≤ 9223372036854775807) (h2 : M.length ≤ 9223372036854775807) :
    Calls Try.prog 19 #[.slice a N.length c, .slice b M.length d] w fun e w' => e = .returned (.bool (decide (N = M))) ∧ Below w.heap.size w w' := by
  by_cases hl : N.length = M.length
  · obtain ⟨m, hm⟩ : ∃ m, decide (N = M) = m := ⟨_, rfl⟩
    rw [hm]
    have HM : Hid (decide (N = M) = m) := hm
    obtain ⟨n, hn⟩ : ∃ n, N.length = n := ⟨_, rfl⟩
    have hn2 : M.length = n := hl.symm.trans hn
    rw [hn] at h1 ⊢
    rw [hn2]
    have HN : Hid (IsN w a N) := hN
    have HM2 : Hid (IsN w b M) := hM
    have HL : Hid (N.length = n ∧ M.length = n) := ⟨hn, hn2⟩
    clear hm hN hM hn hn2 hl h2
    go_enter Try.func19, Try.ntmps19
    go_wp2_with fail
    go_loopw [13] (fun v wr => Hid (∃ i : Nat, i ≤ n ∧ v = .int .i64 (i : Int) ∧ (∀ j, j < i → N[j]? = M[j]?) ∧ Below w.heap.size w wr)) (fun v wr => n - (intOf v).toNat)
    case atStart => exact ⟨0, by omega, rfl, fun j hj => by omega, Below.refl _ _⟩
    case round =>
      obtain ⟨i, hin, rfl, hcl, hb⟩ := Hid.out hrel
      have HCL : Hid ((∀ j, j < i → N[j]? = M[j]?) ∧ Below w.heap.size w wr) := ⟨hcl, hb⟩
      clear hrel hcl
      by_cases hi : i < n
      · have hiz : (i : Int) < (n : Int) := by omega
        have hi0 : (0 : Int) ≤ (i : Int) := by omega
        obtain ⟨g, o, rfl, hg, hc⟩ := (HN.out.below hb).at (j := i) (by rw [HL.out.1]; exact hi)
        obtain ⟨g2, o2, rfl, hg2, hc2⟩ := (HM2.out.below hb).at (j := i) (by rw [HL.out.2]; exact hi)
        obtain ⟨x, hx⟩ : ∃ x, N[i]'(by rw [HL.out.1]; exact hi) = x := ⟨_, rfl⟩
        obtain ⟨y, hy⟩ : ∃ y, M[i]'(by rw [HL.out.2]; exact hi) = y := ⟨_, rfl⟩
        rw [hx] at hc
        rw [hy] at hc2
        have HXY : Hid (N[i]? = some x ∧ M[i]? = some y) := ⟨by rw [← hx]; exact List.getElem?_eq_getElem _, by rw [← hy]; exact List.getElem?_eq_getElem _⟩
        clear hx hy hb
        have hcd : ∀ k, (wr.drewN k).cell? ⟨g, o + i, none⟩ = some (.string x) := fun k => hc
        have hcd2 : ∀ k, (wr.drewN k).cell? ⟨g2, o2 + i, none⟩ = some (.string y) := fun k => hc2
        by_cases hxy : x = y
        · subst hxy
          have ht : (x.toList == x.toList) = true := by simp
          have HS : Hid (∀ j, j < i + 1 → N[j]? = M[j]?) := fun j hj => by
            rcases Nat.lt_succ_iff_lt_or_eq.1 hj with h | rfl
            · exact HCL.out.1 j h
            · rw [HXY.out.1, HXY.out.2]
          go_wp2_with fail
          go_quiet (fail)
          go_wp2_with fail
          go_roundw
          case rel => exact ⟨i + 1, by omega, by first | rfl | go_num | simp, HS.out, bdrewN HCL.out.2 _⟩
          case measure => simp [intOf]; omega
        · have ht : (x.toList == y.toList) = false := by
            rw [beq_eq_false_iff_ne]
            intro e
            rw [Lib.toList_data, Lib.toList_data] at e
            exact hxy (ba_ext e)
          obtain rfl : m = false := by
            rw [← HM.out]
            refine decide_eq_false fun e => hxy ?_
            have := HXY.out.1
            rw [e, HXY.out.2] at this
            injection this with this
            exact this.symm
          clear hxy
          go_wp2_with fail
          go_quiet (fail)
          go_wp2_with fail
          go_ret
          exact ⟨rfl, bdrewN HCL.out.2 _⟩
      · obtain rfl : i = n := by omega
        have hiz : ¬ (i : Int) < (i : Int) := by omega
        obtain rfl : m = true := by
          rw [← HM.out]
          refine decide_eq_true (List.ext_getElem? fun j => ?_)
          by_cases hj : j < i
          · exact HCL.out.1 j hj
          · rw [List.getElem?_eq_none (by rw [HL.out.1]; omega), List.getElem?_eq_none (by rw [HL.out.2]; omega)]
        go_wp2_with fail
        go_ret
        exact ⟨rfl, HCL.out.2⟩
  · have hz : ¬ (N.length : Int) = (M.length : Int) := by omega
    rw [decide_eq_false (fun e => hl (by rw [e]))]
    go_enter Try.func19, Try.ntmps19
    go_wp2_with fail
    go_ret
    exact ⟨rfl, Below.refl _ _⟩
end Go.Proofs.Ythoohhokoeihiaa

namespace Go.Proofs
open Go.Shelf
def Try.equalA_ren : Go.Shelf.Ren := ⟨fun | 193 => 39 | n => n, fun | 31 => 23 | 9 => 9 | 4 => 4 | 3 => 3 | 0 => 0 | n => n, fun | n => n⟩
theorem Try.equalA : Go.Proofs.Lays.n193 Try.prog Try.equalA_ren := {
  mixed := by kernel_rfl
  f193 := Try.func39.trans (congrArg some (by kernel_rfl))
  t0 := Try.underlying0
  a0 := Try.isAgg0
  z0 := Try.sizeOf0
  v0 := Try.zeroValue0
  t3 := Try.underlying3
  a3 := Try.isAgg3
  z3 := Try.sizeOf3
  v3 := Try.zeroValue3
  t4 := Try.underlying4
  a4 := Try.isAgg4
  z4 := Try.sizeOf4
  v4 := Try.zeroValue4
  t9 := Try.underlying9
  a9 := Try.isAgg9
  z9 := Try.sizeOf9
  v9 := Try.zeroValue9
  t31 := Try.underlying23
  a31 := Try.isAgg23
  z31 := Try.sizeOf23
  v31 := Try.zeroValue23 }
end Go.Proofs

namespace Go.Proofs.Ythoohhokoeihiaa
open Go Go.RowKit Go.Shelf
set_option linter.unusedVariables false
set_option linter.unusedSimpArgs false
/-- at most 32 names -/
def GoodN (N : List ByteArray) : Prop := N.length ≤ 32 ∧ ∀ x ∈ N, isName x.data.toList = true
theorem GoodN.nil : GoodN [] := ⟨by simp, by simp⟩
theorem GoodN.drop {N : List ByteArray} (h : GoodN N) : GoodN N.dropLast := ⟨by have := h.1; simp; omega, fun x hx => h.2 x (List.dropLast_subset N hx)⟩
theorem GoodN.take {N : List ByteArray} (h : GoodN N) (k : Nat) : GoodN (N.take k) := ⟨by have := h.1; simp; omega, fun x hx => h.2 x (List.take_subset k N hx)⟩
theorem good_nxt {N : List ByteArray} {p : ByteArray} (h : GoodN N) (hb : badE N p = 0) : GoodN (nxtN N p) := by
  unfold nxtN
  unfold badE at hb
  by_cases q1 : p.data.toList = [46]
  · rw [if_pos q1]; exact h
  rw [if_neg q1] at hb ⊢
  by_cases q2 : p.data.toList = [46, 46]
  · rw [if_pos q2]; exact h.drop
  rw [if_neg q2] at hb ⊢
  by_cases q3 : isName p.data.toList = true
  · rw [if_pos q3] at hb
    by_cases q4 : 32 ≤ N.length
    · rw [if_pos q4] at hb; exact absurd hb (by decide)
    · refine ⟨by simp; omega, fun x hx => ?_⟩
      rcases List.mem_append.1 hx with hx | hx
      · exact h.2 x hx
      · rw [List.mem_singleton.1 hx]; exact q3
  · rw [if_neg q3] at hb; exact absurd hb (by decide)
theorem good_run : ∀ (xs : List (Nat × ByteArray)) (N : List ByteArray) (d : Bool), GoodN N → GoodN (runP N d xs).1
  | [], N, d, h => h
  | x :: xs, N, d, h => by
    rw [runP]
    by_cases hb : badE N x.2 = 0
    · rw [if_pos hb]; exact good_run xs _ _ (good_nxt h hb)
    · rw [if_neg hb]; exact GoodN.nil
theorem good_prs (l : List UInt8) : GoodN (prs l).1 := by
  unfold prs
  split
  · exact GoodN.nil
  · split
    · split
      · exact good_run _ _ _ GoodN.nil
      · exact GoodN.nil
    · exact GoodN.nil
end Go.Proofs.Ythoohhokoeihiaa
