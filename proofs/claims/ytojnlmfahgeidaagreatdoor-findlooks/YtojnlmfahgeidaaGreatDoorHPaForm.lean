/- The one form of names: the program's oneForm and Clean, the document's Form. -/
import Derived.Test.YtojnlmfahgeidaaGreatDoorHPaParse2
import Derived.BigQuiet
import Derived.Deep.QuietTactic
import Derived.Shelf.Strings.OnBuilder
import Derived.Shelf.Slices.Equal
import Derived.Shelf.Slices.Clone
import Derived.Shelf.Slices.Empties2
import Derived.Test.YtojnlmfahgeidaaGreatDoorProg
import Derived.Lib.FJoinFns

namespace Go.Proofs.YtojnlmfahgeidaaGreatDoor
open Go Go.RowKit Go.Shelf
set_option linter.unusedVariables false
set_option linter.unusedSimpArgs false
/-- a slice at a holds these texts -/
def IsN (w : World) (a : Option Addr) (N : List ByteArray) : Prop := N = [] ∨ ∃ g o, a = some ⟨g, o, none⟩ ∧ g < w.heap.size ∧ ∀ j x, N[j]? = some x → w.cell? ⟨g, o + j, none⟩ = some (.string x)
theorem IsN.below {w w' : World} {a : Option Addr} {N : List ByteArray} (h : IsN w a N) (hb : Below w.heap.size w w') : IsN w' a N := by
  rcases h with h | ⟨g, o, rfl, hg, hc⟩
  · exact .inl h
  · exact .inr ⟨g, o, rfl, Nat.lt_of_lt_of_le hg hb.size, fun j x hj => (hb.cell (p := ⟨g, o + j, none⟩) hg).trans (hc j x hj)⟩
theorem IsN.at {w : World} {a : Option Addr} {N : List ByteArray} (h : IsN w a N) {j : Nat} (hj : j < N.length) : ∃ g o, a = some ⟨g, o, none⟩ ∧ g < w.heap.size ∧ w.cell? ⟨g, o + j, none⟩ = some (.string N[j]) := by
  rcases h with rfl | ⟨g, o, rfl, hg, hc⟩
  · simp at hj
  · exact ⟨g, o, rfl, hg, hc j _ (List.getElem?_eq_getElem hj)⟩
theorem IsN.take {w : World} {a : Option Addr} {N : List ByteArray} (h : IsN w a N) (k : Nat) : IsN w a (N.take k) := by
  rcases h with rfl | ⟨g, o, rfl, hg, hc⟩
  · exact .inl (by simp)
  · refine .inr ⟨g, o, rfl, hg, fun j x hj => hc j x ?_⟩
    rw [List.getElem?_take] at hj
    split at hj
    · exact hj
    · cases hj
/-- an own slice of texts -/
theorem own_isN {w : World} {B n : Nat} {a : Option Addr} {m c : Nat} {N : List ByteArray} (h : w.ownsRow B 9 1 (.slice a m c) n (N.map Value.string)) : IsN w a N := by
  rcases h.2 with ⟨hv, hn⟩ | ⟨g, cap, cur, hv, hB, hg, hrest⟩
  · left
    have := h.1
    rw [hn] at this
    simpa using this
  · right
    cases hv
    refine ⟨g, 0, rfl, (Array.getElem?_eq_some_iff.1 hg).1, fun j x hj => ?_⟩
    have hl := (List.getElem?_eq_some_iff.1 hj).1
    have hn := h.1
    rw [List.length_map, Nat.mul_one] at hn
    rw [Nat.zero_add, h.cellAt j (by omega), List.getElem?_map, hj]
    rfl
set_option maxRecDepth 100000 in
set_option maxHeartbeats 4000000 in
theorem is18_any (s : ByteArray) (hs : s.size ≤ 9223372036854775807) (w : World) :
    Calls Tryz.prog 75 #[.string s] w fun e w' => e = .returned (.bool (isName s.data.toList)) ∧ w' = w := by
  have HTL : Hid (s.toList = s.data.toList) := Lib.toList_data s
  have HSL : Hid (s.size = s.data.toList.length) := Lib.size_eq s
  generalize hm : isName s.data.toList = m
  have HM : Hid (isName s.data.toList = m) := hm
  clear hm
  go_enter Tryz.func75, Tryz.ntmps75
  go_wp2_with fail
  go_loop [3] (fun v => Hid (∃ i : Nat, i ≤ s.size ∧ v = .int .i64 (i : Int) ∧ Cln s.data.toList i)) (fun v => s.size - (intOf v).toNat)
  case atStart => exact ⟨0, by omega, rfl, fun j b hj => by omega⟩
  case round =>
    obtain ⟨i, hin, rfl, hcl⟩ := Hid.out hrel
    have HCL : Hid (Cln s.data.toList i) := hcl
    clear hrel hcl
    by_cases hi : i < s.size
    · have hiz : (i : Int) < (s.size : Int) := by omega
      have hxl := Lib.data_getElem? s i hi
      obtain ⟨x, hx⟩ : ∃ x : UInt8, s[i]'hi = x := ⟨_, rfl⟩
      rw [hx] at hxl
      have HX : Hid (s.data.toList[i]? = some x) := hxl
      clear hxl
      by_cases x0 : x = 0
      · have b0 : ((x.toNat : Int) == 0) = true := by rw [x0]; rfl
        obtain rfl : m = false := HM.out ▸ isName_bad (Or.inr (Or.inr (Or.inr (Or.inr (has2_yes HX.out (Or.inl x0))))))
        clear x0
        go_wp2_with fail
        go_ret
        exact ⟨rfl, rfl⟩
      · have b0 : ((x.toNat : Int) == 0) = false := ubeq_ne x0
        by_cases x1 : x = 47
        · have b1 : ((x.toNat : Int) == 47) = true := by rw [x1]; rfl
          obtain rfl : m = false := HM.out ▸ isName_bad (Or.inr (Or.inr (Or.inr (Or.inr (has2_yes HX.out (Or.inr x1))))))
          clear x1 x0
          go_wp2_with fail
          go_ret
          exact ⟨rfl, rfl⟩
        · have b1 : ((x.toNat : Int) == 47) = false := ubeq_ne x1
          have HN : Hid (Cln s.data.toList (i + 1)) := HCL.out.one HX.out x0 x1
          clear x0 x1
          go_wp2_with fail
          go_round
          case rel => exact ⟨i + 1, by omega, by first | rfl | go_num | simp, HN.out⟩
          case measure => simp [intOf]; omega
    · obtain rfl : i = s.size := by omega
      have hiz : ¬ ((s.size : Int) < (s.size : Int)) := by omega
      have h4 := has2_no (l := s.data.toList) (by rw [← HSL.out]; exact HCL.out)
      have HV : Hid (∀ {b0 b1 b2 b3 : Bool}, (s.toList == []) = b0 → (s.toList == [46]) = b1 → (s.toList == [46, 46]) = b2 → decide (56 < s.size) = b3 → m = (!b0 && !b1 && !b2 && !b3)) := by
        intro b0 b1 b2 b3 e0 e1 e2 e3
        rw [← HM.out]
        unfold isName
        rw [h4, ← HSL.out, e3, ← HTL.out, e0, e1, e2]
        simp
      clear h4
      by_cases u0 : s.toList = []
      · have z0 : s.size = 0 := by rw [HSL.out, ← HTL.out, u0]; rfl
        have := HV.out (b1 := false) (b2 := false) (b3 := false) (b0 := true) (by rw [u0]; rfl) (by rw [u0]; rfl) (by rw [u0]; rfl) (by rw [z0]; rfl)
        obtain rfl : m = false := this
        go_wp2_with fail
        go_ret
        exact ⟨rfl, rfl⟩
      have q0 : s.toList.isEmpty = false := by simpa using u0
      have e0 : (s.toList == []) = false := by rw [beq_eq_false_iff_ne]; exact u0
      by_cases u3 : 56 < s.size
      · have z3 : ¬ (s.size : Int) ≤ 56 := by omega
        have := HV.out (b0 := false) (b3 := true) e0 rfl rfl (by rw [decide_eq_true u3])
        obtain rfl : m = false := by rw [this]; simp
        clear this
        go_wp2_with fail
        go_ret
        exact ⟨rfl, rfl⟩
      have z3 : (s.size : Int) ≤ 56 := by omega
      by_cases u1 : s.toList = [46]
      · have := HV.out (b0 := false) (b1 := true) e0 (by rw [u1]; rfl) rfl rfl
        obtain rfl : m = false := by rw [this]; simp
        clear this e0 q0
        go_wp2_with fail
        go_ret
        exact ⟨rfl, rfl⟩
      have e1 : (s.toList == [46]) = false := by rw [beq_eq_false_iff_ne]; exact u1
      by_cases u2 : s.toList = [46, 46]
      · have := HV.out (b0 := false) (b1 := false) (b2 := true) e0 e1 (by rw [u2]; rfl) rfl
        obtain rfl : m = false := by rw [this]; simp
        clear this e0 q0 e1
        go_wp2_with fail
        go_ret
        exact ⟨rfl, rfl⟩
      have e2 : (s.toList == [46, 46]) = false := by rw [beq_eq_false_iff_ne]; exact u2
      have := HV.out (b3 := false) e0 e1 e2 (by rw [decide_eq_false u3])
      obtain rfl : m = true := by rw [this]; simp
      clear this
      go_wp2_with fail
      go_ret
      exact ⟨rfl, rfl⟩
end Go.Proofs.YtojnlmfahgeidaaGreatDoor

namespace Go.Proofs
open Go.Shelf
def Tryz.sclA_ren : Go.Shelf.Ren := ⟨fun | 16 => 128 | n => n, fun | 24 => 46 | 9 => 9 | 4 => 4 | n => n, fun | n => n⟩
theorem Tryz.sclA : Go.Proofs.Lays2.n16 Tryz.prog Tryz.sclA_ren := {
  mixed := by kernel_rfl
  f16 := Tryz.func128.trans (congrArg some (by kernel_rfl))
  t4 := Tryz.underlying4
  a4 := Tryz.isAgg4
  z4 := Tryz.sizeOf4
  v4 := Tryz.zeroValue4
  t9 := Tryz.underlying9
  a9 := Tryz.isAgg9
  z9 := Tryz.sizeOf9
  v9 := Tryz.zeroValue9
  t24 := Tryz.underlying46
  a24 := Tryz.isAgg46
  z24 := Tryz.sizeOf46
  v24 := Tryz.zeroValue46
  i9 := by kernel_rfl }
end Go.Proofs

namespace Go.Proofs.YtojnlmfahgeidaaGreatDoor
open Go Go.RowKit Go.Shelf
set_option linter.unusedVariables false
set_option linter.unusedSimpArgs false
/-- at most 32 names -/
def GoodN (N : List ByteArray) : Prop := N.length ≤ 32 ∧ ∀ x ∈ N, isName x.data.toList = true
theorem GoodN.nil : GoodN [] := ⟨by simp, by simp⟩
theorem GoodN.drop {N : List ByteArray} (h : GoodN N) : GoodN N.dropLast := ⟨by have := h.1; simp; omega, fun x hx => h.2 x (List.dropLast_subset N hx)⟩
theorem GoodN.take {N : List ByteArray} (h : GoodN N) (k : Nat) : GoodN (N.take k) := ⟨by have := h.1; simp; omega, fun x hx => h.2 x (List.take_subset k N hx)⟩
theorem good_nxt {N : List ByteArray} {p : ByteArray} (h : GoodN N) (hb : badE N p = 0) : GoodN (nxtN N p) := by
  unfold nxtN
  unfold badE at hb
  by_cases q1 : p.data.toList = [46]
  · rw [if_pos q1]; exact h
  rw [if_neg q1] at hb ⊢
  by_cases q2 : p.data.toList = [46, 46]
  · rw [if_pos q2]; exact h.drop
  rw [if_neg q2] at hb ⊢
  by_cases q3 : isName p.data.toList = true
  · rw [if_pos q3] at hb
    by_cases q4 : 32 ≤ N.length
    · rw [if_pos q4] at hb; exact absurd hb (by decide)
    · refine ⟨by simp; omega, fun x hx => ?_⟩
      rcases List.mem_append.1 hx with hx | hx
      · exact h.2 x hx
      · rw [List.mem_singleton.1 hx]; exact q3
  · rw [if_neg q3] at hb; exact absurd hb (by decide)
theorem good_run : ∀ (xs : List (Nat × ByteArray)) (N : List ByteArray) (d : Bool), GoodN N → GoodN (runP N d xs).1
  | [], N, d, h => h
  | x :: xs, N, d, h => by
    rw [runP]
    by_cases hb : badE N x.2 = 0
    · rw [if_pos hb]; exact good_run xs _ _ (good_nxt h hb)
    · rw [if_neg hb]; exact GoodN.nil
theorem good_prs (l : List UInt8) : GoodN (prs l).1 := by
  unfold prs
  split
  · exact GoodN.nil
  · split
    · split
      · exact good_run _ _ _ GoodN.nil
      · exact GoodN.nil
    · exact GoodN.nil
end Go.Proofs.YtojnlmfahgeidaaGreatDoor
