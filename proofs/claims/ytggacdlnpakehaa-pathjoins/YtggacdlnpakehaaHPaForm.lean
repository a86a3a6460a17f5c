/- The one form of names: the program's oneForm and Clean, the document's Form. -/
import Derived.Test.YtggacdlnpakehaaHPaParse2
import Derived.BigQuiet
import Derived.Deep.QuietTactic
import Derived.Shelf.Strings.OnBuilder
import Derived.Shelf.Slices.Equal
import Derived.Shelf.Slices.Clone
import Derived.Shelf.Slices.Empties2
import Derived.Test.YtggacdlnpakehaaProg
import Derived.Lib.FJoinFns

namespace Go.Proofs.Ytggacdlnpakehaa
open Go Go.RowKit Go.Shelf
set_option linter.unusedVariables false
set_option linter.unusedSimpArgs false
/-- a slice at a holds these texts -/
def IsN (w : World) (a : Option Addr) (N : List ByteArray) : Prop := N = [] ∨ ∃ g o, a = some ⟨g, o, none⟩ ∧ g < w.heap.size ∧ ∀ j x, N[j]? = some x → w.cell? ⟨g, o + j, none⟩ = some (.string x)
theorem IsN.below {w w' : World} {a : Option Addr} {N : List ByteArray} (h : IsN w a N) (hb : Below w.heap.size w w') : IsN w' a N := by
  rcases h with h | ⟨g, o, rfl, hg, hc⟩
  · exact .inl h
  · exact .inr ⟨g, o, rfl, Nat.lt_of_lt_of_le hg hb.size, fun j x hj => (hb.cell (p := ⟨g, o + j, none⟩) hg).trans (hc j x hj)⟩
theorem IsN.dN {w : World} {a : Option Addr} {N : List ByteArray} (h : IsN w a N) (n : Nat) : IsN (w.drewN n) a N := h
theorem IsN.at {w : World} {a : Option Addr} {N : List ByteArray} (h : IsN w a N) {j : Nat} (hj : j < N.length) : ∃ g o, a = some ⟨g, o, none⟩ ∧ g < w.heap.size ∧ w.cell? ⟨g, o + j, none⟩ = some (.string N[j]) := by
  rcases h with rfl | ⟨g, o, rfl, hg, hc⟩
  · simp at hj
  · exact ⟨g, o, rfl, hg, hc j _ (List.getElem?_eq_getElem hj)⟩
theorem IsN.take {w : World} {a : Option Addr} {N : List ByteArray} (h : IsN w a N) (k : Nat) : IsN w a (N.take k) := by
  rcases h with rfl | ⟨g, o, rfl, hg, hc⟩
  · exact .inl (by simp)
  · refine .inr ⟨g, o, rfl, hg, fun j x hj => hc j x ?_⟩
    rw [List.getElem?_take] at hj
    split at hj
    · exact hj
    · cases hj
/-- an own slice of texts -/
theorem own_isN {w : World} {B n : Nat} {a : Option Addr} {m c : Nat} {N : List ByteArray} (h : w.ownsRow B 9 1 (.slice a m c) n (N.map Value.string)) : IsN w a N := by
  rcases h.2 with ⟨hv, hn⟩ | ⟨g, cap, cur, hv, hB, hg, hrest⟩
  · left
    have := h.1
    rw [hn] at this
    simpa using this
  · right
    cases hv
    refine ⟨g, 0, rfl, (Array.getElem?_eq_some_iff.1 hg).1, fun j x hj => ?_⟩
    have hl := (List.getElem?_eq_some_iff.1 hj).1
    have hn := h.1
    rw [List.length_map, Nat.mul_one] at hn
    rw [Nat.zero_add, h.cellAt j (by omega), List.getElem?_map, hj]
    rfl
set_option maxRecDepth 100000 in
set_option maxHeartbeats 4000000 in
theorem is18_any (s : ByteArray) (hs : s.size ≤ 9223372036854775807) (w : World) :
    Calls Try.prog 27 #[.string s] w fun e w' => e = .returned (.bool (isName s.data.toList)) ∧ w' = w := by
  have HTL : Hid (s.toList = s.data.toList) := Lib.toList_data s
  have HSL : Hid (s.size = s.data.toList.length) := Lib.size_eq s
  generalize hm : isName s.data.toList = m
  have HM : Hid (isName s.data.toList = m) := hm
  clear hm
  go_enter Try.func27, Try.ntmps27
  go_wp2_with fail
  go_loop [3] (fun v => Hid (∃ i : Nat, i ≤ s.size ∧ v = .int .i64 (i : Int) ∧ Cln s.data.toList i)) (fun v => s.size - (intOf v).toNat)
  case atStart => exact ⟨0, by omega, rfl, fun j b hj => by omega⟩
  case round =>
    obtain ⟨i, hin, rfl, hcl⟩ := Hid.out hrel
    have HCL : Hid (Cln s.data.toList i) := hcl
    clear hrel hcl
    by_cases hi : i < s.size
    · have hiz : (i : Int) < (s.size : Int) := by omega
      have hxl := Lib.data_getElem? s i hi
      obtain ⟨x, hx⟩ : ∃ x : UInt8, s[i]'hi = x := ⟨_, rfl⟩
      rw [hx] at hxl
      have HX : Hid (s.data.toList[i]? = some x) := hxl
      clear hxl
      by_cases x0 : x = 0
      · have b0 : ((x.toNat : Int) == 0) = true := by rw [x0]; rfl
        obtain rfl : m = false := HM.out ▸ isName_bad (Or.inr (Or.inr (Or.inr (Or.inr (has2_yes HX.out (Or.inl x0))))))
        clear x0
        go_wp2_with fail
        go_ret
        exact ⟨rfl, rfl⟩
      · have b0 : ((x.toNat : Int) == 0) = false := ubeq_ne x0
        by_cases x1 : x = 47
        · have b1 : ((x.toNat : Int) == 47) = true := by rw [x1]; rfl
          obtain rfl : m = false := HM.out ▸ isName_bad (Or.inr (Or.inr (Or.inr (Or.inr (has2_yes HX.out (Or.inr x1))))))
          clear x1 x0
          go_wp2_with fail
          go_ret
          exact ⟨rfl, rfl⟩
        · have b1 : ((x.toNat : Int) == 47) = false := ubeq_ne x1
          have HN : Hid (Cln s.data.toList (i + 1)) := HCL.out.one HX.out x0 x1
          clear x0 x1
          go_wp2_with fail
          go_round
          case rel => exact ⟨i + 1, by omega, by first | rfl | go_num | simp, HN.out⟩
          case measure => simp [intOf]; omega
    · obtain rfl : i = s.size := by omega
      have hiz : ¬ ((s.size : Int) < (s.size : Int)) := by omega
      have h4 := has2_no (l := s.data.toList) (by rw [← HSL.out]; exact HCL.out)
      have HV : Hid (∀ {b0 b1 b2 b3 : Bool}, (s.toList == []) = b0 → (s.toList == [46]) = b1 → (s.toList == [46, 46]) = b2 → decide (56 < s.size) = b3 → m = (!b0 && !b1 && !b2 && !b3)) := by
        intro b0 b1 b2 b3 e0 e1 e2 e3
        rw [← HM.out]
        unfold isName
        rw [h4, ← HSL.out, e3, ← HTL.out, e0, e1, e2]
        simp
      clear h4
      by_cases u0 : s.toList = []
      · have z0 : s.size = 0 := by rw [HSL.out, ← HTL.out, u0]; rfl
        have := HV.out (b1 := false) (b2 := false) (b3 := false) (b0 := true) (by rw [u0]; rfl) (by rw [u0]; rfl) (by rw [u0]; rfl) (by rw [z0]; rfl)
        obtain rfl : m = false := this
        go_wp2_with fail
        go_ret
        exact ⟨rfl, rfl⟩
      have q0 : s.toList.isEmpty = false := by simpa using u0
      have e0 : (s.toList == []) = false := by rw [beq_eq_false_iff_ne]; exact u0
      by_cases u3 : 56 < s.size
      · have z3 : ¬ (s.size : Int) ≤ 56 := by omega
        have := HV.out (b0 := false) (b3 := true) e0 rfl rfl (by rw [decide_eq_true u3])
        obtain rfl : m = false := by rw [this]; simp
        clear this
        go_wp2_with fail
        go_ret
        exact ⟨rfl, rfl⟩
      have z3 : (s.size : Int) ≤ 56 := by omega
      by_cases u1 : s.toList = [46]
      · have := HV.out (b0 := false) (b1 := true) e0 (by rw [u1]; rfl) rfl rfl
        obtain rfl : m = false := by rw [this]; simp
        clear this e0 q0
        go_wp2_with fail
        go_ret
        exact ⟨rfl, rfl⟩
      have e1 : (s.toList == [46]) = false := by rw [beq_eq_false_iff_ne]; exact u1
      by_cases u2 : s.toList = [46, 46]
      · have := HV.out (b0 := false) (b1 := false) (b2 := true) e0 e1 (by rw [u2]; rfl) rfl
        obtain rfl : m = false := by rw [this]; simp
        clear this e0 q0 e1
        go_wp2_with fail
        go_ret
        exact ⟨rfl, rfl⟩
      have e2 : (s.toList == [46, 46]) = false := by rw [beq_eq_false_iff_ne]; exact u2
      have := HV.out (b3 := false) e0 e1 e2 (by rw [decide_eq_false u3])
      obtain rfl : m = true := by rw [this]; simp
      clear this
      go_wp2_with fail
      go_ret
      exact ⟨rfl, rfl⟩
end Go.Proofs.Ytggacdlnpakehaa

namespace Go.Proofs
open Go.Shelf
def Try.joinA_ren : Go.Shelf.Ren := ⟨fun | 156 => 19 | 165 => 29 | 166 => 30 | 169 => 31 | 240 => 39 | 241 => 40 | 276 => 43 | 277 => 44 | n => n, fun | 31 => 31 | 9 => 9 | 3 => 3 | 4 => 4 | 0 => 0 | 20 => 20 | 72 => 59 | 76 => 63 | 70 => 56 | 37 => 57 | 75 => 62 | 127 => 76 | 164 => 77 | 5 => 5 | 80 => 65 | n => n, fun | n => n⟩
theorem Try.joinA : Go.Proofs.Lays.n156 Try.prog Try.joinA_ren := {
  mixed := by kernel_rfl
  f156 := Try.func19.trans (congrArg some (by kernel_rfl))
  f165 := Try.func29.trans (congrArg some (by kernel_rfl))
  f166 := Try.func30.trans (congrArg some (by kernel_rfl))
  f169 := Try.func31.trans (congrArg some (by kernel_rfl))
  f240 := Try.func39.trans (congrArg some (by kernel_rfl))
  f241 := Try.func40.trans (congrArg some (by kernel_rfl))
  f276 := Try.func43.trans (congrArg some (by kernel_rfl))
  f277 := Try.func44.trans (congrArg some (by kernel_rfl))
  t0 := Try.underlying0
  a0 := Try.isAgg0
  z0 := Try.sizeOf0
  v0 := Try.zeroValue0
  t3 := Try.underlying3
  a3 := Try.isAgg3
  z3 := Try.sizeOf3
  v3 := Try.zeroValue3
  t4 := Try.underlying4
  a4 := Try.isAgg4
  z4 := Try.sizeOf4
  v4 := Try.zeroValue4
  t9 := Try.underlying9
  a9 := Try.isAgg9
  z9 := Try.sizeOf9
  v9 := Try.zeroValue9
  t20 := Try.underlying20
  a20 := Try.isAgg20
  z20 := Try.sizeOf20
  v20 := Try.zeroValue20
  t31 := Try.underlying31
  a31 := Try.isAgg31
  z31 := Try.sizeOf31
  v31 := Try.zeroValue31
  t37 := Try.underlying57
  a37 := Try.isAgg57
  z37 := Try.sizeOf57
  v37 := Try.zeroValue57
  t70 := Try.underlying56
  a70 := Try.isAgg56
  z70 := Try.sizeOf56
  v70 := Try.zeroValue56
  t72 := Try.underlying59
  a72 := Try.isAgg59
  z72 := Try.sizeOf59
  v72 := Try.zeroValue59
  t75 := Try.underlying62
  a75 := Try.isAgg62
  z75 := Try.sizeOf62
  v75 := Try.zeroValue62
  t76 := Try.underlying63
  a76 := Try.isAgg63
  z76 := Try.sizeOf63
  v76 := Try.zeroValue63
  t127 := Try.underlying76
  a127 := Try.isAgg76
  z127 := Try.sizeOf76
  v127 := Try.zeroValue76
  t164 := Try.underlying77
  a164 := Try.isAgg77
  z164 := Try.sizeOf77
  v164 := Try.zeroValue77 }
end Go.Proofs

namespace Go.Proofs.Ytggacdlnpakehaa
open Go Go.RowKit Go.Shelf
set_option linter.unusedVariables false
set_option linter.unusedSimpArgs false
/-- at most 32 names -/
def GoodN (N : List ByteArray) : Prop := N.length ≤ 32 ∧ ∀ x ∈ N, isName x.data.toList = true
theorem GoodN.nil : GoodN [] := ⟨by simp, by simp⟩
theorem GoodN.drop {N : List ByteArray} (h : GoodN N) : GoodN N.dropLast := ⟨by have := h.1; simp; omega, fun x hx => h.2 x (List.dropLast_subset N hx)⟩
theorem GoodN.take {N : List ByteArray} (h : GoodN N) (k : Nat) : GoodN (N.take k) := ⟨by have := h.1; simp; omega, fun x hx => h.2 x (List.take_subset k N hx)⟩
theorem good_nxt {N : List ByteArray} {p : ByteArray} (h : GoodN N) (hb : badE N p = 0) : GoodN (nxtN N p) := by
  unfold nxtN
  unfold badE at hb
  by_cases q1 : p.data.toList = [46]
  · rw [if_pos q1]; exact h
  rw [if_neg q1] at hb ⊢
  by_cases q2 : p.data.toList = [46, 46]
  · rw [if_pos q2]; exact h.drop
  rw [if_neg q2] at hb ⊢
  by_cases q3 : isName p.data.toList = true
  · rw [if_pos q3] at hb
    by_cases q4 : 32 ≤ N.length
    · rw [if_pos q4] at hb; exact absurd hb (by decide)
    · refine ⟨by simp; omega, fun x hx => ?_⟩
      rcases List.mem_append.1 hx with hx | hx
      · exact h.2 x hx
      · rw [List.mem_singleton.1 hx]; exact q3
  · rw [if_neg q3] at hb; exact absurd hb (by decide)
theorem good_run : ∀ (xs : List (Nat × ByteArray)) (N : List ByteArray) (d : Bool), GoodN N → GoodN (runP N d xs).1
  | [], N, d, h => h
  | x :: xs, N, d, h => by
    rw [runP]
    by_cases hb : badE N x.2 = 0
    · rw [if_pos hb]; exact good_run xs _ _ (good_nxt h hb)
    · rw [if_neg hb]; exact GoodN.nil
theorem good_prs (l : List UInt8) : GoodN (prs l).1 := by
  unfold prs
  split
  · exact GoodN.nil
  · split
    · split
      · exact good_run _ _ _ GoodN.nil
      · exact GoodN.nil
    · exact GoodN.nil
/-- the one form -/
def frmL (N : List ByteArray) : List UInt8 := 47 :: Lib.join (N.map (·.data.toList)) [47]
/-- a slash ahead of each -/
def accN (N : List ByteArray) : List UInt8 := Lib.joinTail [47] (N.map (·.data.toList))
theorem frm_acc {N : List ByteArray} (h : N ≠ []) : frmL N = accN N := by
  cases N with
  | nil => exact absurd rfl h
  | cons x N =>
    unfold frmL accN
    rw [List.map_cons, Lib.join_cons]
    simp [Lib.joinTail]
theorem frm_nil : frmL [] = [47] := rfl
theorem acc_snoc (N : List ByteArray) (x : ByteArray) : accN (N ++ [x]) = accN N ++ 47 :: x.data.toList := by
  unfold accN
  simp [Lib.joinTail]
theorem acc_len : ∀ N : List ByteArray, (accN N).length = N.length + (N.map fun x => x.size).sum
  | [] => rfl
  | x :: N => by
    have ih := acc_len N
    unfold accN at ih ⊢
    simp only [Lib.joinTail, List.map_cons, List.flatten_cons, List.length_append, List.length_cons, List.sum_cons, List.length_nil, Lib.size_eq] at ih ⊢
    omega
theorem sum_le : ∀ (N : List ByteArray), (∀ x ∈ N, isName x.data.toList = true) → (N.map fun x => x.size).sum ≤ 56 * N.length
  | [], _ => by simp
  | x :: N, h => by
    have ih := sum_le N fun y hy => h y (List.mem_cons_of_mem _ hy)
    have := (isName_len (h x (by simp))).2
    rw [← Lib.size_eq] at this
    simp only [List.map_cons, List.sum_cons, List.length_cons]
    omega
theorem good_len {N : List ByteArray} (h : GoodN N) : (accN N).length ≤ 1824 := by
  have := sum_le N h.2
  have := h.1
  rw [acc_len]
  omega
theorem frm_len {N : List ByteArray} (h : GoodN N) : (frmL N).length ≤ 1824 := by
  by_cases hN : N = []
  · rw [hN, frm_nil]; decide
  · rw [frm_acc hN]; exact good_len h
theorem jn_len {N : List ByteArray} (h : GoodN N) : (Lib.join (N.map (·.data.toList)) [47]).length ≤ 1824 := by
  have := frm_len h
  unfold frmL at this
  rw [List.length_cons] at this
  omega
theorem bx_join : Builder.Extra Try.prog Try.joinA_ren where
  sizeBuilder := by kernel_rfl
  liesBuilder := by kernel_rfl
  t5 := Try.underlying5
  a5 := Try.isAgg5
  z5 := Try.sizeOf5
  v5 := Try.zeroValue5
  infoByte := by kernel_rfl
  cellsByte := by kernel_rfl
  sizeByte := by kernel_rfl
  neB5 := by decide
theorem join_any {w : World} {a : Option Addr} {N : List ByteArray} {c : Nat} (hN : IsN w a N) (hc : N.length ≤ c) (hl : N.length ≤ 1000000) (hj : (Lib.join (N.map (·.data.toList)) [47]).length ≤ 1000000) :
    Calls Try.prog 19 #[.slice a N.length c, .string ⟨#[47]⟩] w fun e w' => e = .returned (.string (bsL (Lib.join (N.map (·.data.toList)) [47]))) ∧ Below w.heap.size w w' := by
  rcases hN with rfl | ⟨g, o, rfl, hg, hcs⟩
  · refine (Any.strings_Join_none Try.joinA bx_join a c ⟨#[47]⟩ w).mono ?_
    rintro e w' ⟨rfl, rfl⟩
    exact ⟨rfl, Below.refl _ _⟩
  · exact Any.strings_Join Try.joinA bx_join g o c N ⟨#[47]⟩ w hcs hg (by omega) hc (by show (Lib.join (N.map (·.data.toList)) [47]).length ≤ _; omega)
theorem bs_cat (a b : List UInt8) : bsL a ++ bsL b = bsL (a ++ b) := by
  apply ba_ext
  rw [bsL_data]
  show (ByteArray.append (bsL a) (bsL b)).data.toList = _
  rw [show ByteArray.append (bsL a) (bsL b) = bsL a ++ bsL b from rfl]
  simp [bsL]
set_option maxRecDepth 100000 in
set_option maxHeartbeats 4000000 in
theorem oneForm_any {w : World} {a : Option Addr} {N : List ByteArray} {c : Nat} (hN : IsN w a N) (hc : N.length ≤ c) (hG : GoodN N) :
    Calls Try.prog 21 #[.slice a N.length c] w fun e w' => e = .returned (.string (bsL (frmL N))) ∧ Below w.heap.size w w' := by
  have hjl := jn_len hG
  have HX : Hid (Calls Try.prog 19 #[.slice a N.length c, .string ⟨#[47]⟩] w fun e w' => e = .returned (.string (bsL (Lib.join (N.map (·.data.toList)) [47]))) ∧ Below w.heap.size w w') := join_any hN hc (by have := hG.1; omega) (by omega)
  have he : (⟨#[47]⟩ : ByteArray) ++ bsL (Lib.join (N.map (·.data.toList)) [47]) = bsL (frmL N) := bs_cat [47] _
  have hz : (bsL (Lib.join (N.map (·.data.toList)) [47])).size = (Lib.join (N.map (·.data.toList)) [47]).length := bsL_size _
  generalize bsL (Lib.join (N.map (·.data.toList)) [47]) = p at *
  have hps : p.size ≤ 1824 := by rw [hz]; exact hjl
  have h1 : (⟨#[47]⟩ : ByteArray).size = 1 := rfl
  clear hN hG hz hjl
  generalize bsL (frmL N) = q at *
  go_enter Try.func21, Try.ntmps21
  go_wp2_with fail
  refine HX.out.mono ?_
  rintro e w9 ⟨rfl, hw9⟩
  go_wp2_with fail
  go_ret
  exact ⟨by first | rfl | rw [he], hw9⟩
set_option maxRecDepth 100000 in
set_option maxHeartbeats 4000000 in
theorem form18_any {w : World} {a : Option Addr} {N : List ByteArray} {c : Nat} (hN : IsN w a N) (hG : GoodN N) :
    Calls Try.prog 15 #[.slice a N.length c] w fun e w' => e = .returned (.string (bsL (frmL N))) ∧ w' = w := by
  by_cases h0 : N = []
  · subst h0
    go_enter Try.func15, Try.ntmps15
    go_wp2_with fail
    go_ret
    exact ⟨rfl, rfl⟩
  · rw [frm_acc h0]
    have HN : Hid (IsN w a N) := hN
    have HG : Hid (GoodN N) := hG
    obtain ⟨n, hn⟩ : ∃ n, N.length = n := ⟨_, rfl⟩
    have HL : Hid (N.length = n) := hn
    have hn0 : ¬ (n : Int) = 0 := by have := List.length_pos_iff.2 h0; omega
    have hn32 : n ≤ 32 := by rw [← hn]; exact hG.1
    rw [hn]
    obtain ⟨r, hr⟩ : ∃ r, bsL (accN N) = r := ⟨_, rfl⟩
    rw [hr]
    have HR : Hid (bsL (accN N) = r) := hr
    clear hn hr hN hG h0
    go_enter Try.func15, Try.ntmps15
    go_wp2_with fail
    go_loop [3, 11] (fun u v => Hid (∃ i : Nat, i ≤ n ∧ v = .int .i64 (i : Int) ∧ u = .string (bsL (accN (N.take i))))) (fun u v => n - (intOf v).toNat)
    case atStart => exact ⟨0, by omega, rfl, rfl⟩
    case round =>
      obtain ⟨i, hin, rfl, rfl⟩ := Hid.out hrel
      clear hrel
      by_cases hi : i < n
      · have hiz : (i : Int) < (n : Int) := by omega
        have hi0 : (0 : Int) ≤ (i : Int) := by omega
        have hiN : i < N.length := by rw [HL.out]; exact hi
        obtain ⟨g, o, rfl, hg, hc⟩ := HN.out.at (j := i) hiN
        have hxs : (N[i]'hiN).size ≤ 56 := by rw [Lib.size_eq]; exact (isName_len (HG.out.2 _ (List.getElem_mem hiN))).2
        have hsn : N.take (i + 1) = N.take i ++ [N[i]'hiN] := (List.take_append_getElem hiN).symm
        obtain ⟨x, hx⟩ : ∃ x, N[i]'hiN = x := ⟨_, rfl⟩
        rw [hx] at hc hxs hsn
        have hcat : bsL (accN (N.take i)) ++ ((⟨#[47]⟩ : ByteArray) ++ x) = bsL (accN (N.take (i + 1))) := by
          rw [hsn, acc_snoc]
          have e1 : (⟨#[47]⟩ : ByteArray) ++ x = bsL (47 :: x.data.toList) := by
            have := bs_cat [47] x.data.toList
            rw [bsL_of] at this
            exact this
          rw [e1, bs_cat]
        have ha : (bsL (accN (N.take i))).size ≤ 1824 := by rw [bsL_size]; exact good_len (HG.out.take i)
        obtain ⟨q, hq⟩ : ∃ q, bsL (accN (N.take i)) = q := ⟨_, rfl⟩
        rw [hq] at hcat ha
        have HC : Hid (q ++ ((⟨#[47]⟩ : ByteArray) ++ x) = bsL (accN (N.take (i + 1)))) := hcat
        have h1 : (⟨#[47]⟩ : ByteArray).size = 1 := rfl
        have h2 : ((⟨#[47]⟩ : ByteArray) ++ x).size = 1 + x.size := by rw [ByteArray.size_append]; rfl
        rw [hq]
        clear hsn hx hcat hq
        go_wp2_with fail
        go_round
        case rel => exact ⟨i + 1, by omega, by first | rfl | go_num | simp, by rw [← HC.out]⟩
        case measure => simp [intOf]; omega
      · obtain rfl : i = n := by omega
        have hiz : ¬ (i : Int) < (i : Int) := by omega
        have he : bsL (accN (N.take i)) = r := by rw [List.take_of_length_le (by rw [HL.out]; exact Nat.le_refl _)]; exact HR.out
        rw [he]
        go_wp2_with fail
        go_ret
        exact ⟨rfl, rfl⟩
end Go.Proofs.Ytggacdlnpakehaa
