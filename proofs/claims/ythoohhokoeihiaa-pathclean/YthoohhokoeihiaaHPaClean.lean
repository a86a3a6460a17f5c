/- The one form of a path is read as its names. No program in it. -/
import Derived.Test.YthoohhokoeihiaaHPaParse2
import Derived.BigQuiet
import Derived.Deep.QuietTactic
import Derived.Shelf.Strings.OnBuilder
import Derived.Shelf.Slices.Equal
import Derived.Shelf.Slices.Clone
import Derived.Shelf.Slices.Empties2
import Derived.Test.YthoohhokoeihiaaProg
import Derived.Lib.FJoinFns

namespace Go.Proofs.Ythoohhokoeihiaa
open Go Go.RowKit Go.Shelf
set_option linter.unusedVariables false
set_option linter.unusedSimpArgs false
/-- a slice at a holds these texts -/
def IsN (w : World) (a : Option Addr) (N : List ByteArray) : Prop := N = [] ∨ ∃ g o, a = some ⟨g, o, none⟩ ∧ g < w.heap.size ∧ ∀ j x, N[j]? = some x → w.cell? ⟨g, o + j, none⟩ = some (.string x)
theorem IsN.below {w w' : World} {a : Option Addr} {N : List ByteArray} (h : IsN w a N) (hb : Below w.heap.size w w') : IsN w' a N := by
  rcases h with h | ⟨g, o, rfl, hg, hc⟩
  · exact .inl h
  · exact .inr ⟨g, o, rfl, Nat.lt_of_lt_of_le hg hb.size, fun j x hj => (hb.cell (p := ⟨g, o + j, none⟩) hg).trans (hc j x hj)⟩
theorem IsN.at {w : World} {a : Option Addr} {N : List ByteArray} (h : IsN w a N) {j : Nat} (hj : j < N.length) : ∃ g o, a = some ⟨g, o, none⟩ ∧ g < w.heap.size ∧ w.cell? ⟨g, o + j, none⟩ = some (.string N[j]) := by
  rcases h with rfl | ⟨g, o, rfl, hg, hc⟩
  · simp at hj
  · exact ⟨g, o, rfl, hg, hc j _ (List.getElem?_eq_getElem hj)⟩
theorem IsN.take {w : World} {a : Option Addr} {N : List ByteArray} (h : IsN w a N) (k : Nat) : IsN w a (N.take k) := by
  rcases h with rfl | ⟨g, o, rfl, hg, hc⟩
  · exact .inl (by simp)
  · refine .inr ⟨g, o, rfl, hg, fun j x hj => hc j x ?_⟩
    rw [List.getElem?_take] at hj
    split at hj
    · exact hj
    · cases hj
/-- an own slice of texts -/
theorem own_isN {w : World} {B n : Nat} {a : Option Addr} {m c : Nat} {N : List ByteArray} (h : w.ownsRow B 9 1 (.slice a m c) n (N.map Value.string)) : IsN w a N := by
  rcases h.2 with ⟨hv, hn⟩ | ⟨g, cap, cur, hv, hB, hg, hrest⟩
  · left
    have := h.1
    rw [hn] at this
    simpa using this
  · right
    cases hv
    refine ⟨g, 0, rfl, (Array.getElem?_eq_some_iff.1 hg).1, fun j x hj => ?_⟩
    have hl := (List.getElem?_eq_some_iff.1 hj).1
    have hn := h.1
    rw [List.length_map, Nat.mul_one] at hn
    rw [Nat.zero_add, h.cellAt j (by omega), List.getElem?_map, hj]
    rfl
set_option maxRecDepth 100000 in
set_option maxHeartbeats 4000000 in
theorem same18_any {w : World} {a b : Option Addr} {c d : Nat} {N M : List ByteArray} (hN : IsN w a N) (hM : IsN w b M) (h1 : N.length ≤ 9223372036854775807) (h2 : M.length ≤ 9223372036854775807) :
    Calls Try.prog 19 #[.slice a N.length c, .slice b M.length d] w fun e w' => e = .returned (.bool (decide (N = M))) ∧ Below w.heap.size w w' := by
  by_cases hl : N.length = M.length
  · obtain ⟨m, hm⟩ : ∃ m, decide (N = M) = m := ⟨_, rfl⟩
    rw [hm]
    have HM : Hid (decide (N = M) = m) := hm
    obtain ⟨n, hn⟩ : ∃ n, N.length = n := ⟨_, rfl⟩
    have hn2 : M.length = n := hl.symm.trans hn
    rw [hn] at h1 ⊢
    rw [hn2]
    have HN : Hid (IsN w a N) := hN
    have HM2 : Hid (IsN w b M) := hM
    have HL : Hid (N.length = n ∧ M.length = n) := ⟨hn, hn2⟩
    clear hm hN hM hn hn2 hl h2
    go_enter Try.func19, Try.ntmps19
    go_wp2_with fail
    go_loopw [13] (fun v wr => Hid (∃ i : Nat, i ≤ n ∧ v = .int .i64 (i : Int) ∧ (∀ j, j < i → N[j]? = M[j]?) ∧ Below w.heap.size w wr)) (fun v wr => n - (intOf v).toNat)
    case atStart => exact ⟨0, by omega, rfl, fun j hj => by omega, Below.refl _ _⟩
    case round =>
      obtain ⟨i, hin, rfl, hcl, hb⟩ := Hid.out hrel
      have HCL : Hid ((∀ j, j < i → N[j]? = M[j]?) ∧ Below w.heap.size w wr) := ⟨hcl, hb⟩
      clear hrel hcl
      by_cases hi : i < n
      · have hiz : (i : Int) < (n : Int) := by omega
        have hi0 : (0 : Int) ≤ (i : Int) := by omega
        obtain ⟨g, o, rfl, hg, hc⟩ := (HN.out.below hb).at (j := i) (by rw [HL.out.1]; exact hi)
        obtain ⟨g2, o2, rfl, hg2, hc2⟩ := (HM2.out.below hb).at (j := i) (by rw [HL.out.2]; exact hi)
        obtain ⟨x, hx⟩ : ∃ x, N[i]'(by rw [HL.out.1]; exact hi) = x := ⟨_, rfl⟩
        obtain ⟨y, hy⟩ : ∃ y, M[i]'(by rw [HL.out.2]; exact hi) = y := ⟨_, rfl⟩
        rw [hx] at hc
        rw [hy] at hc2
        have HXY : Hid (N[i]? = some x ∧ M[i]? = some y) := ⟨by rw [← hx]; exact List.getElem?_eq_getElem _, by rw [← hy]; exact List.getElem?_eq_getElem _⟩
        clear hx hy hb
        have hcd : ∀ k, (wr.drewN k).cell? ⟨g, o + i, none⟩ = some (.string x) := fun k => hc
        have hcd2 : ∀ k, (wr.drewN k).cell? ⟨g2, o2 + i, none⟩ = some (.string y) := fun k => hc2
        by_cases hxy : x = y
        · subst hxy
          have ht : (x.toList == x.toList) = true := by simp
          have HS : Hid (∀ j, j < i + 1 → N[j]? = M[j]?) := fun j hj => by
            rcases Nat.lt_succ_iff_lt_or_eq.1 hj with h | rfl
            · exact HCL.out.1 j h
            · rw [HXY.out.1, HXY.out.2]
          go_wp2_with fail
          go_quiet (fail)
          go_wp2_with fail
          go_roundw
          case rel => exact ⟨i + 1, by omega, by first | rfl | go_num | simp, HS.out, bdrewN HCL.out.2 _⟩
          case measure => simp [intOf]; omega
        · have ht : (x.toList == y.toList) = false := by
            rw [beq_eq_false_iff_ne]
            intro e
            rw [Lib.toList_data, Lib.toList_data] at e
            exact hxy (ba_ext e)
          obtain rfl : m = false := by
            rw [← HM.out]
            refine decide_eq_false fun e => hxy ?_
            have := HXY.out.1
            rw [e, HXY.out.2] at this
            injection this with this
            exact this.symm
          clear hxy
          go_wp2_with fail
          go_quiet (fail)
          go_wp2_with fail
          go_ret
          exact ⟨rfl, bdrewN HCL.out.2 _⟩
      · obtain rfl : i = n := by omega
        have hiz : ¬ (i : Int) < (i : Int) := by omega
        obtain rfl : m = true := by
          rw [← HM.out]
          refine decide_eq_true (List.ext_getElem? fun j => ?_)
          by_cases hj : j < i
          · exact HCL.out.1 j hj
          · rw [List.getElem?_eq_none (by rw [HL.out.1]; omega), List.getElem?_eq_none (by rw [HL.out.2]; omega)]
        go_wp2_with fail
        go_ret
        exact ⟨rfl, HCL.out.2⟩
  · have hz : ¬ (N.length : Int) = (M.length : Int) := by omega
    rw [decide_eq_false (fun e => hl (by rw [e]))]
    go_enter Try.func19, Try.ntmps19
    go_wp2_with fail
    go_ret
    exact ⟨rfl, Below.refl _ _⟩
set_option maxRecDepth 100000 in
set_option maxHeartbeats 4000000 in
/-- the statements' same -/
theorem lsame_any {w : World} {a b : Option Addr} {c d : Nat} {N M : List ByteArray} (hN : IsN w a N) (hM : IsN w b M) (h1 : N.length ≤ 9223372036854775807) (h2 : M.length ≤ 9223372036854775807) (p q : Bool) :
    Calls Try.prog 12 #[.agg #[.slice a N.length c, .bool p], .agg #[.slice b M.length d, .bool q]] w fun e w' => e = .returned (.bool (decide (p = q) && decide (N = M))) ∧ Below w.heap.size w w' := by
  have HX : Hid (∀ V, Below w.heap.size w V → Calls Try.prog 19 #[.slice a N.length c, .slice b M.length d] V fun e w' => e = .returned (.bool (decide (N = M))) ∧ Below V.heap.size V w') := fun V hV => same18_any (hN.below hV) (hM.below hV) h1 h2
  generalize decide (N = M) = m at *
  have hb2 : Below w.heap.size w ((w.alloc (.cells #[.slice a N.length c, .bool p] 25)).alloc (.cells #[.slice b M.length d, .bool q] 29)) := ((Below.refl _ w).alloc (Nat.le_refl _) _).alloc (by simp) _
  clear hN hM
  cases p <;> cases q
  · go_enter Try.func12, Try.ntmps12
    go_wp2_with fail
    refine (HX.out _ hb2).mono ?_
    rintro e w9 ⟨rfl, hw9⟩
    go_wp2_with fail
    go_ret
    exact ⟨by simp, hb2.trans (hw9.mono hb2.size)⟩
  · go_enter Try.func12, Try.ntmps12
    go_wp2_with fail
    go_ret
    exact ⟨by simp, hb2⟩
  · go_enter Try.func12, Try.ntmps12
    go_wp2_with fail
    go_ret
    exact ⟨by simp, hb2⟩
  · go_enter Try.func12, Try.ntmps12
    go_wp2_with fail
    refine (HX.out _ hb2).mono ?_
    rintro e w9 ⟨rfl, hw9⟩
    go_wp2_with fail
    go_ret
    exact ⟨by simp, hb2.trans (hw9.mono hb2.size)⟩
end Go.Proofs.Ythoohhokoeihiaa

namespace Go.Proofs
open Go.Shelf
def Try.joinA_ren : Go.Shelf.Ren := ⟨fun | 156 => 41 | 165 => 50 | 166 => 51 | 169 => 52 | 240 => 57 | 241 => 58 | 276 => 64 | 277 => 65 | n => n, fun | 31 => 23 | 9 => 9 | 3 => 3 | 4 => 4 | 0 => 0 | 20 => 20 | 72 => 77 | 76 => 81 | 70 => 74 | 37 => 75 | 75 => 80 | 127 => 84 | 164 => 99 | 5 => 5 | 80 => 83 | n => n, fun | n => n⟩
theorem Try.joinA : Go.Proofs.Lays.n156 Try.prog Try.joinA_ren := {
  mixed := by kernel_rfl
  f156 := Try.func41.trans (congrArg some (by kernel_rfl))
  f165 := Try.func50.trans (congrArg some (by kernel_rfl))
  f166 := Try.func51.trans (congrArg some (by kernel_rfl))
  f169 := Try.func52.trans (congrArg some (by kernel_rfl))
  f240 := Try.func57.trans (congrArg some (by kernel_rfl))
  f241 := Try.func58.trans (congrArg some (by kernel_rfl))
  f276 := Try.func64.trans (congrArg some (by kernel_rfl))
  f277 := Try.func65.trans (congrArg some (by kernel_rfl))
  t0 := Try.underlying0
  a0 := Try.isAgg0
  z0 := Try.sizeOf0
  v0 := Try.zeroValue0
  t3 := Try.underlying3
  a3 := Try.isAgg3
  z3 := Try.sizeOf3
  v3 := Try.zeroValue3
  t4 := Try.underlying4
  a4 := Try.isAgg4
  z4 := Try.sizeOf4
  v4 := Try.zeroValue4
  t9 := Try.underlying9
  a9 := Try.isAgg9
  z9 := Try.sizeOf9
  v9 := Try.zeroValue9
  t20 := Try.underlying20
  a20 := Try.isAgg20
  z20 := Try.sizeOf20
  v20 := Try.zeroValue20
  t31 := Try.underlying23
  a31 := Try.isAgg23
  z31 := Try.sizeOf23
  v31 := Try.zeroValue23
  t37 := Try.underlying75
  a37 := Try.isAgg75
  z37 := Try.sizeOf75
  v37 := Try.zeroValue75
  t70 := Try.underlying74
  a70 := Try.isAgg74
  z70 := Try.sizeOf74
  v70 := Try.zeroValue74
  t72 := Try.underlying77
  a72 := Try.isAgg77
  z72 := Try.sizeOf77
  v72 := Try.zeroValue77
  t75 := Try.underlying80
  a75 := Try.isAgg80
  z75 := Try.sizeOf80
  v75 := Try.zeroValue80
  t76 := Try.underlying81
  a76 := Try.isAgg81
  z76 := Try.sizeOf81
  v76 := Try.zeroValue81
  t127 := Try.underlying84
  a127 := Try.isAgg84
  z127 := Try.sizeOf84
  v127 := Try.zeroValue84
  t164 := Try.underlying99
  a164 := Try.isAgg99
  z164 := Try.sizeOf99
  v164 := Try.zeroValue99 }
def Try.equalA_ren : Go.Shelf.Ren := ⟨fun | 193 => 39 | n => n, fun | 31 => 23 | 9 => 9 | 4 => 4 | 3 => 3 | 0 => 0 | n => n, fun | n => n⟩
theorem Try.equalA : Go.Proofs.Lays.n193 Try.prog Try.equalA_ren := {
  mixed := by kernel_rfl
  f193 := Try.func39.trans (congrArg some (by kernel_rfl))
  t0 := Try.underlying0
  a0 := Try.isAgg0
  z0 := Try.sizeOf0
  v0 := Try.zeroValue0
  t3 := Try.underlying3
  a3 := Try.isAgg3
  z3 := Try.sizeOf3
  v3 := Try.zeroValue3
  t4 := Try.underlying4
  a4 := Try.isAgg4
  z4 := Try.sizeOf4
  v4 := Try.zeroValue4
  t9 := Try.underlying9
  a9 := Try.isAgg9
  z9 := Try.sizeOf9
  v9 := Try.zeroValue9
  t31 := Try.underlying23
  a31 := Try.isAgg23
  z31 := Try.sizeOf23
  v31 := Try.zeroValue23 }
end Go.Proofs

namespace Go.Proofs.Ythoohhokoeihiaa
open Go Go.RowKit Go.Shelf
set_option linter.unusedVariables false
set_option linter.unusedSimpArgs false
/-- at most 32 names -/
def GoodN (N : List ByteArray) : Prop := N.length ≤ 32 ∧ ∀ x ∈ N, isName x.data.toList = true
theorem GoodN.nil : GoodN [] := ⟨by simp, by simp⟩
theorem GoodN.drop {N : List ByteArray} (h : GoodN N) : GoodN N.dropLast := ⟨by have := h.1; simp; omega, fun x hx => h.2 x (List.dropLast_subset N hx)⟩
theorem GoodN.take {N : List ByteArray} (h : GoodN N) (k : Nat) : GoodN (N.take k) := ⟨by have := h.1; simp; omega, fun x hx => h.2 x (List.take_subset k N hx)⟩
theorem good_nxt {N : List ByteArray} {p : ByteArray} (h : GoodN N) (hb : badE N p = 0) : GoodN (nxtN N p) := by
  unfold nxtN
  unfold badE at hb
  by_cases q1 : p.data.toList = [46]
  · rw [if_pos q1]; exact h
  rw [if_neg q1] at hb ⊢
  by_cases q2 : p.data.toList = [46, 46]
  · rw [if_pos q2]; exact h.drop
  rw [if_neg q2] at hb ⊢
  by_cases q3 : isName p.data.toList = true
  · rw [if_pos q3] at hb
    by_cases q4 : 32 ≤ N.length
    · rw [if_pos q4] at hb; exact absurd hb (by decide)
    · refine ⟨by simp; omega, fun x hx => ?_⟩
      rcases List.mem_append.1 hx with hx | hx
      · exact h.2 x hx
      · rw [List.mem_singleton.1 hx]; exact q3
  · rw [if_neg q3] at hb; exact absurd hb (by decide)
theorem good_run : ∀ (xs : List (Nat × ByteArray)) (N : List ByteArray) (d : Bool), GoodN N → GoodN (runP N d xs).1
  | [], N, d, h => h
  | x :: xs, N, d, h => by
    rw [runP]
    by_cases hb : badE N x.2 = 0
    · rw [if_pos hb]; exact good_run xs _ _ (good_nxt h hb)
    · rw [if_neg hb]; exact GoodN.nil
theorem good_prs (l : List UInt8) : GoodN (prs l).1 := by
  unfold prs
  split
  · exact GoodN.nil
  · split
    · split
      · exact good_run _ _ _ GoodN.nil
      · exact GoodN.nil
    · exact GoodN.nil
/-- the one form -/
def frmL (N : List ByteArray) : List UInt8 := 47 :: Lib.join (N.map (·.data.toList)) [47]
/-- a slash ahead of each -/
def accN (N : List ByteArray) : List UInt8 := Lib.joinTail [47] (N.map (·.data.toList))
theorem frm_acc {N : List ByteArray} (h : N ≠ []) : frmL N = accN N := by
  cases N with
  | nil => exact absurd rfl h
  | cons x N =>
    unfold frmL accN
    rw [List.map_cons, Lib.join_cons]
    simp [Lib.joinTail]
theorem frm_nil : frmL [] = [47] := rfl
theorem acc_snoc (N : List ByteArray) (x : ByteArray) : accN (N ++ [x]) = accN N ++ 47 :: x.data.toList := by
  unfold accN
  simp [Lib.joinTail]
theorem acc_len : ∀ N : List ByteArray, (accN N).length = N.length + (N.map fun x => x.size).sum
  | [] => rfl
  | x :: N => by
    have ih := acc_len N
    unfold accN at ih ⊢
    simp only [Lib.joinTail, List.map_cons, List.flatten_cons, List.length_append, List.length_cons, List.sum_cons, List.length_nil, Lib.size_eq] at ih ⊢
    omega
theorem sum_le : ∀ (N : List ByteArray), (∀ x ∈ N, isName x.data.toList = true) → (N.map fun x => x.size).sum ≤ 56 * N.length
  | [], _ => by simp
  | x :: N, h => by
    have ih := sum_le N fun y hy => h y (List.mem_cons_of_mem _ hy)
    have := (isName_len (h x (by simp))).2
    rw [← Lib.size_eq] at this
    simp only [List.map_cons, List.sum_cons, List.length_cons]
    omega
theorem good_len {N : List ByteArray} (h : GoodN N) : (accN N).length ≤ 1824 := by
  have := sum_le N h.2
  have := h.1
  rw [acc_len]
  omega
theorem frm_len {N : List ByteArray} (h : GoodN N) : (frmL N).length ≤ 1824 := by
  by_cases hN : N = []
  · rw [hN, frm_nil]; decide
  · rw [frm_acc hN]; exact good_len h
theorem jn_len {N : List ByteArray} (h : GoodN N) : (Lib.join (N.map (·.data.toList)) [47]).length ≤ 1824 := by
  have := frm_len h
  unfold frmL at this
  rw [List.length_cons] at this
  omega
theorem bx_join : Builder.Extra Try.prog Try.joinA_ren where
  sizeBuilder := by kernel_rfl
  liesBuilder := by kernel_rfl
  t5 := Try.underlying5
  a5 := Try.isAgg5
  z5 := Try.sizeOf5
  v5 := Try.zeroValue5
  infoByte := by kernel_rfl
  cellsByte := by kernel_rfl
  sizeByte := by kernel_rfl
  neB5 := by decide
theorem join_any {w : World} {a : Option Addr} {N : List ByteArray} {c : Nat} (hN : IsN w a N) (hc : N.length ≤ c) (hl : N.length ≤ 1000000) (hj : (Lib.join (N.map (·.data.toList)) [47]).length ≤ 1000000) :
    Calls Try.prog 41 #[.slice a N.length c, .string ⟨#[47]⟩] w fun e w' => e = .returned (.string (bsL (Lib.join (N.map (·.data.toList)) [47]))) ∧ Below w.heap.size w w' := by
  rcases hN with rfl | ⟨g, o, rfl, hg, hcs⟩
  · refine (Any.strings_Join_none Try.joinA bx_join a c ⟨#[47]⟩ w).mono ?_
    rintro e w' ⟨rfl, rfl⟩
    exact ⟨rfl, Below.refl _ _⟩
  · exact Any.strings_Join Try.joinA bx_join g o c N ⟨#[47]⟩ w hcs hg (by omega) hc (by show (Lib.join (N.map (·.data.toList)) [47]).length ≤ _; omega)
theorem bs_cat (a b : List UInt8) : bsL a ++ bsL b = bsL (a ++ b) := by
  apply ba_ext
  rw [bsL_data]
  show (ByteArray.append (bsL a) (bsL b)).data.toList = _
  rw [show ByteArray.append (bsL a) (bsL b) = bsL a ++ bsL b from rfl]
  simp [bsL]
set_option maxRecDepth 100000 in
set_option maxHeartbeats 4000000 in
theorem oneForm_any {w : World} {a : Option Addr} {N : List ByteArray} {c : Nat} (hN : IsN w a N) (hc : N.length ≤ c) (hG : GoodN N) :
    Calls Try.prog 34 #[.slice a N.length c] w fun e w' => e = .returned (.string (bsL (frmL N))) ∧ Below w.heap.size w w' := by
  have hjl := jn_len hG
  have HX : Hid (Calls Try.prog 41 #[.slice a N.length c, .string ⟨#[47]⟩] w fun e w' => e = .returned (.string (bsL (Lib.join (N.map (·.data.toList)) [47]))) ∧ Below w.heap.size w w') := join_any hN hc (by have := hG.1; omega) (by omega)
  have he : (⟨#[47]⟩ : ByteArray) ++ bsL (Lib.join (N.map (·.data.toList)) [47]) = bsL (frmL N) := bs_cat [47] _
  have hz : (bsL (Lib.join (N.map (·.data.toList)) [47])).size = (Lib.join (N.map (·.data.toList)) [47]).length := bsL_size _
  generalize bsL (Lib.join (N.map (·.data.toList)) [47]) = p at *
  have hps : p.size ≤ 1824 := by rw [hz]; exact hjl
  have h1 : (⟨#[47]⟩ : ByteArray).size = 1 := rfl
  clear hN hG hz hjl
  generalize bsL (frmL N) = q at *
  go_enter Try.func34, Try.ntmps34
  go_wp2_with fail
  refine HX.out.mono ?_
  rintro e w9 ⟨rfl, hw9⟩
  go_wp2_with fail
  go_ret
  exact ⟨by first | rfl | rw [he], hw9⟩
end Go.Proofs.Ythoohhokoeihiaa

namespace Go.Proofs.Ythoohhokoeihiaa
open Go Go.RowKit Go.Shelf
set_option linter.unusedVariables false
set_option linter.unusedSimpArgs false
/-- what Print answers: text, place, error -/
inductive PrtIs (N : List ByteArray) : ByteArray → Nat → Int → Prop
  | bad (i : Nat) (x : ByteArray) (hx : N[i]? = some x) (hb : isName x.data.toList = false) (hl : ∀ j y, j < i → N[j]? = some y → isName y.data.toList = true) : PrtIs N ⟨#[]⟩ i 130
  | deep (ha : ∀ y ∈ N, isName y.data.toList = true) (hd : 32 < N.length) : PrtIs N ⟨#[]⟩ 32 182
  | long (hg : GoodN N) (hl : 1024 < (frmL N).length) : PrtIs N ⟨#[]⟩ 0 181
  | ok (hg : GoodN N) (hl : (frmL N).length ≤ 1024) : PrtIs N (bsL (frmL N)) 0 0
theorem prt_at {N : List ByteArray} {t : ByteArray} {i : Nat} {e : Int} (h : PrtIs N t i e) {k : Nat} {x : ByteArray} (hx : N[k]? = some x) (hb : isName x.data.toList = false) (hl : ∀ j y, j < k → N[j]? = some y → isName y.data.toList = true) : t = ⟨#[]⟩ ∧ i = k ∧ e = 130 := by
  have hm : x ∈ N := List.mem_of_getElem? hx
  cases h with
  | bad i x' hx' hb' hl' =>
    refine ⟨rfl, ?_, rfl⟩
    rcases Nat.lt_trichotomy i k with h | h | h
    · have := hl i x' h hx'; rw [hb'] at this; cases this
    · exact h
    · have := hl' k x h hx; rw [hb] at this; cases this
  | deep ha hd => have := ha x hm; rw [hb] at this; cases this
  | long hg hl' => have := hg.2 x hm; rw [hb] at this; cases this
  | ok hg hl' => have := hg.2 x hm; rw [hb] at this; cases this
theorem prt_all {N : List ByteArray} {t : ByteArray} {i : Nat} {e : Int} (h : PrtIs N t i e) (ha : ∀ y ∈ N, isName y.data.toList = true) : (32 < N.length ∧ t = ⟨#[]⟩ ∧ i = 32 ∧ e = 182) ∨ (GoodN N ∧ 1024 < (frmL N).length ∧ t = ⟨#[]⟩ ∧ i = 0 ∧ e = 181) ∨ (GoodN N ∧ (frmL N).length ≤ 1024 ∧ t = bsL (frmL N) ∧ i = 0 ∧ e = 0) := by
  cases h with
  | bad i x' hx' hb' hl' => have := ha x' (List.mem_of_getElem? hx'); rw [hb'] at this; cases this
  | deep ha hd => exact .inl ⟨hd, rfl, rfl, rfl⟩
  | long hg hl' => exact .inr (.inl ⟨hg, hl', rfl, rfl, rfl⟩)
  | ok hg hl' => exact .inr (.inr ⟨hg, hl', rfl, rfl, rfl⟩)
theorem all_of {N : List ByteArray} {n : Nat} (hn : N.length = n) (h : ∀ j y, j < n → N[j]? = some y → isName y.data.toList = true) : ∀ y ∈ N, isName y.data.toList = true := fun y hy => by
  obtain ⟨j, hj, e⟩ := List.getElem_of_mem hy
  exact h j y (by omega) (by rw [← e]; exact List.getElem?_eq_getElem hj)
set_option maxRecDepth 100000 in
set_option maxHeartbeats 4000000 in
theorem print_any {w : World} {a : Option Addr} {N : List ByteArray} {c : Nat} (hN : IsN w a N) (hc : N.length ≤ c) (h1 : N.length ≤ 9223372036854775807) {t : ByteArray} {i : Nat} {z : Int} (hp : PrtIs N t i z) :
    Calls Try.prog 17 #[.slice a N.length c] w fun e w' => e = .returned (.tuple #[.string t, .int .i64 (i : Int), .int .i64 z]) ∧ Below w.heap.size w w' := by
  obtain ⟨n, hn⟩ : ∃ n, N.length = n := ⟨_, rfl⟩
  have HF : Hid (GoodN N → ∀ V, Below w.heap.size w V → Calls Try.prog 34 #[.slice a n c] V fun e w' => e = .returned (.string (bsL (frmL N))) ∧ Below V.heap.size V w') := fun hg V hV => by
    have := oneForm_any (c := c) (hN.below hV) hc hg
    rwa [hn] at this
  rw [hn] at h1 ⊢
  have HL : Hid (N.length = n) := hn
  have HN : Hid (IsN w a N) := hN
  have HP : Hid (PrtIs N t i z) := hp
  have HK : Hid (∀ (x : ByteArray) (w : World), Calls Try.prog 36 #[.string x] w fun e w' => e = .returned (.int .i64 (if isName x.data.toList = true then 0 else 130)) ∧ Below w.heap.size w w') := fun x w => check_any x w
  clear hN hn hp hc
  go_enter Try.func17, Try.ntmps17
  go_wp2_with fail
  go_loopw [11] (fun v wr => Hid (∃ k : Nat, k ≤ n ∧ v = .int .i64 (k : Int) ∧ (∀ j y, j < k → N[j]? = some y → isName y.data.toList = true) ∧ Below w.heap.size w wr)) (fun v wr => n - (intOf v).toNat)
  case atStart => exact ⟨0, by omega, rfl, fun j y hj => by omega, Below.refl _ _⟩
  case round =>
    obtain ⟨k, hkn, rfl, hcl, hb⟩ := Hid.out hrel
    have HCL : Hid (_ ∧ _) := ⟨hcl, hb⟩
    clear hrel hcl
    by_cases hk : k < n
    · have hkz : (k : Int) < (n : Int) := by omega
      have hk0 : (0 : Int) ≤ (k : Int) := by omega
      have hkN : k < N.length := by rw [HL.out]; exact hk
      obtain ⟨g, o, rfl, hg, hc⟩ := (HN.out.below hb).at (j := k) hkN
      obtain ⟨x, hx⟩ : ∃ x, N[k]'hkN = x := ⟨_, rfl⟩
      rw [hx] at hc
      have HX : Hid (N[k]? = some x) := by show N[k]? = _; rw [← hx]; exact List.getElem?_eq_getElem _
      have HKx := HK.out x
      clear hx hb hkN
      cases hnm : isName x.data.toList
      · obtain ⟨rfl, rfl, rfl⟩ := prt_at HP.out HX.out hnm HCL.out.1
        rw [hnm] at HKx
        simp only [Bool.false_eq_true, if_false] at HKx
        clear hnm
        go_wp2_with fail
        refine (HKx _).mono ?_
        rintro e w2 ⟨rfl, hb2⟩
        go_wp2_with fail
        go_ret3
        exact ⟨rfl, HCL.out.2.trans (hb2.mono HCL.out.2.size)⟩
      · rw [hnm] at HKx
        simp only [if_true] at HKx
        have HS : Hid (∀ j y, j < k + 1 → N[j]? = some y → isName y.data.toList = true) := fun j y hj hy => by
          rcases Nat.lt_succ_iff_lt_or_eq.1 hj with h | rfl
          · exact HCL.out.1 j y h hy
          · rw [HX.out] at hy; injection hy with hy; rw [← hy]; exact hnm
        clear hnm
        go_wp2_with fail
        refine (HKx _).mono ?_
        rintro e w2 ⟨rfl, hb2⟩
        go_wp2_with fail
        go_roundw
        case rel => exact ⟨k + 1, by omega, by first | rfl | go_num | simp, HS.out, HCL.out.2.trans (hb2.mono HCL.out.2.size)⟩
        case measure => simp [intOf]; omega
    · obtain rfl : k = n := by omega
      have hkz : ¬ (k : Int) < (k : Int) := by omega
      have HB : Hid (Below w.heap.size w wr) := hb
      rcases prt_all HP.out (all_of HL.out HCL.out.1) with ⟨hd, rfl, rfl, rfl⟩ | ⟨hg, hl, rfl, rfl, rfl⟩ | ⟨hg, hl, ht, rfl, rfl⟩
      · rw [HL.out] at hd
        have hdz : (32 : Int) < (k : Int) := by omega
        go_wp2_with fail
        go_ret3
        exact ⟨rfl, HB.out⟩
      · have hdz : ¬ (32 : Int) < (k : Int) := by have := hg.1; rw [HL.out] at this; omega
        have HFx := HF.out hg wr HB.out
        have hfl : (1024 : Int) < ((bsL (frmL N)).size : Int) := by rw [bsL_size]; omega
        generalize bsL (frmL N) = q at *
        clear hg hl hb
        go_wp2_with fail
        refine HFx.mono ?_
        rintro e w2 ⟨rfl, hb2⟩
        go_wp2_with fail
        go_ret3
        exact ⟨rfl, HB.out.trans (hb2.mono HB.out.size)⟩
      · have hdz : ¬ (32 : Int) < (k : Int) := by have := hg.1; rw [HL.out] at this; omega
        have HFx := HF.out hg wr HB.out
        have hfl : ¬ (1024 : Int) < ((bsL (frmL N)).size : Int) := by rw [bsL_size]; omega
        rw [← ht] at HFx hfl
        clear hg hl ht hb
        go_wp2_with fail
        refine HFx.mono ?_
        rintro e w2 ⟨rfl, hb2⟩
        go_wp2_with fail
        go_ret3
        exact ⟨rfl, HB.out.trans (hb2.mono HB.out.size)⟩
end Go.Proofs.Ythoohhokoeihiaa

namespace Go.Proofs.Ythoohhokoeihiaa
open Go Go.RowKit Go.Shelf
set_option linter.unusedVariables false
set_option linter.unusedSimpArgs false
/-- the text that Clean answers -/
def clnS (l : List UInt8) : ByteArray := if (prs l).2.2.2 = 0 then bsL (frmL (prs l).1) else ⟨#[]⟩
theorem own_cap {w : World} {B n m c : Nat} {a : Option Addr} {t : TypeId} {xs : List Value} (h : w.ownsRow B t 1 (.slice a m c) n xs) : n ≤ c := by
  rcases h.2 with ⟨hv, hn⟩ | ⟨g, cap, cur, hv, _, _, hc, _⟩
  · omega
  · cases hv; exact hc
/-- Parse told in single things -/
theorem parse_at (s : ByteArray) {N : List ByteArray} {d : Bool} {i : Nat} {z : Int} (hp : prs s.data.toList = (N, d, i, z)) (w : World) : Calls Try.prog 10 #[.string s] w fun e w' => ∃ (a : Option Addr) (c : Nat), e = .returned (.tuple #[.agg #[.slice a N.length c, .bool d], .int .i64 (i : Int), .int .i64 z]) ∧ w'.ownsRow w.heap.size 9 1 (.slice a N.length c) N.length (N.map Value.string) ∧ Below w.heap.size w w' := by
  refine (parse_any s w).mono ?_
  rintro e w' ⟨v, he, ho, hb⟩
  rw [hp] at he ho
  obtain ⟨a, c, rfl⟩ := kown_slice ho
  exact ⟨a, c, he, ho, hb⟩
set_option maxRecDepth 100000 in
set_option maxHeartbeats 4000000 in
theorem clean_any (s : ByteArray) (w : World) : Calls Try.prog 13 #[.string s] w fun e w' => e = .returned (.tuple #[.string (clnS s.data.toList), .int .i64 (prs s.data.toList).2.2.2]) ∧ Below w.heap.size w w' := by
  obtain ⟨N, d, i, z, hp⟩ : ∃ N d i z, prs s.data.toList = (N, d, i, z) := ⟨_, _, _, _, rfl⟩
  have hG : GoodN N := by have := good_prs s.data.toList; rwa [hp] at this
  unfold clnS
  rw [hp]
  have HX : Hid (∀ w : World, Calls Try.prog 10 #[.string s] w fun e w' => ∃ (a : Option Addr) (c : Nat), e = .returned (.tuple #[.agg #[.slice a N.length c, .bool d], .int .i64 (i : Int), .int .i64 z]) ∧ w'.ownsRow w.heap.size 9 1 (.slice a N.length c) N.length (N.map Value.string) ∧ Below w.heap.size w w') := fun w => parse_at s hp w
  have HG : Hid (GoodN N) := hG
  clear hp hG
  by_cases hz : z = 0
  · subst hz
    rw [if_pos (show (N, d, i, (0 : Int)).2.2.2 = 0 from rfl)]
    generalize hq : bsL (frmL (N, d, i, (0 : Int)).1) = q
    have HQ : Hid (bsL (frmL N) = q) := hq
    clear hq
    show Calls _ _ _ _ fun e w' => e = .returned (.tuple #[.string q, .int .i64 0]) ∧ _
    go_enter Try.func13, Try.ntmps13
    go_wp2_with fail
    refine (HX.out _).mono ?_
    rintro e w1 ⟨a, c, rfl, ho, hb⟩
    have hb2 : Below w1.heap.size w1 (w1.alloc (.cells #[.slice a N.length c, .bool d] 25)) := (Below.refl _ w1).alloc (Nat.le_refl _) _
    have HF : Hid (Calls Try.prog 34 #[.slice a N.length c] (w1.alloc (.cells #[.slice a N.length c, .bool d] 25)) fun e w' => e = .returned (.string q) ∧ Below (w1.alloc (.cells #[.slice a N.length c, .bool d] 25)).heap.size (w1.alloc (.cells #[.slice a N.length c, .bool d] 25)) w') := by
      have := oneForm_any (c := c) (own_isN (kown_below ho hb2)) (own_cap ho) HG.out
      rwa [HQ.out] at this
    have HB : Hid (Below w.heap.size w (w1.alloc (.cells #[.slice a N.length c, .bool d] 25))) := hb.trans (hb2.mono hb.size)
    clear ho hb hb2
    go_wp2_with fail
    refine HF.out.mono ?_
    rintro e w3 ⟨rfl, hb3⟩
    go_wp2_with fail
    go_ret2
    exact ⟨rfl, HB.out.trans (hb3.mono HB.out.size)⟩
  · rw [if_neg (show ¬ (N, d, i, z).2.2.2 = 0 from hz)]
    show Calls _ _ _ _ fun e w' => e = .returned (.tuple #[.string ⟨#[]⟩, .int .i64 z]) ∧ _
    go_enter Try.func13, Try.ntmps13
    go_wp2_with fail
    refine (HX.out _).mono ?_
    rintro e w1 ⟨a, c, rfl, ho, hb⟩
    have hb2 : Below w1.heap.size w1 (w1.alloc (.cells #[.slice a N.length c, .bool d] 25)) := (Below.refl _ w1).alloc (Nat.le_refl _) _
    have HB : Hid (Below w.heap.size w (w1.alloc (.cells #[.slice a N.length c, .bool d] 25))) := hb.trans (hb2.mono hb.size)
    clear ho hb hb2
    go_wp2_with fail
    go_ret2
    exact ⟨rfl, HB.out⟩
end Go.Proofs.Ythoohhokoeihiaa

namespace Go.Proofs.Ythoohhokoeihiaa
open Go Go.RowKit
set_option linter.unusedVariables false
set_option linter.unusedSimpArgs false
theorem name_bytes {l : List UInt8} (h : isName l = true) : ∀ b ∈ l, b ≠ 47 := by
  intro b hb e
  obtain ⟨i, hi, e2⟩ := List.getElem_of_mem hb
  have h2 : has2 l = true := has2_yes (b := b) (by rw [← e2]; exact List.getElem?_eq_getElem hi) (.inr e)
  unfold isName at h
  rw [h2] at h
  simp at h
theorem name_ne {l : List UInt8} (h : isName l = true) : l ≠ [] ∧ l ≠ [46] ∧ l ≠ [46, 46] := by
  refine ⟨?_, ?_, ?_⟩ <;> (intro e; rw [e] at h; revert h; simp [isName])
theorem take_name : ∀ {x : List UInt8} (r : List UInt8), (∀ b ∈ x, b ≠ 47) → (r = [] ∨ ∃ r', r = 47 :: r') → (x ++ r).takeWhile (fun b => b != 47) = x
  | [], r, _, hr => by
    rcases hr with rfl | ⟨r', rfl⟩
    · rfl
    · rfl
  | b :: x, r, h, hr => by
    rw [List.cons_append, List.takeWhile_cons, if_pos (by simpa using h b (by simp)), take_name r (fun c hc => h c (by simp [hc])) hr]
theorem acc_cons (x : ByteArray) (N : List ByteArray) : accN (x :: N) = 47 :: (x.data.toList ++ accN N) := by
  unfold accN
  simp [Lib.joinTail]
theorem acc_head (N : List ByteArray) : accN N = [] ∨ ∃ r, accN N = 47 :: r := by
  cases N with
  | nil => exact .inl rfl
  | cons x N => exact .inr ⟨_, acc_cons x N⟩
theorem run_acc : ∀ (N M : List ByteArray) (d : Bool) (A : List UInt8), (∀ x ∈ N, isName x.data.toList = true) → M.length + N.length ≤ 32 → runP M d (pts (A ++ accN N) A.length) = (M ++ N, (if N = [] then d else false), 0, 0)
  | [], M, d, A, _, _ => by
    rw [pts_end (by simp [accN, Lib.joinTail])]
    simp [runP]
  | x :: N, M, d, A, h, hl => by
    have hx := h x (by simp)
    have e0 : (A ++ accN (x :: N))[A.length]? = some 47 := by
      rw [List.getElem?_append_right (Nat.le_refl _), Nat.sub_self, acc_cons]
      rfl
    have e1 : segL (A ++ accN (x :: N)) (A.length + 1) = x.data.toList := by
      unfold segL
      have e9 : (A ++ accN (x :: N)).drop (A.length + 1) = x.data.toList ++ accN N := by
        rw [acc_cons, List.drop_append, List.drop_eq_nil_of_le (by omega), List.nil_append]
        simp
      rw [e9]
      exact take_name _ (name_bytes hx) (acc_head N)
    have hlt : A.length + 1 < (A ++ accN (x :: N)).length := by
      rw [acc_cons]
      have := (isName_len hx).1
      simp only [List.length_append, List.length_cons]
      omega
    rw [pts_slash e0, pts_part hlt (by rw [e1]; exact (name_ne hx).1), ← pts_behind]
    rw [e1, bsL_of]
    have hb : badE M x = 0 := by
      unfold badE
      rw [if_neg (name_ne hx).2.1, if_neg (name_ne hx).2.2, if_pos hx, if_neg (by simp at hl; omega)]
    rw [runP_good (x := (A.length + 1, x)) hb]
    have hn : nxtN M x = M ++ [x] := by
      unfold nxtN
      rw [if_neg (name_ne hx).2.1, if_neg (name_ne hx).2.2]
    have hd : dirP x = false := by
      unfold dirP
      rw [decide_eq_false (name_ne hx).2.1, decide_eq_false (name_ne hx).2.2]
      rfl
    show runP (nxtN M x) (dirP x) _ = _
    rw [hn, hd]
    have e2 : A ++ accN (x :: N) = (A ++ 47 :: x.data.toList) ++ accN N := by rw [acc_cons]; simp
    have e3 : A.length + 1 + x.data.toList.length = (A ++ 47 :: x.data.toList).length := by simp; omega
    rw [e2, e3, run_acc N (M ++ [x]) false (A ++ 47 :: x.data.toList) (fun y hy => h y (by simp [hy])) (by simp at hl ⊢; omega)]
    simp
theorem end_acc {N : List ByteArray} (h : ∀ x ∈ N, isName x.data.toList = true) (hN : N ≠ []) : endS (accN N) = false := by
  obtain ⟨M, y, rfl⟩ : ∃ M y, N = M ++ [y] := by
    rcases List.eq_nil_or_concat N with h0 | ⟨M, y, e⟩
    · exact absurd h0 hN
    · exact ⟨M, y, by rw [e, List.concat_eq_append]⟩
  have hy := h y (by simp)
  unfold endS
  rw [acc_snoc]
  refine decide_eq_false fun e => ?_
  have hne := (name_ne hy).1
  have hb := name_bytes hy
  rw [List.getLast?_append, List.getLast?_cons, List.getLast?_eq_some_getLast hne] at e
  clear h hN hy
  generalize y.data.toList = l at *
  simp at e
  exact hb _ (List.getLast_mem hne) e
theorem prs_frm {N : List ByteArray} (hG : GoodN N) (hl : (frmL N).length ≤ 1024) : prs (frmL N) = (N, decide (N = []), 0, 0) := by
  by_cases hN : N = []
  · subst hN
    rw [frm_nil, decide_eq_true rfl]
    kernel_rfl
  · rw [decide_eq_false hN]
    rw [frm_acc hN] at hl ⊢
    have hr := run_acc N [] false [] hG.2 (by simpa using hG.1)
    simp only [List.nil_append, List.length_nil, if_neg hN] at hr
    unfold prs
    rw [if_neg (by omega), if_pos (by
      cases N with
      | nil => exact absurd rfl hN
      | cons x N => rw [acc_cons]; rfl), hr]
    simp [end_acc hG.2 hN]
/-- what the parts cost -/
def cost : List (Nat × ByteArray) → Nat
  | [] => 0
  | x :: xs => x.2.size + 1 + cost xs
theorem cost_pts (l : List UInt8) : ∀ (n i : Nat), l.length - i ≤ n → cost (pts l i) ≤ l.length - i + 1
  | 0, i, h => by rw [pts_end (by omega)]; simp [cost]
  | n + 1, i, h => by
    by_cases hi : i < l.length
    · by_cases hs : segL l i = []
      · rw [pts_skip hi hs]
        have := cost_pts l n (i + 1) (by omega)
        omega
      · rw [pts_part hi hs]
        have h1 := cost_pts l n (i + (segL l i).length + 1) (by omega)
        have h2 := segL_le l i
        have h3 : (bsL (segL l i)).size = (segL l i).length := bsL_size _
        simp only [cost, h3]
        by_cases h4 : i + (segL l i).length + 1 ≤ l.length
        · omega
        · rw [pts_end (by omega)]
          simp only [cost]
          omega
    · rw [pts_end (by omega)]
      simp [cost]
theorem acc_drop (N : List ByteArray) : (accN N.dropLast).length ≤ (accN N).length := by
  rcases List.eq_nil_or_concat N with rfl | ⟨M, y, rfl⟩
  · simp
  · rw [List.concat_eq_append, List.dropLast_concat, acc_snoc]
    simp
theorem cost_run : ∀ (xs : List (Nat × ByteArray)) (N : List ByteArray) (d : Bool), (accN (runP N d xs).1).length ≤ (accN N).length + cost xs
  | [], N, d => by simp [runP, cost]
  | x :: xs, N, d => by
    rw [runP]
    by_cases hb : badE N x.2 = 0
    · rw [if_pos hb]
      have h1 := cost_run xs (nxtN N x.2) (dirP x.2)
      have h2 : (accN (nxtN N x.2)).length ≤ (accN N).length + (x.2.size + 1) := by
        unfold nxtN
        split
        · omega
        · split
          · have := acc_drop N; omega
          · rw [acc_snoc, Lib.size_eq]
            simp
      simp only [cost]
      omega
    · rw [if_neg hb]
      show (accN []).length ≤ _
      simp [accN, Lib.joinTail]
theorem frm_short (l : List UInt8) (hz : (prs l).2.2.2 = 0) : (frmL (prs l).1).length ≤ l.length ∧ l.length ≤ 1024 := by
  unfold prs at hz ⊢
  by_cases h1 : 1024 < l.length
  · rw [if_pos h1] at hz; cases hz
  rw [if_neg h1] at hz ⊢
  by_cases h2 : l[0]? = some 47
  · rw [if_pos h2] at hz ⊢
    by_cases h3 : (runP [] false (pts l 0)).2.2.2 = 0
    · rw [if_pos h3]
      refine ⟨?_, by omega⟩
      have hl : 0 < l.length := (List.getElem?_eq_some_iff.1 h2).1
      show (frmL (runP [] false (pts l 0)).1).length ≤ _
      by_cases hN : (runP [] false (pts l 0)).1 = []
      · rw [hN, frm_nil]; exact hl
      · rw [frm_acc hN]
        have h5 := cost_run (pts l 0) [] false
        rw [pts_slash h2] at h5
        have h6 := cost_pts l l.length 1 (by omega)
        rw [← pts_slash h2] at h5 h6
        have h7 : (accN []).length = 0 := rfl
        omega
    · rw [if_neg h3] at hz
      exact absurd hz h3
  · rw [if_neg h2] at hz; cases hz
end Go.Proofs.Ythoohhokoeihiaa
