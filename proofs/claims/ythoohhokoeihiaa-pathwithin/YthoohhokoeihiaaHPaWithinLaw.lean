/- The walk of the statement on Within and Same. -/
import Derived.Test.YthoohhokoeihiaaHPaAwake
import Derived.BigQuiet
import Derived.Deep.QuietTactic

namespace Go.Proofs.Ythoohhokoeihiaa
open Go Go.RowKit Go.Shelf
set_option linter.unusedVariables false
set_option linter.unusedSimpArgs false
/-- what the statement wants behind i names -/
def wnt (N M : List ByteArray) (i : Nat) : Bool := decide (M.length ≤ N.length) && decide (∀ j, j < i → N[j]? = M[j]?)
theorem wnt_zero (N M : List ByteArray) : wnt N M 0 = decide (M.length ≤ N.length) := by
  unfold wnt
  rw [decide_eq_true (p := ∀ j, j < 0 → N[j]? = M[j]?) (fun j hj => by omega), Bool.and_true]
theorem wnt_false {N M : List ByteArray} {i : Nat} (h : wnt N M i = false) : wnt N M (i + 1) = false := by
  cases h2 : wnt N M (i + 1)
  · rfl
  · unfold wnt at h h2
    simp only [Bool.and_eq_true, decide_eq_true_eq] at h2
    rw [decide_eq_true h2.1, decide_eq_true (fun j hj => h2.2 j (by omega))] at h
    cases h
theorem wnt_true {N M : List ByteArray} {i : Nat} (h : wnt N M i = true) {x y : ByteArray} (hx : N[i]? = some x) (hy : M[i]? = some y) : wnt N M (i + 1) = (x.toList == y.toList) := by
  unfold wnt at h ⊢
  simp only [Bool.and_eq_true, decide_eq_true_eq] at h
  rw [decide_eq_true h.1, Bool.true_and]
  by_cases hxy : x = y
  · subst hxy
    rw [decide_eq_true]
    · simp
    · intro j hj
      rcases Nat.lt_succ_iff_lt_or_eq.1 hj with h3 | rfl
      · exact h.2 j h3
      · rw [hx, hy]
  · rw [decide_eq_false]
    · symm
      rw [beq_eq_false_iff_ne]
      intro e
      rw [Lib.toList_data, Lib.toList_data] at e
      exact hxy (ba_ext e)
    · intro h3
      have := h3 i (by omega)
      rw [hx, hy] at this
      injection this with this
      exact hxy this
theorem wnt_end (N M : List ByteArray) : wnt N M M.length = decide (cmN N M = M.length) := by
  cases h : wnt N M M.length
  · symm
    refine decide_eq_false fun e => ?_
    have hle := cmN_le N M
    have hl : M.length ≤ N.length := by omega
    unfold wnt at h
    rw [decide_eq_true hl, Bool.true_and] at h
    have h2 := of_decide_eq_false h
    apply h2
    have : ∀ (a b : List ByteArray) (j : Nat), j < cmN a b → a[j]? = b[j]? := by
      intro a
      induction a with
      | nil => intro b j hj; simp [cmN] at hj
      | cons x a ih =>
        intro b j hj
        cases b with
        | nil => simp [cmN] at hj
        | cons y b =>
          unfold cmN at hj
          by_cases hxy : x = y
          · rw [if_pos hxy] at hj
            cases j with
            | zero => simp [hxy]
            | succ j => simpa using ih b j (by omega)
          · rw [if_neg hxy] at hj; omega
    intro j hj
    exact this N M j (by omega)
  · unfold wnt at h
    simp only [Bool.and_eq_true, decide_eq_true_eq] at h
    symm
    exact decide_eq_true (cmN_is N M M.length h.1 (Nat.le_refl _) h.2 (.inr (.inl rfl)))
set_option maxRecDepth 100000 in
set_option maxHeartbeats 16000000 in
theorem pathWithinLaw (a b : Option Addr) (c d : Nat) (N M : List ByteArray) (p q : Bool) (s t : ByteArray) (w : World) (hN : IsN w a N) (hM : IsN w b M) (h1 : N.length ≤ 9223372036854775807) (h2 : M.length ≤ 9223372036854775807) :
    Calls Try.prog 5 #[.agg #[.slice a N.length c, .bool p], .agg #[.slice b M.length d, .bool q], .agg #[.string s, .string t]] w fun e w' => e = .returned (.bool true) ∧ Below w.heap.size w w' := by
  have HA : Hid (∀ w : World, Calls Try.prog 9 #[] w fun e w' => e = .returned (.bool true) ∧ Below w.heap.size w w') := awake18_any
  obtain ⟨K1, e1, i1, z1, hp⟩ : ∃ N d i z, prs s.data.toList = (N, d, i, z) := ⟨_, _, _, _, rfl⟩
  obtain ⟨K2, e2, i2, z2, hq⟩ : ∃ N d i z, prs t.data.toList = (N, d, i, z) := ⟨_, _, _, _, rfl⟩
  have HP := rparse_at s hp
  have HQ := rparse_at t hq
  have hK1 : K1.length ≤ 32 := by have := (good_prs s.data.toList).1; rwa [hp] at this
  have hK2 : K2.length ≤ 32 := by have := (good_prs t.data.toList).1; rwa [hq] at this
  have HS1 := psame_any s t
  have HS2 := psame_any t s
  simp only [hp, hq] at HS1 HS2
  have hsw : (decide (z2 = 0) && (decide (z1 = 0) && decide (K2 = K1))) = (decide (z1 = 0) && (decide (z2 = 0) && decide (K1 = K2))) := by
    rw [Bool.and_left_comm]
    congr 2
    by_cases h : K1 = K2
    · rw [decide_eq_true h, decide_eq_true h.symm]
    · rw [decide_eq_false h, decide_eq_false (fun e => h e.symm)]
  rw [hsw] at HS2
  have HH : Hid (_ ∧ _ ∧ _ ∧ _) := ⟨HP, HQ, HS1, HS2⟩
  have HNM : Hid (IsN w a N ∧ IsN w b M) := ⟨hN, hM⟩
  clear hsw HP HQ HS1 HS2 hp hq hN hM
  have B0 : Below w.heap.size w (((w.alloc (.cells #[.slice a N.length c, .bool p] 25)).alloc (.cells #[.slice b M.length d, .bool q] 25)).alloc (.cells #[.string s, .string t] 48)) := (((Below.refl _ w).alloc (Nat.le_refl _) _).alloc (by simp) _).alloc (by simp; omega) _
  have kA := ((Blk.new w 25 #[.slice a N.length c, .bool p]).alloc (.cells #[.slice b M.length d, .bool q] 25)).alloc (.cells #[.string s, .string t] 48)
  have kB := (Blk.new (w.alloc (.cells #[.slice a N.length c, .bool p] 25)) 25 #[.slice b M.length d, .bool q]).alloc (.cells #[.string s, .string t] 48)
  have kX := Blk.new ((w.alloc (.cells #[.slice a N.length c, .bool p] 25)).alloc (.cells #[.slice b M.length d, .bool q] 25)) 48 #[.string s, .string t]
  rw [World.size_alloc] at kB
  rw [World.size_alloc, World.size_alloc] at kX
  have HI : Hid (_ ∧ _ ∧ _ ∧ _) := ⟨kA, kB, kX, B0⟩
  clear kA kB kX B0
  go_enter Try.func5, Try.ntmps5
  go_wp2_with fail
  obtain ⟨kA, kB, kX, B0⟩ := HI.out
  generalize ((w.alloc (.cells #[.slice a N.length c, .bool p] 25)).alloc (.cells #[.slice b M.length d, .bool q] 25)).alloc (.cells #[.string s, .string t] 48) = w0 at *
  clear HI
  refine (HA.out _).mono ?_
  rintro e w1 ⟨rfl, hb1⟩
  have HI : Hid (_ ∧ _ ∧ _ ∧ _) := ⟨kA.below hb1 kA.lt, kB.below hb1 kB.lt, kX.below hb1 kX.lt, B0.trans (hb1.mono B0.size)⟩
  clear kA kB kX B0 hb1
  have c0 := HI.out.1.cell 0
  have c1 := HI.out.2.1.cell 0
  go_wp2_with fail
  clear c0 c1
  obtain ⟨m, hm⟩ : ∃ m, M.length = m := ⟨_, rfl⟩
  have HMl : Hid (M.length = m) := hm
  go_loopw [7, 27] (fun u v wr => Hid (∃ i : Nat, i ≤ M.length ∧ v = .int .i64 (i : Int) ∧ u = .bool (wnt N M i) ∧ Blk wr w.heap.size 25 #[.slice a N.length c, .bool p] ∧ Blk wr (w.heap.size + 1) 25 #[.slice b M.length d, .bool q] ∧ Blk wr (w.heap.size + 1 + 1) 48 #[.string s, .string t] ∧ Below w.heap.size w wr)) (fun u v wr => M.length - (intOf v).toNat)
  case atStart => exact ⟨0, by omega, rfl, by rw [wnt_zero], HI.out.1, HI.out.2.1, HI.out.2.2.1, HI.out.2.2.2⟩
  case round =>
    obtain ⟨i, him, rfl, rfl, kA, kB, kX, hB⟩ := Hid.out hrel
    have HS : Hid (_ ∧ _ ∧ _ ∧ _) := ⟨kA, kB, kX, hB⟩
    clear hrel HI hm
    by_cases hi : i < M.length
    · have hiz : (i : Int) < (M.length : Int) := by omega
      have hi0 : (0 : Int) ≤ (i : Int) := by omega
      have c0 := kA.cell 0
      have c1 := kB.cell 0
      cases hw : wnt N M i
      · have hw2 := wnt_false hw
        have HW2 : Hid (_) := hw2
        clear hw2 kA kB kX hB hw
        go_wp2_with fail
        go_quiet (fail)
        go_wp2_with fail
        go_roundw
        case rel => exact ⟨i + 1, by omega, by first | rfl | go_num | simp, by rw [HW2.out], HS.out.1, HS.out.2.1, HS.out.2.2.1, bdrewN HS.out.2.2.2 _⟩
        case measure => simp [intOf]; omega
      · have hln : M.length ≤ N.length := by
          unfold wnt at hw
          simp only [Bool.and_eq_true, decide_eq_true_eq] at hw
          exact hw.1
        have hin : (i : Int) < (N.length : Int) := by omega
        have hin2 : i < N.length := by omega
        obtain ⟨g, o, rfl, hg, hc⟩ := (HNM.out.1.below hB).at (j := i) hin2
        obtain ⟨g2, o2, rfl, hg2, hc2⟩ := (HNM.out.2.below hB).at (j := i) hi
        obtain ⟨x, hx⟩ : ∃ x, N[i]'hin2 = x := ⟨_, rfl⟩
        obtain ⟨y, hy⟩ : ∃ y, M[i]'hi = y := ⟨_, rfl⟩
        rw [hx] at hc
        rw [hy] at hc2
        have hw2 := wnt_true (x := x) (y := y) hw (by rw [← hx]; exact List.getElem?_eq_getElem _) (by rw [← hy]; exact List.getElem?_eq_getElem _)
        have HW2 : Hid (_) := hw2
        clear hw2 kA kB kX hB hw hx hy hln
        go_wp2_with fail
        go_quiet (fail)
        go_wp2_with fail
        go_roundw
        case rel => exact ⟨i + 1, by omega, by first | rfl | go_num | simp, by rw [HW2.out], HS.out.1, HS.out.2.1, HS.out.2.2.1, bdrewN HS.out.2.2.2 _⟩
        case measure => simp [intOf]; omega
    · obtain rfl : i = M.length := by omega
      have hiz : ¬ (M.length : Int) < (M.length : Int) := by omega
      rw [wnt_end]
      have hN2 := HNM.out.1.below hB
      have hM2 := HNM.out.2.below hB
      obtain ⟨r, hr⟩ : ∃ r, decide (cmN N M = M.length) = r := ⟨_, rfl⟩
      rw [hr]
      have HR : Hid (decide (cmN N M = M.length) = r) := hr
      clear hr
      have c0 := kX.cell 0
      go_wp2_with fail
      refine (HH.out.1 _).mono ?_
      rintro e w2 ⟨a1, c1, rfl, ho2, hb2⟩
      have al2 := hb2.alloc hb2.size (.cells #[.slice a1 K1.length c1, .bool e1] 29)
      have kA2 := kA.below al2 kA.lt
      have kB2 := kB.below al2 kB.lt
      have kX2 := kX.below al2 kX.lt
      have k12 := Blk.new w2 29 #[.slice a1 K1.length c1, .bool e1]
      have n12 := (own_isN ho2).below ((Below.refl _ w2).alloc (Nat.le_refl _) (.cells #[.slice a1 K1.length c1, .bool e1] 29))
      have hB2 := hB.trans (al2.mono hB.size)
      have c0 := kX2.cell 1
      have HI : Hid (_ ∧ _ ∧ _ ∧ _ ∧ _ ∧ _) := ⟨kA2, kB2, kX2, k12, n12, hB2⟩
      clear HS kA kB kX hB ho2 hb2 al2 kA2 kB2 kX2 k12 n12 hB2 hN2 hM2
      go_wp2_with fail
      clear c0
      obtain ⟨kA, kB, kX, k1, n1, hB⟩ := HI.out
      generalize w2.alloc (.cells #[.slice a1 K1.length c1, .bool e1] 29) = w2a at *
      generalize w2.heap.size = g1 at *
      clear HI
      refine (HH.out.2.1 _).mono ?_
      rintro e w3 ⟨a2, c2, rfl, ho3, hb3⟩
      have al3 := hb3.alloc hb3.size (.cells #[.slice a2 K2.length c2, .bool e2] 29)
      have kA3 := kA.below al3 kA.lt
      have kB3 := kB.below al3 kB.lt
      have kX3 := kX.below al3 kX.lt
      have k13 := k1.below al3 k1.lt
      have n13 := n1.below al3
      have k23 := Blk.new w3 29 #[.slice a2 K2.length c2, .bool e2]
      have n23 := (own_isN ho3).below ((Below.refl _ w3).alloc (Nat.le_refl _) (.cells #[.slice a2 K2.length c2, .bool e2] 29))
      have hB3 := hB.trans (al3.mono hB.size)
      have HI : Hid (_ ∧ _ ∧ _ ∧ _ ∧ _ ∧ _ ∧ _ ∧ _) := ⟨kA3, kB3, kX3, k13, k23, n13, n23, hB3⟩
      clear kA kB kX k1 n1 hB ho3 hb3 al3 kA3 kB3 kX3 k13 n13 k23 n23 hB3
      go_wp2_with fail
      obtain ⟨kA, kB, kX, k1, k2, n1, n2, hBW⟩ := HI.out
      generalize w3.alloc (.cells #[.slice a2 K2.length c2, .bool e2] 29) = W at *
      generalize w3.heap.size = g2 at *
      clear HI
      obtain ⟨gB, hgB⟩ : ∃ g, w.heap.size + 1 = g := ⟨_, rfl⟩
      obtain ⟨gx, hgx⟩ : ∃ g, w.heap.size + 1 + 1 = g := ⟨_, rfl⟩
      rw [hgx] at kX ⊢
      rw [hgB] at kB ⊢
      have HWi : Hid (∀ U, Below W.heap.size W U → Calls Try.prog 20 #[.agg #[.slice a N.length c, .bool p], .agg #[.slice b M.length d, .bool q]] U fun e w' => e = .returned (.bool r) ∧ Below U.heap.size U w') := fun U hU => by
        have hBU := hBW.trans (hU.mono hBW.size)
        have := within_any (c := c) (d := d) (HNM.out.1.below hBU) (HNM.out.2.below hBU) h1 h2 p q
        rwa [HR.out] at this
      have HRS : Hid (∀ U, Below W.heap.size W U → Calls Try.prog 19 #[.slice a1 K1.length c1, .slice a2 K2.length c2] U fun e w' => e = .returned (.bool (decide (K1 = K2))) ∧ Below U.heap.size U w') := fun U hU => same18_any (n1.below hU) (n2.below hU) (by omega) (by omega)
      have hrr : (r == r) = true := by simp
      clear n1 n2 hgB hgx HMl
      by_cases hz1 : z1 = 0
      · by_cases hz2 : z2 = 0
        · subst hz1 hz2
          have hS1 := HH.out.2.2.1
          have hS2 := HH.out.2.2.2
          simp only [decide_true, Bool.true_and] at hS1 hS2
          have HS1 : Hid (∀ U, Below W.heap.size W U → Calls Try.prog 21 #[.string s, .string t] U fun e w' => e = .returned (.bool (decide (K1 = K2))) ∧ Below U.heap.size U w') := fun U _ => hS1 U
          have HS2 : Hid (∀ U, Below W.heap.size W U → Calls Try.prog 21 #[.string t, .string s] U fun e w' => e = .returned (.bool (decide (K1 = K2))) ∧ Below U.heap.size U w') := fun U _ => hS2 U
          clear hS1 hS2 HH
          generalize decide (K1 = K2) = u at *
          have huu : (u == u) = true := by simp
          refine wp_region_partsS (fun U => Below W.heap.size W U) [([3], 0, true), ([], 1, false), ([], 2, false), ([], 4, false), ([5, 11], 6, true), ([], 7, true), ([], 8, true), ([], 9, true), ([], 12, true), ([], 10, false), ([13, 14], 15, false), ([16, 17], 18, true), ([], 19, true), ([], 20, false), ([], 21, false), ([], 22, false), ([23], 24, false), ([25, 26], 27, true), ([], 28, true), ([], 29, true), ([], 30, true), ([], 32, true), ([], 33, true), ([], 34, true), ([], 35, true), ([], 31, false), ([], 36, false), ([], 37, false)] [38, 39] [] (by kernel_rfl) (by kernel_rfl) (Below.refl _ _).drew (partsI_yield ?_)
          simp only [List.cons_append, List.nil_append, List.append_nil, List.filterMap_cons, List.filterMap_nil, List.getElem?_toArray, List.getElem?_cons_zero, List.getElem?_cons_succ]
          have hS : Below W.heap.size W W.drew := (Below.refl _ _).drew
          go_wp2_with fail
          first
            | refine ⟨rfl, _, .agg #[.slice a N.length c, .bool p], rfl, Or.inl ⟨by rfl, fun U hU => by have c1 := (kA.below hU kA.lt).cell 0; have c2 := (kA.below hU kA.lt).cell 1; go_simp⟩, partsI_force ?_⟩
            | refine ⟨rfl, .agg #[.slice a N.length c, .bool p], Or.inl ⟨by rfl, fun U hU => by have c1 := (kA.below hU kA.lt).cell 0; have c2 := (kA.below hU kA.lt).cell 1; go_simp⟩, partsI_force ?_⟩
          simp only [Act.put, List.setIfInBounds_toArray, List.set_cons_zero, List.set_cons_succ]
          simp only [List.cons_append, List.nil_append, List.append_nil, List.filterMap_cons, List.filterMap_nil, List.getElem?_toArray, List.getElem?_cons_zero, List.getElem?_cons_succ]
          have d0 := (kB.below hS kB.lt).cell 0
          have d1 := (kB.below hS kB.lt).cell 1
          go_wp2_with fail
          clear d0 d1
          refine ⟨rfl, hS, partsI_force ?_⟩
          simp only [List.cons_append, List.nil_append, List.append_nil, List.filterMap_cons, List.filterMap_nil, List.getElem?_toArray, List.getElem?_cons_zero, List.getElem?_cons_succ]
          go_wp2_with fail
          refine (HWi.out _ hS).mono ?_
          rintro e U1 ⟨rfl, hU1⟩
          replace hS := hS.trans (hU1.mono hS.size)
          clear hU1
          go_wp2_with fail
          refine ⟨rfl, hS, partsI_force ?_⟩
          simp only [List.cons_append, List.nil_append, List.append_nil, List.filterMap_cons, List.filterMap_nil, List.getElem?_toArray, List.getElem?_cons_zero, List.getElem?_cons_succ]
          go_wp2_with fail
          refine ⟨rfl, hS, partsI_yield ?_⟩
          simp only [List.cons_append, List.nil_append, List.append_nil, List.filterMap_cons, List.filterMap_nil, List.getElem?_toArray, List.getElem?_cons_zero, List.getElem?_cons_succ]
          go_wp2_with fail
          first
            | refine ⟨rfl, _, .pointer (some ⟨gx, 0, none⟩), rfl, Or.inl ⟨by rfl, fun U hU => by go_simp⟩, partsI_yield ?_⟩
            | refine ⟨rfl, .pointer (some ⟨gx, 0, none⟩), Or.inl ⟨by rfl, fun U hU => by go_simp⟩, partsI_yield ?_⟩
          simp only [Act.put, List.setIfInBounds_toArray, List.set_cons_zero, List.set_cons_succ]
          simp only [List.cons_append, List.nil_append, List.append_nil, List.filterMap_cons, List.filterMap_nil, List.getElem?_toArray, List.getElem?_cons_zero, List.getElem?_cons_succ]
          go_wp2_with fail
          first
            | refine ⟨rfl, _, .string s, rfl, Or.inl ⟨by rfl, fun U hU => by have c1 := (kX.below hU kX.lt).cell 0; go_simp⟩, partsI_yield ?_⟩
            | refine ⟨rfl, .string s, Or.inl ⟨by rfl, fun U hU => by have c1 := (kX.below hU kX.lt).cell 0; go_simp⟩, partsI_yield ?_⟩
          simp only [Act.put, List.setIfInBounds_toArray, List.set_cons_zero, List.set_cons_succ]
          simp only [List.cons_append, List.nil_append, List.append_nil, List.filterMap_cons, List.filterMap_nil, List.getElem?_toArray, List.getElem?_cons_zero, List.getElem?_cons_succ]
          go_wp2_with fail
          first
            | refine ⟨rfl, _, .pointer (some ⟨gx, 1, none⟩), rfl, Or.inl ⟨by rfl, fun U hU => by go_simp⟩, partsI_yield ?_⟩
            | refine ⟨rfl, .pointer (some ⟨gx, 1, none⟩), Or.inl ⟨by rfl, fun U hU => by go_simp⟩, partsI_yield ?_⟩
          simp only [Act.put, List.setIfInBounds_toArray, List.set_cons_zero, List.set_cons_succ]
          simp only [List.cons_append, List.nil_append, List.append_nil, List.filterMap_cons, List.filterMap_nil, List.getElem?_toArray, List.getElem?_cons_zero, List.getElem?_cons_succ]
          go_wp2_with fail
          first
            | refine ⟨rfl, _, .string t, rfl, Or.inl ⟨by rfl, fun U hU => by have c1 := (kX.below hU kX.lt).cell 1; go_simp⟩, partsI_yield ?_⟩
            | refine ⟨rfl, .string t, Or.inl ⟨by rfl, fun U hU => by have c1 := (kX.below hU kX.lt).cell 1; go_simp⟩, partsI_yield ?_⟩
          simp only [Act.put, List.setIfInBounds_toArray, List.set_cons_zero, List.set_cons_succ]
          simp only [List.cons_append, List.nil_append, List.append_nil, List.filterMap_cons, List.filterMap_nil, List.getElem?_toArray, List.getElem?_cons_zero, List.getElem?_cons_succ]
          go_wp2_with fail
          first
            | refine ⟨rfl, _, .bool true, rfl, Or.inl ⟨by rfl, fun U hU => by go_simp⟩, partsI_force ?_⟩
            | refine ⟨rfl, .bool true, Or.inl ⟨by rfl, fun U hU => by go_simp⟩, partsI_force ?_⟩
          simp only [Act.put, List.setIfInBounds_toArray, List.set_cons_zero, List.set_cons_succ]
          simp only [List.cons_append, List.nil_append, List.append_nil, List.filterMap_cons, List.filterMap_nil, List.getElem?_toArray, List.getElem?_cons_zero, List.getElem?_cons_succ]
          go_wp2_with fail
          refine (HS1.out _ hS).mono ?_
          rintro e U2 ⟨rfl, hU2⟩
          replace hS := hS.trans (hU2.mono hS.size)
          clear hU2
          go_wp2_with fail
          refine ⟨rfl, hS, partsI_force ?_⟩
          simp only [List.cons_append, List.nil_append, List.append_nil, List.filterMap_cons, List.filterMap_nil, List.getElem?_toArray, List.getElem?_cons_zero, List.getElem?_cons_succ]
          go_wp2_with fail
          refine ⟨rfl, hS, partsI_yield ?_⟩
          simp only [List.cons_append, List.nil_append, List.append_nil, List.filterMap_cons, List.filterMap_nil, List.getElem?_toArray, List.getElem?_cons_zero, List.getElem?_cons_succ]
          go_wp2_with fail
          first
            | refine ⟨rfl, _, .pointer (some ⟨g1, 0, none⟩), rfl, Or.inl ⟨by rfl, fun U hU => by go_simp⟩, partsI_yield ?_⟩
            | refine ⟨rfl, .pointer (some ⟨g1, 0, none⟩), Or.inl ⟨by rfl, fun U hU => by go_simp⟩, partsI_yield ?_⟩
          simp only [Act.put, List.setIfInBounds_toArray, List.set_cons_zero, List.set_cons_succ]
          simp only [List.cons_append, List.nil_append, List.append_nil, List.filterMap_cons, List.filterMap_nil, List.getElem?_toArray, List.getElem?_cons_zero, List.getElem?_cons_succ]
          go_wp2_with fail
          first
            | refine ⟨rfl, _, .slice a1 K1.length c1, rfl, Or.inl ⟨by rfl, fun U hU => by have c9 := (k1.below hU k1.lt).cell 0; go_simp⟩, partsI_force ?_⟩
            | refine ⟨rfl, .slice a1 K1.length c1, Or.inl ⟨by rfl, fun U hU => by have c9 := (k1.below hU k1.lt).cell 0; go_simp⟩, partsI_force ?_⟩
          simp only [Act.put, List.setIfInBounds_toArray, List.set_cons_zero, List.set_cons_succ]
          simp only [List.cons_append, List.nil_append, List.append_nil, List.filterMap_cons, List.filterMap_nil, List.getElem?_toArray, List.getElem?_cons_zero, List.getElem?_cons_succ]
          have d0 := (k2.below hS k2.lt).cell 0
          go_wp2_with fail
          clear d0
          refine ⟨rfl, hS, partsI_force ?_⟩
          simp only [List.cons_append, List.nil_append, List.append_nil, List.filterMap_cons, List.filterMap_nil, List.getElem?_toArray, List.getElem?_cons_zero, List.getElem?_cons_succ]
          have d0 := (k2.below hS k2.lt).cell 0
          go_wp2_with fail
          clear d0
          refine ⟨rfl, hS, partsI_force ?_⟩
          simp only [List.cons_append, List.nil_append, List.append_nil, List.filterMap_cons, List.filterMap_nil, List.getElem?_toArray, List.getElem?_cons_zero, List.getElem?_cons_succ]
          go_wp2_with fail
          refine (HRS.out _ hS).mono ?_
          rintro e U3 ⟨rfl, hU3⟩
          replace hS := hS.trans (hU3.mono hS.size)
          clear hU3
          go_wp2_with fail
          refine ⟨rfl, hS, partsI_force ?_⟩
          simp only [List.cons_append, List.nil_append, List.append_nil, List.filterMap_cons, List.filterMap_nil, List.getElem?_toArray, List.getElem?_cons_zero, List.getElem?_cons_succ]
          go_wp2_with fail
          refine ⟨rfl, hS, partsI_yield ?_⟩
          simp only [List.cons_append, List.nil_append, List.append_nil, List.filterMap_cons, List.filterMap_nil, List.getElem?_toArray, List.getElem?_cons_zero, List.getElem?_cons_succ]
          go_wp2_with fail
          first
            | refine ⟨rfl, _, .pointer (some ⟨gx, 1, none⟩), rfl, Or.inl ⟨by rfl, fun U hU => by go_simp⟩, partsI_yield ?_⟩
            | refine ⟨rfl, .pointer (some ⟨gx, 1, none⟩), Or.inl ⟨by rfl, fun U hU => by go_simp⟩, partsI_yield ?_⟩
          simp only [Act.put, List.setIfInBounds_toArray, List.set_cons_zero, List.set_cons_succ]
          simp only [List.cons_append, List.nil_append, List.append_nil, List.filterMap_cons, List.filterMap_nil, List.getElem?_toArray, List.getElem?_cons_zero, List.getElem?_cons_succ]
          go_wp2_with fail
          first
            | refine ⟨rfl, _, .string t, rfl, Or.inl ⟨by rfl, fun U hU => by have c1 := (kX.below hU kX.lt).cell 1; go_simp⟩, partsI_yield ?_⟩
            | refine ⟨rfl, .string t, Or.inl ⟨by rfl, fun U hU => by have c1 := (kX.below hU kX.lt).cell 1; go_simp⟩, partsI_yield ?_⟩
          simp only [Act.put, List.setIfInBounds_toArray, List.set_cons_zero, List.set_cons_succ]
          simp only [List.cons_append, List.nil_append, List.append_nil, List.filterMap_cons, List.filterMap_nil, List.getElem?_toArray, List.getElem?_cons_zero, List.getElem?_cons_succ]
          go_wp2_with fail
          first
            | refine ⟨rfl, _, .pointer (some ⟨gx, 0, none⟩), rfl, Or.inl ⟨by rfl, fun U hU => by go_simp⟩, partsI_yield ?_⟩
            | refine ⟨rfl, .pointer (some ⟨gx, 0, none⟩), Or.inl ⟨by rfl, fun U hU => by go_simp⟩, partsI_yield ?_⟩
          simp only [Act.put, List.setIfInBounds_toArray, List.set_cons_zero, List.set_cons_succ]
          simp only [List.cons_append, List.nil_append, List.append_nil, List.filterMap_cons, List.filterMap_nil, List.getElem?_toArray, List.getElem?_cons_zero, List.getElem?_cons_succ]
          go_wp2_with fail
          first
            | refine ⟨rfl, _, .string s, rfl, Or.inl ⟨by rfl, fun U hU => by have c1 := (kX.below hU kX.lt).cell 0; go_simp⟩, partsI_yield ?_⟩
            | refine ⟨rfl, .string s, Or.inl ⟨by rfl, fun U hU => by have c1 := (kX.below hU kX.lt).cell 0; go_simp⟩, partsI_yield ?_⟩
          simp only [Act.put, List.setIfInBounds_toArray, List.set_cons_zero, List.set_cons_succ]
          simp only [List.cons_append, List.nil_append, List.append_nil, List.filterMap_cons, List.filterMap_nil, List.getElem?_toArray, List.getElem?_cons_zero, List.getElem?_cons_succ]
          go_wp2_with fail
          first
            | refine ⟨rfl, _, .pointer (some ⟨gx, 0, none⟩), rfl, Or.inl ⟨by rfl, fun U hU => by go_simp⟩, partsI_yield ?_⟩
            | refine ⟨rfl, .pointer (some ⟨gx, 0, none⟩), Or.inl ⟨by rfl, fun U hU => by go_simp⟩, partsI_yield ?_⟩
          simp only [Act.put, List.setIfInBounds_toArray, List.set_cons_zero, List.set_cons_succ]
          simp only [List.cons_append, List.nil_append, List.append_nil, List.filterMap_cons, List.filterMap_nil, List.getElem?_toArray, List.getElem?_cons_zero, List.getElem?_cons_succ]
          go_wp2_with fail
          first
            | refine ⟨rfl, _, .string s, rfl, Or.inl ⟨by rfl, fun U hU => by have c1 := (kX.below hU kX.lt).cell 0; go_simp⟩, partsI_yield ?_⟩
            | refine ⟨rfl, .string s, Or.inl ⟨by rfl, fun U hU => by have c1 := (kX.below hU kX.lt).cell 0; go_simp⟩, partsI_yield ?_⟩
          simp only [Act.put, List.setIfInBounds_toArray, List.set_cons_zero, List.set_cons_succ]
          simp only [List.cons_append, List.nil_append, List.append_nil, List.filterMap_cons, List.filterMap_nil, List.getElem?_toArray, List.getElem?_cons_zero, List.getElem?_cons_succ]
          go_wp2_with fail
          first
            | refine ⟨rfl, _, .pointer (some ⟨gx, 1, none⟩), rfl, Or.inl ⟨by rfl, fun U hU => by go_simp⟩, partsI_yield ?_⟩
            | refine ⟨rfl, .pointer (some ⟨gx, 1, none⟩), Or.inl ⟨by rfl, fun U hU => by go_simp⟩, partsI_yield ?_⟩
          simp only [Act.put, List.setIfInBounds_toArray, List.set_cons_zero, List.set_cons_succ]
          simp only [List.cons_append, List.nil_append, List.append_nil, List.filterMap_cons, List.filterMap_nil, List.getElem?_toArray, List.getElem?_cons_zero, List.getElem?_cons_succ]
          go_wp2_with fail
          first
            | refine ⟨rfl, _, .string t, rfl, Or.inl ⟨by rfl, fun U hU => by have c1 := (kX.below hU kX.lt).cell 1; go_simp⟩, partsI_force ?_⟩
            | refine ⟨rfl, .string t, Or.inl ⟨by rfl, fun U hU => by have c1 := (kX.below hU kX.lt).cell 1; go_simp⟩, partsI_force ?_⟩
          simp only [Act.put, List.setIfInBounds_toArray, List.set_cons_zero, List.set_cons_succ]
          simp only [List.cons_append, List.nil_append, List.append_nil, List.filterMap_cons, List.filterMap_nil, List.getElem?_toArray, List.getElem?_cons_zero, List.getElem?_cons_succ]
          go_wp2_with fail
          refine (HS2.out _ hS).mono ?_
          rintro e U4 ⟨rfl, hU4⟩
          replace hS := hS.trans (hU4.mono hS.size)
          clear hU4
          go_wp2_with fail
          refine ⟨rfl, hS, partsI_force ?_⟩
          simp only [List.cons_append, List.nil_append, List.append_nil, List.filterMap_cons, List.filterMap_nil, List.getElem?_toArray, List.getElem?_cons_zero, List.getElem?_cons_succ]
          go_wp2_with fail
          refine (HS1.out _ hS).mono ?_
          rintro e U5 ⟨rfl, hU5⟩
          replace hS := hS.trans (hU5.mono hS.size)
          clear hU5
          go_wp2_with fail
          refine ⟨rfl, hS, partsI_force ?_⟩
          simp only [List.cons_append, List.nil_append, List.append_nil, List.filterMap_cons, List.filterMap_nil, List.getElem?_toArray, List.getElem?_cons_zero, List.getElem?_cons_succ]
          go_wp2_with fail
          refine ⟨rfl, hS, partsI_last ?_⟩
          simp only [List.cons_append, List.nil_append, List.append_nil, List.filterMap_cons, List.filterMap_nil, List.getElem?_toArray, List.getElem?_cons_zero, List.getElem?_cons_succ]
          go_wp2_with fail
          refine ⟨rfl, ?_⟩
          go_wp2_with fail
          go_ret
          exact ⟨by simp, hBW.trans (hS.mono hBW.size)⟩
        · subst hz1
          have hzb : (z2 == 0) = false := by simpa using hz2
          have hS1 := HH.out.2.2.1
          have hS2 := HH.out.2.2.2
          simp only [decide_eq_false hz2, Bool.false_and, Bool.and_false] at hS1 hS2
          have HS1 : Hid (∀ U, Below W.heap.size W U → Calls Try.prog 21 #[.string s, .string t] U fun e w' => e = .returned (.bool false) ∧ Below U.heap.size U w') := fun U _ => hS1 U
          have HS2 : Hid (∀ U, Below W.heap.size W U → Calls Try.prog 21 #[.string t, .string s] U fun e w' => e = .returned (.bool false) ∧ Below U.heap.size U w') := fun U _ => hS2 U
          clear hS1 hS2 HH hz2
          refine wp_region_partsS (fun U => Below W.heap.size W U) [([3], 0, true), ([], 1, false), ([], 2, false), ([], 4, false), ([5, 11], 6, true), ([], 7, true), ([], 8, true), ([], 9, true), ([], 12, true), ([], 10, false), ([13, 14], 15, false), ([16, 17], 18, true), ([], 19, true), ([], 20, false), ([], 21, false), ([], 22, false), ([23], 24, false), ([25, 26], 27, true), ([], 28, true), ([], 29, true), ([], 30, true), ([], 32, true), ([], 33, true), ([], 34, true), ([], 35, true), ([], 31, false), ([], 36, false), ([], 37, false)] [38, 39] [] (by kernel_rfl) (by kernel_rfl) (Below.refl _ _).drew (partsI_yield ?_)
          simp only [List.cons_append, List.nil_append, List.append_nil, List.filterMap_cons, List.filterMap_nil, List.getElem?_toArray, List.getElem?_cons_zero, List.getElem?_cons_succ]
          have hS : Below W.heap.size W W.drew := (Below.refl _ _).drew
          go_wp2_with fail
          first
            | refine ⟨rfl, _, .agg #[.slice a N.length c, .bool p], rfl, Or.inl ⟨by rfl, fun U hU => by have c1 := (kA.below hU kA.lt).cell 0; have c2 := (kA.below hU kA.lt).cell 1; go_simp⟩, partsI_force ?_⟩
            | refine ⟨rfl, .agg #[.slice a N.length c, .bool p], Or.inl ⟨by rfl, fun U hU => by have c1 := (kA.below hU kA.lt).cell 0; have c2 := (kA.below hU kA.lt).cell 1; go_simp⟩, partsI_force ?_⟩
          simp only [Act.put, List.setIfInBounds_toArray, List.set_cons_zero, List.set_cons_succ]
          simp only [List.cons_append, List.nil_append, List.append_nil, List.filterMap_cons, List.filterMap_nil, List.getElem?_toArray, List.getElem?_cons_zero, List.getElem?_cons_succ]
          have d0 := (kB.below hS kB.lt).cell 0
          have d1 := (kB.below hS kB.lt).cell 1
          go_wp2_with fail
          clear d0 d1
          refine ⟨rfl, hS, partsI_force ?_⟩
          simp only [List.cons_append, List.nil_append, List.append_nil, List.filterMap_cons, List.filterMap_nil, List.getElem?_toArray, List.getElem?_cons_zero, List.getElem?_cons_succ]
          go_wp2_with fail
          refine (HWi.out _ hS).mono ?_
          rintro e U1 ⟨rfl, hU1⟩
          replace hS := hS.trans (hU1.mono hS.size)
          clear hU1
          go_wp2_with fail
          refine ⟨rfl, hS, partsI_force ?_⟩
          simp only [List.cons_append, List.nil_append, List.append_nil, List.filterMap_cons, List.filterMap_nil, List.getElem?_toArray, List.getElem?_cons_zero, List.getElem?_cons_succ]
          go_wp2_with fail
          refine ⟨rfl, hS, partsI_yield ?_⟩
          simp only [List.cons_append, List.nil_append, List.append_nil, List.filterMap_cons, List.filterMap_nil, List.getElem?_toArray, List.getElem?_cons_zero, List.getElem?_cons_succ]
          go_wp2_with fail
          first
            | refine ⟨rfl, _, .pointer (some ⟨gx, 0, none⟩), rfl, Or.inl ⟨by rfl, fun U hU => by go_simp⟩, partsI_yield ?_⟩
            | refine ⟨rfl, .pointer (some ⟨gx, 0, none⟩), Or.inl ⟨by rfl, fun U hU => by go_simp⟩, partsI_yield ?_⟩
          simp only [Act.put, List.setIfInBounds_toArray, List.set_cons_zero, List.set_cons_succ]
          simp only [List.cons_append, List.nil_append, List.append_nil, List.filterMap_cons, List.filterMap_nil, List.getElem?_toArray, List.getElem?_cons_zero, List.getElem?_cons_succ]
          go_wp2_with fail
          first
            | refine ⟨rfl, _, .string s, rfl, Or.inl ⟨by rfl, fun U hU => by have c1 := (kX.below hU kX.lt).cell 0; go_simp⟩, partsI_yield ?_⟩
            | refine ⟨rfl, .string s, Or.inl ⟨by rfl, fun U hU => by have c1 := (kX.below hU kX.lt).cell 0; go_simp⟩, partsI_yield ?_⟩
          simp only [Act.put, List.setIfInBounds_toArray, List.set_cons_zero, List.set_cons_succ]
          simp only [List.cons_append, List.nil_append, List.append_nil, List.filterMap_cons, List.filterMap_nil, List.getElem?_toArray, List.getElem?_cons_zero, List.getElem?_cons_succ]
          go_wp2_with fail
          first
            | refine ⟨rfl, _, .pointer (some ⟨gx, 1, none⟩), rfl, Or.inl ⟨by rfl, fun U hU => by go_simp⟩, partsI_yield ?_⟩
            | refine ⟨rfl, .pointer (some ⟨gx, 1, none⟩), Or.inl ⟨by rfl, fun U hU => by go_simp⟩, partsI_yield ?_⟩
          simp only [Act.put, List.setIfInBounds_toArray, List.set_cons_zero, List.set_cons_succ]
          simp only [List.cons_append, List.nil_append, List.append_nil, List.filterMap_cons, List.filterMap_nil, List.getElem?_toArray, List.getElem?_cons_zero, List.getElem?_cons_succ]
          go_wp2_with fail
          first
            | refine ⟨rfl, _, .string t, rfl, Or.inl ⟨by rfl, fun U hU => by have c1 := (kX.below hU kX.lt).cell 1; go_simp⟩, partsI_yield ?_⟩
            | refine ⟨rfl, .string t, Or.inl ⟨by rfl, fun U hU => by have c1 := (kX.below hU kX.lt).cell 1; go_simp⟩, partsI_yield ?_⟩
          simp only [Act.put, List.setIfInBounds_toArray, List.set_cons_zero, List.set_cons_succ]
          simp only [List.cons_append, List.nil_append, List.append_nil, List.filterMap_cons, List.filterMap_nil, List.getElem?_toArray, List.getElem?_cons_zero, List.getElem?_cons_succ]
          go_wp2_with fail
          first
            | refine ⟨rfl, _, .bool true, rfl, Or.inl ⟨by rfl, fun U hU => by go_simp⟩, partsI_force ?_⟩
            | refine ⟨rfl, .bool true, Or.inl ⟨by rfl, fun U hU => by go_simp⟩, partsI_force ?_⟩
          simp only [Act.put, List.setIfInBounds_toArray, List.set_cons_zero, List.set_cons_succ]
          simp only [List.cons_append, List.nil_append, List.append_nil, List.filterMap_cons, List.filterMap_nil, List.getElem?_toArray, List.getElem?_cons_zero, List.getElem?_cons_succ]
          go_wp2_with fail
          refine (HS1.out _ hS).mono ?_
          rintro e U2 ⟨rfl, hU2⟩
          replace hS := hS.trans (hU2.mono hS.size)
          clear hU2
          go_wp2_with fail
          refine ⟨rfl, hS, partsI_force ?_⟩
          simp only [List.cons_append, List.nil_append, List.append_nil, List.filterMap_cons, List.filterMap_nil, List.getElem?_toArray, List.getElem?_cons_zero, List.getElem?_cons_succ]
          go_wp2_with fail
          refine ⟨rfl, hS, partsI_yield ?_⟩
          simp only [List.cons_append, List.nil_append, List.append_nil, List.filterMap_cons, List.filterMap_nil, List.getElem?_toArray, List.getElem?_cons_zero, List.getElem?_cons_succ]
          go_wp2_with fail
          first
            | refine ⟨rfl, _, undef, rfl, Or.inr ⟨by rfl, rfl⟩, partsI_yield ?_⟩
            | refine ⟨rfl, undef, Or.inr ⟨by rfl, rfl⟩, partsI_yield ?_⟩
          simp only [Act.put, List.setIfInBounds_toArray, List.set_cons_zero, List.set_cons_succ]
          simp only [List.cons_append, List.nil_append, List.append_nil, List.filterMap_cons, List.filterMap_nil, List.getElem?_toArray, List.getElem?_cons_zero, List.getElem?_cons_succ]
          go_wp2_with fail
          first
            | refine ⟨rfl, _, undef, rfl, Or.inr ⟨by rfl, rfl⟩, partsI_force ?_⟩
            | refine ⟨rfl, undef, Or.inr ⟨by rfl, rfl⟩, partsI_force ?_⟩
          simp only [Act.put, List.setIfInBounds_toArray, List.set_cons_zero, List.set_cons_succ]
          simp only [List.cons_append, List.nil_append, List.append_nil, List.filterMap_cons, List.filterMap_nil, List.getElem?_toArray, List.getElem?_cons_zero, List.getElem?_cons_succ]
          go_wp2_with fail
          refine ⟨rfl, hS, partsI_force ?_⟩
          simp only [List.cons_append, List.nil_append, List.append_nil, List.filterMap_cons, List.filterMap_nil, List.getElem?_toArray, List.getElem?_cons_zero, List.getElem?_cons_succ]
          go_wp2_with fail
          refine ⟨rfl, hS, partsI_force ?_⟩
          simp only [List.cons_append, List.nil_append, List.append_nil, List.filterMap_cons, List.filterMap_nil, List.getElem?_toArray, List.getElem?_cons_zero, List.getElem?_cons_succ]
          go_wp2_with fail
          refine ⟨rfl, hS, partsI_force ?_⟩
          simp only [List.cons_append, List.nil_append, List.append_nil, List.filterMap_cons, List.filterMap_nil, List.getElem?_toArray, List.getElem?_cons_zero, List.getElem?_cons_succ]
          go_wp2_with fail
          refine ⟨rfl, hS, partsI_yield ?_⟩
          simp only [List.cons_append, List.nil_append, List.append_nil, List.filterMap_cons, List.filterMap_nil, List.getElem?_toArray, List.getElem?_cons_zero, List.getElem?_cons_succ]
          go_wp2_with fail
          first
            | refine ⟨rfl, _, .pointer (some ⟨gx, 1, none⟩), rfl, Or.inl ⟨by rfl, fun U hU => by go_simp⟩, partsI_yield ?_⟩
            | refine ⟨rfl, .pointer (some ⟨gx, 1, none⟩), Or.inl ⟨by rfl, fun U hU => by go_simp⟩, partsI_yield ?_⟩
          simp only [Act.put, List.setIfInBounds_toArray, List.set_cons_zero, List.set_cons_succ]
          simp only [List.cons_append, List.nil_append, List.append_nil, List.filterMap_cons, List.filterMap_nil, List.getElem?_toArray, List.getElem?_cons_zero, List.getElem?_cons_succ]
          go_wp2_with fail
          first
            | refine ⟨rfl, _, .string t, rfl, Or.inl ⟨by rfl, fun U hU => by have c1 := (kX.below hU kX.lt).cell 1; go_simp⟩, partsI_yield ?_⟩
            | refine ⟨rfl, .string t, Or.inl ⟨by rfl, fun U hU => by have c1 := (kX.below hU kX.lt).cell 1; go_simp⟩, partsI_yield ?_⟩
          simp only [Act.put, List.setIfInBounds_toArray, List.set_cons_zero, List.set_cons_succ]
          simp only [List.cons_append, List.nil_append, List.append_nil, List.filterMap_cons, List.filterMap_nil, List.getElem?_toArray, List.getElem?_cons_zero, List.getElem?_cons_succ]
          go_wp2_with fail
          first
            | refine ⟨rfl, _, .pointer (some ⟨gx, 0, none⟩), rfl, Or.inl ⟨by rfl, fun U hU => by go_simp⟩, partsI_yield ?_⟩
            | refine ⟨rfl, .pointer (some ⟨gx, 0, none⟩), Or.inl ⟨by rfl, fun U hU => by go_simp⟩, partsI_yield ?_⟩
          simp only [Act.put, List.setIfInBounds_toArray, List.set_cons_zero, List.set_cons_succ]
          simp only [List.cons_append, List.nil_append, List.append_nil, List.filterMap_cons, List.filterMap_nil, List.getElem?_toArray, List.getElem?_cons_zero, List.getElem?_cons_succ]
          go_wp2_with fail
          first
            | refine ⟨rfl, _, .string s, rfl, Or.inl ⟨by rfl, fun U hU => by have c1 := (kX.below hU kX.lt).cell 0; go_simp⟩, partsI_yield ?_⟩
            | refine ⟨rfl, .string s, Or.inl ⟨by rfl, fun U hU => by have c1 := (kX.below hU kX.lt).cell 0; go_simp⟩, partsI_yield ?_⟩
          simp only [Act.put, List.setIfInBounds_toArray, List.set_cons_zero, List.set_cons_succ]
          simp only [List.cons_append, List.nil_append, List.append_nil, List.filterMap_cons, List.filterMap_nil, List.getElem?_toArray, List.getElem?_cons_zero, List.getElem?_cons_succ]
          go_wp2_with fail
          first
            | refine ⟨rfl, _, .pointer (some ⟨gx, 0, none⟩), rfl, Or.inl ⟨by rfl, fun U hU => by go_simp⟩, partsI_yield ?_⟩
            | refine ⟨rfl, .pointer (some ⟨gx, 0, none⟩), Or.inl ⟨by rfl, fun U hU => by go_simp⟩, partsI_yield ?_⟩
          simp only [Act.put, List.setIfInBounds_toArray, List.set_cons_zero, List.set_cons_succ]
          simp only [List.cons_append, List.nil_append, List.append_nil, List.filterMap_cons, List.filterMap_nil, List.getElem?_toArray, List.getElem?_cons_zero, List.getElem?_cons_succ]
          go_wp2_with fail
          first
            | refine ⟨rfl, _, .string s, rfl, Or.inl ⟨by rfl, fun U hU => by have c1 := (kX.below hU kX.lt).cell 0; go_simp⟩, partsI_yield ?_⟩
            | refine ⟨rfl, .string s, Or.inl ⟨by rfl, fun U hU => by have c1 := (kX.below hU kX.lt).cell 0; go_simp⟩, partsI_yield ?_⟩
          simp only [Act.put, List.setIfInBounds_toArray, List.set_cons_zero, List.set_cons_succ]
          simp only [List.cons_append, List.nil_append, List.append_nil, List.filterMap_cons, List.filterMap_nil, List.getElem?_toArray, List.getElem?_cons_zero, List.getElem?_cons_succ]
          go_wp2_with fail
          first
            | refine ⟨rfl, _, .pointer (some ⟨gx, 1, none⟩), rfl, Or.inl ⟨by rfl, fun U hU => by go_simp⟩, partsI_yield ?_⟩
            | refine ⟨rfl, .pointer (some ⟨gx, 1, none⟩), Or.inl ⟨by rfl, fun U hU => by go_simp⟩, partsI_yield ?_⟩
          simp only [Act.put, List.setIfInBounds_toArray, List.set_cons_zero, List.set_cons_succ]
          simp only [List.cons_append, List.nil_append, List.append_nil, List.filterMap_cons, List.filterMap_nil, List.getElem?_toArray, List.getElem?_cons_zero, List.getElem?_cons_succ]
          go_wp2_with fail
          first
            | refine ⟨rfl, _, .string t, rfl, Or.inl ⟨by rfl, fun U hU => by have c1 := (kX.below hU kX.lt).cell 1; go_simp⟩, partsI_force ?_⟩
            | refine ⟨rfl, .string t, Or.inl ⟨by rfl, fun U hU => by have c1 := (kX.below hU kX.lt).cell 1; go_simp⟩, partsI_force ?_⟩
          simp only [Act.put, List.setIfInBounds_toArray, List.set_cons_zero, List.set_cons_succ]
          simp only [List.cons_append, List.nil_append, List.append_nil, List.filterMap_cons, List.filterMap_nil, List.getElem?_toArray, List.getElem?_cons_zero, List.getElem?_cons_succ]
          go_wp2_with fail
          refine (HS2.out _ hS).mono ?_
          rintro e U3 ⟨rfl, hU3⟩
          replace hS := hS.trans (hU3.mono hS.size)
          clear hU3
          go_wp2_with fail
          refine ⟨rfl, hS, partsI_force ?_⟩
          simp only [List.cons_append, List.nil_append, List.append_nil, List.filterMap_cons, List.filterMap_nil, List.getElem?_toArray, List.getElem?_cons_zero, List.getElem?_cons_succ]
          go_wp2_with fail
          refine (HS1.out _ hS).mono ?_
          rintro e U4 ⟨rfl, hU4⟩
          replace hS := hS.trans (hU4.mono hS.size)
          clear hU4
          go_wp2_with fail
          refine ⟨rfl, hS, partsI_force ?_⟩
          simp only [List.cons_append, List.nil_append, List.append_nil, List.filterMap_cons, List.filterMap_nil, List.getElem?_toArray, List.getElem?_cons_zero, List.getElem?_cons_succ]
          go_wp2_with fail
          refine ⟨rfl, hS, partsI_last ?_⟩
          simp only [List.cons_append, List.nil_append, List.append_nil, List.filterMap_cons, List.filterMap_nil, List.getElem?_toArray, List.getElem?_cons_zero, List.getElem?_cons_succ]
          go_wp2_with fail
          refine ⟨rfl, ?_⟩
          go_wp2_with fail
          go_ret
          exact ⟨by simp, hBW.trans (hS.mono hBW.size)⟩
      · have hzb : (z1 == 0) = false := by simpa using hz1
        have hS1 := HH.out.2.2.1
        have hS2 := HH.out.2.2.2
        simp only [decide_eq_false hz1, Bool.false_and, Bool.and_false] at hS1 hS2
        have HS1 : Hid (∀ U, Below W.heap.size W U → Calls Try.prog 21 #[.string s, .string t] U fun e w' => e = .returned (.bool false) ∧ Below U.heap.size U w') := fun U _ => hS1 U
        have HS2 : Hid (∀ U, Below W.heap.size W U → Calls Try.prog 21 #[.string t, .string s] U fun e w' => e = .returned (.bool false) ∧ Below U.heap.size U w') := fun U _ => hS2 U
        clear hS1 hS2 HH hz1
        refine wp_region_partsS (fun U => Below W.heap.size W U) [([3], 0, true), ([], 1, false), ([], 2, false), ([], 4, false), ([5, 11], 6, true), ([], 7, true), ([], 8, true), ([], 9, true), ([], 12, true), ([], 10, false), ([13, 14], 15, false), ([16, 17], 18, true), ([], 19, true), ([], 20, false), ([], 21, false), ([], 22, false), ([23], 24, false), ([25, 26], 27, true), ([], 28, true), ([], 29, true), ([], 30, true), ([], 32, true), ([], 33, true), ([], 34, true), ([], 35, true), ([], 31, false), ([], 36, false), ([], 37, false)] [38, 39] [] (by kernel_rfl) (by kernel_rfl) (Below.refl _ _).drew (partsI_yield ?_)
        simp only [List.cons_append, List.nil_append, List.append_nil, List.filterMap_cons, List.filterMap_nil, List.getElem?_toArray, List.getElem?_cons_zero, List.getElem?_cons_succ]
        have hS : Below W.heap.size W W.drew := (Below.refl _ _).drew
        go_wp2_with fail
        first
          | refine ⟨rfl, _, .agg #[.slice a N.length c, .bool p], rfl, Or.inl ⟨by rfl, fun U hU => by have c1 := (kA.below hU kA.lt).cell 0; have c2 := (kA.below hU kA.lt).cell 1; go_simp⟩, partsI_force ?_⟩
          | refine ⟨rfl, .agg #[.slice a N.length c, .bool p], Or.inl ⟨by rfl, fun U hU => by have c1 := (kA.below hU kA.lt).cell 0; have c2 := (kA.below hU kA.lt).cell 1; go_simp⟩, partsI_force ?_⟩
        simp only [Act.put, List.setIfInBounds_toArray, List.set_cons_zero, List.set_cons_succ]
        simp only [List.cons_append, List.nil_append, List.append_nil, List.filterMap_cons, List.filterMap_nil, List.getElem?_toArray, List.getElem?_cons_zero, List.getElem?_cons_succ]
        have d0 := (kB.below hS kB.lt).cell 0
        have d1 := (kB.below hS kB.lt).cell 1
        go_wp2_with fail
        clear d0 d1
        refine ⟨rfl, hS, partsI_force ?_⟩
        simp only [List.cons_append, List.nil_append, List.append_nil, List.filterMap_cons, List.filterMap_nil, List.getElem?_toArray, List.getElem?_cons_zero, List.getElem?_cons_succ]
        go_wp2_with fail
        refine (HWi.out _ hS).mono ?_
        rintro e U1 ⟨rfl, hU1⟩
        replace hS := hS.trans (hU1.mono hS.size)
        clear hU1
        go_wp2_with fail
        refine ⟨rfl, hS, partsI_force ?_⟩
        simp only [List.cons_append, List.nil_append, List.append_nil, List.filterMap_cons, List.filterMap_nil, List.getElem?_toArray, List.getElem?_cons_zero, List.getElem?_cons_succ]
        go_wp2_with fail
        refine ⟨rfl, hS, partsI_yield ?_⟩
        simp only [List.cons_append, List.nil_append, List.append_nil, List.filterMap_cons, List.filterMap_nil, List.getElem?_toArray, List.getElem?_cons_zero, List.getElem?_cons_succ]
        go_wp2_with fail
        first
          | refine ⟨rfl, _, .pointer (some ⟨gx, 0, none⟩), rfl, Or.inl ⟨by rfl, fun U hU => by go_simp⟩, partsI_yield ?_⟩
          | refine ⟨rfl, .pointer (some ⟨gx, 0, none⟩), Or.inl ⟨by rfl, fun U hU => by go_simp⟩, partsI_yield ?_⟩
        simp only [Act.put, List.setIfInBounds_toArray, List.set_cons_zero, List.set_cons_succ]
        simp only [List.cons_append, List.nil_append, List.append_nil, List.filterMap_cons, List.filterMap_nil, List.getElem?_toArray, List.getElem?_cons_zero, List.getElem?_cons_succ]
        go_wp2_with fail
        first
          | refine ⟨rfl, _, .string s, rfl, Or.inl ⟨by rfl, fun U hU => by have c1 := (kX.below hU kX.lt).cell 0; go_simp⟩, partsI_yield ?_⟩
          | refine ⟨rfl, .string s, Or.inl ⟨by rfl, fun U hU => by have c1 := (kX.below hU kX.lt).cell 0; go_simp⟩, partsI_yield ?_⟩
        simp only [Act.put, List.setIfInBounds_toArray, List.set_cons_zero, List.set_cons_succ]
        simp only [List.cons_append, List.nil_append, List.append_nil, List.filterMap_cons, List.filterMap_nil, List.getElem?_toArray, List.getElem?_cons_zero, List.getElem?_cons_succ]
        go_wp2_with fail
        first
          | refine ⟨rfl, _, .pointer (some ⟨gx, 1, none⟩), rfl, Or.inl ⟨by rfl, fun U hU => by go_simp⟩, partsI_yield ?_⟩
          | refine ⟨rfl, .pointer (some ⟨gx, 1, none⟩), Or.inl ⟨by rfl, fun U hU => by go_simp⟩, partsI_yield ?_⟩
        simp only [Act.put, List.setIfInBounds_toArray, List.set_cons_zero, List.set_cons_succ]
        simp only [List.cons_append, List.nil_append, List.append_nil, List.filterMap_cons, List.filterMap_nil, List.getElem?_toArray, List.getElem?_cons_zero, List.getElem?_cons_succ]
        go_wp2_with fail
        first
          | refine ⟨rfl, _, .string t, rfl, Or.inl ⟨by rfl, fun U hU => by have c1 := (kX.below hU kX.lt).cell 1; go_simp⟩, partsI_yield ?_⟩
          | refine ⟨rfl, .string t, Or.inl ⟨by rfl, fun U hU => by have c1 := (kX.below hU kX.lt).cell 1; go_simp⟩, partsI_yield ?_⟩
        simp only [Act.put, List.setIfInBounds_toArray, List.set_cons_zero, List.set_cons_succ]
        simp only [List.cons_append, List.nil_append, List.append_nil, List.filterMap_cons, List.filterMap_nil, List.getElem?_toArray, List.getElem?_cons_zero, List.getElem?_cons_succ]
        go_wp2_with fail
        first
          | refine ⟨rfl, _, .bool false, rfl, Or.inl ⟨by rfl, fun U hU => by go_simp⟩, partsI_force ?_⟩
          | refine ⟨rfl, .bool false, Or.inl ⟨by rfl, fun U hU => by go_simp⟩, partsI_force ?_⟩
        simp only [Act.put, List.setIfInBounds_toArray, List.set_cons_zero, List.set_cons_succ]
        simp only [List.cons_append, List.nil_append, List.append_nil, List.filterMap_cons, List.filterMap_nil, List.getElem?_toArray, List.getElem?_cons_zero, List.getElem?_cons_succ]
        go_wp2_with fail
        refine (HS1.out _ hS).mono ?_
        rintro e U2 ⟨rfl, hU2⟩
        replace hS := hS.trans (hU2.mono hS.size)
        clear hU2
        go_wp2_with fail
        refine ⟨rfl, hS, partsI_force ?_⟩
        simp only [List.cons_append, List.nil_append, List.append_nil, List.filterMap_cons, List.filterMap_nil, List.getElem?_toArray, List.getElem?_cons_zero, List.getElem?_cons_succ]
        go_wp2_with fail
        refine ⟨rfl, hS, partsI_yield ?_⟩
        simp only [List.cons_append, List.nil_append, List.append_nil, List.filterMap_cons, List.filterMap_nil, List.getElem?_toArray, List.getElem?_cons_zero, List.getElem?_cons_succ]
        go_wp2_with fail
        first
          | refine ⟨rfl, _, undef, rfl, Or.inr ⟨by rfl, rfl⟩, partsI_yield ?_⟩
          | refine ⟨rfl, undef, Or.inr ⟨by rfl, rfl⟩, partsI_yield ?_⟩
        simp only [Act.put, List.setIfInBounds_toArray, List.set_cons_zero, List.set_cons_succ]
        simp only [List.cons_append, List.nil_append, List.append_nil, List.filterMap_cons, List.filterMap_nil, List.getElem?_toArray, List.getElem?_cons_zero, List.getElem?_cons_succ]
        go_wp2_with fail
        first
          | refine ⟨rfl, _, undef, rfl, Or.inr ⟨by rfl, rfl⟩, partsI_force ?_⟩
          | refine ⟨rfl, undef, Or.inr ⟨by rfl, rfl⟩, partsI_force ?_⟩
        simp only [Act.put, List.setIfInBounds_toArray, List.set_cons_zero, List.set_cons_succ]
        simp only [List.cons_append, List.nil_append, List.append_nil, List.filterMap_cons, List.filterMap_nil, List.getElem?_toArray, List.getElem?_cons_zero, List.getElem?_cons_succ]
        go_wp2_with fail
        refine ⟨rfl, hS, partsI_force ?_⟩
        simp only [List.cons_append, List.nil_append, List.append_nil, List.filterMap_cons, List.filterMap_nil, List.getElem?_toArray, List.getElem?_cons_zero, List.getElem?_cons_succ]
        go_wp2_with fail
        refine ⟨rfl, hS, partsI_force ?_⟩
        simp only [List.cons_append, List.nil_append, List.append_nil, List.filterMap_cons, List.filterMap_nil, List.getElem?_toArray, List.getElem?_cons_zero, List.getElem?_cons_succ]
        go_wp2_with fail
        refine ⟨rfl, hS, partsI_force ?_⟩
        simp only [List.cons_append, List.nil_append, List.append_nil, List.filterMap_cons, List.filterMap_nil, List.getElem?_toArray, List.getElem?_cons_zero, List.getElem?_cons_succ]
        go_wp2_with fail
        refine ⟨rfl, hS, partsI_yield ?_⟩
        simp only [List.cons_append, List.nil_append, List.append_nil, List.filterMap_cons, List.filterMap_nil, List.getElem?_toArray, List.getElem?_cons_zero, List.getElem?_cons_succ]
        go_wp2_with fail
        first
          | refine ⟨rfl, _, .pointer (some ⟨gx, 1, none⟩), rfl, Or.inl ⟨by rfl, fun U hU => by go_simp⟩, partsI_yield ?_⟩
          | refine ⟨rfl, .pointer (some ⟨gx, 1, none⟩), Or.inl ⟨by rfl, fun U hU => by go_simp⟩, partsI_yield ?_⟩
        simp only [Act.put, List.setIfInBounds_toArray, List.set_cons_zero, List.set_cons_succ]
        simp only [List.cons_append, List.nil_append, List.append_nil, List.filterMap_cons, List.filterMap_nil, List.getElem?_toArray, List.getElem?_cons_zero, List.getElem?_cons_succ]
        go_wp2_with fail
        first
          | refine ⟨rfl, _, .string t, rfl, Or.inl ⟨by rfl, fun U hU => by have c1 := (kX.below hU kX.lt).cell 1; go_simp⟩, partsI_yield ?_⟩
          | refine ⟨rfl, .string t, Or.inl ⟨by rfl, fun U hU => by have c1 := (kX.below hU kX.lt).cell 1; go_simp⟩, partsI_yield ?_⟩
        simp only [Act.put, List.setIfInBounds_toArray, List.set_cons_zero, List.set_cons_succ]
        simp only [List.cons_append, List.nil_append, List.append_nil, List.filterMap_cons, List.filterMap_nil, List.getElem?_toArray, List.getElem?_cons_zero, List.getElem?_cons_succ]
        go_wp2_with fail
        first
          | refine ⟨rfl, _, .pointer (some ⟨gx, 0, none⟩), rfl, Or.inl ⟨by rfl, fun U hU => by go_simp⟩, partsI_yield ?_⟩
          | refine ⟨rfl, .pointer (some ⟨gx, 0, none⟩), Or.inl ⟨by rfl, fun U hU => by go_simp⟩, partsI_yield ?_⟩
        simp only [Act.put, List.setIfInBounds_toArray, List.set_cons_zero, List.set_cons_succ]
        simp only [List.cons_append, List.nil_append, List.append_nil, List.filterMap_cons, List.filterMap_nil, List.getElem?_toArray, List.getElem?_cons_zero, List.getElem?_cons_succ]
        go_wp2_with fail
        first
          | refine ⟨rfl, _, .string s, rfl, Or.inl ⟨by rfl, fun U hU => by have c1 := (kX.below hU kX.lt).cell 0; go_simp⟩, partsI_yield ?_⟩
          | refine ⟨rfl, .string s, Or.inl ⟨by rfl, fun U hU => by have c1 := (kX.below hU kX.lt).cell 0; go_simp⟩, partsI_yield ?_⟩
        simp only [Act.put, List.setIfInBounds_toArray, List.set_cons_zero, List.set_cons_succ]
        simp only [List.cons_append, List.nil_append, List.append_nil, List.filterMap_cons, List.filterMap_nil, List.getElem?_toArray, List.getElem?_cons_zero, List.getElem?_cons_succ]
        go_wp2_with fail
        first
          | refine ⟨rfl, _, .pointer (some ⟨gx, 0, none⟩), rfl, Or.inl ⟨by rfl, fun U hU => by go_simp⟩, partsI_yield ?_⟩
          | refine ⟨rfl, .pointer (some ⟨gx, 0, none⟩), Or.inl ⟨by rfl, fun U hU => by go_simp⟩, partsI_yield ?_⟩
        simp only [Act.put, List.setIfInBounds_toArray, List.set_cons_zero, List.set_cons_succ]
        simp only [List.cons_append, List.nil_append, List.append_nil, List.filterMap_cons, List.filterMap_nil, List.getElem?_toArray, List.getElem?_cons_zero, List.getElem?_cons_succ]
        go_wp2_with fail
        first
          | refine ⟨rfl, _, .string s, rfl, Or.inl ⟨by rfl, fun U hU => by have c1 := (kX.below hU kX.lt).cell 0; go_simp⟩, partsI_yield ?_⟩
          | refine ⟨rfl, .string s, Or.inl ⟨by rfl, fun U hU => by have c1 := (kX.below hU kX.lt).cell 0; go_simp⟩, partsI_yield ?_⟩
        simp only [Act.put, List.setIfInBounds_toArray, List.set_cons_zero, List.set_cons_succ]
        simp only [List.cons_append, List.nil_append, List.append_nil, List.filterMap_cons, List.filterMap_nil, List.getElem?_toArray, List.getElem?_cons_zero, List.getElem?_cons_succ]
        go_wp2_with fail
        first
          | refine ⟨rfl, _, .pointer (some ⟨gx, 1, none⟩), rfl, Or.inl ⟨by rfl, fun U hU => by go_simp⟩, partsI_yield ?_⟩
          | refine ⟨rfl, .pointer (some ⟨gx, 1, none⟩), Or.inl ⟨by rfl, fun U hU => by go_simp⟩, partsI_yield ?_⟩
        simp only [Act.put, List.setIfInBounds_toArray, List.set_cons_zero, List.set_cons_succ]
        simp only [List.cons_append, List.nil_append, List.append_nil, List.filterMap_cons, List.filterMap_nil, List.getElem?_toArray, List.getElem?_cons_zero, List.getElem?_cons_succ]
        go_wp2_with fail
        first
          | refine ⟨rfl, _, .string t, rfl, Or.inl ⟨by rfl, fun U hU => by have c1 := (kX.below hU kX.lt).cell 1; go_simp⟩, partsI_force ?_⟩
          | refine ⟨rfl, .string t, Or.inl ⟨by rfl, fun U hU => by have c1 := (kX.below hU kX.lt).cell 1; go_simp⟩, partsI_force ?_⟩
        simp only [Act.put, List.setIfInBounds_toArray, List.set_cons_zero, List.set_cons_succ]
        simp only [List.cons_append, List.nil_append, List.append_nil, List.filterMap_cons, List.filterMap_nil, List.getElem?_toArray, List.getElem?_cons_zero, List.getElem?_cons_succ]
        go_wp2_with fail
        refine (HS2.out _ hS).mono ?_
        rintro e U3 ⟨rfl, hU3⟩
        replace hS := hS.trans (hU3.mono hS.size)
        clear hU3
        go_wp2_with fail
        refine ⟨rfl, hS, partsI_force ?_⟩
        simp only [List.cons_append, List.nil_append, List.append_nil, List.filterMap_cons, List.filterMap_nil, List.getElem?_toArray, List.getElem?_cons_zero, List.getElem?_cons_succ]
        go_wp2_with fail
        refine (HS1.out _ hS).mono ?_
        rintro e U4 ⟨rfl, hU4⟩
        replace hS := hS.trans (hU4.mono hS.size)
        clear hU4
        go_wp2_with fail
        refine ⟨rfl, hS, partsI_force ?_⟩
        simp only [List.cons_append, List.nil_append, List.append_nil, List.filterMap_cons, List.filterMap_nil, List.getElem?_toArray, List.getElem?_cons_zero, List.getElem?_cons_succ]
        go_wp2_with fail
        refine ⟨rfl, hS, partsI_last ?_⟩
        simp only [List.cons_append, List.nil_append, List.append_nil, List.filterMap_cons, List.filterMap_nil, List.getElem?_toArray, List.getElem?_cons_zero, List.getElem?_cons_succ]
        go_wp2_with fail
        refine ⟨rfl, ?_⟩
        go_wp2_with fail
        go_ret
        exact ⟨by simp, hBW.trans (hS.mono hBW.size)⟩
end Go.Proofs.Ythoohhokoeihiaa
