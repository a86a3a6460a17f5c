/- Two texts, a path as arguments, opened: no condition but that they are ones. -/
import Derived.Test.YtggacdlnpakehaaDoorHPaRel
import Derived.Test.YtggacdlnpakehaaDoorHPaMatchesLaw
import Derived.Test.YtggacdlnpakehaaDoorHPaRef
import Derived.Test.YtggacdlnpakehaaDoorRows
import Derived.WalkKit
import Derived.ProofKit
import Derived.OpenShut
import Derived.Carry
import Derived.SliceStrings
import Derived.Lib.SmallJoins
import Derived.SizedLaws

namespace Go.Proofs.YtggacdlnpakehaaDoor
open Go Go.RowKit Go.Shelf Go.Nam
set_option linter.unusedVariables false
set_option linter.unusedSimpArgs false
/-- where one of both is no path, Relative and Common tell the same error, and no text -/
theorem ways_bad {l m : List UInt8} (h : (prs l).2.2.2 ≠ 0 ∨ (prs m).2.2.2 ≠ 0) : ∃ z : Int, z ≠ 0 ∧ reR l m = (⟨#[]⟩, z) ∧ coR l m = (⟨#[]⟩, z) := by
  unfold reR coR
  by_cases h1 : (prs l).2.2.2 = 0
  · have h2 : (prs m).2.2.2 ≠ 0 := h.resolve_left (fun h => h h1)
    exact ⟨_, h2, by rw [if_pos h1, if_neg h2], by rw [if_pos h1, if_neg h2]⟩
  · exact ⟨_, h1, by rw [if_neg h1], by rw [if_neg h1]⟩
theorem join_data (s x : ByteArray) (h : x.data.toList[0]? ≠ some 47) : (jnS s x).data.toList = s.data.toList ++ 47 :: x.data.toList := by
  unfold jnS
  rw [if_neg h]
  simp
theorem has3_iff (l : List UInt8) : has3 l = false ↔ ∀ b ∈ l, b ≠ 42 ∧ b ≠ 63 := by
  unfold has3
  rw [List.any_eq_false]
  constructor
  · intro h b hb
    have := h b hb
    simpa using this
  · intro h b hb
    simp [h b hb]
set_option maxRecDepth 100000 in
set_option maxHeartbeats 4000000 in
theorem pathWays_no (s t : ByteArray) {N M : List ByteArray} {d d2 : Bool} {i i2 : Nat} {z z2 : Int} (hp : prs s.data.toList = (N, d, i, z)) (hp2 : prs t.data.toList = (M, d2, i2, z2)) (hno : z ≠ 0 ∨ z2 ≠ 0) (w : World) :
    Calls Tryd.prog 3 #[.agg #[.string s, .string t]] w fun e w' => e = .returned (.bool true) ∧ Below w.heap.size w w' := by
  have HA : Hid (∀ w : World, Calls Tryd.prog 4 #[] w fun e w' => e = .returned (.bool true) ∧ Below w.heap.size w w') := awake18_any
  obtain ⟨zr, hzr, er, ec⟩ := ways_bad (l := s.data.toList) (m := t.data.toList) (by rw [hp, hp2]; exact hno)
  have H1 : Hid (∀ w : World, Calls Tryd.prog 5 #[.string s, .string t] w fun e w' => e = .returned (.tuple #[.string ⟨#[]⟩, .int .i64 zr]) ∧ Below w.heap.size w w') := fun w => by
    have := prel_any s t w
    rwa [er] at this
  have H2 : Hid (∀ w : World, Calls Tryd.prog 6 #[.string s, .string t] w fun e w' => e = .returned (.tuple #[.string ⟨#[]⟩, .int .i64 zr]) ∧ Below w.heap.size w w') := fun w => by
    have := pcommon_any s t w
    rwa [ec] at this
  have H3 : Hid (∀ w : World, _) := parse_at s hp
  have H4 : Hid (∀ w : World, _) := parse_at t hp2
  have hzb : (zr == 0) = false := by simpa using hzr
  clear er ec hp hp2
  go_enter Tryd.func3, Tryd.ntmps3
  go_wp2_with fail
  have k0 := Blk.new w 23 #[.string s, .string t]
  have B0 : Below w.heap.size w (w.alloc (.cells #[.string s, .string t] 23)) := (Below.refl _ w).alloc (Nat.le_refl _) _
  have HI : Hid (_ ∧ _) := ⟨k0, B0⟩
  clear k0 B0
  refine (HA.out _).mono ?_
  rintro e w1 ⟨rfl, hb⟩
  obtain ⟨k0, B0⟩ := HI.out
  have k1 := k0.below hb k0.lt
  have B1 := B0.trans (hb.mono B0.size)
  clear HI
  have c0 := k1.cell 0
  have c1 := k1.cell 1
  have HI : Hid (_ ∧ _) := ⟨k1, B1⟩
  clear k0 B0 k1 B1 hb
  go_wp2_with fail
  refine (H1.out _).mono ?_
  rintro e w2 ⟨rfl, hb⟩
  obtain ⟨k0, B0⟩ := HI.out
  have k1 := k0.below hb k0.lt
  have B1 := B0.trans (hb.mono B0.size)
  clear c0 c1
  clear HI
  have c0 := k1.cell 0
  have c1 := k1.cell 1
  have HI : Hid (_ ∧ _) := ⟨k1, B1⟩
  clear k0 B0 k1 B1 hb
  go_wp2_with fail
  refine (H2.out _).mono ?_
  rintro e w3 ⟨rfl, hb⟩
  obtain ⟨k0, B0⟩ := HI.out
  have k1 := k0.below hb k0.lt
  have B1 := B0.trans (hb.mono B0.size)
  clear c0 c1
  clear HI
  have c0 := k1.cell 0
  have c1 := k1.cell 1
  have HI : Hid (_ ∧ _) := ⟨k1, B1⟩
  clear k0 B0 k1 B1 hb
  go_wp2_with fail
  refine (H3.out _).mono ?_
  rintro e w4 ⟨a, c, rfl, ho, hb⟩
  have hba : Below w4.heap.size w4 (w4.alloc (.cells #[.slice a N.length c, .bool d] 30)) := (Below.refl _ w4).alloc (Nat.le_refl _) _
  obtain ⟨k0, B0⟩ := HI.out
  have hbb := hb.alloc hb.size (.cells #[.slice a N.length c, .bool d] 30)
  have k1 := k0.below hbb k0.lt
  have B1 := B0.trans (hbb.mono B0.size)
  have kp := Blk.new w4 30 #[.slice a N.length c, .bool d]
  have np := (own_isN ho).below hba
  clear c0 c1 HI
  have c0 := k1.cell 0
  have c1 := k1.cell 1
  have HI : Hid (_ ∧ _ ∧ _ ∧ _) := ⟨k1, B1, kp, np⟩
  clear k0 B0 k1 B1 kp np ho hb hba hbb
  go_wp2_with fail
  generalize w4.alloc (.cells #[.slice a N.length c, .bool d] 30) = w5 at *
  generalize w4.heap.size = gp at *
  refine (H4.out _).mono ?_
  rintro e w6 ⟨b, c2, rfl, ho, hb⟩
  have hba : Below w6.heap.size w6 (w6.alloc (.cells #[.slice b M.length c2, .bool d2] 30)) := (Below.refl _ w6).alloc (Nat.le_refl _) _
  obtain ⟨k0, B0, kp0, np0⟩ := HI.out
  have hbb := hb.alloc hb.size (.cells #[.slice b M.length c2, .bool d2] 30)
  have k1 := k0.below hbb k0.lt
  have B1 := B0.trans (hbb.mono B0.size)
  have kp := kp0.below hbb kp0.lt
  have np := np0.below hbb
  have kq := Blk.new w6 30 #[.slice b M.length c2, .bool d2]
  have nq := (own_isN ho).below hba
  clear c0 c1 HI
  have c0 := k1.cell 0
  have c1 := k1.cell 1
  have HI : Hid (_ ∧ _ ∧ _ ∧ _ ∧ _ ∧ _) := ⟨k1, B1, kp, np, kq, nq⟩
  clear k0 B0 k1 B1 kp np kp0 np0 kq nq ho hb hba hbb
  by_cases hz : z = 0
  · subst hz
    have hz2 : z2 ≠ 0 := hno.resolve_left (fun h => h rfl)
    have hzb2 : (z2 == 0) = false := by simpa using hz2
    clear hno
    go_wp2_with fail
    go_ret
    obtain ⟨k0, B0, _⟩ := HI.out
    exact ⟨by simp, B0⟩
  · have hzb2 : (z == 0) = false := by simpa using hz
    clear hno
    go_wp2_with fail
    go_ret
    obtain ⟨k0, B0, _⟩ := HI.out
    exact ⟨by simp, B0⟩
set_option maxRecDepth 100000 in
set_option maxHeartbeats 8000000 in
theorem pathWays_ok (s t : ByteArray) (hs : s.size ≤ 140737488355327) {N M : List ByteArray} {d d2 : Bool} {i i2 : Nat} (hp : prs s.data.toList = (N, d, i, 0)) (hp2 : prs t.data.toList = (M, d2, i2, 0)) (w : World) :
    Calls Tryd.prog 3 #[.agg #[.string s, .string t]] w fun e w' => e = .returned (.bool true) ∧ Below w.heap.size w w' := by
  have HA : Hid (∀ w : World, Calls Tryd.prog 4 #[] w fun e w' => e = .returned (.bool true) ∧ Below w.heap.size w w') := awake18_any
  have hG : GoodN N := by have := good_prs s.data.toList; rwa [hp] at this
  have hG2 : GoodN M := by have := good_prs t.data.toList; rwa [hp2] at this
  have hfl := frm_short s.data.toList (by rw [hp])
  rw [hp] at hfl
  have hfl : (frmL N).length ≤ 1024 := Nat.le_trans hfl.1 hfl.2
  obtain ⟨k, hk⟩ : ∃ k, cmN N M = k := ⟨_, rfl⟩
  have hkl := cmN_le N M
  rw [hk] at hkl
  obtain ⟨x, hx⟩ : ∃ x, wayS N M = x := ⟨_, rfl⟩
  obtain ⟨cm, hcm⟩ : ∃ cm, bsL (frmL (N.take k)) = cm := ⟨_, rfl⟩
  obtain ⟨fN, hfN⟩ : ∃ f, bsL (frmL N) = f := ⟨_, rfl⟩
  obtain ⟨fM, hfM⟩ : ∃ f, bsL (frmL M) = f := ⟨_, rfl⟩
  have H1 : Hid (∀ w : World, Calls Tryd.prog 5 #[.string s, .string t] w fun e w' => e = .returned (.tuple #[.string x, .int .i64 0]) ∧ Below w.heap.size w w') := fun w => by
    have := prel_ok s t hp hp2 w
    rwa [hx] at this
  have H2 : Hid (∀ w : World, Calls Tryd.prog 6 #[.string s, .string t] w fun e w' => e = .returned (.tuple #[.string cm, .int .i64 0]) ∧ Below w.heap.size w w') := fun w => by
    have := pcommon_any s t w
    unfold coR at this
    rw [hp, hp2, if_pos (show (N, d, i, (0 : Int)).2.2.2 = 0 from rfl), if_pos (show (M, d2, i2, (0 : Int)).2.2.2 = 0 from rfl)] at this
    rw [← hcm, ← hk]
    exact this
  have H3 : Hid (∀ w : World, _) := parse_at s hp
  have H4 : Hid (∀ w : World, _) := parse_at t hp2
  have H6 : Hid (∀ w : World, Calls Tryd.prog 9 #[.string t] w fun e w' => e = .returned (.tuple #[.string fM, .int .i64 0]) ∧ Below w.heap.size w w') := fun w => by
    have := clean_any t w
    unfold clnS at this
    rw [hp2, if_pos (show (M, d2, i2, (0 : Int)).2.2.2 = 0 from rfl)] at this
    rw [← hfM]
    exact this
  have H9 : Hid (∀ w : World, Calls Tryd.prog 9 #[.string s] w fun e w' => e = .returned (.tuple #[.string fN, .int .i64 0]) ∧ Below w.heap.size w w') := fun w => by
    have := clean_any s w
    unfold clnS at this
    rw [hp, if_pos (show (N, d, i, (0 : Int)).2.2.2 = 0 from rfl)] at this
    rw [← hfN]
    exact this
  have hxs : x.size ≤ 3000 := by
    have h := wayT_acc N M
    rw [hx] at h
    have h2 := congrArg List.length h
    rw [List.length_cons, ← Lib.size_eq] at h2
    have h3 : (accN (wayT N M)).length ≤ 3000 := by
      unfold wayT
      split
      · decide
      · unfold wayL
        rw [acc_app, List.length_append, rep_len]
        have hgd : GoodN (M.drop (cmN N M)) := ⟨by have := hG2.1; rw [List.length_drop]; omega, fun x hx => hG2.2 x (List.mem_of_mem_drop hx)⟩
        have := good_len hgd
        have := hG.1
        omega
    omega
  obtain ⟨y, zj, H5, hzj⟩ : ∃ (y : ByteArray) (zj : Int), Hid (∀ w : World, Calls Tryd.prog 8 #[.string s, .string x] w fun e w' => e = .returned (.tuple #[.string y, .int .i64 zj]) ∧ Below w.heap.size w w') ∧ ((zj = 0 ∧ y = fM) ∨ zj = 181) := by
    refine ⟨_, _, pjoin_any s x hs (by omega), ?_⟩
    have hj := join_data s x (by rw [← hx]; exact way_first N M hG2)
    rw [hj, ← hx]
    by_cases hl : (s.data.toList ++ 47 :: (wayS N M).data.toList).length ≤ 1024
    · obtain ⟨h1, h2⟩ := way_prs hp hG2 hl
      refine .inl ⟨h2, ?_⟩
      unfold clnS
      rw [if_pos h2, h1, hfM]
    · exact .inr (way_long (by omega))
  have H7 : Hid (∀ w : World, _) := parse_at cm (N := N.take k) (d := decide (N.take k = [])) (i := 0) (z := 0) (by rw [← hcm, bsL_data]; exact prs_frm (hG.take k) (Nat.le_trans (frm_take N k) hfl))
  generalize hdk : decide (N.take k = []) = dk at H7
  have hlk : (N.take k).length = k := by rw [List.length_take]; omega
  rw [hlk] at H7
  have hNl := hG.1
  have hMl := hG2.1
  have HW : Hid (∀ (w : World) (a b : Option Addr) (c c2 : Nat) (p q : Bool), IsN w a N → IsN w b (N.take k) → Calls Tryd.prog 10 #[.agg #[.slice a N.length c, .bool p], .agg #[.slice b k c2, .bool q]] w fun e w' => e = .returned (.bool true) ∧ Below w.heap.size w w') := fun w a b c c2 p q h1 h2 => by
    have := within_any (c := c) (d := c2) h1 h2 (by omega) (by omega) p q
    rw [hlk, cm_pre N k hkl.1, decide_eq_true rfl] at this
    exact this
  have HW2 : Hid (∀ (w : World) (a b : Option Addr) (c c2 : Nat) (p q : Bool), IsN w a M → IsN w b (N.take k) → Calls Tryd.prog 10 #[.agg #[.slice a M.length c, .bool p], .agg #[.slice b k c2, .bool q]] w fun e w' => e = .returned (.bool true) ∧ Below w.heap.size w w') := fun w a b c c2 p q h1 h2 => by
    have := within_any (c := c) (d := c2) h1 h2 (by omega) (by omega) p q
    rw [hlk, ← hk, cm_take, cm_pre M _ (by omega), decide_eq_true rfl] at this
    rw [hk] at this
    exact this
  have hfs : fN.size ≤ 1824 := by rw [← hfN, bsL_size]; exact frm_len hG
  obtain ⟨hb, hhb⟩ : ∃ hb, has3 fN.data.toList = hb := ⟨_, rfl⟩
  have HC : Hid (∀ w : World, Calls Tryd.prog 11 #[.string fN, .string ⟨#[42, 63]⟩] w fun e w' => e = .returned (.bool hb) ∧ Below w.heap.size w w') := fun w => by
    have := containsAny_any3 fN (by omega) w
    rwa [hhb] at this
  have HM : Hid (hb = false → (∀ w : World, Calls Tryd.prog 12 #[.string fN, .string s] w fun e w' => e = .returned (.bool true) ∧ Below w.heap.size w w') ∧ (∀ w : World, Calls Tryd.prog 12 #[.string fN, .string t] w fun e w' => e = .returned (.bool (decide (N = M))) ∧ Below w.heap.size w w')) := fun h => by
    rw [h, has3_iff, ← hfN, bsL_data] at hhb
    have hq := allM_frm hG hhb
    have h47 : fN.data.toList[0]? = some 47 := by rw [← hfN, bsL_data]; rfl
    have hg := prsD_good s.data.toList
    rw [hp] at hg
    have hg2 := prsD_good t.data.toList
    rw [hp2] at hg2
    refine ⟨pmatch_main fN s (by omega) hp hg.1 hg.2 h47 true ?_, pmatch_main fN t (by omega) hp2 hg2.1 hg2.2 h47 _ ?_⟩
    · rw [← hfN, bsL_data, hq]; simp
    · rw [← hfN, bsL_data, hq, decide_eq_true_eq]
  have HSM : Hid (∀ w : World, Calls Tryd.prog 13 #[.string s, .string t] w fun e w' => e = .returned (.bool (decide (N = M))) ∧ Below w.heap.size w w') := fun w => by
    have := psame_any s t w
    rw [hp, hp2] at this
    simpa using this
  generalize decide (N = M) = same at *
  have hsame : (same == same) = true := by simp
  clear hp hp2 hx hfN hfM hhb hfl hcm hdk hk hG hG2 hlk hxs hfs
  go_enter Tryd.func3, Tryd.ntmps3
  go_wp2_with fail
  have k0 := Blk.new w 23 #[.string s, .string t]
  have B0 : Below w.heap.size w (w.alloc (.cells #[.string s, .string t] 23)) := (Below.refl _ w).alloc (Nat.le_refl _) _
  have HI : Hid (_ ∧ _) := ⟨k0, B0⟩
  clear k0 B0
  refine (HA.out _).mono ?_
  rintro e w1 ⟨rfl, hb⟩
  obtain ⟨k0, B0⟩ := HI.out
  have k1 := k0.below hb k0.lt
  have B1 := B0.trans (hb.mono B0.size)
  clear HI
  have c0 := k1.cell 0
  have c1 := k1.cell 1
  have HI : Hid (_ ∧ _) := ⟨k1, B1⟩
  clear k0 B0 k1 B1 hb
  go_wp2_with fail
  refine (H1.out _).mono ?_
  rintro e w2 ⟨rfl, hb⟩
  obtain ⟨k0, B0⟩ := HI.out
  have k1 := k0.below hb k0.lt
  have B1 := B0.trans (hb.mono B0.size)
  clear c0 c1
  clear HI
  have c0 := k1.cell 0
  have c1 := k1.cell 1
  have HI : Hid (_ ∧ _) := ⟨k1, B1⟩
  clear k0 B0 k1 B1 hb
  go_wp2_with fail
  refine (H2.out _).mono ?_
  rintro e w3 ⟨rfl, hb⟩
  obtain ⟨k0, B0⟩ := HI.out
  have k1 := k0.below hb k0.lt
  have B1 := B0.trans (hb.mono B0.size)
  clear c0 c1
  clear HI
  have c0 := k1.cell 0
  have c1 := k1.cell 1
  have HI : Hid (_ ∧ _) := ⟨k1, B1⟩
  clear k0 B0 k1 B1 hb
  go_wp2_with fail
  refine (H3.out _).mono ?_
  rintro e w4 ⟨a, c, rfl, ho, hb⟩
  have hba : Below w4.heap.size w4 (w4.alloc (.cells #[.slice a N.length c, .bool d] 30)) := (Below.refl _ w4).alloc (Nat.le_refl _) _
  obtain ⟨k0, B0⟩ := HI.out
  have hbb := hb.alloc hb.size (.cells #[.slice a N.length c, .bool d] 30)
  have k1 := k0.below hbb k0.lt
  have B1 := B0.trans (hbb.mono B0.size)
  have kp := Blk.new w4 30 #[.slice a N.length c, .bool d]
  have np := (own_isN ho).below hba
  clear c0 c1 HI
  have c0 := k1.cell 0
  have c1 := k1.cell 1
  have HI : Hid (_ ∧ _ ∧ _ ∧ _) := ⟨k1, B1, kp, np⟩
  clear k0 B0 k1 B1 kp np ho hb hba hbb
  go_wp2_with fail
  generalize w4.alloc (.cells #[.slice a N.length c, .bool d] 30) = w5 at *
  generalize w4.heap.size = gp at *
  refine (H4.out _).mono ?_
  rintro e w6 ⟨b, c2, rfl, ho, hb⟩
  have hba : Below w6.heap.size w6 (w6.alloc (.cells #[.slice b M.length c2, .bool d2] 30)) := (Below.refl _ w6).alloc (Nat.le_refl _) _
  obtain ⟨k0, B0, kp0, np0⟩ := HI.out
  have hbb := hb.alloc hb.size (.cells #[.slice b M.length c2, .bool d2] 30)
  have k1 := k0.below hbb k0.lt
  have B1 := B0.trans (hbb.mono B0.size)
  have kp := kp0.below hbb kp0.lt
  have np := np0.below hbb
  have kq := Blk.new w6 30 #[.slice b M.length c2, .bool d2]
  have nq := (own_isN ho).below hba
  clear c0 c1 HI
  have c0 := k1.cell 0
  have c1 := k1.cell 1
  have HI : Hid (_ ∧ _ ∧ _ ∧ _ ∧ _ ∧ _) := ⟨k1, B1, kp, np, kq, nq⟩
  clear k0 B0 k1 B1 kp np kp0 np0 kq nq ho hb hba hbb
  go_wp2_with fail
  generalize w6.alloc (.cells #[.slice b M.length c2, .bool d2] 30) = w7 at *
  generalize w6.heap.size = gq at *
  refine (H5.out _).mono ?_
  rintro e w8 ⟨rfl, hb⟩
  obtain ⟨k0, B0, kp0, np0, kq0, nq0⟩ := HI.out
  have k1 := k0.below hb k0.lt
  have B1 := B0.trans (hb.mono B0.size)
  have kp := kp0.below hb kp0.lt
  have np := np0.below hb
  have kq := kq0.below hb kq0.lt
  have nq := nq0.below hb
  clear c0 c1 HI
  have c0 := k1.cell 0
  have c1 := k1.cell 1
  have HI : Hid (_ ∧ _ ∧ _ ∧ _ ∧ _ ∧ _) := ⟨k1, B1, kp, np, kq, nq⟩
  clear k0 B0 k1 B1 kp np kp0 np0 kq nq kq0 nq0 hb
  rcases hzj with ⟨rfl, rfl⟩ | rfl
  · have hyy : (y.toList == y.toList) = true := by simp
    have hyn : (y.toList != y.toList) = false := by simp
    go_wp2_with fail
    refine (H6.out _).mono ?_
    rintro e w8b ⟨rfl, hb⟩
    obtain ⟨k0, B0, kp0, np0, kq0, nq0⟩ := HI.out
    have k1 := k0.below hb k0.lt
    have B1 := B0.trans (hb.mono B0.size)
    have kp := kp0.below hb kp0.lt
    have np := np0.below hb
    have kq := kq0.below hb kq0.lt
    have nq := nq0.below hb
    clear c0 c1 HI
    have c0 := k1.cell 0
    have c1 := k1.cell 1
    have HI : Hid (_ ∧ _ ∧ _ ∧ _ ∧ _ ∧ _) := ⟨k1, B1, kp, np, kq, nq⟩
    clear k0 B0 k1 B1 kp np kp0 np0 kq nq kq0 nq0 hb
    go_wp2_with fail
    refine (H7.out _).mono ?_
    rintro e w9 ⟨b3, c3, rfl, ho, hb⟩
    have hba : Below w9.heap.size w9 (w9.alloc (.cells #[.slice b3 k c3, .bool dk] 30)) := (Below.refl _ w9).alloc (Nat.le_refl _) _
    have hbb := hb.alloc hb.size (.cells #[.slice b3 k c3, .bool dk] 30)
    obtain ⟨k0, B0, kp0, np0, kq0, nq0⟩ := HI.out
    have k1 := k0.below hbb k0.lt
    have B1 := B0.trans (hbb.mono B0.size)
    have kp := kp0.below hbb kp0.lt
    have np := np0.below hbb
    have kq := kq0.below hbb kq0.lt
    have nq := nq0.below hbb
    have kk := Blk.new w9 30 #[.slice b3 k c3, .bool dk]
    have nk := (own_isN ho).below hba
    clear c0 c1 HI k0 B0 kp0 np0 kq0 nq0 ho hb hba hbb
    have p0 := kp.cell 0
    have p1 := kp.cell 1
    have q0 := kk.cell 0
    have q1 := kk.cell 1
    have HW1 : Hid (Calls Tryd.prog 10 #[.agg #[.slice a N.length c, .bool d], .agg #[.slice b3 k c3, .bool dk]] (w9.alloc (.cells #[.slice b3 k c3, .bool dk] 30)) fun e w' => e = .returned (.bool true) ∧ Below (w9.alloc (.cells #[.slice b3 k c3, .bool dk] 30)).heap.size (w9.alloc (.cells #[.slice b3 k c3, .bool dk] 30)) w') := HW.out _ _ _ _ _ _ _ np nk
    have HI : Hid (_ ∧ _ ∧ _ ∧ _ ∧ _ ∧ _) := ⟨k1, B1, kq, nq, kk, nk⟩
    clear k1 B1 kp np kq nq kk nk
    go_wp2_with fail
    generalize w9.alloc (.cells #[.slice b3 k c3, .bool dk] 30) = w10 at *
    generalize w9.heap.size = gk at *
    refine HW1.out.mono ?_
    rintro e w11 ⟨rfl, hb⟩
    obtain ⟨k0, B0, kq0, nq0, kk0, nk0⟩ := HI.out
    have k1 := k0.below hb k0.lt
    have B1 := B0.trans (hb.mono B0.size)
    have kq := kq0.below hb kq0.lt
    have kk := kk0.below hb kk0.lt
    clear p0 p1 q0 q1 HI HW1
    have p0 := kq.cell 0
    have p1 := kq.cell 1
    have q0 := kk.cell 0
    have q1 := kk.cell 1
    have HW1 : Hid (Calls Tryd.prog 10 #[.agg #[.slice b M.length c2, .bool d2], .agg #[.slice b3 k c3, .bool dk]] w11 fun e w' => e = .returned (.bool true) ∧ Below w11.heap.size w11 w') := HW2.out _ _ _ _ _ _ _ (nq0.below hb) (nk0.below hb)
    have HI : Hid (_ ∧ _) := ⟨k1, B1⟩
    clear k0 B0 kq0 nq0 kk0 nk0 k1 B1 kq kk hb
    go_wp2_with fail
    refine HW1.out.mono ?_
    rintro e w12 ⟨rfl, hb⟩
    obtain ⟨k0, B0⟩ := HI.out
    have k1 := k0.below hb k0.lt
    have B1 := B0.trans (hb.mono B0.size)
    clear p0 p1 q0 q1 HI HW1
    have c0 := k1.cell 0
    have HI : Hid (_ ∧ _) := ⟨k1, B1⟩
    clear k0 B0 k1 B1 hb
    go_wp2_with fail
    refine (H9.out _).mono ?_
    rintro e W ⟨rfl, hb⟩
    obtain ⟨k0, B0⟩ := HI.out
    have HKX : Hid (Blk W w.heap.size 23 #[.string s, .string t]) := k0.below hb k0.lt
    have HBW : Hid (Below w.heap.size w W) := B0.trans (hb.mono B0.size)
    clear c0 HI k0 B0 hb
    go_wp2_with fail
    cases hb
    · obtain ⟨hm1, hm2⟩ := HM.out rfl
      have HM1 : Hid (∀ w : World, _) := hm1
      have HM2 : Hid (∀ w : World, _) := hm2
      clear hm1 hm2 HM
      refine wp_region_partsS (fun U => Below W.heap.size W U) [([0], 1, false), ([2, 3], 4, false), ([], 5, false), ([], 6, false), ([7, 8], 9, true), ([], 10, true), ([], 12, true), ([], 13, true), ([], 14, true), ([], 15, true), ([], 11, false), ([], 16, false), ([], 17, false)] [18, 19, 20] [] (by kernel_rfl) (by kernel_rfl) (Below.refl _ _).drew (partsI_force ?_)
      simp only [List.cons_append, List.nil_append, List.append_nil, List.filterMap_cons, List.filterMap_nil, List.getElem?_toArray, List.getElem?_cons_zero, List.getElem?_cons_succ]
      have hS : Below W.heap.size W W.drew := (Below.refl _ _).drew
      go_wp2_with fail
      refine (HC.out _).mono ?_
      rintro e U1 ⟨rfl, hU⟩
      replace hS := hS.trans (hU.mono hS.size)
      clear hU
      go_wp2_with fail
      refine ⟨rfl, hS, partsI_force ?_⟩
      simp only [List.cons_append, List.nil_append, List.append_nil, List.filterMap_cons, List.filterMap_nil, List.getElem?_toArray, List.getElem?_cons_zero, List.getElem?_cons_succ]
      go_wp2_with fail
      refine ⟨rfl, hS, partsI_force ?_⟩
      simp only [List.cons_append, List.nil_append, List.append_nil, List.filterMap_cons, List.filterMap_nil, List.getElem?_toArray, List.getElem?_cons_zero, List.getElem?_cons_succ]
      have d0 := (HKX.out.below hS HKX.out.lt).cell 0
      go_wp2_with fail
      clear d0
      refine ⟨rfl, hS, partsI_force ?_⟩
      simp only [List.cons_append, List.nil_append, List.append_nil, List.filterMap_cons, List.filterMap_nil, List.getElem?_toArray, List.getElem?_cons_zero, List.getElem?_cons_succ]
      go_wp2_with fail
      refine (HM1.out _).mono ?_
      rintro e U2 ⟨rfl, hU⟩
      replace hS := hS.trans (hU.mono hS.size)
      clear hU
      go_wp2_with fail
      refine ⟨rfl, hS, partsI_yield ?_⟩
      simp only [List.cons_append, List.nil_append, List.append_nil, List.filterMap_cons, List.filterMap_nil, List.getElem?_toArray, List.getElem?_cons_zero, List.getElem?_cons_succ]
      go_wp2_with fail
      first
        | refine ⟨rfl, _, .pointer (some ⟨w.heap.size, 1, none⟩), rfl, Or.inl ⟨by rfl, fun U hU => by go_simp⟩, partsI_yield ?_⟩
        | refine ⟨rfl, .pointer (some ⟨w.heap.size, 1, none⟩), Or.inl ⟨by rfl, fun U hU => by go_simp⟩, partsI_yield ?_⟩
      simp only [Act.put, List.setIfInBounds_toArray, List.set_cons_zero, List.set_cons_succ]
      simp only [List.cons_append, List.nil_append, List.append_nil, List.filterMap_cons, List.filterMap_nil, List.getElem?_toArray, List.getElem?_cons_zero, List.getElem?_cons_succ]
      go_wp2_with fail
      first
        | refine ⟨rfl, _, .string t, rfl, Or.inl ⟨by rfl, fun U hU => by have c9 := (HKX.out.below hU HKX.out.lt).cell 1; go_simp⟩, partsI_yield ?_⟩
        | refine ⟨rfl, .string t, Or.inl ⟨by rfl, fun U hU => by have c9 := (HKX.out.below hU HKX.out.lt).cell 1; go_simp⟩, partsI_yield ?_⟩
      simp only [Act.put, List.setIfInBounds_toArray, List.set_cons_zero, List.set_cons_succ]
      simp only [List.cons_append, List.nil_append, List.append_nil, List.filterMap_cons, List.filterMap_nil, List.getElem?_toArray, List.getElem?_cons_zero, List.getElem?_cons_succ]
      go_wp2_with fail
      first
        | refine ⟨rfl, _, .pointer (some ⟨w.heap.size, 0, none⟩), rfl, Or.inl ⟨by rfl, fun U hU => by go_simp⟩, partsI_yield ?_⟩
        | refine ⟨rfl, .pointer (some ⟨w.heap.size, 0, none⟩), Or.inl ⟨by rfl, fun U hU => by go_simp⟩, partsI_yield ?_⟩
      simp only [Act.put, List.setIfInBounds_toArray, List.set_cons_zero, List.set_cons_succ]
      simp only [List.cons_append, List.nil_append, List.append_nil, List.filterMap_cons, List.filterMap_nil, List.getElem?_toArray, List.getElem?_cons_zero, List.getElem?_cons_succ]
      go_wp2_with fail
      first
        | refine ⟨rfl, _, .string s, rfl, Or.inl ⟨by rfl, fun U hU => by have c9 := (HKX.out.below hU HKX.out.lt).cell 0; go_simp⟩, partsI_yield ?_⟩
        | refine ⟨rfl, .string s, Or.inl ⟨by rfl, fun U hU => by have c9 := (HKX.out.below hU HKX.out.lt).cell 0; go_simp⟩, partsI_yield ?_⟩
      simp only [Act.put, List.setIfInBounds_toArray, List.set_cons_zero, List.set_cons_succ]
      simp only [List.cons_append, List.nil_append, List.append_nil, List.filterMap_cons, List.filterMap_nil, List.getElem?_toArray, List.getElem?_cons_zero, List.getElem?_cons_succ]
      go_wp2_with fail
      first
        | refine ⟨rfl, _, .pointer (some ⟨w.heap.size, 1, none⟩), rfl, Or.inl ⟨by rfl, fun U hU => by go_simp⟩, partsI_yield ?_⟩
        | refine ⟨rfl, .pointer (some ⟨w.heap.size, 1, none⟩), Or.inl ⟨by rfl, fun U hU => by go_simp⟩, partsI_yield ?_⟩
      simp only [Act.put, List.setIfInBounds_toArray, List.set_cons_zero, List.set_cons_succ]
      simp only [List.cons_append, List.nil_append, List.append_nil, List.filterMap_cons, List.filterMap_nil, List.getElem?_toArray, List.getElem?_cons_zero, List.getElem?_cons_succ]
      go_wp2_with fail
      first
        | refine ⟨rfl, _, .string t, rfl, Or.inl ⟨by rfl, fun U hU => by have c9 := (HKX.out.below hU HKX.out.lt).cell 1; go_simp⟩, partsI_force ?_⟩
        | refine ⟨rfl, .string t, Or.inl ⟨by rfl, fun U hU => by have c9 := (HKX.out.below hU HKX.out.lt).cell 1; go_simp⟩, partsI_force ?_⟩
      simp only [Act.put, List.setIfInBounds_toArray, List.set_cons_zero, List.set_cons_succ]
      simp only [List.cons_append, List.nil_append, List.append_nil, List.filterMap_cons, List.filterMap_nil, List.getElem?_toArray, List.getElem?_cons_zero, List.getElem?_cons_succ]
      go_wp2_with fail
      refine (HM2.out _).mono ?_
      rintro e U3 ⟨rfl, hU⟩
      replace hS := hS.trans (hU.mono hS.size)
      clear hU
      go_wp2_with fail
      refine ⟨rfl, hS, partsI_force ?_⟩
      simp only [List.cons_append, List.nil_append, List.append_nil, List.filterMap_cons, List.filterMap_nil, List.getElem?_toArray, List.getElem?_cons_zero, List.getElem?_cons_succ]
      go_wp2_with fail
      refine (HSM.out _).mono ?_
      rintro e U4 ⟨rfl, hU⟩
      replace hS := hS.trans (hU.mono hS.size)
      clear hU
      go_wp2_with fail
      refine ⟨rfl, hS, partsI_force ?_⟩
      simp only [List.cons_append, List.nil_append, List.append_nil, List.filterMap_cons, List.filterMap_nil, List.getElem?_toArray, List.getElem?_cons_zero, List.getElem?_cons_succ]
      go_wp2_with fail
      refine ⟨rfl, hS, partsI_last ?_⟩
      simp only [List.cons_append, List.nil_append, List.append_nil, List.filterMap_cons, List.filterMap_nil, List.getElem?_toArray, List.getElem?_cons_zero, List.getElem?_cons_succ]
      go_wp2_with fail
      refine ⟨rfl, ?_⟩
      go_wp2_with fail
      go_ret
      exact ⟨by first | rfl | simp, HBW.out.trans (hS.mono HBW.out.size)⟩
    · clear HM
      have hu0 : (undef = Value.bool false) = False := by simp [undef]
      have hu1 : (undef = Value.bool true) = False := by simp [undef]
      refine wp_region_partsS (fun U => Below W.heap.size W U) [([0], 1, false), ([2, 3], 4, false), ([], 5, false), ([], 6, false), ([7, 8], 9, true), ([], 10, true), ([], 12, true), ([], 13, true), ([], 14, true), ([], 15, true), ([], 11, false), ([], 16, false), ([], 17, false)] [18, 19, 20] [] (by kernel_rfl) (by kernel_rfl) (Below.refl _ _).drew (partsI_force ?_)
      simp only [List.cons_append, List.nil_append, List.append_nil, List.filterMap_cons, List.filterMap_nil, List.getElem?_toArray, List.getElem?_cons_zero, List.getElem?_cons_succ]
      have hS : Below W.heap.size W W.drew := (Below.refl _ _).drew
      go_wp2_with fail
      refine (HC.out _).mono ?_
      rintro e U1 ⟨rfl, hU⟩
      replace hS := hS.trans (hU.mono hS.size)
      clear hU
      go_wp2_with fail
      refine ⟨rfl, hS, partsI_force ?_⟩
      simp only [List.cons_append, List.nil_append, List.append_nil, List.filterMap_cons, List.filterMap_nil, List.getElem?_toArray, List.getElem?_cons_zero, List.getElem?_cons_succ]
      go_wp2_with fail
      refine ⟨rfl, hS, partsI_force ?_⟩
      simp only [List.cons_append, List.nil_append, List.append_nil, List.filterMap_cons, List.filterMap_nil, List.getElem?_toArray, List.getElem?_cons_zero, List.getElem?_cons_succ]
      go_wp2_with fail
      refine ⟨rfl, hS, partsI_force ?_⟩
      simp only [List.cons_append, List.nil_append, List.append_nil, List.filterMap_cons, List.filterMap_nil, List.getElem?_toArray, List.getElem?_cons_zero, List.getElem?_cons_succ]
      go_wp2_with fail
      refine ⟨rfl, hS, partsI_yield ?_⟩
      simp only [List.cons_append, List.nil_append, List.append_nil, List.filterMap_cons, List.filterMap_nil, List.getElem?_toArray, List.getElem?_cons_zero, List.getElem?_cons_succ]
      go_wp2_with fail
      first
        | refine ⟨rfl, _, undef, rfl, Or.inr ⟨by rfl, rfl⟩, partsI_yield ?_⟩
        | refine ⟨rfl, undef, Or.inr ⟨by rfl, rfl⟩, partsI_yield ?_⟩
      simp only [Act.put, List.setIfInBounds_toArray, List.set_cons_zero, List.set_cons_succ]
      simp only [List.cons_append, List.nil_append, List.append_nil, List.filterMap_cons, List.filterMap_nil, List.getElem?_toArray, List.getElem?_cons_zero, List.getElem?_cons_succ]
      go_wp2_with fail
      first
        | refine ⟨rfl, _, undef, rfl, Or.inr ⟨by rfl, rfl⟩, partsI_yield ?_⟩
        | refine ⟨rfl, undef, Or.inr ⟨by rfl, rfl⟩, partsI_yield ?_⟩
      simp only [Act.put, List.setIfInBounds_toArray, List.set_cons_zero, List.set_cons_succ]
      simp only [List.cons_append, List.nil_append, List.append_nil, List.filterMap_cons, List.filterMap_nil, List.getElem?_toArray, List.getElem?_cons_zero, List.getElem?_cons_succ]
      go_wp2_with fail
      first
        | refine ⟨rfl, _, undef, rfl, Or.inr ⟨by rfl, rfl⟩, partsI_yield ?_⟩
        | refine ⟨rfl, undef, Or.inr ⟨by rfl, rfl⟩, partsI_yield ?_⟩
      simp only [Act.put, List.setIfInBounds_toArray, List.set_cons_zero, List.set_cons_succ]
      simp only [List.cons_append, List.nil_append, List.append_nil, List.filterMap_cons, List.filterMap_nil, List.getElem?_toArray, List.getElem?_cons_zero, List.getElem?_cons_succ]
      go_wp2_with fail
      first
        | refine ⟨rfl, _, undef, rfl, Or.inr ⟨by rfl, rfl⟩, partsI_yield ?_⟩
        | refine ⟨rfl, undef, Or.inr ⟨by rfl, rfl⟩, partsI_yield ?_⟩
      simp only [Act.put, List.setIfInBounds_toArray, List.set_cons_zero, List.set_cons_succ]
      simp only [List.cons_append, List.nil_append, List.append_nil, List.filterMap_cons, List.filterMap_nil, List.getElem?_toArray, List.getElem?_cons_zero, List.getElem?_cons_succ]
      go_wp2_with fail
      first
        | refine ⟨rfl, _, undef, rfl, Or.inr ⟨by rfl, rfl⟩, partsI_yield ?_⟩
        | refine ⟨rfl, undef, Or.inr ⟨by rfl, rfl⟩, partsI_yield ?_⟩
      simp only [Act.put, List.setIfInBounds_toArray, List.set_cons_zero, List.set_cons_succ]
      simp only [List.cons_append, List.nil_append, List.append_nil, List.filterMap_cons, List.filterMap_nil, List.getElem?_toArray, List.getElem?_cons_zero, List.getElem?_cons_succ]
      go_wp2_with fail
      first
        | refine ⟨rfl, _, undef, rfl, Or.inr ⟨by rfl, rfl⟩, partsI_force ?_⟩
        | refine ⟨rfl, undef, Or.inr ⟨by rfl, rfl⟩, partsI_force ?_⟩
      simp only [Act.put, List.setIfInBounds_toArray, List.set_cons_zero, List.set_cons_succ]
      simp only [List.cons_append, List.nil_append, List.append_nil, List.filterMap_cons, List.filterMap_nil, List.getElem?_toArray, List.getElem?_cons_zero, List.getElem?_cons_succ]
      go_wp2_with fail
      refine ⟨rfl, hS, partsI_force ?_⟩
      simp only [List.cons_append, List.nil_append, List.append_nil, List.filterMap_cons, List.filterMap_nil, List.getElem?_toArray, List.getElem?_cons_zero, List.getElem?_cons_succ]
      go_wp2_with fail
      refine ⟨rfl, hS, partsI_force ?_⟩
      simp only [List.cons_append, List.nil_append, List.append_nil, List.filterMap_cons, List.filterMap_nil, List.getElem?_toArray, List.getElem?_cons_zero, List.getElem?_cons_succ]
      go_wp2_with fail
      refine ⟨rfl, hS, partsI_last ?_⟩
      simp only [List.cons_append, List.nil_append, List.append_nil, List.filterMap_cons, List.filterMap_nil, List.getElem?_toArray, List.getElem?_cons_zero, List.getElem?_cons_succ]
      go_wp2_with fail
      refine ⟨rfl, ?_⟩
      go_wp2_with fail
      go_ret
      exact ⟨by first | rfl | simp, HBW.out.trans (hS.mono HBW.out.size)⟩
  · go_wp2_with fail
    refine (H7.out _).mono ?_
    rintro e w9 ⟨b3, c3, rfl, ho, hb⟩
    have hba : Below w9.heap.size w9 (w9.alloc (.cells #[.slice b3 k c3, .bool dk] 30)) := (Below.refl _ w9).alloc (Nat.le_refl _) _
    have hbb := hb.alloc hb.size (.cells #[.slice b3 k c3, .bool dk] 30)
    obtain ⟨k0, B0, kp0, np0, kq0, nq0⟩ := HI.out
    have k1 := k0.below hbb k0.lt
    have B1 := B0.trans (hbb.mono B0.size)
    have kp := kp0.below hbb kp0.lt
    have np := np0.below hbb
    have kq := kq0.below hbb kq0.lt
    have nq := nq0.below hbb
    have kk := Blk.new w9 30 #[.slice b3 k c3, .bool dk]
    have nk := (own_isN ho).below hba
    clear c0 c1 HI k0 B0 kp0 np0 kq0 nq0 ho hb hba hbb
    have p0 := kp.cell 0
    have p1 := kp.cell 1
    have q0 := kk.cell 0
    have q1 := kk.cell 1
    have HW1 : Hid (Calls Tryd.prog 10 #[.agg #[.slice a N.length c, .bool d], .agg #[.slice b3 k c3, .bool dk]] (w9.alloc (.cells #[.slice b3 k c3, .bool dk] 30)) fun e w' => e = .returned (.bool true) ∧ Below (w9.alloc (.cells #[.slice b3 k c3, .bool dk] 30)).heap.size (w9.alloc (.cells #[.slice b3 k c3, .bool dk] 30)) w') := HW.out _ _ _ _ _ _ _ np nk
    have HI : Hid (_ ∧ _ ∧ _ ∧ _ ∧ _ ∧ _) := ⟨k1, B1, kq, nq, kk, nk⟩
    clear k1 B1 kp np kq nq kk nk
    go_wp2_with fail
    generalize w9.alloc (.cells #[.slice b3 k c3, .bool dk] 30) = w10 at *
    generalize w9.heap.size = gk at *
    refine HW1.out.mono ?_
    rintro e w11 ⟨rfl, hb⟩
    obtain ⟨k0, B0, kq0, nq0, kk0, nk0⟩ := HI.out
    have k1 := k0.below hb k0.lt
    have B1 := B0.trans (hb.mono B0.size)
    have kq := kq0.below hb kq0.lt
    have kk := kk0.below hb kk0.lt
    clear p0 p1 q0 q1 HI HW1
    have p0 := kq.cell 0
    have p1 := kq.cell 1
    have q0 := kk.cell 0
    have q1 := kk.cell 1
    have HW1 : Hid (Calls Tryd.prog 10 #[.agg #[.slice b M.length c2, .bool d2], .agg #[.slice b3 k c3, .bool dk]] w11 fun e w' => e = .returned (.bool true) ∧ Below w11.heap.size w11 w') := HW2.out _ _ _ _ _ _ _ (nq0.below hb) (nk0.below hb)
    have HI : Hid (_ ∧ _) := ⟨k1, B1⟩
    clear k0 B0 kq0 nq0 kk0 nk0 k1 B1 kq kk hb
    go_wp2_with fail
    refine HW1.out.mono ?_
    rintro e w12 ⟨rfl, hb⟩
    obtain ⟨k0, B0⟩ := HI.out
    have k1 := k0.below hb k0.lt
    have B1 := B0.trans (hb.mono B0.size)
    clear p0 p1 q0 q1 HI HW1
    have c0 := k1.cell 0
    have HI : Hid (_ ∧ _) := ⟨k1, B1⟩
    clear k0 B0 k1 B1 hb
    go_wp2_with fail
    refine (H9.out _).mono ?_
    rintro e W ⟨rfl, hb⟩
    obtain ⟨k0, B0⟩ := HI.out
    have HKX : Hid (Blk W w.heap.size 23 #[.string s, .string t]) := k0.below hb k0.lt
    have HBW : Hid (Below w.heap.size w W) := B0.trans (hb.mono B0.size)
    clear c0 HI k0 B0 hb
    go_wp2_with fail
    cases hb
    · obtain ⟨hm1, hm2⟩ := HM.out rfl
      have HM1 : Hid (∀ w : World, _) := hm1
      have HM2 : Hid (∀ w : World, _) := hm2
      clear hm1 hm2 HM
      refine wp_region_partsS (fun U => Below W.heap.size W U) [([0], 1, false), ([2, 3], 4, false), ([], 5, false), ([], 6, false), ([7, 8], 9, true), ([], 10, true), ([], 12, true), ([], 13, true), ([], 14, true), ([], 15, true), ([], 11, false), ([], 16, false), ([], 17, false)] [18, 19, 20] [] (by kernel_rfl) (by kernel_rfl) (Below.refl _ _).drew (partsI_force ?_)
      simp only [List.cons_append, List.nil_append, List.append_nil, List.filterMap_cons, List.filterMap_nil, List.getElem?_toArray, List.getElem?_cons_zero, List.getElem?_cons_succ]
      have hS : Below W.heap.size W W.drew := (Below.refl _ _).drew
      go_wp2_with fail
      refine (HC.out _).mono ?_
      rintro e U1 ⟨rfl, hU⟩
      replace hS := hS.trans (hU.mono hS.size)
      clear hU
      go_wp2_with fail
      refine ⟨rfl, hS, partsI_force ?_⟩
      simp only [List.cons_append, List.nil_append, List.append_nil, List.filterMap_cons, List.filterMap_nil, List.getElem?_toArray, List.getElem?_cons_zero, List.getElem?_cons_succ]
      go_wp2_with fail
      refine ⟨rfl, hS, partsI_force ?_⟩
      simp only [List.cons_append, List.nil_append, List.append_nil, List.filterMap_cons, List.filterMap_nil, List.getElem?_toArray, List.getElem?_cons_zero, List.getElem?_cons_succ]
      have d0 := (HKX.out.below hS HKX.out.lt).cell 0
      go_wp2_with fail
      clear d0
      refine ⟨rfl, hS, partsI_force ?_⟩
      simp only [List.cons_append, List.nil_append, List.append_nil, List.filterMap_cons, List.filterMap_nil, List.getElem?_toArray, List.getElem?_cons_zero, List.getElem?_cons_succ]
      go_wp2_with fail
      refine (HM1.out _).mono ?_
      rintro e U2 ⟨rfl, hU⟩
      replace hS := hS.trans (hU.mono hS.size)
      clear hU
      go_wp2_with fail
      refine ⟨rfl, hS, partsI_yield ?_⟩
      simp only [List.cons_append, List.nil_append, List.append_nil, List.filterMap_cons, List.filterMap_nil, List.getElem?_toArray, List.getElem?_cons_zero, List.getElem?_cons_succ]
      go_wp2_with fail
      first
        | refine ⟨rfl, _, .pointer (some ⟨w.heap.size, 1, none⟩), rfl, Or.inl ⟨by rfl, fun U hU => by go_simp⟩, partsI_yield ?_⟩
        | refine ⟨rfl, .pointer (some ⟨w.heap.size, 1, none⟩), Or.inl ⟨by rfl, fun U hU => by go_simp⟩, partsI_yield ?_⟩
      simp only [Act.put, List.setIfInBounds_toArray, List.set_cons_zero, List.set_cons_succ]
      simp only [List.cons_append, List.nil_append, List.append_nil, List.filterMap_cons, List.filterMap_nil, List.getElem?_toArray, List.getElem?_cons_zero, List.getElem?_cons_succ]
      go_wp2_with fail
      first
        | refine ⟨rfl, _, .string t, rfl, Or.inl ⟨by rfl, fun U hU => by have c9 := (HKX.out.below hU HKX.out.lt).cell 1; go_simp⟩, partsI_yield ?_⟩
        | refine ⟨rfl, .string t, Or.inl ⟨by rfl, fun U hU => by have c9 := (HKX.out.below hU HKX.out.lt).cell 1; go_simp⟩, partsI_yield ?_⟩
      simp only [Act.put, List.setIfInBounds_toArray, List.set_cons_zero, List.set_cons_succ]
      simp only [List.cons_append, List.nil_append, List.append_nil, List.filterMap_cons, List.filterMap_nil, List.getElem?_toArray, List.getElem?_cons_zero, List.getElem?_cons_succ]
      go_wp2_with fail
      first
        | refine ⟨rfl, _, .pointer (some ⟨w.heap.size, 0, none⟩), rfl, Or.inl ⟨by rfl, fun U hU => by go_simp⟩, partsI_yield ?_⟩
        | refine ⟨rfl, .pointer (some ⟨w.heap.size, 0, none⟩), Or.inl ⟨by rfl, fun U hU => by go_simp⟩, partsI_yield ?_⟩
      simp only [Act.put, List.setIfInBounds_toArray, List.set_cons_zero, List.set_cons_succ]
      simp only [List.cons_append, List.nil_append, List.append_nil, List.filterMap_cons, List.filterMap_nil, List.getElem?_toArray, List.getElem?_cons_zero, List.getElem?_cons_succ]
      go_wp2_with fail
      first
        | refine ⟨rfl, _, .string s, rfl, Or.inl ⟨by rfl, fun U hU => by have c9 := (HKX.out.below hU HKX.out.lt).cell 0; go_simp⟩, partsI_yield ?_⟩
        | refine ⟨rfl, .string s, Or.inl ⟨by rfl, fun U hU => by have c9 := (HKX.out.below hU HKX.out.lt).cell 0; go_simp⟩, partsI_yield ?_⟩
      simp only [Act.put, List.setIfInBounds_toArray, List.set_cons_zero, List.set_cons_succ]
      simp only [List.cons_append, List.nil_append, List.append_nil, List.filterMap_cons, List.filterMap_nil, List.getElem?_toArray, List.getElem?_cons_zero, List.getElem?_cons_succ]
      go_wp2_with fail
      first
        | refine ⟨rfl, _, .pointer (some ⟨w.heap.size, 1, none⟩), rfl, Or.inl ⟨by rfl, fun U hU => by go_simp⟩, partsI_yield ?_⟩
        | refine ⟨rfl, .pointer (some ⟨w.heap.size, 1, none⟩), Or.inl ⟨by rfl, fun U hU => by go_simp⟩, partsI_yield ?_⟩
      simp only [Act.put, List.setIfInBounds_toArray, List.set_cons_zero, List.set_cons_succ]
      simp only [List.cons_append, List.nil_append, List.append_nil, List.filterMap_cons, List.filterMap_nil, List.getElem?_toArray, List.getElem?_cons_zero, List.getElem?_cons_succ]
      go_wp2_with fail
      first
        | refine ⟨rfl, _, .string t, rfl, Or.inl ⟨by rfl, fun U hU => by have c9 := (HKX.out.below hU HKX.out.lt).cell 1; go_simp⟩, partsI_force ?_⟩
        | refine ⟨rfl, .string t, Or.inl ⟨by rfl, fun U hU => by have c9 := (HKX.out.below hU HKX.out.lt).cell 1; go_simp⟩, partsI_force ?_⟩
      simp only [Act.put, List.setIfInBounds_toArray, List.set_cons_zero, List.set_cons_succ]
      simp only [List.cons_append, List.nil_append, List.append_nil, List.filterMap_cons, List.filterMap_nil, List.getElem?_toArray, List.getElem?_cons_zero, List.getElem?_cons_succ]
      go_wp2_with fail
      refine (HM2.out _).mono ?_
      rintro e U3 ⟨rfl, hU⟩
      replace hS := hS.trans (hU.mono hS.size)
      clear hU
      go_wp2_with fail
      refine ⟨rfl, hS, partsI_force ?_⟩
      simp only [List.cons_append, List.nil_append, List.append_nil, List.filterMap_cons, List.filterMap_nil, List.getElem?_toArray, List.getElem?_cons_zero, List.getElem?_cons_succ]
      go_wp2_with fail
      refine (HSM.out _).mono ?_
      rintro e U4 ⟨rfl, hU⟩
      replace hS := hS.trans (hU.mono hS.size)
      clear hU
      go_wp2_with fail
      refine ⟨rfl, hS, partsI_force ?_⟩
      simp only [List.cons_append, List.nil_append, List.append_nil, List.filterMap_cons, List.filterMap_nil, List.getElem?_toArray, List.getElem?_cons_zero, List.getElem?_cons_succ]
      go_wp2_with fail
      refine ⟨rfl, hS, partsI_last ?_⟩
      simp only [List.cons_append, List.nil_append, List.append_nil, List.filterMap_cons, List.filterMap_nil, List.getElem?_toArray, List.getElem?_cons_zero, List.getElem?_cons_succ]
      go_wp2_with fail
      refine ⟨rfl, ?_⟩
      go_wp2_with fail
      go_ret
      exact ⟨by first | rfl | simp, HBW.out.trans (hS.mono HBW.out.size)⟩
    · clear HM
      have hu0 : (undef = Value.bool false) = False := by simp [undef]
      have hu1 : (undef = Value.bool true) = False := by simp [undef]
      refine wp_region_partsS (fun U => Below W.heap.size W U) [([0], 1, false), ([2, 3], 4, false), ([], 5, false), ([], 6, false), ([7, 8], 9, true), ([], 10, true), ([], 12, true), ([], 13, true), ([], 14, true), ([], 15, true), ([], 11, false), ([], 16, false), ([], 17, false)] [18, 19, 20] [] (by kernel_rfl) (by kernel_rfl) (Below.refl _ _).drew (partsI_force ?_)
      simp only [List.cons_append, List.nil_append, List.append_nil, List.filterMap_cons, List.filterMap_nil, List.getElem?_toArray, List.getElem?_cons_zero, List.getElem?_cons_succ]
      have hS : Below W.heap.size W W.drew := (Below.refl _ _).drew
      go_wp2_with fail
      refine (HC.out _).mono ?_
      rintro e U1 ⟨rfl, hU⟩
      replace hS := hS.trans (hU.mono hS.size)
      clear hU
      go_wp2_with fail
      refine ⟨rfl, hS, partsI_force ?_⟩
      simp only [List.cons_append, List.nil_append, List.append_nil, List.filterMap_cons, List.filterMap_nil, List.getElem?_toArray, List.getElem?_cons_zero, List.getElem?_cons_succ]
      go_wp2_with fail
      refine ⟨rfl, hS, partsI_force ?_⟩
      simp only [List.cons_append, List.nil_append, List.append_nil, List.filterMap_cons, List.filterMap_nil, List.getElem?_toArray, List.getElem?_cons_zero, List.getElem?_cons_succ]
      go_wp2_with fail
      refine ⟨rfl, hS, partsI_force ?_⟩
      simp only [List.cons_append, List.nil_append, List.append_nil, List.filterMap_cons, List.filterMap_nil, List.getElem?_toArray, List.getElem?_cons_zero, List.getElem?_cons_succ]
      go_wp2_with fail
      refine ⟨rfl, hS, partsI_yield ?_⟩
      simp only [List.cons_append, List.nil_append, List.append_nil, List.filterMap_cons, List.filterMap_nil, List.getElem?_toArray, List.getElem?_cons_zero, List.getElem?_cons_succ]
      go_wp2_with fail
      first
        | refine ⟨rfl, _, undef, rfl, Or.inr ⟨by rfl, rfl⟩, partsI_yield ?_⟩
        | refine ⟨rfl, undef, Or.inr ⟨by rfl, rfl⟩, partsI_yield ?_⟩
      simp only [Act.put, List.setIfInBounds_toArray, List.set_cons_zero, List.set_cons_succ]
      simp only [List.cons_append, List.nil_append, List.append_nil, List.filterMap_cons, List.filterMap_nil, List.getElem?_toArray, List.getElem?_cons_zero, List.getElem?_cons_succ]
      go_wp2_with fail
      first
        | refine ⟨rfl, _, undef, rfl, Or.inr ⟨by rfl, rfl⟩, partsI_yield ?_⟩
        | refine ⟨rfl, undef, Or.inr ⟨by rfl, rfl⟩, partsI_yield ?_⟩
      simp only [Act.put, List.setIfInBounds_toArray, List.set_cons_zero, List.set_cons_succ]
      simp only [List.cons_append, List.nil_append, List.append_nil, List.filterMap_cons, List.filterMap_nil, List.getElem?_toArray, List.getElem?_cons_zero, List.getElem?_cons_succ]
      go_wp2_with fail
      first
        | refine ⟨rfl, _, undef, rfl, Or.inr ⟨by rfl, rfl⟩, partsI_yield ?_⟩
        | refine ⟨rfl, undef, Or.inr ⟨by rfl, rfl⟩, partsI_yield ?_⟩
      simp only [Act.put, List.setIfInBounds_toArray, List.set_cons_zero, List.set_cons_succ]
      simp only [List.cons_append, List.nil_append, List.append_nil, List.filterMap_cons, List.filterMap_nil, List.getElem?_toArray, List.getElem?_cons_zero, List.getElem?_cons_succ]
      go_wp2_with fail
      first
        | refine ⟨rfl, _, undef, rfl, Or.inr ⟨by rfl, rfl⟩, partsI_yield ?_⟩
        | refine ⟨rfl, undef, Or.inr ⟨by rfl, rfl⟩, partsI_yield ?_⟩
      simp only [Act.put, List.setIfInBounds_toArray, List.set_cons_zero, List.set_cons_succ]
      simp only [List.cons_append, List.nil_append, List.append_nil, List.filterMap_cons, List.filterMap_nil, List.getElem?_toArray, List.getElem?_cons_zero, List.getElem?_cons_succ]
      go_wp2_with fail
      first
        | refine ⟨rfl, _, undef, rfl, Or.inr ⟨by rfl, rfl⟩, partsI_yield ?_⟩
        | refine ⟨rfl, undef, Or.inr ⟨by rfl, rfl⟩, partsI_yield ?_⟩
      simp only [Act.put, List.setIfInBounds_toArray, List.set_cons_zero, List.set_cons_succ]
      simp only [List.cons_append, List.nil_append, List.append_nil, List.filterMap_cons, List.filterMap_nil, List.getElem?_toArray, List.getElem?_cons_zero, List.getElem?_cons_succ]
      go_wp2_with fail
      first
        | refine ⟨rfl, _, undef, rfl, Or.inr ⟨by rfl, rfl⟩, partsI_force ?_⟩
        | refine ⟨rfl, undef, Or.inr ⟨by rfl, rfl⟩, partsI_force ?_⟩
      simp only [Act.put, List.setIfInBounds_toArray, List.set_cons_zero, List.set_cons_succ]
      simp only [List.cons_append, List.nil_append, List.append_nil, List.filterMap_cons, List.filterMap_nil, List.getElem?_toArray, List.getElem?_cons_zero, List.getElem?_cons_succ]
      go_wp2_with fail
      refine ⟨rfl, hS, partsI_force ?_⟩
      simp only [List.cons_append, List.nil_append, List.append_nil, List.filterMap_cons, List.filterMap_nil, List.getElem?_toArray, List.getElem?_cons_zero, List.getElem?_cons_succ]
      go_wp2_with fail
      refine ⟨rfl, hS, partsI_force ?_⟩
      simp only [List.cons_append, List.nil_append, List.append_nil, List.filterMap_cons, List.filterMap_nil, List.getElem?_toArray, List.getElem?_cons_zero, List.getElem?_cons_succ]
      go_wp2_with fail
      refine ⟨rfl, hS, partsI_last ?_⟩
      simp only [List.cons_append, List.nil_append, List.append_nil, List.filterMap_cons, List.filterMap_nil, List.getElem?_toArray, List.getElem?_cons_zero, List.getElem?_cons_succ]
      go_wp2_with fail
      refine ⟨rfl, ?_⟩
      go_wp2_with fail
      go_ret
      exact ⟨by first | rfl | simp, HBW.out.trans (hS.mono HBW.out.size)⟩
set_option maxRecDepth 100000 in
theorem pathWaysLaw (s t : ByteArray) (hs : s.size ≤ 140737488355327) (w : World) :
    Calls Tryd.prog 3 #[.agg #[.string s, .string t]] w fun e w' => e = .returned (.bool true) ∧ Below w.heap.size w w' := by
  obtain ⟨N, d, i, z, hp⟩ : ∃ N d i z, prs s.data.toList = (N, d, i, z) := ⟨_, _, _, _, rfl⟩
  obtain ⟨M, d2, i2, z2, hp2⟩ : ∃ M d2 i2 z2, prs t.data.toList = (M, d2, i2, z2) := ⟨_, _, _, _, rfl⟩
  by_cases hz : z = 0
  · by_cases hz2 : z2 = 0
    · subst hz hz2
      exact pathWays_ok s t hs hp hp2 w
    · exact pathWays_no s t hp hp2 (.inr hz2) w
  · exact pathWays_no s t hp hp2 (.inl hz) w
end Go.Proofs.YtggacdlnpakehaaDoor

namespace Go.Proofs.YtggacdlnpakehaaDoor
open Go.ChangeShapes Go.WideShapes Go.ChangeAt Go.RowKit Go.Joins
set_option linter.unusedVariables false
set_option linter.unusedSimpArgs false
set_option maxRecDepth 100000 in
theorem open_two {H : Type} {enc : TypeId × Value → H} {W : World} {r : Reach} {b0 : Nat} {v : Value} {d : DataW H} {p : List MemPlace}
    (hv : Value.okWide Tryd.prog W r b0 23 v) (h : DataW.Trod enc Tryd.prog W 0 (fun _ => true) true 23 v d p) (hsz : ∀ n ∈ d.weights Tryd.prog 23, n ≤ reachBytes) :
    ∃ (s t : ByteArray), v = .agg #[.string s, .string t] ∧ s.size ≤ 140737488351232 ∧ t.size ≤ 140737488351232 := by
  obtain ⟨cs, rfl, hcs⟩ := okWide_struct Tryd.underlying23 hv
  obtain ⟨fuel, hf⟩ := h
  have hc : Tryd.prog.cellsOf 23 = 2 := by kernel_rfl
  rw [hc] at hcs
  have hct : Tryd.prog.cellsOf 9 = 1 := by kernel_rfl
  obtain ⟨xs, k, hk, hxy, _, hxl, hfs⟩ := DataW.trod_struct Tryd.underlying23 hf
  obtain ⟨l, rfl⟩ : ∃ l : List Value, cs = l.toArray := ⟨cs.toList, by simp⟩
  have hl : l.length = 2 := by simpa using hcs
  match xs, hxl, l, hl with
  | [y0, y1], _, [v0, v1], _ =>
    have g0 := hfs 0 _ rfl
    have g1 := hfs 1 _ rfl
    simp [hct, Value.cells] at g0 g1
    obtain ⟨s, e0, e0', _⟩ := DataW.trod_string Tryd.underlying9 g0
    obtain ⟨t, e1, e1', _⟩ := DataW.trod_string Tryd.underlying9 g1
    simp at e0 e1
    subst e0 e1
    have hD : d = .agg [y0.1, y1.1] := by
      have := congrArg Prod.fst hxy
      simpa using this
    have m0 : s.data.toList.length ∈ d.weights Tryd.prog 23 := by
      rw [hD]
      simp only [DataW.weights, Tryd.underlying23]
      refine DataW.weights_mem_each (j := 0) (t := 9) (d := y0.1) rfl rfl _ ?_
      rw [e0']
      simp [DataW.weights]
    have m1 : t.data.toList.length ∈ d.weights Tryd.prog 23 := by
      rw [hD]
      simp only [DataW.weights, Tryd.underlying23]
      refine DataW.weights_mem_each (j := 1) (t := 9) (d := y1.1) rfl rfl _ ?_
      rw [e1']
      simp [DataW.weights]
    refine ⟨s, t, rfl, ?_, ?_⟩
    · have e : s.size = s.data.toList.length := (Array.length_toList).symm
      rw [e]
      exact hsz _ m0
    · have e : t.size = t.data.toList.length := (Array.length_toList).symm
      rw [e]
      exact hsz _ m1
end Go.Proofs.YtggacdlnpakehaaDoor
