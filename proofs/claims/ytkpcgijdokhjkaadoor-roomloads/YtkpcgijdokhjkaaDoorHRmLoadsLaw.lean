/- The walk of the statement on rooms that are loaded. -/
import Derived.Test.YtkpcgijdokhjkaaDoorHRmNil
import Derived.Handy
import Derived.Test.YtkpcgijdokhjkaaDoorHBiFrom

namespace Go.Proofs.YtkpcgijdokhjkaaDoor
open Go Go.RowKit Go.Shelf
set_option linter.unusedVariables false
set_option linter.unusedSimpArgs false
/-- whether a block has a state -/
def inF (F G : Nat → Bool) (n : Nat) (s : Int) (p : Nat) : Bool := decide (p < n) && decide ((stAt F G n p : Int) = s)
/-- what in answers -/
def InMap (w' : World) (B n : Nat) (I : Nat → Bool) (mv : Value) : Prop := (mv = .pointer none ∧ ∀ p, I p = false) ∨ ∃ (g b c : Nat) (V : Nat → Nat), mv = .pointer (some ⟨g, 0, none⟩) ∧ BM w' B g n b c V ∧ ∀ p, bitF V p = I p
section
variable {w w' : World} {P : Nat → Prop} {r n gu bu cu gn bn cn : Nat} {U X : Nat → Nat} {F G : Nat → Bool}
theorem inF_zero (hn : 1 ≤ n) (p : Nat) : inF F G n 0 p = decide (p = 0) := by
  unfold inF stAt stN
  by_cases h : p = 0
  · subst h
    rw [if_pos (.inl rfl)]
    simp
    omega
  · by_cases h2 : n ≤ p
    · simp [h]
      omega
    · rw [if_neg (by omega)]
      cases F p <;> cases G p <;> simp [h]
theorem inF_pos (s : Int) (hs : 1 ≤ s) (hF0 : ∀ p, n ≤ p → F p = false) (hG0 : ∀ p, n ≤ p → G p = false) (p : Nat) : inF F G n s p = (decide (1 ≤ p) && decide (p < n) && decide ((stN F G p : Int) = s)) := by
  unfold inF stAt
  by_cases h : p = 0
  · subst h
    rw [if_pos (.inl rfl)]
    simp
    omega
  · by_cases h2 : n ≤ p
    · rw [if_pos (.inr h2)]
      have : ¬ p < n := by omega
      simp [this]
    · rw [if_neg (by omega)]
      have : 1 ≤ p := by omega
      simp [this]
theorem inF_not (s : Int) (hs : s < 0 ∨ 4 < s) (p : Nat) : inF F G n s p = false := by
  unfold inF stAt stN
  split
  · simp
    omega
  · cases F p <;> cases G p <;> simp <;> omega
set_option maxHeartbeats 4000000 in
theorem rnumbers_any (h : RM w P r n gu bu cu gn bn cn U X) : Calls Tryd.prog 67 #[.pointer (some ⟨r, 0, none⟩)] w fun e w' => ∃ g b c V, e = .returned (.pointer (some ⟨g, 0, none⟩)) ∧ BM w' w.heap.size g n b c V ∧ (∀ p, bitF V p = (decide (1 ≤ p) && decide (p < n))) ∧ Below w.heap.size w w' := by
  have HB := rblocks_any h
  have hn := h.n16
  have hn2 := h.x.n2
  have HN : Hid (∀ m, Calls Tryd.prog 53 #[.int .i64 (n : Int)] (w.drewN m) fun e w' => ∃ g b c, e = .returned (.tuple #[.pointer (some ⟨g, 0, none⟩), .int .i64 0]) ∧ BM w' w.heap.size g n b c (fun _ => 0) ∧ Below w.heap.size w w') := fun m => by
    refine (newM_ok n (by omega) hn2 (w.drewN m)).mono ?_
    rintro e w' ⟨g, b, c, rfl, hM, hb⟩
    exact ⟨g, b, c, rfl, hM, ⟨hb.os, hb.tape, hb.output, hb.size, hb.block⟩⟩
  have HB2 : Hid (∀ V, Below w.heap.size w V → Calls Tryd.prog 18 #[.pointer (some ⟨r, 0, none⟩)] V fun e w' => e = .returned (.int .i64 (n : Int)) ∧ ∃ m, w' = V.drewN m) := fun V hV => rblocks_any (h.below hV)
  clear h
  go_enter Tryd.func67, Tryd.ntmps67
  go_wp2_with fail
  refine HB.mono ?_
  rintro e w1 ⟨rfl, m1, rfl⟩
  go_wp2_with fail
  refine (HN.out m1).mono ?_
  rintro e w2 ⟨g, b, c, rfl, hM2, hb2⟩
  have HB3 := HB2.out w2 hb2
  have HM2 : Hid (BM w2 w.heap.size g n b c (fun _ => 0)) := hM2
  clear hM2 HB HN HB2
  go_wp2_with fail
  refine HB3.mono ?_
  rintro e w3 ⟨rfl, m3, rfl⟩
  have HFI := fill_ok _ (HM2.out.dN m3) 1 n (by omega) (Nat.le_refl _)
  have hb3 : Below w.heap.size w (w2.drewN m3) := below_dN hb2 m3
  have HFI2 : Hid (Calls Tryd.prog 76 #[.pointer (some ⟨g, 0, none⟩), .int .i64 1, .int .i64 (n : Int)] (w2.drewN m3) fun e w' => e = .returned (.int .i64 0) ∧ ∃ V, BM w' w.heap.size g n b c V ∧ (∀ p, bitF V p = (decide (1 ≤ p) && decide (p < n))) ∧ Below w.heap.size w w') := by
    refine HFI.mono ?_
    rintro e w' ⟨rfl, V, hM, hV, hO⟩
    refine ⟨rfl, V, hM, fun p => ?_, hb3.trans (hO.below hb3.size hM.blt.1)⟩
    rw [hV]
    unfold filF
    rw [bitF_zero, Bool.or_false]
  clear HB3 HM2 HFI hb2 hb3
  go_wp2_with fail
  refine HFI2.out.mono ?_
  rintro e w4 ⟨rfl, V, hM4, hV4, hb4⟩
  go_wp2_with fail
  go_ret
  exact ⟨g, b, c, V, rfl, hM4, hV4, hb4⟩
set_option maxHeartbeats 4000000 in
theorem rin_2 (h : RoomIs w P r n F G) : Calls Tryd.prog 45 #[.pointer (some ⟨r, 0, none⟩), .int .i64 2] w fun e w' => ∃ mv, e = .returned mv ∧ InMap w' w.heap.size n (inF F G n 2) mv ∧ Below w.heap.size w w' := by
  obtain ⟨gu, bu, cu, gn, bn, cn, U, X, hR, hF, hG⟩ := h
  have HM := rmaps_any hR
  have hF0 : ∀ p, n ≤ p → F p = false := fun p hp => by rw [← hF]; exact hR.u.tail p hp
  have hG0 : ∀ p, n ≤ p → G p = false := fun p hp => by rw [← hG]; exact hR.x.tail p hp
  have hz : F 0 = false ∧ G 0 = false := ⟨by rw [← hF]; exact hR.z.1, by rw [← hG]; exact hR.z.2⟩
  have HZ : Hid (F 0 = false ∧ G 0 = false) := hz
  have HF0 : Hid ((∀ p, n ≤ p → F p = false) ∧ (∀ p, n ≤ p → G p = false) ∧ (∀ p, bitF U p = F p) ∧ (∀ p, bitF X p = G p)) := ⟨hF0, hG0, hF, hG⟩
  have HW : Hid (∀ m, Calls Tryd.prog 69 #[.pointer (some ⟨gu, 0, none⟩), .pointer (some ⟨gn, 0, none⟩)] (w.drewN m) fun e w' => ∃ g2, e = .returned (.tuple #[.pointer (some ⟨g2, 0, none⟩), .int .i64 0]) ∧ Made (w.drewN m) w' g2 n fun p => bitF U p && bitF X p) := fun m => cross_like _ (hR.u.dN m) (hR.x.dN m)
  clear hR hF hG hF0 hG0 hz
  go_enter Tryd.func45, Tryd.ntmps45
  go_wp2_with fail
  refine HM.mono ?_
  rintro e w1 ⟨rfl, m1, rfl⟩
  go_wp2_with fail
  refine (HW.out m1).mono ?_
  rintro e w2 ⟨g2, rfl, ⟨b2, c2, V, hV, hVb⟩, hb2⟩
  have HH : Hid (_ ∧ _) := ⟨hV, hVb⟩
  clear hV hVb
  go_wp2_with fail
  go_ret
  obtain ⟨hV, hVb⟩ := HH.out
  refine ⟨_, rfl, .inr ⟨g2, b2, c2, V, rfl, hV, fun p => ?_⟩, ⟨hb2.os, hb2.tape, hb2.output, hb2.size, hb2.block⟩⟩
  obtain ⟨f0, g0, hF, hG⟩ := HF0.out
  rw [hVb, inF_pos 2 (by decide) f0 g0, hF, hG]
  unfold stN
  by_cases h1 : p = 0
  · subst h1
    rw [HZ.out.1, HZ.out.2]
    simp
  · have h1' : 1 ≤ p := by omega
    by_cases h2 : p < n
    · cases F p <;> cases G p <;> simp [h1', h2]
    · rw [f0 p (by omega), g0 p (by omega)]
      simp
set_option maxHeartbeats 4000000 in
theorem rin_3 (h : RoomIs w P r n F G) : Calls Tryd.prog 45 #[.pointer (some ⟨r, 0, none⟩), .int .i64 3] w fun e w' => ∃ mv, e = .returned mv ∧ InMap w' w.heap.size n (inF F G n 3) mv ∧ Below w.heap.size w w' := by
  obtain ⟨gu, bu, cu, gn, bn, cn, U, X, hR, hF, hG⟩ := h
  have HM := rmaps_any hR
  have hF0 : ∀ p, n ≤ p → F p = false := fun p hp => by rw [← hF]; exact hR.u.tail p hp
  have hG0 : ∀ p, n ≤ p → G p = false := fun p hp => by rw [← hG]; exact hR.x.tail p hp
  have hz : F 0 = false ∧ G 0 = false := ⟨by rw [← hF]; exact hR.z.1, by rw [← hG]; exact hR.z.2⟩
  have HZ : Hid (F 0 = false ∧ G 0 = false) := hz
  have HF0 : Hid ((∀ p, n ≤ p → F p = false) ∧ (∀ p, n ≤ p → G p = false) ∧ (∀ p, bitF U p = F p) ∧ (∀ p, bitF X p = G p)) := ⟨hF0, hG0, hF, hG⟩
  have HW : Hid (∀ m, Calls Tryd.prog 68 #[.pointer (some ⟨gn, 0, none⟩), .pointer (some ⟨gu, 0, none⟩)] (w.drewN m) fun e w' => ∃ g2, e = .returned (.tuple #[.pointer (some ⟨g2, 0, none⟩), .int .i64 0]) ∧ Made (w.drewN m) w' g2 n fun p => bitF X p && !bitF U p) := fun m => less_like _ (hR.x.dN m) (hR.u.dN m)
  clear hR hF hG hF0 hG0 hz
  go_enter Tryd.func45, Tryd.ntmps45
  go_wp2_with fail
  refine HM.mono ?_
  rintro e w1 ⟨rfl, m1, rfl⟩
  go_wp2_with fail
  refine (HW.out m1).mono ?_
  rintro e w2 ⟨g2, rfl, ⟨b2, c2, V, hV, hVb⟩, hb2⟩
  have HH : Hid (_ ∧ _) := ⟨hV, hVb⟩
  clear hV hVb
  go_wp2_with fail
  go_ret
  obtain ⟨hV, hVb⟩ := HH.out
  refine ⟨_, rfl, .inr ⟨g2, b2, c2, V, rfl, hV, fun p => ?_⟩, ⟨hb2.os, hb2.tape, hb2.output, hb2.size, hb2.block⟩⟩
  obtain ⟨f0, g0, hF, hG⟩ := HF0.out
  rw [hVb, inF_pos 3 (by decide) f0 g0, hF, hG]
  unfold stN
  by_cases h1 : p = 0
  · subst h1
    rw [HZ.out.1, HZ.out.2]
    simp
  · have h1' : 1 ≤ p := by omega
    by_cases h2 : p < n
    · cases F p <;> cases G p <;> simp [h1', h2]
    · rw [f0 p (by omega), g0 p (by omega)]
      simp
set_option maxHeartbeats 4000000 in
theorem rin_4 (h : RoomIs w P r n F G) : Calls Tryd.prog 45 #[.pointer (some ⟨r, 0, none⟩), .int .i64 4] w fun e w' => ∃ mv, e = .returned mv ∧ InMap w' w.heap.size n (inF F G n 4) mv ∧ Below w.heap.size w w' := by
  obtain ⟨gu, bu, cu, gn, bn, cn, U, X, hR, hF, hG⟩ := h
  have HM := rmaps_any hR
  have hF0 : ∀ p, n ≤ p → F p = false := fun p hp => by rw [← hF]; exact hR.u.tail p hp
  have hG0 : ∀ p, n ≤ p → G p = false := fun p hp => by rw [← hG]; exact hR.x.tail p hp
  have hz : F 0 = false ∧ G 0 = false := ⟨by rw [← hF]; exact hR.z.1, by rw [← hG]; exact hR.z.2⟩
  have HZ : Hid (F 0 = false ∧ G 0 = false) := hz
  have HF0 : Hid ((∀ p, n ≤ p → F p = false) ∧ (∀ p, n ≤ p → G p = false) ∧ (∀ p, bitF U p = F p) ∧ (∀ p, bitF X p = G p)) := ⟨hF0, hG0, hF, hG⟩
  have HW : Hid (∀ m, Calls Tryd.prog 68 #[.pointer (some ⟨gu, 0, none⟩), .pointer (some ⟨gn, 0, none⟩)] (w.drewN m) fun e w' => ∃ g2, e = .returned (.tuple #[.pointer (some ⟨g2, 0, none⟩), .int .i64 0]) ∧ Made (w.drewN m) w' g2 n fun p => bitF U p && !bitF X p) := fun m => less_like _ (hR.u.dN m) (hR.x.dN m)
  clear hR hF hG hF0 hG0 hz
  go_enter Tryd.func45, Tryd.ntmps45
  go_wp2_with fail
  refine HM.mono ?_
  rintro e w1 ⟨rfl, m1, rfl⟩
  go_wp2_with fail
  refine (HW.out m1).mono ?_
  rintro e w2 ⟨g2, rfl, ⟨b2, c2, V, hV, hVb⟩, hb2⟩
  have HH : Hid (_ ∧ _) := ⟨hV, hVb⟩
  clear hV hVb
  go_wp2_with fail
  go_ret
  obtain ⟨hV, hVb⟩ := HH.out
  refine ⟨_, rfl, .inr ⟨g2, b2, c2, V, rfl, hV, fun p => ?_⟩, ⟨hb2.os, hb2.tape, hb2.output, hb2.size, hb2.block⟩⟩
  obtain ⟨f0, g0, hF, hG⟩ := HF0.out
  rw [hVb, inF_pos 4 (by decide) f0 g0, hF, hG]
  unfold stN
  by_cases h1 : p = 0
  · subst h1
    rw [HZ.out.1, HZ.out.2]
    simp
  · have h1' : 1 ≤ p := by omega
    by_cases h2 : p < n
    · cases F p <;> cases G p <;> simp [h1', h2]
    · rw [f0 p (by omega), g0 p (by omega)]
      simp
set_option maxHeartbeats 4000000 in
theorem rin_1 (h : RoomIs w P r n F G) : Calls Tryd.prog 45 #[.pointer (some ⟨r, 0, none⟩), .int .i64 1] w fun e w' => ∃ mv, e = .returned mv ∧ InMap w' w.heap.size n (inF F G n 1) mv ∧ Below w.heap.size w w' := by
  obtain ⟨gu, bu, cu, gn, bn, cn, U, X, hR, hF, hG⟩ := h
  have HM := rmaps_any hR
  have hF0 : ∀ p, n ≤ p → F p = false := fun p hp => by rw [← hF]; exact hR.u.tail p hp
  have hG0 : ∀ p, n ≤ p → G p = false := fun p hp => by rw [← hG]; exact hR.x.tail p hp
  have hz : F 0 = false ∧ G 0 = false := ⟨by rw [← hF]; exact hR.z.1, by rw [← hG]; exact hR.z.2⟩
  have HZ : Hid (F 0 = false ∧ G 0 = false) := hz
  have HF0 : Hid ((∀ p, n ≤ p → F p = false) ∧ (∀ p, n ≤ p → G p = false) ∧ (∀ p, bitF U p = F p) ∧ (∀ p, bitF X p = G p)) := ⟨hF0, hG0, hF, hG⟩
  have HW : Hid (∀ m, Calls Tryd.prog 41 #[.pointer (some ⟨gu, 0, none⟩), .pointer (some ⟨gn, 0, none⟩)] (w.drewN m) fun e w' => ∃ g2, e = .returned (.tuple #[.pointer (some ⟨g2, 0, none⟩), .int .i64 0]) ∧ Made (w.drewN m) w' g2 n fun p => bitF U p || bitF X p) := fun m => either_like _ (hR.u.dN m) (hR.x.dN m)
  have HN : Hid (∀ V, Below w.heap.size w V → Calls Tryd.prog 67 #[.pointer (some ⟨r, 0, none⟩)] V fun e w' => ∃ g b c W, e = .returned (.pointer (some ⟨g, 0, none⟩)) ∧ BM w' V.heap.size g n b c W ∧ (∀ p, bitF W p = (decide (1 ≤ p) && decide (p < n))) ∧ Below V.heap.size V w') := fun V hV => rnumbers_any (hR.below hV)
  clear hR hF hG hF0 hG0 hz
  go_enter Tryd.func45, Tryd.ntmps45
  go_wp2_with fail
  refine HM.mono ?_
  rintro e w1 ⟨rfl, m1, rfl⟩
  go_wp2_with fail
  refine (HW.out m1).mono ?_
  rintro e w2 ⟨g2, rfl, ⟨b2, c2, V, hV, hVb⟩, hb2'⟩
  have hb2 : Below w.heap.size w w2 := ⟨hb2'.os, hb2'.tape, hb2'.output, hb2'.size, hb2'.block⟩
  have HV : Hid (_ ∧ _) := ⟨hV, hVb⟩
  have HN2 := HN.out w2 hb2
  clear hV hVb hb2' HW HM HN
  go_wp2_with fail
  refine HN2.mono ?_
  rintro e w3 ⟨g3, b3, c3, V3, rfl, hM3, hV3, hb3⟩
  have HL := less_like w3 hM3 (HV.out.1.below hb3)
  have HV3 : Hid (∀ p, bitF V3 p = (decide (1 ≤ p) && decide (p < n))) := hV3
  have hbw3 : Below w.heap.size w w3 := hb2.trans (hb3.mono hb2.size)
  clear hM3 hV3 HN2 hb2 hb3
  go_wp2_with fail
  refine HL.mono ?_
  rintro e w4 ⟨g4, rfl, ⟨b4, c4, V4, hM4, hV4⟩, hb4⟩
  have HH : Hid (_ ∧ _) := ⟨hM4, hV4⟩
  have hbw4 : Below w.heap.size w w4 := hbw3.trans (hb4.mono hbw3.size)
  have hs3 := hbw3.size
  clear hM4 hV4 HL hb4 hbw3
  go_wp2_with fail
  go_ret
  obtain ⟨hM4, hV4⟩ := HH.out
  refine ⟨_, rfl, .inr ⟨g4, b4, c4, V4, rfl, hM4.mono hs3, fun p => ?_⟩, hbw4⟩
  obtain ⟨f0, g0, hF, hG⟩ := HF0.out
  have hVb := HV.out.2 p
  rw [hV4, HV3.out, hVb, inF_pos 1 (by decide) f0 g0]
  show (_ && !(bitF U p || bitF X p)) = _
  rw [hF, hG]
  unfold stN
  cases F p <;> cases G p <;> simp
set_option maxHeartbeats 4000000 in
theorem rin_0 (h : RoomIs w P r n F G) : Calls Tryd.prog 45 #[.pointer (some ⟨r, 0, none⟩), .int .i64 0] w fun e w' => ∃ mv, e = .returned mv ∧ InMap w' w.heap.size n (inF F G n 0) mv ∧ Below w.heap.size w w' := by
  obtain ⟨gu, bu, cu, gn, bn, cn, U, X, hR, hF, hG⟩ := h
  have HM := rmaps_any hR
  have hF0 : ∀ p, n ≤ p → F p = false := fun p hp => by rw [← hF]; exact hR.u.tail p hp
  have hG0 : ∀ p, n ≤ p → G p = false := fun p hp => by rw [← hG]; exact hR.x.tail p hp
  have hz : F 0 = false ∧ G 0 = false := ⟨by rw [← hF]; exact hR.z.1, by rw [← hG]; exact hR.z.2⟩
  have HZ : Hid (F 0 = false ∧ G 0 = false) := hz
  have HF0 : Hid ((∀ p, n ≤ p → F p = false) ∧ (∀ p, n ≤ p → G p = false) ∧ (∀ p, bitF U p = F p) ∧ (∀ p, bitF X p = G p)) := ⟨hF0, hG0, hF, hG⟩
  have hn := hR.n16
  have hn2 := hR.x.n2
  have HB : Hid (∀ m, Calls Tryd.prog 18 #[.pointer (some ⟨r, 0, none⟩)] (w.drewN m) fun e w' => e = .returned (.int .i64 (n : Int)) ∧ ∃ m', w' = w.drewN m') := fun m => by
    refine (rblocks_any (hR.dN m)).mono ?_
    rintro e w' ⟨rfl, m', rfl⟩
    exact ⟨rfl, _, World.drewN_drewN ..⟩
  have HO : Hid (∀ m, Calls Tryd.prog 66 #[.int .i64 (n : Int), .slice (some ⟨w.heap.size, 0, none⟩) 1 1] ((w.drewN m).alloc (.cells #[.int .i64 0] 3)) fun e w' => ∃ g b c W, e = .returned (.tuple #[.pointer (some ⟨g, 0, none⟩), .int .i64 0]) ∧ BM w' w.heap.size g n b c W ∧ (∀ p, bitF W p = decide (p = 0)) ∧ Below w.heap.size w w') := fun m => by
    have hblk : Blk ((w.drewN m).alloc (.cells #[.int .i64 0] 3)) w.heap.size 3 #[.int .i64 0] := Blk.new _ _ _
    have hb1 : Below w.heap.size w ((w.drewN m).alloc (.cells #[.int .i64 0] 3)) := (below_dN (Below.refl _ _) m).alloc (Nat.le_refl _) _
    refine (of_ok (n := n) (by omega) hn2 (some ⟨w.heap.size, 0, none⟩) 1 1 (by decide) (fun _ => 0) (fun i hi => ⟨Int.le_refl 0, by show (0 : Int) < (n : Int); omega⟩) _ (fun i hi => ?_)).mono ?_
    · match i, hi with
      | 0, _ => exact ⟨w.heap.size, 0, rfl, hblk.lt, by rw [hblk.cell]; rfl⟩
    · rintro e w' ⟨g, rfl, ⟨b, c, W, hM, hW⟩, hb⟩
      refine ⟨g, b, c, W, rfl, hM.mono hb1.size, fun p => ?_, hb1.trans (hb.mono hb1.size)⟩
      rw [hW]
      show (if (p : Int) = 0 then true else false) = _
      by_cases h : p = 0
      · simp [h]
      · rw [if_neg (by omega)]
        simp [h]
  have HI : Hid (∀ p, inF F G n 0 p = decide (p = 0)) := fun p => inF_zero (by omega) p
  clear hR hF hG hF0 hG0 hz
  go_enter Tryd.func45, Tryd.ntmps45
  go_wp2_with fail
  refine HM.mono ?_
  rintro e w1 ⟨rfl, m1, rfl⟩
  go_wp2_with fail
  refine (HB.out m1).mono ?_
  rintro e w2 ⟨rfl, m2, rfl⟩
  have HO2 := HO.out m2
  clear HO HB HM
  go_wp2_with fail
  refine HO2.mono ?_
  rintro e w3 ⟨g, b, c, W, rfl, hM3, hW3, hb3⟩
  have HH : Hid (_ ∧ _) := ⟨hM3, hW3⟩
  clear hM3 hW3 HO2
  go_wp2_with fail
  go_ret
  exact ⟨_, rfl, .inr ⟨g, b, c, W, rfl, HH.out.1, fun p => by rw [HI.out]; exact HH.out.2 p⟩, hb3⟩
set_option maxHeartbeats 4000000 in
theorem rin_not (h : RoomIs w P r n F G) (s : Int) (hs : s < 0 ∨ 4 < s) : Calls Tryd.prog 45 #[.pointer (some ⟨r, 0, none⟩), .int .i64 s] w fun e w' => ∃ mv, e = .returned mv ∧ InMap w' w.heap.size n (inF F G n s) mv ∧ Below w.heap.size w w' := by
  obtain ⟨gu, bu, cu, gn, bn, cn, U, X, hR, hF, hG⟩ := h
  have HM := rmaps_any hR
  have n0 : ¬ s = 0 := by omega
  have n1 : ¬ s = 1 := by omega
  have n2 : ¬ s = 2 := by omega
  have n3 : ¬ s = 3 := by omega
  have n4 : ¬ s = 4 := by omega
  have HI : Hid (∀ p, inF F G n s p = false) := fun p => inF_not s hs p
  clear hR hF hG hs
  go_enter Tryd.func45, Tryd.ntmps45
  go_wp2_with fail
  refine HM.mono ?_
  rintro e w1 ⟨rfl, m1, rfl⟩
  go_wp2_with fail
  go_ret
  exact ⟨_, rfl, .inl ⟨rfl, HI.out⟩, below_dN (Below.refl _ _) m1⟩
theorem rin_any (h : RoomIs w P r n F G) (s : Int) : Calls Tryd.prog 45 #[.pointer (some ⟨r, 0, none⟩), .int .i64 s] w fun e w' => ∃ mv, e = .returned mv ∧ InMap w' w.heap.size n (inF F G n s) mv ∧ Below w.heap.size w w' := by
  by_cases hs : s < 0 ∨ 4 < s
  · exact rin_not h s hs
  · have : s = 0 ∨ s = 1 ∨ s = 2 ∨ s = 3 ∨ s = 4 := by omega
    rcases this with rfl | rfl | rfl | rfl | rfl
    · exact rin_0 h
    · exact rin_1 h
    · exact rin_2 h
    · exact rin_3 h
    · exact rin_4 h
theorem rcountR_any (h : RoomIs w P r n F G) (s : Int) : Calls Tryd.prog 15 #[.pointer (some ⟨r, 0, none⟩), .int .i64 s] w fun e w' => e = .returned (.int .i64 (cntF (inF F G n s) n : Int)) ∧ Below w.heap.size w w' := by
  have HI := rin_any h s
  clear h
  go_enter Tryd.func15, Tryd.ntmps15
  go_wp2_with fail
  refine HI.mono ?_
  rintro e w1 ⟨mv, rfl, hM, hb⟩
  rcases hM with ⟨rfl, h0⟩ | ⟨g, b, c, V, rfl, hM, hV⟩
  · have hc : cntF (inF F G n s) n = 0 := by
      exact cntF_none (inF F G n s) n fun p _ => h0 p
    go_wp2_with fail
    refine (ncount _).mono ?_
    rintro e w2 ⟨rfl, rfl⟩
    go_wp2_with fail
    go_ret
    exact ⟨by rw [hc]; rfl, hb⟩
  · have HC := count_any w1 hM
    rw [cntF_congr (G := inF F G n s) fun i _ => hV i] at HC
    clear hM hV
    go_wp2_with fail
    refine HC.mono ?_
    rintro e w2 ⟨rfl, rfl⟩
    go_wp2_with fail
    go_ret
    exact ⟨rfl, hb⟩
theorem rlist_any (hT : TabAt w) (h0 : 0 < w.heap.size) (h : RoomIs w P r n F G) (s : Int) : Calls Tryd.prog 16 #[.pointer (some ⟨r, 0, none⟩), .int .i64 s] w fun e w' => ∃ v, e = .returned v ∧ w'.ownsRow w.heap.size 22 1 v (onesL (inF F G n s) n).length (u32L (onesL (inF F G n s) n)) ∧ (v = .slice none 0 0 ↔ onesL (inF F G n s) n = []) ∧ Below w.heap.size w w' := by
  have hn2 : n ≤ 8192 := by
    obtain ⟨gu, bu, cu, gn, bn, cn, U, X, hR, hF, hG⟩ := h
    exact hR.x.n2
  refine rlist_gen _ s (onesL (inF F G n s) n) (by
    unfold onesL
    exact Nat.le_trans (List.length_filter_le _ _) (by rw [List.length_range]; exact hn2)) w h0 fun W hW hlt => ?_
  refine (rin_any (h.below hW) s).mono ?_
  rintro e w' ⟨mv, rfl, hM, hb⟩
  rcases hM with ⟨rfl, h00⟩ | ⟨g, b, c, V, rfl, hM, hV⟩
  · refine ⟨.pointer none, fun _ => -1, rfl, rfl, fun V Bq _ _ U _ p => nnext p U, ?_, hb⟩
    have : onesL (inF F G n s) n = [] := by
      unfold onesL
      rw [List.filter_eq_nil_iff]
      intro x _
      rw [h00]
      simp
    rw [this]
    rfl
  · refine ⟨_, _, rfl, rfl, fun Y Bq hY hle => ?_, steps_ones (inF F G n s) n hn2, hb⟩
    have hnx : (fun p => nxt (inF F G n s) true n (fromN p)) = fun p => nxt (bitF V) true n (fromN p) := by
      funext p
      exact (nxt_congr (fun q _ => hV q) true _).symm
    rw [hnx]
    have hgl := hM.glt
    have hgb := hM.gB
    have hbl := hM.blt
    have hTY : TabAt Y := ((hT.below h0 hW).below (Nat.lt_of_lt_of_le h0 hW.size) hb).below (Nat.lt_of_lt_of_le h0 (Nat.le_trans hW.size hb.size)) hY
    exact nexts_map (hM.below hY) hTY fun Z hZ => ⟨hZ.block _ (by omega) (by omega), hZ.block _ (by omega) (by omega), hZ.block _ (by omega) (by omega)⟩
end
end Go.Proofs.YtkpcgijdokhjkaaDoor

namespace Go.Proofs.YtkpcgijdokhjkaaDoor
open Go Go.RowKit
set_option linter.unusedVariables false
set_option linter.unusedSimpArgs false
set_option maxRecDepth 100000 in
set_option maxHeartbeats 4000000 in
theorem lawBlocks_any (m d d' : Nat) (hm : m ≤ 9223372036854775807) (a a' : Option Addr) (L M : Nat → Nat → Nat) (w : World) (h : IsBlks w a m L) (h' : IsBlks w a' m M) : Calls Tryd.prog 28 #[.slice a m d, .slice a' m d'] w fun e w' => e = .returned (.bool (decide (∀ i, i < m → bkSame (L i) (M i)))) ∧ Below w.heap.size w w' := by
  have HI : Hid (∀ V, Below w.heap.size w V → IsBlks V a m L ∧ IsBlks V a' m M) := fun V hV => ⟨h.below hV, h'.below hV⟩
  clear h h'
  go_enter Tryd.func28, Tryd.ntmps28
  go_wp2_with fail
  go_loopw [13] (fun t wr => Hid (∃ k : Nat, k ≤ m ∧ t = .int .i64 (k : Int) ∧ (∀ i, i < k → bkSame (L i) (M i)) ∧ Below w.heap.size w wr)) (fun t _ => m - (intOf t).toNat)
  case atStart => exact ⟨0, by omega, rfl, fun i hi => by omega, Below.refl _ _⟩
  case round =>
    obtain ⟨k, hk, rfl, hall, hb⟩ := Hid.out hrel
    clear hrel
    by_cases hlt : k < m
    · obtain ⟨b1, o1, rfl, l1, r1⟩ := (HI.out wr hb).1 k hlt
      obtain ⟨b2, o2, rfl, l2, r2⟩ := (HI.out wr hb).2 k hlt
      have R1 : Hid (wr.rangeAt b1 (o1 + k * 256) ((List.range 256).map (iv .u8 (L k)))) := r1
      have R2 : Hid (wr.rangeAt b2 (o2 + k * 256) ((List.range 256).map (iv .u8 (M k)))) := r2
      have k0 : (0 : Int) ≤ (k : Int) := by omega
      have k1 : (k : Int) < (m : Int) := by omega
      have HJ : Hid (k < m ∧ m ≤ 9223372036854775807 ∧ (∀ i, i < k → bkSame (L i) (M i))) := ⟨hlt, hm, hall⟩
      have hq : ∀ w, (Op.equalIn 10000 93 (.agg (va 256 (iv .u8 (L k)))) (.agg (va 256 (iv .u8 (M k))))).run Tryd.prog w = .ok (decide (bkSame (L k) (M k))) w := fun w => eq_bk 93 Tryd.underlying93 (L k) (M k) w
      have HSM : Hid (decide (bkSame (L k) (M k)) = decide (bkSame (L k) (M k))) := rfl
      generalize hsm : decide (bkSame (L k) (M k)) = sm at hq
      have HS : Hid (decide (bkSame (L k) (M k)) = sm) := hsm
      clear r1 r2 hall hsm HSM
      cases sm
      all_goals
        go_wp2_with fail
        refine wp_region_partsI [] [([0, 1, 2, 4, 5, 6], 3, true), ([], 7, false), ([], 8, false)] [] [] (wr.heap.size) (by kernel_rfl) (by kernel_rfl) (fun _ hx => nomatch hx) (partsI_yield ?_)
        simp only [List.cons_append, List.nil_append, List.append_nil, List.filterMap_cons, List.filterMap_nil, List.getElem?_toArray, List.getElem?_cons_zero, List.getElem?_cons_succ]
        have hS : Below (wr.heap.size) wr wr.drew := (Below.refl _ _).drew
        go_wp2_with fail
        refine ⟨rfl, _, .agg (va 256 (iv .u8 (L k))), rfl, yieldsIf_load_mid (by rfl) 93 _ (by rfl) (b1) (o1 + k * 256) (by rfl) ((List.range 256).map (iv .u8 (L k))) _ (fun W hW => range_below R1.out hW l1) Tryd.underlying93 rfl (sizeBk.trans (by simp)), partsI_force ?_⟩
        simp only [Act.put, List.setIfInBounds_toArray, List.set_cons_zero, List.set_cons_succ]
        simp only [List.cons_append, List.nil_append, List.append_nil, List.filterMap_cons, List.filterMap_nil, List.getElem?_toArray, List.getElem?_cons_zero, List.getElem?_cons_succ]
        refine wpList_load_blk (by rfl) 93 _ (by rfl) (b2) (o2 + k * 256) 256 (iv .u8 (M k)) (by rfl) _ (range_below R2.out hS l2) Tryd.underlying93 rfl sizeBk ?_
        simp only [Act.put, List.setIfInBounds_toArray, List.set_cons_zero, List.set_cons_succ]
        go_wp2_with fail
        refine ⟨rfl, hS, partsI_force ?_⟩
        simp only [List.cons_append, List.nil_append, List.append_nil, List.filterMap_cons, List.filterMap_nil, List.getElem?_toArray, List.getElem?_cons_zero, List.getElem?_cons_succ]
        go_wp2_with fail
        refine ⟨rfl, hS, partsI_last ?_⟩
        simp only [List.cons_append, List.nil_append, List.append_nil, List.filterMap_cons, List.filterMap_nil, List.getElem?_toArray, List.getElem?_cons_zero, List.getElem?_cons_succ]
        refine ⟨rfl, ?_⟩
        go_wp2_with fail
      · go_ret
        refine ⟨?_, hb.trans (hS.mono hb.size)⟩
        rw [decide_eq_false (fun hx => (of_decide_eq_false HS.out) (hx k HJ.out.1))]
        rfl
      · go_roundw
        case rel =>
          refine ⟨k + 1, HJ.out.1, by first | rfl | go_num | simp, fun i hi => ?_, hb.trans (hS.mono hb.size)⟩
          by_cases e : i = k
          · rw [e]; exact of_decide_eq_true HS.out
          · exact HJ.out.2.2 i (by omega)
        case measure => simp [intOf]; have := HJ.out; omega
    · obtain rfl : k = m := by omega
      have j1 : ¬ ((k : Int) < (k : Int)) := by omega
      have HA : Hid (∀ i, i < k → bkSame (L i) (M i)) := hall
      clear hall
      go_wp2_with fail
      go_ret
      exact ⟨by rw [decide_eq_true HA.out]; rfl, hb⟩
section
variable {w : World} {P : Nat → Prop} {r n : Nat} {F G : Nat → Bool}
theorem rleaves_any (h : RoomIs w P r n F G) : Calls Tryd.prog 17 #[.pointer (some ⟨r, 0, none⟩)] w fun e w' => ∃ v X, e = .returned v ∧ (∀ i, X i < 18446744073709551616) ∧ (∀ p, bitF X p = G p) ∧ w'.ownsRow w.heap.size 93 256 v (lvN n) (byL (lvsF X) (lvN n * 256)) ∧ Below w.heap.size w w' := by
  obtain ⟨gu, bu, cu, gn, bn, cn, U, X, hR, hF, hG⟩ := h
  have HM := rmaps_any hR
  have HL : Hid (∀ m, Calls Tryd.prog 47 #[.pointer (some ⟨gn, 0, none⟩)] (w.drewN m) fun e w' => ∃ v, e = .returned v ∧ w'.ownsRow w.heap.size 93 256 v (lvN n) (byL (lvsF X) (lvN n * 256)) ∧ Below w.heap.size w w') := fun m => by
    refine (leavesM_any _ (hR.x.dN m)).mono ?_
    rintro e w' ⟨v, rfl, h1, h2⟩
    exact ⟨v, rfl, h1, ⟨h2.os, h2.tape, h2.output, h2.size, h2.block⟩⟩
  have hlt := hR.x.lt
  clear hR
  go_enter Tryd.func17, Tryd.ntmps17
  go_wp2_with fail
  refine HM.mono ?_
  rintro e w1 ⟨rfl, m, rfl⟩
  go_wp2_with fail
  refine (HL.out m).mono ?_
  rintro e w2 ⟨v, rfl, h1, h2⟩
  have HE : Hid (_ ∧ _) := ⟨h1, h2⟩
  clear h1 h2
  go_wp2_with fail
  go_ret
  exact ⟨v, X, rfl, hlt, hG, HE.out.1, HE.out.2⟩
theorem rload_no (p : Int) (hp : p < 16 ∨ 8192 < p) (v : Value) (w : World) : Calls Tryd.prog 24 #[.int .i64 p, v] w fun e w' => e = .returned (.tuple #[.pointer none, .int .i64 120]) ∧ w' = w := by
  have HM := rmaybe_no p hp w
  go_enter Tryd.func24, Tryd.ntmps24
  go_wp2_with fail
  refine HM.mono ?_
  rintro e w1 ⟨rfl, rfl⟩
  go_wp2_with fail
  go_ret2
  exact ⟨rfl, rfl⟩
theorem rload_many (h1 : 16 ≤ n) (h2 : n ≤ 8192) (a : Option Addr) (M cc : Nat) (hM : M ≠ lvN n) (w : World) : Calls Tryd.prog 24 #[.int .i64 (n : Int), .slice a M cc] w fun e w' => e = .returned (.tuple #[.pointer none, .int .i64 122]) ∧ Below w.heap.size w w' := by
  have HY := rmaybe_yes n h1 h2 w
  have HL := from_many (n := n) (by omega) h2 a M cc hM w
  go_enter Tryd.func24, Tryd.ntmps24
  go_wp2_with fail
  refine HY.mono ?_
  rintro e w1 ⟨rfl, rfl⟩
  go_wp2_with fail
  refine HL.mono ?_
  rintro e w2 ⟨rfl, hb⟩
  go_wp2_with fail
  go_ret2
  exact ⟨rfl, hb⟩
/-- the leaves are right -/
def GoodW (n : Nat) (L : Nat → Nat → Nat) (W : Nat → Nat) : Prop := ∀ i, i < lvN n → bkSame (lfF W i 16) (L i)
set_option maxHeartbeats 4000000 in
theorem rload_ok (h1 : 16 ≤ n) (h2 : n ≤ 8192) (a : Option Addr) (cc : Nat) (L : Nat → Nat → Nat) (hL : ∀ i j, L i j < 256) (w : World) (hI : IsBlks w a (lvN n) L) : Calls Tryd.prog 24 #[.int .i64 (n : Int), .slice a (lvN n) cc] w fun e w' => ∃ W, (∀ i, W i < 18446744073709551616) ∧ (∀ p, bitF W p = (decide (p < n) && bitL L p)) ∧ ((GoodW n L W ∧ bitF W 0 = false ∧ ∃ r, e = .returned (.tuple #[.pointer (some ⟨r, 0, none⟩), .int .i64 0]) ∧ RoomIs w' (fun k => w.heap.size ≤ k) r n (bitF W) (bitF W)) ∨ (¬ (GoodW n L W ∧ bitF W 0 = false) ∧ e = .returned (.tuple #[.pointer none, .int .i64 122]))) ∧ Below w.heap.size w w' := by
  have HY := rmaybe_yes n h1 h2 w
  have HL := from_ok (n := n) (by omega) h2 a cc L hL w hI
  clear hI
  go_enter Tryd.func24, Tryd.ntmps24
  go_wp2_with fail
  refine HY.mono ?_
  rintro e w1 ⟨rfl, hw1⟩
  subst hw1
  go_wp2_with fail
  refine HL.mono ?_
  rintro e w2 ⟨g, b, c, W, hM, hbits, he, hb⟩
  have HF : Hid ((∀ i, W i < 18446744073709551616) ∧ (∀ p, bitF W p = (decide (p < n) && bitL L p))) := ⟨hM.lt, hbits⟩
  by_cases hgd : GoodW n L W
  · rw [if_pos (show ∀ i, i < lvN n → bkSame (lfF W i 16) (L i) from hgd)] at he
    subst he
    have HH := has_yes w2 hM 0 (by omega)
    have HG : Hid (GoodW n L W) := hgd
    have HSt : Hid (∀ m, bitF W 0 = false → Calls Tryd.prog 52 #[.pointer (some ⟨g, 0, none⟩)] (w2.drewN m) fun e w' => ∃ r, e = .returned (.pointer (some ⟨r, 0, none⟩)) ∧ RoomIs w' (fun k => w1.heap.size ≤ k) r n (bitF W) (bitF W) ∧ Below w1.heap.size w1 w') := fun m hz => by
      refine (rstanding_any (P := fun k => w1.heap.size ≤ k) (hM.dN m) h1 hz hM.gB hM.blt.1 (fun k hk => Nat.le_trans hb.size hk)).mono ?_
      rintro e w' ⟨r, rfl, h5, h6⟩
      have h7 : Below w2.heap.size w2 w' := ⟨h6.os, h6.tape, h6.output, h6.size, h6.block⟩
      exact ⟨r, rfl, h5, hb.trans (h7.mono hb.size)⟩
    clear hM hbits hgd
    cases hz : bitF W 0 with
    | false =>
      rw [hz] at HH
      have HZ : Hid (bitF W 0 = false) := hz
      clear hz
      go_wp2_with fail
      refine HH.mono ?_
      rintro e w3 ⟨rfl, m, rfl⟩
      have HS2 := HSt.out m HZ.out
      clear HSt HH HL HY
      go_wp2_with fail
      refine HS2.mono ?_
      rintro e w4 ⟨r, rfl, hR, hb4⟩
      have HE : Hid (_ ∧ _) := ⟨hR, hb4⟩
      clear hR hb4
      go_wp2_with fail
      go_ret2
      exact ⟨W, HF.out.1, HF.out.2, .inl ⟨HG.out, HZ.out, r, rfl, HE.out.1⟩, HE.out.2⟩
    | true =>
      rw [hz] at HH
      have HZ : Hid (bitF W 0 = true) := hz
      clear hz HSt
      go_wp2_with fail
      refine HH.mono ?_
      rintro e w3 ⟨rfl, m, rfl⟩
      go_wp2_with fail
      go_ret2
      exact ⟨W, HF.out.1, HF.out.2, .inr ⟨(fun q => by have q2 := q.2; rw [HZ.out] at q2; cases q2), rfl⟩, below_dN hb m⟩
  · rw [if_neg (show ¬ ∀ i, i < lvN n → bkSame (lfF W i 16) (L i) from hgd)] at he
    subst he
    have HG : Hid (¬ GoodW n L W) := hgd
    clear hgd hM hbits
    go_wp2_with fail
    go_ret2
    exact ⟨W, HF.out.1, HF.out.2, .inr ⟨fun q => HG.out q.1, rfl⟩, hb⟩
end
end Go.Proofs.YtkpcgijdokhjkaaDoor

namespace Go.Proofs.YtkpcgijdokhjkaaDoor
open Go Go.RowKit
set_option linter.unusedVariables false
set_option linter.unusedSimpArgs false
section
variable {n : Nat} {F : Nat → Bool}
theorem cnt_used (h0 : F 0 = false) (ht : ∀ p, n ≤ p → F p = false) : cntF (inF F F n 2) n = cntF F n := cntF_congr fun p hp => by
  rw [inF_pos 2 (by decide) ht ht]
  unfold stN
  by_cases e : p = 0
  · subst e
    simp [h0]
  · have e1 : 1 ≤ p := by omega
    cases F p <;> simp [e1, hp]
theorem cnt_free0 (h0 : F 0 = false) : ∀ m, cntF (fun p => decide (1 ≤ p) && !F p) (m + 1) + cntF F (m + 1) + 1 = m + 1
  | 0 => by
    show (0 + if (decide (1 ≤ 0) && !F 0) = true then 1 else 0) + (0 + if F 0 = true then 1 else 0) + 1 = 0 + 1
    rw [h0]
    rfl
  | m + 1 => by
    have ih := cnt_free0 h0 m
    show (cntF (fun p => decide (1 ≤ p) && !F p) (m + 1) + if (decide (1 ≤ m + 1) && !F (m + 1)) = true then 1 else 0) + (cntF F (m + 1) + if F (m + 1) = true then 1 else 0) + 1 = m + 1 + 1
    cases F (m + 1) <;> simp <;> omega
theorem cnt_free (hn : 1 ≤ n) (h0 : F 0 = false) (ht : ∀ p, n ≤ p → F p = false) : (cntF (inF F F n 1) n : Int) = (n : Int) - 1 - (cntF F n : Int) := by
  have e : cntF (inF F F n 1) n = cntF (fun p => decide (1 ≤ p) && !F p) n := cntF_congr fun p hp => by
    rw [inF_pos 1 (by decide) ht ht]
    unfold stN
    cases F p <;> simp [hp]
  obtain ⟨m, rfl⟩ : ∃ m, n = m + 1 := ⟨n - 1, by omega⟩
  have := cnt_free0 h0 m
  rw [e]
  omega
theorem ones_used (h0 : F 0 = false) (ht : ∀ p, n ≤ p → F p = false) {x : Nat} (hx : x ∈ onesL (inF F F n 2) n) : x < n ∧ F x = true := by
  unfold onesL at hx
  rw [List.mem_filter, List.mem_range] at hx
  refine ⟨hx.1, ?_⟩
  have h2 := hx.2
  rw [inF_pos 2 (by decide) ht ht] at h2
  unfold stN at h2
  cases hF : F x with
  | true => rfl
  | false => rw [hF] at h2; simp at h2
end
theorem loads_no (p : Int) (hp : p < 16 ∨ 8192 < p) (v : Value) (w : World) (h0 : 0 < w.heap.size) (hT : TabAt w) : Calls Tryd.prog 5 #[.int .i64 p, v] w fun e w' => e = .returned (.bool true) ∧ Below w.heap.size w w' := by
  have HA := awake12_any w hT h0
  clear hT
  by_cases h : p < 16
  · go_enter Tryd.func5, Tryd.ntmps5
    go_wp2_with fail
    refine HA.mono ?_
    rintro e w1 ⟨rfl, hb1⟩
    go_wp2_with fail
    refine (rload_no p hp v _).mono ?_
    rintro e w2 ⟨rfl, rfl⟩
    go_wp2_with fail
    go_ret
    exact ⟨rfl, hb1⟩
  · have h2 : 8192 < p := by omega
    go_enter Tryd.func5, Tryd.ntmps5
    go_wp2_with fail
    refine HA.mono ?_
    rintro e w1 ⟨rfl, hb1⟩
    go_wp2_with fail
    refine (rload_no p hp v _).mono ?_
    rintro e w2 ⟨rfl, rfl⟩
    go_wp2_with fail
    go_ret
    exact ⟨rfl, hb1⟩
set_option maxHeartbeats 4000000 in
theorem loads_many (n : Nat) (h1 : 16 ≤ n) (h2 : n ≤ 8192) (a : Option Addr) (M cc : Nat) (hM : M ≠ lvN n) (w : World) (h0 : 0 < w.heap.size) (hT : TabAt w) : Calls Tryd.prog 5 #[.int .i64 (n : Int), .slice a M cc] w fun e w' => e = .returned (.bool true) ∧ Below w.heap.size w w' := by
  have HA := awake12_any w hT h0
  clear hT
  have i1 : ¬ ((n : Int) < 16) := by omega
  have i2 : ¬ ((8192 : Int) < (n : Int)) := by omega
  go_enter Tryd.func5, Tryd.ntmps5
  go_wp2_with fail
  refine HA.mono ?_
  rintro e w1 ⟨rfl, hb1⟩
  go_wp2_with fail
  refine (rload_many h1 h2 a M cc hM _).mono ?_
  rintro e w2 ⟨rfl, hb2⟩
  replace hb1 := hb1.trans (hb2.mono hb1.size)
  clear hb2
  go_wp2_with fail
  refine (from_many (n := n) (by omega) h2 a M cc hM _).mono ?_
  rintro e w3 ⟨rfl, hb3⟩
  replace hb1 := hb1.trans (hb3.mono hb1.size)
  clear hb3
  go_wp2_with fail
  go_ret
  exact ⟨rfl, hb1⟩
set_option maxRecDepth 100000 in
set_option maxHeartbeats 8000000 in
theorem loads_ok (n : Nat) (h1 : 16 ≤ n) (h2 : n ≤ 8192) (a : Option Addr) (cc : Nat) (L : Nat → Nat → Nat) (hL : ∀ i j, L i j < 256) (w : World) (h0 : 0 < w.heap.size) (hT : TabAt w) (hI : IsBlks w a (lvN n) L) : Calls Tryd.prog 5 #[.int .i64 (n : Int), .slice a (lvN n) cc] w fun e w' => e = .returned (.bool true) ∧ Below w.heap.size w w' := by
  have HA := awake12_any w hT h0
  have i1 : ¬ ((n : Int) < 16) := by omega
  have i2 : ¬ ((8192 : Int) < (n : Int)) := by omega
  have HI : Hid (∀ V, Below w.heap.size w V → IsBlks V a (lvN n) L ∧ TabAt V ∧ 0 < V.heap.size) := fun V hV => ⟨hI.below hV, hT.below h0 hV, Nat.lt_of_lt_of_le h0 hV.size⟩
  have HL : Hid (∀ i j, L i j < 256) := hL
  clear hI hT hL
  go_enter Tryd.func5, Tryd.ntmps5
  go_wp2_with fail
  refine HA.mono ?_
  rintro e w1 ⟨rfl, hb1⟩
  have HLD := rload_ok h1 h2 a cc L HL.out w1 (HI.out w1 hb1).1
  clear HA
  go_wp2_with fail
  refine HLD.mono ?_
  rintro e w2 ⟨W, hWl, hWb, hcase, hb2⟩
  have hbw2 : Below w.heap.size w w2 := hb1.trans (hb2.mono hb1.size)
  have HFR := from_ok (n := n) (by omega) h2 a cc L HL.out w2 (HI.out w2 hbw2).1
  have HW : Hid ((∀ i, W i < 18446744073709551616) ∧ (∀ p, bitF W p = (decide (p < n) && bitL L p))) := ⟨hWl, hWb⟩
  clear HLD hWl hWb hb1
  have HFR2 : Hid (Calls Tryd.prog 25 #[.int .i64 (n : Int), .slice a (lvN n) cc] w2 fun e w' => (GoodW n L W ∧ ∃ g b c, e = .returned (.tuple #[.pointer (some ⟨g, 0, none⟩), .int .i64 0]) ∧ BM w' w2.heap.size g n b c W ∧ Below w2.heap.size w2 w') ∨ (¬ GoodW n L W ∧ e = .returned (.tuple #[.pointer none, .int .i64 111]) ∧ Below w2.heap.size w2 w')) := by
    refine HFR.mono ?_
    rintro e w' ⟨g, b, c, W', hM, hb', he, hbl⟩
    obtain rfl : W' = W := funext fun i => words_ext hM.lt HW.out.1 (fun p => by rw [hb', HW.out.2]) i
    by_cases hg : GoodW n L W'
    · rw [if_pos (show ∀ i, i < lvN n → bkSame (lfF W' i 16) (L i) from hg)] at he
      exact .inl ⟨hg, g, b, c, he, hM, hbl⟩
    · rw [if_neg (show ¬ ∀ i, i < lvN n → bkSame (lfF W' i 16) (L i) from hg)] at he
      exact .inr ⟨hg, he, hbl⟩
  clear HFR
  rcases hcase with ⟨hgd, hz, r, rfl, hR2⟩ | ⟨hng, rfl⟩
  · have HR2 : Hid (RoomIs w2 (fun k => w1.heap.size ≤ k) r n (bitF W) (bitF W)) := hR2
    have HG : Hid (GoodW n L W ∧ bitF W 0 = false) := ⟨hgd, hz⟩
    clear hgd hz hR2
    go_wp2_with fail
    refine HFR2.out.mono ?_
    rintro e w3 (⟨_, g, b, c, rfl, hM3, hb3⟩ | ⟨hn, _, _⟩)
    · have HH := has_yes w3 hM3 0 (by omega)
      rw [HG.out.2] at HH
      have hbw3 := hbw2.trans (hb3.mono hbw2.size)
      have HR3 : Hid (∀ V, Below w3.heap.size w3 V → RoomIs V (fun k => w1.heap.size ≤ k) r n (bitF W) (bitF W) ∧ BM V w2.heap.size g n b c W ∧ Below w.heap.size w V) := fun V hV => ⟨HR2.out.below (hb3.trans (hV.mono hb3.size)), hM3.below hV, hbw3.trans (hV.mono hbw3.size)⟩
      clear hM3 hb3 HR2 HFR2 hbw2 hbw3
      go_wp2_with fail
      refine HH.mono ?_
      rintro e w4 ⟨rfl, m4, rfl⟩
      have hb4 : Below w3.heap.size w3 (w3.drewN m4) := below_dN (Below.refl _ _) m4
      generalize w3.drewN m4 = w4 at *
      obtain ⟨gu, bu, cu, gn, bn, cn, U, X, hRM, hU, hX⟩ := (HR3.out w4 hb4).1
      have HBL := rblocks_any hRM
      clear hRM hU hX HH
      go_wp2_with fail
      refine HBL.mono ?_
      rintro e w5 ⟨rfl, m5, rfl⟩
      have hb5 : Below w3.heap.size w3 (w4.drewN m5) := below_dN hb4 m5
      clear HBL hb4
      generalize w4.drewN m5 = w5 at *
      have htail : ∀ p, n ≤ p → bitF W p = false := (HR3.out w5 hb5).2.1.tail
      have HC2 := rcountR_any (HR3.out w5 hb5).1 2
      rw [cnt_used HG.out.2 htail] at HC2
      have HCF : Hid ((cntF (inF (bitF W) (bitF W) n 1) n : Int) = (n : Int) - 1 - (cntF (bitF W) n : Int)) := cnt_free (by omega) HG.out.2 htail
      have HTL : Hid (∀ p, n ≤ p → bitF W p = false) := htail
      have hcle : cntF (bitF W) n ≤ n := cntF_le _ _
      clear htail
      go_wp2_with fail
      refine HC2.mono ?_
      rintro e w6 ⟨rfl, hb6'⟩
      have hb6 := hb5.trans (hb6'.mono hb5.size)
      have HCM := count_any w6 (HR3.out w6 hb6).2.1
      clear HC2 hb6' hb5
      go_wp2_with fail
      refine HCM.mono ?_
      rintro e w7 ⟨rfl, hw7⟩
      subst hw7
      have HC1 := rcountR_any (HR3.out w7 hb6).1 1
      rw [HCF.out] at HC1
      clear HCM
      go_wp2_with fail
      refine HC1.mono ?_
      rintro e w8 ⟨rfl, hb8'⟩
      have hb8 := hb6.trans (hb8'.mono hb6.size)
      have HCM := count_any w8 (HR3.out w8 hb8).2.1
      have hwr1 : wrap64 ((n : Int) - 1) = (n : Int) - 1 := by unfold wrap64; omega
      have hwr2 : wrap64 ((n : Int) - 1 - (cntF (bitF W) n : Int)) = (n : Int) - 1 - (cntF (bitF W) n : Int) := by unfold wrap64; omega
      clear HC1 hb8' hb6
      go_wp2_with fail
      refine HCM.mono ?_
      rintro e w9 ⟨rfl, hw9⟩
      subst hw9
      clear HCM
      have HLI := rlist_any (HI.out w9 (HR3.out w9 hb8).2.2).2.1 (HI.out w9 (HR3.out w9 hb8).2.2).2.2 (HR3.out w9 hb8).1 2
      go_wp2_with fail
      refine HLI.mono ?_
      rintro e w10 ⟨v, rfl, hown, _, hb10'⟩
      have hb10 := hb8.trans (hb10'.mono hb8.size)
      have HON : Hid (∀ x ∈ onesL (inF (bitF W) (bitF W) n 2) n, x < n ∧ bitF W x = true) := fun x hx => ones_used HG.out.2 HTL.out hx
      have hxl : (onesL (inF (bitF W) (bitF W) n 2) n).length ≤ 8192 := by
        unfold onesL
        exact Nat.le_trans (List.length_filter_le _ _) (by rw [List.length_range]; exact h2)
      generalize onesL (inF (bitF W) (bitF W) n 2) n = xs at *
      obtain ⟨av, cap, rfl⟩ := kown_slice hown
      have HOWN : Hid (∀ V, Below w10.heap.size w10 V → V.ownsRow w9.heap.size 22 1 (.slice av xs.length cap) xs.length (u32L xs)) := fun V hV => kown_below hown hV
      clear hown hb10' hb8 HLI
      have HB10 : Hid (Below w3.heap.size w3 w10) := hb10
      clear hb10
      go_wp2_with fail
      go_loopw [81] (fun t wr => Hid (∃ j : Nat, j ≤ xs.length ∧ t = .int .i64 (j : Int) ∧ Below w10.heap.size w10 wr)) (fun t _ => xs.length - (intOf t).toNat)
      case atStart => exact ⟨0, by omega, rfl, Below.refl _ _⟩
      case round =>
        obtain ⟨j, hj, rfl, hb⟩ := Hid.out hrel
        clear hrel
        by_cases hlt : j < xs.length
        · have hown := HOWN.out wr hb
          obtain ⟨gv, capv, hv, hg1, hg2⟩ := kown_form hown (by omega)
          injection hv with hv1 hv2 hv3
          subst hv1
          subst hv3
          have hx := HON.out xs[j] (List.getElem_mem hlt)
          have cw : wr.cell? ⟨gv, j, none⟩ = some (.int .u32 ((xs[j] : Nat) : Int)) := by
            rw [hown.cellAt j (by omega)]
            unfold u32L
            rw [List.getElem?_map, List.getElem?_eq_getElem hlt]
            show some (Value.int .u32 (((xs[j] : Nat) : Int) % 4294967296)) = _
            rw [Int.emod_eq_of_lt (by omega) (by omega)]
          have hbw := HB10.out.trans (hb.mono HB10.out.size)
          have HH := has_yes wr (HR3.out wr hbw).2.1 xs[j] hx.1
          rw [hx.2] at HH
          have hxb : xs[j] < 4294967296 := by omega
          have j0 : (0 : Int) ≤ (j : Int) := by omega
          have j1 : (j : Int) < (xs.length : Int) := by omega
          have HJ : Hid (j < xs.length ∧ xs.length ≤ 8192) := ⟨hlt, hxl⟩
          have HBW : Hid (Below w10.heap.size w10 wr) := hb
          clear hown hx hbw hb hg1 hg2
          generalize hxx : xs[j] = x at *
          clear hxx
          go_wp2_with fail
          refine HH.mono ?_
          rintro e w11 ⟨rfl, m11, rfl⟩
          have HB11 : Hid (Below w10.heap.size w10 (wr.drewN m11)) := below_dN HBW.out m11
          generalize wr.drewN m11 = w11 at *
          go_wp2_with fail
          go_roundw
          case rel => exact ⟨j + 1, HJ.out.1, by first | rfl | go_num | simp, HB11.out⟩
          case measure => simp [intOf]; have := HJ.out; omega
        · obtain rfl : j = xs.length := by omega
          have j1 : ¬ ((xs.length : Int) < (xs.length : Int)) := by omega
          have hbw := HB10.out.trans (hb.mono HB10.out.size)
          have HLV := rleaves_any (HR3.out wr hbw).1
          have HBW : Hid (Below w.heap.size w wr ∧ Below w3.heap.size w3 wr) := ⟨(HR3.out wr hbw).2.2, hbw⟩
          clear hbw hb HOWN
          go_wp2_with fail
          refine HLV.mono ?_
          rintro e w12 ⟨v2, X, rfl, hXl, hXb, hown2, hb12⟩
          obtain rfl : X = W := funext fun i => words_ext hXl HW.out.1 hXb i
          obtain ⟨a2, cap2, rfl, hI2⟩ := own_blks hown2
          have hI3 : IsBlks w12 a2 (lvN n) (fun i => lfF X i 16) := fun i hi => by
            obtain ⟨b0, o0, e0, l0, r0⟩ := hI2 i hi
            refine ⟨b0, o0, e0, l0, ?_⟩
            have he : (List.range 256).map (iv .u8 (fun x => lvsF X (256 * i + x))) = (List.range 256).map (iv .u8 (lfF X i 16)) := List.map_congr_left fun x hx => by
              have hx' := List.mem_range.1 hx
              show Value.int .u8 ((lfF X ((256 * i + x) / 256) 16 ((256 * i + x) % 256) : Nat) : Int) = _
              rw [show (256 * i + x) / 256 = i by omega, show (256 * i + x) % 256 = x by omega]
              rfl
            rw [← he]
            exact r0
          have hbw12 := HBW.out.1.trans (hb12.mono HBW.out.1.size)
          have HQ : Hid (Calls Tryd.prog 28 #[.slice a2 (lvN n) cap2, .slice a (lvN n) cc] w12 fun e w' => e = .returned (.bool true) ∧ Below w12.heap.size w12 w') := by
            have hl8 := lvN_le h2
            have := lawBlocks_any (lvN n) cap2 cc (by omega) a2 a _ L w12 hI3 (HI.out w12 hbw12).1
            rw [decide_eq_true (show ∀ i, i < lvN n → bkSame (lfF X i 16) (L i) from HG.out.1)] at this
            exact this
          clear hI2 hI3 hown2 hXl hXb HLV
          go_wp2_with fail
          refine HQ.out.mono ?_
          rintro e w13 ⟨rfl, hb13⟩
          have hbw13 := hbw12.trans (hb13.mono hbw12.size)
          go_wp2_with fail
          go_ret
          exact ⟨rfl, hbw13⟩
    · exact absurd HG.out.1 hn
  · have HN : Hid (¬ (GoodW n L W ∧ bitF W 0 = false)) := hng
    clear hng
    go_wp2_with fail
    refine HFR2.out.mono ?_
    rintro e w3 (⟨hgd, g, b, c, rfl, hM3, hb3⟩ | ⟨hn, rfl, hb3⟩)
    · have HH := has_yes w3 hM3 0 (by omega)
      have hz : bitF W 0 = true := by
        cases hz : bitF W 0 with
        | true => rfl
        | false => exact absurd ⟨hgd, hz⟩ HN.out
      rw [hz] at HH
      have hbw3 := hbw2.trans (hb3.mono hbw2.size)
      clear hM3 hb3 hgd
      go_wp2_with fail
      refine HH.mono ?_
      rintro e w4 ⟨rfl, m4, rfl⟩
      go_wp2_with fail
      go_ret
      exact ⟨rfl, below_dN hbw3 m4⟩
    · have hbw3 := hbw2.trans (hb3.mono hbw2.size)
      clear hn hb3
      go_wp2_with fail
      go_ret
      exact ⟨rfl, hbw3⟩
theorem roomLoadsLaw (p : Int) (a : Option Addr) (M cc : Nat) (L : Nat → Nat → Nat) (hL : ∀ i j, L i j < 256) (w : World) (h0 : 0 < w.heap.size) (hT : TabAt w) (hI : IsBlks w a M L) : Calls Tryd.prog 5 #[.int .i64 p, .slice a M cc] w fun e w' => e = .returned (.bool true) ∧ Below w.heap.size w w' := by
  by_cases hp : p < 16 ∨ 8192 < p
  · exact loads_no p hp _ w h0 hT
  · obtain ⟨n, rfl⟩ := Int.eq_ofNat_of_zero_le (a := p) (by omega)
    by_cases hM : M = lvN n
    · subst hM
      exact loads_ok n (by omega) (by omega) a cc L hL w h0 hT hI
    · exact loads_many n (by omega) (by omega) a M cc hM w h0 hT
end Go.Proofs.YtkpcgijdokhjkaaDoor
