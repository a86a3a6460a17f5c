/- Contracts of the functions on numbers in bytes that the digest calls, in the program and in the document's answer: what each returns, and that no memory that was there has changed. -/
import Derived.Test.YtkpcgijdokhjkaaDoorHRmNil
import Derived.Handy
import Derived.Test.YtkpcgijdokhjkaaDoorHSegsP
import Derived.Maps.AppendAt
import Derived.Test.YtkpcgijdokhjkaaDoorHEqState
import Derived.Laws.BytesArg

namespace Go.Proofs.YtkpcgijdokhjkaaDoor
open Go Go.RowKit Go.Shelf
set_option linter.unusedVariables false
set_option linter.unusedSimpArgs false
/-- whether a block has a state -/
def inF (F G : Nat → Bool) (n : Nat) (s : Int) (p : Nat) : Bool := decide (p < n) && decide ((stAt F G n p : Int) = s)
/-- what in answers -/
def InMap (w' : World) (B n : Nat) (I : Nat → Bool) (mv : Value) : Prop := (mv = .pointer none ∧ ∀ p, I p = false) ∨ ∃ (g b c : Nat) (V : Nat → Nat), mv = .pointer (some ⟨g, 0, none⟩) ∧ BM w' B g n b c V ∧ ∀ p, bitF V p = I p
section
variable {w w' : World} {P : Nat → Prop} {r n gu bu cu gn bn cn : Nat} {U X : Nat → Nat} {F G : Nat → Bool}
theorem inF_zero (hn : 1 ≤ n) (p : Nat) : inF F G n 0 p = decide (p = 0) := by
  unfold inF stAt stN
  by_cases h : p = 0
  · subst h
    rw [if_pos (.inl rfl)]
    simp
    omega
  · by_cases h2 : n ≤ p
    · simp [h]
      omega
    · rw [if_neg (by omega)]
      cases F p <;> cases G p <;> simp [h]
theorem inF_pos (s : Int) (hs : 1 ≤ s) (hF0 : ∀ p, n ≤ p → F p = false) (hG0 : ∀ p, n ≤ p → G p = false) (p : Nat) : inF F G n s p = (decide (1 ≤ p) && decide (p < n) && decide ((stN F G p : Int) = s)) := by
  unfold inF stAt
  by_cases h : p = 0
  · subst h
    rw [if_pos (.inl rfl)]
    simp
    omega
  · by_cases h2 : n ≤ p
    · rw [if_pos (.inr h2)]
      have : ¬ p < n := by omega
      simp [this]
    · rw [if_neg (by omega)]
      have : 1 ≤ p := by omega
      simp [this]
theorem inF_not (s : Int) (hs : s < 0 ∨ 4 < s) (p : Nat) : inF F G n s p = false := by
  unfold inF stAt stN
  split
  · simp
    omega
  · cases F p <;> cases G p <;> simp <;> omega
set_option maxHeartbeats 4000000 in
theorem rnumbers_any (h : RM w P r n gu bu cu gn bn cn U X) : Calls Tryd.prog 67 #[.pointer (some ⟨r, 0, none⟩)] w fun e w' => ∃ g b c V, e = .returned (.pointer (some ⟨g, 0, none⟩)) ∧ BM w' w.heap.size g n b c V ∧ (∀ p, bitF V p = (decide (1 ≤ p) && decide (p < n))) ∧ Below w.heap.size w w' := by
  have HB := rblocks_any h
  have hn := h.n16
  have hn2 := h.x.n2
  have HN : Hid (∀ m, Calls Tryd.prog 53 #[.int .i64 (n : Int)] (w.drewN m) fun e w' => ∃ g b c, e = .returned (.tuple #[.pointer (some ⟨g, 0, none⟩), .int .i64 0]) ∧ BM w' w.heap.size g n b c (fun _ => 0) ∧ Below w.heap.size w w') := fun m => by
    refine (newM_ok n (by omega) hn2 (w.drewN m)).mono ?_
    rintro e w' ⟨g, b, c, rfl, hM, hb⟩
    exact ⟨g, b, c, rfl, hM, ⟨hb.os, hb.tape, hb.output, hb.size, hb.block⟩⟩
  have HB2 : Hid (∀ V, Below w.heap.size w V → Calls Tryd.prog 18 #[.pointer (some ⟨r, 0, none⟩)] V fun e w' => e = .returned (.int .i64 (n : Int)) ∧ ∃ m, w' = V.drewN m) := fun V hV => rblocks_any (h.below hV)
  clear h
  go_enter Tryd.func67, Tryd.ntmps67
  go_wp2_with fail
  refine HB.mono ?_
  rintro e w1 ⟨rfl, m1, rfl⟩
  go_wp2_with fail
  refine (HN.out m1).mono ?_
  rintro e w2 ⟨g, b, c, rfl, hM2, hb2⟩
  have HB3 := HB2.out w2 hb2
  have HM2 : Hid (BM w2 w.heap.size g n b c (fun _ => 0)) := hM2
  clear hM2 HB HN HB2
  go_wp2_with fail
  refine HB3.mono ?_
  rintro e w3 ⟨rfl, m3, rfl⟩
  have HFI := fill_ok _ (HM2.out.dN m3) 1 n (by omega) (Nat.le_refl _)
  have hb3 : Below w.heap.size w (w2.drewN m3) := below_dN hb2 m3
  have HFI2 : Hid (Calls Tryd.prog 76 #[.pointer (some ⟨g, 0, none⟩), .int .i64 1, .int .i64 (n : Int)] (w2.drewN m3) fun e w' => e = .returned (.int .i64 0) ∧ ∃ V, BM w' w.heap.size g n b c V ∧ (∀ p, bitF V p = (decide (1 ≤ p) && decide (p < n))) ∧ Below w.heap.size w w') := by
    refine HFI.mono ?_
    rintro e w' ⟨rfl, V, hM, hV, hO⟩
    refine ⟨rfl, V, hM, fun p => ?_, hb3.trans (hO.below hb3.size hM.blt.1)⟩
    rw [hV]
    unfold filF
    rw [bitF_zero, Bool.or_false]
  clear HB3 HM2 HFI hb2 hb3
  go_wp2_with fail
  refine HFI2.out.mono ?_
  rintro e w4 ⟨rfl, V, hM4, hV4, hb4⟩
  go_wp2_with fail
  go_ret
  exact ⟨g, b, c, V, rfl, hM4, hV4, hb4⟩
set_option maxHeartbeats 4000000 in
theorem rin_2 (h : RoomIs w P r n F G) : Calls Tryd.prog 45 #[.pointer (some ⟨r, 0, none⟩), .int .i64 2] w fun e w' => ∃ mv, e = .returned mv ∧ InMap w' w.heap.size n (inF F G n 2) mv ∧ Below w.heap.size w w' := by
  obtain ⟨gu, bu, cu, gn, bn, cn, U, X, hR, hF, hG⟩ := h
  have HM := rmaps_any hR
  have hF0 : ∀ p, n ≤ p → F p = false := fun p hp => by rw [← hF]; exact hR.u.tail p hp
  have hG0 : ∀ p, n ≤ p → G p = false := fun p hp => by rw [← hG]; exact hR.x.tail p hp
  have hz : F 0 = false ∧ G 0 = false := ⟨by rw [← hF]; exact hR.z.1, by rw [← hG]; exact hR.z.2⟩
  have HZ : Hid (F 0 = false ∧ G 0 = false) := hz
  have HF0 : Hid ((∀ p, n ≤ p → F p = false) ∧ (∀ p, n ≤ p → G p = false) ∧ (∀ p, bitF U p = F p) ∧ (∀ p, bitF X p = G p)) := ⟨hF0, hG0, hF, hG⟩
  have HW : Hid (∀ m, Calls Tryd.prog 69 #[.pointer (some ⟨gu, 0, none⟩), .pointer (some ⟨gn, 0, none⟩)] (w.drewN m) fun e w' => ∃ g2, e = .returned (.tuple #[.pointer (some ⟨g2, 0, none⟩), .int .i64 0]) ∧ Made (w.drewN m) w' g2 n fun p => bitF U p && bitF X p) := fun m => cross_like _ (hR.u.dN m) (hR.x.dN m)
  clear hR hF hG hF0 hG0 hz
  go_enter Tryd.func45, Tryd.ntmps45
  go_wp2_with fail
  refine HM.mono ?_
  rintro e w1 ⟨rfl, m1, rfl⟩
  go_wp2_with fail
  refine (HW.out m1).mono ?_
  rintro e w2 ⟨g2, rfl, ⟨b2, c2, V, hV, hVb⟩, hb2⟩
  have HH : Hid (_ ∧ _) := ⟨hV, hVb⟩
  clear hV hVb
  go_wp2_with fail
  go_ret
  obtain ⟨hV, hVb⟩ := HH.out
  refine ⟨_, rfl, .inr ⟨g2, b2, c2, V, rfl, hV, fun p => ?_⟩, ⟨hb2.os, hb2.tape, hb2.output, hb2.size, hb2.block⟩⟩
  obtain ⟨f0, g0, hF, hG⟩ := HF0.out
  rw [hVb, inF_pos 2 (by decide) f0 g0, hF, hG]
  unfold stN
  by_cases h1 : p = 0
  · subst h1
    rw [HZ.out.1, HZ.out.2]
    simp
  · have h1' : 1 ≤ p := by omega
    by_cases h2 : p < n
    · cases F p <;> cases G p <;> simp [h1', h2]
    · rw [f0 p (by omega), g0 p (by omega)]
      simp
set_option maxHeartbeats 4000000 in
theorem rin_3 (h : RoomIs w P r n F G) : Calls Tryd.prog 45 #[.pointer (some ⟨r, 0, none⟩), .int .i64 3] w fun e w' => ∃ mv, e = .returned mv ∧ InMap w' w.heap.size n (inF F G n 3) mv ∧ Below w.heap.size w w' := by
  obtain ⟨gu, bu, cu, gn, bn, cn, U, X, hR, hF, hG⟩ := h
  have HM := rmaps_any hR
  have hF0 : ∀ p, n ≤ p → F p = false := fun p hp => by rw [← hF]; exact hR.u.tail p hp
  have hG0 : ∀ p, n ≤ p → G p = false := fun p hp => by rw [← hG]; exact hR.x.tail p hp
  have hz : F 0 = false ∧ G 0 = false := ⟨by rw [← hF]; exact hR.z.1, by rw [← hG]; exact hR.z.2⟩
  have HZ : Hid (F 0 = false ∧ G 0 = false) := hz
  have HF0 : Hid ((∀ p, n ≤ p → F p = false) ∧ (∀ p, n ≤ p → G p = false) ∧ (∀ p, bitF U p = F p) ∧ (∀ p, bitF X p = G p)) := ⟨hF0, hG0, hF, hG⟩
  have HW : Hid (∀ m, Calls Tryd.prog 68 #[.pointer (some ⟨gn, 0, none⟩), .pointer (some ⟨gu, 0, none⟩)] (w.drewN m) fun e w' => ∃ g2, e = .returned (.tuple #[.pointer (some ⟨g2, 0, none⟩), .int .i64 0]) ∧ Made (w.drewN m) w' g2 n fun p => bitF X p && !bitF U p) := fun m => less_like _ (hR.x.dN m) (hR.u.dN m)
  clear hR hF hG hF0 hG0 hz
  go_enter Tryd.func45, Tryd.ntmps45
  go_wp2_with fail
  refine HM.mono ?_
  rintro e w1 ⟨rfl, m1, rfl⟩
  go_wp2_with fail
  refine (HW.out m1).mono ?_
  rintro e w2 ⟨g2, rfl, ⟨b2, c2, V, hV, hVb⟩, hb2⟩
  have HH : Hid (_ ∧ _) := ⟨hV, hVb⟩
  clear hV hVb
  go_wp2_with fail
  go_ret
  obtain ⟨hV, hVb⟩ := HH.out
  refine ⟨_, rfl, .inr ⟨g2, b2, c2, V, rfl, hV, fun p => ?_⟩, ⟨hb2.os, hb2.tape, hb2.output, hb2.size, hb2.block⟩⟩
  obtain ⟨f0, g0, hF, hG⟩ := HF0.out
  rw [hVb, inF_pos 3 (by decide) f0 g0, hF, hG]
  unfold stN
  by_cases h1 : p = 0
  · subst h1
    rw [HZ.out.1, HZ.out.2]
    simp
  · have h1' : 1 ≤ p := by omega
    by_cases h2 : p < n
    · cases F p <;> cases G p <;> simp [h1', h2]
    · rw [f0 p (by omega), g0 p (by omega)]
      simp
set_option maxHeartbeats 4000000 in
theorem rin_4 (h : RoomIs w P r n F G) : Calls Tryd.prog 45 #[.pointer (some ⟨r, 0, none⟩), .int .i64 4] w fun e w' => ∃ mv, e = .returned mv ∧ InMap w' w.heap.size n (inF F G n 4) mv ∧ Below w.heap.size w w' := by
  obtain ⟨gu, bu, cu, gn, bn, cn, U, X, hR, hF, hG⟩ := h
  have HM := rmaps_any hR
  have hF0 : ∀ p, n ≤ p → F p = false := fun p hp => by rw [← hF]; exact hR.u.tail p hp
  have hG0 : ∀ p, n ≤ p → G p = false := fun p hp => by rw [← hG]; exact hR.x.tail p hp
  have hz : F 0 = false ∧ G 0 = false := ⟨by rw [← hF]; exact hR.z.1, by rw [← hG]; exact hR.z.2⟩
  have HZ : Hid (F 0 = false ∧ G 0 = false) := hz
  have HF0 : Hid ((∀ p, n ≤ p → F p = false) ∧ (∀ p, n ≤ p → G p = false) ∧ (∀ p, bitF U p = F p) ∧ (∀ p, bitF X p = G p)) := ⟨hF0, hG0, hF, hG⟩
  have HW : Hid (∀ m, Calls Tryd.prog 68 #[.pointer (some ⟨gu, 0, none⟩), .pointer (some ⟨gn, 0, none⟩)] (w.drewN m) fun e w' => ∃ g2, e = .returned (.tuple #[.pointer (some ⟨g2, 0, none⟩), .int .i64 0]) ∧ Made (w.drewN m) w' g2 n fun p => bitF U p && !bitF X p) := fun m => less_like _ (hR.u.dN m) (hR.x.dN m)
  clear hR hF hG hF0 hG0 hz
  go_enter Tryd.func45, Tryd.ntmps45
  go_wp2_with fail
  refine HM.mono ?_
  rintro e w1 ⟨rfl, m1, rfl⟩
  go_wp2_with fail
  refine (HW.out m1).mono ?_
  rintro e w2 ⟨g2, rfl, ⟨b2, c2, V, hV, hVb⟩, hb2⟩
  have HH : Hid (_ ∧ _) := ⟨hV, hVb⟩
  clear hV hVb
  go_wp2_with fail
  go_ret
  obtain ⟨hV, hVb⟩ := HH.out
  refine ⟨_, rfl, .inr ⟨g2, b2, c2, V, rfl, hV, fun p => ?_⟩, ⟨hb2.os, hb2.tape, hb2.output, hb2.size, hb2.block⟩⟩
  obtain ⟨f0, g0, hF, hG⟩ := HF0.out
  rw [hVb, inF_pos 4 (by decide) f0 g0, hF, hG]
  unfold stN
  by_cases h1 : p = 0
  · subst h1
    rw [HZ.out.1, HZ.out.2]
    simp
  · have h1' : 1 ≤ p := by omega
    by_cases h2 : p < n
    · cases F p <;> cases G p <;> simp [h1', h2]
    · rw [f0 p (by omega), g0 p (by omega)]
      simp
set_option maxHeartbeats 4000000 in
theorem rin_1 (h : RoomIs w P r n F G) : Calls Tryd.prog 45 #[.pointer (some ⟨r, 0, none⟩), .int .i64 1] w fun e w' => ∃ mv, e = .returned mv ∧ InMap w' w.heap.size n (inF F G n 1) mv ∧ Below w.heap.size w w' := by
  obtain ⟨gu, bu, cu, gn, bn, cn, U, X, hR, hF, hG⟩ := h
  have HM := rmaps_any hR
  have hF0 : ∀ p, n ≤ p → F p = false := fun p hp => by rw [← hF]; exact hR.u.tail p hp
  have hG0 : ∀ p, n ≤ p → G p = false := fun p hp => by rw [← hG]; exact hR.x.tail p hp
  have hz : F 0 = false ∧ G 0 = false := ⟨by rw [← hF]; exact hR.z.1, by rw [← hG]; exact hR.z.2⟩
  have HZ : Hid (F 0 = false ∧ G 0 = false) := hz
  have HF0 : Hid ((∀ p, n ≤ p → F p = false) ∧ (∀ p, n ≤ p → G p = false) ∧ (∀ p, bitF U p = F p) ∧ (∀ p, bitF X p = G p)) := ⟨hF0, hG0, hF, hG⟩
  have HW : Hid (∀ m, Calls Tryd.prog 41 #[.pointer (some ⟨gu, 0, none⟩), .pointer (some ⟨gn, 0, none⟩)] (w.drewN m) fun e w' => ∃ g2, e = .returned (.tuple #[.pointer (some ⟨g2, 0, none⟩), .int .i64 0]) ∧ Made (w.drewN m) w' g2 n fun p => bitF U p || bitF X p) := fun m => either_like _ (hR.u.dN m) (hR.x.dN m)
  have HN : Hid (∀ V, Below w.heap.size w V → Calls Tryd.prog 67 #[.pointer (some ⟨r, 0, none⟩)] V fun e w' => ∃ g b c W, e = .returned (.pointer (some ⟨g, 0, none⟩)) ∧ BM w' V.heap.size g n b c W ∧ (∀ p, bitF W p = (decide (1 ≤ p) && decide (p < n))) ∧ Below V.heap.size V w') := fun V hV => rnumbers_any (hR.below hV)
  clear hR hF hG hF0 hG0 hz
  go_enter Tryd.func45, Tryd.ntmps45
  go_wp2_with fail
  refine HM.mono ?_
  rintro e w1 ⟨rfl, m1, rfl⟩
  go_wp2_with fail
  refine (HW.out m1).mono ?_
  rintro e w2 ⟨g2, rfl, ⟨b2, c2, V, hV, hVb⟩, hb2'⟩
  have hb2 : Below w.heap.size w w2 := ⟨hb2'.os, hb2'.tape, hb2'.output, hb2'.size, hb2'.block⟩
  have HV : Hid (_ ∧ _) := ⟨hV, hVb⟩
  have HN2 := HN.out w2 hb2
  clear hV hVb hb2' HW HM HN
  go_wp2_with fail
  refine HN2.mono ?_
  rintro e w3 ⟨g3, b3, c3, V3, rfl, hM3, hV3, hb3⟩
  have HL := less_like w3 hM3 (HV.out.1.below hb3)
  have HV3 : Hid (∀ p, bitF V3 p = (decide (1 ≤ p) && decide (p < n))) := hV3
  have hbw3 : Below w.heap.size w w3 := hb2.trans (hb3.mono hb2.size)
  clear hM3 hV3 HN2 hb2 hb3
  go_wp2_with fail
  refine HL.mono ?_
  rintro e w4 ⟨g4, rfl, ⟨b4, c4, V4, hM4, hV4⟩, hb4⟩
  have HH : Hid (_ ∧ _) := ⟨hM4, hV4⟩
  have hbw4 : Below w.heap.size w w4 := hbw3.trans (hb4.mono hbw3.size)
  have hs3 := hbw3.size
  clear hM4 hV4 HL hb4 hbw3
  go_wp2_with fail
  go_ret
  obtain ⟨hM4, hV4⟩ := HH.out
  refine ⟨_, rfl, .inr ⟨g4, b4, c4, V4, rfl, hM4.mono hs3, fun p => ?_⟩, hbw4⟩
  obtain ⟨f0, g0, hF, hG⟩ := HF0.out
  have hVb := HV.out.2 p
  rw [hV4, HV3.out, hVb, inF_pos 1 (by decide) f0 g0]
  show (_ && !(bitF U p || bitF X p)) = _
  rw [hF, hG]
  unfold stN
  cases F p <;> cases G p <;> simp
set_option maxHeartbeats 4000000 in
theorem rin_0 (h : RoomIs w P r n F G) : Calls Tryd.prog 45 #[.pointer (some ⟨r, 0, none⟩), .int .i64 0] w fun e w' => ∃ mv, e = .returned mv ∧ InMap w' w.heap.size n (inF F G n 0) mv ∧ Below w.heap.size w w' := by
  obtain ⟨gu, bu, cu, gn, bn, cn, U, X, hR, hF, hG⟩ := h
  have HM := rmaps_any hR
  have hF0 : ∀ p, n ≤ p → F p = false := fun p hp => by rw [← hF]; exact hR.u.tail p hp
  have hG0 : ∀ p, n ≤ p → G p = false := fun p hp => by rw [← hG]; exact hR.x.tail p hp
  have hz : F 0 = false ∧ G 0 = false := ⟨by rw [← hF]; exact hR.z.1, by rw [← hG]; exact hR.z.2⟩
  have HZ : Hid (F 0 = false ∧ G 0 = false) := hz
  have HF0 : Hid ((∀ p, n ≤ p → F p = false) ∧ (∀ p, n ≤ p → G p = false) ∧ (∀ p, bitF U p = F p) ∧ (∀ p, bitF X p = G p)) := ⟨hF0, hG0, hF, hG⟩
  have hn := hR.n16
  have hn2 := hR.x.n2
  have HB : Hid (∀ m, Calls Tryd.prog 18 #[.pointer (some ⟨r, 0, none⟩)] (w.drewN m) fun e w' => e = .returned (.int .i64 (n : Int)) ∧ ∃ m', w' = w.drewN m') := fun m => by
    refine (rblocks_any (hR.dN m)).mono ?_
    rintro e w' ⟨rfl, m', rfl⟩
    exact ⟨rfl, _, World.drewN_drewN ..⟩
  have HO : Hid (∀ m, Calls Tryd.prog 66 #[.int .i64 (n : Int), .slice (some ⟨w.heap.size, 0, none⟩) 1 1] ((w.drewN m).alloc (.cells #[.int .i64 0] 3)) fun e w' => ∃ g b c W, e = .returned (.tuple #[.pointer (some ⟨g, 0, none⟩), .int .i64 0]) ∧ BM w' w.heap.size g n b c W ∧ (∀ p, bitF W p = decide (p = 0)) ∧ Below w.heap.size w w') := fun m => by
    have hblk : Blk ((w.drewN m).alloc (.cells #[.int .i64 0] 3)) w.heap.size 3 #[.int .i64 0] := Blk.new _ _ _
    have hb1 : Below w.heap.size w ((w.drewN m).alloc (.cells #[.int .i64 0] 3)) := (below_dN (Below.refl _ _) m).alloc (Nat.le_refl _) _
    refine (of_ok (n := n) (by omega) hn2 (some ⟨w.heap.size, 0, none⟩) 1 1 (by decide) (fun _ => 0) (fun i hi => ⟨Int.le_refl 0, by show (0 : Int) < (n : Int); omega⟩) _ (fun i hi => ?_)).mono ?_
    · match i, hi with
      | 0, _ => exact ⟨w.heap.size, 0, rfl, hblk.lt, by rw [hblk.cell]; rfl⟩
    · rintro e w' ⟨g, rfl, ⟨b, c, W, hM, hW⟩, hb⟩
      refine ⟨g, b, c, W, rfl, hM.mono hb1.size, fun p => ?_, hb1.trans (hb.mono hb1.size)⟩
      rw [hW]
      show (if (p : Int) = 0 then true else false) = _
      by_cases h : p = 0
      · simp [h]
      · rw [if_neg (by omega)]
        simp [h]
  have HI : Hid (∀ p, inF F G n 0 p = decide (p = 0)) := fun p => inF_zero (by omega) p
  clear hR hF hG hF0 hG0 hz
  go_enter Tryd.func45, Tryd.ntmps45
  go_wp2_with fail
  refine HM.mono ?_
  rintro e w1 ⟨rfl, m1, rfl⟩
  go_wp2_with fail
  refine (HB.out m1).mono ?_
  rintro e w2 ⟨rfl, m2, rfl⟩
  have HO2 := HO.out m2
  clear HO HB HM
  go_wp2_with fail
  refine HO2.mono ?_
  rintro e w3 ⟨g, b, c, W, rfl, hM3, hW3, hb3⟩
  have HH : Hid (_ ∧ _) := ⟨hM3, hW3⟩
  clear hM3 hW3 HO2
  go_wp2_with fail
  go_ret
  exact ⟨_, rfl, .inr ⟨g, b, c, W, rfl, HH.out.1, fun p => by rw [HI.out]; exact HH.out.2 p⟩, hb3⟩
set_option maxHeartbeats 4000000 in
theorem rin_not (h : RoomIs w P r n F G) (s : Int) (hs : s < 0 ∨ 4 < s) : Calls Tryd.prog 45 #[.pointer (some ⟨r, 0, none⟩), .int .i64 s] w fun e w' => ∃ mv, e = .returned mv ∧ InMap w' w.heap.size n (inF F G n s) mv ∧ Below w.heap.size w w' := by
  obtain ⟨gu, bu, cu, gn, bn, cn, U, X, hR, hF, hG⟩ := h
  have HM := rmaps_any hR
  have n0 : ¬ s = 0 := by omega
  have n1 : ¬ s = 1 := by omega
  have n2 : ¬ s = 2 := by omega
  have n3 : ¬ s = 3 := by omega
  have n4 : ¬ s = 4 := by omega
  have HI : Hid (∀ p, inF F G n s p = false) := fun p => inF_not s hs p
  clear hR hF hG hs
  go_enter Tryd.func45, Tryd.ntmps45
  go_wp2_with fail
  refine HM.mono ?_
  rintro e w1 ⟨rfl, m1, rfl⟩
  go_wp2_with fail
  go_ret
  exact ⟨_, rfl, .inl ⟨rfl, HI.out⟩, below_dN (Below.refl _ _) m1⟩
theorem rin_any (h : RoomIs w P r n F G) (s : Int) : Calls Tryd.prog 45 #[.pointer (some ⟨r, 0, none⟩), .int .i64 s] w fun e w' => ∃ mv, e = .returned mv ∧ InMap w' w.heap.size n (inF F G n s) mv ∧ Below w.heap.size w w' := by
  by_cases hs : s < 0 ∨ 4 < s
  · exact rin_not h s hs
  · have : s = 0 ∨ s = 1 ∨ s = 2 ∨ s = 3 ∨ s = 4 := by omega
    rcases this with rfl | rfl | rfl | rfl | rfl
    · exact rin_0 h
    · exact rin_1 h
    · exact rin_2 h
    · exact rin_3 h
    · exact rin_4 h
theorem rcountR_any (h : RoomIs w P r n F G) (s : Int) : Calls Tryd.prog 15 #[.pointer (some ⟨r, 0, none⟩), .int .i64 s] w fun e w' => e = .returned (.int .i64 (cntF (inF F G n s) n : Int)) ∧ Below w.heap.size w w' := by
  have HI := rin_any h s
  clear h
  go_enter Tryd.func15, Tryd.ntmps15
  go_wp2_with fail
  refine HI.mono ?_
  rintro e w1 ⟨mv, rfl, hM, hb⟩
  rcases hM with ⟨rfl, h0⟩ | ⟨g, b, c, V, rfl, hM, hV⟩
  · have hc : cntF (inF F G n s) n = 0 := by
      exact cntF_none (inF F G n s) n fun p _ => h0 p
    go_wp2_with fail
    refine (ncount _).mono ?_
    rintro e w2 ⟨rfl, rfl⟩
    go_wp2_with fail
    go_ret
    exact ⟨by rw [hc]; rfl, hb⟩
  · have HC := count_any w1 hM
    rw [cntF_congr (G := inF F G n s) fun i _ => hV i] at HC
    clear hM hV
    go_wp2_with fail
    refine HC.mono ?_
    rintro e w2 ⟨rfl, rfl⟩
    go_wp2_with fail
    go_ret
    exact ⟨rfl, hb⟩
theorem rlist_any (hT : TabAt w) (h0 : 0 < w.heap.size) (h : RoomIs w P r n F G) (s : Int) : Calls Tryd.prog 16 #[.pointer (some ⟨r, 0, none⟩), .int .i64 s] w fun e w' => ∃ v, e = .returned v ∧ w'.ownsRow w.heap.size 22 1 v (onesL (inF F G n s) n).length (u32L (onesL (inF F G n s) n)) ∧ (v = .slice none 0 0 ↔ onesL (inF F G n s) n = []) ∧ Below w.heap.size w w' := by
  have hn2 : n ≤ 8192 := by
    obtain ⟨gu, bu, cu, gn, bn, cn, U, X, hR, hF, hG⟩ := h
    exact hR.x.n2
  refine rlist_gen _ s (onesL (inF F G n s) n) (by
    unfold onesL
    exact Nat.le_trans (List.length_filter_le _ _) (by rw [List.length_range]; exact hn2)) w h0 fun W hW hlt => ?_
  refine (rin_any (h.below hW) s).mono ?_
  rintro e w' ⟨mv, rfl, hM, hb⟩
  rcases hM with ⟨rfl, h00⟩ | ⟨g, b, c, V, rfl, hM, hV⟩
  · refine ⟨.pointer none, fun _ => -1, rfl, rfl, fun V Bq _ _ U _ p => nnext p U, ?_, hb⟩
    have : onesL (inF F G n s) n = [] := by
      unfold onesL
      rw [List.filter_eq_nil_iff]
      intro x _
      rw [h00]
      simp
    rw [this]
    rfl
  · refine ⟨_, _, rfl, rfl, fun Y Bq hY hle => ?_, steps_ones (inF F G n s) n hn2, hb⟩
    have hnx : (fun p => nxt (inF F G n s) true n (fromN p)) = fun p => nxt (bitF V) true n (fromN p) := by
      funext p
      exact (nxt_congr (fun q _ => hV q) true _).symm
    rw [hnx]
    have hgl := hM.glt
    have hgb := hM.gB
    have hbl := hM.blt
    have hTY : TabAt Y := ((hT.below h0 hW).below (Nat.lt_of_lt_of_le h0 hW.size) hb).below (Nat.lt_of_lt_of_le h0 (Nat.le_trans hW.size hb.size)) hY
    exact nexts_map (hM.below hY) hTY fun Z hZ => ⟨hZ.block _ (by omega) (by omega), hZ.block _ (by omega) (by omega), hZ.block _ (by omega) (by omega)⟩
end
end Go.Proofs.YtkpcgijdokhjkaaDoor

namespace Go.Proofs.YtkpcgijdokhjkaaDoor
open Go Go.RowKit
set_option linter.unusedVariables false
set_option linter.unusedSimpArgs false
section
variable {w w' : World} {P : Nat → Prop} {r n gu bu cu gn bn cn : Nat} {U X : Nat → Nat} {F G : Nat → Bool}
set_option maxHeartbeats 4000000 in
theorem rcopy_rm (h : RM w P r n gu bu cu gn bn cn U X) : Calls Tryd.prog 19 #[.pointer (some ⟨r, 0, none⟩)] w fun e w' => ∃ r' g1 b1 c1 g2 b2 c2, e = .returned (.pointer (some ⟨r', 0, none⟩)) ∧ RM w' (fun k => w.heap.size ≤ k) r' n g1 b1 c1 g2 b2 c2 U X ∧ Below w.heap.size w w' := by
  have c0 := h.c0
  go_enter Tryd.func19, Tryd.ntmps19
  go_wp2_with fail
  have S0 : w.drew.cell? ⟨r, 0, none⟩ = some (.pointer (some ⟨gu, 0, none⟩)) ∧ w.drew.cell? ⟨r, 1, none⟩ = some (.pointer (some ⟨gn, 0, none⟩)) ∧ RM w.drew P r n gu bu cu gn bn cn U X ∧ Below w.heap.size w w.drew := ⟨h.c0, h.c1, h.dN 1, (Below.refl _ _).drew⟩
  have HZ : Hid (bitF U 0 = false ∧ bitF X 0 = false ∧ 16 ≤ n) := ⟨h.z.1, h.z.2, h.n16⟩
  clear h c0
  refine wp_region_partsS (fun V => V.cell? ⟨r, 0, none⟩ = some (.pointer (some ⟨gu, 0, none⟩)) ∧ V.cell? ⟨r, 1, none⟩ = some (.pointer (some ⟨gn, 0, none⟩)) ∧ RM V P r n gu bu cu gn bn cn U X ∧ Below w.heap.size w V) [([0, 5], 1, true), ([], 2, true), ([], 3, true), ([], 6, true), ([], 7, true), ([], 8, true), ([], 4, false), ([], 9, false), ([], 10, false), ([], 11, false)] [12] [] (by kernel_rfl) (by kernel_rfl) S0 (partsI_yield ?_)
  simp only [List.cons_append, List.nil_append, List.append_nil, List.filterMap_cons, List.filterMap_nil, List.getElem?_toArray, List.getElem?_cons_zero, List.getElem?_cons_succ]
  go_wp2_with fail
  refine ⟨rfl, _, .pointer (some ⟨r, 0, none⟩), rfl, Or.inl ⟨by rfl, fun W hW => by go_simp⟩, partsI_yield ?_⟩
  simp only [Act.put, List.setIfInBounds_toArray, List.set_cons_zero, List.set_cons_succ]
  simp only [List.cons_append, List.nil_append, List.append_nil, List.filterMap_cons, List.filterMap_nil, List.getElem?_toArray, List.getElem?_cons_zero, List.getElem?_cons_succ]
  go_wp2_with fail
  refine ⟨rfl, _, .pointer (some ⟨r, 0, none⟩), rfl, Or.inl ⟨by rfl, fun W hW => by go_simp⟩, partsI_yield ?_⟩
  simp only [Act.put, List.setIfInBounds_toArray, List.set_cons_zero, List.set_cons_succ]
  simp only [List.cons_append, List.nil_append, List.append_nil, List.filterMap_cons, List.filterMap_nil, List.getElem?_toArray, List.getElem?_cons_zero, List.getElem?_cons_succ]
  go_wp2_with fail
  refine ⟨rfl, _, .pointer (some ⟨gu, 0, none⟩), rfl, Or.inl ⟨by rfl, fun W hW => by have c0 := hW.1; go_simp⟩, partsI_yield ?_⟩
  simp only [Act.put, List.setIfInBounds_toArray, List.set_cons_zero, List.set_cons_succ]
  simp only [List.cons_append, List.nil_append, List.append_nil, List.filterMap_cons, List.filterMap_nil, List.getElem?_toArray, List.getElem?_cons_zero, List.getElem?_cons_succ]
  go_wp2_with fail
  refine ⟨rfl, _, .pointer (some ⟨r, 0, none⟩), rfl, Or.inl ⟨by rfl, fun W hW => by go_simp⟩, partsI_yield ?_⟩
  simp only [Act.put, List.setIfInBounds_toArray, List.set_cons_zero, List.set_cons_succ]
  simp only [List.cons_append, List.nil_append, List.append_nil, List.filterMap_cons, List.filterMap_nil, List.getElem?_toArray, List.getElem?_cons_zero, List.getElem?_cons_succ]
  go_wp2_with fail
  refine ⟨rfl, _, .pointer (some ⟨r, 1, none⟩), rfl, Or.inl ⟨by rfl, fun W hW => by go_simp⟩, partsI_yield ?_⟩
  simp only [Act.put, List.setIfInBounds_toArray, List.set_cons_zero, List.set_cons_succ]
  simp only [List.cons_append, List.nil_append, List.append_nil, List.filterMap_cons, List.filterMap_nil, List.getElem?_toArray, List.getElem?_cons_zero, List.getElem?_cons_succ]
  go_wp2_with fail
  refine ⟨rfl, _, .pointer (some ⟨gn, 0, none⟩), rfl, Or.inl ⟨by rfl, fun W hW => by have c1 := hW.2.1; go_simp⟩, partsI_force ?_⟩
  simp only [Act.put, List.setIfInBounds_toArray, List.set_cons_zero, List.set_cons_succ]
  simp only [List.cons_append, List.nil_append, List.append_nil, List.filterMap_cons, List.filterMap_nil, List.getElem?_toArray, List.getElem?_cons_zero, List.getElem?_cons_succ]
  go_wp2_with fail
  refine (bclone_any _ S0.2.2.1.u).mono ?_
  rintro e w2 ⟨g1, b1, c1, rfl, hM1, hb1⟩
  have S1 : w2.cell? ⟨r, 0, none⟩ = some (.pointer (some ⟨gu, 0, none⟩)) ∧ w2.cell? ⟨r, 1, none⟩ = some (.pointer (some ⟨gn, 0, none⟩)) ∧ RM w2 P r n gu bu cu gn bn cn U X ∧ Below w.heap.size w w2 := ⟨(S0.2.2.1.below hb1).c0, (S0.2.2.1.below hb1).c1, S0.2.2.1.below hb1, S0.2.2.2.trans (hb1.mono S0.2.2.2.size)⟩
  have HM1 : Hid (BM w2 w.drew.heap.size g1 n b1 c1 U) := hM1
  clear hM1
  go_wp2_with fail
  refine ⟨rfl, S1, partsI_force ?_⟩
  simp only [List.cons_append, List.nil_append, List.append_nil, List.filterMap_cons, List.filterMap_nil, List.getElem?_toArray, List.getElem?_cons_zero, List.getElem?_cons_succ]
  go_wp2_with fail
  refine (bclone_any _ S1.2.2.1.x).mono ?_
  rintro e w3 ⟨g2, b2, c2, rfl, hM2, hb2⟩
  have S2 : w3.cell? ⟨r, 0, none⟩ = some (.pointer (some ⟨gu, 0, none⟩)) ∧ w3.cell? ⟨r, 1, none⟩ = some (.pointer (some ⟨gn, 0, none⟩)) ∧ RM w3 P r n gu bu cu gn bn cn U X ∧ Below w.heap.size w w3 := ⟨(S1.2.2.1.below hb2).c0, (S1.2.2.1.below hb2).c1, S1.2.2.1.below hb2, S1.2.2.2.trans (hb2.mono S1.2.2.2.size)⟩
  have HM2 : Hid (BM w3 w2.heap.size g2 n b2 c2 X ∧ BM w3 w.drew.heap.size g1 n b1 c1 U ∧ g1 < w2.heap.size ∧ b1 < w2.heap.size) := ⟨hM2, HM1.out.below hb2, HM1.out.glt, HM1.out.blt.2⟩
  have hs2 := hb1.size
  clear hM2
  go_wp2_with fail
  refine ⟨rfl, S2, partsI_force ?_⟩
  simp only [List.cons_append, List.nil_append, List.append_nil, List.filterMap_cons, List.filterMap_nil, List.getElem?_toArray, List.getElem?_cons_zero, List.getElem?_cons_succ]
  go_wp2_with fail
  refine ⟨rfl, S2, partsI_force ?_⟩
  simp only [List.cons_append, List.nil_append, List.append_nil, List.filterMap_cons, List.filterMap_nil, List.getElem?_toArray, List.getElem?_cons_zero, List.getElem?_cons_succ]
  go_wp2_with fail
  refine ⟨rfl, ⟨(S2.2.2.1.below (below_new1 _ _)).c0, (S2.2.2.1.below (below_new1 _ _)).c1, S2.2.2.1.below (below_new1 _ _), S2.2.2.2.trans ((below_new1 _ _).mono S2.2.2.2.size)⟩, partsI_last ?_⟩
  simp only [List.cons_append, List.nil_append, List.append_nil, List.filterMap_cons, List.filterMap_nil, List.getElem?_toArray, List.getElem?_cons_zero, List.getElem?_cons_succ]
  go_wp2_with fail
  refine ⟨rfl, ?_⟩
  go_wp2_with fail
  go_ret
  obtain ⟨hM2, hM1, hg1, hb1'⟩ := HM2.out
  have q1 : w.heap.size ≤ g1 := hM1.gB
  have q2 : w.heap.size ≤ b1 := hM1.blt.1
  have q3 := hM2.gB
  have q4 := hM2.blt
  have q5 := hM2.glt
  have q6 := hM2.ne
  have q7 := hM1.ne
  have q8 : w.heap.size ≤ w2.heap.size := hs2
  have hba : Below w3.heap.size w3 (w3.alloc (.cells #[.pointer (some ⟨g1, 0, none⟩), .pointer (some ⟨g2, 0, none⟩)] 81)) := below_new1 _ _
  exact ⟨w3.heap.size, g1, b1, c1, g2, b2, c2, rfl, ⟨Blk.new _ _ _, (hM1.mono (Nat.zero_le _)).below hba, (hM2.mono (Nat.zero_le _)).below hba, ⟨by show w.heap.size ≤ _; omega, q1, q2, by show w.heap.size ≤ _; omega, by show w.heap.size ≤ _; omega⟩, ⟨by omega, by omega, by omega, by omega, by omega, by omega, by omega, by omega⟩, ⟨HZ.out.1, HZ.out.2.1⟩, HZ.out.2.2⟩, S2.2.2.2.trans (hba.mono S2.2.2.2.size)⟩
theorem rcopy_any (h : RoomIs w P r n F G) : Calls Tryd.prog 19 #[.pointer (some ⟨r, 0, none⟩)] w fun e w' => ∃ r', e = .returned (.pointer (some ⟨r', 0, none⟩)) ∧ RoomIs w' (fun k => w.heap.size ≤ k) r' n F G ∧ Below w.heap.size w w' := by
  obtain ⟨gu, bu, cu, gn, bn, cn, U, X, hR, hF, hG⟩ := h
  refine (rcopy_rm hR).mono ?_
  rintro e w' ⟨r', g1, b1, c1, g2, b2, c2, rfl, hR', hb⟩
  exact ⟨r', rfl, ⟨g1, b1, c1, g2, b2, c2, U, X, hR', hF, hG⟩, hb⟩
end
end Go.Proofs.YtkpcgijdokhjkaaDoor

namespace Go.Proofs.YtkpcgijdokhjkaaDoor
open Go Go.RowKit
set_option linter.unusedVariables false
set_option linter.unusedSimpArgs false
def stL (F : Nat → Int) (n : Nat) : List Value := (List.range n).map fun i => Value.int .i64 (F i)
theorem stL_at (F : Nat → Int) (n i : Nat) (h : i < n) : (stL F n)[i]? = some (.int .i64 (F i)) := by simp [stL, h]
theorem stL_len (F : Nat → Int) (n : Nat) : (stL F n).length = n := by simp [stL]
theorem stL_congr {F G : Nat → Int} {n : Nat} (h : ∀ i, i < n → F i = G i) : stL F n = stL G n := List.map_congr_left fun i hi => by rw [h i (List.mem_range.1 hi)]
theorem stL_set (F : Nat → Int) (n i : Nat) (x : Int) : (stL F n).set i (.int .i64 x) = stL (fun j => if j = i then x else F j) n := by
  apply List.ext_getElem?
  intro j
  rw [List.getElem?_set]
  by_cases hj : j < n
  · rw [stL_at (fun j => if j = i then x else F j) _ _ hj]
    by_cases he : i = j
    · subst he
      rw [if_pos rfl, stL_len, if_pos hj]
      simp
    · rw [if_neg he, stL_at _ _ _ hj]
      simp [Ne.symm he]
  · have e1 : (stL F n)[j]? = none := List.getElem?_eq_none (by rw [stL_len]; omega)
    have e2 : (stL (fun j => if j = i then x else F j) n)[j]? = none := List.getElem?_eq_none (by rw [stL_len]; omega)
    rw [e1, e2, stL_len]
    split
    · rw [if_neg (by omega)]
    · rfl
/-- a list of n states in block k -/
structure SA (w : World) (B k n c : Nat) (F : Nat → Int) : Prop where
  n2 : n ≤ 8192
  row : w.ownsRow B 3 1 (.slice (some ⟨k, 0, none⟩) n c) n (stL F n)
section
variable {w w' : World} {B k n c : Nat} {F : Nat → Int}
theorem SA.lt (h : SA w B k n c F) : B ≤ k ∧ k < w.heap.size := h.row.lt k rfl
theorem SA.keep (h : SA w B k n c F) (hk : w'.heap[k]? = w.heap[k]?) : SA w' B k n c F := ⟨h.n2, kown_kept h.row fun j _ hv => by
    have : j = k := by simp [Value.ownBlock] at hv; omega
    subst this
    exact hk⟩
theorem SA.below (h : SA w B k n c F) (hb : Below w.heap.size w w') : SA w' B k n c F := h.keep (hb.block k h.lt.2)
theorem SA.only {b : Nat} (h : SA w B k n c F) (ho : Only b w w') (hne : k ≠ b) : SA w' B k n c F := h.keep (ho.block k h.lt.2 hne)
theorem SA.dN (h : SA w B k n c F) (m : Nat) : SA (w.drewN m) B k n c F := h.keep rfl
theorem SA.mono {B' : Nat} (h : SA w B k n c F) (hB : B' ≤ B) : SA w B' k n c F := ⟨h.n2, kown_mono h.row hB⟩
theorem SA.congr {G : Nat → Int} (h : SA w B k n c F) (he : ∀ i, i < n → F i = G i) : SA w B k n c G := ⟨h.n2, by rw [← stL_congr he]; exact h.row⟩
theorem SA.at (h : SA w B k n c F) {i : Nat} (hi : i < n) : w.cell? ⟨k, i, none⟩ = some (.int .i64 (F i)) := by rw [h.row.cellAt i (by omega), stL_at _ _ _ hi]
theorem SA.frozen (h : SA w B k n c F) (i : Nat) : w.frozen? ⟨k, i, none⟩ = false := h.row.frozenAt i
theorem SA.put (h : SA w B k n c F) (i : Nat) (x : Int) : SA (w.setCell ⟨k, i, none⟩ (.int .i64 x)) B k n c (fun j => if j = i then x else F j) := ⟨h.n2, by
  have := (h.row.stored i (.int .i64 x)).1
  rw [stL_set] at this
  exact this⟩
end
theorem stL_snoc (f : Nat → Int) (n : Nat) : stL f (n + 1) = stL f n ++ [Value.int .i64 (f n)] := by simp [stL, List.range_succ]
theorem infoInt : (Tryd.prog.info? 3).map (fun i => (i.zero, i.size, i.bytes)) = some (some (.int .i64 0), 1, 8) := by kernel_rfl
set_option maxHeartbeats 4000000 in
theorem sameU_any (m d d' : Nat) (hm : m ≤ 9223372036854775807) (a a' : Option Addr) (A A' : Nat → Nat) (w : World) (h : IsU32s w a m A) (h' : IsU32s w a' m A') : Calls Tryd.prog 31 #[.slice a m d, .slice a' m d'] w fun e w' => e = .returned (.bool (decide (∀ i, i < m → A i = A' i))) ∧ Below w.heap.size w w' := by
  have HI : Hid (∀ V, Below w.heap.size w V → IsU32s V a m A ∧ IsU32s V a' m A') := fun V hV => ⟨h.below hV, h'.below hV⟩
  clear h h'
  go_enter Tryd.func31, Tryd.ntmps31
  go_wp2_with fail
  go_loopw [13] (fun t wr => Hid (∃ k : Nat, k ≤ m ∧ t = .int .i64 (k : Int) ∧ (∀ i, i < k → A i = A' i) ∧ Below w.heap.size w wr)) (fun t _ => m - (intOf t).toNat)
  case atStart => exact ⟨0, by omega, rfl, fun i hi => by omega, Below.refl _ _⟩
  case round =>
    obtain ⟨k, hk, rfl, hall, hb⟩ := Hid.out hrel
    clear hrel
    by_cases hlt : k < m
    · obtain ⟨u1, b1, o1, rfl, l1, r1⟩ := (HI.out wr hb).1 k hlt
      obtain ⟨u2, b2, o2, rfl, l2, r2⟩ := (HI.out wr hb).2 k hlt
      have k0 : (0 : Int) ≤ (k : Int) := by omega
      have k1 : (k : Int) < (m : Int) := by omega
      have HJ : Hid (k < m ∧ m ≤ 9223372036854775807 ∧ (∀ i, i < k → A i = A' i) ∧ Below w.heap.size w wr) := ⟨hlt, hm, hall, hb⟩
      clear hall hb HI
      by_cases he : A k = A' k
      · have HE : Hid (A k = A' k) := he
        rw [← he] at r2
        clear he
        generalize A k = x at r1 r2
        go_wp2_with fail
        go_quiet (fail)
        have HB : Hid (Below w.heap.size w (wr.drewN nq)) := below_dN HJ.out.2.2.2 nq
        generalize wr.drewN nq = w2 at *
        go_wp2_with fail
        go_roundw
        case rel =>
          refine ⟨k + 1, HJ.out.1, by first | rfl | go_num | simp, fun i hi => ?_, HB.out⟩
          by_cases e : i = k
          · rw [e]; exact HE.out
          · exact HJ.out.2.2.1 i (by omega)
        case measure => simp [intOf]; have := HJ.out; omega
      · have HE : Hid (¬ A k = A' k) := he
        have hei : ¬ ((A k : Int) = (A' k : Int)) := by omega
        clear he
        generalize (A k : Int) = x at r1 hei
        generalize (A' k : Int) = y at r2 hei
        go_wp2_with fail
        go_quiet (fail)
        have HB : Hid (Below w.heap.size w (wr.drewN nq)) := below_dN HJ.out.2.2.2 nq
        generalize wr.drewN nq = w2 at *
        go_wp2_with fail
        go_ret
        exact ⟨by rw [decide_eq_false (fun hx => HE.out (hx k HJ.out.1))]; rfl, HB.out⟩
    · obtain rfl : k = m := by omega
      have j1 : ¬ ((k : Int) < (k : Int)) := by omega
      have HA : Hid (∀ i, i < k → A i = A' i) := hall
      clear hall
      go_wp2_with fail
      go_ret
      exact ⟨by rw [decide_eq_true HA.out]; rfl, hb⟩
/-- the states of a room of n blocks, some of which are used -/
def newS (A : Nat → Nat) (k : Nat) (p : Nat) : Int := if p = 0 then 0 else if memA A k p then 2 else 1
theorem rref_no (p : Int) (hp : p < 16 ∨ 8192 < p) (v : Value) (w : World) : Calls Tryd.prog 30 #[.int .i64 p, v] w fun e w' => e = .returned (.tuple #[.slice none 0 0, .int .i64 0, .int .i64 120]) ∧ w' = w := by
  by_cases h : p < 16
  · go_enter Tryd.func30, Tryd.ntmps30
    go_wp2_with fail
    go_ret3
    exact ⟨rfl, rfl⟩
  · have h2 : 8192 < p := by omega
    go_enter Tryd.func30, Tryd.ntmps30
    go_wp2_with fail
    go_ret3
    exact ⟨rfl, rfl⟩
end Go.Proofs.YtkpcgijdokhjkaaDoor

namespace Go.Proofs.YtkpcgijdokhjkaaDoor
open Go Go.RowKit
set_option linter.unusedVariables false
set_option linter.unusedSimpArgs false
def slLen : Value → Nat
  | .slice _ n _ => n
  | _ => 0
def freshS (p : Nat) : Int := if p = 0 then 0 else 1
theorem newS_put (A : Nat → Nat) (j : Nat) (hz : A j ≠ 0) : (fun q => if q = A j then (2 : Int) else newS A j q) = newS A (j + 1) := by
  funext q
  unfold newS
  by_cases h : q = A j
  · subst h
    rw [if_pos rfl, if_neg hz]
    show (2 : Int) = if (if A j = A j then true else memA A j (A j)) = true then 2 else 1
    rw [if_pos rfl]
    rfl
  · rw [if_neg h]
    by_cases h0 : q = 0
    · rw [if_pos h0, if_pos h0]
    · rw [if_neg h0, if_neg h0]
      show (if memA A j q = true then (2 : Int) else 1) = if (if q = A j then true else memA A j q) = true then 2 else 1
      rw [if_neg h]
section
variable {n : Nat}
set_option maxRecDepth 100000 in
set_option maxHeartbeats 4000000 in
theorem rref_any (h1 : 16 ≤ n) (h2 : n ≤ 8192) (a : Option Addr) (N cc : Nat) (hN : N ≤ 9223372036854775807) (A : Nat → Nat) (w : World) (hD : IsU32s w a N A) : Calls Tryd.prog 30 #[.int .i64 (n : Int), .slice a N cc] w fun e w' =>
    ((∃ k c, e = .returned (.tuple #[.slice (some ⟨k, 0, none⟩) n c, .int .i64 0, .int .i64 0]) ∧ GoodA A n N ∧ SA w' w.heap.size k n c (newS A N)) ∨
    (∃ m : Nat, m < N ∧ e = .returned (.tuple #[.slice none 0 0, .int .i64 (m : Int), .int .i64 121]) ∧ GoodA A n m ∧ ¬ OkAt A n m)) ∧ Below w.heap.size w w' := by
  obtain ⟨i0, hi, hz0, hz1, hz2⟩ := info_parts infoInt
  have i1 : ¬ ((n : Int) < 16) := by omega
  have i2 : ¬ ((8192 : Int) < (n : Int)) := by omega
  have HD : Hid (∀ V : World, Below w.heap.size w V → IsU32s V a N A) := fun V hV => hD.below hV
  have hb0 : Below w.heap.size w (w.alloc (.cells #[.int .i64 0] 3)) := below_new1 _ _
  have HO0 : Hid ((w.alloc (.cells #[.int .i64 0] 3)).ownsRow w.heap.size 3 1 (.slice (some ⟨w.heap.size, 0, none⟩) 1 1) 1 (stL freshS 1)) := ⟨rfl, .inr ⟨w.heap.size, 1, #[.int .i64 0], rfl, Nat.le_refl _, World.alloc_heap_new w _, by decide, by decide, rfl, rfl⟩⟩
  clear hD
  go_enter Tryd.func30, Tryd.ntmps30
  go_wp2_with fail
  generalize w.alloc (.cells #[.int .i64 0] 3) = w1 at *
  go_loopw [7] (fun v wr => Hid (∃ (k cap g : Nat), 1 ≤ k ∧ k ≤ n ∧ v = .slice (some ⟨g, 0, none⟩) k cap ∧ wr.ownsRow w.heap.size 3 1 v k (stL freshS k) ∧ Below w.heap.size w wr)) (fun v _ => n - slLen v)
  case atStart => exact ⟨1, 1, w.heap.size, by omega, by omega, rfl, HO0.out, hb0⟩
  case round =>
    obtain ⟨k, cap, g, hk1, hk, rfl, hown, hb⟩ := Hid.out hrel
    clear hrel HO0 hb0
    by_cases hlt : k < n
    · have j1 : (k : Int) < (n : Int) := by omega
      have hsz := hb.size
      have HOWN : Hid ((wr.alloc (.cells #[.int .i64 1] 3)).ownsRow w.heap.size 3 1 (.slice (some ⟨g, 0, none⟩) k cap) k (stL freshS k)) := hown.alloc _
      have HV2 := (hown.alloc (.cells #[.int .i64 1] 3)).lt
      have HJ : Hid (1 ≤ k ∧ k < n ∧ n ≤ 8192) := ⟨hk1, hlt, h2⟩
      have hml : k + 1 ≤ maxLen := Nat.le_trans (Nat.le_trans (Nat.succ_le_of_lt hlt) h2) (by decide)
      have hbA : Below w.heap.size w (wr.alloc (.cells #[.int .i64 1] 3)) := hb.alloc hsz _
      clear hown hb HD
      go_wp2_with (first
        | (at_builtin; refine wpList_append_own _ rfl _ _ 60 rfl w.heap.size 3 i0 (.int .i64 0) 1 8 Tryd.underlying60 hi hz0 hz1 hz2 rfl (by decide) _ _ _ rfl HOWN.out ⟨wr.heap.size, 0, none⟩ 1 1 [.int .i64 1] rfl rfl (cell_one_new _ _ _) (by simp [Value.oneCell']) hml (by omega) (by simp; omega) ?_)
        | go_in)
      intro v' w2 hown' hgrow _
      have hb2 : Below w.heap.size w w2 := hbA.grown hgrow (by simp; omega) (fun q hq => (HV2 q hq).1)
      have hst : stL freshS k ++ [Value.int .i64 1] = stL freshS (k + 1) := by
        rw [stL_snoc]
        have : freshS k = 1 := by unfold freshS; rw [if_neg (by have := HJ.out; omega)]
        rw [this]
      rw [hst] at hown'
      obtain ⟨g3, cap3, rfl, hg3, hg3'⟩ := kown_form hown' (Nat.succ_pos k)
      have HE : Hid (_ ∧ _) := ⟨hown', hb2⟩
      clear HOWN HV2 hgrow hbA hown' hb2 hst
      go_wp2_with fail
      go_roundw
      case rel => exact ⟨k + 1, cap3, g3, by omega, HJ.out.2.1, rfl, HE.out.1, HE.out.2⟩
      case measure => simp [slLen]; have := HJ.out; omega
    · obtain rfl : k = n := by omega
      have j1 : ¬ ((k : Int) < (k : Int)) := by omega
      have HE : Hid (SA wr w.heap.size g k cap (newS A 0) ∧ Below w.heap.size w wr) := ⟨⟨h2, hown⟩, hb⟩
      clear hown hb
      go_wp2_with fail
      have HW : Hid (w.heap.size ≤ w.heap.size) := Nat.le_refl _
      go_loopw [26] (fun t wq => Hid (∃ j : Nat, j ≤ N ∧ t = .int .i64 (j : Int) ∧ GoodA A k j ∧ SA wq w.heap.size g k cap (newS A j) ∧ Below w.heap.size w wq)) (fun t _ => N - (intOf t).toNat)
      case atStart => exact ⟨0, by omega, rfl, fun i hi => by omega, HE.out.1, HE.out.2⟩
      case round =>
        obtain ⟨j, hj, rfl, hal, hS, hb⟩ := Hid.out hrel
        clear hrel HE
        by_cases hlt2 : j < N
        · obtain ⟨hau, ab, ao, rfl, hab, cw⟩ := HD.out wr hb j hlt2
          have j0 : (0 : Int) ≤ (j : Int) := by omega
          have j1 : (j : Int) < (N : Int) := by omega
          have HJ : Hid (j < N ∧ N ≤ 9223372036854775807) := ⟨hlt2, hN⟩
          by_cases hz : A j = 0
          · rw [hz] at cw
            have HBAD : Hid (¬ OkAt A k j) := fun h => h.1 hz
            have HF : Hid (_ ∧ _) := ⟨hal, hb⟩
            clear hS hal hb HD
            go_wp2_with fail
            go_ret3
            exact ⟨.inr ⟨j, HJ.out.1, rfl, HF.out.1, HBAD.out⟩, HF.out.2⟩
          · have hzi : ¬ ((A j : Int) = 0) := by omega
            by_cases hge : k ≤ A j
            · have hgi : (k : Int) ≤ (A j : Int) := by omega
              have HBAD : Hid (¬ OkAt A k j) := fun h => by have := h.2.1; omega
              have HF : Hid (_ ∧ _) := ⟨hal, hb⟩
              clear hS hal hb HD
              generalize A j = x at cw hzi hgi hau
              go_wp2_with fail
              go_ret3
              exact ⟨.inr ⟨j, HJ.out.1, rfl, HF.out.1, HBAD.out⟩, HF.out.2⟩
            · have hgi : ¬ ((k : Int) ≤ (A j : Int)) := by omega
              have hgl : (A j : Int) < (k : Int) := by omega
              have cs := hS.at (i := A j) (by omega)
              have fs := hS.frozen (A j)
              cases hm : memA A j (A j) with
              | true =>
                have hv : newS A j (A j) = 2 := by unfold newS; rw [if_neg hz, if_pos hm]
                rw [hv] at cs
                have HBAD : Hid (¬ OkAt A k j) := fun h => by have := h.2.2; rw [hm] at this; cases this
                have HF : Hid (_ ∧ _) := ⟨hal, hb⟩
                clear hS hal hb HD fs hv
                generalize A j = x at cw hzi hgi hau cs hgl
                go_wp2_with fail
                go_ret3
                exact ⟨.inr ⟨j, HJ.out.1, rfl, HF.out.1, HBAD.out⟩, HF.out.2⟩
              | false =>
                have hv : newS A j (A j) = 1 := by unfold newS; rw [if_neg hz, if_neg (by rw [hm]; decide)]
                rw [hv] at cs
                have HF : Hid (GoodA A k (j + 1) ∧ SA (wr.setCell ⟨g, A j, none⟩ (.int .i64 2)) w.heap.size g k cap (newS A (j + 1)) ∧ Below w.heap.size w (wr.setCell ⟨g, A j, none⟩ (.int .i64 2))) := ⟨hal.succ ⟨hz, by omega, hm⟩, by rw [← newS_put A j hz]; exact hS.put (A j) 2, hb.setCell (p := ⟨g, A j, none⟩) hS.lt.1 _⟩
                clear hS hal hb HD hv hm
                generalize A j = x at cw hzi hgi hau cs fs hgl HF
                go_wp2_with fail
                generalize wr.setCell ⟨g, x, none⟩ (.int .i64 2) = w5 at *
                go_roundw
                case rel => exact ⟨j + 1, HJ.out.1, by first | rfl | go_num | simp, HF.out.1, HF.out.2.1, HF.out.2.2⟩
                case measure => simp [intOf]; have := HJ.out; omega
        · obtain rfl : j = N := by omega
          have j1 : ¬ ((j : Int) < (j : Int)) := by omega
          have HF : Hid (_ ∧ _ ∧ _) := ⟨hal, hS, hb⟩
          clear hS hal hb HD
          go_wp2_with fail
          go_ret3
          exact ⟨.inl ⟨g, cap, rfl, HF.out.1, HF.out.2.1⟩, HF.out.2.2⟩
end
end Go.Proofs.YtkpcgijdokhjkaaDoor

namespace Go.Proofs.YtkpcgijdokhjkaaDoor

def dig (x i : Nat) : Nat := x / 256 ^ i % 256
theorem dig_lt (x i : Nat) : dig x i < 256 := Nat.mod_lt _ (by decide)
def St.of (f : Nat → Nat) : St := ⟨f 0, f 1, f 2, f 3, f 4, f 5, f 6, f 7, f 8, f 9, f 10, f 11, f 12, f 13, f 14, f 15⟩
theorem St.of_ok (f : Nat → Nat) (h : ∀ i, i < 16 → f i < 4294967296) : (St.of f).ok :=
  ⟨h 0 (by decide), h 1 (by decide), h 2 (by decide), h 3 (by decide), h 4 (by decide), h 5 (by decide), h 6 (by decide), h 7 (by decide), h 8 (by decide), h 9 (by decide), h 10 (by decide), h 11 (by decide), h 12 (by decide), h 13 (by decide), h 14 (by decide), h 15 (by decide)⟩
end Go.Proofs.YtkpcgijdokhjkaaDoor

namespace Go.Proofs.YtkpcgijdokhjkaaDoor
open Go.RowKit

set_option maxHeartbeats 1000000 in
theorem bytes32_any (x : Nat) (w : World) :
    Calls Tryd.prog 84 #[.int .u32 (x : Int)] w fun e w' => e = .returned (.agg #[.int .u8 ((x % 256 : Nat) : Int), .int .u8 ((x / 256 % 256 : Nat) : Int), .int .u8 ((x / 65536 % 256 : Nat) : Int), .int .u8 ((x / 16777216 % 256 : Nat) : Int)]) ∧ Below w.heap.size w w' := by
  go_enter Tryd.func84, Tryd.ntmps84
  go_wp2
  go_rounds 5
  go_returns
  refine ⟨by simp, ?_⟩
  go_grown

set_option maxHeartbeats 1000000 in
theorem bytes64_any (x : Nat) (w : World) :
    Calls Tryd.prog 85 #[.int .u64 (x : Int)] w fun e w' => e = .returned (.agg #[.int .u8 ((x % 256 : Nat) : Int), .int .u8 ((x / 256 % 256 : Nat) : Int), .int .u8 ((x / 65536 % 256 : Nat) : Int), .int .u8 ((x / 16777216 % 256 : Nat) : Int), .int .u8 ((x / 4294967296 % 256 : Nat) : Int), .int .u8 ((x / 1099511627776 % 256 : Nat) : Int), .int .u8 ((x / 281474976710656 % 256 : Nat) : Int), .int .u8 ((x / 72057594037927936 % 256 : Nat) : Int)]) ∧ Below w.heap.size w w' := by
  go_enter Tryd.func85, Tryd.ntmps85
  go_wp2
  go_rounds 9
  go_returns
  refine ⟨by simp, ?_⟩
  go_grown

theorem va4 (f : Nat → Value) : va 4 f = #[f 0, f 1, f 2, f 3] := rfl
theorem va8 (f : Nat → Value) : va 8 f = #[f 0, f 1, f 2, f 3, f 4, f 5, f 6, f 7] := rfl
theorem bytes32_va (x : Nat) (w : World) :
    Calls Tryd.prog 84 #[.int .u32 (x : Int)] w fun e w' => e = .returned (.agg (va 4 (iv .u8 (dig x)))) ∧ Below w.heap.size w w' := by
  refine (bytes32_any x w).mono ?_
  rintro e w' ⟨rfl, hb⟩
  refine ⟨?_, hb⟩
  simp [va4, iv, dig]
theorem bytes64_va (x : Nat) (w : World) :
    Calls Tryd.prog 85 #[.int .u64 (x : Int)] w fun e w' => e = .returned (.agg (va 8 (iv .u8 (dig x)))) ∧ Below w.heap.size w w' := by
  refine (bytes64_any x w).mono ?_
  rintro e w' ⟨rfl, hb⟩
  refine ⟨?_, hb⟩
  simp [va8, iv, dig]
end Go.Proofs.YtkpcgijdokhjkaaDoor
