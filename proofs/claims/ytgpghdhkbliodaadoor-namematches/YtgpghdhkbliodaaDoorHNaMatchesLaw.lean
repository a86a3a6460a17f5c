/- The statement of patterns. -/
import Derived.Test.YtgpghdhkbliodaaDoorHNaMath
import Derived.Test.YtgpghdhkbliodaaDoorHNaRMatch
import Derived.Handy

namespace Go.Proofs.YtgpghdhkbliodaaDoor
set_option maxRecDepth 20000
open Go Go.RowKit Go.Nam
set_option linter.unusedVariables false
set_option linter.unusedSimpArgs false
theorem appS_list (s : ByteArray) (t : ByteArray) : (s ++ t).data.toList = s.data.toList ++ t.data.toList := by
  simp
set_option maxHeartbeats 4000000 in
theorem nameMatchesLaw (P s : ByteArray) (hP : P.size ≤ 140737488355327) (hs : s.size ≤ 140737488355327) (w : World) :
    Calls Tryd.prog 5 #[.string P, .string s] w fun e w' => e = .returned (.bool true) ∧ Below w.heap.size w w' := by
  obtain ⟨mb, hmb⟩ : ∃ mb : Bool, mb = true ↔ Mat P.data.toList s.data.toList := by
    by_cases h : Mat P.data.toList s.data.toList
    · exact ⟨true, by simp [h]⟩
    · exact ⟨false, by simp [h]⟩
  have HA : Hid (∀ w : World, Calls Tryd.prog 11 #[] w fun e w' => e = .returned (.bool true) ∧ Below w.heap.size w w') := awake13_any
  have HM : Hid (∀ w : World, Calls Tryd.prog 19 #[.string P, .string s] w fun e w' => e = .returned (.bool mb) ∧ Below w.heap.size w w') := match_is P s mb hmb (by omega) (by omega)
  have HR : Hid (∀ w : World, Calls Tryd.prog 20 #[.string P, .string s] w fun e w' => e = .returned (.bool mb) ∧ Below w.heap.size w w') := rmatch_any P s mb hmb (by omega) (by omega)
  have H1 : Hid (∀ w : World, Calls Tryd.prog 19 #[.string ⟨#[42]⟩, .string s] w fun e w' => e = .returned (.bool true) ∧ Below w.heap.size w w') := match_is ⟨#[42]⟩ s true (by simp [Mat.all]) (by show 1 ≤ 4611686018427387904; omega) (by omega)
  obtain ⟨st, hst⟩ : ∃ st : ByteArray, s ++ (⟨#[42]⟩ : ByteArray) = st := ⟨_, rfl⟩
  have hsz : st.size = s.size + 1 := by rw [← hst]; exact ByteArray.size_append
  have hms : true = true ↔ Mat st.data.toList s.data.toList := ⟨fun _ => by rw [← hst, appS_list]; exact Mat.self _, fun _ => rfl⟩
  have hsz2 : st.size ≤ 4611686018427387904 := by rw [hsz]; omega
  have H2 : Hid (∀ w : World, Calls Tryd.prog 19 #[.string st, .string s] w fun e w' => e = .returned (.bool true) ∧ Below w.heap.size w w') :=
    match_is st s true hms hsz2 (by omega)
  clear hms hsz2 hsz
  clear hmb
  go_enter Tryd.func5, Tryd.ntmps5
  go_wp2_with fail
  refine (HA.out _).mono ?_
  intro e w2 hw2
  obtain ⟨he2, hw2⟩ := hw2
  subst he2
  go_wp2_with fail
  refine (HM.out _).mono ?_
  intro e w3 hw3
  obtain ⟨he3, hw3⟩ := hw3
  subst he3
  have hb3 : Below w.heap.size w w3 := hw2.trans (hw3.mono hw2.size)
  clear hw2 hw3
  go_wp2_with fail
  refine (HR.out _).mono ?_
  intro e w4 hw4
  obtain ⟨he4, hw4⟩ := hw4
  subst he4
  have hb4 : Below w.heap.size w w4 := hb3.trans (hw4.mono hb3.size)
  clear hb3 hw4
  have hbb : (mb == mb) = true := by simp
  go_wp2_with fail
  refine (H1.out _).mono ?_
  intro e w5 hw5
  obtain ⟨he5, hw5⟩ := hw5
  subst he5
  have hb5 : Below w.heap.size w w5 := hb4.trans (hw5.mono hb4.size)
  clear hb4 hw5
  go_wp2_with fail
  refine (H2.out _).mono ?_
  intro e w6 hw6
  obtain ⟨he6, hw6⟩ := hw6
  subst he6
  have HB6 : Hid (Below w.heap.size w w6) := hb5.trans (hw6.mono hb5.size)
  clear hb5 hw6
  go_wp2_with fail
  go_ret
  exact ⟨rfl, HB6.out⟩
end Go.Proofs.YtgpghdhkbliodaaDoor
