/- Two texts, a path as arguments, opened: no condition but that they are ones. -/
import Derived.Test.YtggacdlnpakehaaHPaForm
import Derived.Test.YtggacdlnpakehaaRows
import Derived.WalkKit
import Derived.ProofKit
import Derived.OpenShut
import Derived.Carry
import Derived.SliceStrings
import Derived.Lib.SmallJoins
import Derived.SizedLaws

namespace Go.Proofs.Ytggacdlnpakehaa
open Go.ChangeShapes Go.WideShapes Go.ChangeAt Go.RowKit Go.Joins
set_option linter.unusedVariables false
set_option linter.unusedSimpArgs false
set_option maxRecDepth 100000 in
theorem open_two {H : Type} {enc : TypeId × Value → H} {W : World} {r : Reach} {b0 : Nat} {v : Value} {d : DataW H} {p : List MemPlace}
    (hv : Value.okWide Try.prog W r b0 23 v) (h : DataW.Trod enc Try.prog W 0 (fun _ => true) true 23 v d p) (hsz : ∀ n ∈ d.weights Try.prog 23, n ≤ reachBytes) :
    ∃ (s t : ByteArray), v = .agg #[.string s, .string t] ∧ s.size ≤ 140737488351232 ∧ t.size ≤ 140737488351232 := by
  obtain ⟨cs, rfl, hcs⟩ := okWide_struct Try.underlying23 hv
  obtain ⟨fuel, hf⟩ := h
  have hc : Try.prog.cellsOf 23 = 2 := by kernel_rfl
  rw [hc] at hcs
  have hct : Try.prog.cellsOf 9 = 1 := by kernel_rfl
  obtain ⟨xs, k, hk, hxy, _, hxl, hfs⟩ := DataW.trod_struct Try.underlying23 hf
  obtain ⟨l, rfl⟩ : ∃ l : List Value, cs = l.toArray := ⟨cs.toList, by simp⟩
  have hl : l.length = 2 := by simpa using hcs
  match xs, hxl, l, hl with
  | [y0, y1], _, [v0, v1], _ =>
    have g0 := hfs 0 _ rfl
    have g1 := hfs 1 _ rfl
    simp [hct, Value.cells] at g0 g1
    obtain ⟨s, e0, e0', _⟩ := DataW.trod_string Try.underlying9 g0
    obtain ⟨t, e1, e1', _⟩ := DataW.trod_string Try.underlying9 g1
    simp at e0 e1
    subst e0 e1
    have hD : d = .agg [y0.1, y1.1] := by
      have := congrArg Prod.fst hxy
      simpa using this
    have m0 : s.data.toList.length ∈ d.weights Try.prog 23 := by
      rw [hD]
      simp only [DataW.weights, Try.underlying23]
      refine DataW.weights_mem_each (j := 0) (t := 9) (d := y0.1) rfl rfl _ ?_
      rw [e0']
      simp [DataW.weights]
    have m1 : t.data.toList.length ∈ d.weights Try.prog 23 := by
      rw [hD]
      simp only [DataW.weights, Try.underlying23]
      refine DataW.weights_mem_each (j := 1) (t := 9) (d := y1.1) rfl rfl _ ?_
      rw [e1']
      simp [DataW.weights]
    refine ⟨s, t, rfl, ?_, ?_⟩
    · have e : s.size = s.data.toList.length := (Array.length_toList).symm
      rw [e]
      exact hsz _ m0
    · have e : t.size = t.data.toList.length := (Array.length_toList).symm
      rw [e]
      exact hsz _ m1
end Go.Proofs.Ytggacdlnpakehaa
