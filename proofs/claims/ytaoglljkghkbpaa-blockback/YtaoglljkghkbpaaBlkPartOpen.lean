/- A text at a place as an argument, opened: no condition but that it is one. -/
import Derived.Test.YtaoglljkghkbpaaRows
import Derived.WalkKit
import Derived.ProofKit
import Derived.OpenShut
import Derived.Lib.SmallJoins
import Derived.SizedLaws
namespace Go.Proofs.Ytaoglljkghkbpaa
open Go.ChangeShapes Go.WideShapes Go.ChangeAt Go.RowKit Go.Joins
set_option linter.unusedVariables false

set_option maxRecDepth 100000 in
theorem open_part {H : Type} {enc : TypeId × Value → H} {W : World} {r : Reach} {b0 : Nat} {v : Value} {d : DataW H} {p : List MemPlace}
    (hv : Value.okWide Try.prog W r b0 38 v) (h : DataW.Trod enc Try.prog W 0 (fun _ => true) true 38 v d p) (hsz : ∀ n ∈ d.weights Try.prog 38, n ≤ reachBytes) :
    ∃ (a b : Int) (s : ByteArray) (x y : Int), v = .agg #[.int .i64 a, .int .i64 b, .string s, .int .u32 x, .int .u64 y] ∧ (Lit.int .i64 a).wf = true ∧ (Lit.int .i64 b).wf = true ∧ s.size ≤ 140737488351232 ∧ (Lit.int .u32 x).wf = true ∧ (Lit.int .u64 y).wf = true := by
  obtain ⟨cs, rfl, hcs⟩ := okWide_struct Try.underlying38 hv
  obtain ⟨fuel, hf⟩ := h
  have hc : Try.prog.cellsOf 38 = 5 := by kernel_rfl
  rw [hc] at hcs
  have hci : Try.prog.cellsOf 3 = 1 := by kernel_rfl
  have hct : Try.prog.cellsOf 9 = 1 := by kernel_rfl
  have hc4 : Try.prog.cellsOf 35 = 1 := by kernel_rfl
  have hc8 : Try.prog.cellsOf 36 = 1 := by kernel_rfl
  obtain ⟨xs, k, hk, hxy, _, hxl, hfs⟩ := DataW.trod_struct Try.underlying38 hf
  obtain ⟨l, rfl⟩ : ∃ l : List Value, cs = l.toArray := ⟨cs.toList, by simp⟩
  have hl : l.length = 5 := by simpa using hcs
  match xs, hxl, l, hl with
  | [y0, y1, y2, y3, y4], _, [v0, v1, v2, v3, v4], _ =>
    have g0 := hfs 0 _ rfl
    have g1 := hfs 1 _ rfl
    have g2 := hfs 2 _ rfl
    have g3 := hfs 3 _ rfl
    have g4 := hfs 4 _ rfl
    simp [hci, hct, hc4, hc8, Value.cells] at g0 g1 g2 g3 g4
    obtain ⟨a, e0, _, w0⟩ := DataW.trod_int Try.underlying3 g0
    obtain ⟨b, e1, _, w1⟩ := DataW.trod_int Try.underlying3 g1
    obtain ⟨s, e2, e2', _⟩ := DataW.trod_string Try.underlying9 g2
    obtain ⟨x, e3, _, w3⟩ := DataW.trod_int Try.underlying35 g3
    obtain ⟨y, e4, _, w4⟩ := DataW.trod_int Try.underlying36 g4
    simp at e0 e1 e2 e3 e4
    subst e0 e1 e2 e3 e4
    refine ⟨a, b, s, x, y, rfl, w0, w1, ?_, w3, w4⟩
    have hD : d = .agg [y0.1, y1.1, y2.1, y3.1, y4.1] := by
      have := congrArg Prod.fst hxy
      simpa using this
    have hmem : s.data.toList.length ∈ d.weights Try.prog 38 := by
      rw [hD]
      simp only [DataW.weights, Try.underlying38]
      refine DataW.weights_mem_each (j := 2) (t := 9) (d := y2.1) rfl rfl _ ?_
      rw [e2']
      simp [DataW.weights]
    have := hsz _ hmem
    have e : s.size = s.data.toList.length := (Array.length_toList).symm
    rw [e]
    exact this
end Go.Proofs.Ytaoglljkghkbpaa
