/- Something done to a disk as an argument, opened: no condition but that it is one. -/
import Derived.Test.YtkhfggmjhpbajaaRows
import Derived.WalkKit
import Derived.ProofKit
import Derived.OpenShut
import Derived.Deep.Slices
import Derived.Lib.SmallJoins
import Derived.SizedLaws
namespace Go.Proofs.Ytkhfggmjhpbajaa
open Go.ChangeShapes Go.WideShapes Go.ChangeAt Go.RowKit Go.Joins
set_option linter.unusedVariables false
set_option linter.unusedSimpArgs false

set_option maxRecDepth 100000 in
theorem open_act_cells {H : Type} {enc : TypeId × Value → H} {W : World} {fuel : Nat} {l : List Value} {x : DataW H × List MemPlace} (hl : l.length = 6)
    (hf : DataW.trod enc Try.prog W 0 (fun _ => true) true fuel 43 l = some x) :
    ∃ (k0 at0 c0 : Int) (s0 : Option Addr) (n0 p0 : Nat) (e0 : Int) (f0 : Bool), l = [.int .i64 k0, .int .i64 at0, .int .u8 c0, .slice s0 n0 p0, .int .i64 e0, .bool f0] ∧ (Lit.int .i64 k0).wf = true ∧ (Lit.int .i64 at0).wf = true ∧ (Lit.int .u8 c0).wf = true := by
  have hci : Try.prog.cellsOf 3 = 1 := by kernel_rfl
  have hcb : Try.prog.cellsOf 4 = 1 := by kernel_rfl
  have hc1 : Try.prog.cellsOf 5 = 1 := by kernel_rfl
  have hcs : Try.prog.cellsOf 39 = 1 := by kernel_rfl
  have hcc : Try.prog.cellsOf 41 = 2 := by kernel_rfl
  obtain ⟨xs, k, hk, hxy, _, hxl, hfs⟩ := DataW.trod_struct Try.underlying43 hf
  match xs, hxl, l, hl with
  | [y0, y1, y2, y3, y4], _, [v0, v1, v2, v3, v4, v5], _ =>
    have g0 := hfs 0 _ rfl
    have g1 := hfs 1 _ rfl
    have g2 := hfs 2 _ rfl
    have g3 := hfs 3 _ rfl
    have g4 := hfs 4 _ rfl
    simp [hci, hcb, hc1, hcs, hcc] at g0 g1 g2 g3 g4
    obtain ⟨a, e0, _, w0⟩ := DataW.trod_int Try.underlying3 g0
    obtain ⟨b, e1, _, w1⟩ := DataW.trod_int Try.underlying3 g1
    obtain ⟨c, e2, _, w2⟩ := DataW.trod_int Try.underlying5 g2
    simp at e0 e1 e2
    subst e0 e1 e2
    have e3 : ∃ (s0 : Option Addr) (n0 p0 : Nat), v3 = .slice s0 n0 p0 := by
      rcases Deep.open_slice Try.underlying39 g3 with ⟨hcs', _⟩ | ⟨ad, len', cap', m, n, D, Pl, hcs', _⟩
      · simp at hcs'
        exact ⟨none, 0, 0, hcs'⟩
      · simp at hcs'
        exact ⟨some ad, len', cap', hcs'⟩
    obtain ⟨s0, n0, p0, rfl⟩ := e3
    obtain ⟨zs, k', hk', hzy, _, hzl, hgs⟩ := DataW.trod_struct Try.underlying41 g4
    match zs, hzl with
    | [z0, z1], _ =>
      have q0 := hgs 0 _ rfl
      have q1 := hgs 1 _ rfl
      simp [hci, hcb] at q0 q1
      obtain ⟨ev, r0, _, _⟩ := DataW.trod_int Try.underlying3 q0
      obtain ⟨af, r1, _⟩ := DataW.trod_bool Try.underlying4 q1
      simp at r0 r1
      subst r0 r1
      exact ⟨a, b, c, s0, n0, p0, ev, af, rfl, w0, w1, w2⟩
set_option maxRecDepth 100000 in
theorem open_act {H : Type} {enc : TypeId × Value → H} {W : World} {r : Reach} {b0 : Nat} {v : Value} {d : DataW H} {p : List MemPlace}
    (hv : Value.okWide Try.prog W r b0 43 v) (h : DataW.Trod enc Try.prog W 0 (fun _ => true) true 43 v d p) :
    ∃ (k0 at0 c0 : Int) (s0 : Option Addr) (n0 p0 : Nat) (e0 : Int) (f0 : Bool), v = .agg #[.int .i64 k0, .int .i64 at0, .int .u8 c0, .slice s0 n0 p0, .int .i64 e0, .bool f0] ∧ (Lit.int .i64 k0).wf = true ∧ (Lit.int .i64 at0).wf = true ∧ (Lit.int .u8 c0).wf = true := by
  obtain ⟨cs, rfl, hcs⟩ := okWide_struct Try.underlying43 hv
  obtain ⟨fuel, hf⟩ := h
  have hc : Try.prog.cellsOf 43 = 6 := by kernel_rfl
  rw [hc] at hcs
  obtain ⟨l, rfl⟩ : ∃ l : List Value, cs = l.toArray := ⟨cs.toList, by simp⟩
  have hl : l.length = 6 := by simpa using hcs
  obtain ⟨k0, at0, c0, s0, n0, p0, e0, f0, rfl, h1, h2, h3⟩ := open_act_cells hl (show DataW.trod enc Try.prog W 0 (fun _ => true) true fuel 43 l = some (d, p) by simpa [Value.cells] using hf)
  exact ⟨k0, at0, c0, s0, n0, p0, e0, f0, rfl, h1, h2, h3⟩
end Go.Proofs.Ytkhfggmjhpbajaa
