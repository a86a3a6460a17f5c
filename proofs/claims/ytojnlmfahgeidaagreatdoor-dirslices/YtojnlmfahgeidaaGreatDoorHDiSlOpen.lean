/- What is asked of a directory's slices, as an argument, opened: no condition but that it is one; its texts are within the reach. -/
import Derived.Test.YtojnlmfahgeidaaGreatDoorRows
import Derived.WalkKit
import Derived.ProofKit
import Derived.OpenShut
import Derived.Deep.Slices
import Derived.Lib.SmallJoins
import Derived.SizedLaws

namespace Go.Proofs.YtojnlmfahgeidaaGreatDoor
open Go.ChangeShapes Go.WideShapes Go.ChangeAt Go.RowKit Go.Joins
set_option linter.unusedVariables false
set_option linter.unusedSimpArgs false
theorem str_reach {H : Type} {s : ByteArray} (h : ∀ n ∈ DataW.weights Tryz.prog 9 (DataW.lit (H := H) (.string s.data.toList)), n ≤ reachBytes) : s.size ≤ 140737488351232 := by
  have hm : s.size ∈ DataW.weights Tryz.prog 9 (DataW.lit (H := H) (.string s.data.toList)) := by
    unfold DataW.weights
    rw [Lib.size_eq]; exact List.mem_cons_self
  exact Nat.le_trans (h _ hm) (by decide)
set_option maxRecDepth 100000 in
theorem open_sl17c {H : Type} {enc : TypeId × Value → H} {W : World} {fuel : Nat} {l : List Value} {x : DataW H × List MemPlace} (hl : l.length = 4)
    (hf : DataW.trod enc Tryz.prog W 0 (fun _ => true) true fuel 63 l = some x) (hsz : ∀ n ∈ x.1.weights Tryz.prog 63, n ≤ reachBytes) :
    ∃ (sa sb sp : ByteArray) (q : Int), l = [.string sa, .string sb, .string sp, .int .i64 q] ∧ sa.size ≤ 140737488351232 ∧ sp.size ≤ 140737488351232 := by
  have hci : Tryz.prog.cellsOf 3 = 1 := by kernel_rfl
  have hcs : Tryz.prog.cellsOf 9 = 1 := by kernel_rfl
  obtain ⟨xs, k, hk, hxy, _, hxl, hfs⟩ := DataW.trod_struct Tryz.underlying63 hf
  subst hxy
  match xs, hxl, l, hl with
  | [y0, y1, y2, y3], _, [v0, v1, v2, v3], _ =>
    have g0 := hfs 0 _ rfl
    have g1 := hfs 1 _ rfl
    have g2 := hfs 2 _ rfl
    have g3 := hfs 3 _ rfl
    simp [hci, hcs] at g0 g1 g2 g3
    have s0 : ∀ n ∈ y0.1.weights Tryz.prog 9, n ≤ reachBytes := fun n hn => by
      refine hsz n ?_
      simp only [DataW.weights, Tryz.underlying63]
      exact DataW.weights_mem_each (j := 0) (t := 9) (d := y0.fst) rfl rfl n hn
    have s2 : ∀ n ∈ y2.1.weights Tryz.prog 9, n ≤ reachBytes := fun n hn => by
      refine hsz n ?_
      simp only [DataW.weights, Tryz.underlying63]
      exact DataW.weights_mem_each (j := 2) (t := 9) (d := y2.fst) rfl rfl n hn
    obtain ⟨a, e0, q0, w0⟩ := DataW.trod_string Tryz.underlying9 g0
    obtain ⟨b, e1, _, w1⟩ := DataW.trod_string Tryz.underlying9 g1
    obtain ⟨c, e2, q2, w2⟩ := DataW.trod_string Tryz.underlying9 g2
    obtain ⟨d, e3, _, w3⟩ := DataW.trod_int Tryz.underlying3 g3
    simp at e0 e1 e2 e3
    subst e0 e1 e2 e3
    subst q0 q2
    exact ⟨a, b, c, d, rfl, str_reach s0, str_reach s2⟩
set_option maxRecDepth 100000 in
theorem open_sl17 {H : Type} {enc : TypeId × Value → H} {W : World} {r : Reach} {b0 : Nat} {v : Value} {d : DataW H} {p : List MemPlace}
    (hv : Value.okWide Tryz.prog W r b0 63 v) (h : DataW.Trod enc Tryz.prog W 0 (fun _ => true) true 63 v d p) (hsz : ∀ n ∈ d.weights Tryz.prog 63, n ≤ reachBytes) :
    ∃ (sa sb sp : ByteArray) (q : Int), v = .agg #[.string sa, .string sb, .string sp, .int .i64 q] ∧ sa.size ≤ 140737488351232 ∧ sp.size ≤ 140737488351232 := by
  obtain ⟨cs, rfl, hcs⟩ := okWide_struct Tryz.underlying63 hv
  obtain ⟨fuel, hf⟩ := h
  have hc : Tryz.prog.cellsOf 63 = 4 := by kernel_rfl
  rw [hc] at hcs
  obtain ⟨l, rfl⟩ : ∃ l : List Value, cs = l.toArray := ⟨cs.toList, by simp⟩
  have hl : l.length = 4 := by simpa using hcs
  obtain ⟨sa, sb, sp, q, rfl, h1, h2⟩ := open_sl17c hl (show DataW.trod enc Tryz.prog W 0 (fun _ => true) true fuel 63 l = some (d, p) by simpa [Value.cells] using hf) hsz
  exact ⟨sa, sb, sp, q, rfl, h1, h2⟩
end Go.Proofs.YtojnlmfahgeidaaGreatDoor
