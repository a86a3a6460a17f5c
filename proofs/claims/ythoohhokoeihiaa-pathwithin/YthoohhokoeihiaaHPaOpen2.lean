/- Two texts, a path as arguments, opened: no condition but that they are ones. -/
import Derived.Test.YthoohhokoeihiaaHPaForm
import Derived.Test.YthoohhokoeihiaaRows
import Derived.WalkKit
import Derived.ProofKit
import Derived.OpenShut
import Derived.Carry
import Derived.SliceStrings
import Derived.Lib.SmallJoins
import Derived.SizedLaws

namespace Go.Proofs.Ythoohhokoeihiaa
open Go.ChangeShapes Go.WideShapes Go.ChangeAt Go.RowKit Go.Joins
set_option linter.unusedVariables false
set_option linter.unusedSimpArgs false
theorem pcell_lt {w : World} {a : Addr} {v : Value} (h : w.cell? a = some v) : a.block < w.heap.size := by
  obtain ⟨e, n, hs, _⟩ := World.shape?_of_cell? h
  unfold World.shape? at hs
  cases hb : w.heap[a.block]? with
  | none => simp [hb] at hs
  | some o => exact (Array.getElem?_eq_some_iff.1 hb).1
set_option maxRecDepth 100000 in
theorem open_names {H : Type} {enc : TypeId × Value → H} {W : World} {a0 : Option Addr} {len cap fuel : Nat} {x : DataW H × List MemPlace}
    (hf : DataW.trod enc Try.prog W 0 (fun _ => true) true fuel 23 [.slice a0 len cap] = some x) (hsz : ∀ n ∈ x.1.weights Try.prog 23, n ≤ reachBytes) :
    ∃ N : List ByteArray, N.length = len ∧ IsN W a0 N ∧ len * 16 ≤ 140737488351232 ∧ (∀ s ∈ N, s.size ≤ 9223372036854775807) ∧ (a0 = none → len = 0 ∧ cap = 0) ∧ len ≤ cap := by
  rcases open_strings Try.underlying23 Try.underlying9 (show Try.prog.cellsOf 9 = 1 by kernel_rfl) hf with ⟨hcs, hx⟩ | ⟨a, len', cap', ss, hcs, _, hl, hm, hz, hx, hcell, hss⟩
  · simp at hcs
    obtain ⟨rfl, rfl, rfl⟩ := hcs
    exact ⟨[], rfl, .inl rfl, by omega, by simp, fun _ => ⟨rfl, rfl⟩, Nat.le_refl _⟩
  · simp at hcs
    obtain ⟨rfl, rfl, rfl⟩ := hcs
    subst hx
    simp only [if_true] at hz
    have hu := Try.underlying23
    have hby : Try.prog.bytesOf 9 = 16 := by kernel_rfl
    have hw0 := hsz (((strs (H := H) (ss.take len)).length + (strs (H := H) (ss.drop len)).length) * Try.prog.bytesOf 9) (by simp [DataW.weights, hu])
    rw [hby] at hw0
    have hlen4 : len * 16 ≤ 140737488351232 := by
      unfold reachBytes at hw0
      simp [strs] at hw0
      omega
    refine ⟨ss.take len, by simp; omega, ?_, hlen4, fun s hs => ?_, fun h => (by cases h), hl⟩
    · by_cases h0 : len = 0
      · exact .inl (by simp [h0])
      · right
        obtain ⟨b, off, spot⟩ := a
        have hspot : spot = none := by simpa [Addr.add] using World.cell?_spot (hcell 0 (by omega))
        subst hspot
        refine ⟨b, off, rfl, pcell_lt (hcell 0 (by omega)), fun j x hj => ?_⟩
        have hjl : j < len := by
          have := (List.getElem?_eq_some_iff.1 hj).1
          simp at this
          omega
        have h := hcell j (by omega)
        rw [Addr.add_mid] at h
        rw [h]
        rw [List.getElem?_take_of_lt hjl] at hj
        simp [List.getD, hj]
    · have := hss s (List.take_subset _ _ hs)
      unfold maxLen at this
      omega
end Go.Proofs.Ythoohhokoeihiaa

namespace Go.Proofs.Ythoohhokoeihiaa
open Go.ChangeShapes Go.WideShapes Go.ChangeAt Go.RowKit Go.Joins
set_option linter.unusedVariables false
set_option linter.unusedSimpArgs false
set_option maxRecDepth 100000 in
theorem open_two {H : Type} {enc : TypeId × Value → H} {W : World} {r : Reach} {b0 : Nat} {v : Value} {d : DataW H} {p : List MemPlace}
    (hv : Value.okWide Try.prog W r b0 48 v) (h : DataW.Trod enc Try.prog W 0 (fun _ => true) true 48 v d p) (hsz : ∀ n ∈ d.weights Try.prog 48, n ≤ reachBytes) :
    ∃ (s t : ByteArray), v = .agg #[.string s, .string t] ∧ s.size ≤ 140737488351232 ∧ t.size ≤ 140737488351232 := by
  obtain ⟨cs, rfl, hcs⟩ := okWide_struct Try.underlying48 hv
  obtain ⟨fuel, hf⟩ := h
  have hc : Try.prog.cellsOf 48 = 2 := by kernel_rfl
  rw [hc] at hcs
  have hct : Try.prog.cellsOf 9 = 1 := by kernel_rfl
  obtain ⟨xs, k, hk, hxy, _, hxl, hfs⟩ := DataW.trod_struct Try.underlying48 hf
  obtain ⟨l, rfl⟩ : ∃ l : List Value, cs = l.toArray := ⟨cs.toList, by simp⟩
  have hl : l.length = 2 := by simpa using hcs
  match xs, hxl, l, hl with
  | [y0, y1], _, [v0, v1], _ =>
    have g0 := hfs 0 _ rfl
    have g1 := hfs 1 _ rfl
    simp [hct, Value.cells] at g0 g1
    obtain ⟨s, e0, e0', _⟩ := DataW.trod_string Try.underlying9 g0
    obtain ⟨t, e1, e1', _⟩ := DataW.trod_string Try.underlying9 g1
    simp at e0 e1
    subst e0 e1
    have hD : d = .agg [y0.1, y1.1] := by
      have := congrArg Prod.fst hxy
      simpa using this
    have m0 : s.data.toList.length ∈ d.weights Try.prog 48 := by
      rw [hD]
      simp only [DataW.weights, Try.underlying48]
      refine DataW.weights_mem_each (j := 0) (t := 9) (d := y0.1) rfl rfl _ ?_
      rw [e0']
      simp [DataW.weights]
    have m1 : t.data.toList.length ∈ d.weights Try.prog 48 := by
      rw [hD]
      simp only [DataW.weights, Try.underlying48]
      refine DataW.weights_mem_each (j := 1) (t := 9) (d := y1.1) rfl rfl _ ?_
      rw [e1']
      simp [DataW.weights]
    refine ⟨s, t, rfl, ?_, ?_⟩
    · have e : s.size = s.data.toList.length := (Array.length_toList).symm
      rw [e]
      exact hsz _ m0
    · have e : t.size = t.data.toList.length := (Array.length_toList).symm
      rw [e]
      exact hsz _ m1
set_option maxRecDepth 100000 in
theorem open_path {H : Type} {enc : TypeId × Value → H} {W : World} {r : Reach} {b0 : Nat} {v : Value} {d : DataW H} {p : List MemPlace}
    (hv : Value.okWide Try.prog W r b0 25 v) (h : DataW.Trod enc Try.prog W 0 (fun _ => true) true 25 v d p) (hsz : ∀ n ∈ d.weights Try.prog 25, n ≤ reachBytes) :
    ∃ (a : Option Addr) (c : Nat) (N : List ByteArray) (q : Bool), v = .agg #[.slice a N.length c, .bool q] ∧ IsN W a N ∧ N.length * 16 ≤ 140737488351232 := by
  obtain ⟨cs, rfl, hcs⟩ := okWide_struct Try.underlying25 hv
  obtain ⟨fuel, hf⟩ := h
  have hc : Try.prog.cellsOf 25 = 2 := by kernel_rfl
  rw [hc] at hcs
  have hcs2 : Try.prog.cellsOf 23 = 1 := by kernel_rfl
  have hcb : Try.prog.cellsOf 4 = 1 := by kernel_rfl
  obtain ⟨xs, k, hk, hxy, _, hxl, hfs⟩ := DataW.trod_struct Try.underlying25 hf
  obtain ⟨l, rfl⟩ : ∃ l : List Value, cs = l.toArray := ⟨cs.toList, by simp⟩
  have hl : l.length = 2 := by simpa using hcs
  match xs, hxl, l, hl with
  | [y0, y1], _, [v0, v1], _ =>
    have g0 := hfs 0 _ rfl
    have g1 := hfs 1 _ rfl
    simp [hcs2, hcb, Value.cells] at g0 g1
    obtain ⟨q, e1, _⟩ := DataW.trod_bool Try.underlying4 g1
    simp at e1
    subst e1
    have hD : d = .agg [y0.1, y1.1] := by
      have := congrArg Prod.fst hxy
      simpa using this
    obtain ⟨a0, len, cap, e0⟩ : ∃ a0 len cap, v0 = .slice a0 len cap := by
      rcases open_strings Try.underlying23 Try.underlying9 (show Try.prog.cellsOf 9 = 1 by kernel_rfl) g0 with ⟨hcs, hx⟩ | ⟨a, len', cap', ss, hcs, _⟩
      · simp at hcs; exact ⟨_, _, _, hcs⟩
      · simp at hcs; exact ⟨_, _, _, hcs⟩
    subst e0
    obtain ⟨N, h1, h2, h3, _⟩ := open_names (x := y0) g0 (fun n hn => by
      refine hsz n ?_
      rw [hD]
      simp only [DataW.weights, Try.underlying25]
      exact DataW.weights_mem_each (j := 0) (t := 23) (d := y0.1) rfl rfl n hn)
    subst h1
    exact ⟨a0, cap, N, q, rfl, h2, h3⟩
end Go.Proofs.Ythoohhokoeihiaa
