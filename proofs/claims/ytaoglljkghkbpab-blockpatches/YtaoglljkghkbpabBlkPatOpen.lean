/- A slice of patches as an argument, opened: no condition but that it is one. -/
import Derived.Test.YtaoglljkghkbpabRows
import Derived.WalkKit
import Derived.ProofKit
import Derived.OpenShut
import Derived.Carry
import Derived.Deep.Slices
import Derived.Lib.SmallJoins
import Derived.SizedLaws
import Derived.Test.YtaoglljkghkbpabBlkApply
namespace Go.Proofs.Ytaoglljkghkbpab
open Go.ChangeShapes Go.WideShapes Go.ChangeAt Go.RowKit Go.Joins
set_option linter.unusedVariables false

theorem kweightsAll_mem {H : Type} {P : Program} {e : TypeId} {d : DataW H} {n : Nat} : ∀ {l : List (DataW H)}, d ∈ l → n ∈ d.weights P e → n ∈ DataW.weightsAll P e l
  | [], h, _ => by cases h
  | x :: l, h, hn => by
    simp only [DataW.weightsAll, List.mem_append]
    rcases List.mem_cons.1 h with rfl | h
    · exact .inl hn
    · exact .inr (kweightsAll_mem h hn)
theorem pcell_lt {w : World} {a : Addr} {v : Value} (h : w.cell? a = some v) : a.block < w.heap.size := by
  obtain ⟨e, n, hs, _⟩ := World.shape?_of_cell? h
  unfold World.shape? at hs
  cases hb : w.heap[a.block]? with
  | none => simp [hb] at hs
  | some o => exact (Array.getElem?_eq_some_iff.1 hb).1

set_option maxRecDepth 100000 in
theorem open_pats {H : Type} {enc : TypeId × Value → H} {W : World} {a0 : Option Addr} {len cap fuel : Nat} {x : DataW H × List MemPlace}
    (hf : DataW.trod enc Try.prog W 0 (fun _ => true) true fuel 24 [.slice a0 len cap] = some x) (hsz : ∀ n ∈ x.1.weights Try.prog 24, n ≤ reachBytes) :
    ∃ (P : Nat → Int) (T : Nat → ByteArray), len * 24 ≤ 140737488351232 ∧ IsPats W a0 len P T := by
  rcases Deep.open_slice Try.underlying24 hf with ⟨hcs, hx⟩ | ⟨a, len', cap', m, n, D, Pl, hcs, _, hl, hm, hmm, hx, hel⟩
  · simp at hcs
    obtain ⟨rfl, rfl, rfl⟩ := hcs
    exact ⟨fun _ => 0, fun _ => ByteArray.empty, by omega, fun i hi => absurd hi (by omega)⟩
  · simp at hcs
    obtain ⟨rfl, rfl, rfl⟩ := hcs
    subst hx
    simp only [if_true] at hmm
    subst hmm
    have hu := Try.underlying24
    have hby : Try.prog.bytesOf 28 = 24 := by kernel_rfl
    have hw0 := hsz ((((List.range len).map D).length + ((List.range (m - len)).map fun j => D (len + j)).length) * Try.prog.bytesOf 28) (by simp [DataW.weights, hu])
    rw [hby] at hw0
    simp only [List.length_map, List.length_range] at hw0
    have hlen4 : len * 24 ≤ 140737488351232 := by
      unfold reachBytes at hw0
      omega
    have hce : Try.prog.cellsOf 28 = 2 := by kernel_rfl
    have hci : Try.prog.cellsOf 3 = 1 := by kernel_rfl
    have hct : Try.prog.cellsOf 9 = 1 := by kernel_rfl
    have hsp : 0 < len → a.spot = none := fun h0 => by
      obtain ⟨cs', h1, _⟩ := hel 0 (by omega)
      rw [hce] at h1
      obtain ⟨_, hcl, hcell⟩ := World.cells?_some h1
      match cs', hcl with
      | [v0, v1], _ => simpa [Addr.add] using World.cell?_spot (hcell 0 (by omega))
    have each : ∀ i, ∃ q : Int × ByteArray, i < len → ∃ b o, a = ⟨b, o, none⟩ ∧ b < W.heap.size ∧ W.cell? ⟨b, o + i * 2, none⟩ = some (.int .i64 q.1) ∧ W.cell? ⟨b, o + i * 2 + 1, none⟩ = some (.string q.2) ∧ (-9223372036854775808 ≤ q.1 ∧ q.1 ≤ 9223372036854775807) ∧ q.2.size ≤ 140737488351232 := by
      intro i
      by_cases hi : i < len
      · obtain ⟨cs', h1, h2⟩ := hel i (by omega)
        rw [hce] at h1
        obtain ⟨_, hcl, hcell⟩ := World.cells?_some h1
        obtain ⟨xs, k, hk, hxy, _, hxl, hfs⟩ := DataW.trod_struct Try.underlying28 h2
        match xs, hxl, cs', hcl with
        | [y0, y1], _, [v0, v1], _ =>
          have g0 := hfs 0 _ rfl
          have g1 := hfs 1 _ rfl
          simp [hci, hct] at g0 g1
          obtain ⟨kd, e0, _, wf0⟩ := DataW.trod_int Try.underlying3 g0
          obtain ⟨tx, e1, e1', _⟩ := DataW.trod_string Try.underlying9 g1
          simp at e0 e1
          subst e0 e1
          refine ⟨(kd, tx), fun _ => ?_⟩
          have c0 := hcell 0 (by omega)
          have c1 := hcell 1 (by omega)
          obtain ⟨b, off, spot⟩ := a
          have hspot : spot = none := hsp (by omega)
          subst hspot
          simp only [Addr.add_mid, List.getElem?_cons_zero, List.getElem?_cons_succ] at c0 c1
          refine ⟨b, off, rfl, pcell_lt c0, c0, c1, bounds_i64 wf0, ?_⟩
          have hD : D i = .agg [y0.1, y1.1] := by
            have := congrArg Prod.fst hxy
            simpa using this
          have hmem : tx.data.toList.length ∈ DataW.weights Try.prog 24 (.slice ((List.range len).map D) ((List.range (m - len)).map fun j => D (len + j)) : DataW H) := by
            simp only [DataW.weights, hu, List.mem_cons, List.mem_append]
            refine .inr (.inl (kweightsAll_mem (d := D i) (List.mem_map.2 ⟨i, List.mem_range.2 hi, rfl⟩) ?_))
            rw [hD]
            simp only [DataW.weights, Try.underlying28]
            refine DataW.weights_mem_each (j := 1) (t := 9) (d := y1.1) rfl rfl _ ?_
            rw [e1']
            simp [DataW.weights]
          have := hsz _ hmem
          have e : tx.size = tx.data.toList.length := (Array.length_toList).symm
          show tx.size ≤ 140737488351232
          rw [e]
          exact this
      · exact ⟨(0, ByteArray.empty), fun h => absurd h hi⟩
    refine ⟨fun i => (Classical.choose (each i)).1, fun i => (Classical.choose (each i)).2, hlen4, fun i hi => ?_⟩
    obtain ⟨b, o, rfl, h1, h2, h3, h4, h5⟩ := Classical.choose_spec (each i) hi
    exact ⟨b, o, rfl, h1, h2, h3, h4, h5⟩
end Go.Proofs.Ytaoglljkghkbpab
