/- A slice of deeds of the statements' trees as an argument; a slice of texts. -/
import Derived.Test.YtojnlmfahgeidaaGreatDoorHFiWalksLaw
import Derived.Test.YtojnlmfahgeidaaGreatDoorRows
import Derived.WalkKit
import Derived.ProofKit
import Derived.OpenShut
import Derived.Carry
import Derived.SliceStrings
import Derived.Lib.SmallJoins
import Derived.SizedLaws
import Derived.Deep.Slices
import Derived.Test.YtojnlmfahgeidaaGreatDoorHCaAll
import Derived.Test.YtojnlmfahgeidaaGreatDoorHSegsR

namespace Go.Proofs.YtojnlmfahgeidaaGreatDoor
open Go.ChangeShapes Go.WideShapes Go.ChangeAt Go.RowKit Go.Joins
set_option linter.unusedVariables false
set_option linter.unusedSimpArgs false
theorem pcell_lt {w : World} {a : Addr} {v : Value} (h : w.cell? a = some v) : a.block < w.heap.size := by
  obtain ⟨e, n, hs, _⟩ := World.shape?_of_cell? h
  unfold World.shape? at hs
  cases hb : w.heap[a.block]? with
  | none => simp [hb] at hs
  | some o => exact (Array.getElem?_eq_some_iff.1 hb).1
set_option maxRecDepth 100000 in
theorem open_names {H : Type} {enc : TypeId × Value → H} {W : World} {a0 : Option Addr} {len cap fuel : Nat} {x : DataW H × List MemPlace}
    (hf : DataW.trod enc Tryz.prog W 0 (fun _ => true) true fuel 46 [.slice a0 len cap] = some x) (hsz : ∀ n ∈ x.1.weights Tryz.prog 46, n ≤ reachBytes) :
    ∃ N : List ByteArray, N.length = len ∧ IsN W a0 N ∧ len * 16 ≤ 140737488351232 ∧ (∀ s ∈ N, s.size ≤ 9223372036854775807) ∧ (a0 = none → len = 0 ∧ cap = 0) ∧ len ≤ cap := by
  rcases open_strings Tryz.underlying46 Tryz.underlying9 (show Tryz.prog.cellsOf 9 = 1 by kernel_rfl) hf with ⟨hcs, hx⟩ | ⟨a, len', cap', ss, hcs, _, hl, hm, hz, hx, hcell, hss⟩
  · simp at hcs
    obtain ⟨rfl, rfl, rfl⟩ := hcs
    exact ⟨[], rfl, .inl rfl, by omega, by simp, fun _ => ⟨rfl, rfl⟩, Nat.le_refl _⟩
  · simp at hcs
    obtain ⟨rfl, rfl, rfl⟩ := hcs
    subst hx
    simp only [if_true] at hz
    have hu := Tryz.underlying46
    have hby : Tryz.prog.bytesOf 9 = 16 := by kernel_rfl
    have hw0 := hsz (((strs (H := H) (ss.take len)).length + (strs (H := H) (ss.drop len)).length) * Tryz.prog.bytesOf 9) (by simp [DataW.weights, hu])
    rw [hby] at hw0
    have hlen4 : len * 16 ≤ 140737488351232 := by
      unfold reachBytes at hw0
      simp [strs] at hw0
      omega
    refine ⟨ss.take len, by simp; omega, ?_, hlen4, fun s hs => ?_, fun h => (by cases h), hl⟩
    · by_cases h0 : len = 0
      · exact .inl (by simp [h0])
      · right
        obtain ⟨b, off, spot⟩ := a
        have hspot : spot = none := by simpa [Addr.add] using World.cell?_spot (hcell 0 (by omega))
        subst hspot
        refine ⟨b, off, rfl, pcell_lt (hcell 0 (by omega)), fun j x hj => ?_⟩
        have hjl : j < len := by
          have := (List.getElem?_eq_some_iff.1 hj).1
          simp at this
          omega
        have h := hcell j (by omega)
        rw [Addr.add_mid] at h
        rw [h]
        rw [List.getElem?_take_of_lt hjl] at hj
        simp [List.getD, hj]
    · have := hss s (List.take_subset _ _ hs)
      unfold maxLen at this
      omega
end Go.Proofs.YtojnlmfahgeidaaGreatDoor

namespace Go.Proofs.YtojnlmfahgeidaaGreatDoor
open Go.ChangeShapes Go.WideShapes Go.ChangeAt Go.RowKit Go.Joins
set_option linter.unusedVariables false
set_option linter.unusedSimpArgs false
theorem a19cell_lt {W : World} {b o : Nat} {v : Value} (h : W.cell? ⟨b, o, none⟩ = some v) : b < W.heap.size := World.block_lt_of_cell? _ _ h
/-- a slice of names -/
theorem open_nm19 {H : Type} {enc : TypeId × Value → H} {W : World} {a0 : Option Addr} {len cap fuel : Nat} {x : DataW H × List MemPlace}
    (hf : DataW.trod enc Tryz.prog W 0 (fun _ => true) true fuel 46 [.slice a0 len cap] = some x) (hsz : ∀ n ∈ x.1.weights Tryz.prog 46, n ≤ reachBytes) :
    ∃ (nm : Nat → ByteArray), len ≤ 9223372036854775807 ∧ (len ≤ 8796093022200 ∧ IsNm W a0 len nm) := by
  obtain ⟨N, hl, hN, hsz16, _⟩ := open_names hf hsz
  refine ⟨fun j => N.getD j ⟨#[]⟩, by omega, by omega, fun j hj => ?_⟩
  rcases hN with h0 | ⟨g, o, rfl, hg, hc⟩
  · rw [h0] at hl
    simp at hl
    omega
  · refine ⟨g, o, rfl, hg, hc j _ ?_⟩
    simp [List.getD, List.getElem?_eq_getElem (show j < N.length by omega)]
set_option maxRecDepth 100000 in
theorem open_acts19 {H : Type} {enc : TypeId × Value → H} {W : World} {a0 : Option Addr} {len cap fuel : Nat} {x : DataW H × List MemPlace}
    (hf : DataW.trod enc Tryz.prog W 0 (fun _ => true) true fuel 72 [.slice a0 len cap] = some x) (hsz : ∀ n ∈ x.1.weights Tryz.prog 72, n ≤ reachBytes) :
    ∃ (A : Nat → A19), len * 40 ≤ 140737488351232 ∧ (a0 = none → len = 0 ∧ cap = 0) ∧ (∀ i, i < len → (A i).ok) ∧ IsA19 W a0 len A := by
  rcases Deep.open_slice Tryz.underlying72 hf with ⟨hcs, hx⟩ | ⟨a, len', cap', m, n, D, Pl, hcs, _, hl, hm, hmm, hx, hel⟩
  · simp at hcs
    obtain ⟨rfl, rfl, rfl⟩ := hcs
    exact ⟨fun _ => ⟨false, false, 0, 0, ⟨#[]⟩⟩, by omega, fun _ => ⟨rfl, rfl⟩, fun i hi => absurd hi (by omega), fun i hi => absurd hi (by omega)⟩
  · simp at hcs
    obtain ⟨rfl, rfl, rfl⟩ := hcs
    subst hx
    simp only [if_true] at hmm
    subst hmm
    have hu := Tryz.underlying72
    have hby : Tryz.prog.bytesOf 143 = 40 := by kernel_rfl
    have hw0 := hsz ((((List.range len).map D).length + ((List.range (m - len)).map fun j => D (len + j)).length) * Tryz.prog.bytesOf 143) (by simp [DataW.weights, hu])
    rw [hby] at hw0
    simp only [List.length_map, List.length_range] at hw0
    have hlen4 : len * 40 ≤ 140737488351232 := by
      unfold reachBytes at hw0
      omega
    have hce : Tryz.prog.cellsOf 143 = 5 := by kernel_rfl
    have hci : Tryz.prog.cellsOf 3 = 1 := by kernel_rfl
    have hcu : Tryz.prog.cellsOf 9 = 1 := by kernel_rfl
    have hc8 : Tryz.prog.cellsOf 4 = 1 := by kernel_rfl
    have hcl2 : Tryz.prog.cellsOf 36 = 2 := by kernel_rfl
    have hsp : 0 < len → a.spot = none := fun h0 => by
      obtain ⟨cs', h1, _⟩ := hel 0 (by omega)
      rw [hce] at h1
      obtain ⟨_, hcl, hcell⟩ := World.cells?_some h1
      match cs', hcl with
      | [v0, v1, v2, v3, v4], _ => simpa [Addr.add] using World.cell?_spot (hcell 0 (by omega))
    have each : ∀ i, ∃ q : A19, i < len → q.ok ∧ ∃ b o, a = ⟨b, o, none⟩ ∧ b < W.heap.size ∧ W.rangeAt b (o + i * 5) q.cs := by
      intro i
      by_cases hi : i < len
      · obtain ⟨cs', h1, h2⟩ := hel i (by omega)
        rw [hce] at h1
        obtain ⟨_, hcl, hcell⟩ := World.cells?_some h1
        obtain ⟨xs, k, hk, hxy, _, hxl, hfs⟩ := DataW.trod_struct Tryz.underlying143 h2
        match xs, hxl, cs', hcl with
        | [y0, y1, y2, y3], _, [v0, v1, v2, v3, v4], _ =>
          have g0 := hfs 0 _ rfl
          have g1 := hfs 1 _ rfl
          have g4 := hfs 2 _ rfl
          have gl := hfs 3 _ rfl
          simp [hci, hcu, hc8, hcl2] at g0 g1 gl g4
          obtain ⟨zs, k', hk', hzy, _, hzl, hgs⟩ := DataW.trod_struct Tryz.underlying36 gl
          match zs, hzl with
          | [z0, z1], _ =>
          have g2 := hgs 0 _ rfl
          have g3 := hgs 1 _ rfl
          simp [hci, hcu] at g2 g3
          obtain ⟨p0, e0, w0⟩ := DataW.trod_bool Tryz.underlying4 g0
          obtain ⟨p1, e1, w1⟩ := DataW.trod_bool Tryz.underlying4 g1
          obtain ⟨p2, e4, _, w4⟩ := DataW.trod_int Tryz.underlying3 g4
          obtain ⟨q, e2, _, w2⟩ := DataW.trod_int Tryz.underlying3 g2
          obtain ⟨r, e3, _, w3⟩ := DataW.trod_string Tryz.underlying9 g3
          simp at e0 e1 e2 e3 e4
          subst e0 e1 e2 e3 e4
          refine ⟨⟨p0, p1, p2, q, r⟩, fun _ => ⟨⟨bounds_i64 w4, bounds_i64 w2, w3⟩, ?_⟩⟩
          have c0 := hcell 0 (by decide)
          have c1 := hcell 1 (by decide)
          have c2 := hcell 2 (by decide)
          have c3 := hcell 3 (by decide)
          have c4 := hcell 4 (by decide)
          obtain ⟨b, off, spot⟩ := a
          have hspot : spot = none := hsp (by omega)
          subst hspot
          simp only [Addr.add_mid, List.getElem?_cons_zero, List.getElem?_cons_succ] at c0 c1 c2 c3 c4
          refine ⟨b, off, rfl, a19cell_lt c0, fun j v hv => ?_⟩
          match j with
          | 0 => rw [← hv]; exact c0
          | 1 => rw [← hv]; exact c1
          | 2 => rw [← hv]; exact c2
          | 3 => rw [← hv]; exact c3
          | 4 => rw [← hv]; exact c4
          | j + 5 => simp [A19.cs] at hv
      · exact ⟨⟨false, false, 0, 0, ⟨#[]⟩⟩, fun h => absurd h hi⟩
    refine ⟨fun i => Classical.choose (each i), hlen4, fun h => by simp at h, fun i hi => (Classical.choose_spec (each i) hi).1, fun i hi => ?_⟩
    obtain ⟨b, o, rfl, h1, h2⟩ := (Classical.choose_spec (each i) hi).2
    exact ⟨b, o, rfl, h1, h2⟩
theorem open_acts19y {H : Type} {enc : TypeId × Value → H} {W : World} {a0 : Option Addr} {len cap fuel : Nat} {x : DataW H × List MemPlace}
    (hf : DataW.trod enc Tryz.prog W 0 (fun _ => true) true fuel 72 [.slice a0 len cap] = some x) (hsz : ∀ n ∈ x.1.weights Tryz.prog 72, n ≤ reachBytes) :
    ∃ (X : Nat → A19), len ≤ 9223372036854775807 ∧ ((∀ i, i < len → (X i).ok) ∧ IsA19 W a0 len X) := by
  obtain ⟨A, h1, _, h3, h4⟩ := open_acts19 hf hsz
  exact ⟨A, by omega, h3, h4⟩
end Go.Proofs.YtojnlmfahgeidaaGreatDoor
