/- A slice of blocks as an argument, opened, as the rooms' frames take it. -/
import Derived.Test.YtkpcgijdokhjkaaDoorRows
import Derived.WalkKit
import Derived.ProofKit
import Derived.OpenShut
import Derived.Carry
import Derived.Deep.Slices
import Derived.Lib.SmallJoins
import Derived.SizedLaws
import Derived.Test.YtkpcgijdokhjkaaDoorHBlkArg

namespace Go.Proofs.YtkpcgijdokhjkaaDoor
open Go.ChangeShapes Go.WideShapes Go.ChangeAt Go.RowKit Go.Joins
set_option linter.unusedVariables false

theorem kcell_lt {w : World} {a : Addr} {v : Value} (h : w.cell? a = some v) : a.block < w.heap.size := by
  obtain ⟨e, n, hs, _⟩ := World.shape?_of_cell? h
  unfold World.shape? at hs
  cases hb : w.heap[a.block]? with
  | none => simp [hb] at hs
  | some o => exact (Array.getElem?_eq_some_iff.1 hb).1
theorem trod_bytes {H : Type} {enc : TypeId × Value → H} {P : Program} {w : World} {base : Nat} {spare : Nat → Bool} {held : Bool} {t e : TypeId} {n fuel : Nat} {cs : List Value} {x : DataW H × List MemPlace} (ht : P.underlying t = some (.array n e)) (he : P.underlying e = some (.int .u8)) (hce : P.cellsOf e = 1)
    (hf : DataW.trod enc P w base spare held fuel t cs = some x) : ∀ i, i < n → ∃ z : Nat, cs[i]? = some (.int .u8 ((z : Nat) : Int)) ∧ z < 256 := by
  obtain ⟨xs, m, rfl, hx, hl, hn, hall⟩ := DataW.trod_array ht hf
  intro i hi
  have h1 := hall i hi
  have hget : xs[i]? = some xs[i] := List.getElem?_eq_getElem (by omega)
  rw [hget, hce, Nat.mul_one] at h1
  obtain ⟨z, hz, hz2, hz3⟩ := DataW.trod_int he h1
  have hb := bounds_u8 hz3
  refine ⟨z.toNat, ?_, by omega⟩
  have h2 : (cs.drop i).head? = some (.int .u8 z) := by
    cases hd : cs.drop i with
    | nil => rw [hd] at hz; simp at hz
    | cons a l => rw [hd] at hz; simp at hz; rw [hz]; rfl
  rw [List.head?_drop] at h2
  rw [h2]
  congr 2
  omega

set_option maxRecDepth 100000 in
/-- the argument, opened -/
theorem open_blocks {H : Type} {enc : TypeId × Value → H} {W : World} {a0 : Option Addr} {len cap fuel : Nat} {x : DataW H × List MemPlace}
    (hf : DataW.trod enc Tryd.prog W 0 (fun _ => true) true fuel 33 [.slice a0 len cap] = some x) (hsz : ∀ n ∈ x.1.weights Tryd.prog 33, n ≤ reachBytes) :
    ∃ L : Nat → Nat → Nat, len * 256 ≤ 140737488351232 ∧ (∀ i j, L i j < 256) ∧ IsBlks W a0 len L ∧ (a0 = none → len = 0 ∧ cap = 0) ∧ len ≤ cap ∧ cap * 256 ≤ 140737488351232 := by
  rcases Deep.open_slice Tryd.underlying33 hf with ⟨hcs, hx⟩ | ⟨a, len', cap', m, n, D, Pl, hcs, _, hl, hm, hmm, hx, hel⟩
  · simp at hcs
    obtain ⟨rfl, rfl, rfl⟩ := hcs
    exact ⟨fun _ _ => 0, by omega, fun _ _ => Nat.zero_lt_succ _, fun i hi => absurd hi (by omega), fun _ => ⟨rfl, rfl⟩, Nat.le_refl _, by omega⟩
  · simp at hcs
    obtain ⟨rfl, rfl, rfl⟩ := hcs
    subst hx
    simp only [if_true] at hmm
    subst hmm
    have hu := Tryd.underlying33
    have hby : Tryd.prog.bytesOf 93 = 256 := by kernel_rfl
    have hw0 := hsz ((((List.range len).map D).length + ((List.range (m - len)).map fun j => D (len + j)).length) * Tryd.prog.bytesOf 93) (by simp [DataW.weights, hu])
    rw [hby] at hw0
    simp only [List.length_map, List.length_range] at hw0
    have hlen4 : len * 256 ≤ 140737488351232 := by
      unfold reachBytes at hw0
      omega
    have hce : Tryd.prog.cellsOf 93 = 256 := by kernel_rfl
    have hcb : Tryd.prog.cellsOf 5 = 1 := by kernel_rfl
    have hcs : ∀ i, i < len → ∃ cs' : List Value, (∀ j, j < 256 → W.cell? (a.add (i * 256 + j)) = cs'[j]?) ∧ ∀ j, j < 256 → ∃ z : Nat, cs'[j]? = some (.int .u8 ((z : Nat) : Int)) ∧ z < 256 := fun i hi => by
      obtain ⟨cs', h1, h2⟩ := hel i (by omega)
      rw [hce] at h1
      obtain ⟨_, hcl, hcell⟩ := World.cells?_some h1
      refine ⟨cs', fun j hj => ?_, trod_bytes Tryd.underlying93 Tryd.underlying5 hcb h2⟩
      have c0 := hcell j (by omega)
      rw [Addr.add_add] at c0
      exact c0
    have hsp : 0 < len → a.spot = none := fun h0 => by
      obtain ⟨cs', h1, h2⟩ := hcs 0 h0
      obtain ⟨z, hz, _⟩ := h2 0 (by omega)
      have := h1 0 (by omega)
      rw [hz] at this
      simpa [Addr.add] using World.cell?_spot this
    have each : ∀ i j, ∃ z : Nat, z < 256 ∧ (i < len → j < 256 → W.cell? (a.add (i * 256 + j)) = some (.int .u8 ((z : Nat) : Int))) := fun i j => by
      by_cases hi : i < len
      · by_cases hj : j < 256
        · obtain ⟨cs', h1, h2⟩ := hcs i hi
          obtain ⟨z, hz, hlt⟩ := h2 j hj
          exact ⟨z, hlt, fun _ _ => (h1 j hj).trans hz⟩
        · exact ⟨0, by omega, fun _ h => absurd h hj⟩
      · exact ⟨0, by omega, fun h => absurd h hi⟩
    obtain ⟨L, hL⟩ : ∃ L : Nat → Nat → Nat, ∀ i j, L i j < 256 ∧ (i < len → j < 256 → W.cell? (a.add (i * 256 + j)) = some (.int .u8 ((L i j : Nat) : Int))) := ⟨fun i j => Classical.choose (each i j), fun i j => Classical.choose_spec (each i j)⟩
    refine ⟨L, hlen4, fun i j => (hL i j).1, fun i hi => ?_, (fun h => by cases h), by omega, by unfold reachBytes at hw0; omega⟩
    obtain ⟨b, off, spot⟩ := a
    have hspot : spot = none := hsp (by omega)
    subst hspot
    have cell : ∀ j, j < 256 → W.cell? ⟨b, off + i * 256 + j, none⟩ = some (.int .u8 ((L i j : Nat) : Int)) := fun j hj => by
      have := (hL i j).2 hi hj
      rw [Addr.add_mid] at this
      rw [Nat.add_assoc]
      exact this
    refine ⟨b, off, rfl, kcell_lt (cell 0 (by omega)), fun j v hv => ?_⟩
    have hj : j < 256 := by
      have := (List.getElem?_eq_some_iff.1 hv).1
      simpa using this
    rw [cell j hj, ← hv]
    simp [hj, iv]
end Go.Proofs.YtkpcgijdokhjkaaDoor

namespace Go.Proofs.YtkpcgijdokhjkaaDoor
open Go.ChangeShapes Go.WideShapes Go.ChangeAt Go.RowKit
theorem open_blocks2 {H : Type} {enc : TypeId × Value → H} {W : World} {a0 : Option Addr} {len cap fuel : Nat} {x : DataW H × List MemPlace}
    (hf : DataW.trod enc Tryd.prog W 0 (fun _ => true) true fuel 33 [.slice a0 len cap] = some x) (hsz : ∀ n ∈ x.1.weights Tryd.prog 33, n ≤ reachBytes) :
    ∃ L : Nat → Nat → Nat, len ≤ 9223372036854775807 ∧ ((∀ i j, L i j < 256) ∧ IsBlks W a0 len L) := by
  obtain ⟨L, h1, h2, h3, _⟩ := open_blocks hf hsz
  exact ⟨L, by omega, h2, h3⟩
end Go.Proofs.YtkpcgijdokhjkaaDoor
