/- A block as an argument. -/
import Derived.OpenShut
import Derived.Test.YtgpghdhkbliodaaDoorHBytesRef

namespace Go.Proofs.YtgpghdhkbliodaaDoor
open Go Go.ChangeShapes Go.WideShapes

section
variable {H : Type} {enc : TypeId × Value → H} {P : Program} {w : World} {base : Nat} {spare : Nat → Bool} {held : Bool}

theorem okWide_array {r : Reach} {b0 : Nat} {t e : TypeId} {n : Nat} {v : Value} (ht : P.underlying t = some (.array n e)) (h : Value.okWide P w r b0 t v) : ∃ cs, v = .agg cs ∧ cs.size = P.cellsOf t := by
  simp only [Value.okWide, ht] at h
  obtain ⟨cs, h1, h2, _⟩ := h
  exact ⟨cs, h1, h2⟩

theorem mapM_same {α β : Type} {f g : α → Option β} : ∀ {l : List α}, (∀ x ∈ l, f x = g x) → l.mapM f = l.mapM g
  | [], _ => rfl
  | a :: l, h => by
    simp only [List.mapM_cons]
    rw [h a (by simp), mapM_same fun x hx => h x (by simp [hx])]

theorem trod_int_any {k : IntKind} {e : TypeId} (he : P.underlying e = some (.int k)) {m : Nat} {cs : List Value} {x : DataW H × List MemPlace} (h : DataW.trod enc P w base spare held m e cs = some x)
    (w1 : World) (sp : Nat → Bool) : DataW.trod enc P w1 base sp held m e cs = some x := by
  cases m with
  | zero => simp [DataW.trod] at h
  | succ m =>
    obtain ⟨n, rfl, rfl, hw⟩ := DataW.trod_int he h
    simp [DataW.trod, he, hw]

theorem open_ints {r : Reach} {b0 : Nat} {t e : TypeId} {n : Nat} {k : IntKind} {v : Value} {d : DataW H} {p : List MemPlace} (ht : P.underlying t = some (.array n e)) (he : P.underlying e = some (.int k)) (hce : P.cellsOf e = 1) (hct : P.cellsOf t = n)
    (hv : Value.okWide P w r b0 t v) (h : DataW.Trod enc P w base spare held t v d p) :
    ∃ xs : List Int, xs.length = n ∧ v = .agg (xs.map (Value.int k)).toArray ∧ (∀ x ∈ xs, (Lit.int k x).wf = true) ∧ p = [] ∧ ∀ (w1 : World) (sp : Nat → Bool), DataW.Trod enc P w1 base sp held t v d [] := by
  obtain ⟨cs, rfl, hsz⟩ := okWide_array ht hv
  obtain ⟨fuel, hf⟩ := h
  obtain ⟨xs, m, rfl, hx, hl, hn, hall⟩ := DataW.trod_array ht hf
  have hl' : (Value.agg cs).cells.toList.length = n := hl.trans hct
  have hcs : (Value.agg cs).cells = cs := rfl
  rw [hcs] at hl' hall hf
  have elem : ∀ i, i < n → ∃ z : Int, cs.toList[i]? = some (.int k z) ∧ xs[i]? = some (.lit (.int k z), []) ∧ (Lit.int k z).wf = true := fun i hi => by
    have h1 := hall i hi
    have hget : xs[i]? = some xs[i] := List.getElem?_eq_getElem (by omega)
    rw [hget, hce, Nat.mul_one] at h1
    obtain ⟨z, hz, hz2, hz3⟩ := DataW.trod_int he h1
    refine ⟨z, ?_, by rw [hget, hz2], hz3⟩
    have h2 : (cs.toList.drop i).head? = some (.int k z) := by
      cases hd : cs.toList.drop i with
      | nil => rw [hd] at hz; simp at hz
      | cons a l => rw [hd] at hz; simp at hz; rw [hz]; rfl
    rw [List.head?_drop] at h2
    exact h2
  have hp : p = [] := by
    simp only [Prod.mk.injEq] at hx
    rw [hx.2]
    have : ∀ y ∈ xs, y.2 = [] := fun y hy => by
      obtain ⟨i, hi, rfl⟩ := List.getElem_of_mem hy
      obtain ⟨z, _, h2, _⟩ := elem i (by omega)
      rw [List.getElem?_eq_getElem hi] at h2
      simp only [Option.some.injEq] at h2
      rw [h2]
    exact List.flatMap_eq_nil_iff.2 this
  refine ⟨cs.toList.map fun v => match v with | .int _ z => z | _ => 0, by simpa using hl', ?_, ?_, hp, fun w1 sp => ⟨m + 1, ?_⟩⟩
  · congr 1
    apply Array.ext_getElem?
    intro i
    simp only [List.map_map, List.getElem?_toArray, List.getElem?_map]
    by_cases hi : i < n
    · obtain ⟨z, h1, _, _⟩ := elem i hi
      have h2 : cs[i]? = some (.int k z) := by simpa using h1
      rw [h2, h1]; rfl
    · have h1 : cs[i]? = none := Array.getElem?_eq_none (by simp at hl'; omega)
      have h2 : cs.toList[i]? = none := List.getElem?_eq_none (by omega)
      rw [h1, h2]; rfl
  · intro x hx2
    obtain ⟨v, hv2, rfl⟩ := List.mem_map.1 hx2
    obtain ⟨i, hi, rfl⟩ := List.getElem_of_mem hv2
    obtain ⟨z, h1, _, h3⟩ := elem i (by omega)
    rw [List.getElem?_eq_getElem hi] at h1
    simp only [Option.some.injEq] at h1
    rw [h1]; exact h3
  · rw [hp] at hf
    rw [hcs]
    unfold DataW.trod at hf ⊢
    rw [ht] at hf ⊢
    simp only at hf ⊢
    rw [mapM_same (g := fun i => DataW.trod enc P w base spare held m e ((cs.toList.drop (i * P.cellsOf e)).take (P.cellsOf e))) (fun i hi => ?_)]
    · exact hf
    · have hi' : i < n := by simpa using hi
      have h1 := hall i hi'
      have hget : xs[i]? = some xs[i] := List.getElem?_eq_getElem (by omega)
      rw [hget] at h1
      rw [h1]
      exact trod_int_any he h1 w1 sp
end
end Go.Proofs.YtgpghdhkbliodaaDoor

namespace Go.Proofs.YtgpghdhkbliodaaDoor
open Go Go.RowKit Go.ChangeShapes
theorem bytes_bk {l : List Int} (hl : l.length = 256) (hw : ∀ x ∈ l, (Lit.int .u8 x).wf = true) : ∃ f : Nat → Nat, (∀ i, f i < 256) ∧ Value.agg (l.map (Value.int .u8)).toArray = bkV f := by
  have hb : ∀ i, 0 ≤ l.getD i 0 ∧ l.getD i 0 < 256 := fun i => by
    rw [List.getD_eq_getElem?_getD]
    cases hq : l[i]? with
    | none => exact ⟨by decide, by decide⟩
    | some x =>
      have := hw x (List.mem_of_getElem? hq)
      have h2 := bounds_u8 this
      simp only [Option.getD_some]
      omega
  refine ⟨fun i => (l.getD i 0).toNat, fun i => by have := hb i; show (l.getD i 0).toNat < 256; omega, ?_⟩
  unfold bkV
  congr 1
  apply Array.ext_getElem?
  intro i
  by_cases hi : i < 256
  · rw [va_at _ hi]
    have hget : l[i]? = some l[i] := List.getElem?_eq_getElem (by omega)
    simp only [List.getElem?_toArray, List.getElem?_map, hget, Option.map_some]
    have h2 := hb i
    rw [List.getD_eq_getElem?_getD, hget] at h2
    simp only [Option.getD_some] at h2
    unfold iv
    show _ = some (Value.int .u8 (((l.getD i 0).toNat : Nat) : Int))
    rw [List.getD_eq_getElem?_getD, hget, Option.getD_some, Int.toNat_of_nonneg h2.1]
  · rw [Array.getElem?_eq_none (by simp; omega), Array.getElem?_eq_none (by rw [va_size]; omega)]
end Go.Proofs.YtgpghdhkbliodaaDoor
