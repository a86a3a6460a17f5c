/- Proved: for every slice of texts the statement PathPrints, called with it, returns true: Print answers what the document's words say (the one form, or the place and the number of the first error), and the slice that is handed to Print stays; and the argument reads behind the call as it did before. No conditions. -/
import Derived.Test.YthoohhokoeihiaaRows
import Derived.WalkKit
import Derived.ProofKit
import Derived.OpenShut
import Derived.Lib.SmallJoins
import Derived.Carry
import Derived.Deep.Slices
import Derived.SizedLaws
import Derived.Test.YthoohhokoeihiaaHPaOpen
namespace Go.Proofs.Ythoohhokoeihiaa.pathPrints
open Go.ChangeShapes Go.WideShapes Go.ChangeAt Go.RowKit Go.Joins
open Go.ChangeMaps (open_string shut_string)
set_option linter.unusedVariables false

theorem own : ownKnob Try.prog.godebug = none := by kernel_rfl
theorem laidOut : laidOutB Try.prog = true := by kernel_rfl


theorem walk (w : World) (a0 : Option Addr) (c0 : Nat) (N0 : List ByteArray) (hN0 : IsN w a0 N0) (hn0 : N0.length * 16 ≤ 140737488351232) (hS0 : ∀ s ∈ N0, s.size ≤ 9223372036854775807) (hz0 : a0 = none → N0.length = 0 ∧ c0 = 0) (hc0 : N0.length ≤ c0) :
    Calls Try.prog 4 #[.slice a0 N0.length c0] w fun e w' => e = .returned (.bool true) ∧ Below w.heap.size w w' := by
  exact pathPrintsLaw a0 c0 N0 w hN0 hn0 hS0 hz0

set_option maxRecDepth 100000 in
theorem lifted (os : Os) (started : os.Started) (H : Type) (enc : TypeId × Value → H) :
    ReturnsInHanded {} Try.checked os 4 .any (Rows.pathPrintsSpec.pre6 enc Try.prog Try.f4 Rows.pathPrintsRow.domain false) (Rows.pathPrintsSpec.post enc Try.prog Try.f4 false true false false) := by
  refine returnsInHanded_of_change_sized (C := Try.checked) own started (by kernel_rfl) Try.func4
    (ChangeSpec.witness6 (enc := enc) (C := Try.checked) false ⟨#[], #[.slice none 0 0], []⟩ 8 (by kernel_rfl) (by kernel_rfl) (by kernel_rfl) (by kernel_rfl)) ?_
  intro W base args ds gs before hval0 hW hcnd hsz0 _
  have hval : ∀ (j : Nat) t v, Try.f4.params[j]? = some t → args[j]? = some v → Value.okWide Try.prog W .any base t v := hval0
  have hW' := hW
  obtain ⟨p, q, hA0, hV, rfl, hfz, hnd⟩ := hW
  have hA : DataW.TrodAll enc Try.prog W 0 (fun _ => true) true Try.f4.params.toList args.toList ds p := hA0
  rw [Try.params4] at hA hval hsz0
  obtain ⟨v0, vs0, d0, ds0, p0, q0, hargs, rfl, rfl, h0, r0⟩ := trodAll_cons hA
  obtain ⟨rfl, rfl, rfl⟩ := trodAll_nil r0
  obtain rfl : args = #[v0] := by cases args; simp_all
  obtain ⟨rfl, rfl⟩ := trodVars_none hV
  have k0 := h0
  have lt0 : ∀ x ∈ p0, x.block < W.heap.size := by obtain ⟨m, hm⟩ := k0; exact DataW.trod_lt m _ _ _ hm
  obtain ⟨a0, n0, c0, rfl⟩ := okWide_slice Try.underlying23 (hval 0 23 v0 rfl rfl)
  obtain ⟨N0, hl0, hN0, hn0, hS0, hz0, hc0⟩ : ∃ N : List ByteArray, N.length = n0 ∧ IsN W a0 N ∧ n0 * 16 ≤ 140737488351232 ∧ (∀ s ∈ N, s.size ≤ 9223372036854775807) ∧ (a0 = none → n0 = 0 ∧ c0 = 0) ∧ n0 ≤ c0 := by
    obtain ⟨fuel, hf⟩ := h0
    refine open_names hf fun n hn => ?_
    have := List.all_eq_true.1 hsz0 _ (DataW.weights_mem_each (j := 0) (t := 23) (d := d0) rfl rfl n hn)
    simpa using this
  subst hl0
  clear hA0 hval0
  simp only [List.append_nil] at hW'

  refine (walk W a0 c0 N0 hN0 hn0 hS0 hz0 hc0).mono fun e W' ⟨he, hg⟩ => ?_
  subst he
  exact ⟨_, rfl, _, _, _, [], _, [], hW', trodAll_mk1 (shut_bool Try.underlying4 _), (trodAll_cons_mk (Below.trod laidOut (by kernel_rfl) (of_decide_eq_true (by kernel_rfl)) k0 hg lt0) trodAll_mk0), rfl, hg.frame _, fun h => by cases h⟩

theorem over : Rows.pathPrintsRow.holds Try.pinned (OpenSpec.ofChange Rows.pathPrintsSpec) :=
  OpenClaim.holds_of_wide 4 Try.f4 rfl rfl rfl rfl rfl rfl rfl ⟨rfl, rfl, rfl, rfl, rfl⟩ rfl rfl rfl rfl rfl (by kernel_rfl) Try.func4 (by kernel_rfl)
    (of_decide_eq_true (by kernel_rfl)) (by unfold Func.isWrapper; first | (rw [if_pos (by decide +kernel)]; kernel_rfl) | (rw [if_neg (by decide +kernel)]; exact ⟨rfl, rfl⟩))
    (fun os started H enc _ => lifted os started H enc)
end Go.Proofs.Ythoohhokoeihiaa.pathPrints

namespace Go.Proofs.Ythoohhokoeihiaa
theorem pathPrints_holds : Rows.PathPrintsSaid := pathPrints.over
#print axioms pathPrints_holds
end Go.Proofs.Ythoohhokoeihiaa
