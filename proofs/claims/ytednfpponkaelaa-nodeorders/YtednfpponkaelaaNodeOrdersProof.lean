/- Proved: for every slice of references the statement NodeOrders, called with it, returns true: Compare answers as the document's, for any two of them; Unlike answers each reference once, in that order; what is handed in stays; and the slice reads behind the call as it did before. No conditions. -/
import Derived.Test.YtednfpponkaelaaRows
import Derived.WalkKit
import Derived.ProofKit
import Derived.OpenShut
import Derived.Lib.SmallJoins
import Derived.Carry
import Derived.Deep.Slices
import Derived.SizedLaws
import Derived.Test.YtednfpponkaelaaHNoLaw
import Derived.Test.YtednfpponkaelaaHSegsP
namespace Go.Proofs.Ytednfpponkaelaa.nodeOrders
open Go.ChangeShapes Go.WideShapes Go.ChangeAt Go.RowKit Go.Joins
open Go.ChangeMaps (open_string shut_string)
set_option linter.unusedVariables false

theorem own : ownKnob Try.prog.godebug = none := by kernel_rfl
theorem laidOut : laidOutB Try.prog = true := by kernel_rfl


theorem walk (w : World) (a0 : Option Addr) (n0 c0 : Nat) (L0 : List Rf) (hl0 : L0.length = n0) (hn0 : n0 * 36 ≤ 140737488351232) (hN0 : a0 = none → n0 = 0 ∧ c0 = 0) (hR0 : ∀ x ∈ L0, Rw x) (hI0 : IsL w a0 L0) :
    Calls Try.prog 3 #[.slice a0 n0 c0] w fun e w' => e = .returned (.bool true) ∧ Below w.heap.size w w' := by
  exact nodeOrdersLaw a0 n0 c0 L0 hl0 hn0 hN0 hR0 w hI0

set_option maxRecDepth 100000 in
theorem lifted (os : Os) (started : os.Started) (H : Type) (enc : TypeId × Value → H) :
    ReturnsInHanded {} Try.checked os 3 .any (Rows.nodeOrdersSpec.pre6 enc Try.prog Try.f3 Rows.nodeOrdersRow.domain false) (Rows.nodeOrdersSpec.post enc Try.prog Try.f3 false true false false) := by
  refine returnsInHanded_of_change_sized (C := Try.checked) own started (by kernel_rfl) Try.func3
    (ChangeSpec.witness6 (enc := enc) (C := Try.checked) false ⟨#[], #[.slice none 0 0], []⟩ 8 (by kernel_rfl) (by kernel_rfl) (by kernel_rfl) (by kernel_rfl)) ?_
  intro W base args ds gs before hval0 hW hcnd hsz0 _
  have hval : ∀ (j : Nat) t v, Try.f3.params[j]? = some t → args[j]? = some v → Value.okWide Try.prog W .any base t v := hval0
  have hW' := hW
  obtain ⟨p, q, hA0, hV, rfl, hfz, hnd⟩ := hW
  have hA : DataW.TrodAll enc Try.prog W 0 (fun _ => true) true Try.f3.params.toList args.toList ds p := hA0
  rw [Try.params3] at hA hval hsz0
  obtain ⟨v0, vs0, d0, ds0, p0, q0, hargs, rfl, rfl, h0, r0⟩ := trodAll_cons hA
  obtain ⟨rfl, rfl, rfl⟩ := trodAll_nil r0
  obtain rfl : args = #[v0] := by cases args; simp_all
  obtain ⟨rfl, rfl⟩ := trodVars_none hV
  have k0 := h0
  have lt0 : ∀ x ∈ p0, x.block < W.heap.size := by obtain ⟨m, hm⟩ := k0; exact DataW.trod_lt m _ _ _ hm
  obtain ⟨a0, n0, c0, rfl⟩ := okWide_slice Try.underlying22 (hval 0 22 v0 rfl rfl)
  obtain ⟨L0, hl0, hn0, hN0, hR0, hI0⟩ : ∃ L : List Rf, L.length = n0 ∧ n0 * 36 ≤ 140737488351232 ∧ (a0 = none → n0 = 0 ∧ c0 = 0) ∧ (∀ x ∈ L, Rw x) ∧ IsL W a0 L := by
    obtain ⟨fuel, hf⟩ := h0
    refine open_refsN hf fun n hn => ?_
    have := List.all_eq_true.1 hsz0 _ (DataW.weights_mem_each (j := 0) (t := 22) (d := d0) rfl rfl n hn)
    simpa using this
  clear hA0 hval0
  simp only [List.append_nil] at hW'

  refine (walk W a0 n0 c0 L0 hl0 hn0 hN0 hR0 hI0).mono fun e W' ⟨he, hg⟩ => ?_
  subst he
  exact ⟨_, rfl, _, _, _, [], _, [], hW', trodAll_mk1 (shut_bool Try.underlying4 _), (trodAll_cons_mk (Below.trod laidOut (by kernel_rfl) (of_decide_eq_true (by kernel_rfl)) k0 hg lt0) trodAll_mk0), rfl, hg.frame _, fun h => by cases h⟩

theorem over : Rows.nodeOrdersRow.holds Try.pinned (OpenSpec.ofChange Rows.nodeOrdersSpec) :=
  OpenClaim.holds_of_wide 3 Try.f3 rfl rfl rfl rfl rfl rfl rfl ⟨rfl, rfl, rfl, rfl, rfl⟩ rfl rfl rfl rfl rfl (by kernel_rfl) Try.func3 (by kernel_rfl)
    (of_decide_eq_true (by kernel_rfl)) (by unfold Func.isWrapper; first | (rw [if_pos (by decide +kernel)]; kernel_rfl) | (rw [if_neg (by decide +kernel)]; exact ⟨rfl, rfl⟩))
    (fun os started H enc _ => lifted os started H enc)
end Go.Proofs.Ytednfpponkaelaa.nodeOrders

namespace Go.Proofs.Ytednfpponkaelaa
theorem nodeOrders_holds : Rows.NodeOrdersSaid := nodeOrders.over
#print axioms nodeOrders_holds
end Go.Proofs.Ytednfpponkaelaa
