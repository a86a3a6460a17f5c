/- Proved: for every three slices of texts the statement PathOrders, called with them, returns true: Compare answers the document's order, name by name, the other way round its negative, 0 just for the same lists, and it is transitive; and they read behind the call as they did before. No conditions. -/
import Derived.Test.YthoohhokoeihiabRows
import Derived.WalkKit
import Derived.ProofKit
import Derived.OpenShut
import Derived.Lib.SmallJoins
import Derived.Carry
import Derived.Deep.Slices
import Derived.SizedLaws
import Derived.Test.YthoohhokoeihiabHPaOpen
namespace Go.Proofs.Ythoohhokoeihiab.pathOrders
open Go.ChangeShapes Go.WideShapes Go.ChangeAt Go.RowKit Go.Joins
open Go.ChangeMaps (open_string shut_string)
set_option linter.unusedVariables false

theorem own : ownKnob Try.prog.godebug = none := by kernel_rfl
theorem laidOut : laidOutB Try.prog = true := by kernel_rfl


theorem walk (w : World) (a0 : Option Addr) (c0 : Nat) (N0 : List ByteArray) (hN0 : IsN w a0 N0) (hn0 : N0.length * 16 ≤ 140737488351232) (hS0 : ∀ s ∈ N0, s.size ≤ 9223372036854775807) (hz0 : a0 = none → N0.length = 0 ∧ c0 = 0) (hc0 : N0.length ≤ c0) (a1 : Option Addr) (c1 : Nat) (N1 : List ByteArray) (hN1 : IsN w a1 N1) (hn1 : N1.length * 16 ≤ 140737488351232) (hS1 : ∀ s ∈ N1, s.size ≤ 9223372036854775807) (hz1 : a1 = none → N1.length = 0 ∧ c1 = 0) (hc1 : N1.length ≤ c1) (a2 : Option Addr) (c2 : Nat) (N2 : List ByteArray) (hN2 : IsN w a2 N2) (hn2 : N2.length * 16 ≤ 140737488351232) (hS2 : ∀ s ∈ N2, s.size ≤ 9223372036854775807) (hz2 : a2 = none → N2.length = 0 ∧ c2 = 0) (hc2 : N2.length ≤ c2) :
    Calls Try.prog 3 #[.slice a0 N0.length c0, .slice a1 N1.length c1, .slice a2 N2.length c2] w fun e w' => e = .returned (.bool true) ∧ Below w.heap.size w w' := by
  exact pathOrdersLaw a0 a1 a2 c0 c1 c2 N0 N1 N2 w hN0 hN1 hN2 (by omega) (by omega) (by omega)

set_option maxRecDepth 100000 in
theorem lifted (os : Os) (started : os.Started) (H : Type) (enc : TypeId × Value → H) :
    ReturnsInHanded {} Try.checked os 3 .any (Rows.pathOrdersSpec.pre6 enc Try.prog Try.f3 Rows.pathOrdersRow.domain false) (Rows.pathOrdersSpec.post enc Try.prog Try.f3 false true false false) := by
  refine returnsInHanded_of_change_sized (C := Try.checked) own started (by kernel_rfl) Try.func3
    (ChangeSpec.witness6 (enc := enc) (C := Try.checked) false ⟨#[], #[.slice none 0 0, .slice none 0 0, .slice none 0 0], []⟩ 8 (by kernel_rfl) (by kernel_rfl) (by kernel_rfl) (by kernel_rfl)) ?_
  intro W base args ds gs before hval0 hW hcnd hsz0 _
  have hval : ∀ (j : Nat) t v, Try.f3.params[j]? = some t → args[j]? = some v → Value.okWide Try.prog W .any base t v := hval0
  have hW' := hW
  obtain ⟨p, q, hA0, hV, rfl, hfz, hnd⟩ := hW
  have hA : DataW.TrodAll enc Try.prog W 0 (fun _ => true) true Try.f3.params.toList args.toList ds p := hA0
  rw [Try.params3] at hA hval hsz0
  obtain ⟨v0, vs0, d0, ds0, p0, q0, hargs, rfl, rfl, h0, r0⟩ := trodAll_cons hA
  obtain ⟨v1, vs1, d1, ds1, p1, q1, rfl, rfl, rfl, h1, r1⟩ := trodAll_cons r0
  obtain ⟨v2, vs2, d2, ds2, p2, q2, rfl, rfl, rfl, h2, r2⟩ := trodAll_cons r1
  obtain ⟨rfl, rfl, rfl⟩ := trodAll_nil r2
  obtain rfl : args = #[v0, v1, v2] := by cases args; simp_all
  obtain ⟨rfl, rfl⟩ := trodVars_none hV
  have k0 := h0
  have lt0 : ∀ x ∈ p0, x.block < W.heap.size := by obtain ⟨m, hm⟩ := k0; exact DataW.trod_lt m _ _ _ hm
  have k1 := h1
  have lt1 : ∀ x ∈ p1, x.block < W.heap.size := by obtain ⟨m, hm⟩ := k1; exact DataW.trod_lt m _ _ _ hm
  have k2 := h2
  have lt2 : ∀ x ∈ p2, x.block < W.heap.size := by obtain ⟨m, hm⟩ := k2; exact DataW.trod_lt m _ _ _ hm
  obtain ⟨a0, n0, c0, rfl⟩ := okWide_slice Try.underlying22 (hval 0 22 v0 rfl rfl)
  obtain ⟨N0, hl0, hN0, hn0, hS0, hz0, hc0⟩ : ∃ N : List ByteArray, N.length = n0 ∧ IsN W a0 N ∧ n0 * 16 ≤ 140737488351232 ∧ (∀ s ∈ N, s.size ≤ 9223372036854775807) ∧ (a0 = none → n0 = 0 ∧ c0 = 0) ∧ n0 ≤ c0 := by
    obtain ⟨fuel, hf⟩ := h0
    refine open_names hf fun n hn => ?_
    have := List.all_eq_true.1 hsz0 _ (DataW.weights_mem_each (j := 0) (t := 22) (d := d0) rfl rfl n hn)
    simpa using this
  subst hl0
  obtain ⟨a1, n1, c1, rfl⟩ := okWide_slice Try.underlying22 (hval 1 22 v1 rfl rfl)
  obtain ⟨N1, hl1, hN1, hn1, hS1, hz1, hc1⟩ : ∃ N : List ByteArray, N.length = n1 ∧ IsN W a1 N ∧ n1 * 16 ≤ 140737488351232 ∧ (∀ s ∈ N, s.size ≤ 9223372036854775807) ∧ (a1 = none → n1 = 0 ∧ c1 = 0) ∧ n1 ≤ c1 := by
    obtain ⟨fuel, hf⟩ := h1
    refine open_names hf fun n hn => ?_
    have := List.all_eq_true.1 hsz0 _ (DataW.weights_mem_each (j := 1) (t := 22) (d := d1) rfl rfl n hn)
    simpa using this
  subst hl1
  obtain ⟨a2, n2, c2, rfl⟩ := okWide_slice Try.underlying22 (hval 2 22 v2 rfl rfl)
  obtain ⟨N2, hl2, hN2, hn2, hS2, hz2, hc2⟩ : ∃ N : List ByteArray, N.length = n2 ∧ IsN W a2 N ∧ n2 * 16 ≤ 140737488351232 ∧ (∀ s ∈ N, s.size ≤ 9223372036854775807) ∧ (a2 = none → n2 = 0 ∧ c2 = 0) ∧ n2 ≤ c2 := by
    obtain ⟨fuel, hf⟩ := h2
    refine open_names hf fun n hn => ?_
    have := List.all_eq_true.1 hsz0 _ (DataW.weights_mem_each (j := 2) (t := 22) (d := d2) rfl rfl n hn)
    simpa using this
  subst hl2
  clear hA0 hval0
  simp only [List.append_nil] at hW'

  refine (walk W a0 c0 N0 hN0 hn0 hS0 hz0 hc0 a1 c1 N1 hN1 hn1 hS1 hz1 hc1 a2 c2 N2 hN2 hn2 hS2 hz2 hc2).mono fun e W' ⟨he, hg⟩ => ?_
  subst he
  exact ⟨_, rfl, _, _, _, [], _, [], hW', trodAll_mk1 (shut_bool Try.underlying4 _), (trodAll_cons_mk (Below.trod laidOut (by kernel_rfl) (of_decide_eq_true (by kernel_rfl)) k0 hg lt0) (trodAll_cons_mk (Below.trod laidOut (by kernel_rfl) (of_decide_eq_true (by kernel_rfl)) k1 hg lt1) (trodAll_cons_mk (Below.trod laidOut (by kernel_rfl) (of_decide_eq_true (by kernel_rfl)) k2 hg lt2) trodAll_mk0))), rfl, hg.frame _, fun h => by cases h⟩

theorem over : Rows.pathOrdersRow.holds Try.pinned (OpenSpec.ofChange Rows.pathOrdersSpec) :=
  OpenClaim.holds_of_wide 3 Try.f3 rfl rfl rfl rfl rfl rfl rfl ⟨rfl, rfl, rfl, rfl, rfl⟩ rfl rfl rfl rfl rfl (by kernel_rfl) Try.func3 (by kernel_rfl)
    (of_decide_eq_true (by kernel_rfl)) (by unfold Func.isWrapper; first | (rw [if_pos (by decide +kernel)]; kernel_rfl) | (rw [if_neg (by decide +kernel)]; exact ⟨rfl, rfl⟩))
    (fun os started H enc _ => lifted os started H enc)
end Go.Proofs.Ythoohhokoeihiab.pathOrders

namespace Go.Proofs.Ythoohhokoeihiab
theorem pathOrders_holds : Rows.PathOrdersSaid := pathOrders.over
#print axioms pathOrders_holds
end Go.Proofs.Ythoohhokoeihiab
