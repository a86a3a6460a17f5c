/- Proved: for every script of deeds the statement FilePlays, called with it, returns true: a file that is written, appended to, cut and made nothing in every order has the bytes, the size and the stamp that the document says behind each deed, and another one and a clone know nothing of it; and the script reads behind the call as it did before. No conditions. -/
import Derived.Test.YtojbgggkfahkfaaGreatRows
import Derived.WalkKit
import Derived.ProofKit
import Derived.OpenShut
import Derived.Lib.SmallJoins
import Derived.Carry
import Derived.Deep.Slices
import Derived.SizedLaws
import Derived.Test.YtojbgggkfahkfaaGreatHBlkLay
import Derived.Test.YtojbgggkfahkfaaGreatHFlPlaysLaw
namespace Go.Proofs.YtojbgggkfahkfaaGreat.filePlays
open Go.ChangeShapes Go.WideShapes Go.ChangeAt Go.RowKit Go.Joins
open Go.ChangeMaps (open_string shut_string)
set_option linter.unusedVariables false

theorem own : ownKnob Tryz.prog.godebug = none := by kernel_rfl
theorem laidOut : laidOutB Tryz.prog = true := by kernel_rfl


theorem walk (w : World) (a0 : Option Addr) (n0 c0 : Nat) (A0 : Nat → Ac) (hn0 : n0 * 48 ≤ 140737488351232) (hK0 : ∀ i, i < n0 → (A0 i).ok) (hB0 : IsA16 w a0 n0 A0) :
    Calls Tryz.prog 3 #[.slice a0 n0 c0] w fun e w' => e = .returned (.bool true) ∧ Below w.heap.size w w' := by
  exact filePlaysLaw a0 n0 c0 A0 hn0 hK0 w hB0

set_option maxRecDepth 100000 in
theorem lifted (os : Os) (started : os.Started) (H : Type) (enc : TypeId × Value → H) :
    ReturnsInHanded {} Tryz.checked os 3 .any (Rows.filePlaysSpec.pre6 enc Tryz.prog Tryz.f3 Rows.filePlaysRow.domain false) (Rows.filePlaysSpec.post enc Tryz.prog Tryz.f3 false true false false) := by
  refine returnsInHanded_of_change_sized (C := Tryz.checked) own started (by kernel_rfl) Tryz.func3
    (ChangeSpec.witness6 (enc := enc) (C := Tryz.checked) false ⟨#[], #[.slice none 0 0], []⟩ 8 (by kernel_rfl) (by kernel_rfl) (by kernel_rfl) (by kernel_rfl)) ?_
  intro W base args ds gs before hval0 hW hcnd hsz0 _
  have hval : ∀ (j : Nat) t v, Tryz.f3.params[j]? = some t → args[j]? = some v → Value.okWide Tryz.prog W .any base t v := hval0
  have hW' := hW
  obtain ⟨p, q, hA0, hV, rfl, hfz, hnd⟩ := hW
  have hA : DataW.TrodAll enc Tryz.prog W 0 (fun _ => true) true Tryz.f3.params.toList args.toList ds p := hA0
  rw [Tryz.params3] at hA hval hsz0
  obtain ⟨v0, vs0, d0, ds0, p0, q0, hargs, rfl, rfl, h0, r0⟩ := trodAll_cons hA
  obtain ⟨rfl, rfl, rfl⟩ := trodAll_nil r0
  obtain rfl : args = #[v0] := by cases args; simp_all
  obtain ⟨rfl, rfl⟩ := trodVars_none hV
  have k0 := h0
  have lt0 : ∀ x ∈ p0, x.block < W.heap.size := by obtain ⟨m, hm⟩ := k0; exact DataW.trod_lt m _ _ _ hm
  obtain ⟨a0, n0, c0, rfl⟩ := okWide_slice Tryz.underlying22 (hval 0 22 v0 rfl rfl)
  obtain ⟨A0, hn0, hK0, hB0⟩ : ∃ A : Nat → Ac, n0 * 48 ≤ 140737488351232 ∧ (∀ i, i < n0 → (A i).ok) ∧ IsA16 W a0 n0 A := by
    obtain ⟨fuel, hf⟩ := h0
    obtain ⟨A, o1, _, o2, o3⟩ := open_acts16 hf fun n hn => by
      have := List.all_eq_true.1 hsz0 _ (DataW.weights_mem_each (j := 0) (t := 22) (d := d0) rfl rfl n hn)
      simpa using this
    exact ⟨A, o1, o2, o3⟩
  clear hA0 hval0
  simp only [List.append_nil] at hW'

  refine (walk W a0 n0 c0 A0 hn0 hK0 hB0).mono fun e W' ⟨he, hg⟩ => ?_
  subst he
  exact ⟨_, rfl, _, _, _, [], _, [], hW', trodAll_mk1 (shut_bool Tryz.underlying4 _), (trodAll_cons_mk (Below.trod laidOut (by kernel_rfl) (of_decide_eq_true (by kernel_rfl)) k0 hg lt0) trodAll_mk0), rfl, hg.frame _, fun h => by cases h⟩

theorem over : Rows.filePlaysRow.holds Tryz.pinned (OpenSpec.ofChange Rows.filePlaysSpec) :=
  OpenClaim.holds_of_wide 3 Tryz.f3 rfl rfl rfl rfl rfl rfl rfl ⟨rfl, rfl, rfl, rfl, rfl⟩ rfl rfl rfl rfl rfl (by kernel_rfl) Tryz.func3 (by kernel_rfl)
    (of_decide_eq_true (by kernel_rfl)) (by unfold Func.isWrapper; first | (rw [if_pos (by decide +kernel)]; kernel_rfl) | (rw [if_neg (by decide +kernel)]; exact ⟨rfl, rfl⟩))
    (fun os started H enc _ => lifted os started H enc)
end Go.Proofs.YtojbgggkfahkfaaGreat.filePlays

namespace Go.Proofs.YtojbgggkfahkfaaGreat
theorem filePlays_holds : Rows.FilePlaysSaid := filePlays.over
#print axioms filePlays_holds
end Go.Proofs.YtojbgggkfahkfaaGreat
