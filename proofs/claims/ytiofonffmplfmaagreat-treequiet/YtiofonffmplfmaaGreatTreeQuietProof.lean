/- Proved: for every world (height, leaves, blocks written over, turn, cache) the statement TreeQuiet, called with it, returns true: on a quiet disk each leaf is what was laid last at its place, and zeros where nothing was laid, and Range of one leaf is that leaf; and the world reads behind the call as it did before. No conditions. -/
import Derived.Test.YtiofonffmplfmaaGreatRows
import Derived.WalkKit
import Derived.ProofKit
import Derived.OpenShut
import Derived.Lib.SmallJoins
import Derived.Carry
import Derived.Deep.Slices
import Derived.SizedLaws
import Derived.Test.YtiofonffmplfmaaGreatHTreeQuietLaw
import Derived.Test.YtiofonffmplfmaaGreatHWoOpen
namespace Go.Proofs.YtiofonffmplfmaaGreat.treeQuiet
open Go.ChangeShapes Go.WideShapes Go.ChangeAt Go.RowKit Go.Joins
open Go.ChangeMaps (open_string shut_string)
set_option linter.unusedVariables false

theorem own : ownKnob Tryz.prog.godebug = none := by kernel_rfl
theorem laidOut : laidOutB Tryz.prog = true := by kernel_rfl


theorem walk (w : World) (xh0 : Int) (xa0 : Option Addr) (xn0 xc0 : Nat) (xb0 : Option Addr) (xm0 xd0 : Nat) (xt0 xu0 : Int) (A0 : Nat → Int) (Y0 : Nat → Nat) (Z0 : Nat → Int) (hW0 : Wo w xh0 xa0 xn0 xb0 xm0 xt0 xu0 A0 Y0 Z0) :
    Calls Tryz.prog 4 #[.agg (woC xh0 xa0 xn0 xc0 xb0 xm0 xd0 xt0 xu0)] w fun e w' => e = .returned (.bool true) ∧ Below w.heap.size w w' := by
  exact treeQuietLaw w hW0

set_option maxRecDepth 100000 in
theorem lifted (os : Os) (started : os.Started) (H : Type) (enc : TypeId × Value → H) :
    ReturnsInHanded {} Tryz.checked os 4 .any (Rows.treeQuietSpec.pre6 enc Tryz.prog Tryz.f4 Rows.treeQuietRow.domain false) (Rows.treeQuietSpec.post enc Tryz.prog Tryz.f4 false true false false) := by
  refine returnsInHanded_of_change_sized (C := Tryz.checked) own started (by kernel_rfl) Tryz.func4
    (ChangeSpec.witness6 (enc := enc) (C := Tryz.checked) false ⟨#[], #[.agg #[.int .i64 0, .slice none 0 0, .slice none 0 0, .int .i64 0, .int .i64 0]], []⟩ 8 (by kernel_rfl) (by kernel_rfl) (by kernel_rfl) (by kernel_rfl)) ?_
  intro W base args ds gs before hval0 hW hcnd hsz0 _
  have hval : ∀ (j : Nat) t v, Tryz.f4.params[j]? = some t → args[j]? = some v → Value.okWide Tryz.prog W .any base t v := hval0
  have hW' := hW
  obtain ⟨p, q, hA0, hV, rfl, hfz, hnd⟩ := hW
  have hA : DataW.TrodAll enc Tryz.prog W 0 (fun _ => true) true Tryz.f4.params.toList args.toList ds p := hA0
  rw [Tryz.params4] at hA hval hsz0
  obtain ⟨v0, vs0, d0, ds0, p0, q0, hargs, rfl, rfl, h0, r0⟩ := trodAll_cons hA
  obtain ⟨rfl, rfl, rfl⟩ := trodAll_nil r0
  obtain rfl : args = #[v0] := by cases args; simp_all
  obtain ⟨rfl, rfl⟩ := trodVars_none hV
  have k0 := h0
  have lt0 : ∀ x ∈ p0, x.block < W.heap.size := by obtain ⟨m, hm⟩ := k0; exact DataW.trod_lt m _ _ _ hm
  obtain ⟨xh0, xa0, xn0, xc0, xb0, xm0, xd0, xt0, xu0, A0, Y0, Z0, rfl, hW0⟩ := open_world (hval 0 25 v0 rfl rfl) h0 fun n hn => by
    have := List.all_eq_true.1 hsz0 _ (DataW.weights_mem_each (j := 0) (t := 25) (d := d0) rfl rfl n hn)
    simpa using this
  clear hA0 hval0
  simp only [List.append_nil] at hW'

  refine (walk W xh0 xa0 xn0 xc0 xb0 xm0 xd0 xt0 xu0 A0 Y0 Z0 hW0).mono fun e W' ⟨he, hg⟩ => ?_
  subst he
  exact ⟨_, rfl, _, _, _, [], _, [], hW', trodAll_mk1 (shut_bool Tryz.underlying4 _), (trodAll_cons_mk (Below.trod laidOut (by kernel_rfl) (of_decide_eq_true (by kernel_rfl)) k0 hg lt0) trodAll_mk0), rfl, hg.frame _, fun h => by cases h⟩

theorem over : Rows.treeQuietRow.holds Tryz.pinned (OpenSpec.ofChange Rows.treeQuietSpec) :=
  OpenClaim.holds_of_wide 4 Tryz.f4 rfl rfl rfl rfl rfl rfl rfl ⟨rfl, rfl, rfl, rfl, rfl⟩ rfl rfl rfl rfl rfl (by kernel_rfl) Tryz.func4 (by kernel_rfl)
    (of_decide_eq_true (by kernel_rfl)) (by unfold Func.isWrapper; first | (rw [if_pos (by decide +kernel)]; kernel_rfl) | (rw [if_neg (by decide +kernel)]; exact ⟨rfl, rfl⟩))
    (fun os started H enc _ => lifted os started H enc)
end Go.Proofs.YtiofonffmplfmaaGreat.treeQuiet

namespace Go.Proofs.YtiofonffmplfmaaGreat
theorem treeQuiet_holds : Rows.TreeQuietSaid := treeQuiet.over
#print axioms treeQuiet_holds
end Go.Proofs.YtiofonffmplfmaaGreat
