/- Proved: for every deed (a kind, two numbers, a byte and a stamp) the statement InodesNil, called with it, returns true: nil inodes, and a nil take, answer as the document says; and it reads behind the call as it did before. No conditions. -/
import Derived.Test.YtbcgpiocigjkoaaGreatRows
import Derived.WalkKit
import Derived.ProofKit
import Derived.OpenShut
import Derived.Lib.SmallJoins
import Derived.Carry
import Derived.Deep.Slices
import Derived.SizedLaws
import Derived.Test.YtbcgpiocigjkoaaGreatHDigText
import Derived.Test.YtbcgpiocigjkoaaGreatHInsNilLaw
namespace Go.Proofs.YtbcgpiocigjkoaaGreat.inodesNil
open Go.ChangeShapes Go.WideShapes Go.ChangeAt Go.RowKit Go.Joins
open Go.ChangeMaps (open_string shut_string)
set_option linter.unusedVariables false

theorem own : ownKnob Tryz.prog.godebug = none := by kernel_rfl
theorem laidOut : laidOutB Tryz.prog = true := by kernel_rfl


theorem walk (w : World) (kd0 n0 a0 f0 t0 : Int) (wk0 : (Lit.int .i64 kd0).wf = true) (wn0 : (Lit.int .i64 n0).wf = true) (wa0 : (Lit.int .i64 a0).wf = true) (wf0 : (Lit.int .u8 f0).wf = true) (wt0 : (Lit.int .u64 t0).wf = true) :
    Calls Tryz.prog 4 #[.agg #[.int .i64 kd0, .int .i64 n0, .int .i64 a0, .int .u8 f0, .int .u64 t0]] w fun e w' => e = .returned (.bool true) ∧ Below w.heap.size w w' := by
  exact inodesNilLaw _ _ _ _ _ w

set_option maxRecDepth 100000 in
theorem lifted (os : Os) (started : os.Started) (H : Type) (enc : TypeId × Value → H) :
    ReturnsInHanded {} Tryz.checked os 4 .any (Rows.inodesNilSpec.pre6 enc Tryz.prog Tryz.f4 Rows.inodesNilRow.domain false) (Rows.inodesNilSpec.post enc Tryz.prog Tryz.f4 false true false false) := by
  refine returnsInHanded_of_change_sized (C := Tryz.checked) own started (by kernel_rfl) Tryz.func4
    (ChangeSpec.witness6 (enc := enc) (C := Tryz.checked) false ⟨#[], #[.agg #[.int .i64 0, .int .i64 0, .int .i64 0, .int .u8 0, .int .u64 0]], []⟩ 8 (by kernel_rfl) (by kernel_rfl) (by kernel_rfl) (by kernel_rfl)) ?_
  intro W base args ds gs before hval0 hW hcnd hsz0 _
  have hval : ∀ (j : Nat) t v, Tryz.f4.params[j]? = some t → args[j]? = some v → Value.okWide Tryz.prog W .any base t v := hval0
  have hW' := hW
  obtain ⟨p, q, hA0, hV, rfl, hfz, hnd⟩ := hW
  have hA : DataW.TrodAll enc Tryz.prog W 0 (fun _ => true) true Tryz.f4.params.toList args.toList ds p := hA0
  rw [Tryz.params4] at hA hval hsz0
  obtain ⟨v0, vs0, d0, ds0, p0, q0, hargs, rfl, rfl, h0, r0⟩ := trodAll_cons hA
  obtain ⟨rfl, rfl, rfl⟩ := trodAll_nil r0
  obtain rfl : args = #[v0] := by cases args; simp_all
  obtain ⟨rfl, rfl⟩ := trodVars_none hV
  have k0 := h0
  have lt0 : ∀ x ∈ p0, x.block < W.heap.size := by obtain ⟨m, hm⟩ := k0; exact DataW.trod_lt m _ _ _ hm
  obtain ⟨kd0, n0, a0, f0, t0, rfl, wk0, wn0, wa0, wf0, wt0⟩ := open_deed15 (hval 0 47 v0 rfl rfl) h0
  clear hA0 hval0
  simp only [List.append_nil] at hW'

  refine (walk W kd0 n0 a0 f0 t0 wk0 wn0 wa0 wf0 wt0).mono fun e W' ⟨he, hg⟩ => ?_
  subst he
  exact ⟨_, rfl, _, _, _, [], _, [], hW', trodAll_mk1 (shut_bool Tryz.underlying4 _), (trodAll_cons_mk (Below.trod laidOut (by kernel_rfl) (of_decide_eq_true (by kernel_rfl)) k0 hg lt0) trodAll_mk0), rfl, hg.frame _, fun h => by cases h⟩

theorem over : Rows.inodesNilRow.holds Tryz.pinned (OpenSpec.ofChange Rows.inodesNilSpec) :=
  OpenClaim.holds_of_wide 4 Tryz.f4 rfl rfl rfl rfl rfl rfl rfl ⟨rfl, rfl, rfl, rfl, rfl⟩ rfl rfl rfl rfl rfl (by kernel_rfl) Tryz.func4 (by kernel_rfl)
    (of_decide_eq_true (by kernel_rfl)) (by unfold Func.isWrapper; first | (rw [if_pos (by decide +kernel)]; kernel_rfl) | (rw [if_neg (by decide +kernel)]; exact ⟨rfl, rfl⟩))
    (fun os started H enc _ => lifted os started H enc)
end Go.Proofs.YtbcgpiocigjkoaaGreat.inodesNil

namespace Go.Proofs.YtbcgpiocigjkoaaGreat
theorem inodesNil_holds : Rows.InodesNilSaid := inodesNil.over
#print axioms inodesNil_holds
end Go.Proofs.YtbcgpiocigjkoaaGreat
