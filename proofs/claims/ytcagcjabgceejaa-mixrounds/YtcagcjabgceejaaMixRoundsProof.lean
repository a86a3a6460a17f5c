/- Proved: for every state, every number n of 64 bits and both kinds of a round the statement MixRounds, called with them, returns true, and they read behind the call as they did before. No conditions. -/
import Derived.Test.YtcagcjabgceejaaRows
import Derived.WalkKit
import Derived.ProofKit
import Derived.OpenShut
import Derived.Lib.SmallJoins
import Derived.Test.YtcagcjabgceejaaOpenArray
import Derived.Test.YtcagcjabgceejaaRoundsLawOk
import Derived.Test.YtcagcjabgceejaaRoundsLawBad
import Derived.Test.YtcagcjabgceejaaMixes
import Derived.Test.YtcagcjabgceejaaRoundsRefPos
import Derived.Test.YtcagcjabgceejaaRoundsRefNeg
import Derived.Test.YtcagcjabgceejaaStateArg
namespace Go.Proofs.Ytcagcjabgceejaa.mixRounds
open Go.ChangeShapes Go.WideShapes Go.ChangeAt Go.RowKit Go.Joins
open Go.ChangeMaps (open_string shut_string)
set_option linter.unusedVariables false

theorem own : ownKnob Try.prog.godebug = none := by kernel_rfl

theorem walk_st (s : St) (h : s.ok) (n : Int) (odd : Bool) (w : World) :
    Calls Try.prog 4 #[.agg (stA s), .int .i64 n, .bool odd] w fun e w' => e = .returned (.bool true) ∧ Below w.heap.size w w' := by
  by_cases g : n < -64 ∨ 64 < n
  · exact roundsLaw_bad s (roundN odd s) (fwd s 20) (bk 20 s 20) n odd (fun w => round_any odd s h w) (fun w => refRound_any odd s h w) (fun w => mix_any s h w) (fun w => refRounds_pos s h 20 (by decide) w)
      (fun w => unmix_any s h w) (fun w => refRounds_neg s h 20 (by decide) (by decide) w) (fun w => rounds_bad s n g w) g w
  · by_cases g0 : 0 ≤ n
    · obtain ⟨k, rfl⟩ := Int.eq_ofNat_of_zero_le g0
      exact roundsLaw_ok s (roundN odd s) (fwd s 20) (bk 20 s 20) (fwd s k) (k : Int) odd (fun w => round_any odd s h w) (fun w => refRound_any odd s h w) (fun w => mix_any s h w) (fun w => refRounds_pos s h 20 (by decide) w)
        (fun w => unmix_any s h w) (fun w => refRounds_neg s h 20 (by decide) (by decide) w) (fun w => rounds_pos s h k (by omega) w) (fun w => refRounds_pos s h k (by omega) w) (decide_eq_false (by omega)) (decide_eq_false (by omega)) w
    · obtain ⟨k, hk⟩ := Int.eq_ofNat_of_zero_le (a := -n) (by omega)
      obtain rfl : n = -(k : Int) := by omega
      exact roundsLaw_ok s (roundN odd s) (fwd s 20) (bk 20 s 20) (bk k s k) (-(k : Int)) odd (fun w => round_any odd s h w) (fun w => refRound_any odd s h w) (fun w => mix_any s h w) (fun w => refRounds_pos s h 20 (by decide) w)
        (fun w => unmix_any s h w) (fun w => refRounds_neg s h 20 (by decide) (by decide) w) (fun w => rounds_neg s h k (by omega) (by omega) w) (fun w => refRounds_neg s h k (by omega) (by omega) w) (decide_eq_false (by omega)) (decide_eq_false (by omega)) w

theorem walk (l0 : List Int) (hl0 : l0.length = 16) (hw0 : ∀ x ∈ l0, (Lit.int .u32 x).wf = true) (a1 : Int) (w1 : (Lit.int .i64 a1).wf = true) (a2 : Bool) (w : World) :
    Calls Try.prog 4 #[.agg (l0.map (Value.int .u32)).toArray, .int .i64 a1, .bool a2] w fun e w' => e = .returned (.bool true) ∧ Below w.heap.size w w' := by
  obtain ⟨s, hs, e⟩ := state_of l0 hl0 hw0
  rw [e]
  exact walk_st s hs a1 a2 w


set_option maxRecDepth 100000 in
theorem lifted (os : Os) (started : os.Started) (H : Type) (enc : TypeId × Value → H) :
    ReturnsInHanded {} Try.checked os 4 .any (Rows.mixRoundsSpec.pre6 enc Try.prog Try.f4 Rows.mixRoundsRow.domain false) (Rows.mixRoundsSpec.post enc Try.prog Try.f4 false true false false) := by
  refine returnsInHanded_of_change (C := Try.checked) own started (by kernel_rfl) Try.func4
    (ChangeSpec.witness6 (enc := enc) (C := Try.checked) false ⟨#[], #[.agg #[.int .u32 0, .int .u32 0, .int .u32 0, .int .u32 0, .int .u32 0, .int .u32 0, .int .u32 0, .int .u32 0, .int .u32 0, .int .u32 0, .int .u32 0, .int .u32 0, .int .u32 0, .int .u32 0, .int .u32 0, .int .u32 0], .int .i64 0, .bool false], []⟩ 8 (by kernel_rfl) (by kernel_rfl) (by kernel_rfl) (by kernel_rfl)) ?_
  intro W base args ds gs before hval0 hW hcnd _
  have hval : ∀ (j : Nat) t v, Try.f4.params[j]? = some t → args[j]? = some v → Value.okWide Try.prog W .any base t v := hval0
  have hW' := hW
  obtain ⟨p, q, hA0, hV, rfl, hfz, hnd⟩ := hW
  have hA : DataW.TrodAll enc Try.prog W 0 (fun _ => true) true Try.f4.params.toList args.toList ds p := hA0
  rw [Try.params4] at hA hval
  obtain ⟨v0, vs0, d0, ds0, p0, q0, hargs, rfl, rfl, h0, r0⟩ := trodAll_cons hA
  obtain ⟨v1, vs1, d1, ds1, p1, q1, rfl, rfl, rfl, h1, r1⟩ := trodAll_cons r0
  obtain ⟨v2, vs2, d2, ds2, p2, q2, rfl, rfl, rfl, h2, r2⟩ := trodAll_cons r1
  obtain ⟨rfl, rfl, rfl⟩ := trodAll_nil r2
  obtain rfl : args = #[v0, v1, v2] := by cases args; simp_all
  obtain ⟨rfl, rfl⟩ := trodVars_none hV
  obtain ⟨l0, hl0, rfl, hw0, rfl, reads0⟩ := open_ints Try.underlying30 Try.underlying22 (show Try.prog.cellsOf 22 = 1 by kernel_rfl) (show Try.prog.cellsOf 30 = 16 by kernel_rfl) (hval 0 30 v0 rfl rfl) h0
  obtain ⟨a1, rfl, rfl, rfl, w1⟩ := open_int Try.underlying3 (hval 1 3 v1 rfl rfl) h1
  obtain ⟨a2, rfl, rfl, rfl⟩ := open_bool Try.underlying4 (hval 2 4 v2 rfl rfl) h2
  clear hA0 hval0
  simp only [List.append_nil] at hW'

  refine (walk l0 hl0 hw0 a1 w1 a2 W).mono fun e W' ⟨he, hg⟩ => ?_
  subst he
  exact ⟨_, rfl, _, _, _, [], _, [], hW', trodAll_mk1 (shut_bool Try.underlying4 _), (trodAll_cons_mk (reads0 _ _) (trodAll_cons_mk (shut_int Try.underlying3 w1) (trodAll_cons_mk (shut_bool Try.underlying4 a2) trodAll_mk0))), rfl, hg.frame _, fun h => by cases h⟩

theorem over : Rows.mixRoundsRow.holds Try.pinned (OpenSpec.ofChange Rows.mixRoundsSpec) :=
  OpenClaim.holds_of_wide 4 Try.f4 rfl rfl rfl rfl rfl rfl rfl ⟨rfl, rfl, rfl, rfl, rfl⟩ rfl rfl rfl rfl rfl (by kernel_rfl) Try.func4 (by kernel_rfl)
    (of_decide_eq_true (by kernel_rfl)) (by unfold Func.isWrapper; first | (rw [if_pos (by decide +kernel)]; kernel_rfl) | (rw [if_neg (by decide +kernel)]; exact ⟨rfl, rfl⟩))
    (fun os started H enc _ => lifted os started H enc)
end Go.Proofs.Ytcagcjabgceejaa.mixRounds

namespace Go.Proofs.Ytcagcjabgceejaa
theorem mixRounds_holds : Rows.MixRoundsSaid := mixRounds.over
#print axioms mixRounds_holds
end Go.Proofs.Ytcagcjabgceejaa
