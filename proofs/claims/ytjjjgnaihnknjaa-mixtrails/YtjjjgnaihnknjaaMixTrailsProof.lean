/- Proved: for every two states and every bit and number the statement MixTrails, called with them, returns true, and they read behind the call as they did before. No conditions. -/
import Derived.Test.YtjjjgnaihnknjaaRows
import Derived.WalkKit
import Derived.ProofKit
import Derived.OpenShut
import Derived.Lib.SmallJoins
import Derived.Test.YtjjjgnaihnknjaaOpenArray
import Derived.Test.YtjjjgnaihnknjaaTrailsLaw
import Derived.Test.YtjjjgnaihnknjaaTrailsLawBad
import Derived.Test.YtjjjgnaihnknjaaRoundsRefPos
import Derived.Test.YtjjjgnaihnknjaaTrail
import Derived.Test.YtjjjgnaihnknjaaStateArg
namespace Go.Proofs.Ytjjjgnaihnknjaa.mixTrails
open Go.ChangeShapes Go.WideShapes Go.ChangeAt Go.RowKit Go.Joins
open Go.ChangeMaps (open_string shut_string)
set_option linter.unusedVariables false

theorem own : ownKnob Try.prog.godebug = none := by kernel_rfl

theorem walk_st (s o : St) (h : s.ok) (ho : o.ok) (z n : Int) (w : World) :
    Calls Try.prog 3 #[.agg (stA s), .agg (stA o), .agg #[.int .i64 z, .int .i64 n]] w fun e w' => e = .returned (.bool true) ∧ Below w.heap.size w w' := by
  by_cases hbad : z < 0 ∨ 511 < z ∨ n < 0 ∨ 64 < n
  · exact trailsLaw_bad s o (apartN s o) z n (fun w => apart_any s o h ho w) (fun w => refApart_any s o h ho w) (fun w => trail_bad s z n hbad w) hbad w
  · obtain ⟨b, rfl⟩ : ∃ b : Nat, z = (b : Int) := ⟨z.toNat, by omega⟩
    obtain ⟨m, rfl⟩ : ∃ m : Nat, n = (m : Int) := ⟨n.toNat, by omega⟩
    have hb : b < 512 := by omega
    have hm : m ≤ 64 := by omega
    have hT : ∀ w : World, Calls Try.prog 11 #[.agg (stA s), .int .i64 (b : Int), .int .i64 (m : Int)] w fun e w' => ∃ g cap, e = .returned (.tuple #[.slice (some ⟨g, 0, none⟩) (m + 1) cap, .int .i64 0]) ∧ w.heap.size ≤ g ∧ (∃ cur, Blk w' g 3 cur) ∧ (∀ k, k ≤ m → w'.cell? ⟨g, k, none⟩ = some (.int .i64 (trailN s b k : Int))) ∧ Below w.heap.size w w' := fun w => by
      refine (trail_ok s h b m hb hm w).mono ?_
      rintro e w' ⟨v, rfl, hown, hbb⟩
      rcases hown.2 with ⟨_, hn⟩ | ⟨g, cap, cur, rfl, hg1, hg2, _⟩
      · exact absurd hn (by omega)
      · refine ⟨g, cap, rfl, by omega, ⟨cur, hg2⟩, fun k hk => ?_, hbb⟩
        rw [hown.cellAt k (by omega), trailL_at s _ _ k hk]
    exact trailsLaw s o (apartN s o) b m (trailN s b) (fwd s) (fwd (flip s b)) (fun w => apart_any s o h ho w) (fun w => refApart_any s o h ho w) hT
      (fun k hk w => refRounds_pos s h k (by omega) w) (fun k hk w => refRounds_pos (flip s b) (flip_ok s h b) k (by omega) w) (fun k hk w => refApart_any _ _ (fwd_ok s h k) (fwd_ok _ (flip_ok s h b) k) w) h hb hm w

theorem walk (l0 : List Int) (hl0 : l0.length = 16) (hw0 : ∀ x ∈ l0, (Lit.int .u32 x).wf = true) (l1 : List Int) (hl1 : l1.length = 16) (hw1 : ∀ x ∈ l1, (Lit.int .u32 x).wf = true) (a2_0 : Int) (a2_1 : Int) (w2_0 : (Lit.int .i64 a2_0).wf = true) (w2_1 : (Lit.int .i64 a2_1).wf = true) (w : World) :
    Calls Try.prog 3 #[.agg (l0.map (Value.int .u32)).toArray, .agg (l1.map (Value.int .u32)).toArray, .agg #[.int .i64 a2_0, .int .i64 a2_1]] w fun e w' => e = .returned (.bool true) ∧ Below w.heap.size w w' := by
  obtain ⟨s, hs, e⟩ := state_of l0 hl0 hw0
  obtain ⟨o, ho, e2⟩ := state_of l1 hl1 hw1
  rw [e, e2]
  exact walk_st s o hs ho _ _ w

set_option maxRecDepth 100000 in
theorem lifted (os : Os) (started : os.Started) (H : Type) (enc : TypeId × Value → H) :
    ReturnsInHanded {} Try.checked os 3 .any (Rows.mixTrailsSpec.pre6 enc Try.prog Try.f3 Rows.mixTrailsRow.domain false) (Rows.mixTrailsSpec.post enc Try.prog Try.f3 false true false false) := by
  refine returnsInHanded_of_change (C := Try.checked) own started (by kernel_rfl) Try.func3
    (ChangeSpec.witness6 (enc := enc) (C := Try.checked) false ⟨#[], #[.agg #[.int .u32 0, .int .u32 0, .int .u32 0, .int .u32 0, .int .u32 0, .int .u32 0, .int .u32 0, .int .u32 0, .int .u32 0, .int .u32 0, .int .u32 0, .int .u32 0, .int .u32 0, .int .u32 0, .int .u32 0, .int .u32 0], .agg #[.int .u32 0, .int .u32 0, .int .u32 0, .int .u32 0, .int .u32 0, .int .u32 0, .int .u32 0, .int .u32 0, .int .u32 0, .int .u32 0, .int .u32 0, .int .u32 0, .int .u32 0, .int .u32 0, .int .u32 0, .int .u32 0], .agg #[.int .i64 0, .int .i64 0]], []⟩ 8 (by kernel_rfl) (by kernel_rfl) (by kernel_rfl) (by kernel_rfl)) ?_
  intro W base args ds gs before hval0 hW hcnd _
  have hval : ∀ (j : Nat) t v, Try.f3.params[j]? = some t → args[j]? = some v → Value.okWide Try.prog W .any base t v := hval0
  have hW' := hW
  obtain ⟨p, q, hA0, hV, rfl, hfz, hnd⟩ := hW
  have hA : DataW.TrodAll enc Try.prog W 0 (fun _ => true) true Try.f3.params.toList args.toList ds p := hA0
  rw [Try.params3] at hA hval
  obtain ⟨v0, vs0, d0, ds0, p0, q0, hargs, rfl, rfl, h0, r0⟩ := trodAll_cons hA
  obtain ⟨v1, vs1, d1, ds1, p1, q1, rfl, rfl, rfl, h1, r1⟩ := trodAll_cons r0
  obtain ⟨v2, vs2, d2, ds2, p2, q2, rfl, rfl, rfl, h2, r2⟩ := trodAll_cons r1
  obtain ⟨rfl, rfl, rfl⟩ := trodAll_nil r2
  obtain rfl : args = #[v0, v1, v2] := by cases args; simp_all
  obtain ⟨rfl, rfl⟩ := trodVars_none hV
  obtain ⟨l0, hl0, rfl, hw0, rfl, reads0⟩ := open_ints Try.underlying24 Try.underlying22 (show Try.prog.cellsOf 22 = 1 by kernel_rfl) (show Try.prog.cellsOf 24 = 16 by kernel_rfl) (hval 0 24 v0 rfl rfl) h0
  obtain ⟨l1, hl1, rfl, hw1, rfl, reads1⟩ := open_ints Try.underlying24 Try.underlying22 (show Try.prog.cellsOf 22 = 1 by kernel_rfl) (show Try.prog.cellsOf 24 = 16 by kernel_rfl) (hval 1 24 v1 rfl rfl) h1
  obtain ⟨c2_0, c2_1, y2_0, y2_1, m2, rfl, rfl, rfl, hy2_0, hy2_1⟩ := open_agg2 Try.underlying26 (by kernel_rfl) (show Try.prog.cellsOf 26 = 2 by kernel_rfl) (hval 2 26 v2 rfl rfl) h2
  obtain ⟨a2_0, e2_0, rfl, w2_0⟩ := DataW.trod_int Try.underlying3 hy2_0
  obtain ⟨a2_1, e2_1, rfl, w2_1⟩ := DataW.trod_int Try.underlying3 hy2_1
  simp at e2_0 e2_1
  subst e2_0 e2_1
  clear hA0 hval0
  simp only [List.append_nil] at hW'
  have reads2 : ∀ (W1 : World) (sp : Nat → Bool), DataW.Trod enc Try.prog W1 0 sp true 26 (.agg #[.int .i64 a2_0, .int .i64 a2_1]) (.agg [.lit (.int .i64 a2_0), .lit (.int .i64 a2_1)]) [] := fun W1 sp =>
    shut_agg2 (y0 := (.lit (.int .i64 a2_0), [])) (y1 := (.lit (.int .i64 a2_1), [])) Try.underlying26 (by kernel_rfl) (show Try.prog.cellsOf 26 = 2 by kernel_rfl) ⟨1, by simp [DataW.trod, Try.underlying3, w2_0]⟩ ⟨1, by simp [DataW.trod, Try.underlying3, w2_1]⟩
  refine (walk l0 hl0 hw0 l1 hl1 hw1 a2_0 a2_1 w2_0 w2_1 W).mono fun e W' ⟨he, hg⟩ => ?_
  subst he
  exact ⟨_, rfl, _, _, _, [], _, [], hW', trodAll_mk1 (shut_bool Try.underlying4 _), (trodAll_cons_mk (reads0 _ _) (trodAll_cons_mk (reads1 _ _) (trodAll_cons_mk (reads2 _ _) trodAll_mk0))), rfl, hg.frame _, fun h => by cases h⟩

theorem over : Rows.mixTrailsRow.holds Try.pinned (OpenSpec.ofChange Rows.mixTrailsSpec) :=
  OpenClaim.holds_of_wide 3 Try.f3 rfl rfl rfl rfl rfl rfl rfl ⟨rfl, rfl, rfl, rfl, rfl⟩ rfl rfl rfl rfl rfl (by kernel_rfl) Try.func3 (by kernel_rfl)
    (of_decide_eq_true (by kernel_rfl)) (by unfold Func.isWrapper; first | (rw [if_pos (by decide +kernel)]; kernel_rfl) | (rw [if_neg (by decide +kernel)]; exact ⟨rfl, rfl⟩))
    (fun os started H enc _ => lifted os started H enc)
end Go.Proofs.Ytjjjgnaihnknjaa.mixTrails

namespace Go.Proofs.Ytjjjgnaihnknjaa
theorem mixTrails_holds : Rows.MixTrailsSaid := mixTrails.over
#print axioms mixTrails_holds
end Go.Proofs.Ytjjjgnaihnknjaa
