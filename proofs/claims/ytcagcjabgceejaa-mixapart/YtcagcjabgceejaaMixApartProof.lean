/- Proved: for every three states the statement MixApart, called with them, returns true, and they read behind the call as they did before. No conditions. -/
import Derived.Test.YtcagcjabgceejaaRows
import Derived.WalkKit
import Derived.ProofKit
import Derived.OpenShut
import Derived.Lib.SmallJoins
import Derived.Test.YtcagcjabgceejaaOpenArray
import Derived.Test.YtcagcjabgceejaaApartLaw
import Derived.Test.YtcagcjabgceejaaTrail
import Derived.Test.YtcagcjabgceejaaStateArg
namespace Go.Proofs.Ytcagcjabgceejaa.mixApart
open Go.ChangeShapes Go.WideShapes Go.ChangeAt Go.RowKit Go.Joins
open Go.ChangeMaps (open_string shut_string)
set_option linter.unusedVariables false

theorem own : ownKnob Try.prog.godebug = none := by kernel_rfl

theorem walk_st (s o p : St) (h : s.ok) (ho : o.ok) (hp : p.ok) (w : World) :
    Calls Try.prog 7 #[.agg (stA s), .agg (stA o), .agg (stA p)] w fun e w' => e = .returned (.bool true) ∧ Below w.heap.size w w' := by
  have a1 : ∀ w : World, Calls Try.prog 18 #[.agg (stA s), .agg (stA s)] w fun e w' => e = .returned (.int .i64 0) ∧ Below w.heap.size w w' := fun w => by
    have := apart_any s s h h w
    rw [show apartN s s = 0 from apartTo_self s 16] at this
    exact this
  have a2 : ∀ w : World, Calls Try.prog 18 #[.agg (stA o), .agg (stA s)] w fun e w' => e = .returned (.int .i64 (apartN s o : Int)) ∧ Below w.heap.size w w' := fun w => by
    have := apart_any o s ho h w
    rw [show apartN o s = apartN s o from apartTo_comm o s 16] at this
    exact this
  have e3 : ((o.x0 : Int) % 512) = ((o.x0 % 512 : Nat) : Int) := by omega
  have e4 : ((p.x0 : Int) % 20) = ((p.x0 % 20 : Nat) : Int) := by omega
  have hT : ∀ w : World, Calls Try.prog 20 #[.agg (stA s), .int .i64 ((o.x0 : Int) % 512), .int .i64 ((p.x0 : Int) % 20)] w fun e w' => ∃ g cap, e = .returned (.tuple #[.slice (some ⟨g, 0, none⟩) (p.x0 % 20 + 1) cap, .int .i64 0]) ∧ (∀ k, k ≤ p.x0 % 20 → w'.cell? ⟨g, k, none⟩ = some (.int .i64 (trailN s (o.x0 % 512) k : Int))) ∧ Below w.heap.size w w' := fun w => by
    rw [e3, e4]
    refine (trail_ok s h (o.x0 % 512) (p.x0 % 20) (by omega) (by omega) w).mono ?_
    rintro e w' ⟨v, rfl, hown, hb⟩
    rcases hown.2 with ⟨_, hn⟩ | ⟨g, cap, cur, rfl, _⟩
    · exact absurd hn (by omega)
    · refine ⟨g, cap, rfl, fun k hk => ?_, hb⟩
      rw [hown.cellAt k (by omega), trailL_at s _ _ k hk]
  have tri := apartTo_tri s o p 16
  have hz := apart_zero_iff s o h ho
  refine apartLaw s o p (apartN s o) (apartN s p) (apartN o p) (p.x0 % 20) (decide (s = o)) (trailN s (o.x0 % 512)) a1 (fun w => apart_any s o h ho w) a2 (fun w => apart_any s p h hp w) (fun w => apart_any o p ho hp w) hT
    (fun W => eq_state _ Try.underlying30 s o W) (apart_le s o h ho) (apart_le s p h hp) (apart_le o p ho hp) (by omega) (decide_eq_false (by unfold apartN; omega)) ?_ (trail_zero s _ (by omega)) (fun k => ⟨trail_pos s h _ k (by omega), trail_le s h _ k⟩) ho.1 hp.1 w
  rw [Bool.eq_iff_iff, beq_iff_eq, decide_eq_true_eq, ← hz]
  omega

theorem walk (l0 : List Int) (hl0 : l0.length = 16) (hw0 : ∀ x ∈ l0, (Lit.int .u32 x).wf = true) (l1 : List Int) (hl1 : l1.length = 16) (hw1 : ∀ x ∈ l1, (Lit.int .u32 x).wf = true) (l2 : List Int) (hl2 : l2.length = 16) (hw2 : ∀ x ∈ l2, (Lit.int .u32 x).wf = true) (w : World) :
    Calls Try.prog 7 #[.agg (l0.map (Value.int .u32)).toArray, .agg (l1.map (Value.int .u32)).toArray, .agg (l2.map (Value.int .u32)).toArray] w fun e w' => e = .returned (.bool true) ∧ Below w.heap.size w w' := by
  obtain ⟨s, hs, e⟩ := state_of l0 hl0 hw0
  obtain ⟨o, ho, e2⟩ := state_of l1 hl1 hw1
  obtain ⟨p, hp, e3⟩ := state_of l2 hl2 hw2
  rw [e, e2, e3]
  exact walk_st s o p hs ho hp w


set_option maxRecDepth 100000 in
theorem lifted (os : Os) (started : os.Started) (H : Type) (enc : TypeId × Value → H) :
    ReturnsInHanded {} Try.checked os 7 .any (Rows.mixApartSpec.pre6 enc Try.prog Try.f7 Rows.mixApartRow.domain false) (Rows.mixApartSpec.post enc Try.prog Try.f7 false true false false) := by
  refine returnsInHanded_of_change (C := Try.checked) own started (by kernel_rfl) Try.func7
    (ChangeSpec.witness6 (enc := enc) (C := Try.checked) false ⟨#[], #[.agg #[.int .u32 0, .int .u32 0, .int .u32 0, .int .u32 0, .int .u32 0, .int .u32 0, .int .u32 0, .int .u32 0, .int .u32 0, .int .u32 0, .int .u32 0, .int .u32 0, .int .u32 0, .int .u32 0, .int .u32 0, .int .u32 0], .agg #[.int .u32 0, .int .u32 0, .int .u32 0, .int .u32 0, .int .u32 0, .int .u32 0, .int .u32 0, .int .u32 0, .int .u32 0, .int .u32 0, .int .u32 0, .int .u32 0, .int .u32 0, .int .u32 0, .int .u32 0, .int .u32 0], .agg #[.int .u32 0, .int .u32 0, .int .u32 0, .int .u32 0, .int .u32 0, .int .u32 0, .int .u32 0, .int .u32 0, .int .u32 0, .int .u32 0, .int .u32 0, .int .u32 0, .int .u32 0, .int .u32 0, .int .u32 0, .int .u32 0]], []⟩ 8 (by kernel_rfl) (by kernel_rfl) (by kernel_rfl) (by kernel_rfl)) ?_
  intro W base args ds gs before hval0 hW hcnd _
  have hval : ∀ (j : Nat) t v, Try.f7.params[j]? = some t → args[j]? = some v → Value.okWide Try.prog W .any base t v := hval0
  have hW' := hW
  obtain ⟨p, q, hA0, hV, rfl, hfz, hnd⟩ := hW
  have hA : DataW.TrodAll enc Try.prog W 0 (fun _ => true) true Try.f7.params.toList args.toList ds p := hA0
  rw [Try.params7] at hA hval
  obtain ⟨v0, vs0, d0, ds0, p0, q0, hargs, rfl, rfl, h0, r0⟩ := trodAll_cons hA
  obtain ⟨v1, vs1, d1, ds1, p1, q1, rfl, rfl, rfl, h1, r1⟩ := trodAll_cons r0
  obtain ⟨v2, vs2, d2, ds2, p2, q2, rfl, rfl, rfl, h2, r2⟩ := trodAll_cons r1
  obtain ⟨rfl, rfl, rfl⟩ := trodAll_nil r2
  obtain rfl : args = #[v0, v1, v2] := by cases args; simp_all
  obtain ⟨rfl, rfl⟩ := trodVars_none hV
  obtain ⟨l0, hl0, rfl, hw0, rfl, reads0⟩ := open_ints Try.underlying30 Try.underlying22 (show Try.prog.cellsOf 22 = 1 by kernel_rfl) (show Try.prog.cellsOf 30 = 16 by kernel_rfl) (hval 0 30 v0 rfl rfl) h0
  obtain ⟨l1, hl1, rfl, hw1, rfl, reads1⟩ := open_ints Try.underlying30 Try.underlying22 (show Try.prog.cellsOf 22 = 1 by kernel_rfl) (show Try.prog.cellsOf 30 = 16 by kernel_rfl) (hval 1 30 v1 rfl rfl) h1
  obtain ⟨l2, hl2, rfl, hw2, rfl, reads2⟩ := open_ints Try.underlying30 Try.underlying22 (show Try.prog.cellsOf 22 = 1 by kernel_rfl) (show Try.prog.cellsOf 30 = 16 by kernel_rfl) (hval 2 30 v2 rfl rfl) h2
  clear hA0 hval0
  simp only [List.append_nil] at hW'

  refine (walk l0 hl0 hw0 l1 hl1 hw1 l2 hl2 hw2 W).mono fun e W' ⟨he, hg⟩ => ?_
  subst he
  exact ⟨_, rfl, _, _, _, [], _, [], hW', trodAll_mk1 (shut_bool Try.underlying4 _), (trodAll_cons_mk (reads0 _ _) (trodAll_cons_mk (reads1 _ _) (trodAll_cons_mk (reads2 _ _) trodAll_mk0))), rfl, hg.frame _, fun h => by cases h⟩

theorem over : Rows.mixApartRow.holds Try.pinned (OpenSpec.ofChange Rows.mixApartSpec) :=
  OpenClaim.holds_of_wide 7 Try.f7 rfl rfl rfl rfl rfl rfl rfl ⟨rfl, rfl, rfl, rfl, rfl⟩ rfl rfl rfl rfl rfl (by kernel_rfl) Try.func7 (by kernel_rfl)
    (of_decide_eq_true (by kernel_rfl)) (by unfold Func.isWrapper; first | (rw [if_pos (by decide +kernel)]; kernel_rfl) | (rw [if_neg (by decide +kernel)]; exact ⟨rfl, rfl⟩))
    (fun os started H enc _ => lifted os started H enc)
end Go.Proofs.Ytcagcjabgceejaa.mixApart

namespace Go.Proofs.Ytcagcjabgceejaa
theorem mixApart_holds : Rows.MixApartSaid := mixApart.over
#print axioms mixApart_holds
end Go.Proofs.Ytcagcjabgceejaa
