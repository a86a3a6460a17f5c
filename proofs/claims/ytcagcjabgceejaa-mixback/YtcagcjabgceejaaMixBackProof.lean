/- Proved: for every two states and every number of 64 bits the statement MixBack, called with them, returns true, and they read behind the call as they did before. No conditions. -/
import Derived.Test.YtcagcjabgceejaaRows
import Derived.WalkKit
import Derived.ProofKit
import Derived.OpenShut
import Derived.Lib.SmallJoins
import Derived.Test.YtcagcjabgceejaaOpenArray
import Derived.Test.YtcagcjabgceejaaBackLaw
import Derived.Test.YtcagcjabgceejaaMixes
import Derived.Test.YtcagcjabgceejaaStateArg
namespace Go.Proofs.Ytcagcjabgceejaa.mixBack
open Go.ChangeShapes Go.WideShapes Go.ChangeAt Go.RowKit Go.Joins
open Go.ChangeMaps (open_string shut_string)
set_option linter.unusedVariables false

theorem own : ownKnob Try.prog.godebug = none := by kernel_rfl

theorem walk_st (s o : St) (h : s.ok) (ho : o.ok) (n : Int) (w : World) :
    Calls Try.prog 5 #[.agg (stA s), .agg (stA o), .int .i64 n] w fun e w' => e = .returned (.bool true) ∧ Below w.heap.size w w' := by
  have e1 : decide (fwd s 20 = fwd o 20) = decide (s = o) := decide_eq_decide.2 ⟨fwd_inj 20 s o h ho, fun e => by rw [e]⟩
  have q1 : ∀ W : World, Sem.run Try.prog (Op.equalIn 10000 30 (.agg (stA s)) (.agg (stA s))) W = .ok true W := fun W => (eq_state _ Try.underlying30 s s W).trans (by rw [decide_eq_true rfl])
  have q2 : ∀ W : World, Sem.run Try.prog (Op.equalIn 10000 30 (.agg (stA s)) (.agg (stA o))) W = .ok (decide (s = o)) W := fun W => eq_state _ Try.underlying30 s o W
  have q3 : ∀ W : World, Sem.run Try.prog (Op.equalIn 10000 30 (.agg (stA (fwd s 20))) (.agg (stA (fwd o 20)))) W = .ok (decide (s = o)) W := fun W => (eq_state _ Try.underlying30 _ _ W).trans (by rw [e1])
  have q4 : ∀ W : World, Sem.run Try.prog (Op.equalIn 10000 30 (.agg (stA St.zero)) (.agg (stA St.zero))) W = .ok true W := fun W => (eq_state _ Try.underlying30 _ _ W).trans (by rw [decide_eq_true rfl])
  have m1 : ∀ w : World, Calls Try.prog 14 #[.agg (stA s)] w fun e w' => e = .returned (.agg (stA (fwd s 20))) ∧ Below w.heap.size w w' := fun w => mix_any s h w
  have m2 : ∀ w : World, Calls Try.prog 16 #[.agg (stA (fwd s 20))] w fun e w' => e = .returned (.agg (stA s)) ∧ Below w.heap.size w w' := fun w => by
    have := unmix_any (fwd s 20) (fwd_ok s h 20) w
    rw [back_forth 20 s h] at this; exact this
  have m3 : ∀ w : World, Calls Try.prog 16 #[.agg (stA s)] w fun e w' => e = .returned (.agg (stA (bk 20 s 20))) ∧ Below w.heap.size w w' := fun w => unmix_any s h w
  have m4 : ∀ w : World, Calls Try.prog 14 #[.agg (stA (bk 20 s 20))] w fun e w' => e = .returned (.agg (stA s)) ∧ Below w.heap.size w w' := fun w => by
    have := mix_any (bk 20 s 20) (bk_ok 20 s h 20) w
    rw [forth_back 20 s h] at this; exact this
  have m5 : ∀ w : World, Calls Try.prog 14 #[.agg (stA o)] w fun e w' => e = .returned (.agg (stA (fwd o 20))) ∧ Below w.heap.size w w' := fun w => mix_any o ho w
  have m6 : ∀ w : World, Calls Try.prog 14 #[.agg (stA St.zero)] w fun e w' => e = .returned (.agg (stA St.zero)) ∧ Below w.heap.size w w' := fun w => by
    have := mix_any St.zero (by unfold St.ok St.zero; decide) w
    rw [fwd_zero 20] at this; exact this
  have b1 := Int.lt_tmod_of_pos n (show (0 : Int) < 65 by decide)
  have b2 := Int.tmod_lt_of_pos n (show (0 : Int) < 65 by decide)
  by_cases g0 : 0 ≤ n.tmod 65
  · obtain ⟨k, hk⟩ := Int.eq_ofNat_of_zero_le g0
    have r1 : ∀ w : World, Calls Try.prog 17 #[.agg (stA s), .int .i64 (k : Int)] w fun e w' => e = .returned (.tuple #[.agg (stA (fwd s k)), .int .i64 0]) ∧ Below w.heap.size w w' := fun w => rounds_pos s h k (by omega) w
    have r2 : ∀ w : World, Calls Try.prog 17 #[.agg (stA (fwd s k)), .int .i64 (-(k : Int))] w fun e w' => e = .returned (.tuple #[.agg (stA s), .int .i64 0]) ∧ Below w.heap.size w w' := fun w => by
      by_cases k0 : k = 0
      · subst k0
        exact rounds_pos (fwd s 0) h 0 (by decide) w
      · have := rounds_neg (fwd s k) (fwd_ok s h k) k (by omega) (by omega) w
        rw [back_forth k s h] at this; exact this
    exact backLaw s o _ _ _ _ n (k : Int) _ m1 m2 m3 m4 m5 m6 r1 r2 q1 q2 q3 q4 hk (by omega) (by omega) w
  · obtain ⟨k, hk⟩ := Int.eq_ofNat_of_zero_le (a := -(n.tmod 65)) (by omega)
    have r1 : ∀ w : World, Calls Try.prog 17 #[.agg (stA s), .int .i64 (-(k : Int))] w fun e w' => e = .returned (.tuple #[.agg (stA (bk k s k)), .int .i64 0]) ∧ Below w.heap.size w w' := fun w => rounds_neg s h k (by omega) (by omega) w
    have r2 : ∀ w : World, Calls Try.prog 17 #[.agg (stA (bk k s k)), .int .i64 (-(-(k : Int)))] w fun e w' => e = .returned (.tuple #[.agg (stA s), .int .i64 0]) ∧ Below w.heap.size w w' := fun w => by
      have := rounds_pos (bk k s k) (bk_ok k s h k) k (by omega) w
      rw [forth_back k s h] at this
      rw [Int.neg_neg]; exact this
    exact backLaw s o _ _ _ _ n (-(k : Int)) _ m1 m2 m3 m4 m5 m6 r1 r2 q1 q2 q3 q4 (by omega) (by omega) (by omega) w

theorem walk (l0 : List Int) (hl0 : l0.length = 16) (hw0 : ∀ x ∈ l0, (Lit.int .u32 x).wf = true) (l1 : List Int) (hl1 : l1.length = 16) (hw1 : ∀ x ∈ l1, (Lit.int .u32 x).wf = true) (a2 : Int) (w2 : (Lit.int .i64 a2).wf = true) (w : World) :
    Calls Try.prog 5 #[.agg (l0.map (Value.int .u32)).toArray, .agg (l1.map (Value.int .u32)).toArray, .int .i64 a2] w fun e w' => e = .returned (.bool true) ∧ Below w.heap.size w w' := by
  obtain ⟨s, hs, e⟩ := state_of l0 hl0 hw0
  obtain ⟨o, ho, e2⟩ := state_of l1 hl1 hw1
  rw [e, e2]
  exact walk_st s o hs ho a2 w


set_option maxRecDepth 100000 in
theorem lifted (os : Os) (started : os.Started) (H : Type) (enc : TypeId × Value → H) :
    ReturnsInHanded {} Try.checked os 5 .any (Rows.mixBackSpec.pre6 enc Try.prog Try.f5 Rows.mixBackRow.domain false) (Rows.mixBackSpec.post enc Try.prog Try.f5 false true false false) := by
  refine returnsInHanded_of_change (C := Try.checked) own started (by kernel_rfl) Try.func5
    (ChangeSpec.witness6 (enc := enc) (C := Try.checked) false ⟨#[], #[.agg #[.int .u32 0, .int .u32 0, .int .u32 0, .int .u32 0, .int .u32 0, .int .u32 0, .int .u32 0, .int .u32 0, .int .u32 0, .int .u32 0, .int .u32 0, .int .u32 0, .int .u32 0, .int .u32 0, .int .u32 0, .int .u32 0], .agg #[.int .u32 0, .int .u32 0, .int .u32 0, .int .u32 0, .int .u32 0, .int .u32 0, .int .u32 0, .int .u32 0, .int .u32 0, .int .u32 0, .int .u32 0, .int .u32 0, .int .u32 0, .int .u32 0, .int .u32 0, .int .u32 0], .int .i64 0], []⟩ 8 (by kernel_rfl) (by kernel_rfl) (by kernel_rfl) (by kernel_rfl)) ?_
  intro W base args ds gs before hval0 hW hcnd _
  have hval : ∀ (j : Nat) t v, Try.f5.params[j]? = some t → args[j]? = some v → Value.okWide Try.prog W .any base t v := hval0
  have hW' := hW
  obtain ⟨p, q, hA0, hV, rfl, hfz, hnd⟩ := hW
  have hA : DataW.TrodAll enc Try.prog W 0 (fun _ => true) true Try.f5.params.toList args.toList ds p := hA0
  rw [Try.params5] at hA hval
  obtain ⟨v0, vs0, d0, ds0, p0, q0, hargs, rfl, rfl, h0, r0⟩ := trodAll_cons hA
  obtain ⟨v1, vs1, d1, ds1, p1, q1, rfl, rfl, rfl, h1, r1⟩ := trodAll_cons r0
  obtain ⟨v2, vs2, d2, ds2, p2, q2, rfl, rfl, rfl, h2, r2⟩ := trodAll_cons r1
  obtain ⟨rfl, rfl, rfl⟩ := trodAll_nil r2
  obtain rfl : args = #[v0, v1, v2] := by cases args; simp_all
  obtain ⟨rfl, rfl⟩ := trodVars_none hV
  obtain ⟨l0, hl0, rfl, hw0, rfl, reads0⟩ := open_ints Try.underlying30 Try.underlying22 (show Try.prog.cellsOf 22 = 1 by kernel_rfl) (show Try.prog.cellsOf 30 = 16 by kernel_rfl) (hval 0 30 v0 rfl rfl) h0
  obtain ⟨l1, hl1, rfl, hw1, rfl, reads1⟩ := open_ints Try.underlying30 Try.underlying22 (show Try.prog.cellsOf 22 = 1 by kernel_rfl) (show Try.prog.cellsOf 30 = 16 by kernel_rfl) (hval 1 30 v1 rfl rfl) h1
  obtain ⟨a2, rfl, rfl, rfl, w2⟩ := open_int Try.underlying3 (hval 2 3 v2 rfl rfl) h2
  clear hA0 hval0
  simp only [List.append_nil] at hW'

  refine (walk l0 hl0 hw0 l1 hl1 hw1 a2 w2 W).mono fun e W' ⟨he, hg⟩ => ?_
  subst he
  exact ⟨_, rfl, _, _, _, [], _, [], hW', trodAll_mk1 (shut_bool Try.underlying4 _), (trodAll_cons_mk (reads0 _ _) (trodAll_cons_mk (reads1 _ _) (trodAll_cons_mk (shut_int Try.underlying3 w2) trodAll_mk0))), rfl, hg.frame _, fun h => by cases h⟩

theorem over : Rows.mixBackRow.holds Try.pinned (OpenSpec.ofChange Rows.mixBackSpec) :=
  OpenClaim.holds_of_wide 5 Try.f5 rfl rfl rfl rfl rfl rfl rfl ⟨rfl, rfl, rfl, rfl, rfl⟩ rfl rfl rfl rfl rfl (by kernel_rfl) Try.func5 (by kernel_rfl)
    (of_decide_eq_true (by kernel_rfl)) (by unfold Func.isWrapper; first | (rw [if_pos (by decide +kernel)]; kernel_rfl) | (rw [if_neg (by decide +kernel)]; exact ⟨rfl, rfl⟩))
    (fun os started H enc _ => lifted os started H enc)
end Go.Proofs.Ytcagcjabgceejaa.mixBack

namespace Go.Proofs.Ytcagcjabgceejaa
theorem mixBack_holds : Rows.MixBackSaid := mixBack.over
#print axioms mixBack_holds
end Go.Proofs.Ytcagcjabgceejaa
