/- Proved: for every four words the statement MixQuarters, called with them, returns true, and they read behind the call as they did before. No conditions. -/
import Derived.Test.YtcagcjabgceejaaRows
import Derived.WalkKit
import Derived.ProofKit
import Derived.OpenShut
import Derived.Lib.SmallJoins
import Derived.Test.YtcagcjabgceejaaQuarters
import Derived.Test.YtcagcjabgceejaaQuarterRef
import Derived.Laws.BitsAllLaws
namespace Go.Proofs.Ytcagcjabgceejaa.mixQuarters
open Go.ChangeShapes Go.WideShapes Go.ChangeAt Go.RowKit Go.Joins
open Go.ChangeMaps (open_string shut_string)
set_option linter.unusedVariables false

theorem own : ownKnob Try.prog.godebug = none := by kernel_rfl

set_option maxHeartbeats 1000000 in
theorem core (a b c d a1 b1 c1 d1 a2 b2 c2 d2 : Nat)
    (hQ : Hid (∀ w : World, Calls Try.prog 9 #[.int .u32 (a : Int), .int .u32 (b : Int), .int .u32 (c : Int), .int .u32 (d : Int)] w fun e w' => e = .returned (.tuple #[.int .u32 (a1 : Int), .int .u32 (b1 : Int), .int .u32 (c1 : Int), .int .u32 (d1 : Int)]) ∧ w' = w))
    (hR : Hid (∀ w : World, Calls Try.prog 10 #[.int .u32 (a : Int), .int .u32 (b : Int), .int .u32 (c : Int), .int .u32 (d : Int)] w fun e w' => e = .returned (.tuple #[.int .u32 (a1 : Int), .int .u32 (b1 : Int), .int .u32 (c1 : Int), .int .u32 (d1 : Int)]) ∧ w' = w))
    (hU : Hid (∀ w : World, Calls Try.prog 11 #[.int .u32 (a1 : Int), .int .u32 (b1 : Int), .int .u32 (c1 : Int), .int .u32 (d1 : Int)] w fun e w' => e = .returned (.tuple #[.int .u32 (a : Int), .int .u32 (b : Int), .int .u32 (c : Int), .int .u32 (d : Int)]) ∧ w' = w))
    (hV : Hid (∀ w : World, Calls Try.prog 11 #[.int .u32 (a : Int), .int .u32 (b : Int), .int .u32 (c : Int), .int .u32 (d : Int)] w fun e w' => e = .returned (.tuple #[.int .u32 (a2 : Int), .int .u32 (b2 : Int), .int .u32 (c2 : Int), .int .u32 (d2 : Int)]) ∧ w' = w))
    (hP : Hid (∀ w : World, Calls Try.prog 9 #[.int .u32 (a2 : Int), .int .u32 (b2 : Int), .int .u32 (c2 : Int), .int .u32 (d2 : Int)] w fun e w' => e = .returned (.tuple #[.int .u32 (a : Int), .int .u32 (b : Int), .int .u32 (c : Int), .int .u32 (d : Int)]) ∧ w' = w)) (w : World) :
    Calls Try.prog 3 #[.agg #[.int .u32 (a : Int), .int .u32 (b : Int), .int .u32 (c : Int), .int .u32 (d : Int)]] w fun e w' => e = .returned (.bool true) ∧ Grown w w' := by
  go_enter Try.func3, Try.ntmps3
  go_wp2_with fail
  refine (awake_any _).mono ?_
  rintro e w1 ⟨rfl, rfl⟩
  go_wp2_with fail
  refine (hQ.out _).mono ?_
  rintro e w1 ⟨rfl, rfl⟩
  go_wp2_with fail
  refine (hR.out _).mono ?_
  rintro e w1 ⟨rfl, rfl⟩
  go_wp2_with fail
  refine (hU.out _).mono ?_
  rintro e w1 ⟨rfl, rfl⟩
  go_wp2_with fail
  refine (hV.out _).mono ?_
  rintro e w1 ⟨rfl, rfl⟩
  go_wp2_with fail
  refine (hP.out _).mono ?_
  rintro e w1 ⟨rfl, rfl⟩
  go_wp2
  go_ret
  exact ⟨rfl, ((Grown.refl _).alloc _ _)⟩

theorem walk (a0_0 : Int) (a0_1 : Int) (a0_2 : Int) (a0_3 : Int) (w0_0 : (Lit.int .u32 a0_0).wf = true) (w0_1 : (Lit.int .u32 a0_1).wf = true) (w0_2 : (Lit.int .u32 a0_2).wf = true) (w0_3 : (Lit.int .u32 a0_3).wf = true) (w : World) :
    Calls Try.prog 3 #[.agg #[.int .u32 a0_0, .int .u32 a0_1, .int .u32 a0_2, .int .u32 a0_3]] w fun e w' => e = .returned (.bool true) ∧ Grown w w' := by
  have c0 := bounds_u32 w0_0
  have c1 := bounds_u32 w0_1
  have c2 := bounds_u32 w0_2
  have c3 := bounds_u32 w0_3
  obtain ⟨a, rfl⟩ := Int.eq_ofNat_of_zero_le c0.1
  obtain ⟨b, rfl⟩ := Int.eq_ofNat_of_zero_le c1.1
  obtain ⟨c, rfl⟩ := Int.eq_ofNat_of_zero_le c2.1
  obtain ⟨d, rfl⟩ := Int.eq_ofNat_of_zero_le c3.1
  have ok : Q4.ok ⟨a, b, c, d⟩ := ⟨by show a < _; omega, by show b < _; omega, by show c < _; omega, by show d < _; omega⟩
  have o1 := quarter_ok _ ok
  have o2 := undo_ok _ ok
  have e1 := undo_quarter _ ok
  have e2 := quarter_undo _ ok
  obtain ⟨h1, h2, h3, h4⟩ := ok
  exact core a b c d _ _ _ _ _ _ _ _ (fun w => quarter_any a b c d h1 h2 h3 h4 _ rfl w) (fun w => refQuarter_any a b c d h1 h2 h3 h4 _ rfl w)
    (fun w => undo_any _ _ _ _ o1.1 o1.2.1 o1.2.2.1 o1.2.2.2 ⟨a, b, c, d⟩ e1 w) (fun w => undo_any a b c d h1 h2 h3 h4 _ rfl w)
    (fun w => quarter_any _ _ _ _ o2.1 o2.2.1 o2.2.2.1 o2.2.2.2 ⟨a, b, c, d⟩ e2 w) w


set_option maxRecDepth 100000 in
theorem lifted (os : Os) (started : os.Started) (H : Type) (enc : TypeId × Value → H) :
    ReturnsInHanded {} Try.checked os 3 .any (Rows.mixQuartersSpec.pre6 enc Try.prog Try.f3 Rows.mixQuartersRow.domain false) (Rows.mixQuartersSpec.post enc Try.prog Try.f3 false true false false) := by
  refine returnsInHanded_of_change (C := Try.checked) own started (by kernel_rfl) Try.func3
    (ChangeSpec.witness6 (enc := enc) (C := Try.checked) false ⟨#[], #[.agg #[.int .u32 0, .int .u32 0, .int .u32 0, .int .u32 0]], []⟩ 8 (by kernel_rfl) (by kernel_rfl) (by kernel_rfl) (by kernel_rfl)) ?_
  intro W base args ds gs before hval0 hW hcnd _
  have hval : ∀ (j : Nat) t v, Try.f3.params[j]? = some t → args[j]? = some v → Value.okWide Try.prog W .any base t v := hval0
  have hW' := hW
  obtain ⟨p, q, hA0, hV, rfl, hfz, hnd⟩ := hW
  have hA : DataW.TrodAll enc Try.prog W 0 (fun _ => true) true Try.f3.params.toList args.toList ds p := hA0
  rw [Try.params3] at hA hval
  obtain ⟨v0, vs0, d0, ds0, p0, q0, hargs, rfl, rfl, h0, r0⟩ := trodAll_cons hA
  obtain ⟨rfl, rfl, rfl⟩ := trodAll_nil r0
  obtain rfl : args = #[v0] := by cases args; simp_all
  obtain ⟨rfl, rfl⟩ := trodVars_none hV
  obtain ⟨c0_0, c0_1, c0_2, c0_3, y0_0, y0_1, y0_2, y0_3, m0, rfl, rfl, rfl, hy0_0, hy0_1, hy0_2, hy0_3⟩ := open_agg4 Try.underlying24 (by kernel_rfl) (show Try.prog.cellsOf 24 = 4 by kernel_rfl) (hval 0 24 v0 rfl rfl) h0
  obtain ⟨a0_0, e0_0, rfl, w0_0⟩ := DataW.trod_int Try.underlying22 hy0_0
  obtain ⟨a0_1, e0_1, rfl, w0_1⟩ := DataW.trod_int Try.underlying22 hy0_1
  obtain ⟨a0_2, e0_2, rfl, w0_2⟩ := DataW.trod_int Try.underlying22 hy0_2
  obtain ⟨a0_3, e0_3, rfl, w0_3⟩ := DataW.trod_int Try.underlying22 hy0_3
  simp at e0_0 e0_1 e0_2 e0_3
  subst e0_0 e0_1 e0_2 e0_3
  clear hA0 hval0
  simp only [List.append_nil] at hW'
  have reads0 : ∀ (W1 : World) (sp : Nat → Bool), DataW.Trod enc Try.prog W1 0 sp true 24 (.agg #[.int .u32 a0_0, .int .u32 a0_1, .int .u32 a0_2, .int .u32 a0_3]) (.agg [.lit (.int .u32 a0_0), .lit (.int .u32 a0_1), .lit (.int .u32 a0_2), .lit (.int .u32 a0_3)]) [] := fun W1 sp =>
    shut_agg4 (y0 := (.lit (.int .u32 a0_0), [])) (y1 := (.lit (.int .u32 a0_1), [])) (y2 := (.lit (.int .u32 a0_2), [])) (y3 := (.lit (.int .u32 a0_3), [])) Try.underlying24 (by kernel_rfl) (show Try.prog.cellsOf 24 = 4 by kernel_rfl) ⟨1, by simp [DataW.trod, Try.underlying22, w0_0]⟩ ⟨1, by simp [DataW.trod, Try.underlying22, w0_1]⟩ ⟨1, by simp [DataW.trod, Try.underlying22, w0_2]⟩ ⟨1, by simp [DataW.trod, Try.underlying22, w0_3]⟩
  refine (walk a0_0 a0_1 a0_2 a0_3 w0_0 w0_1 w0_2 w0_3 W).mono fun e W' ⟨he, hg⟩ => ?_
  subst he
  exact ⟨_, rfl, post_of_same (pa := []) (pv := []) hW' (fun _ _ _ => (trodAll_cons_mk (shut_bool Try.underlying4 _) trodAll_mk0)) (fun sp _ => (trodAll_cons_mk (reads0 _ sp) trodAll_mk0)) (fun _ _ => rfl) rfl
    (hg.frame _) hg.2.1 (ok_one (by kernel_rfl) rfl (okWide_bool_mk Try.underlying4 _))⟩

theorem over : Rows.mixQuartersRow.holds Try.pinned (OpenSpec.ofChange Rows.mixQuartersSpec) :=
  OpenClaim.holds_of_wide 3 Try.f3 rfl rfl rfl rfl rfl rfl rfl ⟨rfl, rfl, rfl, rfl, rfl⟩ rfl rfl rfl rfl rfl (by kernel_rfl) Try.func3 (by kernel_rfl)
    (of_decide_eq_true (by kernel_rfl)) (by unfold Func.isWrapper; first | (rw [if_pos (by decide +kernel)]; kernel_rfl) | (rw [if_neg (by decide +kernel)]; exact ⟨rfl, rfl⟩))
    (fun os started H enc _ => lifted os started H enc)
end Go.Proofs.Ytcagcjabgceejaa.mixQuarters

namespace Go.Proofs.Ytcagcjabgceejaa
theorem mixQuarters_holds : Rows.MixQuartersSaid := mixQuarters.over
#print axioms mixQuarters_holds
end Go.Proofs.Ytcagcjabgceejaa
