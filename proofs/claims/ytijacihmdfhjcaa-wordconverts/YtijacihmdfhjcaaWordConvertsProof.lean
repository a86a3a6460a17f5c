/- Proved: for every word x and every number bits of 64 bits the statement WordConverts, called with them, returns true, and both read behind the call as they did before. No conditions. -/
import Derived.Test.YtijacihmdfhjcaaRows
import Derived.WalkKit
import Derived.ProofKit
import Derived.OpenShut
import Derived.Test.YtijacihmdfhjcaaExtends
namespace Go.Proofs.Ytijacihmdfhjcaa.wordConverts
open Go.ChangeShapes Go.WideShapes Go.ChangeAt Go.RowKit
set_option linter.unusedVariables false      -- a walk need not use every 'w<i>' (that an integer argument fits its kind)

theorem own : ownKnob Try.prog.godebug = none := by kernel_rfl

def Gives (f : Nat) (args : Array Value) (v : Value) : Prop := ∀ w : World, Calls Try.prog f args w fun e w' => e = .returned v ∧ w' = w

set_option maxHeartbeats 1000000 in
theorem core1 (x a1 : Int) (z za ze zc zg : Int) (h64 : wrap64 x = z) (e0 : 0 ≤ ze) (e1 : ze ≤ 11) (g0 : 0 ≤ zg) (g1 : zg ≤ 11)
    (hE : Gives 27 #[.int .u64 x, .int .i64 a1] (.tuple #[.int .i64 za, .int .i64 ze]))
    (hR : Gives 28 #[.int .u64 x, .int .i64 a1] (.tuple #[.int .i64 za, .int .i64 ze]))
    (hN : Gives 29 #[.int .i64 z, .int .i64 a1] (.tuple #[.int .u64 zc, .int .i64 zg]))
    (hM : Gives 30 #[.int .i64 z, .int .i64 a1] (.tuple #[.int .u64 zc, .int .i64 zg]))
    (hx : 9223372036854775807 < x) (hz : z < 0) (w : World) :
    Calls Try.prog 5 #[.int .u64 x, .int .i64 a1] w fun e w' => e = .returned (.bool true) ∧ w' = w := by
  have z2 : z ≤ 9223372036854775807 := by omega
  go_enter Try.func5, Try.ntmps5
  go_wp2_with fail
  refine (hE _).mono ?_
  rintro e w' ⟨rfl, rfl⟩
  go_wp2_with fail
  refine (hR _).mono ?_
  rintro e w' ⟨rfl, rfl⟩
  go_wp2_with fail
  refine (hN _).mono ?_
  rintro e w' ⟨rfl, rfl⟩
  go_wp2_with fail
  refine (hM _).mono ?_
  rintro e w' ⟨rfl, rfl⟩
  go_wp2_with fail
  refine (int_wide x hx _).mono ?_
  rintro e w' ⟨rfl, rfl⟩
  go_wp2_with fail
  refine (word_wide z (.inl hz) z2 _).mono ?_
  rintro e w' ⟨rfl, rfl⟩
  go_wp2_with fail
  refine (awake_any _).mono ?_
  rintro e w' ⟨rfl, rfl⟩
  go_wp2
  go_ret
  exact ⟨rfl, rfl⟩

set_option maxHeartbeats 1000000 in
theorem core2 (x a1 : Int) (za ze zc zg : Int) (e0 : 0 ≤ ze) (e1 : ze ≤ 11) (g0 : 0 ≤ zg) (g1 : zg ≤ 11)
    (hE : Gives 27 #[.int .u64 x, .int .i64 a1] (.tuple #[.int .i64 za, .int .i64 ze]))
    (hR : Gives 28 #[.int .u64 x, .int .i64 a1] (.tuple #[.int .i64 za, .int .i64 ze]))
    (hN : Gives 29 #[.int .i64 x, .int .i64 a1] (.tuple #[.int .u64 zc, .int .i64 zg]))
    (hM : Gives 30 #[.int .i64 x, .int .i64 a1] (.tuple #[.int .u64 zc, .int .i64 zg]))
    (hx0 : 4294967295 < x) (hx : x ≤ 9223372036854775807) (w : World) :
    Calls Try.prog 5 #[.int .u64 x, .int .i64 a1] w fun e w' => e = .returned (.bool true) ∧ w' = w := by
  go_enter Try.func5, Try.ntmps5
  go_wp2_with fail
  refine (hE _).mono ?_
  rintro e w' ⟨rfl, rfl⟩
  go_wp2_with fail
  refine (hR _).mono ?_
  rintro e w' ⟨rfl, rfl⟩
  go_wp2_with fail
  refine (hN _).mono ?_
  rintro e w' ⟨rfl, rfl⟩
  go_wp2_with fail
  refine (hM _).mono ?_
  rintro e w' ⟨rfl, rfl⟩
  go_wp2_with fail
  refine (int_ok x (by omega) hx _).mono ?_
  rintro e w' ⟨rfl, rfl⟩
  go_wp2_with fail
  refine (word_wide x (.inr hx0) hx _).mono ?_
  rintro e w' ⟨rfl, rfl⟩
  go_wp2_with fail
  refine (awake_any _).mono ?_
  rintro e w' ⟨rfl, rfl⟩
  go_wp2
  go_ret
  exact ⟨rfl, rfl⟩

set_option maxHeartbeats 1000000 in
theorem core3 (x a1 : Int) (za ze zc zg : Int) (e0 : 0 ≤ ze) (e1 : ze ≤ 11) (g0 : 0 ≤ zg) (g1 : zg ≤ 11)
    (hE : Gives 27 #[.int .u64 x, .int .i64 a1] (.tuple #[.int .i64 za, .int .i64 ze]))
    (hR : Gives 28 #[.int .u64 x, .int .i64 a1] (.tuple #[.int .i64 za, .int .i64 ze]))
    (hN : Gives 29 #[.int .i64 x, .int .i64 a1] (.tuple #[.int .u64 zc, .int .i64 zg]))
    (hM : Gives 30 #[.int .i64 x, .int .i64 a1] (.tuple #[.int .u64 zc, .int .i64 zg]))
    (hx0 : 0 ≤ x) (hx : x ≤ 4294967295) (w : World) :
    Calls Try.prog 5 #[.int .u64 x, .int .i64 a1] w fun e w' => e = .returned (.bool true) ∧ w' = w := by
  go_enter Try.func5, Try.ntmps5
  go_wp2_with fail
  refine (hE _).mono ?_
  rintro e w' ⟨rfl, rfl⟩
  go_wp2_with fail
  refine (hR _).mono ?_
  rintro e w' ⟨rfl, rfl⟩
  go_wp2_with fail
  refine (hN _).mono ?_
  rintro e w' ⟨rfl, rfl⟩
  go_wp2_with fail
  refine (hM _).mono ?_
  rintro e w' ⟨rfl, rfl⟩
  go_wp2_with fail
  refine (int_ok x (by omega) (by omega) _).mono ?_
  rintro e w' ⟨rfl, rfl⟩
  go_wp2_with fail
  refine (word_ok x hx0 hx _).mono ?_
  rintro e w' ⟨rfl, rfl⟩
  go_wp2_with fail
  refine (awake_any _).mono ?_
  rintro e w' ⟨rfl, rfl⟩
  go_wp2
  go_ret
  exact ⟨rfl, rfl⟩

/-- whatever x and bits are, the program and the document's answer agree at both conversions -/
theorem agree (x : Nat) (z a1 : Int) (hx : x < 18446744073709551616) (hz : wrap64 (x : Int) = z) :
    ∃ za ze zc zg : Int, 0 ≤ ze ∧ ze ≤ 11 ∧ 0 ≤ zg ∧ zg ≤ 11 ∧
      Gives 27 #[.int .u64 x, .int .i64 a1] (.tuple #[.int .i64 za, .int .i64 ze]) ∧
      Gives 28 #[.int .u64 x, .int .i64 a1] (.tuple #[.int .i64 za, .int .i64 ze]) ∧
      Gives 29 #[.int .i64 z, .int .i64 a1] (.tuple #[.int .u64 zc, .int .i64 zg]) ∧
      Gives 30 #[.int .i64 z, .int .i64 a1] (.tuple #[.int .u64 zc, .int .i64 zg]) := by
  have hu : IntKind.u64.wrap z = (x : Int) := by
    have h := w64 (x : Int)
    rw [wrapI64, hz] at h
    rw [IntKind.wrap_u64, h]; split <;> omega
  by_cases h : a1 < 1 ∨ 64 < a1
  · exact ⟨0, 11, 0, 11, by decide, by decide, by decide, by decide, fun w => ext_bad _ _ h w, fun w => refExt_bad _ _ h w, fun w => nar_bad _ _ x hu h w, fun w => refNar_bad _ _ h w⟩
  · obtain ⟨b, rfl⟩ := Int.eq_ofNat_of_zero_le (a := a1) (by omega)
    have h1 : 1 ≤ b := by omega
    have h2 : b ≤ 64 := by omega
    by_cases he : extZ x b = z
    · exact ⟨extZ x b, 0, lowN x b, 0, by decide, by decide, by decide, by decide, fun w => ext_ok x b h1 h2 w, fun w => refExt_ok x b hx h1 h2 w, fun w => nar_ok z x b hu hx h1 h2 he w, fun w => refNar_ok z x b hu hx h1 h2 he w⟩
    · exact ⟨extZ x b, 0, 0, 10, by decide, by decide, by decide, by decide, fun w => ext_ok x b h1 h2 w, fun w => refExt_ok x b hx h1 h2 w, fun w => nar_wide z x b hu h1 h2 he w, fun w => refNar_wide z x b hu hx h1 h2 he w⟩

/-! ### the walk -/
theorem walk (a0 : Int) (a1 : Int) (w0 : (Lit.int .u64 a0).wf = true) (w1 : (Lit.int .i64 a1).wf = true) (w : World) :
    Calls Try.prog 5 #[.int .u64 a0, .int .i64 a1] w fun e w' => e = .returned (.bool true) ∧ Grown w w' := by
  have c0 := bounds_u64 w0
  obtain ⟨x, rfl⟩ := Int.eq_ofNat_of_zero_le c0.1
  have hz := w64 (x : Int)
  rw [wrapI64] at hz
  obtain ⟨za, ze, zc, zg, p1, p2, p3, p4, q1, q2, q3, q4⟩ := agree x _ a1 (by omega) rfl
  have fin : Calls Try.prog 5 #[.int .u64 x, .int .i64 a1] w fun e w' => e = .returned (.bool true) ∧ w' = w := by
    by_cases h1 : 9223372036854775807 < (x : Int)
    · exact core1 x a1 _ za ze zc zg rfl p1 p2 p3 p4 q1 q2 q3 q4 h1 (by rw [hz]; split <;> omega) w
    · have e : wrap64 (x : Int) = x := by rw [hz]; split <;> omega
      rw [e] at q3 q4
      by_cases h2 : 4294967295 < (x : Int)
      · exact core2 x a1 za ze zc zg p1 p2 p3 p4 q1 q2 q3 q4 h2 (by omega) w
      · exact core3 x a1 za ze zc zg p1 p2 p3 p4 q1 q2 q3 q4 (by omega) (by omega) w
  refine fin.mono ?_
  rintro e w' ⟨rfl, rfl⟩
  exact ⟨rfl, Grown.refl _⟩


/-! ### the row -/
set_option maxRecDepth 100000 in
theorem lifted (os : Os) (started : os.Started) (H : Type) (enc : TypeId × Value → H) :
    ReturnsInHanded {} Try.checked os 5 .any (Rows.wordConvertsSpec.pre6 enc Try.prog Try.f5 Rows.wordConvertsRow.domain false) (Rows.wordConvertsSpec.post enc Try.prog Try.f5 false true false false) := by
  refine returnsInHanded_of_change (C := Try.checked) own started (by kernel_rfl) Try.func5
    (ChangeSpec.witness6 (enc := enc) (C := Try.checked) false ⟨#[], #[.int .u64 0, .int .i64 0], []⟩ 8 (by kernel_rfl) (by kernel_rfl) (by kernel_rfl) (by kernel_rfl)) ?_
  intro W base args ds gs before hval0 hW hcnd _
  have hval : ∀ (j : Nat) t v, Try.f5.params[j]? = some t → args[j]? = some v → Value.okWide Try.prog W .any base t v := hval0
  have hW' := hW
  obtain ⟨p, q, hA0, hV, rfl, hfz, hnd⟩ := hW
  have hA : DataW.TrodAll enc Try.prog W 0 (fun _ => true) true Try.f5.params.toList args.toList ds p := hA0
  rw [Try.params5] at hA hval
  obtain ⟨v0, vs0, d0, ds0, p0, q0, hargs, rfl, rfl, h0, r0⟩ := trodAll_cons hA
  obtain ⟨v1, vs1, d1, ds1, p1, q1, rfl, rfl, rfl, h1, r1⟩ := trodAll_cons r0
  obtain ⟨rfl, rfl, rfl⟩ := trodAll_nil r1
  obtain rfl : args = #[v0, v1] := by cases args; simp_all
  obtain ⟨rfl, rfl⟩ := trodVars_none hV
  obtain ⟨a0, rfl, rfl, rfl, w0⟩ := open_int Try.underlying22 (hval 0 22 v0 rfl rfl) h0
  obtain ⟨a1, rfl, rfl, rfl, w1⟩ := open_int Try.underlying3 (hval 1 3 v1 rfl rfl) h1
  clear hA0 hval0
  simp only [List.append_nil] at hW'
  refine (walk a0 a1 w0 w1 W).mono fun e W' ⟨he, hg⟩ => ?_
  subst he
  exact ⟨_, rfl, post_of_same (pa := []) (pv := []) hW' (fun _ _ _ => (trodAll_cons_mk (shut_bool Try.underlying4 _) trodAll_mk0)) (fun sp _ => (trodAll_cons_mk (shut_int Try.underlying22 w0) (trodAll_cons_mk (shut_int Try.underlying3 w1) trodAll_mk0))) (fun _ _ => rfl) rfl
    (hg.frame _) hg.2.1 (ok_one (by kernel_rfl) rfl (okWide_bool_mk Try.underlying4 _))⟩

theorem over : Rows.wordConvertsRow.holds Try.pinned (OpenSpec.ofChange Rows.wordConvertsSpec) :=
  OpenClaim.holds_of_wide 5 Try.f5 rfl rfl rfl rfl rfl rfl rfl ⟨rfl, rfl, rfl, rfl, rfl⟩ rfl rfl rfl rfl rfl (by kernel_rfl) Try.func5 (by kernel_rfl)
    (of_decide_eq_true (by kernel_rfl)) (by unfold Func.isWrapper; first | (rw [if_pos (by decide +kernel)]; kernel_rfl) | (rw [if_neg (by decide +kernel)]; exact ⟨rfl, rfl⟩))
    (fun os started H enc _ => lifted os started H enc)

theorem proved : Rows.WordConvertsSaid :=
  over
end Go.Proofs.Ytijacihmdfhjcaa.wordConverts

namespace Go.Proofs.Ytijacihmdfhjcaa
theorem wordConverts_holds : Rows.WordConvertsSaid := wordConverts.proved
#print axioms wordConverts_holds
end Go.Proofs.Ytijacihmdfhjcaa
