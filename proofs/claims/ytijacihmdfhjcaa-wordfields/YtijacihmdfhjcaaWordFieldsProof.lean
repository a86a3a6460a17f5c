/- Proved: for every word x and every part (a place, a number of bits, a word) the statement WordFields, called with them, returns true, and both read behind the call as they did before. No conditions. -/
import Derived.Test.YtijacihmdfhjcaaRows
import Derived.WalkKit
import Derived.ProofKit
import Derived.OpenShut
import Derived.Lib.SmallJoins
import Derived.Test.YtijacihmdfhjcaaFields
namespace Go.Proofs.Ytijacihmdfhjcaa.wordFields
open Go.ChangeShapes Go.WideShapes Go.ChangeAt Go.RowKit Go.Joins
open Go.ChangeMaps (open_string shut_string)
set_option linter.unusedVariables false

theorem own : ownKnob Try.prog.godebug = none := by kernel_rfl

def Gives (f : Nat) (args : Array Value) (v : Value) : Prop := ∀ w : World, Calls Try.prog f args w fun e w' => e = .returned v ∧ ∃ q, w' = w.drewN q
theorem gives_of_same {f : Nat} {args : Array Value} {v : Value} (h : ∀ w : World, Calls Try.prog f args w fun e w' => e = .returned v ∧ w' = w) : Gives f args v := by
  intro w
  refine (h w).mono ?_
  rintro e w' ⟨rfl, rfl⟩
  exact ⟨rfl, 0, rfl⟩
theorem grown_drewN {W w' : World} (h : Grown W w') (n : Nat) : Grown W (w'.drewN n) := by
  induction n generalizing w' with
  | zero => exact h
  | succ n ih => exact ih (Grown.drew h)

set_option maxHeartbeats 1000000 in
theorem core (x z a b n : Int) (za ze zc zg zy zi : Int) (h64 : wrap64 x = z)
    (e0 : 0 ≤ ze) (e1 : ze ≤ 11) (g0 : 0 ≤ zg) (g1 : zg ≤ 11) (i0 : 0 ≤ zi) (i1 : zi ≤ 11)
    (hO : Gives 33 #[.int .i64 z, .int .i64 b] (.tuple #[.int .i64 za, .int .i64 ze]))
    (hO' : Gives 34 #[.int .i64 z, .int .i64 b] (.tuple #[.int .i64 za, .int .i64 ze]))
    (hF : Gives 35 #[.int .u64 x, .int .i64 a, .int .i64 b] (.tuple #[.int .u64 zc, .int .i64 zg]))
    (hF' : Gives 36 #[.int .u64 x, .int .i64 a, .int .i64 b] (.tuple #[.int .u64 zc, .int .i64 zg]))
    (hL : Gives 37 #[.int .u64 x, .int .i64 a, .int .i64 b, .int .u64 n] (.tuple #[.int .u64 zy, .int .i64 zi]))
    (hL' : Gives 38 #[.int .u64 x, .int .i64 a, .int .i64 b, .int .u64 n] (.tuple #[.int .u64 zy, .int .i64 zi]))
    (w : World) :
    Calls Try.prog 6 #[.int .u64 x, .agg #[.int .i64 a, .int .i64 b, .int .u64 n]] w fun e w' => e = .returned (.bool true) ∧ Grown w w' := by
  go_enter Try.func6, Try.ntmps6
  go_wp2_with fail
  refine (hO _).mono ?_
  rintro e w1 ⟨rfl, q1, rfl⟩
  go_wp2_with fail
  refine (hO' _).mono ?_
  rintro e w1 ⟨rfl, q2, rfl⟩
  go_wp2_with fail
  refine (hF _).mono ?_
  rintro e w1 ⟨rfl, q3, rfl⟩
  go_wp2_with fail
  refine (hF' _).mono ?_
  rintro e w1 ⟨rfl, q4, rfl⟩
  go_wp2_with fail
  refine (hL _).mono ?_
  rintro e w1 ⟨rfl, q5, rfl⟩
  go_wp2_with fail
  refine (hL' _).mono ?_
  rintro e w1 ⟨rfl, q6, rfl⟩
  go_wp2_with fail
  refine (awake_any _).mono ?_
  rintro e w1 ⟨rfl, rfl⟩
  go_wp2
  go_ret
  exact ⟨rfl, grown_drewN ((Grown.refl _).alloc _ _) _⟩

theorem over_agree (z b : Int) (z2 : z ≤ 9223372036854775807) : ∃ za ze : Int, 0 ≤ ze ∧ ze ≤ 11 ∧
    Gives 33 #[.int .i64 z, .int .i64 b] (.tuple #[.int .i64 za, .int .i64 ze]) ∧ Gives 34 #[.int .i64 z, .int .i64 b] (.tuple #[.int .i64 za, .int .i64 ze]) := by
  by_cases h : z < 0
  · exact ⟨0, 1, by decide, by decide, gives_of_same (over_neg z b h), gives_of_same (refOver_neg z b h)⟩
  · by_cases h2 : b < 0 ∨ 62 < b
    · exact ⟨0, 11, by decide, by decide, gives_of_same (over_bad z b (by omega) h2), gives_of_same (refOver_bad z b (by omega) h2)⟩
    · obtain ⟨n, rfl⟩ := Int.eq_ofNat_of_zero_le (a := z) (by omega)
      obtain ⟨s, rfl⟩ := Int.eq_ofNat_of_zero_le (a := b) (by omega)
      exact ⟨overN n s, 0, by decide, by decide, gives_of_same (over_ok n s (by omega) (by omega)), gives_of_same (refOver_ok n s (by omega) (by omega))⟩
theorem field_agree (x : Nat) (a b : Int) (hx : x < 18446744073709551616) : ∃ zc zg : Int, 0 ≤ zg ∧ zg ≤ 11 ∧
    Gives 35 #[.int .u64 x, .int .i64 a, .int .i64 b] (.tuple #[.int .u64 zc, .int .i64 zg]) ∧ Gives 36 #[.int .u64 x, .int .i64 a, .int .i64 b] (.tuple #[.int .u64 zc, .int .i64 zg]) := by
  rcases out_or a b with h | ⟨n, m, rfl, rfl, h1, h2⟩
  · exact ⟨0, 11, by decide, by decide, gives_of_same (field_bad x a b h), gives_of_same (refField_bad x a b h)⟩
  · exact ⟨fieldN x n m, 0, by decide, by decide, field_ok x n m hx h1 h2, gives_of_same (refField_ok x n m hx h1 h2)⟩
theorem lay_agree (x n : Nat) (a b : Int) (hx : x < 18446744073709551616) (hn : n < 18446744073709551616) : ∃ zy zi : Int, 0 ≤ zi ∧ zi ≤ 11 ∧
    Gives 37 #[.int .u64 x, .int .i64 a, .int .i64 b, .int .u64 n] (.tuple #[.int .u64 zy, .int .i64 zi]) ∧ Gives 38 #[.int .u64 x, .int .i64 a, .int .i64 b, .int .u64 n] (.tuple #[.int .u64 zy, .int .i64 zi]) := by
  rcases out_or a b with h | ⟨k, m, rfl, rfl, h1, h2⟩
  · exact ⟨0, 11, by decide, by decide, gives_of_same (lay_bad x a b n h), gives_of_same (refLay_bad x a b n h)⟩
  · by_cases h : n ≤ onesN m
    · exact ⟨layN x k m n, 0, by decide, by decide, lay_ok x k m n hx h1 h2 h, gives_of_same (refLay_ok x k m n hx hn h1 h2 h)⟩
    · exact ⟨0, 10, by decide, by decide, gives_of_same (lay_wide x k m n h1 h2 (by omega)), gives_of_same (refLay_wide x k m n hx hn h1 h2 (by omega))⟩

theorem walk (a0 : Int) (w0 : (Lit.int .u64 a0).wf = true) (a1_0 : Int) (a1_1 : Int) (a1_2 : Int) (w1_0 : (Lit.int .i64 a1_0).wf = true) (w1_1 : (Lit.int .i64 a1_1).wf = true) (w1_2 : (Lit.int .u64 a1_2).wf = true) (w : World) :
    Calls Try.prog 6 #[.int .u64 a0, .agg #[.int .i64 a1_0, .int .i64 a1_1, .int .u64 a1_2]] w fun e w' => e = .returned (.bool true) ∧ Grown w w' := by
  have c0 := bounds_u64 w0
  have c2 := bounds_u64 w1_2
  obtain ⟨x, rfl⟩ := Int.eq_ofNat_of_zero_le c0.1
  obtain ⟨n, rfl⟩ := Int.eq_ofNat_of_zero_le c2.1
  have hz := w64 (x : Int)
  rw [wrapI64] at hz
  obtain ⟨za, ze, p1, p2, q1, q2⟩ := over_agree (wrap64 (x : Int)) a1_1 (by rw [hz]; split <;> omega)
  obtain ⟨zc, zg, p3, p4, q3, q4⟩ := field_agree x a1_0 a1_1 (by omega)
  obtain ⟨zy, zi, p5, p6, q5, q6⟩ := lay_agree x n a1_0 a1_1 (by omega) (by omega)
  exact core x _ a1_0 a1_1 n za ze zc zg zy zi rfl p1 p2 p3 p4 p5 p6 q1 q2 q3 q4 q5 q6 w


set_option maxRecDepth 100000 in
theorem lifted (os : Os) (started : os.Started) (H : Type) (enc : TypeId × Value → H) :
    ReturnsInHanded {} Try.checked os 6 .any (Rows.wordFieldsSpec.pre6 enc Try.prog Try.f6 Rows.wordFieldsRow.domain false) (Rows.wordFieldsSpec.post enc Try.prog Try.f6 false true false false) := by
  refine returnsInHanded_of_change (C := Try.checked) own started (by kernel_rfl) Try.func6
    (ChangeSpec.witness6 (enc := enc) (C := Try.checked) false ⟨#[], #[.int .u64 0, .agg #[.int .i64 0, .int .i64 0, .int .u64 0]], []⟩ 8 (by kernel_rfl) (by kernel_rfl) (by kernel_rfl) (by kernel_rfl)) ?_
  intro W base args ds gs before hval0 hW hcnd _
  have hval : ∀ (j : Nat) t v, Try.f6.params[j]? = some t → args[j]? = some v → Value.okWide Try.prog W .any base t v := hval0
  have hW' := hW
  obtain ⟨p, q, hA0, hV, rfl, hfz, hnd⟩ := hW
  have hA : DataW.TrodAll enc Try.prog W 0 (fun _ => true) true Try.f6.params.toList args.toList ds p := hA0
  rw [Try.params6] at hA hval
  obtain ⟨v0, vs0, d0, ds0, p0, q0, hargs, rfl, rfl, h0, r0⟩ := trodAll_cons hA
  obtain ⟨v1, vs1, d1, ds1, p1, q1, rfl, rfl, rfl, h1, r1⟩ := trodAll_cons r0
  obtain ⟨rfl, rfl, rfl⟩ := trodAll_nil r1
  obtain rfl : args = #[v0, v1] := by cases args; simp_all
  obtain ⟨rfl, rfl⟩ := trodVars_none hV
  obtain ⟨a0, rfl, rfl, rfl, w0⟩ := open_int Try.underlying22 (hval 0 22 v0 rfl rfl) h0
  obtain ⟨c1_0, c1_1, c1_2, y1_0, y1_1, y1_2, m1, rfl, rfl, rfl, hy1_0, hy1_1, hy1_2⟩ := open_agg3 Try.underlying64 (by kernel_rfl) (show Try.prog.cellsOf 64 = 3 by kernel_rfl) (hval 1 64 v1 rfl rfl) h1
  obtain ⟨a1_0, e1_0, rfl, w1_0⟩ := DataW.trod_int Try.underlying3 hy1_0
  obtain ⟨a1_1, e1_1, rfl, w1_1⟩ := DataW.trod_int Try.underlying3 hy1_1
  obtain ⟨a1_2, e1_2, rfl, w1_2⟩ := DataW.trod_int Try.underlying22 hy1_2
  simp at e1_0 e1_1 e1_2
  subst e1_0 e1_1 e1_2
  clear hA0 hval0
  simp only [List.append_nil] at hW'
  have reads1 : ∀ (W1 : World) (sp : Nat → Bool), DataW.Trod enc Try.prog W1 0 sp true 64 (.agg #[.int .i64 a1_0, .int .i64 a1_1, .int .u64 a1_2]) (.agg [.lit (.int .i64 a1_0), .lit (.int .i64 a1_1), .lit (.int .u64 a1_2)]) [] := fun W1 sp =>
    shut_agg3 (y0 := (.lit (.int .i64 a1_0), [])) (y1 := (.lit (.int .i64 a1_1), [])) (y2 := (.lit (.int .u64 a1_2), [])) Try.underlying64 (by kernel_rfl) (show Try.prog.cellsOf 64 = 3 by kernel_rfl) ⟨1, by simp [DataW.trod, Try.underlying3, w1_0]⟩ ⟨1, by simp [DataW.trod, Try.underlying3, w1_1]⟩ ⟨1, by simp [DataW.trod, Try.underlying22, w1_2]⟩
  refine (walk a0 w0 a1_0 a1_1 a1_2 w1_0 w1_1 w1_2 W).mono fun e W' ⟨he, hg⟩ => ?_
  subst he
  exact ⟨_, rfl, post_of_same (pa := []) (pv := []) hW' (fun _ _ _ => (trodAll_cons_mk (shut_bool Try.underlying4 _) trodAll_mk0)) (fun sp _ => (trodAll_cons_mk (shut_int Try.underlying22 w0) (trodAll_cons_mk (reads1 _ sp) trodAll_mk0))) (fun _ _ => rfl) rfl
    (hg.frame _) hg.2.1 (ok_one (by kernel_rfl) rfl (okWide_bool_mk Try.underlying4 _))⟩

theorem over : Rows.wordFieldsRow.holds Try.pinned (OpenSpec.ofChange Rows.wordFieldsSpec) :=
  OpenClaim.holds_of_wide 6 Try.f6 rfl rfl rfl rfl rfl rfl rfl ⟨rfl, rfl, rfl, rfl, rfl⟩ rfl rfl rfl rfl rfl (by kernel_rfl) Try.func6 (by kernel_rfl)
    (of_decide_eq_true (by kernel_rfl)) (by unfold Func.isWrapper; first | (rw [if_pos (by decide +kernel)]; kernel_rfl) | (rw [if_neg (by decide +kernel)]; exact ⟨rfl, rfl⟩))
    (fun os started H enc _ => lifted os started H enc)
end Go.Proofs.Ytijacihmdfhjcaa.wordFields

namespace Go.Proofs.Ytijacihmdfhjcaa
theorem wordFields_holds : Rows.WordFieldsSaid := wordFields.over
#print axioms wordFields_holds
end Go.Proofs.Ytijacihmdfhjcaa
