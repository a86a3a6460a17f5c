/- Proved: for every word x, every number by of 64 bits and every part the statement WordBack, called with them, returns true, and all read behind the call as they did before. No conditions. -/
import Derived.Test.YtijacihmdfhjcaaRows
import Derived.WalkKit
import Derived.ProofKit
import Derived.OpenShut
import Derived.Lib.SmallJoins
import Derived.Test.YtijacihmdfhjcaaFields
namespace Go.Proofs.Ytijacihmdfhjcaa.wordBack
open Go.ChangeShapes Go.WideShapes Go.ChangeAt Go.RowKit Go.Joins
open Go.ChangeMaps (open_string shut_string)
set_option linter.unusedVariables false

theorem own : ownKnob Try.prog.godebug = none := by kernel_rfl

theorem grown_drewN {W w' : World} (h : Grown W w') (n : Nat) : Grown W (w'.drewN n) := by
  induction n generalizing w' with
  | zero => exact h
  | succ n ih => exact ih (Grown.drew h)
def Hd (p : Prop) : Prop := p
theorem hide {p : Prop} (h : p) : Hd p := h
theorem unhide {p : Prop} (h : Hd p) : p := h

set_option maxHeartbeats 1000000 in
theorem core_least_noext_nolay (x y a b n u : Nat) (z a1 aa bb nn : Int) (hb : (a1 != -9223372036854775808) = false) (hbits : bb < 1 ∨ 64 < bb) (zi : Int) (hzi : (zi != 0) = true) (hL : ∀ w : World, Calls Try.prog 37 #[.int .u64 (x : Int), .int .i64 aa, .int .i64 bb, .int .u64 nn] w fun e w' => e = .returned (.tuple #[.int .u64 0, .int .i64 zi]) ∧ w' = w) (w : World) :
    Calls Try.prog 7 #[.int .u64 (x : Int), .int .i64 a1, .agg #[.int .i64 aa, .int .i64 bb, .int .u64 nn]] w fun e w' => e = .returned (.bool true) ∧ Grown w w' := by
  have HL := hide hL
  clear hL
  go_enter Try.func7, Try.ntmps7
  go_wp2_with fail
  refine (awake_any _).mono ?_
  rintro e w1 ⟨rfl, rfl⟩
  go_wp2_with fail
  refine (ext_bad _ _ hbits _).mono ?_
  rintro e w1 ⟨rfl, rfl⟩
  go_wp2_with fail
  refine (unhide HL _).mono ?_
  rintro e w1 ⟨rfl, rfl⟩
  go_wp2
  go_ret
  exact ⟨by simp, by first | exact grown_drewN ((Grown.refl _).alloc _ _) _ | exact (Grown.refl _).alloc _ _⟩

set_option maxHeartbeats 1000000 in
theorem core_least_ext_nolay (x y a b n u : Nat) (z a1 aa bb nn : Int) (hb : (a1 != -9223372036854775808) = false) (hx : x < 18446744073709551616) (h1 : 1 ≤ b) (h2 : b ≤ 64) (hwide : IntKind.u64.wrap z = (u : Int)) (hu : u < 18446744073709551616) (hz : extZ x b = z) (hzu : extZ u b = z) (hl : extZ (lowN u b) b = z) (zi : Int) (hzi : (zi != 0) = true) (hL : ∀ w : World, Calls Try.prog 37 #[.int .u64 (x : Int), .int .i64 aa, .int .i64 (b : Int), .int .u64 nn] w fun e w' => e = .returned (.tuple #[.int .u64 0, .int .i64 zi]) ∧ w' = w) (w : World) :
    Calls Try.prog 7 #[.int .u64 (x : Int), .int .i64 a1, .agg #[.int .i64 aa, .int .i64 (b : Int), .int .u64 nn]] w fun e w' => e = .returned (.bool true) ∧ Grown w w' := by
  have HL := hide hL
  clear hL
  go_enter Try.func7, Try.ntmps7
  go_wp2_with fail
  refine (awake_any _).mono ?_
  rintro e w1 ⟨rfl, rfl⟩
  go_wp2_with fail
  refine (ext_ok x b h1 h2 _).mono ?_
  rintro e w1 ⟨rfl, rfl⟩
  go_wp2_with fail
  refine (nar_ok z u b hwide hu h1 h2 hzu _).mono ?_
  rintro e w1 ⟨rfl, rfl⟩
  go_wp2_with fail
  refine (ext_ok (lowN u b) b h1 h2 _).mono ?_
  rintro e w1 ⟨rfl, rfl⟩
  go_wp2_with fail
  refine (unhide HL _).mono ?_
  rintro e w1 ⟨rfl, rfl⟩
  go_wp2
  go_ret
  exact ⟨by simp, by first | exact grown_drewN ((Grown.refl _).alloc _ _) _ | exact (Grown.refl _).alloc _ _⟩

set_option maxHeartbeats 1000000 in
theorem core_least_ext_lay (x y a b n u : Nat) (z a1 aa bb nn : Int) (hb : (a1 != -9223372036854775808) = false) (hx : x < 18446744073709551616) (h1 : 1 ≤ b) (h2 : b ≤ 64) (hwide : IntKind.u64.wrap z = (u : Int)) (hu : u < 18446744073709551616) (hz : extZ x b = z) (hzu : extZ u b = z) (hl : extZ (lowN u b) b = z) (h3 : a + b ≤ 64) (hn : n ≤ onesN b) (hly : layN x a b n < 18446744073709551616) (hf : fieldN (layN x a b n) a b = n) (hle : fieldN x a b ≤ onesN b) (hback : layN (layN x a b n) a b (fieldN x a b) = x) (w : World) :
    Calls Try.prog 7 #[.int .u64 (x : Int), .int .i64 a1, .agg #[.int .i64 (a : Int), .int .i64 (b : Int), .int .u64 (n : Int)]] w fun e w' => e = .returned (.bool true) ∧ Grown w w' := by
  go_enter Try.func7, Try.ntmps7
  go_wp2_with fail
  refine (awake_any _).mono ?_
  rintro e w1 ⟨rfl, rfl⟩
  go_wp2_with fail
  refine (ext_ok x b h1 h2 _).mono ?_
  rintro e w1 ⟨rfl, rfl⟩
  go_wp2_with fail
  refine (nar_ok z u b hwide hu h1 h2 hzu _).mono ?_
  rintro e w1 ⟨rfl, rfl⟩
  go_wp2_with fail
  refine (ext_ok (lowN u b) b h1 h2 _).mono ?_
  rintro e w1 ⟨rfl, rfl⟩
  go_wp2_with fail
  refine (lay_ok x a b n hx h1 h3 hn _).mono ?_
  rintro e w1 ⟨rfl, q1, rfl⟩
  go_wp2_with fail
  refine (field_ok (layN x a b n) a b hly h1 h3 _).mono ?_
  rintro e w1 ⟨rfl, q2, rfl⟩
  go_wp2_with fail
  refine (field_ok x a b hx h1 h3 _).mono ?_
  rintro e w1 ⟨rfl, q3, rfl⟩
  go_wp2_with fail
  refine (lay_ok (layN x a b n) a b (fieldN x a b) hly h1 h3 hle _).mono ?_
  rintro e w1 ⟨rfl, q4, rfl⟩
  go_wp2
  go_ret
  exact ⟨by simp, by first | exact grown_drewN ((Grown.refl _).alloc _ _) _ | exact (Grown.refl _).alloc _ _⟩

set_option maxHeartbeats 1000000 in
theorem core_other_noext_nolay (x y a b n u : Nat) (z a1 aa bb nn : Int) (hb : (a1 != -9223372036854775808) = true) (b0 : -9223372036854775807 ≤ a1) (b2 : a1 ≤ 9223372036854775807) (h32 : (x : Int) % 4294967296 = y) (hy : y < 4294967296) (hty : turnN y (a1 % 32).toNat < 4294967296) (htt : turnN (turnN y (a1 % 32).toNat) (-a1 % 32).toNat = y) (hbits : bb < 1 ∨ 64 < bb) (zi : Int) (hzi : (zi != 0) = true) (hL : ∀ w : World, Calls Try.prog 37 #[.int .u64 (x : Int), .int .i64 aa, .int .i64 bb, .int .u64 nn] w fun e w' => e = .returned (.tuple #[.int .u64 0, .int .i64 zi]) ∧ w' = w) (w : World) :
    Calls Try.prog 7 #[.int .u64 (x : Int), .int .i64 a1, .agg #[.int .i64 aa, .int .i64 bb, .int .u64 nn]] w fun e w' => e = .returned (.bool true) ∧ Grown w w' := by
  have HL := hide hL
  clear hL
  go_enter Try.func7, Try.ntmps7
  go_wp2_with fail
  refine (awake_any _).mono ?_
  rintro e w1 ⟨rfl, rfl⟩
  go_wp2_with fail
  refine (turn_any y a1 hy _).mono ?_
  rintro e w1 ⟨rfl, rfl⟩
  go_wp2_with fail
  refine (turn_any _ (-a1) hty _).mono ?_
  rintro e w1 ⟨rfl, rfl⟩
  go_wp2_with fail
  refine (ext_bad _ _ hbits _).mono ?_
  rintro e w1 ⟨rfl, rfl⟩
  go_wp2_with fail
  refine (unhide HL _).mono ?_
  rintro e w1 ⟨rfl, rfl⟩
  go_wp2
  go_ret
  exact ⟨by simp, by first | exact grown_drewN ((Grown.refl _).alloc _ _) _ | exact (Grown.refl _).alloc _ _⟩

set_option maxHeartbeats 1000000 in
theorem core_other_ext_nolay (x y a b n u : Nat) (z a1 aa bb nn : Int) (hb : (a1 != -9223372036854775808) = true) (b0 : -9223372036854775807 ≤ a1) (b2 : a1 ≤ 9223372036854775807) (h32 : (x : Int) % 4294967296 = y) (hy : y < 4294967296) (hty : turnN y (a1 % 32).toNat < 4294967296) (htt : turnN (turnN y (a1 % 32).toNat) (-a1 % 32).toNat = y) (hx : x < 18446744073709551616) (h1 : 1 ≤ b) (h2 : b ≤ 64) (hwide : IntKind.u64.wrap z = (u : Int)) (hu : u < 18446744073709551616) (hz : extZ x b = z) (hzu : extZ u b = z) (hl : extZ (lowN u b) b = z) (zi : Int) (hzi : (zi != 0) = true) (hL : ∀ w : World, Calls Try.prog 37 #[.int .u64 (x : Int), .int .i64 aa, .int .i64 (b : Int), .int .u64 nn] w fun e w' => e = .returned (.tuple #[.int .u64 0, .int .i64 zi]) ∧ w' = w) (w : World) :
    Calls Try.prog 7 #[.int .u64 (x : Int), .int .i64 a1, .agg #[.int .i64 aa, .int .i64 (b : Int), .int .u64 nn]] w fun e w' => e = .returned (.bool true) ∧ Grown w w' := by
  have HL := hide hL
  clear hL
  go_enter Try.func7, Try.ntmps7
  go_wp2_with fail
  refine (awake_any _).mono ?_
  rintro e w1 ⟨rfl, rfl⟩
  go_wp2_with fail
  refine (turn_any y a1 hy _).mono ?_
  rintro e w1 ⟨rfl, rfl⟩
  go_wp2_with fail
  refine (turn_any _ (-a1) hty _).mono ?_
  rintro e w1 ⟨rfl, rfl⟩
  go_wp2_with fail
  refine (ext_ok x b h1 h2 _).mono ?_
  rintro e w1 ⟨rfl, rfl⟩
  go_wp2_with fail
  refine (nar_ok z u b hwide hu h1 h2 hzu _).mono ?_
  rintro e w1 ⟨rfl, rfl⟩
  go_wp2_with fail
  refine (ext_ok (lowN u b) b h1 h2 _).mono ?_
  rintro e w1 ⟨rfl, rfl⟩
  go_wp2_with fail
  refine (unhide HL _).mono ?_
  rintro e w1 ⟨rfl, rfl⟩
  go_wp2
  go_ret
  exact ⟨by simp, by first | exact grown_drewN ((Grown.refl _).alloc _ _) _ | exact (Grown.refl _).alloc _ _⟩

set_option maxHeartbeats 1000000 in
theorem core_other_ext_lay (x y a b n u : Nat) (z a1 aa bb nn : Int) (hb : (a1 != -9223372036854775808) = true) (b0 : -9223372036854775807 ≤ a1) (b2 : a1 ≤ 9223372036854775807) (h32 : (x : Int) % 4294967296 = y) (hy : y < 4294967296) (hty : turnN y (a1 % 32).toNat < 4294967296) (htt : turnN (turnN y (a1 % 32).toNat) (-a1 % 32).toNat = y) (hx : x < 18446744073709551616) (h1 : 1 ≤ b) (h2 : b ≤ 64) (hwide : IntKind.u64.wrap z = (u : Int)) (hu : u < 18446744073709551616) (hz : extZ x b = z) (hzu : extZ u b = z) (hl : extZ (lowN u b) b = z) (h3 : a + b ≤ 64) (hn : n ≤ onesN b) (hly : layN x a b n < 18446744073709551616) (hf : fieldN (layN x a b n) a b = n) (hle : fieldN x a b ≤ onesN b) (hback : layN (layN x a b n) a b (fieldN x a b) = x) (w : World) :
    Calls Try.prog 7 #[.int .u64 (x : Int), .int .i64 a1, .agg #[.int .i64 (a : Int), .int .i64 (b : Int), .int .u64 (n : Int)]] w fun e w' => e = .returned (.bool true) ∧ Grown w w' := by
  go_enter Try.func7, Try.ntmps7
  go_wp2_with fail
  refine (awake_any _).mono ?_
  rintro e w1 ⟨rfl, rfl⟩
  go_wp2_with fail
  refine (turn_any y a1 hy _).mono ?_
  rintro e w1 ⟨rfl, rfl⟩
  go_wp2_with fail
  refine (turn_any _ (-a1) hty _).mono ?_
  rintro e w1 ⟨rfl, rfl⟩
  go_wp2_with fail
  refine (ext_ok x b h1 h2 _).mono ?_
  rintro e w1 ⟨rfl, rfl⟩
  go_wp2_with fail
  refine (nar_ok z u b hwide hu h1 h2 hzu _).mono ?_
  rintro e w1 ⟨rfl, rfl⟩
  go_wp2_with fail
  refine (ext_ok (lowN u b) b h1 h2 _).mono ?_
  rintro e w1 ⟨rfl, rfl⟩
  go_wp2_with fail
  refine (lay_ok x a b n hx h1 h3 hn _).mono ?_
  rintro e w1 ⟨rfl, q1, rfl⟩
  go_wp2_with fail
  refine (field_ok (layN x a b n) a b hly h1 h3 _).mono ?_
  rintro e w1 ⟨rfl, q2, rfl⟩
  go_wp2_with fail
  refine (field_ok x a b hx h1 h3 _).mono ?_
  rintro e w1 ⟨rfl, q3, rfl⟩
  go_wp2_with fail
  refine (lay_ok (layN x a b n) a b (fieldN x a b) hly h1 h3 hle _).mono ?_
  rintro e w1 ⟨rfl, q4, rfl⟩
  go_wp2
  go_ret
  exact ⟨by simp, by first | exact grown_drewN ((Grown.refl _).alloc _ _) _ | exact (Grown.refl _).alloc _ _⟩

theorem noext (x n : Nat) (a1 aa bb : Int) (c1 : -9223372036854775808 ≤ a1 ∧ a1 ≤ 9223372036854775807) (h : bb < 1 ∨ 64 < bb) (w : World) :
    Calls Try.prog 7 #[.int .u64 (x : Int), .int .i64 a1, .agg #[.int .i64 aa, .int .i64 bb, .int .u64 (n : Int)]] w fun e w' => e = .returned (.bool true) ∧ Grown w w' := by
  have ho : Out aa bb := by unfold Out; omega
  by_cases hb : a1 = -9223372036854775808
  · exact core_least_noext_nolay x 0 0 0 0 0 0 a1 aa bb n (by rw [hb]; rfl) h 11 rfl (lay_bad x aa bb n ho) w
  · have hy : x % 4294967296 < 4294967296 := Nat.mod_lt _ (by decide)
    exact core_other_noext_nolay x (x % 4294967296) 0 0 0 0 0 a1 aa bb n (by rw [bne_iff_ne]; exact hb) (by omega) c1.2 (by omega) hy (turnN_lt _ _ hy)
      (turnN_back _ _ _ hy (by omega) (by omega) (by omega)) h 11 rfl (lay_bad x aa bb n ho) w
theorem nolay (x n b : Nat) (hx : x < 18446744073709551616) (a1 aa zi : Int) (hzi : (zi != 0) = true) (h1 : 1 ≤ b) (h2 : b ≤ 64) (c1 : -9223372036854775808 ≤ a1 ∧ a1 ≤ 9223372036854775807)
    (hL : ∀ w : World, Calls Try.prog 37 #[.int .u64 (x : Int), .int .i64 aa, .int .i64 (b : Int), .int .u64 (n : Int)] w fun e w' => e = .returned (.tuple #[.int .u64 0, .int .i64 zi]) ∧ w' = w) (w : World) :
    Calls Try.prog 7 #[.int .u64 (x : Int), .int .i64 a1, .agg #[.int .i64 aa, .int .i64 (b : Int), .int .u64 (n : Int)]] w fun e w' => e = .returned (.bool true) ∧ Grown w w' := by
  have hw := extZ_wrap x b h1 h2
  have hu := extN_lt x b h2
  have hzu := extZ_extN x b h1 h2
  have hl : extZ (lowN (extN x b) b) b = extZ x b := (ext_low _ b h1).trans hzu
  by_cases hb : a1 = -9223372036854775808
  · exact core_least_ext_nolay x 0 0 b 0 (extN x b) (extZ x b) a1 aa 0 n (by rw [hb]; rfl) hx h1 h2 hw hu rfl hzu hl zi hzi hL w
  · have hy : x % 4294967296 < 4294967296 := Nat.mod_lt _ (by decide)
    exact core_other_ext_nolay x (x % 4294967296) 0 b 0 (extN x b) (extZ x b) a1 aa 0 n (by rw [bne_iff_ne]; exact hb) (by omega) c1.2 (by omega) hy (turnN_lt _ _ hy)
      (turnN_back _ _ _ hy (by omega) (by omega) (by omega)) hx h1 h2 hw hu rfl hzu hl zi hzi hL w
theorem lays (x n a b : Nat) (hx : x < 18446744073709551616) (a1 : Int) (h1 : 1 ≤ b) (h3 : a + b ≤ 64) (hn : n ≤ onesN b) (c1 : -9223372036854775808 ≤ a1 ∧ a1 ≤ 9223372036854775807) (w : World) :
    Calls Try.prog 7 #[.int .u64 (x : Int), .int .i64 a1, .agg #[.int .i64 (a : Int), .int .i64 (b : Int), .int .u64 (n : Int)]] w fun e w' => e = .returned (.bool true) ∧ Grown w w' := by
  have h2 : b ≤ 64 := by omega
  have hw := extZ_wrap x b h1 h2
  have hu := extN_lt x b h2
  have hzu := extZ_extN x b h1 h2
  have hl : extZ (lowN (extN x b) b) b = extZ x b := (ext_low _ b h1).trans hzu
  by_cases hb : a1 = -9223372036854775808
  · exact core_least_ext_lay x 0 a b n (extN x b) (extZ x b) a1 0 0 0 (by rw [hb]; rfl) hx h1 h2 hw hu rfl hzu hl h3 hn (layN_lt x a b n hx h3 hn) (field_lay x a b n h3 hn) (fieldN_le x a b) (lay_back x a b n hx h3 hn) w
  · have hy : x % 4294967296 < 4294967296 := Nat.mod_lt _ (by decide)
    exact core_other_ext_lay x (x % 4294967296) a b n (extN x b) (extZ x b) a1 0 0 0 (by rw [bne_iff_ne]; exact hb) (by omega) c1.2 (by omega) hy (turnN_lt _ _ hy)
      (turnN_back _ _ _ hy (by omega) (by omega) (by omega)) hx h1 h2 hw hu rfl hzu hl h3 hn (layN_lt x a b n hx h3 hn) (field_lay x a b n h3 hn) (fieldN_le x a b) (lay_back x a b n hx h3 hn) w

theorem walk (a0 : Int) (w0 : (Lit.int .u64 a0).wf = true) (a1 : Int) (w1 : (Lit.int .i64 a1).wf = true) (a2_0 : Int) (a2_1 : Int) (a2_2 : Int) (w2_0 : (Lit.int .i64 a2_0).wf = true) (w2_1 : (Lit.int .i64 a2_1).wf = true) (w2_2 : (Lit.int .u64 a2_2).wf = true) (w : World) :
    Calls Try.prog 7 #[.int .u64 a0, .int .i64 a1, .agg #[.int .i64 a2_0, .int .i64 a2_1, .int .u64 a2_2]] w fun e w' => e = .returned (.bool true) ∧ Grown w w' := by
  have c0 := bounds_u64 w0
  have c1 := bounds_i64 w1
  have c2 := bounds_u64 w2_2
  obtain ⟨x, rfl⟩ := Int.eq_ofNat_of_zero_le c0.1
  obtain ⟨n, rfl⟩ := Int.eq_ofNat_of_zero_le c2.1
  by_cases hb : a2_1 < 1 ∨ 64 < a2_1
  · exact noext x n a1 a2_0 a2_1 c1 hb w
  · rcases out_or a2_0 a2_1 with ho | ⟨k, m, rfl, rfl, h1, h2⟩
    · obtain ⟨b, rfl⟩ := Int.eq_ofNat_of_zero_le (a := a2_1) (by omega)
      exact nolay x n b (by omega) a1 a2_0 11 rfl (by omega) (by omega) c1 (lay_bad x a2_0 b n ho) w
    · by_cases hn : n ≤ onesN m
      · exact lays x n k m (by omega) a1 h1 h2 hn c1 w
      · exact nolay x n m (by omega) a1 k 10 rfl h1 (by omega) c1 (lay_wide x k m n h1 h2 (by omega)) w


set_option maxRecDepth 100000 in
theorem lifted (os : Os) (started : os.Started) (H : Type) (enc : TypeId × Value → H) :
    ReturnsInHanded {} Try.checked os 7 .any (Rows.wordBackSpec.pre6 enc Try.prog Try.f7 Rows.wordBackRow.domain false) (Rows.wordBackSpec.post enc Try.prog Try.f7 false true false false) := by
  refine returnsInHanded_of_change (C := Try.checked) own started (by kernel_rfl) Try.func7
    (ChangeSpec.witness6 (enc := enc) (C := Try.checked) false ⟨#[], #[.int .u64 0, .int .i64 0, .agg #[.int .i64 0, .int .i64 0, .int .u64 0]], []⟩ 8 (by kernel_rfl) (by kernel_rfl) (by kernel_rfl) (by kernel_rfl)) ?_
  intro W base args ds gs before hval0 hW hcnd _
  have hval : ∀ (j : Nat) t v, Try.f7.params[j]? = some t → args[j]? = some v → Value.okWide Try.prog W .any base t v := hval0
  have hW' := hW
  obtain ⟨p, q, hA0, hV, rfl, hfz, hnd⟩ := hW
  have hA : DataW.TrodAll enc Try.prog W 0 (fun _ => true) true Try.f7.params.toList args.toList ds p := hA0
  rw [Try.params7] at hA hval
  obtain ⟨v0, vs0, d0, ds0, p0, q0, hargs, rfl, rfl, h0, r0⟩ := trodAll_cons hA
  obtain ⟨v1, vs1, d1, ds1, p1, q1, rfl, rfl, rfl, h1, r1⟩ := trodAll_cons r0
  obtain ⟨v2, vs2, d2, ds2, p2, q2, rfl, rfl, rfl, h2, r2⟩ := trodAll_cons r1
  obtain ⟨rfl, rfl, rfl⟩ := trodAll_nil r2
  obtain rfl : args = #[v0, v1, v2] := by cases args; simp_all
  obtain ⟨rfl, rfl⟩ := trodVars_none hV
  obtain ⟨a0, rfl, rfl, rfl, w0⟩ := open_int Try.underlying22 (hval 0 22 v0 rfl rfl) h0
  obtain ⟨a1, rfl, rfl, rfl, w1⟩ := open_int Try.underlying3 (hval 1 3 v1 rfl rfl) h1
  obtain ⟨c2_0, c2_1, c2_2, y2_0, y2_1, y2_2, m2, rfl, rfl, rfl, hy2_0, hy2_1, hy2_2⟩ := open_agg3 Try.underlying64 (by kernel_rfl) (show Try.prog.cellsOf 64 = 3 by kernel_rfl) (hval 2 64 v2 rfl rfl) h2
  obtain ⟨a2_0, e2_0, rfl, w2_0⟩ := DataW.trod_int Try.underlying3 hy2_0
  obtain ⟨a2_1, e2_1, rfl, w2_1⟩ := DataW.trod_int Try.underlying3 hy2_1
  obtain ⟨a2_2, e2_2, rfl, w2_2⟩ := DataW.trod_int Try.underlying22 hy2_2
  simp at e2_0 e2_1 e2_2
  subst e2_0 e2_1 e2_2
  clear hA0 hval0
  simp only [List.append_nil] at hW'
  have reads2 : ∀ (W1 : World) (sp : Nat → Bool), DataW.Trod enc Try.prog W1 0 sp true 64 (.agg #[.int .i64 a2_0, .int .i64 a2_1, .int .u64 a2_2]) (.agg [.lit (.int .i64 a2_0), .lit (.int .i64 a2_1), .lit (.int .u64 a2_2)]) [] := fun W1 sp =>
    shut_agg3 (y0 := (.lit (.int .i64 a2_0), [])) (y1 := (.lit (.int .i64 a2_1), [])) (y2 := (.lit (.int .u64 a2_2), [])) Try.underlying64 (by kernel_rfl) (show Try.prog.cellsOf 64 = 3 by kernel_rfl) ⟨1, by simp [DataW.trod, Try.underlying3, w2_0]⟩ ⟨1, by simp [DataW.trod, Try.underlying3, w2_1]⟩ ⟨1, by simp [DataW.trod, Try.underlying22, w2_2]⟩
  refine (walk a0 w0 a1 w1 a2_0 a2_1 a2_2 w2_0 w2_1 w2_2 W).mono fun e W' ⟨he, hg⟩ => ?_
  subst he
  exact ⟨_, rfl, post_of_same (pa := []) (pv := []) hW' (fun _ _ _ => (trodAll_cons_mk (shut_bool Try.underlying4 _) trodAll_mk0)) (fun sp _ => (trodAll_cons_mk (shut_int Try.underlying22 w0) (trodAll_cons_mk (shut_int Try.underlying3 w1) (trodAll_cons_mk (reads2 _ sp) trodAll_mk0)))) (fun _ _ => rfl) rfl
    (hg.frame _) hg.2.1 (ok_one (by kernel_rfl) rfl (okWide_bool_mk Try.underlying4 _))⟩

theorem over : Rows.wordBackRow.holds Try.pinned (OpenSpec.ofChange Rows.wordBackSpec) :=
  OpenClaim.holds_of_wide 7 Try.f7 rfl rfl rfl rfl rfl rfl rfl ⟨rfl, rfl, rfl, rfl, rfl⟩ rfl rfl rfl rfl rfl (by kernel_rfl) Try.func7 (by kernel_rfl)
    (of_decide_eq_true (by kernel_rfl)) (by unfold Func.isWrapper; first | (rw [if_pos (by decide +kernel)]; kernel_rfl) | (rw [if_neg (by decide +kernel)]; exact ⟨rfl, rfl⟩))
    (fun os started H enc _ => lifted os started H enc)
end Go.Proofs.Ytijacihmdfhjcaa.wordBack

namespace Go.Proofs.Ytijacihmdfhjcaa
theorem wordBack_holds : Rows.WordBackSaid := wordBack.over
#print axioms wordBack_holds
end Go.Proofs.Ytijacihmdfhjcaa
