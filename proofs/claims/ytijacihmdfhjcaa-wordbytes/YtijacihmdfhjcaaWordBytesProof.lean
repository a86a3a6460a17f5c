/- Proved: for every word n, every text s (of every length that there can be) and every number at of 64 bits the statement WordBytes, called with them, returns true, and all read behind the call as they did before. No conditions. -/
import Derived.Test.YtijacihmdfhjcaaRows
import Derived.WalkKit
import Derived.ProofKit
import Derived.OpenShut
import Derived.Lib.SmallJoins
import Derived.Test.YtijacihmdfhjcaaBytesLaw
import Derived.Deep.RegionWith
import Derived.Deep.DeepCutAuto
namespace Go.Proofs.Ytijacihmdfhjcaa.wordBytes
open Go.ChangeShapes Go.WideShapes Go.ChangeAt Go.RowKit Go.Joins
open Go.ChangeMaps (open_string shut_string)
set_option linter.unusedVariables false

theorem own : ownKnob Try.prog.godebug = none := by kernel_rfl

set_option maxRecDepth 100000 in
set_option maxHeartbeats 2000000 in
theorem core (n n2 n4 : Nat) (s : ByteArray) (a : Int) (hn : n < 18446744073709551616) (hs : s.size ≤ maxLen) (h2 : IntKind.u16.wrap (n : Int) = n2) (h4 : (n : Int) % 4294967296 = n4) (H2 : Hid (n2 = n % 65536)) (H4 : Hid (n4 = n % 4294967296))
    (e2 : le2 (dg n 0) (dg n 1) = n2) (e4 : le4 (dg n 0) (dg n 1) (dg n 2) (dg n 3) = n4) (e8 : le8 (dg n 0) (dg n 1) (dg n 2) (dg n 3) (dg n 4) (dg n 5) (dg n 6) (dg n 7) = n)
    (t2 t4 t8 : Nat) (f2 f4 f8 : Bool) (l2 : t2 < 65536) (l4 : t4 < 4294967296)
    (T2 : Hd (Gives Try.prog 17 #[.string s, .int .i64 a] (.tuple #[.int .u16 (t2 : Int), .bool f2])))
    (T4 : Hd (Gives Try.prog 18 #[.string s, .int .i64 a] (.tuple #[.int .u32 (t4 : Int), .bool f4])))
    (T8 : Hd (Gives Try.prog 19 #[.string s, .int .i64 a] (.tuple #[.int .u64 (t8 : Int), .bool f8])))
    (R2 : Hd (Gives Try.prog 20 #[.string s, .int .i64 a, .int .i64 2] (.tuple #[.int .u64 (t2 : Int), .bool f2])))
    (R4 : Hd (Gives Try.prog 20 #[.string s, .int .i64 a, .int .i64 4] (.tuple #[.int .u64 (t4 : Int), .bool f4])))
    (R8 : Hd (Gives Try.prog 20 #[.string s, .int .i64 a, .int .i64 8] (.tuple #[.int .u64 (t8 : Int), .bool f8])))
    (w : World) :
    Calls Try.prog 3 #[.int .u64 n, .string s, .int .i64 a] w fun e w' => e = .returned (.bool true) ∧ Below w.heap.size w w' := by
  go_enter Try.func3, Try.ntmps3
  go_wp2_with fail
  refine (bytes16_dg n n2 H2.out _).mono ?_
  rintro e w1 ⟨rfl, hb1⟩
  go_wp2_with fail
  refine (bytes32_dg n n4 H4.out _).mono ?_
  rintro e w2 ⟨rfl, hb2⟩
  go_wp2_with fail
  refine (bytes64_dg n _).mono ?_
  rintro e w3 ⟨rfl, hb3⟩
  have hB := boxes_new w3 n
  have hW : Below w.heap.size w w3 := (hb1.trans (hb2.mono hb1.size)).trans (hb3.mono (Nat.le_trans hb1.size hb2.size))
  clear hb1 hb2 hb3
  go_wp2_with fail
  have hW2 : Below w.heap.size w (((w3.alloc (.cells #[.int .u8 (dg n 0 : Int), .int .u8 (dg n 1 : Int)] 23)).alloc (.cells #[.int .u8 (dg n 0 : Int), .int .u8 (dg n 1 : Int), .int .u8 (dg n 2 : Int), .int .u8 (dg n 3 : Int)] 26)).alloc
    (.cells #[.int .u8 (dg n 0 : Int), .int .u8 (dg n 1 : Int), .int .u8 (dg n 2 : Int), .int .u8 (dg n 3 : Int), .int .u8 (dg n 4 : Int), .int .u8 (dg n 5 : Int), .int .u8 (dg n 6 : Int), .int .u8 (dg n 7 : Int)] 29)) := by
    have := hW.size
    exact ((hW.alloc this _).alloc (by simp; omega) _).alloc (by simp; omega) _
  generalize (((w3.alloc (.cells #[.int .u8 (dg n 0 : Int), .int .u8 (dg n 1 : Int)] 23)).alloc (.cells #[.int .u8 (dg n 0 : Int), .int .u8 (dg n 1 : Int), .int .u8 (dg n 2 : Int), .int .u8 (dg n 3 : Int)] 26)).alloc
    (.cells #[.int .u8 (dg n 0 : Int), .int .u8 (dg n 1 : Int), .int .u8 (dg n 2 : Int), .int .u8 (dg n 3 : Int), .int .u8 (dg n 4 : Int), .int .u8 (dg n 5 : Int), .int .u8 (dg n 6 : Int), .int .u8 (dg n 7 : Int)] 29)) = W at *
  generalize w3.heap.size = B at *
  clear hW
  go_cut [52] (fun v wx => v = .bool false ∧ Boxes wx B n ∧ Below w.heap.size w wx)
  case first =>
    have hB0 : Boxes W.drew B n := ⟨hB.size, hB.c2, hB.c4, hB.c8⟩
    have hW0 : Below w.heap.size w W.drew := hW2.drew
    have HN : Hid (n < 18446744073709551616) := hn
    clear hB hW2
    go_region_with (first
      | (go_at_call 11; refine (awake_any _).mono ?_; rintro e w' ⟨rfl, rfl⟩)
      | (go_at_call_of 13 (Value.int IntKind.i64 2); refine (refBytes_dg n 2 (by decide) (by decide) HN.out _).mono ?_; rintro e w4 ⟨g4, c4, rfl, hc4, hb4⟩; have hB4 := hB0.below hb4; have hW4 := hW0.trans (hb4.mono hW0.size); clear hb4)
      | (go_at_call_of 13 (Value.int IntKind.i64 4); refine (refBytes_dg n 4 (by decide) (by decide) HN.out _).mono ?_; rintro e w5 ⟨g5, c5, rfl, hc5, hb5⟩; have hB5 := hB4.below hb5; have hW5 := hW4.trans (hb5.mono hW4.size); clear hb5)
      | (go_at_call_of 13 (Value.int IntKind.i64 8); refine (refBytes_dg n 8 (by decide) (by decide) HN.out _).mono ?_; rintro e w6 ⟨g6, c6, rfl, hc6, hb6⟩; have hB6 := hB5.below hb6; have hW6 := hW5.trans (hb6.mono hW5.size); clear hb6)
      | (go_at_call 12; refine (bytesEq_dg n _ _ _ _ 8 _ hB6.c8 hc6).mono ?_; rintro e w' ⟨rfl, rfl⟩)
      | (go_at_call 12; refine (bytesEq_dg n _ _ _ _ 4 _ hB5.c4 hc5).mono ?_; rintro e w' ⟨rfl, rfl⟩)
      | (go_at_call 12; refine (bytesEq_dg n _ _ _ _ 2 _ hB4.c2 hc4).mono ?_; rintro e w' ⟨rfl, rfl⟩))
    all_goals (go_wp2_with fail; go_meet; exact ⟨rfl, hB6, hW6⟩)
  case rest =>
    obtain ⟨rfl, hB1, hW1⟩ := hcut
    have k0 := hB1.c2 0 (by decide)
    have k1 := hB1.c2 1 (by decide)
    go_wp2_with fail
    refine (of16_any _ _ (dg_lt n 0) (dg_lt n 1) _).mono ?_
    rintro e w7 ⟨rfl, hb7⟩
    clear k0 k1
    have hB7 := hB1.below hb7
    have hW7 := hW1.trans (hb7.mono hW1.size)
    have k0 := hB7.c4 0 (by decide)
    have k1 := hB7.c4 1 (by decide)
    have k2 := hB7.c4 2 (by decide)
    have k3 := hB7.c4 3 (by decide)
    clear hb7 hB1 hW1
    go_wp2_with fail
    refine (of32_any _ _ _ _ (dg_lt n 0) (dg_lt n 1) (dg_lt n 2) (dg_lt n 3) _).mono ?_
    rintro e w8 ⟨rfl, hb8⟩
    clear k0 k1 k2 k3
    have hB8 := hB7.below hb8
    have hW8 := hW7.trans (hb8.mono hW7.size)
    clear hb8 hB7 hW7
    have k0 := hB8.c8 0 (by decide)
    have k1 := hB8.c8 1 (by decide)
    have k2 := hB8.c8 2 (by decide)
    have k3 := hB8.c8 3 (by decide)
    have k4 := hB8.c8 4 (by decide)
    have k5 := hB8.c8 5 (by decide)
    have k6 := hB8.c8 6 (by decide)
    have k7 := hB8.c8 7 (by decide)
    go_wp2_with fail
    refine (of64_any _ _ _ _ _ _ _ _ (dg_lt n 0) (dg_lt n 1) (dg_lt n 2) (dg_lt n 3) (dg_lt n 4) (dg_lt n 5) (dg_lt n 6) (dg_lt n 7) _).mono ?_
    rintro e w9 ⟨rfl, hb9⟩
    clear k0 k1 k2 k3 k4 k5 k6 k7
    have hW9 := hW8.trans (hb9.mono hW8.size)
    clear hb9 hB8 hW8
    go_wp2_with fail
    refine ((unhide T2) _).mono ?_
    rintro e w10 ⟨rfl, hb10⟩
    have hW10 := hW9.trans (hb10.mono hW9.size)
    clear hb10 hW9
    go_wp2_with fail
    refine ((unhide T4) _).mono ?_
    rintro e w11 ⟨rfl, hb11⟩
    have hW11 := hW10.trans (hb11.mono hW10.size)
    clear hb11 hW10
    go_wp2_with fail
    refine ((unhide T8) _).mono ?_
    rintro e w12 ⟨rfl, hb12⟩
    have hW12 := hW11.trans (hb12.mono hW11.size)
    clear hb12 hW11
    go_wp2_with fail
    refine ((unhide R2) _).mono ?_
    rintro e w13 ⟨rfl, hb13⟩
    have hW13 := hW12.trans (hb13.mono hW12.size)
    clear hb13 hW12
    go_wp2_with fail
    refine ((unhide R4) _).mono ?_
    rintro e w14 ⟨rfl, hb14⟩
    have hW14 := hW13.trans (hb14.mono hW13.size)
    clear hb14 hW13
    go_wp2_with fail
    refine ((unhide R8) _).mono ?_
    rintro e w15 ⟨rfl, hb15⟩
    have hW15 := hW14.trans (hb15.mono hW14.size)
    clear hb15 hW14
    go_wp2
    go_ret
    exact ⟨by simp, hW15⟩

theorem gives_same {f : Nat} {args : Array Value} {v : Value} (h : ∀ w : World, Calls Try.prog f args w fun e w' => e = .returned v ∧ w' = w) : Gives Try.prog f args v := by
  intro w
  refine (h w).mono ?_
  rintro e w' ⟨rfl, rfl⟩
  exact ⟨rfl, Below.refl _ _⟩
theorem at2_lt (s : ByteArray) (a : Nat) : at2 s a < 65536 := by
  have := byteAt_lt s a; have := byteAt_lt s (a + 1); unfold at2 le2; omega
theorem at4_lt (s : ByteArray) (a : Nat) : at4 s a < 4294967296 := by
  have := byteAt_lt s a; have := byteAt_lt s (a + 1); have := byteAt_lt s (a + 2); have := byteAt_lt s (a + 3); unfold at4 le4; omega
theorem agree (s : ByteArray) (i : Int) (hs : s.size ≤ maxLen) (k : Nat) : (i < 0 ∨ (0 ≤ i ∧ (s.size : Int) - k < i)) ∨ ∃ a : Nat, i = a ∧ a + k ≤ s.size := by
  by_cases h : i < 0 ∨ (0 ≤ i ∧ (s.size : Int) - k < i)
  · exact .inl h
  · exact .inr ⟨i.toNat, by omega, by omega⟩
theorem agree2 (s : ByteArray) (i : Int) (hs : s.size ≤ maxLen) : ∃ (t : Nat) (f : Bool), t < 65536 ∧ Gives Try.prog 17 #[.string s, .int .i64 i] (.tuple #[.int .u16 (t : Int), .bool f]) ∧ Gives Try.prog 20 #[.string s, .int .i64 i, .int .i64 2] (.tuple #[.int .u64 (t : Int), .bool f]) := by
  rcases agree s i hs 2 with h | ⟨a, rfl, h⟩
  · exact ⟨0, false, by decide, take16_no s i hs h, gives_same (refTake16_no s i hs h)⟩
  · exact ⟨at2 s a, true, at2_lt s a, take16_yes s a hs h, refTake16_yes s a hs h⟩
theorem agree4 (s : ByteArray) (i : Int) (hs : s.size ≤ maxLen) : ∃ (t : Nat) (f : Bool), t < 4294967296 ∧ Gives Try.prog 18 #[.string s, .int .i64 i] (.tuple #[.int .u32 (t : Int), .bool f]) ∧ Gives Try.prog 20 #[.string s, .int .i64 i, .int .i64 4] (.tuple #[.int .u64 (t : Int), .bool f]) := by
  rcases agree s i hs 4 with h | ⟨a, rfl, h⟩
  · exact ⟨0, false, by decide, take32_no s i hs h, gives_same (refTake32_no s i hs h)⟩
  · exact ⟨at4 s a, true, at4_lt s a, take32_yes s a hs h, refTake32_yes s a hs h⟩
theorem agree8 (s : ByteArray) (i : Int) (hs : s.size ≤ maxLen) : ∃ (t : Nat) (f : Bool), Gives Try.prog 19 #[.string s, .int .i64 i] (.tuple #[.int .u64 (t : Int), .bool f]) ∧ Gives Try.prog 20 #[.string s, .int .i64 i, .int .i64 8] (.tuple #[.int .u64 (t : Int), .bool f]) := by
  rcases agree s i hs 8 with h | ⟨a, rfl, h⟩
  · exact ⟨0, false, take64_no s i hs h, gives_same (refTake64_no s i hs h)⟩
  · exact ⟨at8 s a, true, take64_yes s a hs h, refTake64_yes s a hs h⟩

theorem walk (a0 : Int) (w0 : (Lit.int .u64 a0).wf = true) (s1 : ByteArray) (h1s : s1.size ≤ maxLen) (a2 : Int) (w2 : (Lit.int .i64 a2).wf = true) (w : World) :
    Calls Try.prog 3 #[.int .u64 a0, .string s1, .int .i64 a2] w fun e w' => e = .returned (.bool true) ∧ Below w.heap.size w w' := by
  have c0 := bounds_u64 w0
  obtain ⟨n, rfl⟩ := Int.eq_ofNat_of_zero_le c0.1
  obtain ⟨t2, f2, l2, T2, R2⟩ := agree2 s1 a2 h1s
  obtain ⟨t4, f4, l4, T4, R4⟩ := agree4 s1 a2 h1s
  obtain ⟨t8, f8, T8, R8⟩ := agree8 s1 a2 h1s
  exact core n (n % 65536) (n % 4294967296) s1 a2 (by omega) h1s (by rw [IntKind.wrap_u16]; omega) (by omega) rfl rfl
    (by unfold le2 dg; omega) (by unfold le4 dg; omega) (by unfold le8 dg; omega) t2 t4 t8 f2 f4 f8 l2 l4 T2 T4 T8 R2 R4 R8 w


set_option maxRecDepth 100000 in
theorem lifted (os : Os) (started : os.Started) (H : Type) (enc : TypeId × Value → H) :
    ReturnsInHanded {} Try.checked os 3 .any (Rows.wordBytesSpec.pre6 enc Try.prog Try.f3 Rows.wordBytesRow.domain false) (Rows.wordBytesSpec.post enc Try.prog Try.f3 false true false false) := by
  refine returnsInHanded_of_change (C := Try.checked) own started (by kernel_rfl) Try.func3
    (ChangeSpec.witness6 (enc := enc) (C := Try.checked) false ⟨#[], #[.int .u64 0, .string ByteArray.empty, .int .i64 0], []⟩ 8 (by kernel_rfl) (by kernel_rfl) (by kernel_rfl) (by kernel_rfl)) ?_
  intro W base args ds gs before hval0 hW hcnd _
  have hval : ∀ (j : Nat) t v, Try.f3.params[j]? = some t → args[j]? = some v → Value.okWide Try.prog W .any base t v := hval0
  have hW' := hW
  obtain ⟨p, q, hA0, hV, rfl, hfz, hnd⟩ := hW
  have hA : DataW.TrodAll enc Try.prog W 0 (fun _ => true) true Try.f3.params.toList args.toList ds p := hA0
  rw [Try.params3] at hA hval
  obtain ⟨v0, vs0, d0, ds0, p0, q0, hargs, rfl, rfl, h0, r0⟩ := trodAll_cons hA
  obtain ⟨v1, vs1, d1, ds1, p1, q1, rfl, rfl, rfl, h1, r1⟩ := trodAll_cons r0
  obtain ⟨v2, vs2, d2, ds2, p2, q2, rfl, rfl, rfl, h2, r2⟩ := trodAll_cons r1
  obtain ⟨rfl, rfl, rfl⟩ := trodAll_nil r2
  obtain rfl : args = #[v0, v1, v2] := by cases args; simp_all
  obtain ⟨rfl, rfl⟩ := trodVars_none hV
  obtain ⟨a0, rfl, rfl, rfl, w0⟩ := open_int Try.underlying22 (hval 0 22 v0 rfl rfl) h0
  obtain ⟨s1, rfl, rfl, rfl, h1s⟩ := open_string Try.underlying9 (hval 1 9 v1 rfl rfl) h1
  obtain ⟨a2, rfl, rfl, rfl, w2⟩ := open_int Try.underlying3 (hval 2 3 v2 rfl rfl) h2
  clear hA0 hval0
  simp only [List.append_nil] at hW'

  refine (walk a0 w0 s1 h1s a2 w2 W).mono fun e W' ⟨he, hg⟩ => ?_
  subst he
  exact ⟨_, rfl, _, _, _, [], _, [], hW', trodAll_mk1 (shut_bool Try.underlying4 _), (trodAll_cons_mk (shut_int Try.underlying22 w0) (trodAll_cons_mk (shut_string Try.underlying9 h1s) (trodAll_cons_mk (shut_int Try.underlying3 w2) trodAll_mk0))), rfl, hg.frame _, fun h => by cases h⟩

theorem over : Rows.wordBytesRow.holds Try.pinned (OpenSpec.ofChange Rows.wordBytesSpec) :=
  OpenClaim.holds_of_wide 3 Try.f3 rfl rfl rfl rfl rfl rfl rfl ⟨rfl, rfl, rfl, rfl, rfl⟩ rfl rfl rfl rfl rfl (by kernel_rfl) Try.func3 (by kernel_rfl)
    (of_decide_eq_true (by kernel_rfl)) (by unfold Func.isWrapper; first | (rw [if_pos (by decide +kernel)]; kernel_rfl) | (rw [if_neg (by decide +kernel)]; exact ⟨rfl, rfl⟩))
    (fun os started H enc _ => lifted os started H enc)
end Go.Proofs.Ytijacihmdfhjcaa.wordBytes

namespace Go.Proofs.Ytijacihmdfhjcaa
theorem wordBytes_holds : Rows.WordBytesSaid := wordBytes.over
#print axioms wordBytes_holds
end Go.Proofs.Ytijacihmdfhjcaa
