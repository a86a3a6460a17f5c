/- Sizes and places of inodes: the statement. -/
import Derived.Test.YtpoaipoadokggaaHIoRSize
import Derived.Handy

namespace Go.Proofs.Ytpoaipoadokggaa
open Go Go.RowKit
set_option linter.unusedSimpArgs false
set_option linter.unusedVariables false
set_option maxRecDepth 20000
def inA : Ino := ⟨2, 1, 0, 7, 0, rf0⟩
theorem built_inA : Try.prog.built 31 [(0, .int .i64 2), (1, .int .i64 1), (3, .int .u64 7)] = some (inC inA) := by kernel_rfl
theorem inA_ok : chk inA = true := by decide
theorem inA_w : InW inA := ⟨by decide, by decide, by decide, by decide, by decide, by decide, okD_zero⟩
theorem wpList_build3 {P : Program} {ops : Array Oper} {rest : List Oper} {o : Oper} {a : Act} {w : World} {Q : Exit → Act → World → Prop} (hg : o.guard = none) (t : TypeId) (i0 i1 i2 : Nat) (x0 x1 x2 : Operand) (ho : o.op = .build t #[(i0, x0), (i1, x1), (i2, x2)]) (v0 v1 v2 : Value) (h0 : a.eval x0 = v0) (h1 : a.eval x1 = v1) (h2 : a.eval x2 = v2)
    (cells : Array Value) (hf : P.built t [(i0, v0), (i1, v1), (i2, v2)] = some cells) (h : wpList P ops Q rest (a.put o.dst (.agg cells)) w) : wpList P ops Q (o :: rest) a w := by
  refine wpList_buildTo hg t _ ho o.dst rfl cells ?_ h
  have e : (Array.map (fun (x : Nat × Operand) => match x with | (i, x) => (i, a.eval x)) #[(i0, x0), (i1, x1), (i2, x2)]).toList = [(i0, v0), (i1, v1), (i2, v2)] := by simp [h0, h1, h2]
  rw [e]
  exact hf
set_option maxHeartbeats 2000000 in
theorem awake14_any (w : World) : Calls Try.prog 7 #[] w fun e w' => e = .returned (.bool true) ∧ Below w.heap.size w w' := by
  have HH : Hid (∀ w : World, Calls Try.prog 14 #[.int .i64 1025] w fun e w' => e = .returned (.tuple #[.int .i64 2, .int .i64 0]) ∧ w' = w) := fun w => by
    have := height_any 1025 (by decide) w
    rw [if_pos (by decide), show hL 256 1025 = 2 from by decide] at this
    exact this
  have HE : Hid (∀ w : World, Calls Try.prog 8 #[.agg (inC inA)] w fun e w' => ∃ g, e = .returned (.tuple #[.slice (some ⟨g, 0, none⟩) 64 64, .int .i64 0]) ∧ Below w.heap.size w w') := fun w => (encode_ok inA inA_w inA_ok w).mono fun e w' ⟨g, h1, _, _, h2⟩ => ⟨g, h1, h2⟩
  have hbi := built_inA
  generalize inC inA = cs at *
  go_enter Try.func7, Try.ntmps7
  go_wp2_with fail
  refine (HH.out _).mono ?_
  intro e w1 hw1
  obtain ⟨he1, hb1⟩ := hw1
  subst he1 hb1
  go_wp2_with (first
    | (refine wpList_build3 (by rfl) 31 _ _ _ _ _ _ (by rfl) (.int .i64 2) (.int .i64 1) (.int .u64 7) (by rfl) (by rfl) (by rfl) cs hbi ?_; simp only [Act.put, List.setIfInBounds_toArray, List.set_cons_zero, List.set_cons_succ])
    | fail)
  refine (HE.out _).mono ?_
  intro e w2 hw2
  obtain ⟨g, he2, hb2⟩ := hw2
  subst he2
  go_wp2_with fail
  go_ret
  exact ⟨rfl, hb2⟩
set_option maxHeartbeats 4000000 in
theorem sizes_neg (n : Int) (hn : -9223372036854775808 ≤ n ∧ n ≤ 9223372036854775807) (h1 : n < 0) (w : World) : Calls Try.prog 4 #[.int .i64 n] w fun e w' => e = .returned (.bool true) ∧ Below w.heap.size w w' := by
  have HA : Hid (∀ w : World, Calls Try.prog 7 #[] w fun e w' => e = .returned (.bool true) ∧ Below w.heap.size w w') := awake14_any
  have HH : Hid (∀ w : World, Calls Try.prog 14 #[.int .i64 n] w fun e w' => e = .returned (.tuple #[.int .i64 0, .int .i64 1]) ∧ w' = w) := fun w => by
    have := height_any n hn w
    rwa [if_neg (by omega)] at this
  have HL : Hid (∀ w : World, Calls Try.prog 15 #[.int .i64 n] w fun e w' => e = .returned (.tuple #[.int .i64 0, .int .i64 1]) ∧ w' = w) := fun w => by
    have := leavesN_any n hn w
    rwa [if_neg (by omega)] at this
  have HP : Hid (∀ w : World, Calls Try.prog 18 #[.int .i64 n] w fun e w' => e = .returned (.tuple #[.int .i64 0, .int .i64 0, .int .i64 141]) ∧ w' = w) := fun w => by
    have := place_any n hn w
    rwa [if_neg (by omega)] at this
  have HT : Hid (∀ w : World, Calls Try.prog 19 #[.int .i64 n] w fun e w' => e = .returned (.tuple #[.int .i64 0, .int .i64 141]) ∧ w' = w) := fun w => by
    have := table_any n hn w
    rwa [if_neg (by omega)] at this
  go_enter Try.func4, Try.ntmps4
  go_wp2_with fail
  refine (HA.out _).mono ?_
  intro e w1 hw1
  obtain ⟨he1, hb1⟩ := hw1
  subst he1
  go_wp2_with (first
    | (go_at_call 14; refine (HH.out _).mono ?_; intro e w2 hw2; obtain ⟨he2, hb2⟩ := hw2; subst he2 hb2)
    | (go_at_call 15; refine (HL.out _).mono ?_; intro e w2 hw2; obtain ⟨he2, hb2⟩ := hw2; subst he2 hb2)
    | (go_at_call 18; refine (HP.out _).mono ?_; intro e w2 hw2; obtain ⟨he2, hb2⟩ := hw2; subst he2 hb2)
    | (go_at_call 19; refine (HT.out _).mono ?_; intro e w2 hw2; obtain ⟨he2, hb2⟩ := hw2; subst he2 hb2)
    | fail)
  go_ret
  exact ⟨by first | rfl | simp, hb1⟩
set_option maxHeartbeats 4000000 in
theorem sizes_big (n : Int) (hn : -9223372036854775808 ≤ n ∧ n ≤ 9223372036854775807) (h0 : ¬ n < 0) (h1 : 1048576 < n) (h2 : ¬ n < 1) (h3 : 4096 < n) (w : World) : Calls Try.prog 4 #[.int .i64 n] w fun e w' => e = .returned (.bool true) ∧ Below w.heap.size w w' := by
  have HA : Hid (∀ w : World, Calls Try.prog 7 #[] w fun e w' => e = .returned (.bool true) ∧ Below w.heap.size w w') := awake14_any
  have HH : Hid (∀ w : World, Calls Try.prog 14 #[.int .i64 n] w fun e w' => e = .returned (.tuple #[.int .i64 0, .int .i64 1]) ∧ w' = w) := fun w => by
    have := height_any n hn w
    rwa [if_neg (by omega)] at this
  have HL : Hid (∀ w : World, Calls Try.prog 15 #[.int .i64 n] w fun e w' => e = .returned (.tuple #[.int .i64 0, .int .i64 1]) ∧ w' = w) := fun w => by
    have := leavesN_any n hn w
    rwa [if_neg (by omega)] at this
  have HP : Hid (∀ w : World, Calls Try.prog 18 #[.int .i64 n] w fun e w' => e = .returned (.tuple #[.int .i64 0, .int .i64 0, .int .i64 141]) ∧ w' = w) := fun w => by
    have := place_any n hn w
    rwa [if_neg (by omega)] at this
  have HT : Hid (∀ w : World, Calls Try.prog 19 #[.int .i64 n] w fun e w' => e = .returned (.tuple #[.int .i64 0, .int .i64 141]) ∧ w' = w) := fun w => by
    have := table_any n hn w
    rwa [if_neg (by omega)] at this
  go_enter Try.func4, Try.ntmps4
  go_wp2_with fail
  refine (HA.out _).mono ?_
  intro e w1 hw1
  obtain ⟨he1, hb1⟩ := hw1
  subst he1
  go_wp2_with (first
    | (go_at_call 14; refine (HH.out _).mono ?_; intro e w2 hw2; obtain ⟨he2, hb2⟩ := hw2; subst he2 hb2)
    | (go_at_call 15; refine (HL.out _).mono ?_; intro e w2 hw2; obtain ⟨he2, hb2⟩ := hw2; subst he2 hb2)
    | (go_at_call 18; refine (HP.out _).mono ?_; intro e w2 hw2; obtain ⟨he2, hb2⟩ := hw2; subst he2 hb2)
    | (go_at_call 19; refine (HT.out _).mono ?_; intro e w2 hw2; obtain ⟨he2, hb2⟩ := hw2; subst he2 hb2)
    | fail)
  go_ret
  exact ⟨by first | rfl | simp, hb1⟩
set_option maxHeartbeats 4000000 in
theorem sizes_nil (n : Int) (hn : -9223372036854775808 ≤ n ∧ n ≤ 9223372036854775807) (h0 : ¬ n < 0) (h1 : ¬ 1048576 < n) (h2 : n < 1) (h3 : ¬ 4096 < n) (w : World) : Calls Try.prog 4 #[.int .i64 n] w fun e w' => e = .returned (.bool true) ∧ Below w.heap.size w w' := by
  have HA : Hid (∀ w : World, Calls Try.prog 7 #[] w fun e w' => e = .returned (.bool true) ∧ Below w.heap.size w w') := awake14_any
  have HH : Hid (∀ w : World, Calls Try.prog 14 #[.int .i64 n] w fun e w' => e = .returned (.tuple #[.int .i64 (hL 256 n), .int .i64 0]) ∧ w' = w) := fun w => by
    have := height_any n hn w
    rwa [if_pos (by omega)] at this
  have HL : Hid (∀ w : World, Calls Try.prog 15 #[.int .i64 n] w fun e w' => e = .returned (.tuple #[.int .i64 ((n + 255) / 256), .int .i64 0]) ∧ w' = w) := fun w => by
    have := leavesN_any n hn w
    rwa [if_pos (by omega)] at this
  have HP : Hid (∀ w : World, Calls Try.prog 18 #[.int .i64 n] w fun e w' => e = .returned (.tuple #[.int .i64 0, .int .i64 0, .int .i64 141]) ∧ w' = w) := fun w => by
    have := place_any n hn w
    rwa [if_neg (by omega)] at this
  have HT : Hid (∀ w : World, Calls Try.prog 19 #[.int .i64 n] w fun e w' => e = .returned (.tuple #[.int .i64 (hL 4 n), .int .i64 0]) ∧ w' = w) := fun w => by
    have := table_any n hn w
    rwa [if_pos (by omega)] at this
  have HRH : Hid (∀ w : World, Calls Try.prog 16 #[.int .i64 n] w fun e w' => e = .returned (.int .i64 (hL 256 n)) ∧ w' = w) := rheight_any n (by omega) (by omega)
  have HRL : Hid (∀ w : World, Calls Try.prog 17 #[.int .i64 n] w fun e w' => e = .returned (.int .i64 ((n + 255) / 256)) ∧ w' = w) := rleaves_any n (by omega) (by omega)
  generalize hL 256 n = vh at *
  generalize (n + 255) / 256 = vl at *
  have HRT : Hid (∀ w : World, Calls Try.prog 20 #[.int .i64 ((n + 3) / 4)] w fun e w' => e = .returned (.int .i64 (hL 4 n)) ∧ w' = w) := by
    have := rleast ((n + 3) / 4) (by omega) (by omega)
    rw [hL_4 n (by omega)] at this
    exact this
  generalize hL 4 n = vt at *
  go_enter Try.func4, Try.ntmps4
  go_wp2_with fail
  refine (HA.out _).mono ?_
  intro e w1 hw1
  obtain ⟨he1, hb1⟩ := hw1
  subst he1
  go_wp2_with (first
    | (go_at_call 14; refine (HH.out _).mono ?_; intro e w2 hw2; obtain ⟨he2, hb2⟩ := hw2; subst he2 hb2)
    | (go_at_call 15; refine (HL.out _).mono ?_; intro e w2 hw2; obtain ⟨he2, hb2⟩ := hw2; subst he2 hb2)
    | (go_at_call 18; refine (HP.out _).mono ?_; intro e w2 hw2; obtain ⟨he2, hb2⟩ := hw2; subst he2 hb2)
    | (go_at_call 19; refine (HT.out _).mono ?_; intro e w2 hw2; obtain ⟨he2, hb2⟩ := hw2; subst he2 hb2)
    | (go_at_call 16; refine (HRH.out _).mono ?_; intro e w2 hw2; obtain ⟨he2, hb2⟩ := hw2; subst he2 hb2)
    | (go_at_call 17; refine (HRL.out _).mono ?_; intro e w2 hw2; obtain ⟨he2, hb2⟩ := hw2; subst he2 hb2)
    | (go_at_call 20; refine (HRT.out _).mono ?_; intro e w2 hw2; obtain ⟨he2, hb2⟩ := hw2; subst he2 hb2)
    | fail)
  go_ret
  exact ⟨by first | rfl | simp, hb1⟩
set_option maxHeartbeats 4000000 in
theorem sizes_in (n : Int) (hn : -9223372036854775808 ≤ n ∧ n ≤ 9223372036854775807) (h0 : ¬ n < 0) (h1 : ¬ 1048576 < n) (h2 : ¬ n < 1) (h3 : ¬ 4096 < n) (w : World) : Calls Try.prog 4 #[.int .i64 n] w fun e w' => e = .returned (.bool true) ∧ Below w.heap.size w w' := by
  have HA : Hid (∀ w : World, Calls Try.prog 7 #[] w fun e w' => e = .returned (.bool true) ∧ Below w.heap.size w w') := awake14_any
  have HH : Hid (∀ w : World, Calls Try.prog 14 #[.int .i64 n] w fun e w' => e = .returned (.tuple #[.int .i64 (hL 256 n), .int .i64 0]) ∧ w' = w) := fun w => by
    have := height_any n hn w
    rwa [if_pos (by omega)] at this
  have HL : Hid (∀ w : World, Calls Try.prog 15 #[.int .i64 n] w fun e w' => e = .returned (.tuple #[.int .i64 ((n + 255) / 256), .int .i64 0]) ∧ w' = w) := fun w => by
    have := leavesN_any n hn w
    rwa [if_pos (by omega)] at this
  have HP : Hid (∀ w : World, Calls Try.prog 18 #[.int .i64 n] w fun e w' => e = .returned (.tuple #[.int .i64 ((n - 1) / 4), .int .i64 ((n - 1) % 4), .int .i64 0]) ∧ w' = w) := fun w => by
    have := place_any n hn w
    rwa [if_pos (by omega)] at this
  have HT : Hid (∀ w : World, Calls Try.prog 19 #[.int .i64 n] w fun e w' => e = .returned (.tuple #[.int .i64 (hL 4 n), .int .i64 0]) ∧ w' = w) := fun w => by
    have := table_any n hn w
    rwa [if_pos (by omega)] at this
  have HRH : Hid (∀ w : World, Calls Try.prog 16 #[.int .i64 n] w fun e w' => e = .returned (.int .i64 (hL 256 n)) ∧ w' = w) := rheight_any n (by omega) (by omega)
  have HRL : Hid (∀ w : World, Calls Try.prog 17 #[.int .i64 n] w fun e w' => e = .returned (.int .i64 ((n + 255) / 256)) ∧ w' = w) := rleaves_any n (by omega) (by omega)
  generalize hL 256 n = vh at *
  generalize (n + 255) / 256 = vl at *
  have HRT : Hid (∀ w : World, Calls Try.prog 20 #[.int .i64 ((n + 3) / 4)] w fun e w' => e = .returned (.int .i64 (hL 4 n)) ∧ w' = w) := by
    have := rleast ((n + 3) / 4) (by omega) (by omega)
    rw [hL_4 n (by omega)] at this
    exact this
  generalize hL 4 n = vt at *
  go_enter Try.func4, Try.ntmps4
  go_wp2_with fail
  refine (HA.out _).mono ?_
  intro e w1 hw1
  obtain ⟨he1, hb1⟩ := hw1
  subst he1
  go_wp2_with (first
    | (go_at_call 14; refine (HH.out _).mono ?_; intro e w2 hw2; obtain ⟨he2, hb2⟩ := hw2; subst he2 hb2)
    | (go_at_call 15; refine (HL.out _).mono ?_; intro e w2 hw2; obtain ⟨he2, hb2⟩ := hw2; subst he2 hb2)
    | (go_at_call 18; refine (HP.out _).mono ?_; intro e w2 hw2; obtain ⟨he2, hb2⟩ := hw2; subst he2 hb2)
    | (go_at_call 19; refine (HT.out _).mono ?_; intro e w2 hw2; obtain ⟨he2, hb2⟩ := hw2; subst he2 hb2)
    | (go_at_call 16; refine (HRH.out _).mono ?_; intro e w2 hw2; obtain ⟨he2, hb2⟩ := hw2; subst he2 hb2)
    | (go_at_call 17; refine (HRL.out _).mono ?_; intro e w2 hw2; obtain ⟨he2, hb2⟩ := hw2; subst he2 hb2)
    | (go_at_call 20; refine (HRT.out _).mono ?_; intro e w2 hw2; obtain ⟨he2, hb2⟩ := hw2; subst he2 hb2)
    | fail)
  go_ret
  exact ⟨by first | rfl | simp, hb1⟩
set_option maxHeartbeats 4000000 in
theorem sizes_mid (n : Int) (hn : -9223372036854775808 ≤ n ∧ n ≤ 9223372036854775807) (h0 : ¬ n < 0) (h1 : ¬ 1048576 < n) (h2 : ¬ n < 1) (h3 : 4096 < n) (w : World) : Calls Try.prog 4 #[.int .i64 n] w fun e w' => e = .returned (.bool true) ∧ Below w.heap.size w w' := by
  have HA : Hid (∀ w : World, Calls Try.prog 7 #[] w fun e w' => e = .returned (.bool true) ∧ Below w.heap.size w w') := awake14_any
  have HH : Hid (∀ w : World, Calls Try.prog 14 #[.int .i64 n] w fun e w' => e = .returned (.tuple #[.int .i64 (hL 256 n), .int .i64 0]) ∧ w' = w) := fun w => by
    have := height_any n hn w
    rwa [if_pos (by omega)] at this
  have HL : Hid (∀ w : World, Calls Try.prog 15 #[.int .i64 n] w fun e w' => e = .returned (.tuple #[.int .i64 ((n + 255) / 256), .int .i64 0]) ∧ w' = w) := fun w => by
    have := leavesN_any n hn w
    rwa [if_pos (by omega)] at this
  have HP : Hid (∀ w : World, Calls Try.prog 18 #[.int .i64 n] w fun e w' => e = .returned (.tuple #[.int .i64 0, .int .i64 0, .int .i64 141]) ∧ w' = w) := fun w => by
    have := place_any n hn w
    rwa [if_neg (by omega)] at this
  have HT : Hid (∀ w : World, Calls Try.prog 19 #[.int .i64 n] w fun e w' => e = .returned (.tuple #[.int .i64 0, .int .i64 141]) ∧ w' = w) := fun w => by
    have := table_any n hn w
    rwa [if_neg (by omega)] at this
  have HRH : Hid (∀ w : World, Calls Try.prog 16 #[.int .i64 n] w fun e w' => e = .returned (.int .i64 (hL 256 n)) ∧ w' = w) := rheight_any n (by omega) (by omega)
  have HRL : Hid (∀ w : World, Calls Try.prog 17 #[.int .i64 n] w fun e w' => e = .returned (.int .i64 ((n + 255) / 256)) ∧ w' = w) := rleaves_any n (by omega) (by omega)
  generalize hL 256 n = vh at *
  generalize (n + 255) / 256 = vl at *
  go_enter Try.func4, Try.ntmps4
  go_wp2_with fail
  refine (HA.out _).mono ?_
  intro e w1 hw1
  obtain ⟨he1, hb1⟩ := hw1
  subst he1
  go_wp2_with (first
    | (go_at_call 14; refine (HH.out _).mono ?_; intro e w2 hw2; obtain ⟨he2, hb2⟩ := hw2; subst he2 hb2)
    | (go_at_call 15; refine (HL.out _).mono ?_; intro e w2 hw2; obtain ⟨he2, hb2⟩ := hw2; subst he2 hb2)
    | (go_at_call 18; refine (HP.out _).mono ?_; intro e w2 hw2; obtain ⟨he2, hb2⟩ := hw2; subst he2 hb2)
    | (go_at_call 19; refine (HT.out _).mono ?_; intro e w2 hw2; obtain ⟨he2, hb2⟩ := hw2; subst he2 hb2)
    | (go_at_call 16; refine (HRH.out _).mono ?_; intro e w2 hw2; obtain ⟨he2, hb2⟩ := hw2; subst he2 hb2)
    | (go_at_call 17; refine (HRL.out _).mono ?_; intro e w2 hw2; obtain ⟨he2, hb2⟩ := hw2; subst he2 hb2)
    | fail)
  go_ret
  exact ⟨by first | rfl | simp, hb1⟩
theorem inodeSizesLaw (n : Int) (hn : -9223372036854775808 ≤ n ∧ n ≤ 9223372036854775807) (w : World) : Calls Try.prog 4 #[.int .i64 n] w fun e w' => e = .returned (.bool true) ∧ Below w.heap.size w w' := by
  by_cases h0 : n < 0
  · exact sizes_neg n hn h0 w
  · by_cases h1 : 1048576 < n
    · exact sizes_big n hn h0 h1 (by omega) (by omega) w
    · by_cases h2 : n < 1
      · exact sizes_nil n hn h0 h1 h2 (by omega) w
      · by_cases h3 : 4096 < n
        · exact sizes_mid n hn h0 h1 h2 h3 w
        · exact sizes_in n hn h0 h1 h2 h3 w
end Go.Proofs.Ytpoaipoadokggaa
