/- The statements' own test that a disk is awake: it answers true. -/
import Derived.Test.YtkhfggmjhpbajaaDkNew
import Derived.Handy
namespace Go.Proofs.Ytkhfggmjhpbajaa
open Go Go.RowKit
set_option linter.unusedSimpArgs false
set_option linter.unusedVariables false

theorem wpList_build_at {P : Program} {ops : Array Oper} {rest : List Oper} {o : Oper} {a : Act} {w : World} {Q : Exit → Act → World → Prop} (hw : Region.wanted o (yielded ops a.tmps) = true) (t : TypeId) (parts : Array (Nat × Operand)) (ho : o.op = .build t parts) (vals : List (Nat × Value))
    (hv : (parts.map fun (i, x) => (i, a.eval x)).toList = vals) (cells : Array Value) (hf : P.built t vals = some cells) (h : wpList P ops Q rest (a.put o.dst (.agg cells)) w) : wpList P ops Q (o :: rest) a w :=
  wpList_step fun K hK => by
    rw [if_pos hw]
    subst hv
    refine wp_build t parts ho (by rw [hf]; rfl) ?_
    rw [hf]
    exact hK _ _ h
/-- a block whose first byte is 7 -/
def f7 : Nat → Nat := fun j => if j = 0 then 7 else 0
set_option maxRecDepth 100000 in
theorem built_b7 : Try.prog.built 55 [(0, .int .u8 7)] = some (va 256 (iv .u8 f7)) := by kernel_rfl
set_option maxRecDepth 100000 in
theorem built_b0 : Try.prog.built 55 [] = some (va 256 (iv .u8 fun _ => 0)) := by kernel_rfl
set_option maxRecDepth 100000 in
set_option maxHeartbeats 4000000 in
theorem awake5_any (w : World) : Calls Try.prog 9 #[] w fun e w' => e = .returned (.bool true) ∧ Below w.heap.size w w' := by
  have hz := zero_bk
  have hN : Hid (∀ w : World, Calls Try.prog 7 #[.int .i64 16] w fun e w' => ∃ g q, e = .returned (.tuple #[.pointer (some ⟨g, 0, none⟩), .int .i64 0]) ∧ DiskQ w' w.heap.size g 16 (fun _ => 0) 0 0 q ∧ Quiet q 0 ∧ Below w.heap.size w w') := fun w => diskNew_any 16 (by decide) (by decide) w
  have heq : ∀ W, (Op.equalIn 10000 55 (.agg (va 256 (iv .u8 fun j => putAt (fun _ => 0) (3 * 256) 256 f7 (3 * 256 + j)))) (.agg (va 256 (iv .u8 f7)))).run Try.prog W = .ok true W := fun W => by
    have := eq_bk 55 Try.underlying55 (fun j => putAt (fun _ => 0) (3 * 256) 256 f7 (3 * 256 + j)) f7 W
    rw [decide_eq_true (fun i hi => by
      show putAt (fun _ => 0) (3 * 256) 256 f7 (3 * 256 + i) = f7 i
      unfold putAt
      rw [if_pos (by omega), show 3 * 256 + i - 3 * 256 = i by omega])] at this
    exact this
  have e7 : (va 256 (iv .u8 fun _ => 0)).setIfInBounds 0 (.int .u8 7) = va 256 (iv .u8 f7) := by
    rw [va_set]
    refine va_congr fun i _ => ?_
    unfold upd iv f7
    by_cases hi : i = 0
    · rw [if_pos hi, if_pos hi]
      rfl
    · rw [if_neg hi, if_neg hi]
  rw [← e7] at heq
  have HE7 : Hid ((va 256 (iv .u8 fun _ => 0)).setIfInBounds 0 (.int .u8 7) = va 256 (iv .u8 f7)) := e7
  clear e7
  go_enter Try.func9, Try.ntmps9
  go_wp2_with fail
  refine (hN.out _).mono ?_
  rintro e w1 ⟨g, q, rfl, hq, hqt, hb1⟩
  have HQ1 : Hid (DiskQ w1 w.heap.size g 16 (fun _ => 0) 0 0 q) := hq
  have HT1 : Hid (Quiet q 0) := hqt
  clear hq hqt
  go_wp2_with (first
    | (refine wpList_build_at (by rfl) 55 _ (by rfl) [(0, .int .u8 7)] (by rfl) (va 256 (iv .u8 f7)) built_b7 ?_; simp only [Act.put, List.setIfInBounds_toArray, List.set_cons_zero, List.set_cons_succ])
    | fail)
  rw [HE7.out]
  refine (write_q HT1.out 3 f7 (by decide) (by decide) (by decide) (by decide) w1 hb1.size HQ1.out).mono ?_
  rintro e w2 ⟨rfl, q2, hq2, hqt2, hm2⟩
  have HQ2 : Hid (DiskQ w2 w.heap.size g 16 (putAt (fun _ => 0) (3 * 256) 256 f7) (0 + 1) (0 + 1) q2) := hq2
  have HT2 : Hid (Quiet q2 (0 + 1)) := hqt2
  have hb2 : Below w.heap.size w w2 := hb1.trans (hm2.1.below hb1.size fun b hb => (HQ1.out.foots b hb).1)
  clear hq2 hqt2 hm2 HQ1 HT1 hb1
  go_wp2_with fail
  refine (read_q HT2.out 3 (by decide) (by decide) (by decide) (by decide) w2 hb2.size HQ2.out).mono ?_
  rintro e w3 ⟨rfl, q3, hq3, hqt3, hm3⟩
  have HQ3 : Hid (DiskQ w3 w.heap.size g 16 (putAt (fun _ => 0) (3 * 256) 256 f7) (0 + 1 + 1) (0 + 1 + 1) q3) := hq3
  have hb3 : Below w.heap.size w w3 := hb2.trans (hm3.1.below hb2.size fun b hb => (HQ2.out.foots b hb).1)
  clear hq3 hqt3 hm3 HQ2 HT2 hb2
  generalize hG : (fun j => putAt (fun _ => 0) (3 * 256) 256 f7 (3 * 256 + j)) = G at *
  have c0 := Blk.new w3 55 (va 256 (iv .u8 fun _ => 0))
  have c1 := c0.set (va 256 (iv .u8 G))
  have hb4 : Below w.heap.size w ((w3.alloc (.cells (va 256 (iv .u8 fun _ => 0)) 55)).setRow w3.heap.size (va 256 (iv .u8 G))) := below_setRow (hb3.alloc hb3.size _) hb3.size _
  have HQ4 : Hid (DiskQ ((w3.alloc (.cells (va 256 (iv .u8 fun _ => 0)) 55)).setRow w3.heap.size (va 256 (iv .u8 G))) w.heap.size g 16 (putAt (fun _ => 0) (3 * 256) 256 f7) (0 + 1 + 1) (0 + 1 + 1) q3) := HQ3.out.below (below_setRow ((Below.refl _ _).alloc (Nat.le_refl _) _) (Nat.le_refl _) _)
  clear HQ3
  go_wp2_with (first
    | (refine wpList_store_row (by rfl) 55 _ _ (by rfl) (w3.heap.size) (va 256 (iv .u8 G)) (by rfl) (by rfl) 55 _ c0 (sizeBk.trans (by rw [va_size])) (by simp only [va_size]) (iv_one _ _ _) ?_; simp only [Act.put, List.setIfInBounds_toArray, List.set_cons_zero, List.set_cons_succ])
    | (refine wpList_load_rowg (by rfl) 55 _ (by rfl) (w3.heap.size) (by rfl) 55 (va 256 (iv .u8 G)) (0, 0) _ c1 Try.underlying55 (by rfl) (sizeBk.trans (by rw [va_size])) ?_; simp only [Act.put, List.setIfInBounds_toArray, List.set_cons_zero, List.set_cons_succ])
    | (refine wpList_build_at (by rfl) 55 _ (by rfl) [(0, .int .u8 7)] (by rfl) (va 256 (iv .u8 f7)) built_b7 ?_; simp only [Act.put, List.setIfInBounds_toArray, List.set_cons_zero, List.set_cons_succ])
    | fail)
  refine (blocks_q _ HQ4.out).mono ?_
  rintro e _ ⟨rfl, rfl⟩
  go_wp2_with fail
  go_ret
  exact ⟨rfl, hb4⟩
end Go.Proofs.Ytkhfggmjhpbajaa
