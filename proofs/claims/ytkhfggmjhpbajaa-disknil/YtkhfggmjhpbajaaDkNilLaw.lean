/- The statement DiskNil, called with whatever it may be: it returns true. -/
import Derived.Test.YtkhfggmjhpbajaaDkAwake
import Derived.Handy
namespace Go.Proofs.Ytkhfggmjhpbajaa
open Go Go.RowKit
set_option linter.unusedSimpArgs false
set_option linter.unusedVariables false

/-- a slice of one array, where it is wanted -/
theorem wpList_build1g {P : Program} {ops : Array Oper} {rest : List Oper} {o : Oper} {a : Act} {w : World} {Q : Exit → Act → World → Prop} (hw : Region.wanted o (yielded ops a.tmps) = true) (t e : TypeId) (x : Operand) (ho : o.op = .buildSlice t 1 #[(0, x)])
    (cs : Array Value) (hx : a.eval x = .agg cs) (ie : TypeInfo) (z : Value) (n : Nat)
    (hu : P.underlying t = some (.slice e)) (hie : P.info? e = some ie) (hz : ie.zero = some z) (hn : ie.size = n) (hcs : cs.size = n) (h0 : 0 < n) (h24 : n ≤ 16777216)
    (h : wpList P ops Q rest (a.put o.dst (.slice (some ⟨w.heap.size, 0, none⟩) 1 1)) (w.alloc (.cells cs e))) : wpList P ops Q (o :: rest) a w :=
  wpList_step fun K hK => by
    rw [if_pos hw]
    refine wp_buildSlice t e 1 _ ho cs ie z hu hie hz (by rw [hn]; omega) (by rw [hn]; omega) ?_ (hK _ _ h)
    rw [hn]
    have e1 : (Array.map (fun (x : Nat × Operand) => match x with | (i, x) => (i, a.eval x)) #[(0, x)]).toList = [(0, Value.agg cs)] := by
      simp [hx]
    rw [e1]
    exact fill_one n _ _ (by simp) hcs
set_option maxRecDepth 100000 in
set_option maxHeartbeats 8000000 in
theorem diskNilLaw (k0 at0 c0 e0 : Int) (s0 : Option Addr) (n0 p0 : Nat) (f0 : Bool) (hat : (Lit.int .i64 at0).wf = true) (w : World) : Calls Try.prog 4 #[.agg #[.int .i64 k0, .int .i64 at0, .int .u8 c0, .slice s0 n0 p0, .int .i64 e0, .bool f0]] w fun e w' => e = .returned (.bool true) ∧ Below w.heap.size w w' := by
  have hz := zero_bk
  obtain ⟨i0, hi, hz0, hz1, hz2⟩ := info_parts infoBk
  have hPl : Hid (∀ w : World, Calls Try.prog 19 #[.pointer none, .slice s0 n0 p0] w fun e w' => e = .returned (.tuple #[]) ∧ Below w.heap.size w w') := fun w => plan_nil s0 n0 p0 w
  have hCu : Hid (∀ w : World, Calls Try.prog 20 #[.pointer none, .agg #[.int .i64 e0, .bool f0]] w fun e w' => e = .returned (.tuple #[]) ∧ Below w.heap.size w w') := fun w => cut_nil e0 f0 w
  have hRv : Hid (∀ w : World, Calls Try.prog 21 #[.pointer none] w fun e w' => e = .returned (.tuple #[]) ∧ Below w.heap.size w w') := fun w => revive_nil w
  have hRd : Hid (∀ w : World, Calls Try.prog 22 #[.pointer none, .int .i64 at0] w fun e w' => e = .returned (.tuple #[.agg (va 256 (iv .u8 fun _ => 0)), .int .i64 4]) ∧ Below w.heap.size w w') := fun w => read_nil at0 w
  have hEv : Hid (∀ w : World, Calls Try.prog 23 #[.pointer none] w fun e w' => e = .returned (.tuple #[.bool false, .int .i64 4]) ∧ w = w') := fun w => event_nil w
  have hAt : Hid (∀ w : World, Calls Try.prog 24 #[.pointer none, .int .i64 at0] w fun e w' => e = .returned (.tuple #[.slice none 0 0, .bool false]) ∧ w = w') := fun w => at_nil at0 hat w
  have hAw : Hid (∀ w : World, Calls Try.prog 9 #[] w fun e w' => e = .returned (.bool true) ∧ Below w.heap.size w w') := fun w => awake5_any w
  have hWr : Hid (∀ w : World, Calls Try.prog 25 #[.pointer none, .int .i64 at0, .agg (va 256 (iv .u8 fun _ => 0))] w fun e w' => e = .returned (.int .i64 4) ∧ Below w.heap.size w w') := fun w => write_nil at0 _ w
  have hBa : Hid (∀ w : World, Calls Try.prog 26 #[.pointer none] w fun e w' => e = .returned (.int .i64 4) ∧ w = w') := fun w => barrier_nil w
  have hDe : Hid (∀ w : World, Calls Try.prog 11 #[.pointer none] w fun e w' => e = .returned (.bool true) ∧ w = w') := fun w => dead_nil w
  have hBl : Hid (∀ w : World, Calls Try.prog 14 #[.pointer none] w fun e w' => e = .returned (.int .i64 0) ∧ w = w') := fun w => blocks_nil w
  have hOp : Hid (∀ w : World, Calls Try.prog 12 #[.pointer none] w fun e w' => e = .returned (.int .i64 0) ∧ w = w') := fun w => ops_nil w
  have hEs : Hid (∀ w : World, Calls Try.prog 13 #[.pointer none] w fun e w' => e = .returned (.int .i64 0) ∧ w = w') := fun w => events_nil w
  have hLo : Hid (∀ w : World, Calls Try.prog 16 #[.pointer none] w fun e w' => e = .returned (.slice none 0 0) ∧ w = w') := fun w => log_nil w
  have hIm : Hid (∀ w : World, Calls Try.prog 18 #[.pointer none] w fun e w' => e = .returned (.slice none 0 0) ∧ w = w') := fun w => image_nil w
  have hLd : Hid (∀ (a : Option Addr) (n c : Nat) (w : World), Calls Try.prog 27 #[.pointer none, .slice a n c] w fun e w' => e = .returned (.int .i64 1) ∧ w = w') := load_nil
  have heq : ∀ W, (Op.equalIn 10000 55 (.agg (va 256 (iv .u8 fun _ => 0))) (.agg (va 256 (iv .u8 fun _ => 0)))).run Try.prog W = .ok true W := fun W => by
    have := eq_bk 55 Try.underlying55 (fun _ => 0) (fun _ => 0) W
    rw [decide_eq_true (fun i hi => rfl)] at this
    exact this
  have kb : Blk (w.alloc (.cells #[.int .i64 k0, .int .i64 at0, .int .u8 c0, .slice s0 n0 p0, .int .i64 e0, .bool f0] 43)) w.heap.size 43 #[.int .i64 k0, .int .i64 at0, .int .u8 c0, .slice s0 n0 p0, .int .i64 e0, .bool f0] := Blk.new _ _ _
  have hb1 : Below w.heap.size w (w.alloc (.cells #[.int .i64 k0, .int .i64 at0, .int .u8 c0, .slice s0 n0 p0, .int .i64 e0, .bool f0] 43)) := below_new1 _ _
  clear hat
  go_enter Try.func4, Try.ntmps4
  go_wp2_with fail
  generalize (w.alloc (.cells #[.int .i64 k0, .int .i64 at0, .int .u8 c0, .slice s0 n0 p0, .int .i64 e0, .bool f0] 43)) = w1 at *
  refine (hPl.out _).mono ?_
  rintro e w2 ⟨rfl, hb⟩
  have kb2 := kb.below hb kb.lt
  have hb2 : Below w.heap.size w w2 := hb1.trans (hb.mono hb1.size)
  have x4 : w2.cell? ⟨w.heap.size, 4, none⟩ = some (.int .i64 e0) := by rw [kb2.cell]; rfl
  have x5 : w2.cell? ⟨w.heap.size, 5, none⟩ = some (.bool f0) := by rw [kb2.cell]; rfl
  clear hb kb hb1
  go_wp2_with fail
  refine (hCu.out _).mono ?_
  rintro e w3 ⟨rfl, hb⟩
  have kb3 := kb2.below hb kb2.lt
  have hb3 : Below w.heap.size w w3 := hb2.trans (hb.mono hb2.size)
  clear hb kb2 hb2 x4 x5
  go_wp2_with fail
  refine (hRv.out _).mono ?_
  rintro e w4 ⟨rfl, hb⟩
  have kb4 := kb3.below hb kb3.lt
  have hb4 : Below w.heap.size w w4 := hb3.trans (hb.mono hb3.size)
  have x1 : w4.cell? ⟨w.heap.size, 1, none⟩ = some (.int .i64 at0) := by rw [kb4.cell]; rfl
  clear hb kb3 hb3
  go_wp2_with fail
  refine (hRd.out _).mono ?_
  rintro e w5 ⟨rfl, hb⟩
  have kb5 := kb4.below hb kb4.lt
  have hb5 : Below w.heap.size w w5 := hb4.trans (hb.mono hb4.size)
  clear hb kb4 hb4 x1
  have c0b := Blk.new w5 55 (va 256 (iv .u8 fun _ => 0))
  have c1b := c0b.set (va 256 (iv .u8 fun _ => 0))
  have hb6 : Below w.heap.size w ((w5.alloc (.cells (va 256 (iv .u8 fun _ => 0)) 55)).setRow w5.heap.size (va 256 (iv .u8 fun _ => 0))) := below_setRow (hb5.alloc hb5.size _) hb5.size _
  have kb6 : Blk ((w5.alloc (.cells (va 256 (iv .u8 fun _ => 0)) 55)).setRow w5.heap.size (va 256 (iv .u8 fun _ => 0))) w.heap.size 43 #[.int .i64 k0, .int .i64 at0, .int .u8 c0, .slice s0 n0 p0, .int .i64 e0, .bool f0] := (kb5.alloc _).other _ (Nat.ne_of_lt kb5.lt)
  go_wp2_with (first
    | (refine wpList_store_row (by rfl) 55 _ _ (by rfl) (w5.heap.size) (va 256 (iv .u8 (fun _ => 0))) (by rfl) (by rfl) 55 _ c0b (sizeBk.trans (by rw [va_size])) (by simp only [va_size]) (iv_one _ _ _) ?_; simp only [Act.put, List.setIfInBounds_toArray, List.set_cons_zero, List.set_cons_succ])
    | fail)
  clear c0b hb5 kb5
  generalize (w5.alloc (.cells (va 256 (iv .u8 fun _ => 0)) 55)).setRow w5.heap.size (va 256 (iv .u8 fun _ => 0)) = w6 at *
  refine (hEv.out _).mono ?_
  rintro e _ ⟨rfl, rfl⟩
  have x1 : w6.cell? ⟨w.heap.size, 1, none⟩ = some (.int .i64 at0) := by rw [kb6.cell]; rfl
  go_wp2_with fail
  refine (hAt.out _).mono ?_
  rintro e _ ⟨rfl, rfl⟩
  go_wp2_with fail
  refine (hAw.out _).mono ?_
  rintro e w7 ⟨rfl, hb⟩
  have kb7 := kb6.below hb kb6.lt
  have c7b := c1b.below hb c1b.lt
  have hb7 : Below w.heap.size w w7 := hb6.trans (hb.mono hb6.size)
  have x2 : w7.cell? ⟨w.heap.size, 1, none⟩ = some (.int .i64 at0) := by rw [kb7.cell]; rfl
  clear hb kb6 c1b hb6 x1
  go_wp2_with fail
  simp only [List.append_eq, List.cons_append, List.nil_append]
  go_wp2_with (first
    | (refine wpList_load_rowg (by rfl) 55 _ (by rfl) (w5.heap.size) (by rfl) 55 (va 256 (iv .u8 (fun _ => 0))) (0, 0) _ c7b Try.underlying55 (by rfl) (sizeBk.trans (by rw [va_size])) ?_; simp only [Act.put, List.setIfInBounds_toArray, List.set_cons_zero, List.set_cons_succ])
    | fail)
  refine (hWr.out _).mono ?_
  rintro e w8 ⟨rfl, hb⟩
  have c8b := c7b.below hb c7b.lt
  have hb8 : Below w.heap.size w w8 := hb7.trans (hb.mono hb7.size)
  clear hb kb7 c7b hb7 x2
  go_wp2_with fail
  refine (hBa.out _).mono ?_
  rintro e _ ⟨rfl, rfl⟩
  go_wp2_with fail
  refine (hDe.out _).mono ?_
  rintro e _ ⟨rfl, rfl⟩
  go_wp2_with fail
  refine (hBl.out _).mono ?_
  rintro e _ ⟨rfl, rfl⟩
  go_wp2_with fail
  refine (hOp.out _).mono ?_
  rintro e _ ⟨rfl, rfl⟩
  go_wp2_with fail
  refine (hEs.out _).mono ?_
  rintro e _ ⟨rfl, rfl⟩
  go_wp2_with fail
  refine (hLo.out _).mono ?_
  rintro e _ ⟨rfl, rfl⟩
  go_wp2_with fail
  refine (hIm.out _).mono ?_
  rintro e _ ⟨rfl, rfl⟩
  go_wp2_with (first
    | (refine wpList_load_rowg (by rfl) 55 _ (by rfl) (w5.heap.size) (by rfl) 55 (va 256 (iv .u8 (fun _ => 0))) (0, 0) _ c8b Try.underlying55 (by rfl) (sizeBk.trans (by rw [va_size])) ?_; simp only [Act.put, List.setIfInBounds_toArray, List.set_cons_zero, List.set_cons_succ])
    | (refine wpList_build1g (by rfl) 49 55 _ (by rfl) (va 256 (iv .u8 fun _ => 0)) (by rfl) i0 (.agg (va 256 (iv .u8 fun _ => 0))) 256 Try.underlying49 hi hz0 hz1 (va_size _ _) (by decide) (by decide) ?_; simp only [Act.put, List.setIfInBounds_toArray, List.set_cons_zero, List.set_cons_succ])
    | fail)
  refine (hLd.out _ _ _ _).mono ?_
  rintro e _ ⟨rfl, rfl⟩
  go_wp2_with fail
  go_ret
  exact ⟨rfl, hb8.alloc hb8.size _⟩
end Go.Proofs.Ytkhfggmjhpbajaa
