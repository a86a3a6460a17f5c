/- A cache with one entry: use, Get and Has of it. -/
import Derived.Test.YtiofonffmplfmaaGreatHNdTake
import Derived.Test.YtiofonffmplfmaaGreatHDkFns
import Derived.Test.YtiofonffmplfmaaGreatHLogNil
import Derived.Handy
import Derived.Test.YtiofonffmplfmaaGreatHSegsTree
import Derived.Great.BuildSlice
import Derived.BigQuiet
import Derived.Deep.QuietTactic
import Derived.Deep.DeepCutAuto
import Derived.Deep.Cut

namespace Go.Proofs.YtiofonffmplfmaaGreat
open Go.RowKit
set_option linter.unusedSimpArgs false
set_option linter.unusedVariables false

theorem LogAt.setRow {w : World} {g r b t : Nat} {v : Value} {E : List (Nat × ByteArray)} {old : Array Value} (h : LogAt w g r v E) (hb : Blk w b t old) (h1 : 229 ≠ t) (h2 : 224 ≠ t) (cs : Array Value) : LogAt (w.setRow b cs) g r v E := by
  obtain ⟨hB, hown, es, cl, hg, he⟩ := h
  refine ⟨hB.other cs fun q => ?_, own_block hown fun k hk => setRow_other w b k cs fun q => ?_, es, cl, ?_, he⟩
  · subst q
    unfold Blk at hB hb
    rw [hB] at hb
    simp at hb
    exact h1 hb.2
  · subst q
    exact own_ne hown hb h2 hk
  · rw [setRow_other w b r cs (map_blk hg hb)]
    exact hg
theorem LogKeeps.laid {g r : Nat} {v : Value} {w w1 w2 : World} {b : Nat} (h1 : Below w.heap.size w w1) (h2 : LogKeeps g r v w1 w2) (hb : w.heap.size ≤ b) (cs : Array Value) : LogKeeps g r v w (w2.setRow b cs) := by
  have h3 : Below w.heap.size w2 (w2.setRow b cs) := below_setRow (Below.refl _ _) hb cs
  have hs1 := h1.size
  have hs2 := h2.2.2.2.1
  have hs3 := h3.size
  refine ⟨h3.os.trans (h2.1.trans h1.os), h3.tape.trans (h2.2.1.trans h1.tape), h3.output.trans (h2.2.2.1.trans h1.output), by omega, fun k hk a b c => ?_⟩
  rw [h3.block k hk, h2.2.2.2.2 k (by omega) a b c, h1.block k hk]

set_option maxRecDepth 100000 in
set_option maxHeartbeats 4000000 in
theorem logged_below (f : Nat → Nat) (w : World) (p : Value) (hO0 : ∀ w' : World, Below w.heap.size w w' → Calls Tryz.prog 103 #[p, .int .u8 1, .string (strN f 256)] w' fun e w'' => e = .returned (.agg (va 32 (iv .u8 (sumOf (1, strN f 256))))) ∧ Below w'.heap.size w' w'') :
    Calls Tryz.prog 98 #[p, bkV f] w fun e w' => e = .returned (.agg (va 32 (iv .u8 (sumOf (1, strN f 256))))) ∧ Below w.heap.size w w' := by
  have hT : Hid (∀ w : World, Calls Tryz.prog 84 #[.agg (va 256 (iv .u8 f))] w fun e w' => e = .returned (.string (strN f 256)) ∧ Below w.heap.size w w') := fun w => textOf_any f w
  have hO : Hid (∀ w' : World, Below w.heap.size w w' → Calls Tryz.prog 103 #[p, .int .u8 1, .string (strN f 256)] w' fun e w'' => e = .returned (.agg (va 32 (iv .u8 (sumOf (1, strN f 256))))) ∧ Below w'.heap.size w' w'') := hO0
  clear hO0
  generalize hX : sumOf (1, strN f 256) = X at *
  generalize strN f 256 = T at *
  clear hX
  unfold bkV
  have b0 : Blk ((w.alloc (Obj.cells (va 256 (iv IntKind.u8 f)) 52)).alloc (Obj.cells #[.int .u8 0, .int .u8 0, .int .u8 0, .int .u8 0, .int .u8 0, .int .u8 0, .int .u8 0, .int .u8 0, .int .u8 0, .int .u8 0, .int .u8 0, .int .u8 0, .int .u8 0, .int .u8 0, .int .u8 0, .int .u8 0, .int .u8 0, .int .u8 0, .int .u8 0, .int .u8 0, .int .u8 0, .int .u8 0, .int .u8 0, .int .u8 0, .int .u8 0, .int .u8 0, .int .u8 0, .int .u8 0, .int .u8 0, .int .u8 0, .int .u8 0, .int .u8 0] 41)) w.heap.size 52 (va 256 (iv .u8 f)) := (Blk.new _ _ _).alloc _
  have b1 : Blk ((w.alloc (Obj.cells (va 256 (iv IntKind.u8 f)) 52)).alloc (Obj.cells #[.int .u8 0, .int .u8 0, .int .u8 0, .int .u8 0, .int .u8 0, .int .u8 0, .int .u8 0, .int .u8 0, .int .u8 0, .int .u8 0, .int .u8 0, .int .u8 0, .int .u8 0, .int .u8 0, .int .u8 0, .int .u8 0, .int .u8 0, .int .u8 0, .int .u8 0, .int .u8 0, .int .u8 0, .int .u8 0, .int .u8 0, .int .u8 0, .int .u8 0, .int .u8 0, .int .u8 0, .int .u8 0, .int .u8 0, .int .u8 0, .int .u8 0, .int .u8 0] 41)) (w.heap.size + 1) 41 (va 32 (iv .u8 fun _ => 0)) := Blk.new1 _ _ _ _
  have hb := below_new2 w (Obj.cells (va 256 (iv IntKind.u8 f)) 52) (Obj.cells #[.int .u8 0, .int .u8 0, .int .u8 0, .int .u8 0, .int .u8 0, .int .u8 0, .int .u8 0, .int .u8 0, .int .u8 0, .int .u8 0, .int .u8 0, .int .u8 0, .int .u8 0, .int .u8 0, .int .u8 0, .int .u8 0, .int .u8 0, .int .u8 0, .int .u8 0, .int .u8 0, .int .u8 0, .int .u8 0, .int .u8 0, .int .u8 0, .int .u8 0, .int .u8 0, .int .u8 0, .int .u8 0, .int .u8 0, .int .u8 0, .int .u8 0, .int .u8 0] 41)
  go_enter Tryz.func98, Tryz.ntmps98
  go_wp2_with (first
    | (refine wpList_load_row (by rfl) 52 _ (by rfl) (w.heap.size) (by rfl) 52 (va 256 (iv .u8 f)) (0, 0) _ b0 Tryz.underlying52 (by rfl) (sizeBk.trans (by rw [va_size])) ?_; simp only [Act.put, List.setIfInBounds_toArray, List.set_cons_zero, List.set_cons_succ])
    | fail)
  generalize (w.alloc (Obj.cells (va 256 (iv IntKind.u8 f)) 52)).alloc (Obj.cells #[.int .u8 0, .int .u8 0, .int .u8 0, .int .u8 0, .int .u8 0, .int .u8 0, .int .u8 0, .int .u8 0, .int .u8 0, .int .u8 0, .int .u8 0, .int .u8 0, .int .u8 0, .int .u8 0, .int .u8 0, .int .u8 0, .int .u8 0, .int .u8 0, .int .u8 0, .int .u8 0, .int .u8 0, .int .u8 0, .int .u8 0, .int .u8 0, .int .u8 0, .int .u8 0, .int .u8 0, .int .u8 0, .int .u8 0, .int .u8 0, .int .u8 0, .int .u8 0] 41) = W at *
  refine (hT.out _).mono ?_
  rintro e w1 ⟨rfl, hh⟩
  have c1 := b1.below hh b1.lt
  have hb1 : Below w.heap.size w w1 := hb.trans (hh.mono hb.size)
  clear b0 b1 hb hh hT
  go_wp2_with fail
  refine (hO.out _ hb1).mono ?_
  rintro e w2 ⟨rfl, hh⟩
  have c2 := c1.below hh c1.lt
  have hb2 : Below w.heap.size w w2 := hb1.trans (hh.mono hb1.size)
  clear c1 hb1 hh hO
  go_wp2_with (first
    | (refine wpList_store_row (by rfl) 41 _ _ (by rfl) (w.heap.size + 1) (va 32 (iv .u8 X)) (by rfl) (by rfl) 41 _ c2 (sizeSum.trans (by rw [va_size])) (by simp only [va_size]) (iv_one _ _ _) ?_; simp only [Act.put, List.setIfInBounds_toArray, List.set_cons_zero, List.set_cons_succ])
    | fail)
  try simp only [Exit.inBlock, Exit.then]
  refine bodyPost_ret (results_cell_row Tryz.results98 _ _ (w.heap.size + 1) 41 (va 32 (iv .u8 X)) (0, 0) _ rfl (c2.set _) Tryz.underlying41 rfl (sizeSum.trans (by rw [va_size]))) rfl ?_
  exact ⟨rfl, below_setRow hb2 (Nat.le_succ _) _⟩

end Go.Proofs.YtiofonffmplfmaaGreat

namespace Go.Proofs.YtiofonffmplfmaaGreat
open Go Go.RowKit
set_option linter.unusedSimpArgs false
set_option linter.unusedVariables false

/-- a struct built of two parts -/
theorem ca_build2 {P : Program} {ops : Array Oper} {rest : List Oper} {o : Oper} {a : Act} {w : World} {Q : Exit → Act → World → Prop} (hg : o.guard = none) (t : TypeId) (x y : Operand) (ho : o.op = .build t #[(0, x), (1, y)]) (vx vy : Value) (hx : a.eval x = vx) (hy : a.eval y = vy)
    (cells : Array Value) (hf : P.built t [(0, vx), (1, vy)] = some cells) (h : wpList P ops Q rest (a.put o.dst (.agg cells)) w) : wpList P ops Q (o :: rest) a w := by
  refine wpList_buildTo hg t _ ho o.dst rfl cells ?_ h
  have e : (Array.map (fun (x : Nat × Operand) => match x with | (i, x) => (i, a.eval x)) #[(0, x), (1, y)]).toList = [(0, vx), (1, vy)] := by simp [hx, hy]
  rw [e]
  exact hf
/-- a reference as a key -/
def rfV (r : Rf) : Value := .agg (rfC r)
/-- a pointer to a block -/
def ptV (b : Nat) : Value := .pointer (some ⟨b, 0, none⟩)
theorem chk_ref (d : Nat) (e : Bool) (a : Rf) (w : World) : (Instr.checkKey e (d + 1 + 1 + 1) 43 (rfV a)).run Tryz.prog w = .ok () w := by
  have h3 : ∀ x : Int, (Instr.checkKey e (d + 1 + 1) 28 (.int .u32 x)).run Tryz.prog w = .ok () w := fun x => by simp [Instr.checkKey, run_underlying Tryz.underlying28]
  have h4 : (Instr.checkKey e (d + 1 + 1) 41 (dK a.2)).run Tryz.prog w = .ok () w := chk_dig d e _ w
  have p3 : (part 28 (va 33 (rfF a.1 a.2)) 0).run Tryz.prog w = .ok (.int .u32 ((a.1 : Nat) : Int)) w := part_int _ _ Tryz.underlying28 _ _ _ (va_at (rfF a.1 a.2) (by decide)) w
  have p4 := part_sum a.1 a.2 w
  unfold rfV rfC
  generalize va 33 (rfF a.1 a.2) = vx at *
  generalize dK a.2 = vs at *
  rw [Instr.checkKey]
  simp only [Sem.run_bind, run_underlying Tryz.underlying43, Result.andThen_ok]
  simp [p3, p4, h3, h4]
theorem ref_key : KeyOf Tryz.prog 43 rfV where
  desc := ⟨_, Tryz.underlying43, (fun k h => by cases h), (fun h => by cases h), (fun h => by cases h)⟩
  eq a b w := eq_ref 9997 a b w
  chk e a w := chk_ref 9997 e a w
/-- a cache's cells -/
def caC (dp lp : Option Addr) (room : Int) (m : Nat) (o n : Option Addr) (h r b c : Int) : Array Value := #[.pointer dp, .pointer lp, .int .i64 room, .map (some m), .pointer o, .pointer n, .int .i64 h, .int .i64 r, .int .i64 b, .int .i64 c]
/-- an entry's cells -/
def enF (r : Rf) (f : Nat → Nat) (o n : Option Addr) : Nat → Value := fun i => if i < 33 then rfF r.1 r.2 i else if i < 289 then .int .u8 ((f (i - 33) : Nat) : Int) else if i = 289 then .pointer o else .pointer n
def enC (r : Rf) (f : Nat → Nat) (o n : Option Addr) : Array Value := va 291 (enF r f o n)
theorem en_old (r : Rf) (f : Nat → Nat) (o n o' : Option Addr) : (enC r f o n).setIfInBounds 289 (.pointer o') = enC r f o' n := by
  unfold enC
  rw [va_set]
  refine va_congr fun i hi => ?_
  unfold upd enF
  by_cases h : i = 289
  · subst h
    rfl
  · rw [if_neg h]
    simp only [if_neg h]
theorem en_new (r : Rf) (f : Nat → Nat) (o n n' : Option Addr) : (enC r f o n).setIfInBounds 290 (.pointer n') = enC r f o n' := by
  unfold enC
  rw [va_set]
  refine va_congr fun i hi => ?_
  unfold upd enF
  by_cases h : i = 290
  · subst h
    rfl
  · rw [if_neg h]
    by_cases h1 : i < 33
    · simp only [if_pos h1]
    · by_cases h2 : i < 289
      · simp only [if_neg h1, if_pos h2]
      · have : i = 289 := by omega
        subst this
        rfl
section
variable {w : World} {b : Nat} {r : Rf} {f : Nat → Nat} {o n : Option Addr}
theorem en_cO (h : Blk w b 174 (enC r f o n)) : w.cell? ⟨b, 289, none⟩ = some (.pointer o) := by
  rw [h.cell]
  exact va_at (enF r f o n) (by decide)
theorem en_cN (h : Blk w b 174 (enC r f o n)) : w.cell? ⟨b, 290, none⟩ = some (.pointer n) := by
  rw [h.cell]
  exact va_at (enF r f o n) (by decide)
theorem en_putO (h : Blk w b 174 (enC r f o n)) (o' : Option Addr) : Blk (w.setCell ⟨b, 289, none⟩ (.pointer o')) b 174 (enC r f o' n) := by
  have := h.put 289 (.pointer o')
  rw [en_old] at this
  exact this
theorem en_putN (h : Blk w b 174 (enC r f o n)) (n' : Option Addr) : Blk (w.setCell ⟨b, 290, none⟩ (.pointer n')) b 174 (enC r f o n') := by
  have := h.put 290 (.pointer n')
  rw [en_new] at this
  exact this
theorem blk_setOther {w : World} {b t g i : Nat} {cs : Array Value} {v : Value} (h : Blk w b t cs) (hne : b ≠ g) : Blk (w.setCell ⟨g, i, none⟩ v) b t cs := (Deep.blk_setCell_other w ⟨g, i, none⟩ v b hne).trans h
end
theorem turns_set {S : Nat → Prop} {w w' : World} (h : Turns S w w') {g i : Nat} {v : Value} (hg : S g) : Turns S w (w'.setCell ⟨g, i, none⟩ v) := ⟨h.os, h.tape, h.output, by rw [Deep.nblk_setCell]; exact h.size, fun b hb hf => (Deep.blk_setCell_other w' ⟨g, i, none⟩ v b fun e => hf (by subst e; exact hg)).trans (h.block b hb hf)⟩
theorem turns_refl {S : Nat → Prop} (w : World) : Turns S w w := .of_below (Below.refl _ _)
section
variable {g b m : Nat} {dp lp o n o0 n0 : Option Addr} {room h r bd c : Int} {R : Rf} {f : Nat → Nat}
end
end Go.Proofs.YtiofonffmplfmaaGreat

namespace Go.Proofs.YtiofonffmplfmaaGreat
open Go Go.RowKit
set_option linter.unusedSimpArgs false
set_option linter.unusedVariables false

/-- a block's digest -/
def dgB (f : Nat → Nat) : Vector Nat 32 := sumD (sumOf (1, strN f 256))
theorem dgB_cells (f : Nat → Nat) : va 32 (iv .u8 (sumOf (1, strN f 256))) = va 32 (iv .u8 (dF (dgB f))) := va_congr fun i hi => by unfold iv dgB; rw [dF_sumD _ i hi]
theorem logged_nil (f : Nat → Nat) (w : World) : Calls Tryz.prog 98 #[.pointer none, .agg (va 256 (iv .u8 f))] w fun e w' => e = .returned (.agg (va 32 (iv .u8 (dF (dgB f))))) ∧ Below w.heap.size w w' := by
  rw [← dgB_cells]
  exact logged_below f w (.pointer none) fun w' _ => logOf_nil 1 (by decide) (strN f 256) (by rw [strN_size]; decide) w'
set_option maxRecDepth 100000 in
set_option maxHeartbeats 4000000 in
theorem nodeSum_nil (f : Nat → Nat) (w : World) : Calls Tryz.prog 88 #[.pointer none, .agg (va 256 (iv .u8 f))] w fun e w' => e = .returned (.agg (va 32 (iv .u8 (dF (dgB f))))) ∧ Below w.heap.size w w' := by
  have hL : Hid (∀ w : World, Calls Tryz.prog 98 #[.pointer none, .agg (va 256 (iv .u8 f))] w fun e w' => e = .returned (.agg (va 32 (iv .u8 (dF (dgB f))))) ∧ Below w.heap.size w w') := logged_nil f
  generalize dgB f = X at *
  have b0 : Blk ((w.alloc (Obj.cells (va 256 (iv IntKind.u8 f)) 52)).alloc (Obj.cells #[.int .u8 0, .int .u8 0, .int .u8 0, .int .u8 0, .int .u8 0, .int .u8 0, .int .u8 0, .int .u8 0, .int .u8 0, .int .u8 0, .int .u8 0, .int .u8 0, .int .u8 0, .int .u8 0, .int .u8 0, .int .u8 0, .int .u8 0, .int .u8 0, .int .u8 0, .int .u8 0, .int .u8 0, .int .u8 0, .int .u8 0, .int .u8 0, .int .u8 0, .int .u8 0, .int .u8 0, .int .u8 0, .int .u8 0, .int .u8 0, .int .u8 0, .int .u8 0] 41)) w.heap.size 52 (va 256 (iv .u8 f)) := (Blk.new _ _ _).alloc _
  have b1 : Blk ((w.alloc (Obj.cells (va 256 (iv IntKind.u8 f)) 52)).alloc (Obj.cells #[.int .u8 0, .int .u8 0, .int .u8 0, .int .u8 0, .int .u8 0, .int .u8 0, .int .u8 0, .int .u8 0, .int .u8 0, .int .u8 0, .int .u8 0, .int .u8 0, .int .u8 0, .int .u8 0, .int .u8 0, .int .u8 0, .int .u8 0, .int .u8 0, .int .u8 0, .int .u8 0, .int .u8 0, .int .u8 0, .int .u8 0, .int .u8 0, .int .u8 0, .int .u8 0, .int .u8 0, .int .u8 0, .int .u8 0, .int .u8 0, .int .u8 0, .int .u8 0] 41)) (w.heap.size + 1) 41 (va 32 (iv .u8 fun _ => 0)) := Blk.new1 _ _ _ _
  have hb : Below w.heap.size w ((w.alloc (Obj.cells (va 256 (iv IntKind.u8 f)) 52)).alloc (Obj.cells #[.int .u8 0, .int .u8 0, .int .u8 0, .int .u8 0, .int .u8 0, .int .u8 0, .int .u8 0, .int .u8 0, .int .u8 0, .int .u8 0, .int .u8 0, .int .u8 0, .int .u8 0, .int .u8 0, .int .u8 0, .int .u8 0, .int .u8 0, .int .u8 0, .int .u8 0, .int .u8 0, .int .u8 0, .int .u8 0, .int .u8 0, .int .u8 0, .int .u8 0, .int .u8 0, .int .u8 0, .int .u8 0, .int .u8 0, .int .u8 0, .int .u8 0, .int .u8 0] 41)) := below_new2 _ _ _
  go_enter Tryz.func88, Tryz.ntmps88
  go_wp2_with (first
    | (refine wpList_load_row (by rfl) 52 _ (by rfl) (w.heap.size) (by rfl) 52 (va 256 (iv .u8 f)) (0, 0) _ b0 Tryz.underlying52 (by rfl) (sizeBk.trans (by rw [va_size])) ?_; simp only [Act.put, List.setIfInBounds_toArray, List.set_cons_zero, List.set_cons_succ])
    | fail)
  generalize ((w.alloc (Obj.cells (va 256 (iv IntKind.u8 f)) 52)).alloc (Obj.cells #[.int .u8 0, .int .u8 0, .int .u8 0, .int .u8 0, .int .u8 0, .int .u8 0, .int .u8 0, .int .u8 0, .int .u8 0, .int .u8 0, .int .u8 0, .int .u8 0, .int .u8 0, .int .u8 0, .int .u8 0, .int .u8 0, .int .u8 0, .int .u8 0, .int .u8 0, .int .u8 0, .int .u8 0, .int .u8 0, .int .u8 0, .int .u8 0, .int .u8 0, .int .u8 0, .int .u8 0, .int .u8 0, .int .u8 0, .int .u8 0, .int .u8 0, .int .u8 0] 41)) = W at *
  refine (hL.out _).mono ?_
  rintro e w2 ⟨rfl, hh⟩
  have c2 := b1.below hh b1.lt
  have hb2 : Below w.heap.size w w2 := hb.trans (hh.mono hb.size)
  clear b1 b0 hb hh hL
  go_wp2_with (first
    | (refine wpList_store_row (by rfl) 41 _ _ (by rfl) (w.heap.size + 1) (va 32 (iv .u8 (dF X))) (by rfl) (by rfl) 41 _ c2 (sizeSum.trans (by rw [va_size])) (by simp only [va_size]) (iv_one _ _ _) ?_; simp only [Act.put, List.setIfInBounds_toArray, List.set_cons_zero, List.set_cons_succ])
    | fail)
  try simp only [Exit.inBlock, Exit.then]
  refine bodyPost_ret (results_cell_row Tryz.results88 _ _ (w.heap.size + 1) 41 (va 32 (iv .u8 (dF X))) (0, 0) _ rfl (c2.set _) Tryz.underlying41 rfl (sizeSum.trans (by rw [va_size]))) rfl ?_
  exact ⟨rfl, below_setRow hb2 (Nat.le_succ _) _⟩
set_option maxRecDepth 100000 in
set_option maxHeartbeats 4000000 in
theorem mayBeRoom_ok (x : Int) (h0 : 0 ≤ x) (h1 : x ≤ 4096) (w : World) : Calls Tryz.prog 43 #[.int .i64 x] w fun e w' => e = .returned (.bool true) ∧ w = w' := by
  go_enter Tryz.func43, Tryz.ntmps43
  go_wp2_with fail
  go_ret
  exact ⟨rfl, rfl⟩
/-- no entries: the cells of their holder -/
def esC (m : Nat) : Array Value := #[.map (some m), .pointer none, .pointer none]
theorem sizeEs : (Tryz.prog.info? 128).map (·.size) = some 3 := by kernel_rfl
set_option maxRecDepth 100000 in
set_option maxHeartbeats 4000000 in
theorem caNone_any (w : World) : Calls Tryz.prog 44 #[] w fun e w' => ∃ m, e = .returned (.agg (esC m)) ∧ w.heap.size ≤ m ∧ MapIs rfV ptV w' m [] ∧ Below w.heap.size w w' := by
  have hmm := @run_makeMap Tryz.prog
  go_enter Tryz.func44, Tryz.ntmps44
  go_wp2_with fail
  try simp only [Exit.inBlock, Exit.then]
  refine bodyPost_ret (results_cell_row Tryz.results44 _ _ w.heap.size 128 (esC (w.heap.size + 1)) (0, 0) _ rfl ((Blk.new _ _ _).alloc _) Tryz.underlying128 rfl (sizeEs.trans (by rfl))) rfl ?_
  refine ⟨_, rfl, Nat.le_succ _, ⟨#[], 0, ?_, rfl⟩, below_new2 _ _ _⟩
  have := heap_alloc_new (w.alloc (Obj.cells (esC (w.heap.size + 1)) 128)) (Obj.map #[] 0)
  rw [show (w.alloc (Obj.cells (esC (w.heap.size + 1)) 128)).heap.size = w.heap.size + 1 by simp] at this
  exact this
set_option maxRecDepth 100000 in
set_option maxHeartbeats 4000000 in
theorem caNew_ok (g : Nat) (lp : Option Addr) (room : Int) (h0 : 0 ≤ room) (h1 : room ≤ 4096) (w : World) : Calls Tryz.prog 23 #[.pointer (some ⟨g, 0, none⟩), .pointer lp, .int .i64 room] w fun e w' => ∃ c m, e = .returned (.tuple #[.pointer (some ⟨c, 0, none⟩), .int .i64 0]) ∧ (w.heap.size ≤ c ∧ w.heap.size ≤ m) ∧ Blk w' c 133 (caC (some ⟨g, 0, none⟩) lp room m none none 0 0 0 0) ∧ MapIs rfV ptV w' m [] ∧ Below w.heap.size w w' := by
  have hR : Hid (∀ w : World, Calls Tryz.prog 43 #[.int .i64 room] w fun e w' => e = .returned (.bool true) ∧ w = w') := mayBeRoom_ok room h0 h1
  have hN : Hid (∀ w : World, Calls Tryz.prog 44 #[] w fun e w' => ∃ m, e = .returned (.agg #[.map (some m), .pointer none, .pointer none]) ∧ w.heap.size ≤ m ∧ MapIs rfV ptV w' m [] ∧ Below w.heap.size w w') := caNone_any
  clear h0 h1
  go_enter Tryz.func23, Tryz.ntmps23
  go_wp2_with fail
  refine (hR.out _).mono ?_
  rintro e _ ⟨rfl, rfl⟩
  go_wp2_with fail
  refine (hN.out _).mono ?_
  rintro e w1 ⟨m, rfl, hm, hmap, hb1⟩
  have HM : Hid (MapIs rfV ptV w1 m []) := hmap
  clear hmap
  go_wp2_with fail
  try simp only [Exit.inBlock, Exit.then]
  refine bodyPost_ret (results_tmp2 Tryz.results23 _ _ _) rfl ?_
  have hb2 : Below w1.heap.size w1 (w1.alloc (.cells (caC (some ⟨g, 0, none⟩) lp room m none none 0 0 0 0) 133)) := below_new1 _ _
  exact ⟨w1.heap.size, m, rfl, ⟨hb1.size, hm⟩, Blk.new _ _ _, HM.out.below hb2 (by
    obtain ⟨es, cl, hg, _⟩ := HM.out
    exact (Array.getElem?_eq_some_iff.1 hg).1), hb1.trans (hb2.mono hb1.size)⟩
end Go.Proofs.YtiofonffmplfmaaGreat

namespace Go.Proofs.YtiofonffmplfmaaGreat
open Go Go.RowKit
set_option linter.unusedSimpArgs false
set_option linter.unusedVariables false

theorem MapIs.lt {α β : Type} {K : α → Value} {V : β → Value} {w : World} {r : Nat} {l : List (α × β)} (h : MapIs K V w r l) : r < w.heap.size := by
  obtain ⟨es, cl, hg, _⟩ := h
  exact (Array.getElem?_eq_some_iff.1 hg).1
theorem MapIs.of {α β : Type} {K : α → Value} {V : β → Value} {w w' : World} {r : Nat} {l : List (α × β)} (h : MapIs K V w r l) (hk : w'.heap[r]? = w.heap[r]?) : MapIs K V w' r l := by
  obtain ⟨es, cl, hg, he⟩ := h
  exact ⟨es, cl, hk.trans hg, he⟩
theorem MapIs.ne {α β : Type} {K : α → Value} {V : β → Value} {w : World} {r b t : Nat} {cs : Array Value} {l : List (α × β)} (h : MapIs K V w r l) (hb : Blk w b t cs) : r ≠ b := fun e => by
  obtain ⟨es, cl, hg, _⟩ := h
  subst e
  have := hg.symm.trans hb
  simp at this
theorem zero_en (w : World) : (zeroValue 126).run Tryz.prog w = .ok (.pointer none) w := zero_of (by kernel_rfl) w
theorem map_len {w : World} {m : Nat} {l : List (Rf × Nat)} (h : MapIs rfV ptV w m l) (ty : TypeId) : (Builtin.len_ #[125] ty #[.map (some m)]).run Tryz.prog w = .ok (.int .i64 (l.length : Int)) w := by
  obtain ⟨es, cl, hg, he⟩ := h
  have hgo : (getObj m).run Tryz.prog w = .ok (.map es cl) w := by simp [getObj, Sem.run, hg]
  have hl : es.size = l.length := by
    have := congrArg List.length he
    simpa using this
  simp [Builtin.len_, run_underlying Tryz.underlying125, hgo, goInt, hl]
section
variable {c m : Nat} {dp lp o n : Option Addr} {room h r bd cn : Int}
set_option maxRecDepth 100000 in
set_option maxHeartbeats 4000000 in
theorem mayLie_ok (a N : Nat) (ha : a ≠ 0) (hN : a < N) (hN2 : N ≤ 8192) (w : World) (hg : Blk w c 133 (caC dp lp room m o n h r bd cn)) (hB : Calls Tryz.prog 86 #[.pointer dp] w fun e w' => e = .returned (.int .i64 (N : Int)) ∧ w = w') : Calls Tryz.prog 72 #[.pointer (some ⟨c, 0, none⟩), .int .u32 (a : Int)] w fun e w' => e = .returned (.bool true) ∧ w = w' := by
  have c0 : w.cell? ⟨c, 0, none⟩ = some (.pointer dp) := by rw [hg.cell]; rfl
  have HB : Hid (Calls Tryz.prog 86 #[.pointer dp] w fun e w' => e = .returned (.int .i64 (N : Int)) ∧ w = w') := hB
  have h0 : (0 : Int) < (a : Int) := by omega
  have h1 : (a : Int) < (N : Int) := by omega
  have h2 : (N : Int) % 4294967296 = (N : Int) := by omega
  have d1 : decide ((a : Int) < (N : Int)) = true := decide_eq_true h1
  clear hg hB ha hN hN2
  go_enter Tryz.func72, Tryz.ntmps72
  go_wp2_with fail
  refine HB.out.mono ?_
  rintro e _ ⟨rfl, rfl⟩
  go_wp2_with fail
  go_ret
  exact ⟨rfl, rfl⟩
end
end Go.Proofs.YtiofonffmplfmaaGreat

namespace Go.Proofs.YtiofonffmplfmaaGreat
open Go Go.RowKit
set_option linter.unusedSimpArgs false
set_option linter.unusedVariables false

set_option maxRecDepth 100000 in
theorem built_en (k : Rf) (f : Nat → Nat) : Tryz.prog.built 174 [(0, .agg (rfC k)), (1, .agg (va 256 (iv .u8 f)))] = some (enC k f none none) := by kernel_rfl
/-- a block in which nothing is turned -/
theorem Turns.blk {S : Nat → Prop} {w w' : World} (h : Turns S w w') {b t : Nat} {cs : Array Value} (hb : Blk w b t cs) (hn : ¬ S b) : Blk w' b t cs := (h.block b hb.lt hn).trans hb
theorem Turns.of_keeps {w w' : World} {m : Nat} (h : Keeps m w w') : Turns (fun x => x = m) w w' := ⟨h.1.os, h.1.tape, h.1.output, h.1.size, fun b hb hf => h.2 b hf hb⟩
section
variable {c m : Nat} {dp lp o n : Option Addr} {room h r bd cn : Int}
end
end Go.Proofs.YtiofonffmplfmaaGreat

namespace Go.Proofs.YtiofonffmplfmaaGreat
open Go Go.RowKit

/-- the plan of a region's walk -/
inductive Plan where
  | fin (takes : List Nat)
  | force (ts : List Nat) (i : Nat) (next : Plan)
  | yield (ts : List Nat) (i : Nat) (next : Plan)
  | fork (i j : Nat) (p q : Plan)
def Plan.len : Plan → Nat
  | .fin takes => takes.length
  | .force ts _ p => ts.length + (1 + p.len)
  | .yield ts _ p => ts.length + (1 + p.len)
  | .fork _ _ p _ => p.len + 1
/-- the check -/
def Plan.ok (ops : Array Oper) : Plan → Array Bool → Bool
  | .fin takes, listed => match takesB .any ops [] [] takes listed with
    | some l => (Region.ready .any ops l).isEmpty
    | none => false
  | .force ts i p, listed => match takesB .any ops [] [] ts listed with
    | some l => forceW .any ops l i && p.ok ops (l.setIfInBounds i true)
    | none => false
  | .yield ts i p, listed => match takesB .any ops [] [] ts listed with
    | some l => yieldW .any ops l [] i && p.ok ops (l.setIfInBounds i true)
    | none => false
  | .fork i j p q, listed => Region.ready .any ops listed == [i, j] && (ops[i]?).isSome && (ops[j]?).isSome && p.len == q.len && p.ok ops (listed.setIfInBounds i true) && q.ok ops (listed.setIfInBounds j true)
def Plan.whole (ops : Array Oper) (p : Plan) : Bool := p.len == ops.size && Region.noSelect ops && p.ok ops (Array.replicate ops.size false)
section
variable {P : Program} {ops : Array Oper} {Q : Exit → Act → World → Prop} {S : World → Prop}
/-- the walk -/
def wpPlan (P : Program) (ops : Array Oper) (Q : Exit → Act → World → Prop) (S : World → Prop) : Plan → Act → World → Prop
  | .fin takes, a, w => wpList P ops (Strict Q) (takes.filterMap fun i => ops[i]?) a w
  | .force ts i p, a, w => wpList P ops (Strict fun _ a' w' => S w' ∧ wpPlan P ops Q S p a' w') ((ts ++ [i]).filterMap fun i => ops[i]?) a w
  | .yield ts i p, a, w => wpList P ops (Strict fun _ a' w' => ∃ o v, ops[i]? = some o ∧ YieldsIf P ops S o v a' ∧ wpPlan P ops Q S p (a'.put o.dst v) w') ((ts ++ []).filterMap fun i => ops[i]?) a w
  | .fork i j p q, a, w => wpList P ops (Strict fun _ a' w' => S w' ∧ wpPlan P ops Q S p a' w') ([i].filterMap fun i => ops[i]?) a w ∧ wpList P ops (Strict fun _ a' w' => S w' ∧ wpPlan P ops Q S q a' w') ([j].filterMap fun i => ops[i]?) a w
theorem plan_step (hs : Region.noSelect ops = true) : ∀ (p : Plan) (listed : Array Bool) (a : Act) (w : World), p.ok ops listed = true → S w →
      wpPlan P ops Q S p a w → wpAnyW P .any ops (Strict Q) S (([] : List Nat).contains ·) p.len listed a w
  | .fin takes, listed, a, w, hb, hS, h => by
    unfold Plan.ok at hb
    split at hb
    · rename_i l2 hl2
      have h2 : wpList P ops (Strict Q) ((takes ++ []).filterMap fun i => ops[i]?) a w := by
        rw [List.append_nil]
        exact h
      exact takesS_step hs [] 0 Q takes listed l2 a w hl2 (fun a' w' _ h' => ⟨by simpa using hb, h'⟩) hS h2
    · cases hb
  | .force ts i p, listed, a, w, hb, hS, h => by
    unfold Plan.ok at hb
    split at hb
    · rename_i l2 hl2
      simp only [Bool.and_eq_true] at hb
      refine takesS_step hs [i] _ _ ts listed l2 a w hl2 (fun a' w' _ h' => ?_) hS h
      obtain ⟨o, ho⟩ := has_op' hb.1
      rw [Nat.add_comm 1]
      refine forceS_step hb.1 (wpOp_mono (fun a2 w2 h2 => ?_) (wpOp_strict (wpList_one ho h')))
      have h3 := h2.2
      exact ⟨fun _ => h3.1, plan_step hs p _ a2 w2 hb.2 h3.1 h3.2⟩
    · cases hb
  | .yield ts i p, listed, a, w, hb, hS, h => by
    unfold Plan.ok at hb
    split at hb
    · rename_i l2 hl2
      simp only [Bool.and_eq_true] at hb
      refine takesS_step hs [] _ _ ts listed l2 a w hl2 (fun a' w' hS' h' => ?_) hS h
      obtain ⟨-, o, v, ho, hy, hn⟩ := h'
      have hc := hb.1
      unfold yieldW at hc
      rw [ho] at hc
      simp only [Bool.and_eq_true, Bool.not_eq_true'] at hc
      rw [Nat.add_comm 1]
      exact takeS_gen hs ho hc.1.1.1 hc.1.1.2 hc.1.2 hc.2 hy hS' (plan_step hs p _ _ w' hb.2 hS' hn)
    · cases hb
  | .fork i j p q, listed, a, w, hb, hS, h => by
    simp only [Plan.ok, Bool.and_eq_true, beq_iff_eq] at hb
    obtain ⟨⟨⟨⟨⟨hr, hi⟩, hj⟩, hl⟩, hp⟩, hq⟩ := hb
    refine ⟨fun h0 => (by rw [h0] at hr; cases hr), fun x hx => ?_⟩
    rw [hr] at hx
    have hx2 : x = i ∨ x = j := by simpa using hx
    rcases hx2 with rfl | rfl
    · obtain ⟨o, ho⟩ := Option.isSome_iff_exists.1 hi
      refine wpOp_mono (fun a' w' h' => ?_) (wpOp_strict (wpList_one ho h.1))
      exact ⟨fun _ => h'.2.1, plan_step hs p _ a' w' hp h'.2.1 h'.2.2⟩
    · obtain ⟨o, ho⟩ := Option.isSome_iff_exists.1 hj
      refine wpOp_mono (fun a' w' h' => ?_) (wpOp_strict (wpList_one ho h.2))
      have := plan_step hs q _ a' w' hq h'.2.1 h'.2.2
      rw [← hl] at this
      exact ⟨fun _ => h'.2.1, this⟩
/-- THE LAW. -/
theorem wp_region_plan {id : Nat} {a : Act} {w : World} (S : World → Prop) (p : Plan) (hm : P.follows .mixedOrders = true) (hB : p.whole ops = true)
    (hS : S w.drew) (h : wpPlan P ops Q S p a w.drew) : (Code.region id ops true).wp P Q a w := by
  unfold Plan.whole at hB
  simp only [Bool.and_eq_true, beq_iff_eq] at hB
  refine Code.wp_mono Strict.imp (wp_region_any hm ?_)
  rw [← hB.1.1]
  exact wpAny_of_W _ _ _ _ (plan_step hB.1.2 p _ a _ (by rw [hB.1.1]; exact hB.2) hS h)
theorem plan_force {ts : List Nat} {i : Nat} {p : Plan} {a : Act} {w : World}
    (h : wpList P ops (Strict fun _ a' w' => S w' ∧ wpPlan P ops Q S p a' w') ((ts ++ [i]).filterMap fun i => ops[i]?) a w) : wpPlan P ops Q S (.force ts i p) a w := h
theorem plan_yield {ts : List Nat} {i : Nat} {p : Plan} {a : Act} {w : World}
    (h : wpList P ops (Strict fun _ a' w' => ∃ o v, ops[i]? = some o ∧ YieldsIf P ops S o v a' ∧ wpPlan P ops Q S p (a'.put o.dst v) w') ((ts ++ []).filterMap fun i => ops[i]?) a w) : wpPlan P ops Q S (.yield ts i p) a w := h
theorem plan_fork {i j : Nat} {p q : Plan} {a : Act} {w : World} (h1 : wpList P ops (Strict fun _ a' w' => S w' ∧ wpPlan P ops Q S p a' w') ([i].filterMap fun i => ops[i]?) a w)
    (h2 : wpList P ops (Strict fun _ a' w' => S w' ∧ wpPlan P ops Q S q a' w') ([j].filterMap fun i => ops[i]?) a w) : wpPlan P ops Q S (.fork i j p q) a w := ⟨h1, h2⟩
theorem plan_fin {takes : List Nat} {a : Act} {w : World} (h : wpList P ops (Strict Q) (takes.filterMap fun i => ops[i]?) a w) : wpPlan P ops Q S (.fin takes) a w := h
end
end Go.Proofs.YtiofonffmplfmaaGreat

namespace Go.Proofs.YtiofonffmplfmaaGreat
open Go Go.RowKit
set_option linter.unusedSimpArgs false
set_option linter.unusedVariables false

theorem en_range {w : World} {b : Nat} {k : Rf} {f : Nat → Nat} {o n : Option Addr} (h : Blk w b 174 (enC k f o n)) : w.rangeAt b 33 ((List.range 256).map (iv .u8 f)) := by
  have := Blk.range (n := 291) (f := enF k f o n) h 33 256 (by decide)
  rw [show ((List.range 256).map fun j => enF k f o n (33 + j)) = (List.range 256).map (iv .u8 f) from List.map_congr_left fun j hj => ?_] at this
  · exact this
  · have hj := List.mem_range.1 hj
    unfold enF iv
    rw [if_neg (by omega), if_pos (by omega), show 33 + j - 33 = j by omega]
theorem Turns.laid {S : Nat → Prop} {w w' : World} (h : Turns S w w') {b : Nat} (hb : w.heap.size ≤ b) (cs : Array Value) : Turns S w (w'.setRow b cs) := by
  have k : Below w.heap.size w' (w'.setRow b cs) := below_setRow (Below.refl _ _) hb cs
  exact ⟨k.os.trans h.os, k.tape.trans h.tape, k.output.trans h.output, Nat.le_trans h.size k.size, fun x hx hf => (k.block x hx).trans (h.block x hx hf)⟩
theorem Turns.alloc {S : Nat → Prop} {w w' : World} (h : Turns S w w') (o : Obj) : Turns S w (w'.alloc o) := by
  have k : Below w'.heap.size w' (w'.alloc o) := below_new1 _ _
  exact ⟨k.os.trans h.os, k.tape.trans h.tape, k.output.trans h.output, Nat.le_trans h.size k.size, fun x hx hf => (k.block x (Nat.lt_of_lt_of_le hx h.size)).trans (h.block x hx hf)⟩
section
variable {c m b : Nat} {dp lp o n : Option Addr} {room h r bd cn : Int}
end
end Go.Proofs.YtiofonffmplfmaaGreat
