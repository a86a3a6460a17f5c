/- A cache: mayLie; an entry put into an empty one and found again. -/
import Derived.Test.YtdniigefmlmcdabHNdKit
import Derived.Test.YtdniigefmlmcdabHLogKeep
import Derived.Test.YtdniigefmlmcdabHLogNil
import Derived.Handy
import Derived.Test.YtdniigefmlmcdabHDkKit
import Derived.Great.BuildSlice
import Derived.BigQuiet
import Derived.Deep.QuietTactic
import Derived.Test.YtdniigefmlmcdabHLogAdd
import Derived.Deep.DeepCutAuto
import Derived.Deep.Cut

namespace Go.Proofs.Ytdniigefmlmcdab
open Go.RowKit
set_option linter.unusedSimpArgs false
set_option linter.unusedVariables false

theorem LogAt.setRow {w : World} {g r b t : Nat} {v : Value} {E : List (Nat × ByteArray)} {old : Array Value} (h : LogAt w g r v E) (hb : Blk w b t old) (h1 : 117 ≠ t) (h2 : 112 ≠ t) (cs : Array Value) : LogAt (w.setRow b cs) g r v E := by
  obtain ⟨hB, hown, es, cl, hg, he⟩ := h
  refine ⟨hB.other cs fun q => ?_, own_block hown fun k hk => setRow_other w b k cs fun q => ?_, es, cl, ?_, he⟩
  · subst q
    unfold Blk at hB hb
    rw [hB] at hb
    simp at hb
    exact h1 hb.2
  · subst q
    exact own_ne hown hb h2 hk
  · rw [setRow_other w b r cs (map_blk hg hb)]
    exact hg
theorem LogKeeps.laid {g r : Nat} {v : Value} {w w1 w2 : World} {b : Nat} (h1 : Below w.heap.size w w1) (h2 : LogKeeps g r v w1 w2) (hb : w.heap.size ≤ b) (cs : Array Value) : LogKeeps g r v w (w2.setRow b cs) := by
  have h3 : Below w.heap.size w2 (w2.setRow b cs) := below_setRow (Below.refl _ _) hb cs
  have hs1 := h1.size
  have hs2 := h2.2.2.2.1
  have hs3 := h3.size
  refine ⟨h3.os.trans (h2.1.trans h1.os), h3.tape.trans (h2.2.1.trans h1.tape), h3.output.trans (h2.2.2.1.trans h1.output), by omega, fun k hk a b c => ?_⟩
  rw [h3.block k hk, h2.2.2.2.2 k (by omega) a b c, h1.block k hk]

set_option maxRecDepth 100000 in
set_option maxHeartbeats 4000000 in
theorem logged_below (f : Nat → Nat) (w : World) (p : Value) (hO0 : ∀ w' : World, Below w.heap.size w w' → Calls Try.prog 48 #[p, .int .u8 1, .string (strN f 256)] w' fun e w'' => e = .returned (.agg (va 32 (iv .u8 (sumOf (1, strN f 256))))) ∧ Below w'.heap.size w' w'') :
    Calls Try.prog 40 #[p, bkV f] w fun e w' => e = .returned (.agg (va 32 (iv .u8 (sumOf (1, strN f 256))))) ∧ Below w.heap.size w w' := by
  have hT : Hid (∀ w : World, Calls Try.prog 49 #[.agg (va 256 (iv .u8 f))] w fun e w' => e = .returned (.string (strN f 256)) ∧ Below w.heap.size w w') := fun w => textOf_any f w
  have hO : Hid (∀ w' : World, Below w.heap.size w w' → Calls Try.prog 48 #[p, .int .u8 1, .string (strN f 256)] w' fun e w'' => e = .returned (.agg (va 32 (iv .u8 (sumOf (1, strN f 256))))) ∧ Below w'.heap.size w' w'') := hO0
  clear hO0
  generalize hX : sumOf (1, strN f 256) = X at *
  generalize strN f 256 = T at *
  clear hX
  unfold bkV
  have b0 : Blk ((w.alloc (Obj.cells (va 256 (iv IntKind.u8 f)) 23)).alloc (Obj.cells #[.int .u8 0, .int .u8 0, .int .u8 0, .int .u8 0, .int .u8 0, .int .u8 0, .int .u8 0, .int .u8 0, .int .u8 0, .int .u8 0, .int .u8 0, .int .u8 0, .int .u8 0, .int .u8 0, .int .u8 0, .int .u8 0, .int .u8 0, .int .u8 0, .int .u8 0, .int .u8 0, .int .u8 0, .int .u8 0, .int .u8 0, .int .u8 0, .int .u8 0, .int .u8 0, .int .u8 0, .int .u8 0, .int .u8 0, .int .u8 0, .int .u8 0, .int .u8 0] 33)) w.heap.size 23 (va 256 (iv .u8 f)) := (Blk.new _ _ _).alloc _
  have b1 : Blk ((w.alloc (Obj.cells (va 256 (iv IntKind.u8 f)) 23)).alloc (Obj.cells #[.int .u8 0, .int .u8 0, .int .u8 0, .int .u8 0, .int .u8 0, .int .u8 0, .int .u8 0, .int .u8 0, .int .u8 0, .int .u8 0, .int .u8 0, .int .u8 0, .int .u8 0, .int .u8 0, .int .u8 0, .int .u8 0, .int .u8 0, .int .u8 0, .int .u8 0, .int .u8 0, .int .u8 0, .int .u8 0, .int .u8 0, .int .u8 0, .int .u8 0, .int .u8 0, .int .u8 0, .int .u8 0, .int .u8 0, .int .u8 0, .int .u8 0, .int .u8 0] 33)) (w.heap.size + 1) 33 (va 32 (iv .u8 fun _ => 0)) := Blk.new1 _ _ _ _
  have hb := below_new2 w (Obj.cells (va 256 (iv IntKind.u8 f)) 23) (Obj.cells #[.int .u8 0, .int .u8 0, .int .u8 0, .int .u8 0, .int .u8 0, .int .u8 0, .int .u8 0, .int .u8 0, .int .u8 0, .int .u8 0, .int .u8 0, .int .u8 0, .int .u8 0, .int .u8 0, .int .u8 0, .int .u8 0, .int .u8 0, .int .u8 0, .int .u8 0, .int .u8 0, .int .u8 0, .int .u8 0, .int .u8 0, .int .u8 0, .int .u8 0, .int .u8 0, .int .u8 0, .int .u8 0, .int .u8 0, .int .u8 0, .int .u8 0, .int .u8 0] 33)
  go_enter Try.func40, Try.ntmps40
  go_wp2_with (first
    | (refine wpList_load_row (by rfl) 23 _ (by rfl) (w.heap.size) (by rfl) 23 (va 256 (iv .u8 f)) (0, 0) _ b0 Try.underlying23 (by rfl) (sizeBk.trans (by rw [va_size])) ?_; simp only [Act.put, List.setIfInBounds_toArray, List.set_cons_zero, List.set_cons_succ])
    | fail)
  generalize (w.alloc (Obj.cells (va 256 (iv IntKind.u8 f)) 23)).alloc (Obj.cells #[.int .u8 0, .int .u8 0, .int .u8 0, .int .u8 0, .int .u8 0, .int .u8 0, .int .u8 0, .int .u8 0, .int .u8 0, .int .u8 0, .int .u8 0, .int .u8 0, .int .u8 0, .int .u8 0, .int .u8 0, .int .u8 0, .int .u8 0, .int .u8 0, .int .u8 0, .int .u8 0, .int .u8 0, .int .u8 0, .int .u8 0, .int .u8 0, .int .u8 0, .int .u8 0, .int .u8 0, .int .u8 0, .int .u8 0, .int .u8 0, .int .u8 0, .int .u8 0] 33) = W at *
  refine (hT.out _).mono ?_
  rintro e w1 ⟨rfl, hh⟩
  have c1 := b1.below hh b1.lt
  have hb1 : Below w.heap.size w w1 := hb.trans (hh.mono hb.size)
  clear b0 b1 hb hh hT
  go_wp2_with fail
  refine (hO.out _ hb1).mono ?_
  rintro e w2 ⟨rfl, hh⟩
  have c2 := c1.below hh c1.lt
  have hb2 : Below w.heap.size w w2 := hb1.trans (hh.mono hb1.size)
  clear c1 hb1 hh hO
  go_wp2_with (first
    | (refine wpList_store_row (by rfl) 33 _ _ (by rfl) (w.heap.size + 1) (va 32 (iv .u8 X)) (by rfl) (by rfl) 33 _ c2 (sizeSum.trans (by rw [va_size])) (by simp only [va_size]) (iv_one _ _ _) ?_; simp only [Act.put, List.setIfInBounds_toArray, List.set_cons_zero, List.set_cons_succ])
    | fail)
  try simp only [Exit.inBlock, Exit.then]
  refine bodyPost_ret (results_cell_row Try.results40 _ _ (w.heap.size + 1) 33 (va 32 (iv .u8 X)) (0, 0) _ rfl (c2.set _) Try.underlying33 rfl (sizeSum.trans (by rw [va_size]))) rfl ?_
  exact ⟨rfl, below_setRow hb2 (Nat.le_succ _) _⟩

set_option maxRecDepth 100000 in
set_option maxHeartbeats 4000000 in
theorem logged_keep (f : Nat → Nat) (w : World) (g r : Nat) (v : Value) (E : List (Nat × ByteArray)) (hE : E.length ≤ 4000000000000) (h : LogAt w g r v E) :
    Calls Try.prog 40 #[.pointer (some ⟨g, 0, none⟩), bkV f] w fun e w' => e = .returned (.agg (va 32 (iv .u8 (sumOf (1, strN f 256))))) ∧ ∃ v', LogAt w' g r v' (putE E (1, strN f 256)) ∧ LogKeeps g r v w w' ∧ (v'.ownBlock = v.ownBlock ∨ ∃ k, v'.ownBlock = some k ∧ w.heap.size ≤ k) := by
  have hT : Hid (∀ w : World, Calls Try.prog 49 #[.agg (va 256 (iv .u8 f))] w fun e w' => e = .returned (.string (strN f 256)) ∧ Below w.heap.size w w') := fun w => textOf_any f w
  have hO : Hid (∀ w' : World, LogAt w' g r v E → Calls Try.prog 48 #[.pointer (some ⟨g, 0, none⟩), .int .u8 1, .string (strN f 256)] w' fun e w'' => e = .returned (.agg (va 32 (iv .u8 (sumOf (1, strN f 256))))) ∧ ∃ v', LogAt w'' g r v' (putE E (1, strN f 256)) ∧ LogKeeps g r v w' w'' ∧ (v'.ownBlock = v.ownBlock ∨ ∃ k, v'.ownBlock = some k ∧ w'.heap.size ≤ k)) := fun w' h' => logOf_any 1 (by decide) (strN f 256) (by rw [strN_size]; decide) g r v E hE w' h'
  have HLOG : Hid (LogAt w g r v E) := h
  clear h hE
  generalize hX : sumOf (1, strN f 256) = X at *
  generalize strN f 256 = T at *
  clear hX
  unfold bkV
  have b0 : Blk ((w.alloc (Obj.cells (va 256 (iv IntKind.u8 f)) 23)).alloc (Obj.cells #[.int .u8 0, .int .u8 0, .int .u8 0, .int .u8 0, .int .u8 0, .int .u8 0, .int .u8 0, .int .u8 0, .int .u8 0, .int .u8 0, .int .u8 0, .int .u8 0, .int .u8 0, .int .u8 0, .int .u8 0, .int .u8 0, .int .u8 0, .int .u8 0, .int .u8 0, .int .u8 0, .int .u8 0, .int .u8 0, .int .u8 0, .int .u8 0, .int .u8 0, .int .u8 0, .int .u8 0, .int .u8 0, .int .u8 0, .int .u8 0, .int .u8 0, .int .u8 0] 33)) w.heap.size 23 (va 256 (iv .u8 f)) := (Blk.new _ _ _).alloc _
  have b1 : Blk ((w.alloc (Obj.cells (va 256 (iv IntKind.u8 f)) 23)).alloc (Obj.cells #[.int .u8 0, .int .u8 0, .int .u8 0, .int .u8 0, .int .u8 0, .int .u8 0, .int .u8 0, .int .u8 0, .int .u8 0, .int .u8 0, .int .u8 0, .int .u8 0, .int .u8 0, .int .u8 0, .int .u8 0, .int .u8 0, .int .u8 0, .int .u8 0, .int .u8 0, .int .u8 0, .int .u8 0, .int .u8 0, .int .u8 0, .int .u8 0, .int .u8 0, .int .u8 0, .int .u8 0, .int .u8 0, .int .u8 0, .int .u8 0, .int .u8 0, .int .u8 0] 33)) (w.heap.size + 1) 33 (va 32 (iv .u8 fun _ => 0)) := Blk.new1 _ _ _ _
  have hb := below_new2 w (Obj.cells (va 256 (iv IntKind.u8 f)) 23) (Obj.cells #[.int .u8 0, .int .u8 0, .int .u8 0, .int .u8 0, .int .u8 0, .int .u8 0, .int .u8 0, .int .u8 0, .int .u8 0, .int .u8 0, .int .u8 0, .int .u8 0, .int .u8 0, .int .u8 0, .int .u8 0, .int .u8 0, .int .u8 0, .int .u8 0, .int .u8 0, .int .u8 0, .int .u8 0, .int .u8 0, .int .u8 0, .int .u8 0, .int .u8 0, .int .u8 0, .int .u8 0, .int .u8 0, .int .u8 0, .int .u8 0, .int .u8 0, .int .u8 0] 33)
  go_enter Try.func40, Try.ntmps40
  go_wp2_with (first
    | (refine wpList_load_row (by rfl) 23 _ (by rfl) (w.heap.size) (by rfl) 23 (va 256 (iv .u8 f)) (0, 0) _ b0 Try.underlying23 (by rfl) (sizeBk.trans (by rw [va_size])) ?_; simp only [Act.put, List.setIfInBounds_toArray, List.set_cons_zero, List.set_cons_succ])
    | fail)
  generalize (w.alloc (Obj.cells (va 256 (iv IntKind.u8 f)) 23)).alloc (Obj.cells #[.int .u8 0, .int .u8 0, .int .u8 0, .int .u8 0, .int .u8 0, .int .u8 0, .int .u8 0, .int .u8 0, .int .u8 0, .int .u8 0, .int .u8 0, .int .u8 0, .int .u8 0, .int .u8 0, .int .u8 0, .int .u8 0, .int .u8 0, .int .u8 0, .int .u8 0, .int .u8 0, .int .u8 0, .int .u8 0, .int .u8 0, .int .u8 0, .int .u8 0, .int .u8 0, .int .u8 0, .int .u8 0, .int .u8 0, .int .u8 0, .int .u8 0, .int .u8 0] 33) = W at *
  refine (hT.out _).mono ?_
  rintro e w1 ⟨rfl, hh⟩
  have c1 := b1.below hh b1.lt
  have hb1 : Below w.heap.size w w1 := hb.trans (hh.mono hb.size)
  clear b0 b1 hb hh hT
  go_wp2_with fail
  have hl1 := HLOG.out.below hb1
  refine (hO.out _ hl1).mono ?_
  rintro e w2 ⟨rfl, v', hl2, hk, hv⟩
  have c2 := hk.blk hl1 c1 (by decide) (by decide)
  have hs1 := hb1.size
  clear c1 hO
  go_wp2_with (first
    | (refine wpList_store_row (by rfl) 33 _ _ (by rfl) (w.heap.size + 1) (va 32 (iv .u8 X)) (by rfl) (by rfl) 33 _ c2 (sizeSum.trans (by rw [va_size])) (by simp only [va_size]) (iv_one _ _ _) ?_; simp only [Act.put, List.setIfInBounds_toArray, List.set_cons_zero, List.set_cons_succ])
    | fail)
  try simp only [Exit.inBlock, Exit.then]
  refine bodyPost_ret (results_cell_row Try.results40 _ _ (w.heap.size + 1) 33 (va 32 (iv .u8 X)) (0, 0) _ rfl (c2.set _) Try.underlying33 rfl (sizeSum.trans (by rw [va_size]))) rfl ?_
  refine ⟨rfl, v', hl2.setRow c2 (by decide) (by decide) _, LogKeeps.laid hb1 hk (Nat.le_succ _) _, ?_⟩
  rcases hv with q | ⟨k, q, hk'⟩
  · exact .inl q
  · exact .inr ⟨k, q, by omega⟩
end Go.Proofs.Ytdniigefmlmcdab

namespace Go.Proofs.Ytdniigefmlmcdab
open Go Go.RowKit
set_option linter.unusedSimpArgs false
set_option linter.unusedVariables false

/-- a struct built of two parts -/
theorem ca_build2 {P : Program} {ops : Array Oper} {rest : List Oper} {o : Oper} {a : Act} {w : World} {Q : Exit → Act → World → Prop} (hg : o.guard = none) (t : TypeId) (x y : Operand) (ho : o.op = .build t #[(0, x), (1, y)]) (vx vy : Value) (hx : a.eval x = vx) (hy : a.eval y = vy)
    (cells : Array Value) (hf : P.built t [(0, vx), (1, vy)] = some cells) (h : wpList P ops Q rest (a.put o.dst (.agg cells)) w) : wpList P ops Q (o :: rest) a w := by
  refine wpList_buildTo hg t _ ho o.dst rfl cells ?_ h
  have e : (Array.map (fun (x : Nat × Operand) => match x with | (i, x) => (i, a.eval x)) #[(0, x), (1, y)]).toList = [(0, vx), (1, vy)] := by simp [hx, hy]
  rw [e]
  exact hf
/-- a reference as a key -/
def rfV (r : Rf) : Value := .agg (rfC r)
/-- a pointer to a block -/
def ptV (b : Nat) : Value := .pointer (some ⟨b, 0, none⟩)
theorem chk_ref (d : Nat) (e : Bool) (a : Rf) (w : World) : (Instr.checkKey e (d + 1 + 1 + 1) 35 (rfV a)).run Try.prog w = .ok () w := by
  have h3 : ∀ x : Int, (Instr.checkKey e (d + 1 + 1) 31 (.int .u32 x)).run Try.prog w = .ok () w := fun x => by simp [Instr.checkKey, run_underlying Try.underlying31]
  have h4 : (Instr.checkKey e (d + 1 + 1) 33 (dK a.2)).run Try.prog w = .ok () w := chk_dig d e _ w
  have p3 : (part 31 (va 33 (rfF a.1 a.2)) 0).run Try.prog w = .ok (.int .u32 ((a.1 : Nat) : Int)) w := part_int _ _ Try.underlying31 _ _ _ (va_at (rfF a.1 a.2) (by decide)) w
  have p4 := part_sum a.1 a.2 w
  unfold rfV rfC
  generalize va 33 (rfF a.1 a.2) = vx at *
  generalize dK a.2 = vs at *
  rw [Instr.checkKey]
  simp only [Sem.run_bind, run_underlying Try.underlying35, Result.andThen_ok]
  simp [p3, p4, h3, h4]
theorem ref_key : KeyOf Try.prog 35 rfV where
  desc := ⟨_, Try.underlying35, (fun k h => by cases h), (fun h => by cases h), (fun h => by cases h)⟩
  eq a b w := eq_ref 9997 a b w
  chk e a w := chk_ref 9997 e a w
/-- a cache's cells -/
def caC (dp lp : Option Addr) (room : Int) (m : Nat) (o n : Option Addr) (h r b c : Int) : Array Value := #[.pointer dp, .pointer lp, .int .i64 room, .map (some m), .pointer o, .pointer n, .int .i64 h, .int .i64 r, .int .i64 b, .int .i64 c]
/-- an entry's cells -/
def enF (r : Rf) (f : Nat → Nat) (o n : Option Addr) : Nat → Value := fun i => if i < 33 then rfF r.1 r.2 i else if i < 289 then .int .u8 ((f (i - 33) : Nat) : Int) else if i = 289 then .pointer o else .pointer n
def enC (r : Rf) (f : Nat → Nat) (o n : Option Addr) : Array Value := va 291 (enF r f o n)
theorem enC_size (r : Rf) (f : Nat → Nat) (o n : Option Addr) : (enC r f o n).size = 291 := va_size _ _
theorem en_old (r : Rf) (f : Nat → Nat) (o n o' : Option Addr) : (enC r f o n).setIfInBounds 289 (.pointer o') = enC r f o' n := by
  unfold enC
  rw [va_set]
  refine va_congr fun i hi => ?_
  unfold upd enF
  by_cases h : i = 289
  · subst h
    rfl
  · rw [if_neg h]
    simp only [if_neg h]
theorem en_new (r : Rf) (f : Nat → Nat) (o n n' : Option Addr) : (enC r f o n).setIfInBounds 290 (.pointer n') = enC r f o n' := by
  unfold enC
  rw [va_set]
  refine va_congr fun i hi => ?_
  unfold upd enF
  by_cases h : i = 290
  · subst h
    rfl
  · rw [if_neg h]
    by_cases h1 : i < 33
    · simp only [if_pos h1]
    · by_cases h2 : i < 289
      · simp only [if_neg h1, if_pos h2]
      · have : i = 289 := by omega
        subst this
        rfl
section
variable {w : World} {b : Nat} {r : Rf} {f : Nat → Nat} {o n : Option Addr}
theorem en_cO (h : Blk w b 95 (enC r f o n)) : w.cell? ⟨b, 289, none⟩ = some (.pointer o) := by
  rw [h.cell]
  exact va_at (enF r f o n) (by decide)
theorem en_cN (h : Blk w b 95 (enC r f o n)) : w.cell? ⟨b, 290, none⟩ = some (.pointer n) := by
  rw [h.cell]
  exact va_at (enF r f o n) (by decide)
theorem en_putO (h : Blk w b 95 (enC r f o n)) (o' : Option Addr) : Blk (w.setCell ⟨b, 289, none⟩ (.pointer o')) b 95 (enC r f o' n) := by
  have := h.put 289 (.pointer o')
  rw [en_old] at this
  exact this
theorem en_putN (h : Blk w b 95 (enC r f o n)) (n' : Option Addr) : Blk (w.setCell ⟨b, 290, none⟩ (.pointer n')) b 95 (enC r f o n') := by
  have := h.put 290 (.pointer n')
  rw [en_new] at this
  exact this
theorem blk_setOther {w : World} {b t g i : Nat} {cs : Array Value} {v : Value} (h : Blk w b t cs) (hne : b ≠ g) : Blk (w.setCell ⟨g, i, none⟩ v) b t cs := (Deep.blk_setCell_other w ⟨g, i, none⟩ v b hne).trans h
end
/-- what may turn: two blocks -/
def two (g b : Nat) (x : Nat) : Prop := x = g ∨ x = b
theorem turns_set {S : Nat → Prop} {w w' : World} (h : Turns S w w') {g i : Nat} {v : Value} (hg : S g) : Turns S w (w'.setCell ⟨g, i, none⟩ v) := ⟨h.os, h.tape, h.output, by rw [Deep.nblk_setCell]; exact h.size, fun b hb hf => (Deep.blk_setCell_other w' ⟨g, i, none⟩ v b fun e => hf (by subst e; exact hg)).trans (h.block b hb hf)⟩
theorem turns_refl {S : Nat → Prop} (w : World) : Turns S w w := .of_below (Below.refl _ _)
section
variable {g b m : Nat} {dp lp o n o0 n0 : Option Addr} {room h r bd c : Int} {R : Rf} {f : Nat → Nat}
set_option maxRecDepth 100000 in
set_option maxHeartbeats 4000000 in
theorem link_first (hne : b ≠ g) (w : World) (hg : Blk w g 75 (caC dp lp room m o none h r bd c)) (hb : Blk w b 95 (enC R f o0 n0)) : Calls Try.prog 44 #[.pointer (some ⟨g, 3, none⟩), .pointer (some ⟨b, 0, none⟩)] w fun e w' => e = .returned (.tuple #[]) ∧ Blk w' g 75 (caC dp lp room m (some ⟨b, 0, none⟩) (some ⟨b, 0, none⟩) h r bd c) ∧ Blk w' b 95 (enC R f none none) ∧ Turns (two g b) w w' := by
  have c5 : w.cell? ⟨g, 5, none⟩ = some (.pointer none) := by rw [hg.cell]; rfl
  have c4 : w.cell? ⟨g, 4, none⟩ = some (.pointer o) := by rw [hg.cell]; rfl
  have cO := en_cO hb
  have cN := en_cN hb
  have hne' : g ≠ b := Ne.symm hne
  have fo : w.frozen? ⟨b, 289, none⟩ = false := hb.frozen 289
  have b1 := en_putO hb none
  have g1 : Blk (w.setCell ⟨b, 289, none⟩ (.pointer none)) g 75 (caC dp lp room m o none h r bd c) := blk_setOther hg (Ne.symm hne)
  have fn : (w.setCell ⟨b, 289, none⟩ (.pointer none)).frozen? ⟨b, 290, none⟩ = false := b1.frozen 290
  have b2 := en_putN b1 none
  have g2 : Blk ((w.setCell ⟨b, 289, none⟩ (.pointer none)).setCell ⟨b, 290, none⟩ (.pointer none)) g 75 (caC dp lp room m o none h r bd c) := blk_setOther g1 (Ne.symm hne)
  have c52 : ((w.setCell ⟨b, 289, none⟩ (.pointer none)).setCell ⟨b, 290, none⟩ (.pointer none)).cell? ⟨g, 5, none⟩ = some (.pointer none) := by rw [g2.cell]; rfl
  have f4 : ((w.setCell ⟨b, 289, none⟩ (.pointer none)).setCell ⟨b, 290, none⟩ (.pointer none)).frozen? ⟨g, 4, none⟩ = false := g2.frozen 4
  have g3 : Blk (((w.setCell ⟨b, 289, none⟩ (.pointer none)).setCell ⟨b, 290, none⟩ (.pointer none)).setCell ⟨g, 4, none⟩ (.pointer (some ⟨b, 0, none⟩))) g 75 (caC dp lp room m (some ⟨b, 0, none⟩) none h r bd c) := g2.put 4 _
  have b3 : Blk (((w.setCell ⟨b, 289, none⟩ (.pointer none)).setCell ⟨b, 290, none⟩ (.pointer none)).setCell ⟨g, 4, none⟩ (.pointer (some ⟨b, 0, none⟩))) b 95 (enC R f none none) := blk_setOther b2 hne
  have f5 : (((w.setCell ⟨b, 289, none⟩ (.pointer none)).setCell ⟨b, 290, none⟩ (.pointer none)).setCell ⟨g, 4, none⟩ (.pointer (some ⟨b, 0, none⟩))).frozen? ⟨g, 5, none⟩ = false := g3.frozen 5
  have g4 : Blk ((((w.setCell ⟨b, 289, none⟩ (.pointer none)).setCell ⟨b, 290, none⟩ (.pointer none)).setCell ⟨g, 4, none⟩ (.pointer (some ⟨b, 0, none⟩))).setCell ⟨g, 5, none⟩ (.pointer (some ⟨b, 0, none⟩))) g 75 (caC dp lp room m (some ⟨b, 0, none⟩) (some ⟨b, 0, none⟩) h r bd c) := g3.put 5 _
  have b4 : Blk ((((w.setCell ⟨b, 289, none⟩ (.pointer none)).setCell ⟨b, 290, none⟩ (.pointer none)).setCell ⟨g, 4, none⟩ (.pointer (some ⟨b, 0, none⟩))).setCell ⟨g, 5, none⟩ (.pointer (some ⟨b, 0, none⟩))) b 95 (enC R f none none) := blk_setOther b3 hne
  have t4 : Turns (two g b) w ((((w.setCell ⟨b, 289, none⟩ (.pointer none)).setCell ⟨b, 290, none⟩ (.pointer none)).setCell ⟨g, 4, none⟩ (.pointer (some ⟨b, 0, none⟩))).setCell ⟨g, 5, none⟩ (.pointer (some ⟨b, 0, none⟩))) := turns_set (turns_set (turns_set (turns_set (turns_refl w) (.inr rfl)) (.inr rfl)) (.inl rfl)) (.inl rfl)
  have HG : Hid (Blk ((((w.setCell ⟨b, 289, none⟩ (.pointer none)).setCell ⟨b, 290, none⟩ (.pointer none)).setCell ⟨g, 4, none⟩ (.pointer (some ⟨b, 0, none⟩))).setCell ⟨g, 5, none⟩ (.pointer (some ⟨b, 0, none⟩))) g 75 (caC dp lp room m (some ⟨b, 0, none⟩) (some ⟨b, 0, none⟩) h r bd c)) := g4
  have HB : Hid (Blk ((((w.setCell ⟨b, 289, none⟩ (.pointer none)).setCell ⟨b, 290, none⟩ (.pointer none)).setCell ⟨g, 4, none⟩ (.pointer (some ⟨b, 0, none⟩))).setCell ⟨g, 5, none⟩ (.pointer (some ⟨b, 0, none⟩))) b 95 (enC R f none none)) := b4
  have HT : Hid (Turns (two g b) w ((((w.setCell ⟨b, 289, none⟩ (.pointer none)).setCell ⟨b, 290, none⟩ (.pointer none)).setCell ⟨g, 4, none⟩ (.pointer (some ⟨b, 0, none⟩))).setCell ⟨g, 5, none⟩ (.pointer (some ⟨b, 0, none⟩)))) := t4
  clear hg hb b1 g1 b2 g2 g3 b3 g4 b4 t4
  go_enter Try.func44, Try.ntmps44
  go_wp2_with fail
  try simp only [Exit.inBlock, Exit.then]
  first
    | refine bodyPost_end (results_none Try.results44 _ _ _) rfl ?_
    | refine bodyPost_ret (results_none Try.results44 _ _ _) rfl ?_
  exact ⟨rfl, HG.out, HB.out, HT.out⟩
set_option maxRecDepth 100000 in
set_option maxHeartbeats 4000000 in
theorem unlink_only (hne : b ≠ g) (w : World) (hg : Blk w g 75 (caC dp lp room m o n h r bd c)) (hb : Blk w b 95 (enC R f none none)) : Calls Try.prog 39 #[.pointer (some ⟨g, 3, none⟩), .pointer (some ⟨b, 0, none⟩)] w fun e w' => e = .returned (.tuple #[]) ∧ Blk w' g 75 (caC dp lp room m none none h r bd c) ∧ Blk w' b 95 (enC R f none none) ∧ Turns (two g b) w w' := by
  have cO := en_cO hb
  have cN := en_cN hb
  have c4 : w.cell? ⟨g, 4, none⟩ = some (.pointer o) := by rw [hg.cell]; rfl
  have c5 : w.cell? ⟨g, 5, none⟩ = some (.pointer n) := by rw [hg.cell]; rfl
  have hne' : g ≠ b := Ne.symm hne
  have f4 : w.frozen? ⟨g, 4, none⟩ = false := hg.frozen 4
  have g1 : Blk (w.setCell ⟨g, 4, none⟩ (.pointer none)) g 75 (caC dp lp room m none n h r bd c) := hg.put 4 _
  have b1 : Blk (w.setCell ⟨g, 4, none⟩ (.pointer none)) b 95 (enC R f none none) := blk_setOther hb hne
  have cO1 := en_cO b1
  have cN1 := en_cN b1
  have f5 : (w.setCell ⟨g, 4, none⟩ (.pointer none)).frozen? ⟨g, 5, none⟩ = false := g1.frozen 5
  have g2 : Blk ((w.setCell ⟨g, 4, none⟩ (.pointer none)).setCell ⟨g, 5, none⟩ (.pointer none)) g 75 (caC dp lp room m none none h r bd c) := g1.put 5 _
  have b2 : Blk ((w.setCell ⟨g, 4, none⟩ (.pointer none)).setCell ⟨g, 5, none⟩ (.pointer none)) b 95 (enC R f none none) := blk_setOther b1 hne
  have t2 : Turns (two g b) w ((w.setCell ⟨g, 4, none⟩ (.pointer none)).setCell ⟨g, 5, none⟩ (.pointer none)) := turns_set (turns_set (turns_refl w) (.inl rfl)) (.inl rfl)
  have HG : Hid (Blk ((w.setCell ⟨g, 4, none⟩ (.pointer none)).setCell ⟨g, 5, none⟩ (.pointer none)) g 75 (caC dp lp room m none none h r bd c)) := g2
  have HB : Hid (Blk ((w.setCell ⟨g, 4, none⟩ (.pointer none)).setCell ⟨g, 5, none⟩ (.pointer none)) b 95 (enC R f none none)) := b2
  have HT : Hid (Turns (two g b) w ((w.setCell ⟨g, 4, none⟩ (.pointer none)).setCell ⟨g, 5, none⟩ (.pointer none))) := t2
  clear hg hb b1 g1 g2 b2 t2
  go_enter Try.func39, Try.ntmps39
  go_wp2_with fail
  try simp only [Exit.inBlock, Exit.then]
  first
    | refine bodyPost_end (results_none Try.results39 _ _ _) rfl ?_
    | refine bodyPost_ret (results_none Try.results39 _ _ _) rfl ?_
  exact ⟨rfl, HG.out, HB.out, HT.out⟩
end
end Go.Proofs.Ytdniigefmlmcdab

namespace Go.Proofs.Ytdniigefmlmcdab
open Go Go.RowKit

section
variable {P : Program} {ops : Array Oper} {Q : Exit → Act → World → Prop} {S : World → Prop}
/-- the check of the parts ahead of a tree of n steps -/
def partsTB (ops : Array Oper) : List (List Nat × Nat × Bool) → Nat → Array Bool → Bool
  | [], n, listed => treeOk ops n listed
  | p :: rest, n, listed => match takesB .any ops [] [] p.1 listed with
    | some l => (if p.2.2 then yieldW .any ops l [] p.2.1 else forceW .any ops l p.2.1) && partsTB ops rest n (l.setIfInBounds p.2.1 true)
    | none => false
def wholeTB (ops : Array Oper) (ps : List (List Nat × Nat × Bool)) (n : Nat) : Bool :=
  lenOf ps n == ops.size && Region.noSelect ops && partsTB ops ps n (Array.replicate ops.size false)
/-- what is listed behind a part -/
def nextL (listed : Array Bool) (ts : List Nat) (i : Nat) : Array Bool := (ts.foldl (fun l i => l.setIfInBounds i true) listed).setIfInBounds i true
/-- the walk -/
def wpPartsT (P : Program) (ops : Array Oper) (Q : Exit → Act → World → Prop) (S : World → Prop) : List (List Nat × Nat × Bool) → Nat → Array Bool → Act → World → Prop
  | [], n, listed, a, w => wpTreeS P ops Q S n listed a w
  | (ts, i, false) :: rest, n, listed, a, w => wpList P ops (Strict fun _ a' w' => S w' ∧ wpPartsT P ops Q S rest n (nextL listed ts i) a' w') ((ts ++ [i]).filterMap fun i => ops[i]?) a w
  | (ts, i, true) :: rest, n, listed, a, w => wpList P ops (Strict fun _ a' w' => ∃ o v, ops[i]? = some o ∧ YieldsIf P ops S o v a' ∧ wpPartsT P ops Q S rest n (nextL listed ts i) (a'.put o.dst v) w') ((ts ++ []).filterMap fun i => ops[i]?) a w
theorem partsT_step (hs : Region.noSelect ops = true) (n : Nat) :
    ∀ (ps : List (List Nat × Nat × Bool)) (listed : Array Bool) (a : Act) (w : World), partsTB ops ps n listed = true → S w →
      wpPartsT P ops Q S ps n listed a w → wpAnyW P .any ops (Strict Q) S (([] : List Nat).contains ·) (lenOf ps n) listed a w
  | [], listed, a, w, hb, hS, h => treeS_any n listed a w hb h
  | (ts, i, false) :: rest, listed, a, w, hb, hS, h => by
    unfold partsTB at hb
    split at hb
    · rename_i l2 hl2
      have he := takesB_listed ts _ l2 hl2
      simp only [Bool.and_eq_true, Bool.false_eq_true, if_false] at hb
      refine takesS_step hs [i] _ _ ts listed l2 a w hl2 (fun a' w' _ h' => ?_) hS h
      obtain ⟨o, ho⟩ := has_op' hb.1
      rw [Nat.add_comm 1]
      refine forceS_step hb.1 (wpOp_mono (fun a2 w2 h2 => ?_) (wpOp_strict (wpList_one ho h')))
      have h3 := h2.2
      refine ⟨fun _ => h3.1, partsT_step hs n rest _ a2 w2 hb.2 h3.1 ?_⟩
      rw [he]
      exact h3.2
    · cases hb
  | (ts, i, true) :: rest, listed, a, w, hb, hS, h => by
    unfold partsTB at hb
    split at hb
    · rename_i l2 hl2
      have he := takesB_listed ts _ l2 hl2
      simp only [Bool.and_eq_true, if_true] at hb
      refine takesS_step hs [] _ _ ts listed l2 a w hl2 (fun a' w' hS' h' => ?_) hS h
      obtain ⟨-, o, v, ho, hy, hn⟩ := h'
      have hc := hb.1
      unfold yieldW at hc
      rw [ho] at hc
      simp only [Bool.and_eq_true, Bool.not_eq_true'] at hc
      rw [Nat.add_comm 1]
      refine takeS_gen hs ho hc.1.1.1 hc.1.1.2 hc.1.2 hc.2 hy hS' (partsT_step hs n rest _ _ w' hb.2 hS' ?_)
      rw [he]
      exact hn
    · cases hb
/-- THE LAW. -/
theorem wp_region_partsT {id : Nat} {a : Act} {w : World} (S : World → Prop) (ps : List (List Nat × Nat × Bool)) (n : Nat) (hm : P.follows .mixedOrders = true) (hB : wholeTB ops ps n = true)
    (hS : S w.drew) (h : wpPartsT P ops Q S ps n (Array.replicate ops.size false) a w.drew) : (Code.region id ops true).wp P Q a w := by
  unfold wholeTB at hB
  simp only [Bool.and_eq_true, beq_iff_eq] at hB
  refine Code.wp_mono Strict.imp (wp_region_any hm ?_)
  rw [← hB.1.1]
  exact wpAny_of_W _ _ _ _ (partsT_step hB.1.2 n ps _ a _ (by rw [hB.1.1]; exact hB.2) hS (by rw [hB.1.1]; exact h))
theorem partsT_force {ts : List Nat} {i n : Nat} {rest : List (List Nat × Nat × Bool)} {listed : Array Bool} {a : Act} {w : World}
    (h : wpList P ops (Strict fun _ a' w' => S w' ∧ wpPartsT P ops Q S rest n (nextL listed ts i) a' w') ((ts ++ [i]).filterMap fun i => ops[i]?) a w) : wpPartsT P ops Q S ((ts, i, false) :: rest) n listed a w := h
theorem partsT_yield {ts : List Nat} {i n : Nat} {rest : List (List Nat × Nat × Bool)} {listed : Array Bool} {a : Act} {w : World}
    (h : wpList P ops (Strict fun _ a' w' => ∃ o v, ops[i]? = some o ∧ YieldsIf P ops S o v a' ∧ wpPartsT P ops Q S rest n (nextL listed ts i) (a'.put o.dst v) w') ((ts ++ []).filterMap fun i => ops[i]?) a w) : wpPartsT P ops Q S ((ts, i, true) :: rest) n listed a w := h
theorem partsT_last {n : Nat} {listed : Array Bool} {a : Act} {w : World} (h : wpTreeS P ops Q S n listed a w) : wpPartsT P ops Q S [] n listed a w := h
end
end Go.Proofs.Ytdniigefmlmcdab

namespace Go.Proofs.Ytdniigefmlmcdab
open Go Go.RowKit
set_option linter.unusedSimpArgs false
set_option linter.unusedVariables false

/-- a block's digest -/
def dgB (f : Nat → Nat) : Vector Nat 32 := sumD (sumOf (1, strN f 256))
theorem dgB_cells (f : Nat → Nat) : va 32 (iv .u8 (sumOf (1, strN f 256))) = va 32 (iv .u8 (dF (dgB f))) := va_congr fun i hi => by unfold iv dgB; rw [dF_sumD _ i hi]
theorem logged_nil (f : Nat → Nat) (w : World) : Calls Try.prog 40 #[.pointer none, .agg (va 256 (iv .u8 f))] w fun e w' => e = .returned (.agg (va 32 (iv .u8 (dF (dgB f))))) ∧ Below w.heap.size w w' := by
  rw [← dgB_cells]
  exact logged_below f w (.pointer none) fun w' _ => logOf_nil 1 (by decide) (strN f 256) (by rw [strN_size]; decide) w'
set_option maxRecDepth 100000 in
set_option maxHeartbeats 4000000 in
theorem nodeSum_nil (f : Nat → Nat) (w : World) : Calls Try.prog 31 #[.pointer none, .agg (va 256 (iv .u8 f))] w fun e w' => e = .returned (.agg (va 32 (iv .u8 (dF (dgB f))))) ∧ Below w.heap.size w w' := by
  have hL : Hid (∀ w : World, Calls Try.prog 40 #[.pointer none, .agg (va 256 (iv .u8 f))] w fun e w' => e = .returned (.agg (va 32 (iv .u8 (dF (dgB f))))) ∧ Below w.heap.size w w') := logged_nil f
  generalize dgB f = X at *
  have b0 : Blk ((w.alloc (Obj.cells (va 256 (iv IntKind.u8 f)) 23)).alloc (Obj.cells #[.int .u8 0, .int .u8 0, .int .u8 0, .int .u8 0, .int .u8 0, .int .u8 0, .int .u8 0, .int .u8 0, .int .u8 0, .int .u8 0, .int .u8 0, .int .u8 0, .int .u8 0, .int .u8 0, .int .u8 0, .int .u8 0, .int .u8 0, .int .u8 0, .int .u8 0, .int .u8 0, .int .u8 0, .int .u8 0, .int .u8 0, .int .u8 0, .int .u8 0, .int .u8 0, .int .u8 0, .int .u8 0, .int .u8 0, .int .u8 0, .int .u8 0, .int .u8 0] 33)) w.heap.size 23 (va 256 (iv .u8 f)) := (Blk.new _ _ _).alloc _
  have b1 : Blk ((w.alloc (Obj.cells (va 256 (iv IntKind.u8 f)) 23)).alloc (Obj.cells #[.int .u8 0, .int .u8 0, .int .u8 0, .int .u8 0, .int .u8 0, .int .u8 0, .int .u8 0, .int .u8 0, .int .u8 0, .int .u8 0, .int .u8 0, .int .u8 0, .int .u8 0, .int .u8 0, .int .u8 0, .int .u8 0, .int .u8 0, .int .u8 0, .int .u8 0, .int .u8 0, .int .u8 0, .int .u8 0, .int .u8 0, .int .u8 0, .int .u8 0, .int .u8 0, .int .u8 0, .int .u8 0, .int .u8 0, .int .u8 0, .int .u8 0, .int .u8 0] 33)) (w.heap.size + 1) 33 (va 32 (iv .u8 fun _ => 0)) := Blk.new1 _ _ _ _
  have hb : Below w.heap.size w ((w.alloc (Obj.cells (va 256 (iv IntKind.u8 f)) 23)).alloc (Obj.cells #[.int .u8 0, .int .u8 0, .int .u8 0, .int .u8 0, .int .u8 0, .int .u8 0, .int .u8 0, .int .u8 0, .int .u8 0, .int .u8 0, .int .u8 0, .int .u8 0, .int .u8 0, .int .u8 0, .int .u8 0, .int .u8 0, .int .u8 0, .int .u8 0, .int .u8 0, .int .u8 0, .int .u8 0, .int .u8 0, .int .u8 0, .int .u8 0, .int .u8 0, .int .u8 0, .int .u8 0, .int .u8 0, .int .u8 0, .int .u8 0, .int .u8 0, .int .u8 0] 33)) := below_new2 _ _ _
  go_enter Try.func31, Try.ntmps31
  go_wp2_with (first
    | (refine wpList_load_row (by rfl) 23 _ (by rfl) (w.heap.size) (by rfl) 23 (va 256 (iv .u8 f)) (0, 0) _ b0 Try.underlying23 (by rfl) (sizeBk.trans (by rw [va_size])) ?_; simp only [Act.put, List.setIfInBounds_toArray, List.set_cons_zero, List.set_cons_succ])
    | fail)
  generalize ((w.alloc (Obj.cells (va 256 (iv IntKind.u8 f)) 23)).alloc (Obj.cells #[.int .u8 0, .int .u8 0, .int .u8 0, .int .u8 0, .int .u8 0, .int .u8 0, .int .u8 0, .int .u8 0, .int .u8 0, .int .u8 0, .int .u8 0, .int .u8 0, .int .u8 0, .int .u8 0, .int .u8 0, .int .u8 0, .int .u8 0, .int .u8 0, .int .u8 0, .int .u8 0, .int .u8 0, .int .u8 0, .int .u8 0, .int .u8 0, .int .u8 0, .int .u8 0, .int .u8 0, .int .u8 0, .int .u8 0, .int .u8 0, .int .u8 0, .int .u8 0] 33)) = W at *
  refine (hL.out _).mono ?_
  rintro e w2 ⟨rfl, hh⟩
  have c2 := b1.below hh b1.lt
  have hb2 : Below w.heap.size w w2 := hb.trans (hh.mono hb.size)
  clear b1 b0 hb hh hL
  go_wp2_with (first
    | (refine wpList_store_row (by rfl) 33 _ _ (by rfl) (w.heap.size + 1) (va 32 (iv .u8 (dF X))) (by rfl) (by rfl) 33 _ c2 (sizeSum.trans (by rw [va_size])) (by simp only [va_size]) (iv_one _ _ _) ?_; simp only [Act.put, List.setIfInBounds_toArray, List.set_cons_zero, List.set_cons_succ])
    | fail)
  try simp only [Exit.inBlock, Exit.then]
  refine bodyPost_ret (results_cell_row Try.results31 _ _ (w.heap.size + 1) 33 (va 32 (iv .u8 (dF X))) (0, 0) _ rfl (c2.set _) Try.underlying33 rfl (sizeSum.trans (by rw [va_size]))) rfl ?_
  exact ⟨rfl, below_setRow hb2 (Nat.le_succ _) _⟩
set_option maxRecDepth 100000 in
set_option maxHeartbeats 4000000 in
theorem nodeOf_nil (a : Nat) (ha : a ≠ 0) (f : Nat → Nat) (w : World) : Calls Try.prog 20 #[.pointer none, .int .u32 (a : Int), .agg (va 256 (iv .u8 f))] w fun e w' => e = .returned (.agg (rfC (a, dgB f))) ∧ Below w.heap.size w w' := by
  have hS : Hid (∀ w : World, Calls Try.prog 31 #[.pointer none, .agg (va 256 (iv .u8 f))] w fun e w' => e = .returned (.agg (va 32 (iv .u8 (dF (dgB f))))) ∧ Below w.heap.size w w') := nodeSum_nil f
  have hz := zero_ref
  generalize dgB f = X at *
  have hbt : Hid (Try.prog.built 35 [(0, .int .u32 (a : Int)), (1, .agg (va 32 (iv .u8 (dF X))))] = some (rfC (a, X))) := built_refD a X
  have d0 : ((a : Int) == 0) = false := by
    rw [beq_eq_false_iff_ne]
    omega
  have b0 : Blk ((w.alloc (Obj.cells (va 256 (iv IntKind.u8 f)) 23)).alloc (Obj.cells (rfC rf0) 35)) w.heap.size 23 (va 256 (iv .u8 f)) := (Blk.new _ _ _).alloc _
  have b1 : Blk ((w.alloc (Obj.cells (va 256 (iv IntKind.u8 f)) 23)).alloc (Obj.cells (rfC rf0) 35)) (w.heap.size + 1) 35 (rfC rf0) := Blk.new1 _ _ _ _
  have hb : Below w.heap.size w ((w.alloc (Obj.cells (va 256 (iv IntKind.u8 f)) 23)).alloc (Obj.cells (rfC rf0) 35)) := below_new2 _ _ _
  clear ha
  go_enter Try.func20, Try.ntmps20
  go_wp2_with (first
    | (refine wpList_load_row (by rfl) 23 _ (by rfl) (w.heap.size) (by rfl) 23 (va 256 (iv .u8 f)) (0, 0) _ b0 Try.underlying23 (by rfl) (sizeBk.trans (by rw [va_size])) ?_; simp only [Act.put, List.setIfInBounds_toArray, List.set_cons_zero, List.set_cons_succ])
    | fail)
  generalize ((w.alloc (Obj.cells (va 256 (iv IntKind.u8 f)) 23)).alloc (Obj.cells (rfC rf0) 35)) = W at *
  refine (hS.out _).mono ?_
  rintro e w2 ⟨rfl, hh⟩
  have c2 := b1.below hh b1.lt
  have hb2 : Below w.heap.size w w2 := hb.trans (hh.mono hb.size)
  clear b1 b0 hb hh hS
  go_wp2_with (first
    | (refine ca_build2 (by rfl) 35 _ _ (by rfl) (.int .u32 (a : Int)) (.agg (va 32 (iv .u8 (dF X)))) (by rfl) (by rfl) (rfC (a, X)) (by exact hbt.out) ?_; simp only [Act.put, List.setIfInBounds_toArray, List.set_cons_zero, List.set_cons_succ])
    | (refine wpList_store_row (by rfl) 35 _ _ (by rfl) (w.heap.size + 1) (rfC (a, X)) (by rfl) (by rfl) 35 (_) (by exact c2) (slSizeRef.trans (by rw [rfC_size])) (by simp only [rfC_size]) (rfC_all _) ?_; simp only [Act.put, List.setIfInBounds_toArray, List.set_cons_zero, List.set_cons_succ])
    | fail)
  try simp only [Exit.inBlock, Exit.then]
  refine bodyPost_ret (results_cell_row Try.results20 _ _ (w.heap.size + 1) 35 (rfC (a, X)) (0, 0) _ rfl (c2.set _) Try.underlying35 rfl (slSizeRef.trans (by rw [rfC_size]))) rfl ?_
  exact ⟨rfl, below_setRow hb2 (Nat.le_succ _) _⟩
set_option maxRecDepth 100000 in
set_option maxHeartbeats 4000000 in
theorem mayBeRoom_ok (x : Int) (h0 : 0 ≤ x) (h1 : x ≤ 4096) (w : World) : Calls Try.prog 17 #[.int .i64 x] w fun e w' => e = .returned (.bool true) ∧ w = w' := by
  go_enter Try.func17, Try.ntmps17
  go_wp2_with fail
  go_ret
  exact ⟨rfl, rfl⟩
/-- no entries: the cells of their holder -/
def esC (m : Nat) : Array Value := #[.map (some m), .pointer none, .pointer none]
theorem sizeEs : (Try.prog.info? 70).map (·.size) = some 3 := by kernel_rfl
theorem sizeEn : (Try.prog.info? 95).map (·.size) = some 291 := by kernel_rfl
theorem built_es (m : Nat) : Try.prog.built 70 [(0, .map (some m))] = some (esC m) := by kernel_rfl
theorem built_ca (dp lp : Option Addr) (room : Int) (m : Nat) : Try.prog.built 75 [(0, .pointer dp), (1, .pointer lp), (2, .int .i64 room), (3, .agg (esC m))] = some (caC dp lp room m none none 0 0 0 0) := by kernel_rfl
set_option maxRecDepth 100000 in
set_option maxHeartbeats 4000000 in
theorem caNone_any (w : World) : Calls Try.prog 18 #[] w fun e w' => ∃ m, e = .returned (.agg (esC m)) ∧ w.heap.size ≤ m ∧ MapIs rfV ptV w' m [] ∧ Below w.heap.size w w' := by
  have hmm := @run_makeMap Try.prog
  go_enter Try.func18, Try.ntmps18
  go_wp2_with fail
  try simp only [Exit.inBlock, Exit.then]
  refine bodyPost_ret (results_cell_row Try.results18 _ _ w.heap.size 70 (esC (w.heap.size + 1)) (0, 0) _ rfl ((Blk.new _ _ _).alloc _) Try.underlying70 rfl (sizeEs.trans (by rfl))) rfl ?_
  refine ⟨_, rfl, Nat.le_succ _, ⟨#[], 0, ?_, rfl⟩, below_new2 _ _ _⟩
  have := heap_alloc_new (w.alloc (Obj.cells (esC (w.heap.size + 1)) 70)) (Obj.map #[] 0)
  rw [show (w.alloc (Obj.cells (esC (w.heap.size + 1)) 70)).heap.size = w.heap.size + 1 by simp] at this
  exact this
set_option maxRecDepth 100000 in
set_option maxHeartbeats 4000000 in
theorem caNew_ok (g : Nat) (lp : Option Addr) (room : Int) (h0 : 0 ≤ room) (h1 : room ≤ 4096) (w : World) : Calls Try.prog 5 #[.pointer (some ⟨g, 0, none⟩), .pointer lp, .int .i64 room] w fun e w' => ∃ c m, e = .returned (.tuple #[.pointer (some ⟨c, 0, none⟩), .int .i64 0]) ∧ (w.heap.size ≤ c ∧ w.heap.size ≤ m) ∧ Blk w' c 75 (caC (some ⟨g, 0, none⟩) lp room m none none 0 0 0 0) ∧ MapIs rfV ptV w' m [] ∧ Below w.heap.size w w' := by
  have hR : Hid (∀ w : World, Calls Try.prog 17 #[.int .i64 room] w fun e w' => e = .returned (.bool true) ∧ w = w') := mayBeRoom_ok room h0 h1
  have hN : Hid (∀ w : World, Calls Try.prog 18 #[] w fun e w' => ∃ m, e = .returned (.agg #[.map (some m), .pointer none, .pointer none]) ∧ w.heap.size ≤ m ∧ MapIs rfV ptV w' m [] ∧ Below w.heap.size w w') := caNone_any
  clear h0 h1
  go_enter Try.func5, Try.ntmps5
  go_wp2_with fail
  refine (hR.out _).mono ?_
  rintro e _ ⟨rfl, rfl⟩
  go_wp2_with fail
  refine (hN.out _).mono ?_
  rintro e w1 ⟨m, rfl, hm, hmap, hb1⟩
  have HM : Hid (MapIs rfV ptV w1 m []) := hmap
  clear hmap
  go_wp2_with fail
  try simp only [Exit.inBlock, Exit.then]
  refine bodyPost_ret (results_tmp2 Try.results5 _ _ _) rfl ?_
  have hb2 : Below w1.heap.size w1 (w1.alloc (.cells (caC (some ⟨g, 0, none⟩) lp room m none none 0 0 0 0) 75)) := below_new1 _ _
  exact ⟨w1.heap.size, m, rfl, ⟨hb1.size, hm⟩, Blk.new _ _ _, HM.out.below hb2 (by
    obtain ⟨es, cl, hg, _⟩ := HM.out
    exact (Array.getElem?_eq_some_iff.1 hg).1), hb1.trans (hb2.mono hb1.size)⟩
end Go.Proofs.Ytdniigefmlmcdab

namespace Go.Proofs.Ytdniigefmlmcdab
open Go Go.RowKit
set_option linter.unusedSimpArgs false
set_option linter.unusedVariables false

theorem MapIs.lt {α β : Type} {K : α → Value} {V : β → Value} {w : World} {r : Nat} {l : List (α × β)} (h : MapIs K V w r l) : r < w.heap.size := by
  obtain ⟨es, cl, hg, _⟩ := h
  exact (Array.getElem?_eq_some_iff.1 hg).1
theorem MapIs.of {α β : Type} {K : α → Value} {V : β → Value} {w w' : World} {r : Nat} {l : List (α × β)} (h : MapIs K V w r l) (hk : w'.heap[r]? = w.heap[r]?) : MapIs K V w' r l := by
  obtain ⟨es, cl, hg, he⟩ := h
  exact ⟨es, cl, hk.trans hg, he⟩
theorem MapIs.ne {α β : Type} {K : α → Value} {V : β → Value} {w : World} {r b t : Nat} {cs : Array Value} {l : List (α × β)} (h : MapIs K V w r l) (hb : Blk w b t cs) : r ≠ b := fun e => by
  obtain ⟨es, cl, hg, _⟩ := h
  subst e
  have := hg.symm.trans hb
  simp at this
theorem zero_en (w : World) : (zeroValue 68).run Try.prog w = .ok (.pointer none) w := zero_of (by kernel_rfl) w
theorem map_len {w : World} {m : Nat} {l : List (Rf × Nat)} (h : MapIs rfV ptV w m l) (ty : TypeId) : (Builtin.len_ #[67] ty #[.map (some m)]).run Try.prog w = .ok (.int .i64 (l.length : Int)) w := by
  obtain ⟨es, cl, hg, he⟩ := h
  have hgo : (getObj m).run Try.prog w = .ok (.map es cl) w := by simp [getObj, Sem.run, hg]
  have hl : es.size = l.length := by
    have := congrArg List.length he
    simpa using this
  simp [Builtin.len_, run_underlying Try.underlying67, hgo, goInt, hl]
section
variable {c m : Nat} {dp lp o n : Option Addr} {room h r bd cn : Int}
set_option maxRecDepth 100000 in
set_option maxHeartbeats 4000000 in
theorem mayLie_ok (a N : Nat) (ha : a ≠ 0) (hN : a < N) (hN2 : N ≤ 8192) (w : World) (hg : Blk w c 75 (caC dp lp room m o n h r bd cn)) (hB : Calls Try.prog 30 #[.pointer dp] w fun e w' => e = .returned (.int .i64 (N : Int)) ∧ w = w') : Calls Try.prog 19 #[.pointer (some ⟨c, 0, none⟩), .int .u32 (a : Int)] w fun e w' => e = .returned (.bool true) ∧ w = w' := by
  have c0 : w.cell? ⟨c, 0, none⟩ = some (.pointer dp) := by rw [hg.cell]; rfl
  have HB : Hid (Calls Try.prog 30 #[.pointer dp] w fun e w' => e = .returned (.int .i64 (N : Int)) ∧ w = w') := hB
  have h0 : (0 : Int) < (a : Int) := by omega
  have h1 : (a : Int) < (N : Int) := by omega
  have h2 : (N : Int) % 4294967296 = (N : Int) := by omega
  have d1 : decide ((a : Int) < (N : Int)) = true := decide_eq_true h1
  clear hg hB ha hN hN2
  go_enter Try.func19, Try.ntmps19
  go_wp2_with fail
  refine HB.out.mono ?_
  rintro e _ ⟨rfl, rfl⟩
  go_wp2_with fail
  go_ret
  exact ⟨rfl, rfl⟩
set_option maxRecDepth 100000 in
set_option maxHeartbeats 4000000 in
theorem drop_none (k : Rf) (l : List (Rf × Nat)) (hk : findIn k l = none) (w : World) (hg : Blk w c 75 (caC dp lp room m o n h r bd cn)) (hm : MapIs rfV ptV w m l) : Calls Try.prog 28 #[.pointer (some ⟨c, 3, none⟩), .agg (rfC k)] w fun e w' => e = .returned (.tuple #[]) ∧ Below w.heap.size w w' := by
  have hb : Below w.heap.size w (w.alloc (.cells (rfC k) 35)) := below_new1 _ _
  have r0 : Blk (w.alloc (.cells (rfC k) 35)) w.heap.size 35 (rfC k) := Blk.new _ _ _
  have c3 : (w.alloc (.cells (rfC k) 35)).cell? ⟨c, 3, none⟩ = some (.map (some m)) := by
    rw [(hg.below hb hg.lt).cell]
    rfl
  have hlk : (Instr.lookup 67 (.map (some m)) (.agg (rfC k)) true).run Try.prog (w.alloc (.cells (rfC k) 35)).drew = .ok (.tuple #[.pointer none, .bool false]) (w.alloc (.cells (rfC k) 35)).drew := by
    have := run_lookup_is Try.underlying67 ref_key zero_en (hm.below hb.drew hm.lt) k true
    rw [hk] at this
    exact this
  clear hg hm hk
  go_enter Try.func28, Try.ntmps28
  go_wp2_with fail
  generalize (w.alloc (.cells (rfC k) 35)) = w1 at *
  refine wp_region_partsS (fun W => W.cell? ⟨c, 3, none⟩ = some (.map (some m))) [([0], 1, true), ([], 2, true), ([], 3, true), ([], 4, false), ([], 5, false)] [6, 7, 8, 9, 10] [] (by kernel_rfl) (by kernel_rfl) c3 (partsI_yield ?_)
  simp only [List.cons_append, List.nil_append, List.append_nil, List.filterMap_cons, List.filterMap_nil, List.getElem?_toArray, List.getElem?_cons_zero, List.getElem?_cons_succ]
  go_wp2_with fail
  refine ⟨rfl, _, .pointer (some ⟨c, 3, none⟩), rfl, Or.inl ⟨by rfl, fun W hW => by go_simp⟩, partsI_yield ?_⟩
  simp only [Act.put, List.setIfInBounds_toArray, List.set_cons_zero, List.set_cons_succ]
  simp only [List.cons_append, List.nil_append, List.append_nil, List.filterMap_cons, List.filterMap_nil, List.getElem?_toArray, List.getElem?_cons_zero, List.getElem?_cons_succ]
  go_wp2_with fail
  refine ⟨rfl, _, .pointer (some ⟨c, 3, none⟩), rfl, Or.inl ⟨by rfl, fun W hW => by go_simp⟩, partsI_yield ?_⟩
  simp only [Act.put, List.setIfInBounds_toArray, List.set_cons_zero, List.set_cons_succ]
  simp only [List.cons_append, List.nil_append, List.append_nil, List.filterMap_cons, List.filterMap_nil, List.getElem?_toArray, List.getElem?_cons_zero, List.getElem?_cons_succ]
  go_wp2_with fail
  refine ⟨rfl, _, .map (some m), rfl, Or.inl ⟨by rfl, fun W hW => by go_simp⟩, partsI_force ?_⟩
  simp only [Act.put, List.setIfInBounds_toArray, List.set_cons_zero, List.set_cons_succ]
  simp only [List.cons_append, List.nil_append, List.append_nil, List.filterMap_cons, List.filterMap_nil, List.getElem?_toArray, List.getElem?_cons_zero, List.getElem?_cons_succ]
  refine wpList_load_rowg (by rfl) 35 _ (by rfl) w.heap.size (by rfl) 35 (rfC k) (0, 0) _ r0.drew Try.underlying35 (by rfl) (slSizeRef.trans (by rw [rfC_size])) ?_
  simp only [Act.put, List.setIfInBounds_toArray, List.set_cons_zero, List.set_cons_succ]
  go_wp2_with fail
  refine ⟨rfl, c3, partsI_force ?_⟩
  simp only [List.cons_append, List.nil_append, List.append_nil, List.filterMap_cons, List.filterMap_nil, List.getElem?_toArray, List.getElem?_cons_zero, List.getElem?_cons_succ]
  go_wp2_with fail
  refine ⟨rfl, c3, partsI_last ?_⟩
  simp only [List.cons_append, List.nil_append, List.append_nil, List.filterMap_cons, List.filterMap_nil, List.getElem?_toArray, List.getElem?_cons_zero, List.getElem?_cons_succ]
  go_wp2_with fail
  refine ⟨rfl, ?_⟩
  go_wp2_with fail
  try simp only [Exit.inBlock, Exit.then]
  first
    | refine bodyPost_end (results_none Try.results28 _ _ _) rfl ?_
    | refine bodyPost_ret (results_none Try.results28 _ _ _) rfl ?_
  exact ⟨rfl, hb.drew⟩
set_option maxRecDepth 100000 in
set_option maxHeartbeats 4000000 in
theorem trim_ok (x : Int) (l : List (Rf × Nat)) (hx : (l.length : Int) ≤ x) (w : World) (hg : Blk w c 75 (caC dp lp room m o n h r bd cn)) (hm : MapIs rfV ptV w m l) : Calls Try.prog 29 #[.pointer (some ⟨c, 3, none⟩), .int .i64 x] w fun e w' => e = .returned (.tuple #[]) ∧ w = w' := by
  have c3 : w.cell? ⟨c, 3, none⟩ = some (.map (some m)) := by
    rw [hg.cell]
    rfl
  have hlen : ∀ ty, (Builtin.len_ #[67] ty #[.map (some m)]).run Try.prog w = .ok (.int .i64 (l.length : Int)) w := map_len hm
  have hx1 : ¬ (x < (l.length : Int)) := by omega
  have d1 : decide (x < (l.length : Int)) = false := decide_eq_false hx1
  generalize (l.length : Int) = L at *
  clear hg hm
  go_enter Try.func29, Try.ntmps29
  go_wp2_with fail
  go_loopw [] (fun wx => wx = w) (fun _ => 0)
  case atStart => rfl
  case round =>
    obtain rfl := hrel
    go_wp2_with fail
    try simp only [Exit.inBlock, Exit.then]
    first
      | refine bodyPost_end (results_none Try.results29 _ _ _) rfl ?_
      | refine bodyPost_ret (results_none Try.results29 _ _ _) rfl ?_
    exact ⟨rfl, rfl⟩
end
end Go.Proofs.Ytdniigefmlmcdab
