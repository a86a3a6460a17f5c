/- A block's digest, and logged: the program's contracts of Sum and Logged. -/
import Derived.Test.YtaoglljkghkbpaaBlkTxt
import Derived.Test.YtaoglljkghkbpaaLogKeep
import Derived.Test.YtaoglljkghkbpaaLogNil
import Derived.Handy
namespace Go.Proofs.Ytaoglljkghkbpaa
open Go.RowKit
set_option linter.unusedSimpArgs false
set_option linter.unusedVariables false

theorem LogAt.setRow {w : World} {g r b t : Nat} {v : Value} {E : List (Nat × ByteArray)} {old : Array Value} (h : LogAt w g r v E) (hb : Blk w b t old) (h1 : 91 ≠ t) (h2 : 98 ≠ t) (cs : Array Value) : LogAt (w.setRow b cs) g r v E := by
  obtain ⟨hB, hown, es, cl, hg, he⟩ := h
  refine ⟨hB.other cs fun q => ?_, own_block hown fun k hk => setRow_other w b k cs fun q => ?_, es, cl, ?_, he⟩
  · subst q
    unfold Blk at hB hb
    rw [hB] at hb
    simp at hb
    exact h1 hb.2
  · subst q
    exact own_ne hown hb h2 hk
  · rw [setRow_other w b r cs (map_blk hg hb)]
    exact hg
theorem LogKeeps.laid {g r : Nat} {v : Value} {w w1 w2 : World} {b : Nat} (h1 : Below w.heap.size w w1) (h2 : LogKeeps g r v w1 w2) (hb : w.heap.size ≤ b) (cs : Array Value) : LogKeeps g r v w (w2.setRow b cs) := by
  have h3 : Below w.heap.size w2 (w2.setRow b cs) := below_setRow (Below.refl _ _) hb cs
  have hs1 := h1.size
  have hs2 := h2.2.2.2.1
  have hs3 := h3.size
  refine ⟨h3.os.trans (h2.1.trans h1.os), h3.tape.trans (h2.2.1.trans h1.tape), h3.output.trans (h2.2.2.1.trans h1.output), by omega, fun k hk a b c => ?_⟩
  rw [h3.block k hk, h2.2.2.2.2 k (by omega) a b c, h1.block k hk]

set_option maxRecDepth 100000 in
set_option maxHeartbeats 4000000 in
theorem blkSum_any (f : Nat → Nat) (w : World) :
    Calls Try.prog 32 #[bkV f] w fun e w' => e = .returned (.agg (va 32 (iv .u8 (sumOf (1, strN f 256))))) ∧ Below w.heap.size w w' := by
  have hT : Hid (∀ w : World, Calls Try.prog 12 #[.agg (va 256 (iv .u8 f))] w fun e w' => e = .returned (.string (strN f 256)) ∧ Below w.heap.size w w') := fun w => textOf_any f w
  have hO : Hid (∀ w : World, Calls Try.prog 33 #[.int .u8 1, .string (strN f 256)] w fun e w' => e = .returned (.agg (va 32 (iv .u8 (sumOf (1, strN f 256))))) ∧ Below w.heap.size w w') := fun w => of_any 1 (by decide) (strN f 256) (by rw [strN_size]; decide) w
  generalize hX : sumOf (1, strN f 256) = X at *
  generalize strN f 256 = T at *
  clear hX
  unfold bkV
  have b0 : Blk ((w.alloc (Obj.cells (va 256 (iv IntKind.u8 f)) 23)).alloc (Obj.cells #[.int .u8 0, .int .u8 0, .int .u8 0, .int .u8 0, .int .u8 0, .int .u8 0, .int .u8 0, .int .u8 0, .int .u8 0, .int .u8 0, .int .u8 0, .int .u8 0, .int .u8 0, .int .u8 0, .int .u8 0, .int .u8 0, .int .u8 0, .int .u8 0, .int .u8 0, .int .u8 0, .int .u8 0, .int .u8 0, .int .u8 0, .int .u8 0, .int .u8 0, .int .u8 0, .int .u8 0, .int .u8 0, .int .u8 0, .int .u8 0, .int .u8 0, .int .u8 0] 69)) w.heap.size 23 (va 256 (iv .u8 f)) := (Blk.new _ _ _).alloc _
  have b1 : Blk ((w.alloc (Obj.cells (va 256 (iv IntKind.u8 f)) 23)).alloc (Obj.cells #[.int .u8 0, .int .u8 0, .int .u8 0, .int .u8 0, .int .u8 0, .int .u8 0, .int .u8 0, .int .u8 0, .int .u8 0, .int .u8 0, .int .u8 0, .int .u8 0, .int .u8 0, .int .u8 0, .int .u8 0, .int .u8 0, .int .u8 0, .int .u8 0, .int .u8 0, .int .u8 0, .int .u8 0, .int .u8 0, .int .u8 0, .int .u8 0, .int .u8 0, .int .u8 0, .int .u8 0, .int .u8 0, .int .u8 0, .int .u8 0, .int .u8 0, .int .u8 0] 69)) (w.heap.size + 1) 69 (va 32 (iv .u8 fun _ => 0)) := Blk.new1 _ _ _ _
  have hb := below_new2 w (Obj.cells (va 256 (iv IntKind.u8 f)) 23) (Obj.cells #[.int .u8 0, .int .u8 0, .int .u8 0, .int .u8 0, .int .u8 0, .int .u8 0, .int .u8 0, .int .u8 0, .int .u8 0, .int .u8 0, .int .u8 0, .int .u8 0, .int .u8 0, .int .u8 0, .int .u8 0, .int .u8 0, .int .u8 0, .int .u8 0, .int .u8 0, .int .u8 0, .int .u8 0, .int .u8 0, .int .u8 0, .int .u8 0, .int .u8 0, .int .u8 0, .int .u8 0, .int .u8 0, .int .u8 0, .int .u8 0, .int .u8 0, .int .u8 0] 69)
  go_enter Try.func32, Try.ntmps32
  go_wp2_with (first
    | (refine wpList_load_row (by rfl) 23 _ (by rfl) (w.heap.size) (by rfl) 23 (va 256 (iv .u8 f)) (0, 0) _ b0 Try.underlying23 (by rfl) (sizeBk.trans (by rw [va_size])) ?_; simp only [Act.put, List.setIfInBounds_toArray, List.set_cons_zero, List.set_cons_succ])
    | fail)
  generalize (w.alloc (Obj.cells (va 256 (iv IntKind.u8 f)) 23)).alloc (Obj.cells #[.int .u8 0, .int .u8 0, .int .u8 0, .int .u8 0, .int .u8 0, .int .u8 0, .int .u8 0, .int .u8 0, .int .u8 0, .int .u8 0, .int .u8 0, .int .u8 0, .int .u8 0, .int .u8 0, .int .u8 0, .int .u8 0, .int .u8 0, .int .u8 0, .int .u8 0, .int .u8 0, .int .u8 0, .int .u8 0, .int .u8 0, .int .u8 0, .int .u8 0, .int .u8 0, .int .u8 0, .int .u8 0, .int .u8 0, .int .u8 0, .int .u8 0, .int .u8 0] 69) = W at *
  refine (hT.out _).mono ?_
  rintro e w1 ⟨rfl, hh⟩
  have c1 := b1.below hh b1.lt
  have hb1 : Below w.heap.size w w1 := hb.trans (hh.mono hb.size)
  clear b0 b1 hb hh hT
  go_wp2_with fail
  refine (hO.out _).mono ?_
  rintro e w2 ⟨rfl, hh⟩
  have c2 := c1.below hh c1.lt
  have hb2 : Below w.heap.size w w2 := hb1.trans (hh.mono hb1.size)
  clear c1 hb1 hh hO
  go_wp2_with (first
    | (refine wpList_store_row (by rfl) 69 _ _ (by rfl) (w.heap.size + 1) (va 32 (iv .u8 X)) (by rfl) (by rfl) 69 _ c2 (sizeSum.trans (by rw [va_size])) (by simp only [va_size]) (iv_one _ _ _) ?_; simp only [Act.put, List.setIfInBounds_toArray, List.set_cons_zero, List.set_cons_succ])
    | fail)
  try simp only [Exit.inBlock, Exit.then]
  refine bodyPost_ret (results_cell_row Try.results32 _ _ (w.heap.size + 1) 69 (va 32 (iv .u8 X)) (0, 0) _ rfl (c2.set _) Try.underlying69 rfl (sizeSum.trans (by rw [va_size]))) rfl ?_
  exact ⟨rfl, below_setRow hb2 (Nat.le_succ _) _⟩

set_option maxRecDepth 100000 in
set_option maxHeartbeats 4000000 in
theorem logged_below (f : Nat → Nat) (w : World) (p : Value) (hO0 : ∀ w' : World, Below w.heap.size w w' → Calls Try.prog 43 #[p, .int .u8 1, .string (strN f 256)] w' fun e w'' => e = .returned (.agg (va 32 (iv .u8 (sumOf (1, strN f 256))))) ∧ Below w'.heap.size w' w'') :
    Calls Try.prog 31 #[p, bkV f] w fun e w' => e = .returned (.agg (va 32 (iv .u8 (sumOf (1, strN f 256))))) ∧ Below w.heap.size w w' := by
  have hT : Hid (∀ w : World, Calls Try.prog 12 #[.agg (va 256 (iv .u8 f))] w fun e w' => e = .returned (.string (strN f 256)) ∧ Below w.heap.size w w') := fun w => textOf_any f w
  have hO : Hid (∀ w' : World, Below w.heap.size w w' → Calls Try.prog 43 #[p, .int .u8 1, .string (strN f 256)] w' fun e w'' => e = .returned (.agg (va 32 (iv .u8 (sumOf (1, strN f 256))))) ∧ Below w'.heap.size w' w'') := hO0
  clear hO0
  generalize hX : sumOf (1, strN f 256) = X at *
  generalize strN f 256 = T at *
  clear hX
  unfold bkV
  have b0 : Blk ((w.alloc (Obj.cells (va 256 (iv IntKind.u8 f)) 23)).alloc (Obj.cells #[.int .u8 0, .int .u8 0, .int .u8 0, .int .u8 0, .int .u8 0, .int .u8 0, .int .u8 0, .int .u8 0, .int .u8 0, .int .u8 0, .int .u8 0, .int .u8 0, .int .u8 0, .int .u8 0, .int .u8 0, .int .u8 0, .int .u8 0, .int .u8 0, .int .u8 0, .int .u8 0, .int .u8 0, .int .u8 0, .int .u8 0, .int .u8 0, .int .u8 0, .int .u8 0, .int .u8 0, .int .u8 0, .int .u8 0, .int .u8 0, .int .u8 0, .int .u8 0] 69)) w.heap.size 23 (va 256 (iv .u8 f)) := (Blk.new _ _ _).alloc _
  have b1 : Blk ((w.alloc (Obj.cells (va 256 (iv IntKind.u8 f)) 23)).alloc (Obj.cells #[.int .u8 0, .int .u8 0, .int .u8 0, .int .u8 0, .int .u8 0, .int .u8 0, .int .u8 0, .int .u8 0, .int .u8 0, .int .u8 0, .int .u8 0, .int .u8 0, .int .u8 0, .int .u8 0, .int .u8 0, .int .u8 0, .int .u8 0, .int .u8 0, .int .u8 0, .int .u8 0, .int .u8 0, .int .u8 0, .int .u8 0, .int .u8 0, .int .u8 0, .int .u8 0, .int .u8 0, .int .u8 0, .int .u8 0, .int .u8 0, .int .u8 0, .int .u8 0] 69)) (w.heap.size + 1) 69 (va 32 (iv .u8 fun _ => 0)) := Blk.new1 _ _ _ _
  have hb := below_new2 w (Obj.cells (va 256 (iv IntKind.u8 f)) 23) (Obj.cells #[.int .u8 0, .int .u8 0, .int .u8 0, .int .u8 0, .int .u8 0, .int .u8 0, .int .u8 0, .int .u8 0, .int .u8 0, .int .u8 0, .int .u8 0, .int .u8 0, .int .u8 0, .int .u8 0, .int .u8 0, .int .u8 0, .int .u8 0, .int .u8 0, .int .u8 0, .int .u8 0, .int .u8 0, .int .u8 0, .int .u8 0, .int .u8 0, .int .u8 0, .int .u8 0, .int .u8 0, .int .u8 0, .int .u8 0, .int .u8 0, .int .u8 0, .int .u8 0] 69)
  go_enter Try.func31, Try.ntmps31
  go_wp2_with (first
    | (refine wpList_load_row (by rfl) 23 _ (by rfl) (w.heap.size) (by rfl) 23 (va 256 (iv .u8 f)) (0, 0) _ b0 Try.underlying23 (by rfl) (sizeBk.trans (by rw [va_size])) ?_; simp only [Act.put, List.setIfInBounds_toArray, List.set_cons_zero, List.set_cons_succ])
    | fail)
  generalize (w.alloc (Obj.cells (va 256 (iv IntKind.u8 f)) 23)).alloc (Obj.cells #[.int .u8 0, .int .u8 0, .int .u8 0, .int .u8 0, .int .u8 0, .int .u8 0, .int .u8 0, .int .u8 0, .int .u8 0, .int .u8 0, .int .u8 0, .int .u8 0, .int .u8 0, .int .u8 0, .int .u8 0, .int .u8 0, .int .u8 0, .int .u8 0, .int .u8 0, .int .u8 0, .int .u8 0, .int .u8 0, .int .u8 0, .int .u8 0, .int .u8 0, .int .u8 0, .int .u8 0, .int .u8 0, .int .u8 0, .int .u8 0, .int .u8 0, .int .u8 0] 69) = W at *
  refine (hT.out _).mono ?_
  rintro e w1 ⟨rfl, hh⟩
  have c1 := b1.below hh b1.lt
  have hb1 : Below w.heap.size w w1 := hb.trans (hh.mono hb.size)
  clear b0 b1 hb hh hT
  go_wp2_with fail
  refine (hO.out _ hb1).mono ?_
  rintro e w2 ⟨rfl, hh⟩
  have c2 := c1.below hh c1.lt
  have hb2 : Below w.heap.size w w2 := hb1.trans (hh.mono hb1.size)
  clear c1 hb1 hh hO
  go_wp2_with (first
    | (refine wpList_store_row (by rfl) 69 _ _ (by rfl) (w.heap.size + 1) (va 32 (iv .u8 X)) (by rfl) (by rfl) 69 _ c2 (sizeSum.trans (by rw [va_size])) (by simp only [va_size]) (iv_one _ _ _) ?_; simp only [Act.put, List.setIfInBounds_toArray, List.set_cons_zero, List.set_cons_succ])
    | fail)
  try simp only [Exit.inBlock, Exit.then]
  refine bodyPost_ret (results_cell_row Try.results31 _ _ (w.heap.size + 1) 69 (va 32 (iv .u8 X)) (0, 0) _ rfl (c2.set _) Try.underlying69 rfl (sizeSum.trans (by rw [va_size]))) rfl ?_
  exact ⟨rfl, below_setRow hb2 (Nat.le_succ _) _⟩

set_option maxRecDepth 100000 in
set_option maxHeartbeats 4000000 in
theorem logged_keep (f : Nat → Nat) (w : World) (g r : Nat) (v : Value) (E : List (Nat × ByteArray)) (hE : E.length ≤ 4000000000000) (h : LogAt w g r v E) :
    Calls Try.prog 31 #[.pointer (some ⟨g, 0, none⟩), bkV f] w fun e w' => e = .returned (.agg (va 32 (iv .u8 (sumOf (1, strN f 256))))) ∧ ∃ v', LogAt w' g r v' (putE E (1, strN f 256)) ∧ LogKeeps g r v w w' ∧ (v'.ownBlock = v.ownBlock ∨ ∃ k, v'.ownBlock = some k ∧ w.heap.size ≤ k) := by
  have hT : Hid (∀ w : World, Calls Try.prog 12 #[.agg (va 256 (iv .u8 f))] w fun e w' => e = .returned (.string (strN f 256)) ∧ Below w.heap.size w w') := fun w => textOf_any f w
  have hO : Hid (∀ w' : World, LogAt w' g r v E → Calls Try.prog 43 #[.pointer (some ⟨g, 0, none⟩), .int .u8 1, .string (strN f 256)] w' fun e w'' => e = .returned (.agg (va 32 (iv .u8 (sumOf (1, strN f 256))))) ∧ ∃ v', LogAt w'' g r v' (putE E (1, strN f 256)) ∧ LogKeeps g r v w' w'' ∧ (v'.ownBlock = v.ownBlock ∨ ∃ k, v'.ownBlock = some k ∧ w'.heap.size ≤ k)) := fun w' h' => logOf_any 1 (by decide) (strN f 256) (by rw [strN_size]; decide) g r v E hE w' h'
  have HLOG : Hid (LogAt w g r v E) := h
  clear h hE
  generalize hX : sumOf (1, strN f 256) = X at *
  generalize strN f 256 = T at *
  clear hX
  unfold bkV
  have b0 : Blk ((w.alloc (Obj.cells (va 256 (iv IntKind.u8 f)) 23)).alloc (Obj.cells #[.int .u8 0, .int .u8 0, .int .u8 0, .int .u8 0, .int .u8 0, .int .u8 0, .int .u8 0, .int .u8 0, .int .u8 0, .int .u8 0, .int .u8 0, .int .u8 0, .int .u8 0, .int .u8 0, .int .u8 0, .int .u8 0, .int .u8 0, .int .u8 0, .int .u8 0, .int .u8 0, .int .u8 0, .int .u8 0, .int .u8 0, .int .u8 0, .int .u8 0, .int .u8 0, .int .u8 0, .int .u8 0, .int .u8 0, .int .u8 0, .int .u8 0, .int .u8 0] 69)) w.heap.size 23 (va 256 (iv .u8 f)) := (Blk.new _ _ _).alloc _
  have b1 : Blk ((w.alloc (Obj.cells (va 256 (iv IntKind.u8 f)) 23)).alloc (Obj.cells #[.int .u8 0, .int .u8 0, .int .u8 0, .int .u8 0, .int .u8 0, .int .u8 0, .int .u8 0, .int .u8 0, .int .u8 0, .int .u8 0, .int .u8 0, .int .u8 0, .int .u8 0, .int .u8 0, .int .u8 0, .int .u8 0, .int .u8 0, .int .u8 0, .int .u8 0, .int .u8 0, .int .u8 0, .int .u8 0, .int .u8 0, .int .u8 0, .int .u8 0, .int .u8 0, .int .u8 0, .int .u8 0, .int .u8 0, .int .u8 0, .int .u8 0, .int .u8 0] 69)) (w.heap.size + 1) 69 (va 32 (iv .u8 fun _ => 0)) := Blk.new1 _ _ _ _
  have hb := below_new2 w (Obj.cells (va 256 (iv IntKind.u8 f)) 23) (Obj.cells #[.int .u8 0, .int .u8 0, .int .u8 0, .int .u8 0, .int .u8 0, .int .u8 0, .int .u8 0, .int .u8 0, .int .u8 0, .int .u8 0, .int .u8 0, .int .u8 0, .int .u8 0, .int .u8 0, .int .u8 0, .int .u8 0, .int .u8 0, .int .u8 0, .int .u8 0, .int .u8 0, .int .u8 0, .int .u8 0, .int .u8 0, .int .u8 0, .int .u8 0, .int .u8 0, .int .u8 0, .int .u8 0, .int .u8 0, .int .u8 0, .int .u8 0, .int .u8 0] 69)
  go_enter Try.func31, Try.ntmps31
  go_wp2_with (first
    | (refine wpList_load_row (by rfl) 23 _ (by rfl) (w.heap.size) (by rfl) 23 (va 256 (iv .u8 f)) (0, 0) _ b0 Try.underlying23 (by rfl) (sizeBk.trans (by rw [va_size])) ?_; simp only [Act.put, List.setIfInBounds_toArray, List.set_cons_zero, List.set_cons_succ])
    | fail)
  generalize (w.alloc (Obj.cells (va 256 (iv IntKind.u8 f)) 23)).alloc (Obj.cells #[.int .u8 0, .int .u8 0, .int .u8 0, .int .u8 0, .int .u8 0, .int .u8 0, .int .u8 0, .int .u8 0, .int .u8 0, .int .u8 0, .int .u8 0, .int .u8 0, .int .u8 0, .int .u8 0, .int .u8 0, .int .u8 0, .int .u8 0, .int .u8 0, .int .u8 0, .int .u8 0, .int .u8 0, .int .u8 0, .int .u8 0, .int .u8 0, .int .u8 0, .int .u8 0, .int .u8 0, .int .u8 0, .int .u8 0, .int .u8 0, .int .u8 0, .int .u8 0] 69) = W at *
  refine (hT.out _).mono ?_
  rintro e w1 ⟨rfl, hh⟩
  have c1 := b1.below hh b1.lt
  have hb1 : Below w.heap.size w w1 := hb.trans (hh.mono hb.size)
  clear b0 b1 hb hh hT
  go_wp2_with fail
  have hl1 := HLOG.out.below hb1
  refine (hO.out _ hl1).mono ?_
  rintro e w2 ⟨rfl, v', hl2, hk, hv⟩
  have c2 := hk.blk hl1 c1 (by decide) (by decide)
  have hs1 := hb1.size
  clear c1 hO
  go_wp2_with (first
    | (refine wpList_store_row (by rfl) 69 _ _ (by rfl) (w.heap.size + 1) (va 32 (iv .u8 X)) (by rfl) (by rfl) 69 _ c2 (sizeSum.trans (by rw [va_size])) (by simp only [va_size]) (iv_one _ _ _) ?_; simp only [Act.put, List.setIfInBounds_toArray, List.set_cons_zero, List.set_cons_succ])
    | fail)
  try simp only [Exit.inBlock, Exit.then]
  refine bodyPost_ret (results_cell_row Try.results31 _ _ (w.heap.size + 1) 69 (va 32 (iv .u8 X)) (0, 0) _ rfl (c2.set _) Try.underlying69 rfl (sizeSum.trans (by rw [va_size]))) rfl ?_
  refine ⟨rfl, v', hl2.setRow c2 (by decide) (by decide) _, LogKeeps.laid hb1 hk (Nat.le_succ _) _, ?_⟩
  rcases hv with q | ⟨k, q, hk'⟩
  · exact .inl q
  · exact .inr ⟨k, q, by omega⟩
end Go.Proofs.Ytaoglljkghkbpaa
