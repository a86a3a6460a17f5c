/- The document's block of a reference in an image: what is on the disk, too. -/
import Derived.Test.YtiofonffmplfmaaGreatHTrGS
import Derived.Test.YtiofonffmplfmaaGreatHNdTake
import Derived.Test.YtiofonffmplfmaaGreatHEqState
import Derived.BigQuiet
import Derived.Deep.QuietTactic
import Derived.Handy

namespace Go.Proofs.YtiofonffmplfmaaGreat
theorem sgLHTrRGet : (∀ (α : Type) (a : α) (l r : List α), (a :: l) ++ r = a :: (l ++ r)) ∧ (∀ (α : Type) (l : List α), [] ++ l = l) ∧ (∀ (α : Type) (l : List α), l ++ [] = l) ∧ (∀ (α β : Type) (f : α → Option β) (a : α) (l : List α), (a :: l).filterMap f = match f a with | none => l.filterMap f | some b => b :: l.filterMap f) ∧ (∀ (α β : Type) (f : α → Option β), [].filterMap f = []) ∧ (∀ (α : Type) (l : List α) (i : Nat), l.toArray[i]? = l[i]?) ∧ (∀ (α : Type) (a : α) (l : List α), (a :: l)[0]? = some a) ∧ (∀ (α : Type) (a : α) (l : List α) (i : Nat), (a :: l)[i + 1]? = l[i]?) :=
  ⟨fun _ _ _ _ => List.cons_append, fun _ _ => List.nil_append _, fun _ _ => List.append_nil _, fun _ _ _ _ _ => List.filterMap_cons, fun _ _ _ => List.filterMap_nil, fun _ _ _ => List.getElem?_toArray, fun _ _ _ => List.getElem?_cons_zero, fun _ _ _ _ => List.getElem?_cons_succ⟩
theorem sgPHTrRGet : (∀ (α : Type) (l : List α) (i : Nat) (a : α), l.toArray.setIfInBounds i a = (l.set i a).toArray) ∧ (∀ (α : Type) (a b : α) (l : List α), (a :: l).set 0 b = b :: l) ∧ (∀ (α : Type) (a b : α) (l : List α) (i : Nat), (a :: l).set (i + 1) b = a :: l.set i b) :=
  ⟨fun _ _ _ _ => List.setIfInBounds_toArray _ _ _, fun _ _ _ _ => List.set_cons_zero, fun _ _ _ _ _ => List.set_cons_succ⟩
end Go.Proofs.YtiofonffmplfmaaGreat
namespace Go.Proofs.YtiofonffmplfmaaGreat
open Go Go.RowKit
set_option linter.unusedSimpArgs false
set_option linter.unusedVariables false

theorem rsizeBk : (Tryz.prog.info? 49).map (·.size) = some 256 := by kernel_rfl
theorem rsizeSum : (Tryz.prog.info? 29).map (·.size) = some 32 := by kernel_rfl
theorem rsizeRef : (Tryz.prog.info? 31).map (·.size) = some 33 := by kernel_rfl
theorem rzero_bk (w : World) : (zeroValue 49).run Tryz.prog w = .ok (.agg (va 256 (iv .u8 fun _ => 0))) w := zero_of (by kernel_rfl) w
theorem rzero_sum (w : World) : (zeroValue 29).run Tryz.prog w = .ok (.agg (va 32 (iv .u8 fun _ => 0))) w := zero_of (by kernel_rfl) w
theorem dgB_ref (f : Nat → Nat) : va 32 (iv .u8 (ofN 1 (byteAt (strN f 256)) (strN f 256).size)) = va 32 (iv .u8 (dF (dgB f))) := dgB_cells f
set_option maxRecDepth 100000 in
set_option maxHeartbeats 4000000 in
theorem rsum_any (f : Nat → Nat) (w : World) : Calls Tryz.prog 57 #[.agg (va 256 (iv .u8 f))] w fun x w' => x = .returned (.agg (va 32 (iv .u8 (dF (dgB f))))) ∧ Below w.heap.size w w' := by
  have hz := rzero_sum
  have hOf : Hid (∀ w, Calls Tryz.prog 78 #[.int .u8 1, .string (strN f 256)] w fun e w' => e = .returned (.agg (va 32 (iv .u8 (dF (dgB f))))) ∧ Below w.heap.size w w') := fun w => by
    have := refOf_any 1 (by decide) (strN f 256) (by rw [strN_size]; decide) w
    rw [dgB_ref] at this
    exact this
  have b1 : Blk ((w.alloc (.cells (va 256 (iv .u8 f)) 49)).alloc (.cells (va 32 (iv .u8 fun _ => 0)) 29)) w.heap.size 49 (va 256 (iv .u8 f)) := (Blk.new _ _ _).alloc _
  have r1 : Blk ((w.alloc (.cells (va 256 (iv .u8 f)) 49)).alloc (.cells (va 32 (iv .u8 fun _ => 0)) 29)) (w.heap.size + 1) 29 (va 32 (iv .u8 fun _ => 0)) := Blk.new1 _ _ _ _
  have hb1 : Below w.heap.size w ((w.alloc (.cells (va 256 (iv .u8 f)) 49)).alloc (.cells (va 32 (iv .u8 fun _ => 0)) 29)) := below_new2 _ _ _
  have hc := run_bytes_text (P := Tryz.prog) ((w.alloc (.cells (va 256 (iv .u8 f)) 49)).alloc (.cells (va 32 (iv .u8 fun _ => 0)) 29)) 165 5 9 Tryz.underlying165 Tryz.underlying5 Tryz.underlying9 b1 0 256 256 (by omega)
  have hx : strN (fun j => f (0 + j)) 256 = strN f 256 := strN_congr fun j _ => by rw [Nat.zero_add]
  rw [hx] at hc
  generalize dgB f = dg at *
  generalize strN f 256 = sv at *
  go_enter Tryz.func57, Tryz.ntmps57
  go_wp2_with fail
  generalize ((w.alloc (.cells (va 256 (iv .u8 f)) 49)).alloc (.cells (va 32 (iv .u8 fun _ => 0)) 29)) = w1 at *
  refine (hOf.out w1).mono ?_
  rintro x w2 ⟨rfl, hb2⟩
  have r2 := r1.below hb2 r1.lt
  have hb12 := hb1.trans (hb2.mono hb1.size)
  clear hc b1 r1 hb1 hb2
  go_wp2_with (first
    | (refine wpList_store_row (by rfl) 29 _ _ (by rfl) (w.heap.size + 1) (va 32 (iv .u8 (dF dg))) (by rfl) (by rfl) 29 (_) (by exact r2) (rsizeSum.trans (by rw [va_size])) (by simp only [va_size]) (iv_one _ _ _) ?_; simp only [Act.put, sgPHTrRGet])
    | fail)
  try simp only [Exit.inBlock, Exit.then]
  refine bodyPost_ret (results_cell_row Tryz.results57 _ _ (w.heap.size + 1) 29 (va 32 (iv .u8 (dF dg))) (0, 0) _ rfl (r2.set _) Tryz.underlying29 rfl (rsizeSum.trans (by rw [va_size]))) rfl ?_
  exact ⟨rfl, below_setRow hb12 (by omega) _⟩
theorem yields_neq {P : Program} {ops : Array Oper} {S : World → Prop} {op : Oper} {a : Act} (hw : Region.wanted op (yielded ops a.tmps) = true) (t t2 : TypeId) (x y : Operand) (ho : op.op = .binOp .neq t x y t2) (vx vy : Array Value) (b : Bool)
    (hx : a.eval x = .agg vx) (hy : a.eval y = .agg vy) (hG : P.eqGuardType P.depth t = false) (he : ∀ W : World, (Op.equalIn 10000 t (.agg vx) (.agg vy)).run P W = .ok b W) : YieldsIf P ops S op (.bool (!b)) a :=
  .inl ⟨hw, fun w _ => by
    unfold execOp
    simp only [ho, hx, hy]
    have hg : (eqGuard BinOp.neq t x y (.agg vx) (.agg vy)).run P w = .ok () w := by
      simp [eqGuard, hG]
    have hb : (binOp BinOp.neq t (.agg vx) (.agg vy)).run P w = .ok (.bool (!b)) w := by
      unfold binOp
      simp [Op.equal, Op.maxDepth, he]
    simp [hg, hb]⟩
theorem rref_range {w : World} {b t : Nat} {k : Rf} (h : Blk w b t (rfC k)) : w.rangeAt b 1 ((List.range 32).map (iv .u8 (dF k.2))) := by
  have := Blk.range (n := 33) (f := rfF k.1 k.2) h 1 32 (by decide)
  rw [show ((List.range 32).map fun j => rfF k.1 k.2 (1 + j)) = (List.range 32).map (iv .u8 (dF k.2)) from List.map_congr_left fun j hj => ?_] at this
  · exact this
  · unfold rfF iv
    rw [if_neg (by omega), show 1 + j - 1 = j by omega]
/-- a block of an image in the memory -/
def RngB (W : World) (b o : Nat) (f : Nat → Nat) : Prop := W.rangeAt b o ((List.range 256).map (iv .u8 f))
theorem RngB.below {w w' : World} {B b o : Nat} {f : Nat → Nat} (h : RngB w b o f) (hb : Below B w w') (hB : b < B) : RngB w' b o f := range_below h hb hB
section
variable {F : Nat → Nat} {N : Nat}
set_option maxRecDepth 100000 in
set_option maxHeartbeats 4000000 in
theorem rget_none (k : Rf) (hk0 : k = rf0) (a : Option Addr) (n cap : Nat) (w : World) : Calls Tryz.prog 36 #[.slice a n cap, .agg (rfC k)] w fun x w' => x = .returned (.tuple #[.agg (va 256 (iv .u8 (fun _ => 0))), .int .i64 0]) ∧ Below w.heap.size w w' := by
  have hz := rzero_bk
  have hN : Hid (∀ w, Calls Tryz.prog 35 #[.agg (rfC k)] w fun e w' => e = .returned (.bool true) ∧ Below w.heap.size w w') := fun w => by
    have := rnone_any k w
    rw [decide_eq_true hk0] at this
    exact this
  have hb1 : Below w.heap.size w ((w.alloc (.cells (rfC k) 31)).alloc (.cells (va 256 (iv .u8 fun _ => 0)) 49)) := below_new2 _ _ _
  have r1 : Blk ((w.alloc (.cells (rfC k) 31)).alloc (.cells (va 256 (iv .u8 fun _ => 0)) 49)) w.heap.size 31 (rfC k) := (Blk.new _ _ _).alloc _
  have k1 : Blk ((w.alloc (.cells (rfC k) 31)).alloc (.cells (va 256 (iv .u8 fun _ => 0)) 49)) (w.heap.size + 1) 49 (va 256 (iv .u8 fun _ => 0)) := Blk.new1 _ _ _ _
  clear hk0
  go_enter Tryz.func36, Tryz.ntmps36
  go_wp2_with (first
    | (refine wpList_load_rowg (by rfl) 31 _ (by rfl) (w.heap.size) (by rfl) 31 (rfC k) (0, 0) _ (by exact r1) Tryz.underlying31 (by rfl) (rsizeRef.trans (by rw [rfC_size])) ?_; simp only [Act.put, sgPHTrRGet])
    | fail)
  generalize ((w.alloc (.cells (rfC k) 31)).alloc (.cells (va 256 (iv .u8 fun _ => 0)) 49)) = w1 at *
  refine (hN.out w1).mono ?_
  rintro x w2 ⟨rfl, hb2⟩
  have r2 := r1.below hb2 r1.lt
  have k2 := k1.below hb2 k1.lt
  have hb12 := hb1.trans (hb2.mono hb1.size)
  have z2 : w2.cell? ⟨w.heap.size, 0, none⟩ = some (.int .u32 (k.1 : Int)) := (r2.cell 0).trans (va_at (rfF k.1 k.2) (by decide))
  clear hb2 hb1 k1 r1
  go_wp2_with (first
    | (refine wpList_store_row (by rfl) 49 _ _ (by rfl) (w.heap.size + 1) (va 256 (iv .u8 (fun _ => 0))) (by rfl) (by rfl) 49 (_) (by exact k2) (rsizeBk.trans (by rw [va_size])) (by simp only [va_size]) (iv_one _ _ _) ?_; simp only [Act.put, sgPHTrRGet])
    | fail)
  try simp only [Exit.inBlock, Exit.then]
  refine bodyPost_ret (results_row2 Tryz.results36 _ _ (w.heap.size + 1) 49 (va 256 (iv .u8 (fun _ => 0))) (0, 0) _ rfl (k2.set _) Tryz.underlying49 rfl (rsizeBk.trans (by rw [va_size]))) rfl ?_
  exact ⟨rfl, below_setRow hb12 (by omega) _⟩
set_option maxRecDepth 100000 in
set_option maxHeartbeats 4000000 in
theorem rget_zero (k : Rf) (hk0 : k ≠ rf0) (hk1 : k.1 = 0) (a : Option Addr) (n cap : Nat) (hn : n ≤ 8192) (w : World) : Calls Tryz.prog 36 #[.slice a n cap, .agg (rfC k)] w fun x w' => x = .returned (.tuple #[.agg (va 256 (iv .u8 (fun _ => 0))), .int .i64 2]) ∧ Below w.heap.size w w' := by
  have hz := rzero_bk
  have hN : Hid (∀ w, Calls Tryz.prog 35 #[.agg (rfC k)] w fun e w' => e = .returned (.bool false) ∧ Below w.heap.size w w') := fun w => by
    have := rnone_any k w
    rw [decide_eq_false hk0] at this
    exact this
  have hb1 : Below w.heap.size w ((w.alloc (.cells (rfC k) 31)).alloc (.cells (va 256 (iv .u8 fun _ => 0)) 49)) := below_new2 _ _ _
  have r1 : Blk ((w.alloc (.cells (rfC k) 31)).alloc (.cells (va 256 (iv .u8 fun _ => 0)) 49)) w.heap.size 31 (rfC k) := (Blk.new _ _ _).alloc _
  have k1 : Blk ((w.alloc (.cells (rfC k) 31)).alloc (.cells (va 256 (iv .u8 fun _ => 0)) 49)) (w.heap.size + 1) 49 (va 256 (iv .u8 fun _ => 0)) := Blk.new1 _ _ _ _
  clear hk0
  go_enter Tryz.func36, Tryz.ntmps36
  go_wp2_with (first
    | (refine wpList_load_rowg (by rfl) 31 _ (by rfl) (w.heap.size) (by rfl) 31 (rfC k) (0, 0) _ (by exact r1) Tryz.underlying31 (by rfl) (rsizeRef.trans (by rw [rfC_size])) ?_; simp only [Act.put, sgPHTrRGet])
    | fail)
  generalize ((w.alloc (.cells (rfC k) 31)).alloc (.cells (va 256 (iv .u8 fun _ => 0)) 49)) = w1 at *
  refine (hN.out w1).mono ?_
  rintro x w2 ⟨rfl, hb2⟩
  have r2 := r1.below hb2 r1.lt
  have k2 := k1.below hb2 k1.lt
  have hb12 := hb1.trans (hb2.mono hb1.size)
  have z2 : w2.cell? ⟨w.heap.size, 0, none⟩ = some (.int .u32 (k.1 : Int)) := (r2.cell 0).trans (va_at (rfF k.1 k.2) (by decide))
  rw [hk1] at z2
  clear hb2 hb1 k1 r1
  go_wp2_with fail
  go_quiet (fail)
  have k2 : Blk (w2.drewN nq) (w.heap.size + 1) 49 (va 256 (iv .u8 fun _ => 0)) := k2
  have hb12 : Below w.heap.size w (w2.drewN nq) := ⟨hb12.1, hb12.2, hb12.3, hb12.4, hb12.5⟩
  clear z2 r2
  generalize w2.drewN nq = w2 at *
  go_wp2_with (first
    | (refine wpList_store_row (by rfl) 49 _ _ (by rfl) (w.heap.size + 1) (va 256 (iv .u8 (fun _ => 0))) (by rfl) (by rfl) 49 (_) (by exact k2) (rsizeBk.trans (by rw [va_size])) (by simp only [va_size]) (iv_one _ _ _) ?_; simp only [Act.put, sgPHTrRGet])
    | fail)
  try simp only [Exit.inBlock, Exit.then]
  refine bodyPost_ret (results_row2 Tryz.results36 _ _ (w.heap.size + 1) 49 (va 256 (iv .u8 (fun _ => 0))) (0, 0) _ rfl (k2.set _) Tryz.underlying49 rfl (rsizeBk.trans (by rw [va_size]))) rfl ?_
  exact ⟨rfl, below_setRow hb12 (by omega) _⟩
set_option maxRecDepth 100000 in
set_option maxHeartbeats 4000000 in
theorem rget_big (k : Rf) (hk0 : k ≠ rf0) (hk2 : k.1 < 4294967296) (a0 : Nat) (ha0 : k.1 = a0) (h00 : a0 ≠ 0) (a : Option Addr) (n cap : Nat) (hnk : n ≤ a0) (hn : n ≤ 8192) (w : World) : Calls Tryz.prog 36 #[.slice a n cap, .agg (rfC k)] w fun x w' => x = .returned (.tuple #[.agg (va 256 (iv .u8 (fun _ => 0))), .int .i64 2]) ∧ Below w.heap.size w w' := by
  have hz := rzero_bk
  have hN : Hid (∀ w, Calls Tryz.prog 35 #[.agg (rfC k)] w fun e w' => e = .returned (.bool false) ∧ Below w.heap.size w w') := fun w => by
    have := rnone_any k w
    rw [decide_eq_false hk0] at this
    exact this
  have hb1 : Below w.heap.size w ((w.alloc (.cells (rfC k) 31)).alloc (.cells (va 256 (iv .u8 fun _ => 0)) 49)) := below_new2 _ _ _
  have r1 : Blk ((w.alloc (.cells (rfC k) 31)).alloc (.cells (va 256 (iv .u8 fun _ => 0)) 49)) w.heap.size 31 (rfC k) := (Blk.new _ _ _).alloc _
  have k1 : Blk ((w.alloc (.cells (rfC k) 31)).alloc (.cells (va 256 (iv .u8 fun _ => 0)) 49)) (w.heap.size + 1) 49 (va 256 (iv .u8 fun _ => 0)) := Blk.new1 _ _ _ _
  clear hk0
  go_enter Tryz.func36, Tryz.ntmps36
  go_wp2_with (first
    | (refine wpList_load_rowg (by rfl) 31 _ (by rfl) (w.heap.size) (by rfl) 31 (rfC k) (0, 0) _ (by exact r1) Tryz.underlying31 (by rfl) (rsizeRef.trans (by rw [rfC_size])) ?_; simp only [Act.put, sgPHTrRGet])
    | fail)
  generalize ((w.alloc (.cells (rfC k) 31)).alloc (.cells (va 256 (iv .u8 fun _ => 0)) 49)) = w1 at *
  refine (hN.out w1).mono ?_
  rintro x w2 ⟨rfl, hb2⟩
  have r2 := r1.below hb2 r1.lt
  have k2 := k1.below hb2 k1.lt
  have hb12 := hb1.trans (hb2.mono hb1.size)
  have z2 : w2.cell? ⟨w.heap.size, 0, none⟩ = some (.int .u32 (k.1 : Int)) := (r2.cell 0).trans (va_at (rfF k.1 k.2) (by decide))
  rw [ha0] at z2
  clear hb2 hb1 k1 r1
  have e1 : ((a0 : Int) == 0) = false := by simp [h00]
  have e2 : decide ((a0 : Int) = 0) = false := decide_eq_false (by omega)
  have e3 : IntKind.i64.wrap (a0 : Int) = (a0 : Int) := by
    rw [IntKind.wrap_i64]
    omega
  have e4 : decide ((n : Int) ≤ (a0 : Int)) = true := decide_eq_true (by omega)
  have e5 : decide (n ≤ a0) = true := decide_eq_true (by omega)
  go_wp2_with fail
  go_quiet (fail)
  have k2 : Blk (w2.drewN nq) (w.heap.size + 1) 49 (va 256 (iv .u8 fun _ => 0)) := k2
  have hb12 : Below w.heap.size w (w2.drewN nq) := ⟨hb12.1, hb12.2, hb12.3, hb12.4, hb12.5⟩
  clear z2 r2
  generalize w2.drewN nq = w2 at *
  go_wp2_with (first
    | (refine wpList_store_row (by rfl) 49 _ _ (by rfl) (w.heap.size + 1) (va 256 (iv .u8 (fun _ => 0))) (by rfl) (by rfl) 49 (_) (by exact k2) (rsizeBk.trans (by rw [va_size])) (by simp only [va_size]) (iv_one _ _ _) ?_; simp only [Act.put, sgPHTrRGet])
    | fail)
  try simp only [Exit.inBlock, Exit.then]
  refine bodyPost_ret (results_row2 Tryz.results36 _ _ (w.heap.size + 1) 49 (va 256 (iv .u8 (fun _ => 0))) (0, 0) _ rfl (k2.set _) Tryz.underlying49 rfl (rsizeBk.trans (by rw [va_size]))) rfl ?_
  exact ⟨rfl, below_setRow hb12 (by omega) _⟩
set_option maxRecDepth 100000 in
set_option maxHeartbeats 4000000 in
theorem rget_good (k : Rf) (hk0 : k ≠ rf0) (hk1 : k.1 ≠ 0) (f : Nat → Nat) (hdg : dgB f = k.2) (b o : Nat)  (n cap : Nat) (hn : n ≤ 8192) (hkn : k.1 < n) (w : World) (H : RngB w b (o + k.1 * 256) f) (hbw : b < w.heap.size) : Calls Tryz.prog 36 #[.slice (some ⟨b, o, none⟩) n cap, .agg (rfC k)] w fun x w' => x = .returned (.tuple #[.agg (va 256 (iv .u8 f)), .int .i64 0]) ∧ Below w.heap.size w w' := by
  have hz := rzero_bk
  have hN : Hid (∀ w, Calls Tryz.prog 35 #[.agg (rfC k)] w fun e w' => e = .returned (.bool false) ∧ Below w.heap.size w w') := fun w => by
    have := rnone_any k w
    rw [decide_eq_false hk0] at this
    exact this
  have hb1 : Below w.heap.size w ((w.alloc (.cells (rfC k) 31)).alloc (.cells (va 256 (iv .u8 fun _ => 0)) 49)) := below_new2 _ _ _
  have r1 : Blk ((w.alloc (.cells (rfC k) 31)).alloc (.cells (va 256 (iv .u8 fun _ => 0)) 49)) w.heap.size 31 (rfC k) := (Blk.new _ _ _).alloc _
  have k1 : Blk ((w.alloc (.cells (rfC k) 31)).alloc (.cells (va 256 (iv .u8 fun _ => 0)) 49)) (w.heap.size + 1) 49 (va 256 (iv .u8 fun _ => 0)) := Blk.new1 _ _ _ _
  have hSum : Hid (∀ w : World, Calls Tryz.prog 57 #[.agg (va 256 (iv .u8 f))] w fun e w' => e = .returned (.agg (va 32 (iv .u8 (dF (dgB f))))) ∧ Below w.heap.size w w') := rsum_any f
  have heq : ∀ W : World, (Op.equalIn 10000 29 (.agg (va 32 (iv .u8 (dF (dgB f))))) (.agg (va 32 (iv .u8 (dF k.2))))).run Tryz.prog W = .ok true W := fun W => by
    have := eq_dig 29 Tryz.underlying29 (dgB f) k.2 W
    rw [decide_eq_true hdg] at this
    exact this
  have H1 : RngB ((w.alloc (.cells (rfC k) 31)).alloc (.cells (va 256 (iv .u8 fun _ => 0)) 49)) b (o + k.1 * 256) f := RngB.below H hb1 hbw
  obtain ⟨a0, ha0⟩ : ∃ a0, k.1 = a0 := ⟨_, rfl⟩
  have HA0 : Hid (k.1 = a0) := ha0
  have HBW0 : Hid (b < w.heap.size) := hbw
  rw [ha0] at hk1 hkn H1
  clear H hbw hdg ha0
  generalize dgB f = dg at *
  have e1 : ((a0 : Int) == 0) = false := by simp [hk1]
  have e2 : decide ((a0 : Int) = 0) = false := decide_eq_false (by omega)
  have e3 : IntKind.i64.wrap (a0 : Int) = (a0 : Int) := by
    rw [IntKind.wrap_i64]
    omega
  have e4 : decide ((n : Int) ≤ (a0 : Int)) = false := decide_eq_false (by omega)
  have e5 : decide (n ≤ a0) = false := decide_eq_false (by omega)
  have e6 : (a0 : Int) < (n : Int) := by omega
  have e7 : (0 : Int) ≤ (a0 : Int) := by omega
  clear hk0
  go_enter Tryz.func36, Tryz.ntmps36
  go_wp2_with (first
    | (refine wpList_load_rowg (by rfl) 31 _ (by rfl) (w.heap.size) (by rfl) 31 (rfC k) (0, 0) _ (by exact r1) Tryz.underlying31 (by rfl) (rsizeRef.trans (by rw [rfC_size])) ?_; simp only [Act.put, sgPHTrRGet])
    | fail)
  generalize ((w.alloc (.cells (rfC k) 31)).alloc (.cells (va 256 (iv .u8 fun _ => 0)) 49)) = w1 at *
  refine (hN.out w1).mono ?_
  rintro x w2 ⟨rfl, hb2⟩
  have r2 := r1.below hb2 r1.lt
  have k2 := k1.below hb2 k1.lt
  have hb12 := hb1.trans (hb2.mono hb1.size)
  have z2 : w2.cell? ⟨w.heap.size, 0, none⟩ = some (.int .u32 (k.1 : Int)) := (r2.cell 0).trans (va_at (rfF k.1 k.2) (by decide))
  rw [HA0.out] at z2
  have hS : Blk w2.drew w.heap.size 31 (rfC k) ∧ RngB w2.drew b (o + a0 * 256) f := ⟨r2, H1.below hb2.drew (Nat.lt_of_lt_of_le HBW0.out hb1.size)⟩
  have HBW : Hid (b < w2.drew.heap.size) := Nat.lt_of_lt_of_le (Nat.lt_of_lt_of_le HBW0.out hb1.size) hb2.size
  have k2d : Blk w2.drew (w.heap.size + 1) 49 (va 256 (iv .u8 fun _ => 0)) := k2
  have hb12d : Below w.heap.size w w2.drew := hb12.drew
  clear hb2 hb1 k1 r1 H1
  go_wp2_with fail
  refine wp_region_partsS (fun W => Blk W w.heap.size 31 (rfC k) ∧ RngB W b (o + a0 * 256) f) [([], 0, true), ([], 1, true), ([], 2, true), ([3, 7], 4, true), ([], 5, true), ([], 6, true), ([], 8, true), ([], 9, true), ([10, 11, 12], 13, true), ([], 14, true), ([15], 16, true), ([], 18, true), ([], 19, true), ([], 17, false), ([], 20, true)] [21] [] (by kernel_rfl) (by kernel_rfl) hS (partsI_yield ?_)
  simp only [sgLHTrRGet]
  go_wp2_with fail
  refine ⟨rfl, _, .pointer (some ⟨w.heap.size, 0, none⟩), rfl, Or.inl ⟨by rfl, fun W hW => by go_simp⟩, partsI_yield ?_⟩
  simp only [Act.put, sgPHTrRGet]
  simp only [sgLHTrRGet]
  go_wp2_with fail
  refine ⟨rfl, _, .int .u32 (a0 : Int), rfl, Or.inl ⟨by rfl, fun W hW => by have hW1 : W.cell? ⟨w.heap.size, 0, none⟩ = some (.int .u32 (a0 : Int)) := (hW.1.cell 0).trans ((va_at (rfF k.1 k.2) (by decide)).trans (by rw [show rfF k.1 k.2 0 = .int .u32 (k.1 : Int) from rfl, HA0.out])); go_simp⟩, partsI_yield ?_⟩
  simp only [Act.put, sgPHTrRGet]
  simp only [sgLHTrRGet]
  go_wp2_with fail
  refine ⟨rfl, _, .bool false, rfl, Or.inl ⟨by rfl, fun W hW => by go_simp⟩, partsI_yield ?_⟩
  simp only [Act.put, sgPHTrRGet]
  simp only [sgLHTrRGet]
  go_wp2_with fail
  refine ⟨rfl, _, .pointer (some ⟨w.heap.size, 0, none⟩), rfl, Or.inl ⟨by rfl, fun W hW => by go_simp⟩, partsI_yield ?_⟩
  simp only [Act.put, sgPHTrRGet]
  simp only [sgLHTrRGet]
  go_wp2_with fail
  refine ⟨rfl, _, .int .u32 (a0 : Int), rfl, Or.inl ⟨by rfl, fun W hW => by have hW1 : W.cell? ⟨w.heap.size, 0, none⟩ = some (.int .u32 (a0 : Int)) := (hW.1.cell 0).trans ((va_at (rfF k.1 k.2) (by decide)).trans (by rw [show rfF k.1 k.2 0 = .int .u32 (k.1 : Int) from rfl, HA0.out])); go_simp⟩, partsI_yield ?_⟩
  simp only [Act.put, sgPHTrRGet]
  simp only [sgLHTrRGet]
  go_wp2_with fail
  refine ⟨rfl, _, .int .i64 (a0 : Int), rfl, Or.inl ⟨by rfl, fun W hW => by go_simp⟩, partsI_yield ?_⟩
  simp only [Act.put, sgPHTrRGet]
  simp only [sgLHTrRGet]
  go_wp2_with fail
  refine ⟨rfl, _, .int .i64 (n : Int), rfl, Or.inl ⟨by rfl, fun W hW => by go_simp⟩, partsI_yield ?_⟩
  simp only [Act.put, sgPHTrRGet]
  simp only [sgLHTrRGet]
  go_wp2_with fail
  refine ⟨rfl, _, .bool false, rfl, Or.inl ⟨by rfl, fun W hW => by go_simp⟩, partsI_yield ?_⟩
  simp only [Act.put, sgPHTrRGet]
  simp only [sgLHTrRGet]
  go_wp2_with fail
  refine ⟨rfl, _, .pointer (some ⟨w.heap.size, 0, none⟩), rfl, Or.inl ⟨by rfl, fun W hW => by go_simp⟩, partsI_yield ?_⟩
  simp only [Act.put, sgPHTrRGet]
  simp only [sgLHTrRGet]
  go_wp2_with fail
  refine ⟨rfl, _, .int .u32 (a0 : Int), rfl, Or.inl ⟨by rfl, fun W hW => by have hW1 : W.cell? ⟨w.heap.size, 0, none⟩ = some (.int .u32 (a0 : Int)) := (hW.1.cell 0).trans ((va_at (rfF k.1 k.2) (by decide)).trans (by rw [show rfF k.1 k.2 0 = .int .u32 (k.1 : Int) from rfl, HA0.out])); go_simp⟩, partsI_yield ?_⟩
  simp only [Act.put, sgPHTrRGet]
  simp only [sgLHTrRGet]
  go_wp2_with fail
  refine ⟨rfl, _, .agg (va 256 (iv .u8 f)), rfl, kyields_load_at (by rfl) 49 _ (by rfl) b (o + a0 * 256) 256 (iv .u8 f) (by rfl) _ (fun W hW => hW.2) Tryz.underlying49 rfl rsizeBk, partsI_yield ?_⟩
  simp only [Act.put, sgPHTrRGet]
  simp only [sgLHTrRGet]
  go_wp2_with fail
  refine ⟨rfl, _, .pointer (some ⟨w.heap.size, 1, none⟩), rfl, Or.inl ⟨by rfl, fun W hW => by go_simp⟩, partsI_yield ?_⟩
  simp only [Act.put, sgPHTrRGet]
  simp only [sgLHTrRGet]
  go_wp2_with fail
  refine ⟨rfl, _, .agg (va 32 (iv .u8 (dF k.2))), rfl, kyields_load_at (by rfl) 29 _ (by rfl) w.heap.size 1 32 (iv .u8 (dF k.2)) (by rfl) _ (fun W hW => rref_range hW.1) Tryz.underlying29 rfl rsizeSum, partsI_force ?_⟩
  simp only [Act.put, sgPHTrRGet]
  simp only [sgLHTrRGet]
  go_wp2_with fail
  refine (hSum.out _).mono ?_
  rintro x w3 ⟨rfl, hb3⟩
  go_wp2_with fail
  refine ⟨rfl, ⟨hS.1.below hb3 hS.1.lt, hS.2.below hb3 HBW.out⟩, partsI_yield ?_⟩
  simp only [sgLHTrRGet]
  go_wp2_with fail
  refine ⟨rfl, _, .bool (!true), rfl, yields_neq (by rfl) 29 _ _ _ (by rfl) (va 32 (iv .u8 (dF dg))) (va 32 (iv .u8 (dF k.2))) true (by rfl) (by rfl) Tryz.eqGuardType29 heq, partsI_last ?_⟩
  simp only [Act.put, sgPHTrRGet]
  simp only [sgLHTrRGet]
  go_wp2_with fail
  refine ⟨rfl, ?_⟩
  have k3 := k2d.below hb3 k2d.lt
  have r3 := hS.1.below hb3 hS.1.lt
  have z3 : w3.cell? ⟨w.heap.size, 0, none⟩ = some (.int .u32 (a0 : Int)) := (r3.cell 0).trans ((va_at (rfF k.1 k.2) (by decide)).trans (by rw [show rfF k.1 k.2 0 = .int .u32 (k.1 : Int) from rfl, HA0.out]))
  have HR3 : Hid (w3.rangeAt b (o + a0 * 256) ((List.range 256).map (iv .u8 f))) := (hS.2.below hb3 HBW.out : RngB w3 b (o + a0 * 256) f)
  have hb13 := hb12d.trans (hb3.mono hb12d.size)
  clear hS hb3 k2d hb12d k2 r2 z2 heq hb12
  go_wp2_with (first
    | (refine wpList_load_blk (by rfl) 49 _ (by rfl) (b) (o + a0 * 256) 256 (iv .u8 f) (by rfl) _ (by exact HR3.out) Tryz.underlying49 rfl rsizeBk ?_; simp only [Act.put, sgPHTrRGet])
    | (refine wpList_store_row (by rfl) 49 _ _ (by rfl) (w.heap.size + 1) (va 256 (iv .u8 f)) (by rfl) (by rfl) 49 (_) (by exact k3) (rsizeBk.trans (by rw [va_size])) (by simp only [va_size]) (iv_one _ _ _) ?_; simp only [Act.put, sgPHTrRGet])
    | fail)
  try simp only [Exit.inBlock, Exit.then]
  refine bodyPost_ret (results_row2 Tryz.results36 _ _ (w.heap.size + 1) 49 (va 256 (iv .u8 f)) (0, 0) _ rfl (k3.set _) Tryz.underlying49 rfl (rsizeBk.trans (by rw [va_size]))) rfl ?_
  exact ⟨rfl, below_setRow hb13 (by omega) _⟩
set_option maxRecDepth 100000 in
set_option maxHeartbeats 4000000 in
theorem rget_bad (k : Rf) (hk0 : k ≠ rf0) (hk1 : k.1 ≠ 0) (f : Nat → Nat) (hdg : ¬ dgB f = k.2) (b o : Nat)  (n cap : Nat) (hn : n ≤ 8192) (hkn : k.1 < n) (w : World) (H : RngB w b (o + k.1 * 256) f) (hbw : b < w.heap.size) : Calls Tryz.prog 36 #[.slice (some ⟨b, o, none⟩) n cap, .agg (rfC k)] w fun x w' => x = .returned (.tuple #[.agg (va 256 (iv .u8 (fun _ => 0))), .int .i64 2]) ∧ Below w.heap.size w w' := by
  have hz := rzero_bk
  have hN : Hid (∀ w, Calls Tryz.prog 35 #[.agg (rfC k)] w fun e w' => e = .returned (.bool false) ∧ Below w.heap.size w w') := fun w => by
    have := rnone_any k w
    rw [decide_eq_false hk0] at this
    exact this
  have hb1 : Below w.heap.size w ((w.alloc (.cells (rfC k) 31)).alloc (.cells (va 256 (iv .u8 fun _ => 0)) 49)) := below_new2 _ _ _
  have r1 : Blk ((w.alloc (.cells (rfC k) 31)).alloc (.cells (va 256 (iv .u8 fun _ => 0)) 49)) w.heap.size 31 (rfC k) := (Blk.new _ _ _).alloc _
  have k1 : Blk ((w.alloc (.cells (rfC k) 31)).alloc (.cells (va 256 (iv .u8 fun _ => 0)) 49)) (w.heap.size + 1) 49 (va 256 (iv .u8 fun _ => 0)) := Blk.new1 _ _ _ _
  have hSum : Hid (∀ w : World, Calls Tryz.prog 57 #[.agg (va 256 (iv .u8 f))] w fun e w' => e = .returned (.agg (va 32 (iv .u8 (dF (dgB f))))) ∧ Below w.heap.size w w') := rsum_any f
  have heq : ∀ W : World, (Op.equalIn 10000 29 (.agg (va 32 (iv .u8 (dF (dgB f))))) (.agg (va 32 (iv .u8 (dF k.2))))).run Tryz.prog W = .ok false W := fun W => by
    have := eq_dig 29 Tryz.underlying29 (dgB f) k.2 W
    rw [decide_eq_false hdg] at this
    exact this
  have H1 : RngB ((w.alloc (.cells (rfC k) 31)).alloc (.cells (va 256 (iv .u8 fun _ => 0)) 49)) b (o + k.1 * 256) f := RngB.below H hb1 hbw
  obtain ⟨a0, ha0⟩ : ∃ a0, k.1 = a0 := ⟨_, rfl⟩
  have HA0 : Hid (k.1 = a0) := ha0
  have HBW0 : Hid (b < w.heap.size) := hbw
  rw [ha0] at hk1 hkn H1
  clear H hbw hdg ha0
  generalize dgB f = dg at *
  have e1 : ((a0 : Int) == 0) = false := by simp [hk1]
  have e2 : decide ((a0 : Int) = 0) = false := decide_eq_false (by omega)
  have e3 : IntKind.i64.wrap (a0 : Int) = (a0 : Int) := by
    rw [IntKind.wrap_i64]
    omega
  have e4 : decide ((n : Int) ≤ (a0 : Int)) = false := decide_eq_false (by omega)
  have e5 : decide (n ≤ a0) = false := decide_eq_false (by omega)
  have e6 : (a0 : Int) < (n : Int) := by omega
  have e7 : (0 : Int) ≤ (a0 : Int) := by omega
  clear hk0
  go_enter Tryz.func36, Tryz.ntmps36
  go_wp2_with (first
    | (refine wpList_load_rowg (by rfl) 31 _ (by rfl) (w.heap.size) (by rfl) 31 (rfC k) (0, 0) _ (by exact r1) Tryz.underlying31 (by rfl) (rsizeRef.trans (by rw [rfC_size])) ?_; simp only [Act.put, sgPHTrRGet])
    | fail)
  generalize ((w.alloc (.cells (rfC k) 31)).alloc (.cells (va 256 (iv .u8 fun _ => 0)) 49)) = w1 at *
  refine (hN.out w1).mono ?_
  rintro x w2 ⟨rfl, hb2⟩
  have r2 := r1.below hb2 r1.lt
  have k2 := k1.below hb2 k1.lt
  have hb12 := hb1.trans (hb2.mono hb1.size)
  have z2 : w2.cell? ⟨w.heap.size, 0, none⟩ = some (.int .u32 (k.1 : Int)) := (r2.cell 0).trans (va_at (rfF k.1 k.2) (by decide))
  rw [HA0.out] at z2
  have hS : Blk w2.drew w.heap.size 31 (rfC k) ∧ RngB w2.drew b (o + a0 * 256) f := ⟨r2, H1.below hb2.drew (Nat.lt_of_lt_of_le HBW0.out hb1.size)⟩
  have HBW : Hid (b < w2.drew.heap.size) := Nat.lt_of_lt_of_le (Nat.lt_of_lt_of_le HBW0.out hb1.size) hb2.size
  have k2d : Blk w2.drew (w.heap.size + 1) 49 (va 256 (iv .u8 fun _ => 0)) := k2
  have hb12d : Below w.heap.size w w2.drew := hb12.drew
  clear hb2 hb1 k1 r1 H1
  go_wp2_with fail
  refine wp_region_partsS (fun W => Blk W w.heap.size 31 (rfC k) ∧ RngB W b (o + a0 * 256) f) [([], 0, true), ([], 1, true), ([], 2, true), ([3, 7], 4, true), ([], 5, true), ([], 6, true), ([], 8, true), ([], 9, true), ([10, 11, 12], 13, true), ([], 14, true), ([15], 16, true), ([], 18, true), ([], 19, true), ([], 17, false), ([], 20, true)] [21] [] (by kernel_rfl) (by kernel_rfl) hS (partsI_yield ?_)
  simp only [sgLHTrRGet]
  go_wp2_with fail
  refine ⟨rfl, _, .pointer (some ⟨w.heap.size, 0, none⟩), rfl, Or.inl ⟨by rfl, fun W hW => by go_simp⟩, partsI_yield ?_⟩
  simp only [Act.put, sgPHTrRGet]
  simp only [sgLHTrRGet]
  go_wp2_with fail
  refine ⟨rfl, _, .int .u32 (a0 : Int), rfl, Or.inl ⟨by rfl, fun W hW => by have hW1 : W.cell? ⟨w.heap.size, 0, none⟩ = some (.int .u32 (a0 : Int)) := (hW.1.cell 0).trans ((va_at (rfF k.1 k.2) (by decide)).trans (by rw [show rfF k.1 k.2 0 = .int .u32 (k.1 : Int) from rfl, HA0.out])); go_simp⟩, partsI_yield ?_⟩
  simp only [Act.put, sgPHTrRGet]
  simp only [sgLHTrRGet]
  go_wp2_with fail
  refine ⟨rfl, _, .bool false, rfl, Or.inl ⟨by rfl, fun W hW => by go_simp⟩, partsI_yield ?_⟩
  simp only [Act.put, sgPHTrRGet]
  simp only [sgLHTrRGet]
  go_wp2_with fail
  refine ⟨rfl, _, .pointer (some ⟨w.heap.size, 0, none⟩), rfl, Or.inl ⟨by rfl, fun W hW => by go_simp⟩, partsI_yield ?_⟩
  simp only [Act.put, sgPHTrRGet]
  simp only [sgLHTrRGet]
  go_wp2_with fail
  refine ⟨rfl, _, .int .u32 (a0 : Int), rfl, Or.inl ⟨by rfl, fun W hW => by have hW1 : W.cell? ⟨w.heap.size, 0, none⟩ = some (.int .u32 (a0 : Int)) := (hW.1.cell 0).trans ((va_at (rfF k.1 k.2) (by decide)).trans (by rw [show rfF k.1 k.2 0 = .int .u32 (k.1 : Int) from rfl, HA0.out])); go_simp⟩, partsI_yield ?_⟩
  simp only [Act.put, sgPHTrRGet]
  simp only [sgLHTrRGet]
  go_wp2_with fail
  refine ⟨rfl, _, .int .i64 (a0 : Int), rfl, Or.inl ⟨by rfl, fun W hW => by go_simp⟩, partsI_yield ?_⟩
  simp only [Act.put, sgPHTrRGet]
  simp only [sgLHTrRGet]
  go_wp2_with fail
  refine ⟨rfl, _, .int .i64 (n : Int), rfl, Or.inl ⟨by rfl, fun W hW => by go_simp⟩, partsI_yield ?_⟩
  simp only [Act.put, sgPHTrRGet]
  simp only [sgLHTrRGet]
  go_wp2_with fail
  refine ⟨rfl, _, .bool false, rfl, Or.inl ⟨by rfl, fun W hW => by go_simp⟩, partsI_yield ?_⟩
  simp only [Act.put, sgPHTrRGet]
  simp only [sgLHTrRGet]
  go_wp2_with fail
  refine ⟨rfl, _, .pointer (some ⟨w.heap.size, 0, none⟩), rfl, Or.inl ⟨by rfl, fun W hW => by go_simp⟩, partsI_yield ?_⟩
  simp only [Act.put, sgPHTrRGet]
  simp only [sgLHTrRGet]
  go_wp2_with fail
  refine ⟨rfl, _, .int .u32 (a0 : Int), rfl, Or.inl ⟨by rfl, fun W hW => by have hW1 : W.cell? ⟨w.heap.size, 0, none⟩ = some (.int .u32 (a0 : Int)) := (hW.1.cell 0).trans ((va_at (rfF k.1 k.2) (by decide)).trans (by rw [show rfF k.1 k.2 0 = .int .u32 (k.1 : Int) from rfl, HA0.out])); go_simp⟩, partsI_yield ?_⟩
  simp only [Act.put, sgPHTrRGet]
  simp only [sgLHTrRGet]
  go_wp2_with fail
  refine ⟨rfl, _, .agg (va 256 (iv .u8 f)), rfl, kyields_load_at (by rfl) 49 _ (by rfl) b (o + a0 * 256) 256 (iv .u8 f) (by rfl) _ (fun W hW => hW.2) Tryz.underlying49 rfl rsizeBk, partsI_yield ?_⟩
  simp only [Act.put, sgPHTrRGet]
  simp only [sgLHTrRGet]
  go_wp2_with fail
  refine ⟨rfl, _, .pointer (some ⟨w.heap.size, 1, none⟩), rfl, Or.inl ⟨by rfl, fun W hW => by go_simp⟩, partsI_yield ?_⟩
  simp only [Act.put, sgPHTrRGet]
  simp only [sgLHTrRGet]
  go_wp2_with fail
  refine ⟨rfl, _, .agg (va 32 (iv .u8 (dF k.2))), rfl, kyields_load_at (by rfl) 29 _ (by rfl) w.heap.size 1 32 (iv .u8 (dF k.2)) (by rfl) _ (fun W hW => rref_range hW.1) Tryz.underlying29 rfl rsizeSum, partsI_force ?_⟩
  simp only [Act.put, sgPHTrRGet]
  simp only [sgLHTrRGet]
  go_wp2_with fail
  refine (hSum.out _).mono ?_
  rintro x w3 ⟨rfl, hb3⟩
  go_wp2_with fail
  refine ⟨rfl, ⟨hS.1.below hb3 hS.1.lt, hS.2.below hb3 HBW.out⟩, partsI_yield ?_⟩
  simp only [sgLHTrRGet]
  go_wp2_with fail
  refine ⟨rfl, _, .bool (!false), rfl, yields_neq (by rfl) 29 _ _ _ (by rfl) (va 32 (iv .u8 (dF dg))) (va 32 (iv .u8 (dF k.2))) false (by rfl) (by rfl) Tryz.eqGuardType29 heq, partsI_last ?_⟩
  simp only [Act.put, sgPHTrRGet]
  simp only [sgLHTrRGet]
  go_wp2_with fail
  refine ⟨rfl, ?_⟩
  have k3 := k2d.below hb3 k2d.lt
  have r3 := hS.1.below hb3 hS.1.lt
  have z3 : w3.cell? ⟨w.heap.size, 0, none⟩ = some (.int .u32 (a0 : Int)) := (r3.cell 0).trans ((va_at (rfF k.1 k.2) (by decide)).trans (by rw [show rfF k.1 k.2 0 = .int .u32 (k.1 : Int) from rfl, HA0.out]))
  have HR3 : Hid (w3.rangeAt b (o + a0 * 256) ((List.range 256).map (iv .u8 f))) := (hS.2.below hb3 HBW.out : RngB w3 b (o + a0 * 256) f)
  have hb13 := hb12d.trans (hb3.mono hb12d.size)
  clear hS hb3 k2d hb12d k2 r2 z2 heq hb12
  go_wp2_with (first
    | (refine wpList_load_blk (by rfl) 49 _ (by rfl) (b) (o + a0 * 256) 256 (iv .u8 f) (by rfl) _ (by exact HR3.out) Tryz.underlying49 rfl rsizeBk ?_; simp only [Act.put, sgPHTrRGet])
    | (refine wpList_store_row (by rfl) 49 _ _ (by rfl) (w.heap.size + 1) (va 256 (iv .u8 (fun _ => 0))) (by rfl) (by rfl) 49 (_) (by exact k3) (rsizeBk.trans (by rw [va_size])) (by simp only [va_size]) (iv_one _ _ _) ?_; simp only [Act.put, sgPHTrRGet])
    | fail)
  try simp only [Exit.inBlock, Exit.then]
  refine bodyPost_ret (results_row2 Tryz.results36 _ _ (w.heap.size + 1) 49 (va 256 (iv .u8 (fun _ => 0))) (0, 0) _ rfl (k3.set _) Tryz.underlying49 rfl (rsizeBk.trans (by rw [va_size]))) rfl ?_
  exact ⟨rfl, below_setRow hb13 (by omega) _⟩
end
end Go.Proofs.YtiofonffmplfmaaGreat
