/- A region that draws its order, by a plan, with a tail of operations behind which S need not hold: operations that are taken ahead, operations that are shown to yield, operations that are forced, and forks where two are ready. No program in it. -/
import Derived.Test.YtdhbjcnbdfidcaaHSlRef
import Derived.Test.YtdhbjcnbdfidcaaHRefPut
import Derived.Laws.AppendOwnNone
import Derived.Handy
import Derived.Test.YtdhbjcnbdfidcaaHDkKeep

namespace Go.Proofs.Ytdhbjcnbdfidcaa
open Go Go.RowKit
set_option linter.unusedSimpArgs false
set_option linter.unusedVariables false

/-- the document's register: the slot, and the slice of all that were written -/
def rgF (s : Sl) (v : Value) : Nat → Value := fun i => if i < 34 then slF s i else v
def rgC (s : Sl) (v : Value) : Array Value := va 35 (rgF s v)
theorem rgC_size (s : Sl) (v : Value) : (rgC s v).size = 35 := va_size _ _
theorem slF_one (s : Sl) (i : Nat) : (slF s i).oneCell' = true := by
  unfold slF
  split
  · rfl
  · split <;> rfl
theorem rgC_all (s : Sl) (a : Option Addr) (n c : Nat) : (rgC s (.slice a n c)).all (·.oneCell') = true := va_one fun i _ => by
  unfold rgF
  split
  · exact slF_one s i
  · rfl
theorem rgSize : (Try.prog.info? 39).map (·.size) = some 35 := by kernel_rfl
theorem zero_rg (w : World) : (zeroValue 39).run Try.prog w = .ok (.agg (rgC sl0 (.slice none 0 0))) w := by
  have h : (Try.prog.info? 39).bind (·.zero) = some (.agg (rgC sl0 (.slice none 0 0))) := by kernel_rfl
  cases hq : Try.prog.info? 39 with
  | none => simp [hq] at h
  | some i =>
    have hi : i.zero = some (.agg (rgC sl0 (.slice none 0 0))) := by simpa [hq] using h
    simp [zeroValue, typeInfo, hq, hi]
theorem built_rg (s : Sl) (a : Option Addr) (m c : Nat) : Try.prog.built 39 [(0, .agg (slC s)), (1, .slice a m c)] = some (rgC s (.slice a m c)) := by kernel_rfl
theorem rg_now (s : Sl) (v : Value) {w : World} {g t : Nat} (h : Blk w g t (rgC s v)) : w.cell? ⟨g, 0, none⟩ = some (.int .u64 (s.1 : Int)) := by
  rw [h.cell]
  exact va_at (rgF s v) (by decide)
theorem rg_list (s : Sl) (v : Value) {w : World} {g t : Nat} (h : Blk w g t (rgC s v)) : w.cell? ⟨g, 34, none⟩ = some v := by
  rw [h.cell]
  exact va_at (rgF s v) (by decide)
theorem infoRslot : (Try.prog.info? 36).map (fun i => (i.zero, i.size, i.bytes)) = some (some (slV sl0), 34, 48) := by kernel_rfl
theorem results_row3 {P : Program} {fn : Func} {p u u2 : Tmp} {ty : TypeId} (h : fn.results = #[.cell p ty, .tmp u, .tmp u2]) (tmps : Array Value) (w : World) (g : Nat) (t : TypeId) (cs : Array Value) (fr : Nat × Nat) (d : TypeDesc)
    (hp : tmps.getD p undef = .pointer (some ⟨g, 0, none⟩)) (hg : w.heap[g]? = some (.cells cs t fr))
    (hu : P.underlying ty = some d) (hd : (match d with | .struct _ | .array _ _ => true | _ => false) = true) (hi : (P.info? ty).map (·.size) = some cs.size) :
    (results fn tmps).run P w = .ok (.tuple #[.agg cs, tmps.getD u undef, tmps.getD u2 undef]) w := by
  have hp' : tmps[p]?.getD undef = .pointer (some ⟨g, 0, none⟩) := by simpa using hp
  have hl := run_loadVar_row (P := P) w g t ty cs fr d hg hu hd hi
  unfold results
  simp [h, hp', asAddr, hl]
set_option maxRecDepth 100000 in
set_option maxHeartbeats 4000000 in
theorem refWrite_dead (n s : Sl) (a : Option Addr) (m c : Nat) (tk di : Bool)  (w : World) : Calls Try.prog 11 #[.agg (rgC n (.slice a m c)), .agg (slC s), .bool true, .agg #[.bool tk, .bool di]] w fun e w' => e = .returned (.tuple #[.agg (rgC n (.slice a m c)), .bool false, .int .i64 4]) ∧ Below w.heap.size w w' := by
  obtain ⟨v, hv⟩ : ∃ v, v = Value.slice a m c := ⟨_, rfl⟩
  have HV : Hid (v = .slice a m c) := hv
  rw [← hv]
  clear hv
  have HAL : Hid ((rgC n v).all (·.oneCell') = true) := by
    show _ = _
    rw [HV.out]
    exact rgC_all _ _ _ _
  have hz := zero_rg
  have r0 : Blk ((((w.alloc (.cells (rgC n v) 39)).alloc (.cells (slC s) 36)).alloc (.cells #[.bool tk, .bool di] 52)).alloc (.cells (rgC sl0 (.slice none 0 0)) 39)) w.heap.size 39 (rgC n v) := (((Blk.new _ _ _).alloc _).alloc _).alloc _
  have r1 : Blk ((((w.alloc (.cells (rgC n v) 39)).alloc (.cells (slC s) 36)).alloc (.cells #[.bool tk, .bool di] 52)).alloc (.cells (rgC sl0 (.slice none 0 0)) 39)) (w.heap.size + 1) 36 (slC s) := ((Blk.new1 _ _ _ _).alloc _).alloc _
  have r2 : Blk ((((w.alloc (.cells (rgC n v) 39)).alloc (.cells (slC s) 36)).alloc (.cells #[.bool tk, .bool di] 52)).alloc (.cells (rgC sl0 (.slice none 0 0)) 39)) (w.heap.size + 2) 52 #[.bool tk, .bool di] := (Blk.new2 _ _ _ _ _).alloc _
  have r3 : Blk ((((w.alloc (.cells (rgC n v) 39)).alloc (.cells (slC s) 36)).alloc (.cells #[.bool tk, .bool di] 52)).alloc (.cells (rgC sl0 (.slice none 0 0)) 39)) (w.heap.size + 3) 39 (rgC sl0 (.slice none 0 0)) := by
    have := Blk.new (((w.alloc (.cells (rgC n v) 39)).alloc (.cells (slC s) 36)).alloc (.cells #[.bool tk, .bool di] 52)) 39 (rgC sl0 (.slice none 0 0))
    rwa [show (((w.alloc (.cells (rgC n v) 39)).alloc (.cells (slC s) 36)).alloc (.cells #[.bool tk, .bool di] 52)).heap.size = w.heap.size + 3 by simp] at this
  have hb : Below w.heap.size w ((((w.alloc (.cells (rgC n v) 39)).alloc (.cells (slC s) 36)).alloc (.cells #[.bool tk, .bool di] 52)).alloc (.cells (rgC sl0 (.slice none 0 0)) 39)) := (below_new3 _ _ _ _).alloc (by simp; omega) _
  have hs4 : ((((w.alloc (.cells (rgC n v) 39)).alloc (.cells (slC s) 36)).alloc (.cells #[.bool tk, .bool di] 52)).alloc (.cells (rgC sl0 (.slice none 0 0)) 39)).heap.size = w.heap.size + 4 := by simp
  have x0 : ((((w.alloc (.cells (rgC n v) 39)).alloc (.cells (slC s) 36)).alloc (.cells #[.bool tk, .bool di] 52)).alloc (.cells (rgC sl0 (.slice none 0 0)) 39)).cell? ⟨w.heap.size, 0, none⟩ = some (.int .u64 (n.1 : Int)) := rg_now _ _ r0
  have x1 : ((((w.alloc (.cells (rgC n v) 39)).alloc (.cells (slC s) 36)).alloc (.cells #[.bool tk, .bool di] 52)).alloc (.cells (rgC sl0 (.slice none 0 0)) 39)).cell? ⟨w.heap.size + 1, 0, none⟩ = some (.int .u64 (s.1 : Int)) := by
    rw [r1.cell]
    exact va_at (slF s) (by decide)
  have x2 : ((((w.alloc (.cells (rgC n v) 39)).alloc (.cells (slC s) 36)).alloc (.cells #[.bool tk, .bool di] 52)).alloc (.cells (rgC sl0 (.slice none 0 0)) 39)).cell? ⟨w.heap.size + 1, 1, none⟩ = some (.int .u32 (s.2.1 : Int)) := by
    rw [r1.cell]
    exact va_at (slF s) (by decide)
  go_enter Try.func11, Try.ntmps11
  go_wp2_with (first
    | (refine wpList_load_rowg (by rfl) 39 _ (by rfl) (w.heap.size) (by rfl) 39 (rgC n v) (0, 0) _ (by exact r0) Try.underlying39 (by rfl) (rgSize.trans (by rw [rgC_size])) ?_; simp only [Act.put, List.setIfInBounds_toArray, List.set_cons_zero, List.set_cons_succ])
    | (refine wpList_store_row (by rfl) 39 _ _ (by rfl) (w.heap.size + 3) (rgC n v) (by rfl) (by rfl) 39 (_) (by exact r3) (rgSize.trans (by rw [rgC_size])) (by simp only [rgC_size]) (HAL.out) ?_; simp only [Act.put, List.setIfInBounds_toArray, List.set_cons_zero, List.set_cons_succ])
    | fail)
  try simp only [Exit.inBlock, Exit.then]
  refine bodyPost_ret (results_row3 Try.results11 _ _ (w.heap.size + 3) 39 (rgC n v) (0, 0) _ rfl (r3.set _) Try.underlying39 rfl (rgSize.trans (by rw [rgC_size]))) rfl ?_
  exact ⟨rfl, below_setRow hb (by omega) _⟩
set_option maxRecDepth 100000 in
set_option maxHeartbeats 4000000 in
theorem refWrite_arg (n s : Sl) (a : Option Addr) (m c : Nat) (tk di : Bool) (hs : s.2.1 = 0) (w : World) : Calls Try.prog 11 #[.agg (rgC n (.slice a m c)), .agg (slC s), .bool false, .agg #[.bool tk, .bool di]] w fun e w' => e = .returned (.tuple #[.agg (rgC n (.slice a m c)), .bool false, .int .i64 1]) ∧ Below w.heap.size w w' := by
  obtain ⟨v, hv⟩ : ∃ v, v = Value.slice a m c := ⟨_, rfl⟩
  have HV : Hid (v = .slice a m c) := hv
  rw [← hv]
  clear hv
  have HAL : Hid ((rgC n v).all (·.oneCell') = true) := by
    show _ = _
    rw [HV.out]
    exact rgC_all _ _ _ _
  have hz := zero_rg
  have r0 : Blk ((((w.alloc (.cells (rgC n v) 39)).alloc (.cells (slC s) 36)).alloc (.cells #[.bool tk, .bool di] 52)).alloc (.cells (rgC sl0 (.slice none 0 0)) 39)) w.heap.size 39 (rgC n v) := (((Blk.new _ _ _).alloc _).alloc _).alloc _
  have r1 : Blk ((((w.alloc (.cells (rgC n v) 39)).alloc (.cells (slC s) 36)).alloc (.cells #[.bool tk, .bool di] 52)).alloc (.cells (rgC sl0 (.slice none 0 0)) 39)) (w.heap.size + 1) 36 (slC s) := ((Blk.new1 _ _ _ _).alloc _).alloc _
  have r2 : Blk ((((w.alloc (.cells (rgC n v) 39)).alloc (.cells (slC s) 36)).alloc (.cells #[.bool tk, .bool di] 52)).alloc (.cells (rgC sl0 (.slice none 0 0)) 39)) (w.heap.size + 2) 52 #[.bool tk, .bool di] := (Blk.new2 _ _ _ _ _).alloc _
  have r3 : Blk ((((w.alloc (.cells (rgC n v) 39)).alloc (.cells (slC s) 36)).alloc (.cells #[.bool tk, .bool di] 52)).alloc (.cells (rgC sl0 (.slice none 0 0)) 39)) (w.heap.size + 3) 39 (rgC sl0 (.slice none 0 0)) := by
    have := Blk.new (((w.alloc (.cells (rgC n v) 39)).alloc (.cells (slC s) 36)).alloc (.cells #[.bool tk, .bool di] 52)) 39 (rgC sl0 (.slice none 0 0))
    rwa [show (((w.alloc (.cells (rgC n v) 39)).alloc (.cells (slC s) 36)).alloc (.cells #[.bool tk, .bool di] 52)).heap.size = w.heap.size + 3 by simp] at this
  have hb : Below w.heap.size w ((((w.alloc (.cells (rgC n v) 39)).alloc (.cells (slC s) 36)).alloc (.cells #[.bool tk, .bool di] 52)).alloc (.cells (rgC sl0 (.slice none 0 0)) 39)) := (below_new3 _ _ _ _).alloc (by simp; omega) _
  have hs4 : ((((w.alloc (.cells (rgC n v) 39)).alloc (.cells (slC s) 36)).alloc (.cells #[.bool tk, .bool di] 52)).alloc (.cells (rgC sl0 (.slice none 0 0)) 39)).heap.size = w.heap.size + 4 := by simp
  have x0 : ((((w.alloc (.cells (rgC n v) 39)).alloc (.cells (slC s) 36)).alloc (.cells #[.bool tk, .bool di] 52)).alloc (.cells (rgC sl0 (.slice none 0 0)) 39)).cell? ⟨w.heap.size, 0, none⟩ = some (.int .u64 (n.1 : Int)) := rg_now _ _ r0
  have x1 : ((((w.alloc (.cells (rgC n v) 39)).alloc (.cells (slC s) 36)).alloc (.cells #[.bool tk, .bool di] 52)).alloc (.cells (rgC sl0 (.slice none 0 0)) 39)).cell? ⟨w.heap.size + 1, 0, none⟩ = some (.int .u64 (s.1 : Int)) := by
    rw [r1.cell]
    exact va_at (slF s) (by decide)
  have x2 : ((((w.alloc (.cells (rgC n v) 39)).alloc (.cells (slC s) 36)).alloc (.cells #[.bool tk, .bool di] 52)).alloc (.cells (rgC sl0 (.slice none 0 0)) 39)).cell? ⟨w.heap.size + 1, 1, none⟩ = some (.int .u32 (s.2.1 : Int)) := by
    rw [r1.cell]
    exact va_at (slF s) (by decide)
  have d0 : ((s.2.1 : Int) == 0) = true := by simp [hs]
  rw [hs] at x2
  go_enter Try.func11, Try.ntmps11
  go_wp2_with (first
    | (refine wpList_load_rowg (by rfl) 39 _ (by rfl) (w.heap.size) (by rfl) 39 (rgC n v) (0, 0) _ (by exact r0) Try.underlying39 (by rfl) (rgSize.trans (by rw [rgC_size])) ?_; simp only [Act.put, List.setIfInBounds_toArray, List.set_cons_zero, List.set_cons_succ])
    | (refine wpList_store_row (by rfl) 39 _ _ (by rfl) (w.heap.size + 3) (rgC n v) (by rfl) (by rfl) 39 (_) (by exact r3) (rgSize.trans (by rw [rgC_size])) (by simp only [rgC_size]) (HAL.out) ?_; simp only [Act.put, List.setIfInBounds_toArray, List.set_cons_zero, List.set_cons_succ])
    | fail)
  try simp only [Exit.inBlock, Exit.then]
  refine bodyPost_ret (results_row3 Try.results11 _ _ (w.heap.size + 3) 39 (rgC n v) (0, 0) _ rfl (r3.set _) Try.underlying39 rfl (rgSize.trans (by rw [rgC_size]))) rfl ?_
  exact ⟨rfl, below_setRow hb (by omega) _⟩
set_option maxRecDepth 100000 in
set_option maxHeartbeats 4000000 in
theorem refWrite_backMax (n s : Sl) (a : Option Addr) (m c : Nat) (tk di : Bool) (hs : s.2.1 ≠ 0) (hn : n.1 = 18446744073709551615) (w : World) : Calls Try.prog 11 #[.agg (rgC n (.slice a m c)), .agg (slC s), .bool false, .agg #[.bool tk, .bool di]] w fun e w' => e = .returned (.tuple #[.agg (rgC n (.slice a m c)), .bool false, .int .i64 60]) ∧ Below w.heap.size w w' := by
  obtain ⟨v, hv⟩ : ∃ v, v = Value.slice a m c := ⟨_, rfl⟩
  have HV : Hid (v = .slice a m c) := hv
  rw [← hv]
  clear hv
  have HAL : Hid ((rgC n v).all (·.oneCell') = true) := by
    show _ = _
    rw [HV.out]
    exact rgC_all _ _ _ _
  have hz := zero_rg
  have r0 : Blk ((((w.alloc (.cells (rgC n v) 39)).alloc (.cells (slC s) 36)).alloc (.cells #[.bool tk, .bool di] 52)).alloc (.cells (rgC sl0 (.slice none 0 0)) 39)) w.heap.size 39 (rgC n v) := (((Blk.new _ _ _).alloc _).alloc _).alloc _
  have r1 : Blk ((((w.alloc (.cells (rgC n v) 39)).alloc (.cells (slC s) 36)).alloc (.cells #[.bool tk, .bool di] 52)).alloc (.cells (rgC sl0 (.slice none 0 0)) 39)) (w.heap.size + 1) 36 (slC s) := ((Blk.new1 _ _ _ _).alloc _).alloc _
  have r2 : Blk ((((w.alloc (.cells (rgC n v) 39)).alloc (.cells (slC s) 36)).alloc (.cells #[.bool tk, .bool di] 52)).alloc (.cells (rgC sl0 (.slice none 0 0)) 39)) (w.heap.size + 2) 52 #[.bool tk, .bool di] := (Blk.new2 _ _ _ _ _).alloc _
  have r3 : Blk ((((w.alloc (.cells (rgC n v) 39)).alloc (.cells (slC s) 36)).alloc (.cells #[.bool tk, .bool di] 52)).alloc (.cells (rgC sl0 (.slice none 0 0)) 39)) (w.heap.size + 3) 39 (rgC sl0 (.slice none 0 0)) := by
    have := Blk.new (((w.alloc (.cells (rgC n v) 39)).alloc (.cells (slC s) 36)).alloc (.cells #[.bool tk, .bool di] 52)) 39 (rgC sl0 (.slice none 0 0))
    rwa [show (((w.alloc (.cells (rgC n v) 39)).alloc (.cells (slC s) 36)).alloc (.cells #[.bool tk, .bool di] 52)).heap.size = w.heap.size + 3 by simp] at this
  have hb : Below w.heap.size w ((((w.alloc (.cells (rgC n v) 39)).alloc (.cells (slC s) 36)).alloc (.cells #[.bool tk, .bool di] 52)).alloc (.cells (rgC sl0 (.slice none 0 0)) 39)) := (below_new3 _ _ _ _).alloc (by simp; omega) _
  have hs4 : ((((w.alloc (.cells (rgC n v) 39)).alloc (.cells (slC s) 36)).alloc (.cells #[.bool tk, .bool di] 52)).alloc (.cells (rgC sl0 (.slice none 0 0)) 39)).heap.size = w.heap.size + 4 := by simp
  have x0 : ((((w.alloc (.cells (rgC n v) 39)).alloc (.cells (slC s) 36)).alloc (.cells #[.bool tk, .bool di] 52)).alloc (.cells (rgC sl0 (.slice none 0 0)) 39)).cell? ⟨w.heap.size, 0, none⟩ = some (.int .u64 (n.1 : Int)) := rg_now _ _ r0
  have x1 : ((((w.alloc (.cells (rgC n v) 39)).alloc (.cells (slC s) 36)).alloc (.cells #[.bool tk, .bool di] 52)).alloc (.cells (rgC sl0 (.slice none 0 0)) 39)).cell? ⟨w.heap.size + 1, 0, none⟩ = some (.int .u64 (s.1 : Int)) := by
    rw [r1.cell]
    exact va_at (slF s) (by decide)
  have x2 : ((((w.alloc (.cells (rgC n v) 39)).alloc (.cells (slC s) 36)).alloc (.cells #[.bool tk, .bool di] 52)).alloc (.cells (rgC sl0 (.slice none 0 0)) 39)).cell? ⟨w.heap.size + 1, 1, none⟩ = some (.int .u32 (s.2.1 : Int)) := by
    rw [r1.cell]
    exact va_at (slF s) (by decide)
  have d0 : ((s.2.1 : Int) == 0) = false := by simpa using hs
  rw [hn] at x0
  go_enter Try.func11, Try.ntmps11
  go_wp2_with (first
    | (refine wpList_load_rowg (by rfl) 39 _ (by rfl) (w.heap.size) (by rfl) 39 (rgC n v) (0, 0) _ (by exact r0) Try.underlying39 (by rfl) (rgSize.trans (by rw [rgC_size])) ?_; simp only [Act.put, List.setIfInBounds_toArray, List.set_cons_zero, List.set_cons_succ])
    | (refine wpList_store_row (by rfl) 39 _ _ (by rfl) (w.heap.size + 3) (rgC n v) (by rfl) (by rfl) 39 (_) (by exact r3) (rgSize.trans (by rw [rgC_size])) (by simp only [rgC_size]) (HAL.out) ?_; simp only [Act.put, List.setIfInBounds_toArray, List.set_cons_zero, List.set_cons_succ])
    | fail)
  try simp only [Exit.inBlock, Exit.then]
  refine bodyPost_ret (results_row3 Try.results11 _ _ (w.heap.size + 3) 39 (rgC n v) (0, 0) _ rfl (r3.set _) Try.underlying39 rfl (rgSize.trans (by rw [rgC_size]))) rfl ?_
  exact ⟨rfl, below_setRow hb (by omega) _⟩
set_option maxRecDepth 100000 in
set_option maxHeartbeats 4000000 in
theorem refWrite_back (n s : Sl) (a : Option Addr) (m c : Nat) (tk di : Bool) (hs : s.2.1 ≠ 0) (hn : n.1 < 18446744073709551615) (hf : ¬ s.1 = n.1 + 1) (w : World) : Calls Try.prog 11 #[.agg (rgC n (.slice a m c)), .agg (slC s), .bool false, .agg #[.bool tk, .bool di]] w fun e w' => e = .returned (.tuple #[.agg (rgC n (.slice a m c)), .bool false, .int .i64 60]) ∧ Below w.heap.size w w' := by
  obtain ⟨v, hv⟩ : ∃ v, v = Value.slice a m c := ⟨_, rfl⟩
  have HV : Hid (v = .slice a m c) := hv
  rw [← hv]
  clear hv
  have HAL : Hid ((rgC n v).all (·.oneCell') = true) := by
    show _ = _
    rw [HV.out]
    exact rgC_all _ _ _ _
  have hz := zero_rg
  have r0 : Blk ((((w.alloc (.cells (rgC n v) 39)).alloc (.cells (slC s) 36)).alloc (.cells #[.bool tk, .bool di] 52)).alloc (.cells (rgC sl0 (.slice none 0 0)) 39)) w.heap.size 39 (rgC n v) := (((Blk.new _ _ _).alloc _).alloc _).alloc _
  have r1 : Blk ((((w.alloc (.cells (rgC n v) 39)).alloc (.cells (slC s) 36)).alloc (.cells #[.bool tk, .bool di] 52)).alloc (.cells (rgC sl0 (.slice none 0 0)) 39)) (w.heap.size + 1) 36 (slC s) := ((Blk.new1 _ _ _ _).alloc _).alloc _
  have r2 : Blk ((((w.alloc (.cells (rgC n v) 39)).alloc (.cells (slC s) 36)).alloc (.cells #[.bool tk, .bool di] 52)).alloc (.cells (rgC sl0 (.slice none 0 0)) 39)) (w.heap.size + 2) 52 #[.bool tk, .bool di] := (Blk.new2 _ _ _ _ _).alloc _
  have r3 : Blk ((((w.alloc (.cells (rgC n v) 39)).alloc (.cells (slC s) 36)).alloc (.cells #[.bool tk, .bool di] 52)).alloc (.cells (rgC sl0 (.slice none 0 0)) 39)) (w.heap.size + 3) 39 (rgC sl0 (.slice none 0 0)) := by
    have := Blk.new (((w.alloc (.cells (rgC n v) 39)).alloc (.cells (slC s) 36)).alloc (.cells #[.bool tk, .bool di] 52)) 39 (rgC sl0 (.slice none 0 0))
    rwa [show (((w.alloc (.cells (rgC n v) 39)).alloc (.cells (slC s) 36)).alloc (.cells #[.bool tk, .bool di] 52)).heap.size = w.heap.size + 3 by simp] at this
  have hb : Below w.heap.size w ((((w.alloc (.cells (rgC n v) 39)).alloc (.cells (slC s) 36)).alloc (.cells #[.bool tk, .bool di] 52)).alloc (.cells (rgC sl0 (.slice none 0 0)) 39)) := (below_new3 _ _ _ _).alloc (by simp; omega) _
  have hs4 : ((((w.alloc (.cells (rgC n v) 39)).alloc (.cells (slC s) 36)).alloc (.cells #[.bool tk, .bool di] 52)).alloc (.cells (rgC sl0 (.slice none 0 0)) 39)).heap.size = w.heap.size + 4 := by simp
  have x0 : ((((w.alloc (.cells (rgC n v) 39)).alloc (.cells (slC s) 36)).alloc (.cells #[.bool tk, .bool di] 52)).alloc (.cells (rgC sl0 (.slice none 0 0)) 39)).cell? ⟨w.heap.size, 0, none⟩ = some (.int .u64 (n.1 : Int)) := rg_now _ _ r0
  have x1 : ((((w.alloc (.cells (rgC n v) 39)).alloc (.cells (slC s) 36)).alloc (.cells #[.bool tk, .bool di] 52)).alloc (.cells (rgC sl0 (.slice none 0 0)) 39)).cell? ⟨w.heap.size + 1, 0, none⟩ = some (.int .u64 (s.1 : Int)) := by
    rw [r1.cell]
    exact va_at (slF s) (by decide)
  have x2 : ((((w.alloc (.cells (rgC n v) 39)).alloc (.cells (slC s) 36)).alloc (.cells #[.bool tk, .bool di] 52)).alloc (.cells (rgC sl0 (.slice none 0 0)) 39)).cell? ⟨w.heap.size + 1, 1, none⟩ = some (.int .u32 (s.2.1 : Int)) := by
    rw [r1.cell]
    exact va_at (slF s) (by decide)
  have d0 : ((s.2.1 : Int) == 0) = false := by simpa using hs
  have d1 : ((n.1 : Int) == 18446744073709551615) = false := by
    rw [beq_eq_false_iff_ne]
    omega
  have d2 : ((s.1 : Int) == (n.1 : Int) + 1) = false := by
    rw [beq_eq_false_iff_ne]
    omega
  have d3 : ((n.1 : Int) + 1) % 18446744073709551616 = (n.1 : Int) + 1 := by omega
  obtain ⟨c0, hc0⟩ : ∃ c0, c0 = n.1 := ⟨_, rfl⟩
  obtain ⟨c1, hc1⟩ : ∃ c1, c1 = s.1 := ⟨_, rfl⟩
  rw [← hc0] at x0 d1 d2 d3 hn
  rw [← hc1] at x1 d2
  clear hc0 hc1 hf
  go_enter Try.func11, Try.ntmps11
  go_wp2_with (first
    | (refine wpList_load_rowg (by rfl) 39 _ (by rfl) (w.heap.size) (by rfl) 39 (rgC n v) (0, 0) _ (by exact r0) Try.underlying39 (by rfl) (rgSize.trans (by rw [rgC_size])) ?_; simp only [Act.put, List.setIfInBounds_toArray, List.set_cons_zero, List.set_cons_succ])
    | (refine wpList_store_row (by rfl) 39 _ _ (by rfl) (w.heap.size + 3) (rgC n v) (by rfl) (by rfl) 39 (_) (by exact r3) (rgSize.trans (by rw [rgC_size])) (by simp only [rgC_size]) (HAL.out) ?_; simp only [Act.put, List.setIfInBounds_toArray, List.set_cons_zero, List.set_cons_succ])
    | fail)
  try simp only [Exit.inBlock, Exit.then]
  refine bodyPost_ret (results_row3 Try.results11 _ _ (w.heap.size + 3) 39 (rgC n v) (0, 0) _ rfl (r3.set _) Try.underlying39 rfl (rgSize.trans (by rw [rgC_size]))) rfl ?_
  exact ⟨rfl, below_setRow hb (by omega) _⟩
end Go.Proofs.Ytdhbjcnbdfidcaa

namespace Go.Proofs.Ytdhbjcnbdfidcaa
open Go Go.RowKit
set_option linter.unusedSimpArgs false
set_option linter.unusedVariables false

set_option maxRecDepth 100000 in
set_option maxHeartbeats 4000000 in
theorem refWrite_not (n s : Sl) (a : Option Addr) (m c : Nat) (di : Bool) (hs : s.2.1 ≠ 0) (hn : n.1 < 18446744073709551615) (hf : s.1 = n.1 + 1) (w : World) : Calls Try.prog 11 #[.agg (rgC n (.slice a m c)), .agg (slC s), .bool false, .agg #[.bool false, .bool di]] w fun e w' => e = .returned (.tuple #[.agg (rgC n (.slice a m c)), .bool true, .int .i64 (if di then 4 else 0)]) ∧ Below w.heap.size w w' := by
  obtain ⟨v, hv⟩ : ∃ v, v = Value.slice a m c := ⟨_, rfl⟩
  have HV : Hid (v = .slice a m c) := hv
  rw [← hv]
  clear hv
  have HAL : Hid ((rgC n v).all (·.oneCell') = true) := by
    show _ = _
    rw [HV.out]
    exact rgC_all _ _ _ _
  have hz := zero_rg
  have r0 : Blk ((((w.alloc (.cells (rgC n v) 39)).alloc (.cells (slC s) 36)).alloc (.cells #[.bool false, .bool di] 52)).alloc (.cells (rgC sl0 (.slice none 0 0)) 39)) w.heap.size 39 (rgC n v) := (((Blk.new _ _ _).alloc _).alloc _).alloc _
  have r1 : Blk ((((w.alloc (.cells (rgC n v) 39)).alloc (.cells (slC s) 36)).alloc (.cells #[.bool false, .bool di] 52)).alloc (.cells (rgC sl0 (.slice none 0 0)) 39)) (w.heap.size + 1) 36 (slC s) := ((Blk.new1 _ _ _ _).alloc _).alloc _
  have r2 : Blk ((((w.alloc (.cells (rgC n v) 39)).alloc (.cells (slC s) 36)).alloc (.cells #[.bool false, .bool di] 52)).alloc (.cells (rgC sl0 (.slice none 0 0)) 39)) (w.heap.size + 2) 52 #[.bool false, .bool di] := (Blk.new2 _ _ _ _ _).alloc _
  have r3 : Blk ((((w.alloc (.cells (rgC n v) 39)).alloc (.cells (slC s) 36)).alloc (.cells #[.bool false, .bool di] 52)).alloc (.cells (rgC sl0 (.slice none 0 0)) 39)) (w.heap.size + 3) 39 (rgC sl0 (.slice none 0 0)) := by
    have := Blk.new (((w.alloc (.cells (rgC n v) 39)).alloc (.cells (slC s) 36)).alloc (.cells #[.bool false, .bool di] 52)) 39 (rgC sl0 (.slice none 0 0))
    rwa [show (((w.alloc (.cells (rgC n v) 39)).alloc (.cells (slC s) 36)).alloc (.cells #[.bool false, .bool di] 52)).heap.size = w.heap.size + 3 by simp] at this
  have hb : Below w.heap.size w ((((w.alloc (.cells (rgC n v) 39)).alloc (.cells (slC s) 36)).alloc (.cells #[.bool false, .bool di] 52)).alloc (.cells (rgC sl0 (.slice none 0 0)) 39)) := (below_new3 _ _ _ _).alloc (by simp; omega) _
  have hs4 : ((((w.alloc (.cells (rgC n v) 39)).alloc (.cells (slC s) 36)).alloc (.cells #[.bool false, .bool di] 52)).alloc (.cells (rgC sl0 (.slice none 0 0)) 39)).heap.size = w.heap.size + 4 := by simp
  have x0 : ((((w.alloc (.cells (rgC n v) 39)).alloc (.cells (slC s) 36)).alloc (.cells #[.bool false, .bool di] 52)).alloc (.cells (rgC sl0 (.slice none 0 0)) 39)).cell? ⟨w.heap.size, 0, none⟩ = some (.int .u64 (n.1 : Int)) := rg_now _ _ r0
  have x1 : ((((w.alloc (.cells (rgC n v) 39)).alloc (.cells (slC s) 36)).alloc (.cells #[.bool false, .bool di] 52)).alloc (.cells (rgC sl0 (.slice none 0 0)) 39)).cell? ⟨w.heap.size + 1, 0, none⟩ = some (.int .u64 (s.1 : Int)) := by
    rw [r1.cell]
    exact va_at (slF s) (by decide)
  have x2 : ((((w.alloc (.cells (rgC n v) 39)).alloc (.cells (slC s) 36)).alloc (.cells #[.bool false, .bool di] 52)).alloc (.cells (rgC sl0 (.slice none 0 0)) 39)).cell? ⟨w.heap.size + 1, 1, none⟩ = some (.int .u32 (s.2.1 : Int)) := by
    rw [r1.cell]
    exact va_at (slF s) (by decide)
  have d0 : ((s.2.1 : Int) == 0) = false := by simpa using hs
  have d1 : ((n.1 : Int) == 18446744073709551615) = false := by
    rw [beq_eq_false_iff_ne]
    omega
  have d3 : ((n.1 : Int) + 1) % 18446744073709551616 = (n.1 : Int) + 1 := by omega
  have d4 : (s.1 : Int) = (n.1 : Int) + 1 := by omega
  rw [d4] at x1
  have y0 : ((((w.alloc (.cells (rgC n v) 39)).alloc (.cells (slC s) 36)).alloc (.cells #[.bool false, .bool di] 52)).alloc (.cells (rgC sl0 (.slice none 0 0)) 39)).cell? ⟨w.heap.size + 2, 0, none⟩ = some (.bool false) := by
    rw [r2.cell]
    rfl
  have y1 : ((((w.alloc (.cells (rgC n v) 39)).alloc (.cells (slC s) 36)).alloc (.cells #[.bool false, .bool di] 52)).alloc (.cells (rgC sl0 (.slice none 0 0)) 39)).cell? ⟨w.heap.size + 2, 1, none⟩ = some (.bool di) := by
    rw [r2.cell]
    rfl
  cases di
  · go_enter Try.func11, Try.ntmps11
    go_wp2_with (first
      | (refine wpList_load_rowg (by rfl) 39 _ (by rfl) (w.heap.size) (by rfl) 39 (rgC n v) (0, 0) _ (by exact r0) Try.underlying39 (by rfl) (rgSize.trans (by rw [rgC_size])) ?_; simp only [Act.put, List.setIfInBounds_toArray, List.set_cons_zero, List.set_cons_succ])
      | (refine wpList_store_row (by rfl) 39 _ _ (by rfl) (w.heap.size + 3) (rgC n v) (by rfl) (by rfl) 39 (_) (by exact r3) (rgSize.trans (by rw [rgC_size])) (by simp only [rgC_size]) (HAL.out) ?_; simp only [Act.put, List.setIfInBounds_toArray, List.set_cons_zero, List.set_cons_succ])
      | fail)
    try simp only [Exit.inBlock, Exit.then]
    refine bodyPost_ret (results_row3 Try.results11 _ _ (w.heap.size + 3) 39 (rgC n v) (0, 0) _ rfl (r3.set _) Try.underlying39 rfl (rgSize.trans (by rw [rgC_size]))) rfl ?_
    exact ⟨rfl, below_setRow hb (by omega) _⟩
  · go_enter Try.func11, Try.ntmps11
    go_wp2_with (first
      | (refine wpList_load_rowg (by rfl) 39 _ (by rfl) (w.heap.size) (by rfl) 39 (rgC n v) (0, 0) _ (by exact r0) Try.underlying39 (by rfl) (rgSize.trans (by rw [rgC_size])) ?_; simp only [Act.put, List.setIfInBounds_toArray, List.set_cons_zero, List.set_cons_succ])
      | (refine wpList_store_row (by rfl) 39 _ _ (by rfl) (w.heap.size + 3) (rgC n v) (by rfl) (by rfl) 39 (_) (by exact r3) (rgSize.trans (by rw [rgC_size])) (by simp only [rgC_size]) (HAL.out) ?_; simp only [Act.put, List.setIfInBounds_toArray, List.set_cons_zero, List.set_cons_succ])
      | fail)
    try simp only [Exit.inBlock, Exit.then]
    refine bodyPost_ret (results_row3 Try.results11 _ _ (w.heap.size + 3) 39 (rgC n v) (0, 0) _ rfl (r3.set _) Try.underlying39 rfl (rgSize.trans (by rw [rgC_size]))) rfl ?_
    exact ⟨rfl, below_setRow hb (by omega) _⟩
end Go.Proofs.Ytdhbjcnbdfidcaa

namespace Go.Proofs.Ytdhbjcnbdfidcaa
open Go Go.RowKit

/-- the plan of a region's walk -/
inductive PlanW where
  | fin (takes : List Nat)
  | force (ts : List Nat) (i : Nat) (next : PlanW)
  | yield (ts : List Nat) (i : Nat) (next : PlanW)
  | fork (i j : Nat) (p q : PlanW)
def PlanW.len (tl : List Nat) : PlanW → Nat
  | .fin takes => takes.length + tl.length
  | .force ts _ p => ts.length + (1 + p.len tl)
  | .yield ts _ p => ts.length + (1 + p.len tl)
  | .fork _ _ p _ => p.len tl + 1
/-- the check -/
def PlanW.ok (ops : Array Oper) (tl : List Nat) : PlanW → Array Bool → Bool
  | .fin takes, listed => match takesB .any ops tl [] takes listed with
    | some l => tailB .any ops tl tl l
    | none => false
  | .force ts i p, listed => match takesB .any ops tl [] ts listed with
    | some l => forceW .any ops l i && !tl.contains i && p.ok ops tl (l.setIfInBounds i true)
    | none => false
  | .yield ts i p, listed => match takesB .any ops tl [] ts listed with
    | some l => yieldW .any ops l tl i && p.ok ops tl (l.setIfInBounds i true)
    | none => false
  | .fork i j p q, listed => Region.ready .any ops listed == [i, j] && (ops[i]?).isSome && (ops[j]?).isSome && !tl.contains i && !tl.contains j && p.len tl == q.len tl && p.ok ops tl (listed.setIfInBounds i true) && q.ok ops tl (listed.setIfInBounds j true)
def PlanW.whole (ops : Array Oper) (tl : List Nat) (p : PlanW) : Bool := p.len tl == ops.size && Region.noSelect ops && p.ok ops tl (Array.replicate ops.size false)
section
variable {P : Program} {ops : Array Oper} {Q : Exit → Act → World → Prop} {S : World → Prop}
/-- the walk -/
def wpPlanW (P : Program) (ops : Array Oper) (Q : Exit → Act → World → Prop) (S : World → Prop) (tl : List Nat) : PlanW → Act → World → Prop
  | .fin takes, a, w => wpList P ops (Strict Q) ((takes ++ tl).filterMap fun i => ops[i]?) a w
  | .force ts i p, a, w => wpList P ops (Strict fun _ a' w' => S w' ∧ wpPlanW P ops Q S tl p a' w') ((ts ++ [i]).filterMap fun i => ops[i]?) a w
  | .yield ts i p, a, w => wpList P ops (Strict fun _ a' w' => ∃ o v, ops[i]? = some o ∧ YieldsIf P ops S o v a' ∧ wpPlanW P ops Q S tl p (a'.put o.dst v) w') ((ts ++ []).filterMap fun i => ops[i]?) a w
  | .fork i j p q, a, w => wpList P ops (Strict fun _ a' w' => S w' ∧ wpPlanW P ops Q S tl p a' w') ([i].filterMap fun i => ops[i]?) a w ∧ wpList P ops (Strict fun _ a' w' => S w' ∧ wpPlanW P ops Q S tl q a' w') ([j].filterMap fun i => ops[i]?) a w
theorem planW_step (hs : Region.noSelect ops = true) (tl : List Nat) : ∀ (p : PlanW) (listed : Array Bool) (a : Act) (w : World), p.ok ops tl listed = true → S w →
      wpPlanW P ops Q S tl p a w → wpAnyW P .any ops (Strict Q) S (tl.contains ·) (p.len tl) listed a w
  | .fin takes, listed, a, w, hb, hS, h => by
    unfold PlanW.ok at hb
    split at hb
    · rename_i l2 hl2
      exact takesS_step hs tl tl.length Q takes listed l2 a w hl2 (fun a' w' _ h' => tailS_step tl l2 a' w' hb h') hS h
    · cases hb
  | .force ts i p, listed, a, w, hb, hS, h => by
    unfold PlanW.ok at hb
    split at hb
    · rename_i l2 hl2
      simp only [Bool.and_eq_true] at hb
      refine takesS_step hs [i] _ _ ts listed l2 a w hl2 (fun a' w' _ h' => ?_) hS h
      obtain ⟨o, ho⟩ := has_op' hb.1.1
      rw [Nat.add_comm 1]
      refine forceS_step hb.1.1 (wpOp_mono (fun a2 w2 h2 => ?_) (wpOp_strict (wpList_one ho h')))
      have h3 := h2.2
      exact ⟨fun _ => h3.1, planW_step hs tl p _ a2 w2 hb.2 h3.1 h3.2⟩
    · cases hb
  | .yield ts i p, listed, a, w, hb, hS, h => by
    unfold PlanW.ok at hb
    split at hb
    · rename_i l2 hl2
      simp only [Bool.and_eq_true] at hb
      refine takesS_step hs [] _ _ ts listed l2 a w hl2 (fun a' w' hS' h' => ?_) hS h
      obtain ⟨-, o, v, ho, hy, hn⟩ := h'
      have hc := hb.1
      unfold yieldW at hc
      rw [ho] at hc
      simp only [Bool.and_eq_true, Bool.not_eq_true'] at hc
      rw [Nat.add_comm 1]
      exact takeS_gen hs ho hc.1.1.1 hc.1.1.2 hc.1.2 hc.2 hy hS' (planW_step hs tl p _ _ w' hb.2 hS' hn)
    · cases hb
  | .fork i j p q, listed, a, w, hb, hS, h => by
    simp only [PlanW.ok, Bool.and_eq_true, beq_iff_eq] at hb
    obtain ⟨⟨⟨⟨⟨⟨⟨hr, hi⟩, hj⟩, _⟩, _⟩, hl⟩, hp⟩, hq⟩ := hb
    refine ⟨fun h0 => (by rw [h0] at hr; cases hr), fun x hx => ?_⟩
    rw [hr] at hx
    have hx2 : x = i ∨ x = j := by simpa using hx
    rcases hx2 with rfl | rfl
    · obtain ⟨o, ho⟩ := Option.isSome_iff_exists.1 hi
      refine wpOp_mono (fun a' w' h' => ?_) (wpOp_strict (wpList_one ho h.1))
      exact ⟨fun _ => h'.2.1, planW_step hs tl p _ a' w' hp h'.2.1 h'.2.2⟩
    · obtain ⟨o, ho⟩ := Option.isSome_iff_exists.1 hj
      refine wpOp_mono (fun a' w' h' => ?_) (wpOp_strict (wpList_one ho h.2))
      have := planW_step hs tl q _ a' w' hq h'.2.1 h'.2.2
      rw [← hl] at this
      exact ⟨fun _ => h'.2.1, this⟩
/-- THE LAW. -/
theorem wp_region_planW {id : Nat} {a : Act} {w : World} (S : World → Prop) (tl : List Nat) (p : PlanW) (hm : P.follows .mixedOrders = true) (hB : p.whole ops tl = true)
    (hS : S w.drew) (h : wpPlanW P ops Q S tl p a w.drew) : (Code.region id ops true).wp P Q a w := by
  unfold PlanW.whole at hB
  simp only [Bool.and_eq_true, beq_iff_eq] at hB
  refine Code.wp_mono Strict.imp (wp_region_any hm ?_)
  rw [← hB.1.1]
  exact wpAny_of_W _ _ _ _ (planW_step hB.1.2 tl p _ a _ (by rw [hB.1.1]; exact hB.2) hS h)
theorem planW_force {tl ts : List Nat} {i : Nat} {p : PlanW} {a : Act} {w : World}
    (h : wpList P ops (Strict fun _ a' w' => S w' ∧ wpPlanW P ops Q S tl p a' w') ((ts ++ [i]).filterMap fun i => ops[i]?) a w) : wpPlanW P ops Q S tl (.force ts i p) a w := h
theorem planW_yield {tl ts : List Nat} {i : Nat} {p : PlanW} {a : Act} {w : World}
    (h : wpList P ops (Strict fun _ a' w' => ∃ o v, ops[i]? = some o ∧ YieldsIf P ops S o v a' ∧ wpPlanW P ops Q S tl p (a'.put o.dst v) w') ((ts ++ []).filterMap fun i => ops[i]?) a w) : wpPlanW P ops Q S tl (.yield ts i p) a w := h
theorem planW_fork {tl : List Nat} {i j : Nat} {p q : PlanW} {a : Act} {w : World} (h1 : wpList P ops (Strict fun _ a' w' => S w' ∧ wpPlanW P ops Q S tl p a' w') ([i].filterMap fun i => ops[i]?) a w)
    (h2 : wpList P ops (Strict fun _ a' w' => S w' ∧ wpPlanW P ops Q S tl q a' w') ([j].filterMap fun i => ops[i]?) a w) : wpPlanW P ops Q S tl (.fork i j p q) a w := ⟨h1, h2⟩
theorem planW_fin {tl takes : List Nat} {a : Act} {w : World} (h : wpList P ops (Strict Q) ((takes ++ tl).filterMap fun i => ops[i]?) a w) : wpPlanW P ops Q S tl (.fin takes) a w := h
end
end Go.Proofs.Ytdhbjcnbdfidcaa
