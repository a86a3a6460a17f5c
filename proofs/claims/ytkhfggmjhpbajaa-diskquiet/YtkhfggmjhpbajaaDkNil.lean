/- A nil disk: the program's contracts. -/
import Derived.Test.YtkhfggmjhpbajaaBlkGroups
import Derived.BigQuiet
import Derived.Deep.QuietTactic
import Derived.Handy
namespace Go.Proofs.Ytkhfggmjhpbajaa
open Go Go.RowKit
set_option linter.unusedSimpArgs false
set_option linter.unusedVariables false

theorem dkbelow_drewN {B : Nat} {w w' : World} (h : Below B w w') (n : Nat) : Below B w (w'.drewN n) := h.trans (below_drewN (Below.refl _ _) n)
set_option maxHeartbeats 1000000 in
theorem dead_nil (w : World) : Calls Try.prog 11 #[.pointer none] w fun e w' => e = .returned (.bool true) ∧ w = w' := by
  go_enter Try.func11, Try.ntmps11
  go_wp2_with fail
  go_ret
  exact ⟨rfl, rfl⟩
set_option maxHeartbeats 1000000 in
theorem ops_nil (w : World) : Calls Try.prog 12 #[.pointer none] w fun e w' => e = .returned (.int .i64 0) ∧ w = w' := by
  go_enter Try.func12, Try.ntmps12
  go_wp2_with fail
  go_ret
  exact ⟨rfl, rfl⟩
set_option maxHeartbeats 1000000 in
theorem events_nil (w : World) : Calls Try.prog 13 #[.pointer none] w fun e w' => e = .returned (.int .i64 0) ∧ w = w' := by
  go_enter Try.func13, Try.ntmps13
  go_wp2_with fail
  go_ret
  exact ⟨rfl, rfl⟩
set_option maxHeartbeats 1000000 in
theorem blocks_nil (w : World) : Calls Try.prog 14 #[.pointer none] w fun e w' => e = .returned (.int .i64 0) ∧ w = w' := by
  go_enter Try.func14, Try.ntmps14
  go_wp2_with fail
  go_ret
  exact ⟨rfl, rfl⟩
set_option maxHeartbeats 1000000 in
theorem image_nil (w : World) : Calls Try.prog 18 #[.pointer none] w fun e w' => e = .returned (.slice none 0 0) ∧ w = w' := by
  go_enter Try.func18, Try.ntmps18
  go_wp2_with fail
  go_ret
  exact ⟨rfl, rfl⟩
set_option maxHeartbeats 1000000 in
theorem log_nil (w : World) : Calls Try.prog 16 #[.pointer none] w fun e w' => e = .returned (.slice none 0 0) ∧ w = w' := by
  go_enter Try.func16, Try.ntmps16
  go_wp2_with fail
  go_ret
  exact ⟨rfl, rfl⟩
set_option maxHeartbeats 1000000 in
theorem plan_nil (a : Option Addr) (n c : Nat) (w : World) : Calls Try.prog 19 #[.pointer none, .slice a n c] w fun e w' => e = .returned (.tuple #[]) ∧ Below w.heap.size w w' := by
  go_enter Try.func19, Try.ntmps19
  go_wp2_with fail
  try simp only [Exit.inBlock, Exit.then]
  refine bodyPost_ret (results_none Try.results19 _ _ _) rfl ?_
  exact ⟨rfl, Below.refl _ _⟩
set_option maxHeartbeats 1000000 in
theorem cut_nil (e0 : Int) (f0 : Bool) (w : World) : Calls Try.prog 20 #[.pointer none, .agg #[.int .i64 e0, .bool f0]] w fun e w' => e = .returned (.tuple #[]) ∧ Below w.heap.size w w' := by
  go_enter Try.func20, Try.ntmps20
  go_wp2_with fail
  go_quiet (fail)
  go_wp2_with fail
  try simp only [Exit.inBlock, Exit.then]
  refine bodyPost_ret (results_none Try.results20 _ _ _) rfl ?_
  exact ⟨rfl, dkbelow_drewN (below_new1 _ _) _⟩
set_option maxHeartbeats 1000000 in
theorem revive_nil (w : World) : Calls Try.prog 21 #[.pointer none] w fun e w' => e = .returned (.tuple #[]) ∧ Below w.heap.size w w' := by
  go_enter Try.func21, Try.ntmps21
  go_wp2_with fail
  try simp only [Exit.inBlock, Exit.then]
  refine bodyPost_end (results_none Try.results21 _ _ _) rfl ?_
  exact ⟨rfl, Below.refl _ _⟩
set_option maxHeartbeats 1000000 in
theorem event_nil (w : World) : Calls Try.prog 23 #[.pointer none] w fun e w' => e = .returned (.tuple #[.bool false, .int .i64 4]) ∧ w = w' := by
  have hD : Hid (∀ w : World, Calls Try.prog 11 #[.pointer none] w fun e w' => e = .returned (.bool true) ∧ w = w') := dead_nil
  go_enter Try.func23, Try.ntmps23
  go_wp2_with fail
  refine (hD.out _).mono ?_
  rintro e _ ⟨rfl, rfl⟩
  go_wp2_with fail
  try simp only [Exit.inBlock, Exit.then]
  refine bodyPost_ret (results_tmp2 Try.results23 _ _ _) rfl ?_
  exact ⟨rfl, rfl⟩
set_option maxHeartbeats 1000000 in
theorem barrier_nil (w : World) : Calls Try.prog 26 #[.pointer none] w fun e w' => e = .returned (.int .i64 4) ∧ w = w' := by
  have hD : Hid (∀ w : World, Calls Try.prog 11 #[.pointer none] w fun e w' => e = .returned (.bool true) ∧ w = w') := dead_nil
  go_enter Try.func26, Try.ntmps26
  go_wp2_with fail
  refine (hD.out _).mono ?_
  rintro e _ ⟨rfl, rfl⟩
  go_wp2_with fail
  go_ret
  exact ⟨rfl, rfl⟩
set_option maxHeartbeats 1000000 in
theorem begin_nil (at0 : Int) (w : World) : Calls Try.prog 42 #[.pointer none, .int .i64 at0] w fun e w' => e = .returned (.int .i64 4) ∧ w = w' := by
  have hD : Hid (∀ w : World, Calls Try.prog 11 #[.pointer none] w fun e w' => e = .returned (.bool true) ∧ w = w') := dead_nil
  go_enter Try.func42, Try.ntmps42
  go_wp2_with fail
  refine (hD.out _).mono ?_
  rintro e _ ⟨rfl, rfl⟩
  go_wp2_with fail
  go_ret
  exact ⟨rfl, rfl⟩
set_option maxHeartbeats 1000000 in
theorem at_nil (k : Int) (hk : (Lit.int .i64 k).wf = true) (w : World) : Calls Try.prog 24 #[.pointer none, .int .i64 k] w fun e w' => e = .returned (.tuple #[.slice none 0 0, .bool false]) ∧ w = w' := by
  have hO : Hid (∀ w : World, Calls Try.prog 12 #[.pointer none] w fun e w' => e = .returned (.int .i64 0) ∧ w = w') := ops_nil
  by_cases hk0 : k < 0
  · go_enter Try.func24, Try.ntmps24
    go_wp2_with fail
    try simp only [Exit.inBlock, Exit.then]
    refine bodyPost_ret (results_tmp2 Try.results24 _ _ _) rfl ?_
    exact ⟨rfl, rfl⟩
  · go_enter Try.func24, Try.ntmps24
    go_wp2_with fail
    refine (hO.out _).mono ?_
    rintro e _ ⟨rfl, rfl⟩
    go_wp2_with fail
    try simp only [Exit.inBlock, Exit.then]
    refine bodyPost_ret (results_tmp2 Try.results24 _ _ _) rfl ?_
    exact ⟨rfl, rfl⟩
set_option maxHeartbeats 1000000 in
theorem load_nil (a : Option Addr) (n c : Nat) (w : World) : Calls Try.prog 27 #[.pointer none, .slice a n c] w fun e w' => e = .returned (.int .i64 1) ∧ w = w' := by
  go_enter Try.func27, Try.ntmps27
  go_wp2_with fail
  go_ret
  exact ⟨rfl, rfl⟩
set_option maxRecDepth 100000 in
set_option maxHeartbeats 2000000 in
theorem read_nil (at0 : Int) (w : World) : Calls Try.prog 22 #[.pointer none, .int .i64 at0] w fun e w' => e = .returned (.tuple #[.agg (va 256 (iv .u8 fun _ => 0)), .int .i64 4]) ∧ Below w.heap.size w w' := by
  have hB : Hid (∀ w : World, Calls Try.prog 42 #[.pointer none, .int .i64 at0] w fun e w' => e = .returned (.int .i64 4) ∧ w = w') := begin_nil at0
  have hz := zero_bk
  have r0 : Blk (w.alloc (.cells (va 256 (iv .u8 fun _ => 0)) 55)) w.heap.size 55 (va 256 (iv .u8 fun _ => 0)) := Blk.new _ _ _
  go_enter Try.func22, Try.ntmps22
  go_wp2_with fail
  refine (hB.out _).mono ?_
  rintro e _ ⟨rfl, rfl⟩
  go_wp2_with (first
    | (refine wpList_store_row (by rfl) 55 _ _ (by rfl) (w.heap.size) (va 256 (iv .u8 (fun _ => 0))) (by rfl) (by rfl) 55 _ r0 (sizeBk.trans (by rw [va_size])) (by simp only [va_size]) (iv_one _ _ _) ?_; simp only [Act.put, List.setIfInBounds_toArray, List.set_cons_zero, List.set_cons_succ])
    | fail)
  try simp only [Exit.inBlock, Exit.then]
  refine bodyPost_ret (results_row2 Try.results22 _ _ (w.heap.size) 55 (va 256 (iv .u8 (fun _ => 0))) (0, 0) _ rfl ((r0.set _)) Try.underlying55 rfl (sizeBk.trans (by rw [va_size]))) rfl ?_
  exact ⟨rfl, below_setRow (below_new1 _ _) (Nat.le_refl _) _⟩
set_option maxRecDepth 100000 in
set_option maxHeartbeats 2000000 in
theorem diskWrite_nil (at0 : Int) (f : Nat → Nat) (w : World) : Calls Try.prog 25 #[.pointer none, .int .i64 at0, .agg (va 256 (iv .u8 f))] w fun e w' => e = .returned (.int .i64 4) ∧ Below w.heap.size w w' := by
  have hB : Hid (∀ w : World, Calls Try.prog 42 #[.pointer none, .int .i64 at0] w fun e w' => e = .returned (.int .i64 4) ∧ w = w') := begin_nil at0
  have hz := zero_bk
  go_enter Try.func25, Try.ntmps25
  go_wp2_with fail
  refine (hB.out _).mono ?_
  rintro e _ ⟨rfl, rfl⟩
  go_wp2_with fail
  go_ret
  exact ⟨rfl, below_new1 _ _⟩
end Go.Proofs.Ytkhfggmjhpbajaa
