/- Mix, Unmix and Rounds of the program, for every state and every number: what each returns; nothing below the top of the heap is changed. -/
import Derived.Test.YtcagcjabgceejaaForth
import Derived.Test.YtcagcjabgceejaaBack
import Derived.Handy
namespace Go.Proofs.Ytcagcjabgceejaa
open Go.RowKit

/-- a result that lies in a block, and one in a slot -/
theorem results_pair {P : Program} {fn : Func} {p q : Tmp} {ty : TypeId} (h : fn.results = #[.cell p ty, .tmp q]) (tmps : Array Value) (w : World) (g : Nat) (t : TypeId) (cs : Array Value) (fr : Nat × Nat) (d : TypeDesc)
    (hp : tmps.getD p undef = .pointer (some ⟨g, 0, none⟩)) (hg : w.heap[g]? = some (.cells cs t fr))
    (hu : P.underlying ty = some d) (hd : (match d with | .struct _ | .array _ _ => true | _ => false) = true) (hi : (P.info? ty).map (·.size) = some cs.size) :
    (results fn tmps).run P w = .ok (.tuple #[.agg cs, tmps.getD q undef]) w := by
  have hp' : tmps[p]?.getD undef = .pointer (some ⟨g, 0, none⟩) := by simpa using hp
  simp [results, h, hp', asAddr, run_loadVar_row w g t ty cs fr d hg hu hd hi]

set_option maxHeartbeats 2000000 in
theorem mix_any (s : St) (h : s.ok) (w : World) :
    Calls Try.prog 14 #[.agg (stA s)] w fun e w' => e = .returned (.agg (stA (fwd s 20))) ∧ Below w.heap.size w w' := by
  have hR : Hid (∀ w : World, Calls Try.prog 26 #[.agg #[.int .u32 ((s).x0 : Int), .int .u32 ((s).x1 : Int), .int .u32 ((s).x2 : Int), .int .u32 ((s).x3 : Int), .int .u32 ((s).x4 : Int), .int .u32 ((s).x5 : Int), .int .u32 ((s).x6 : Int), .int .u32 ((s).x7 : Int), .int .u32 ((s).x8 : Int), .int .u32 ((s).x9 : Int), .int .u32 ((s).x10 : Int), .int .u32 ((s).x11 : Int), .int .u32 ((s).x12 : Int), .int .u32 ((s).x13 : Int), .int .u32 ((s).x14 : Int), .int .u32 ((s).x15 : Int)], .int .i64 20] w fun e w' => e = .returned (.agg #[.int .u32 ((fwd s 20).x0 : Int), .int .u32 ((fwd s 20).x1 : Int), .int .u32 ((fwd s 20).x2 : Int), .int .u32 ((fwd s 20).x3 : Int), .int .u32 ((fwd s 20).x4 : Int), .int .u32 ((fwd s 20).x5 : Int), .int .u32 ((fwd s 20).x6 : Int), .int .u32 ((fwd s 20).x7 : Int), .int .u32 ((fwd s 20).x8 : Int), .int .u32 ((fwd s 20).x9 : Int), .int .u32 ((fwd s 20).x10 : Int), .int .u32 ((fwd s 20).x11 : Int), .int .u32 ((fwd s 20).x12 : Int), .int .u32 ((fwd s 20).x13 : Int), .int .u32 ((fwd s 20).x14 : Int), .int .u32 ((fwd s 20).x15 : Int)]) ∧ Below w.heap.size w w') := fun w => forth_any s h 20 (by decide) w
  generalize HY : fwd s 20 = y at *
  have HY' : Hid (fwd s 20 = y) := HY
  clear HY
  show Calls Try.prog 14 #[.agg #[.int .u32 ((s).x0 : Int), .int .u32 ((s).x1 : Int), .int .u32 ((s).x2 : Int), .int .u32 ((s).x3 : Int), .int .u32 ((s).x4 : Int), .int .u32 ((s).x5 : Int), .int .u32 ((s).x6 : Int), .int .u32 ((s).x7 : Int), .int .u32 ((s).x8 : Int), .int .u32 ((s).x9 : Int), .int .u32 ((s).x10 : Int), .int .u32 ((s).x11 : Int), .int .u32 ((s).x12 : Int), .int .u32 ((s).x13 : Int), .int .u32 ((s).x14 : Int), .int .u32 ((s).x15 : Int)]] w _
  go_enter Try.func14, Try.ntmps14
  go_wp2_with fail
  refine (hR.out _).mono ?_
  rintro e w2 ⟨rfl, hb⟩
  have hz : Blk w2 (w.heap.size + 1) 30 (stA St.zero) := by
    refine Blk.below (w := (w.alloc (.cells (stA s) 30)).alloc (.cells (stA St.zero) 30)) ?_ hb (by simp)
    have e : (w.alloc (.cells (stA s) 30)).heap.size = w.heap.size + 1 := by simp
    rw [← e]
    exact Blk.new (w.alloc (.cells (stA s) 30)) 30 (stA St.zero)
  have hb2 : Below w.heap.size w w2 := (((Below.refl _ _).alloc (Nat.le_refl _) _).alloc (by simp) _).trans (hb.mono (by simp; omega))
  have HZ : Hid (Blk (put16 w2 (w.heap.size + 1) y) (w.heap.size + 1) 30 (stA y)) := blk_put16 hz y
  have HB : Hid (Below w.heap.size w (put16 w2 (w.heap.size + 1) y)) := below_put16 hb2 (Nat.le_succ _) y
  obtain ⟨_, _, _, _, _, _, _, _, _, _, _, _, _, _, _, _⟩ := hz.cells
  obtain ⟨_, _, _, _, _, _, _, _, _, _, _, _, _, _, _, _⟩ := hz.frees
  clear hz hb2 hb
  go_wp2_with fail
  try simp only [Exit.inBlock, Exit.then]
  refine bodyPost_ret (results_cell_row Try.results14 _ _ (w.heap.size + 1) 30 (stA y) (0, 0) _ rfl HZ.out Try.underlying30 rfl sizeState) rfl ?_
  exact ⟨rfl, HB.out⟩

set_option maxHeartbeats 2000000 in
theorem unmix_any (s : St) (h : s.ok) (w : World) :
    Calls Try.prog 16 #[.agg (stA s)] w fun e w' => e = .returned (.agg (stA (bk 20 s 20))) ∧ Below w.heap.size w w' := by
  have hR : Hid (∀ w : World, Calls Try.prog 27 #[.agg #[.int .u32 ((s).x0 : Int), .int .u32 ((s).x1 : Int), .int .u32 ((s).x2 : Int), .int .u32 ((s).x3 : Int), .int .u32 ((s).x4 : Int), .int .u32 ((s).x5 : Int), .int .u32 ((s).x6 : Int), .int .u32 ((s).x7 : Int), .int .u32 ((s).x8 : Int), .int .u32 ((s).x9 : Int), .int .u32 ((s).x10 : Int), .int .u32 ((s).x11 : Int), .int .u32 ((s).x12 : Int), .int .u32 ((s).x13 : Int), .int .u32 ((s).x14 : Int), .int .u32 ((s).x15 : Int)], .int .i64 20] w fun e w' => e = .returned (.agg #[.int .u32 ((bk 20 s 20).x0 : Int), .int .u32 ((bk 20 s 20).x1 : Int), .int .u32 ((bk 20 s 20).x2 : Int), .int .u32 ((bk 20 s 20).x3 : Int), .int .u32 ((bk 20 s 20).x4 : Int), .int .u32 ((bk 20 s 20).x5 : Int), .int .u32 ((bk 20 s 20).x6 : Int), .int .u32 ((bk 20 s 20).x7 : Int), .int .u32 ((bk 20 s 20).x8 : Int), .int .u32 ((bk 20 s 20).x9 : Int), .int .u32 ((bk 20 s 20).x10 : Int), .int .u32 ((bk 20 s 20).x11 : Int), .int .u32 ((bk 20 s 20).x12 : Int), .int .u32 ((bk 20 s 20).x13 : Int), .int .u32 ((bk 20 s 20).x14 : Int), .int .u32 ((bk 20 s 20).x15 : Int)]) ∧ Below w.heap.size w w') := fun w => back_any s h 20 (by decide) w
  generalize HY : bk 20 s 20 = y at *
  have HY' : Hid (bk 20 s 20 = y) := HY
  clear HY
  show Calls Try.prog 16 #[.agg #[.int .u32 ((s).x0 : Int), .int .u32 ((s).x1 : Int), .int .u32 ((s).x2 : Int), .int .u32 ((s).x3 : Int), .int .u32 ((s).x4 : Int), .int .u32 ((s).x5 : Int), .int .u32 ((s).x6 : Int), .int .u32 ((s).x7 : Int), .int .u32 ((s).x8 : Int), .int .u32 ((s).x9 : Int), .int .u32 ((s).x10 : Int), .int .u32 ((s).x11 : Int), .int .u32 ((s).x12 : Int), .int .u32 ((s).x13 : Int), .int .u32 ((s).x14 : Int), .int .u32 ((s).x15 : Int)]] w _
  go_enter Try.func16, Try.ntmps16
  go_wp2_with fail
  refine (hR.out _).mono ?_
  rintro e w2 ⟨rfl, hb⟩
  have hz : Blk w2 (w.heap.size + 1) 30 (stA St.zero) := by
    refine Blk.below (w := (w.alloc (.cells (stA s) 30)).alloc (.cells (stA St.zero) 30)) ?_ hb (by simp)
    have e : (w.alloc (.cells (stA s) 30)).heap.size = w.heap.size + 1 := by simp
    rw [← e]
    exact Blk.new (w.alloc (.cells (stA s) 30)) 30 (stA St.zero)
  have hb2 : Below w.heap.size w w2 := (((Below.refl _ _).alloc (Nat.le_refl _) _).alloc (by simp) _).trans (hb.mono (by simp; omega))
  have HZ : Hid (Blk (put16 w2 (w.heap.size + 1) y) (w.heap.size + 1) 30 (stA y)) := blk_put16 hz y
  have HB : Hid (Below w.heap.size w (put16 w2 (w.heap.size + 1) y)) := below_put16 hb2 (Nat.le_succ _) y
  obtain ⟨_, _, _, _, _, _, _, _, _, _, _, _, _, _, _, _⟩ := hz.cells
  obtain ⟨_, _, _, _, _, _, _, _, _, _, _, _, _, _, _, _⟩ := hz.frees
  clear hz hb2 hb
  go_wp2_with fail
  try simp only [Exit.inBlock, Exit.then]
  refine bodyPost_ret (results_cell_row Try.results16 _ _ (w.heap.size + 1) 30 (stA y) (0, 0) _ rfl HZ.out Try.underlying30 rfl sizeState) rfl ?_
  exact ⟨rfl, HB.out⟩

set_option maxHeartbeats 2000000 in
theorem rounds_pos (s : St) (h : s.ok) (n : Nat) (hn : n ≤ 64) (w : World) :
    Calls Try.prog 17 #[.agg (stA s), .int .i64 (n : Int)] w fun e w' => e = .returned (.tuple #[.agg (stA (fwd s n)), .int .i64 0]) ∧ Below w.heap.size w w' := by
  have hR : Hid (∀ w : World, Calls Try.prog 26 #[.agg #[.int .u32 ((s).x0 : Int), .int .u32 ((s).x1 : Int), .int .u32 ((s).x2 : Int), .int .u32 ((s).x3 : Int), .int .u32 ((s).x4 : Int), .int .u32 ((s).x5 : Int), .int .u32 ((s).x6 : Int), .int .u32 ((s).x7 : Int), .int .u32 ((s).x8 : Int), .int .u32 ((s).x9 : Int), .int .u32 ((s).x10 : Int), .int .u32 ((s).x11 : Int), .int .u32 ((s).x12 : Int), .int .u32 ((s).x13 : Int), .int .u32 ((s).x14 : Int), .int .u32 ((s).x15 : Int)], .int .i64 (n : Int)] w fun e w' => e = .returned (.agg #[.int .u32 ((fwd s n).x0 : Int), .int .u32 ((fwd s n).x1 : Int), .int .u32 ((fwd s n).x2 : Int), .int .u32 ((fwd s n).x3 : Int), .int .u32 ((fwd s n).x4 : Int), .int .u32 ((fwd s n).x5 : Int), .int .u32 ((fwd s n).x6 : Int), .int .u32 ((fwd s n).x7 : Int), .int .u32 ((fwd s n).x8 : Int), .int .u32 ((fwd s n).x9 : Int), .int .u32 ((fwd s n).x10 : Int), .int .u32 ((fwd s n).x11 : Int), .int .u32 ((fwd s n).x12 : Int), .int .u32 ((fwd s n).x13 : Int), .int .u32 ((fwd s n).x14 : Int), .int .u32 ((fwd s n).x15 : Int)]) ∧ Below w.heap.size w w') := fun w => forth_any s h n hn w
  generalize HY : fwd s n = y at *
  have HY' : Hid (fwd s n = y) := HY
  clear HY
  show Calls Try.prog 17 #[.agg #[.int .u32 ((s).x0 : Int), .int .u32 ((s).x1 : Int), .int .u32 ((s).x2 : Int), .int .u32 ((s).x3 : Int), .int .u32 ((s).x4 : Int), .int .u32 ((s).x5 : Int), .int .u32 ((s).x6 : Int), .int .u32 ((s).x7 : Int), .int .u32 ((s).x8 : Int), .int .u32 ((s).x9 : Int), .int .u32 ((s).x10 : Int), .int .u32 ((s).x11 : Int), .int .u32 ((s).x12 : Int), .int .u32 ((s).x13 : Int), .int .u32 ((s).x14 : Int), .int .u32 ((s).x15 : Int)], .int .i64 (n : Int)] w _
  go_enter Try.func17, Try.ntmps17
  go_wp2_with fail
  refine (hR.out _).mono ?_
  rintro e w2 ⟨rfl, hb⟩
  have hz : Blk w2 (w.heap.size + 1) 30 (stA St.zero) := by
    refine Blk.below (w := (w.alloc (.cells (stA s) 30)).alloc (.cells (stA St.zero) 30)) ?_ hb (by simp)
    have e : (w.alloc (.cells (stA s) 30)).heap.size = w.heap.size + 1 := by simp
    rw [← e]
    exact Blk.new (w.alloc (.cells (stA s) 30)) 30 (stA St.zero)
  have hb2 : Below w.heap.size w w2 := (((Below.refl _ _).alloc (Nat.le_refl _) _).alloc (by simp) _).trans (hb.mono (by simp; omega))
  have HZ : Hid (Blk (put16 w2 (w.heap.size + 1) y) (w.heap.size + 1) 30 (stA y)) := blk_put16 hz y
  have HB : Hid (Below w.heap.size w (put16 w2 (w.heap.size + 1) y)) := below_put16 hb2 (Nat.le_succ _) y
  obtain ⟨_, _, _, _, _, _, _, _, _, _, _, _, _, _, _, _⟩ := hz.cells
  obtain ⟨_, _, _, _, _, _, _, _, _, _, _, _, _, _, _, _⟩ := hz.frees
  clear hz hb2 hb
  go_wp2_with fail
  try simp only [Exit.inBlock, Exit.then]
  refine bodyPost_ret (results_pair Try.results17 _ _ (w.heap.size + 1) 30 (stA y) (0, 0) _ rfl HZ.out Try.underlying30 rfl sizeState) rfl ?_
  exact ⟨rfl, HB.out⟩

set_option maxHeartbeats 2000000 in
theorem rounds_neg (s : St) (h : s.ok) (n : Nat) (h0 : 1 ≤ n) (hn : n ≤ 64) (w : World) :
    Calls Try.prog 17 #[.agg (stA s), .int .i64 (-(n : Int))] w fun e w' => e = .returned (.tuple #[.agg (stA (bk n s n)), .int .i64 0]) ∧ Below w.heap.size w w' := by
  have hR : Hid (∀ w : World, Calls Try.prog 27 #[.agg #[.int .u32 ((s).x0 : Int), .int .u32 ((s).x1 : Int), .int .u32 ((s).x2 : Int), .int .u32 ((s).x3 : Int), .int .u32 ((s).x4 : Int), .int .u32 ((s).x5 : Int), .int .u32 ((s).x6 : Int), .int .u32 ((s).x7 : Int), .int .u32 ((s).x8 : Int), .int .u32 ((s).x9 : Int), .int .u32 ((s).x10 : Int), .int .u32 ((s).x11 : Int), .int .u32 ((s).x12 : Int), .int .u32 ((s).x13 : Int), .int .u32 ((s).x14 : Int), .int .u32 ((s).x15 : Int)], .int .i64 (n : Int)] w fun e w' => e = .returned (.agg #[.int .u32 ((bk n s n).x0 : Int), .int .u32 ((bk n s n).x1 : Int), .int .u32 ((bk n s n).x2 : Int), .int .u32 ((bk n s n).x3 : Int), .int .u32 ((bk n s n).x4 : Int), .int .u32 ((bk n s n).x5 : Int), .int .u32 ((bk n s n).x6 : Int), .int .u32 ((bk n s n).x7 : Int), .int .u32 ((bk n s n).x8 : Int), .int .u32 ((bk n s n).x9 : Int), .int .u32 ((bk n s n).x10 : Int), .int .u32 ((bk n s n).x11 : Int), .int .u32 ((bk n s n).x12 : Int), .int .u32 ((bk n s n).x13 : Int), .int .u32 ((bk n s n).x14 : Int), .int .u32 ((bk n s n).x15 : Int)]) ∧ Below w.heap.size w w') := fun w => back_any s h n hn w
  generalize HY : bk n s n = y at *
  have HY' : Hid (bk n s n = y) := HY
  clear HY
  show Calls Try.prog 17 #[.agg #[.int .u32 ((s).x0 : Int), .int .u32 ((s).x1 : Int), .int .u32 ((s).x2 : Int), .int .u32 ((s).x3 : Int), .int .u32 ((s).x4 : Int), .int .u32 ((s).x5 : Int), .int .u32 ((s).x6 : Int), .int .u32 ((s).x7 : Int), .int .u32 ((s).x8 : Int), .int .u32 ((s).x9 : Int), .int .u32 ((s).x10 : Int), .int .u32 ((s).x11 : Int), .int .u32 ((s).x12 : Int), .int .u32 ((s).x13 : Int), .int .u32 ((s).x14 : Int), .int .u32 ((s).x15 : Int)], .int .i64 (-(n : Int))] w _
  go_enter Try.func17, Try.ntmps17
  go_wp2_with fail
  refine (hR.out _).mono ?_
  rintro e w2 ⟨rfl, hb⟩
  have hz : Blk w2 (w.heap.size + 1) 30 (stA St.zero) := by
    refine Blk.below (w := (w.alloc (.cells (stA s) 30)).alloc (.cells (stA St.zero) 30)) ?_ hb (by simp)
    have e : (w.alloc (.cells (stA s) 30)).heap.size = w.heap.size + 1 := by simp
    rw [← e]
    exact Blk.new (w.alloc (.cells (stA s) 30)) 30 (stA St.zero)
  have hb2 : Below w.heap.size w w2 := (((Below.refl _ _).alloc (Nat.le_refl _) _).alloc (by simp) _).trans (hb.mono (by simp; omega))
  have HZ : Hid (Blk (put16 w2 (w.heap.size + 1) y) (w.heap.size + 1) 30 (stA y)) := blk_put16 hz y
  have HB : Hid (Below w.heap.size w (put16 w2 (w.heap.size + 1) y)) := below_put16 hb2 (Nat.le_succ _) y
  obtain ⟨_, _, _, _, _, _, _, _, _, _, _, _, _, _, _, _⟩ := hz.cells
  obtain ⟨_, _, _, _, _, _, _, _, _, _, _, _, _, _, _, _⟩ := hz.frees
  clear hz hb2 hb
  go_wp2_with fail
  try simp only [Exit.inBlock, Exit.then]
  refine bodyPost_ret (results_pair Try.results17 _ _ (w.heap.size + 1) 30 (stA y) (0, 0) _ rfl HZ.out Try.underlying30 rfl sizeState) rfl ?_
  exact ⟨rfl, HB.out⟩

set_option maxHeartbeats 2000000 in
theorem rounds_bad (s : St) (n : Int) (hn : n < -64 ∨ 64 < n) (w : World) :
    Calls Try.prog 17 #[.agg (stA s), .int .i64 n] w fun e w' => e = .returned (.tuple #[.agg (stA St.zero), .int .i64 1]) ∧ Below w.heap.size w w' := by
  rcases hn with hn | hn
  · go_enter Try.func17, Try.ntmps17
    go_wp2
    go_returns
    refine ⟨by rfl, ?_⟩
    go_grown
  · go_enter Try.func17, Try.ntmps17
    go_wp2
    go_returns
    refine ⟨by rfl, ?_⟩
    go_grown

end Go.Proofs.Ytcagcjabgceejaa
