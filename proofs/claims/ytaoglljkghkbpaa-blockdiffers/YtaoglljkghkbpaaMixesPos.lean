/- Rounds of the program, for every state and every number from 0 to 64: what it returns; nothing below the top of the heap is changed. -/
import Derived.Test.YtaoglljkghkbpaaForth
import Derived.Handy
namespace Go.Proofs.Ytaoglljkghkbpaa
open Go.RowKit

/-- a result that lies in a block, and one in a slot -/
theorem results_pair {P : Program} {fn : Func} {p q : Tmp} {ty : TypeId} (h : fn.results = #[.cell p ty, .tmp q]) (tmps : Array Value) (w : World) (g : Nat) (t : TypeId) (cs : Array Value) (fr : Nat × Nat) (d : TypeDesc)
    (hp : tmps.getD p undef = .pointer (some ⟨g, 0, none⟩)) (hg : w.heap[g]? = some (.cells cs t fr))
    (hu : P.underlying ty = some d) (hd : (match d with | .struct _ | .array _ _ => true | _ => false) = true) (hi : (P.info? ty).map (·.size) = some cs.size) :
    (results fn tmps).run P w = .ok (.tuple #[.agg cs, tmps.getD q undef]) w := by
  have hp' : tmps[p]?.getD undef = .pointer (some ⟨g, 0, none⟩) := by simpa using hp
  simp [results, h, hp', asAddr, run_loadVar_row w g t ty cs fr d hg hu hd hi]

set_option maxHeartbeats 2000000 in
theorem rounds_pos (s : St) (h : s.ok) (n : Nat) (hn : n ≤ 64) (w : World) :
    Calls Try.prog 52 #[.agg (stA s), .int .i64 (n : Int)] w fun e w' => e = .returned (.tuple #[.agg (stA (fwd s n)), .int .i64 0]) ∧ Below w.heap.size w w' := by
  have hR : Hid (∀ w : World, Calls Try.prog 54 #[.agg #[.int .u32 ((s).x0 : Int), .int .u32 ((s).x1 : Int), .int .u32 ((s).x2 : Int), .int .u32 ((s).x3 : Int), .int .u32 ((s).x4 : Int), .int .u32 ((s).x5 : Int), .int .u32 ((s).x6 : Int), .int .u32 ((s).x7 : Int), .int .u32 ((s).x8 : Int), .int .u32 ((s).x9 : Int), .int .u32 ((s).x10 : Int), .int .u32 ((s).x11 : Int), .int .u32 ((s).x12 : Int), .int .u32 ((s).x13 : Int), .int .u32 ((s).x14 : Int), .int .u32 ((s).x15 : Int)], .int .i64 (n : Int)] w fun e w' => e = .returned (.agg #[.int .u32 ((fwd s n).x0 : Int), .int .u32 ((fwd s n).x1 : Int), .int .u32 ((fwd s n).x2 : Int), .int .u32 ((fwd s n).x3 : Int), .int .u32 ((fwd s n).x4 : Int), .int .u32 ((fwd s n).x5 : Int), .int .u32 ((fwd s n).x6 : Int), .int .u32 ((fwd s n).x7 : Int), .int .u32 ((fwd s n).x8 : Int), .int .u32 ((fwd s n).x9 : Int), .int .u32 ((fwd s n).x10 : Int), .int .u32 ((fwd s n).x11 : Int), .int .u32 ((fwd s n).x12 : Int), .int .u32 ((fwd s n).x13 : Int), .int .u32 ((fwd s n).x14 : Int), .int .u32 ((fwd s n).x15 : Int)]) ∧ Below w.heap.size w w') := fun w => forth_any s h n hn w
  generalize HY : fwd s n = y at *
  have HY' : Hid (fwd s n = y) := HY
  clear HY
  show Calls Try.prog 52 #[.agg #[.int .u32 ((s).x0 : Int), .int .u32 ((s).x1 : Int), .int .u32 ((s).x2 : Int), .int .u32 ((s).x3 : Int), .int .u32 ((s).x4 : Int), .int .u32 ((s).x5 : Int), .int .u32 ((s).x6 : Int), .int .u32 ((s).x7 : Int), .int .u32 ((s).x8 : Int), .int .u32 ((s).x9 : Int), .int .u32 ((s).x10 : Int), .int .u32 ((s).x11 : Int), .int .u32 ((s).x12 : Int), .int .u32 ((s).x13 : Int), .int .u32 ((s).x14 : Int), .int .u32 ((s).x15 : Int)], .int .i64 (n : Int)] w _
  go_enter Try.func52, Try.ntmps52
  go_wp2_with fail
  refine (hR.out _).mono ?_
  rintro e w2 ⟨rfl, hb⟩
  have hz : Blk w2 (w.heap.size + 1) 112 (stA St.zero) := by
    refine Blk.below (w := (w.alloc (.cells (stA s) 112)).alloc (.cells (stA St.zero) 112)) ?_ hb (by simp)
    have e : (w.alloc (.cells (stA s) 112)).heap.size = w.heap.size + 1 := by simp
    rw [← e]
    exact Blk.new (w.alloc (.cells (stA s) 112)) 112 (stA St.zero)
  have hb2 : Below w.heap.size w w2 := (((Below.refl _ _).alloc (Nat.le_refl _) _).alloc (by simp) _).trans (hb.mono (by simp; omega))
  have HZ : Hid (Blk (put16 w2 (w.heap.size + 1) y) (w.heap.size + 1) 112 (stA y)) := blk_put16 hz y
  have HB : Hid (Below w.heap.size w (put16 w2 (w.heap.size + 1) y)) := below_put16 hb2 (Nat.le_succ _) y
  obtain ⟨_, _, _, _, _, _, _, _, _, _, _, _, _, _, _, _⟩ := hz.cells
  obtain ⟨_, _, _, _, _, _, _, _, _, _, _, _, _, _, _, _⟩ := hz.frees
  clear hz hb2 hb
  go_wp2_with fail
  try simp only [Exit.inBlock, Exit.then]
  refine bodyPost_ret (results_pair Try.results52 _ _ (w.heap.size + 1) 112 (stA y) (0, 0) _ rfl HZ.out Try.underlying112 rfl sizeState) rfl ?_
  exact ⟨rfl, HB.out⟩

end Go.Proofs.Ytaoglljkghkbpaa
