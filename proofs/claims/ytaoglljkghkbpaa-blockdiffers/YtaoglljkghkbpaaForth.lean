/- The loop of rounds in the program: the state behind as many rounds; nothing below the top of the heap is changed. -/
import Derived.Test.YtaoglljkghkbpaaRoundsAny
import Derived.Test.YtaoglljkghkbpaaStateKit
import Derived.Deep.RegionWith
import Derived.Deep.DrawnRows
namespace Go.Proofs.Ytaoglljkghkbpaa
open Go.RowKit
attribute [local go_sem ↓] Go.wp_at_zero Go.wp_at_succ

set_option maxHeartbeats 4000000 in
theorem forth_any (s : St) (h : s.ok) (n : Nat) (hn : n ≤ 64) (w : World) :
    Calls Try.prog 54 #[.agg (stA s), .int .i64 (n : Int)] w fun e w' => e = .returned (.agg (stA (fwd s n))) ∧ Below w.heap.size w w' := by
  go_enter Try.func54, Try.ntmps54
  go_wp2_with fail
  go_loopw [7] (fun i wr => ∃ k : Nat, k ≤ n ∧ i = .int .i64 k ∧ Blk wr w.heap.size 112 (stA (fwd s k)) ∧ Blk wr (w.heap.size + 1) 112 (stA St.zero) ∧ Below w.heap.size w wr) (fun i _ => n - (intOf i).toNat)
  case atStart =>
    refine ⟨0, by omega, rfl, (Blk.new w 112 _).alloc _, ?_, ((Below.refl _ _).alloc (Nat.le_refl _) _).alloc (by simp) _⟩
    have e : (w.alloc (.cells (stA s) 112)).heap.size = w.heap.size + 1 := by simp
    rw [← e]
    exact Blk.new (w.alloc (.cells (stA s) 112)) 112 (stA St.zero)
  case round =>
    obtain ⟨k, hk, rfl, hg, hz, hbel⟩ := hrel
    by_cases hlt : k < n
    · have hR : Hid (∀ w : World, Calls Try.prog 57 #[.agg #[.int .u32 ((fwd s k).x0 : Int), .int .u32 ((fwd s k).x1 : Int), .int .u32 ((fwd s k).x2 : Int), .int .u32 ((fwd s k).x3 : Int), .int .u32 ((fwd s k).x4 : Int), .int .u32 ((fwd s k).x5 : Int), .int .u32 ((fwd s k).x6 : Int), .int .u32 ((fwd s k).x7 : Int), .int .u32 ((fwd s k).x8 : Int), .int .u32 ((fwd s k).x9 : Int), .int .u32 ((fwd s k).x10 : Int), .int .u32 ((fwd s k).x11 : Int), .int .u32 ((fwd s k).x12 : Int), .int .u32 ((fwd s k).x13 : Int), .int .u32 ((fwd s k).x14 : Int), .int .u32 ((fwd s k).x15 : Int)], .bool (decide (k % 2 = 1))] w fun e w' => e = .returned (.agg #[.int .u32 ((fwd s (k + 1)).x0 : Int), .int .u32 ((fwd s (k + 1)).x1 : Int), .int .u32 ((fwd s (k + 1)).x2 : Int), .int .u32 ((fwd s (k + 1)).x3 : Int), .int .u32 ((fwd s (k + 1)).x4 : Int), .int .u32 ((fwd s (k + 1)).x5 : Int), .int .u32 ((fwd s (k + 1)).x6 : Int), .int .u32 ((fwd s (k + 1)).x7 : Int), .int .u32 ((fwd s (k + 1)).x8 : Int), .int .u32 ((fwd s (k + 1)).x9 : Int), .int .u32 ((fwd s (k + 1)).x10 : Int), .int .u32 ((fwd s (k + 1)).x11 : Int), .int .u32 ((fwd s (k + 1)).x12 : Int), .int .u32 ((fwd s (k + 1)).x13 : Int), .int .u32 ((fwd s (k + 1)).x14 : Int), .int .u32 ((fwd s (k + 1)).x15 : Int)]) ∧ Below w.heap.size w w') := fun w => round_any _ _ (fwd_ok s h k) w
      have hO : Hid (∀ (z : Int) (w : World), z = (k : Int) → Calls Try.prog 56 #[.int .i64 z] w fun e w' => e = .returned (.bool (decide (k % 2 = 1))) ∧ w' = w) := fun z w hz => by rw [hz]; exact isOdd_any _ w
      have HG : Hid (Blk wr w.heap.size 112 (stA (fwd s k))) := hg
      have HZ : Hid (Blk wr (w.heap.size + 1) 112 (stA St.zero)) := hz
      have HL := hz.lt
      have HB : Hid (Below w.heap.size w wr) := hbel
      obtain ⟨_, _, _, _, _, _, _, _, _, _, _, _, _, _, _, _⟩ := hg.cells
      clear hg hz hbel
      generalize HY : fwd s (k + 1) = y at *
      generalize fwd s k = x at *
      generalize decide (k % 2 = 1) = b at *
      have HY' : Hid (fwd s (k + 1) = y) := HY
      clear HY
      go_wp2_with fail
      go_region_with (first
        | (go_at_call 56; refine (hO.out _ _ rfl).mono ?_; rintro e w2 ⟨rfl, rfl⟩)
        | (go_at_call 57; refine (hR.out _).mono ?_; rintro e w2 ⟨rfl, hb⟩; obtain ⟨_, _, _, _, _, _, _, _, _, _, _, _, _, _, _, _⟩ := (HG.out.drew.below hb (by simp; omega)).cells; obtain ⟨_, _, _, _, _, _, _, _, _, _, _, _, _, _, _, _⟩ := (HG.out.drew.below hb (by simp; omega)).frees))
      all_goals
        have hg2 := HG.out.drew.below hb (by simp; omega)
        have hz2 := HZ.out.drew.below hb (by simp; omega)
        have hb2 : Below w.heap.size w w2 := HB.out.drew.trans (hb.mono (by simp; omega))
        go_wp2_with fail
        go_roundw
        case rel =>
          refine ⟨k + 1, by omega, by go_num, ?_, ?_, ?_⟩
          · rw [HY'.out]; exact blk_put16 hg2 y
          · exact blk_put16_other hz2 y (by omega)
          · exact below_put16 hb2 (Nat.le_refl _) y
        case measure => simp [intOf]; omega
    · have : k = n := by omega
      subst this
      have hz2 := blk_put16 hz (fwd s k)
      have hb2 := below_put16 hbel (Nat.le_succ _) (fwd s k)
      have HB : Hid (Below w.heap.size w (put16 wr (w.heap.size + 1) (fwd s k))) := hb2
      have HZ : Hid (Blk (put16 wr (w.heap.size + 1) (fwd s k)) (w.heap.size + 1) 112 (stA (fwd s k))) := hz2
      generalize HX : fwd s k = x at *
      have HX' : Hid (fwd s k = x) := HX
      clear HX
      obtain ⟨_, _, _, _, _, _, _, _, _, _, _, _, _, _, _, _⟩ := hg.cells
      obtain ⟨_, _, _, _, _, _, _, _, _, _, _, _, _, _, _, _⟩ := hz.cells
      obtain ⟨_, _, _, _, _, _, _, _, _, _, _, _, _, _, _, _⟩ := hz.frees
      clear hg hz hz2 hbel hb2
      go_wp2_with fail
      try simp only [Exit.inBlock, Exit.then]
      refine bodyPost_ret (results_cell_row Try.results54 _ _ (w.heap.size + 1) 112 (stA x) (0, 0) _ rfl HZ.out Try.underlying112 rfl sizeState) rfl ?_
      exact ⟨by rw [HX'.out], HB.out⟩

end Go.Proofs.Ytaoglljkghkbpaa
