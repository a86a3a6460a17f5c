/- Rounds of the document's answer, for every state and every number from -64 to 64: what it returns; nothing below the top of the heap is changed. -/
import Derived.Test.YtcagcjabgceejaaRoundsRefPos
import Derived.Test.YtcagcjabgceejaaStateKit
import Derived.Handy
namespace Go.Proofs.Ytcagcjabgceejaa
open Go.RowKit

set_option maxHeartbeats 4000000 in
theorem refRounds_neg (s : St) (h : s.ok) (n : Nat) (h0 : 1 ≤ n) (hn : n ≤ 64) (w : World) :
    Calls Try.prog 15 #[.agg (stA s), .int .i64 (-(n : Int))] w fun e w' => e = .returned (.agg (stA (bk n s n))) ∧ Below w.heap.size w w' := by
  go_enter Try.func15, Try.ntmps15
  go_wp2_with fail
  refine wp_loop_rounds 1 ?_
  rw [rounds_succ]
  go_wp2_with fail
  go_loopw [6] (fun i wr => ∃ k : Nat, k ≤ n ∧ i = .int .i64 ((n : Int) - 1 - k) ∧ Blk wr w.heap.size 32 (stA (bk n s k)) ∧ Blk wr (w.heap.size + 1) 32 (stA St.zero) ∧ Below w.heap.size w wr) (fun i _ => (intOf i + 1).toNat)
  case atStart =>
    refine ⟨0, by omega, by simp, (Blk.new w 32 _).alloc _, ?_, ((Below.refl _ _).alloc (Nat.le_refl _) _).alloc (by simp) _⟩
    have e : (w.alloc (.cells (stA s) 32)).heap.size = w.heap.size + 1 := by simp
    rw [← e]
    exact Blk.new (w.alloc (.cells (stA s) 32)) 32 (stA St.zero)
  case round =>
    obtain ⟨k, hk, rfl, hg, hz, hbel⟩ := hrel
    have HL' := hg.lt
    by_cases hlt : k < n
    · have hz0 : decide (0 ≤ ((n : Int) - 1 - k)) = true := decide_eq_true (by omega)
      have hz1 : 0 ≤ ((n : Int) - 1 - k) := by omega
      have hz2 : ((n : Int) - 1 - k) ≤ 63 := by omega
      generalize HE0 : ((n : Int) - 1 - k) = z at *
      have HE : Hid (z = ((n - 1 - k : Nat) : Int)) := (show z = ((n - 1 - k : Nat) : Int) by omega)
      have HN : Hid (z - 1 = ((n : Int) - 1 - (k + 1 : Nat))) := (show z - 1 = ((n : Int) - 1 - (k + 1 : Nat)) by omega)
      have HM : Hid (z = (n : Int) - 1 - k) := HE0.symm
      clear HE0
      have hR : Hid (∀ (c : Bool) (w : World), c = decide ((n - 1 - k) % 2 = 1) → Calls Try.prog 13 #[.agg #[.int .u32 ((bk n s k).x0 : Int), .int .u32 ((bk n s k).x1 : Int), .int .u32 ((bk n s k).x2 : Int), .int .u32 ((bk n s k).x3 : Int), .int .u32 ((bk n s k).x4 : Int), .int .u32 ((bk n s k).x5 : Int), .int .u32 ((bk n s k).x6 : Int), .int .u32 ((bk n s k).x7 : Int), .int .u32 ((bk n s k).x8 : Int), .int .u32 ((bk n s k).x9 : Int), .int .u32 ((bk n s k).x10 : Int), .int .u32 ((bk n s k).x11 : Int), .int .u32 ((bk n s k).x12 : Int), .int .u32 ((bk n s k).x13 : Int), .int .u32 ((bk n s k).x14 : Int), .int .u32 ((bk n s k).x15 : Int)], .bool c, .bool true] w fun e w' => e = .returned (.agg #[.int .u32 ((bk n s (k + 1)).x0 : Int), .int .u32 ((bk n s (k + 1)).x1 : Int), .int .u32 ((bk n s (k + 1)).x2 : Int), .int .u32 ((bk n s (k + 1)).x3 : Int), .int .u32 ((bk n s (k + 1)).x4 : Int), .int .u32 ((bk n s (k + 1)).x5 : Int), .int .u32 ((bk n s (k + 1)).x6 : Int), .int .u32 ((bk n s (k + 1)).x7 : Int), .int .u32 ((bk n s (k + 1)).x8 : Int), .int .u32 ((bk n s (k + 1)).x9 : Int), .int .u32 ((bk n s (k + 1)).x10 : Int), .int .u32 ((bk n s (k + 1)).x11 : Int), .int .u32 ((bk n s (k + 1)).x12 : Int), .int .u32 ((bk n s (k + 1)).x13 : Int), .int .u32 ((bk n s (k + 1)).x14 : Int), .int .u32 ((bk n s (k + 1)).x15 : Int)]) ∧ Below w.heap.size w w') := fun c w hc => by rw [hc]; exact refUnround_any _ _ (bk_ok n s h k) w
      have HG : Hid (Blk wr w.heap.size 32 (stA (bk n s k))) := hg
      have HZ : Hid (Blk wr (w.heap.size + 1) 32 (stA St.zero)) := hz
      have HL := hz.lt
      have HB : Hid (Below w.heap.size w wr) := hbel
      obtain ⟨_, _, _, _, _, _, _, _, _, _, _, _, _, _, _, _⟩ := hg.cells
      clear hg hz hbel
      generalize HY : bk n s (k + 1) = y at *
      generalize bk n s k = x at *
      have HY' : Hid (bk n s (k + 1) = y) := HY
      clear HY
      go_wp2_with fail
      refine (hR.out _ _ (by first | exact odd_beq _ (n - 1 - k) HE.out | exact odd_tmod _ (n - 1 - k) HE.out)).mono ?_
      rintro e w2 ⟨rfl, hb⟩
      have hg2 := HG.out.below hb HL'
      have hz2 := HZ.out.below hb HL
      have hb2 : Below w.heap.size w w2 := HB.out.trans (hb.mono (by omega))
      have PG : Hid (Blk (put16 w2 w.heap.size y) w.heap.size 32 (stA y)) := blk_put16 hg2 y
      have PZ : Hid (Blk (put16 w2 w.heap.size y) (w.heap.size + 1) 32 (stA St.zero)) := blk_put16_other hz2 y (by omega)
      have PB : Hid (Below w.heap.size w (put16 w2 w.heap.size y)) := below_put16 hb2 (Nat.le_refl _) y
      obtain ⟨_, _, _, _, _, _, _, _, _, _, _, _, _, _, _, _⟩ := hg2.cells
      obtain ⟨_, _, _, _, _, _, _, _, _, _, _, _, _, _, _, _⟩ := hg2.frees
      clear hg2 hz2 hb2 hb
      go_wp2_with fail
      go_roundw
      case rel =>
        refine ⟨k + 1, by omega, congrArg _ HN.out, ?_, PZ.out, PB.out⟩
        rw [HY'.out]; exact PG.out
      case measure => first | (simp [intOf]; omega) | (have := HM.out; simp [intOf]; omega)
    · have : k = n := by omega
      subst this
      have hneg : decide (0 ≤ ((k : Int) - 1 - k)) = false := decide_eq_false (by omega)
      generalize ((k : Int) - 1 - k) = z at *
      clear hk hlt
      have HZ : Hid (Blk (put16 wr (w.heap.size + 1) (bk k s k)) (w.heap.size + 1) 32 (stA (bk k s k))) := blk_put16 hz (bk k s k)
      have HB : Hid (Below w.heap.size w (put16 wr (w.heap.size + 1) (bk k s k))) := below_put16 hbel (Nat.le_succ _) (bk k s k)
      generalize HX : bk k s k = x at *
      have HX' : Hid (bk k s k = x) := HX
      clear HX
      obtain ⟨_, _, _, _, _, _, _, _, _, _, _, _, _, _, _, _⟩ := hg.cells
      obtain ⟨_, _, _, _, _, _, _, _, _, _, _, _, _, _, _, _⟩ := hz.cells
      obtain ⟨_, _, _, _, _, _, _, _, _, _, _, _, _, _, _, _⟩ := hz.frees
      clear hg hz hbel
      go_wp2_with fail
      try simp only [Exit.inBlock, Exit.then]
      refine bodyPost_ret (results_cell_row Try.results15 _ _ (w.heap.size + 1) 32 (stA x) (0, 0) _ rfl HZ.out Try.underlying32 rfl sizeRef) rfl ?_
      exact ⟨by rw [HX'.out], HB.out⟩

end Go.Proofs.Ytcagcjabgceejaa
