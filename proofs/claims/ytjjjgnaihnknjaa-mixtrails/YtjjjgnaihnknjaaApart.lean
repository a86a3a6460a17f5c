/- In how many bits two states differ: the program's function and the document's answer, for every two states: the number that the plain facts say; nothing below the top of the heap is changed. -/
import Derived.Test.YtjjjgnaihnknjaaOnesMix
import Derived.Test.YtjjjgnaihnknjaaMathApart
import Derived.Test.YtjjjgnaihnknjaaStateKit
import Derived.Test.YtjjjgnaihnknjaaOrders
import Derived.Handy
import Derived.Deep.QuietTactic
import Derived.BigQuiet
namespace Go.Proofs.Ytjjjgnaihnknjaa
open Go.RowKit
set_option linter.unusedVariables false

set_option maxHeartbeats 2000000 in
theorem apart_any (a b : St) (ha : a.ok) (hb : b.ok) (w : World) :
    Calls Try.prog 9 #[.agg (stA a), .agg (stA b)] w fun e w' => e = .returned (.int .i64 (apartN a b : Int)) ∧ Below w.heap.size w w' := by
  go_enter Try.func9, Try.ntmps9
  go_wp2_with fail
  go_loopw [5, 7] (fun m i wr => ∃ k : Nat, k ≤ 16 ∧ i = .int .i64 k ∧ m = .int .i64 (apartTo a b k : Int) ∧ Blk wr w.heap.size 24 (stA a) ∧ Blk wr (w.heap.size + 1) 24 (stA b) ∧ Below w.heap.size w wr) (fun _ i _ => 16 - (intOf i).toNat)
  case atStart =>
    refine ⟨0, by omega, rfl, rfl, (Blk.new w 24 _).alloc _, ?_, ((Below.refl _ _).alloc (Nat.le_refl _) _).alloc (by simp) _⟩
    have e : (w.alloc (.cells (stA a) 24)).heap.size = w.heap.size + 1 := by simp
    rw [← e]
    exact Blk.new (w.alloc (.cells (stA a) 24)) 24 (stA b)
  case round =>
    obtain ⟨k, hk, rfl, rfl, h1, h2, hbel⟩ := hrel
    have hle := apartTo_le a b ha hb k
    by_cases hlt : k < 16
    · have c1 : wr.cell? ⟨w.heap.size, k, none⟩ = some (.int .u32 (a.at k : Int)) := by rw [h1.cell, stA_at a k hlt]
      have c2 : wr.cell? ⟨w.heap.size + 1, k, none⟩ = some (.int .u32 (b.at k : Int)) := by rw [h2.cell, stA_at b k hlt]
      have l1 := a.at_lt ha k
      have l2 := b.at_lt hb k
      have lx := xor_lt32 _ _ l1 l2
      have x1 : bits .xor .u32 (a.at k : Int) (b.at k : Int) = ((a.at k ^^^ b.at k : Nat) : Int) := u32_xor_nat _ _ l1 l2
      have hO : Hid (∀ w : World, Calls Try.prog 37 #[.int .u64 ((a.at k ^^^ b.at k : Nat) : Int)] w fun e w' => e = .returned (.int .i64 (onesTo (a.at k ^^^ b.at k) 64 : Int)) ∧ w' = w) := fun w => ones_any _ (by omega) w
      have lo := ones_le32 _ lx
      have HS : Hid (apartTo a b (k + 1) = apartTo a b k + onesTo (a.at k ^^^ b.at k) 64) := rfl
      have H1 : Hid (Blk wr w.heap.size 24 (stA a)) := h1
      have H2 : Hid (Blk wr (w.heap.size + 1) 24 (stA b)) := h2
      have HB : Hid (Below w.heap.size w wr) := hbel
      clear h1 h2 hbel l1 l2
      generalize a.at k ^^^ b.at k = x at *
      generalize onesTo x 64 = o at *
      generalize a.at k = xa at *
      generalize b.at k = xb at *
      generalize apartTo a b k = p at *
      have hi0 : (0 : Int) ≤ (k : Int) := by omega
      have hi1 : (k : Int) < 16 := by omega
      go_wp2_with fail
      refine wp_region_text (by kernel_rfl) (by kernel_rfl) ?_
      go_wp2_with fail
      refine (hO.out _).mono ?_
      rintro e w2 ⟨rfl, rfl⟩
      go_wp2_with fail
      refine ⟨rfl, ?_⟩
      go_wp2_with fail
      go_roundw
      case rel => exact ⟨k + 1, by omega, by go_num, by rw [HS.out]; go_num, H1.out, H2.out, HB.out.drew⟩
      case measure => simp [intOf]; omega
    · have : k = 16 := by omega
      subst this
      go_wp2_with fail
      go_ret
      exact ⟨rfl, hbel⟩

set_option maxHeartbeats 2000000 in
theorem refApart_any (a b : St) (ha : a.ok) (hb : b.ok) (w : World) :
    Calls Try.prog 10 #[.agg (stA a), .agg (stA b)] w fun e w' => e = .returned (.int .i64 (apartN a b : Int)) ∧ Below w.heap.size w w' := by
  go_enter Try.func10, Try.ntmps10
  go_wp2_with fail
  go_loopw [5, 6] (fun m i wr => ∃ k : Nat, k ≤ 16 ∧ i = .int .i64 k ∧ m = .int .i64 (apartTo a b k : Int) ∧ Blk wr w.heap.size 30 (stA a) ∧ Blk wr (w.heap.size + 1) 30 (stA b) ∧ Below w.heap.size w wr) (fun _ i _ => 16 - (intOf i).toNat)
  case atStart =>
    refine ⟨0, by omega, rfl, rfl, (Blk.new w 30 _).alloc _, ?_, ((Below.refl _ _).alloc (Nat.le_refl _) _).alloc (by simp) _⟩
    have e : (w.alloc (.cells (stA a) 30)).heap.size = w.heap.size + 1 := by simp
    rw [← e]
    exact Blk.new (w.alloc (.cells (stA a) 30)) 30 (stA b)
  case round =>
    obtain ⟨k, hk, rfl, rfl, h1, h2, hbel⟩ := hrel
    have hle := apartTo_le a b ha hb k
    by_cases hlt : k < 16
    · have c1 : wr.cell? ⟨w.heap.size, k, none⟩ = some (.int .u32 (a.at k : Int)) := by rw [h1.cell, stA_at a k hlt]
      have c2 : wr.cell? ⟨w.heap.size + 1, k, none⟩ = some (.int .u32 (b.at k : Int)) := by rw [h2.cell, stA_at b k hlt]
      have l1 := a.at_lt ha k
      have l2 := b.at_lt hb k
      have lx := xor_lt32 _ _ l1 l2
      have x1 : bits .xor .u32 (a.at k : Int) (b.at k : Int) = ((a.at k ^^^ b.at k : Nat) : Int) := u32_xor_nat _ _ l1 l2
      have lo := ones_le32 _ lx
      have HS : Hid (apartTo a b (k + 1) = apartTo a b k + onesTo (a.at k ^^^ b.at k) 64) := rfl
      have H1 : Hid (Blk wr w.heap.size 30 (stA a)) := h1
      have H2 : Hid (Blk wr (w.heap.size + 1) 30 (stA b)) := h2
      have HB : Hid (Below w.heap.size w wr) := hbel
      clear h1 h2 hbel l1 l2
      generalize a.at k ^^^ b.at k = x at *
      generalize a.at k = xa at *
      generalize b.at k = xb at *
      generalize apartTo a b k = p at *
      have hi0 : (0 : Int) ≤ (k : Int) := by omega
      have hi1 : (k : Int) < 16 := by omega
      go_wp2_with fail
      refine wp_region_text (by kernel_rfl) (by kernel_rfl) ?_
      go_wp2_with fail
      refine ⟨rfl, ?_⟩
      go_wp2_with fail
      go_loop [5, 7] (fun m v => ∃ y q : Nat, v = .int .u32 (y : Int) ∧ m = .int .i64 (q : Int) ∧ y < 4294967296 ∧ q ≤ 512 + 32 ∧ q + onesTo y 64 = p + onesTo x 64) (fun _ v => (intOf v).toNat)
      case atStart => exact ⟨x, p, rfl, rfl, lx, by omega, rfl⟩
      case round =>
        obtain ⟨y, q, rfl, rfl, hy, hq, hs⟩ := hrel
        by_cases hy0 : 0 < y
        · have st := ones_step y hy
          have lo2 := ones_le32 y hy
          have lo3 : y % 2 < 2 := Nat.mod_lt _ (by decide)
          have HS2 : Hid ((q + y % 2) + onesTo (y / 2) 64 = p + onesTo x 64) := (show (q + y % 2) + onesTo (y / 2) 64 = p + onesTo x 64 by omega)
          have HQ : Hid (q + y % 2 ≤ 512 + 32) := (show q + y % 2 ≤ 512 + 32 by omega)
          have hd : decide ((0 : Int) < (y : Int)) = true := decide_eq_true (by omega)
          clear st hs
          go_wp2_with fail
          go_round
          case rel => exact ⟨y / 2, q + y % 2, by simp, by simp, by omega, HQ.out, HS2.out⟩
          case measure => simp [intOf]; omega
        · have : y = 0 := by omega
          subst this
          have hd : decide ((0 : Int) < ((0 : Nat) : Int)) = false := decide_eq_false (by omega)
          have HQ : Hid (q = p + onesTo x 64) := (show q = p + onesTo x 64 by rw [onesTo_zero] at hs; omega)
          go_wp2_with fail
          go_roundw
          case rel => exact ⟨k + 1, by omega, by go_num, by rw [HS.out, HQ.out], H1.out, H2.out, HB.out.drew⟩
          case measure => simp [intOf]; omega
    · have : k = 16 := by omega
      subst this
      go_wp2_with fail
      go_ret
      exact ⟨rfl, hbel⟩

end Go.Proofs.Ytjjjgnaihnknjaa
