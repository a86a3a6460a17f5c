/- The walk of the statement MixTrails where bit and n are in their ranges: it returns true, if the functions return what they do. -/
import Derived.Test.YtjjjgnaihnknjaaQuarters
import Derived.Test.YtjjjgnaihnknjaaStateKit
import Derived.Test.YtjjjgnaihnknjaaSegsIf
import Derived.Test.YtjjjgnaihnknjaaSegsBoth
import Derived.Test.YtjjjgnaihnknjaaEqState
import Derived.Test.YtjjjgnaihnknjaaMathApart
import Derived.Test.YtjjjgnaihnknjaaOrders
import Derived.Test.YtjjjgnaihnknjaaTrail
import Derived.Handy
import Derived.RegionTactic
import Derived.BigRegion
import Derived.Deep.RegionHeld
namespace Go.Proofs.Ytjjjgnaihnknjaa
open Go.RowKit
set_option linter.unusedSimpArgs false
set_option linter.unusedVariables false

theorem sizeRefT : (Try.prog.info? 30).map (·.size) = some 16 := by kernel_rfl

set_option maxRecDepth 100000 in
set_option maxHeartbeats 40000000 in
theorem trailsLaw (s o : St) (d b n : Nat) (tr : Nat → Nat) (xs ys : Nat → St)
    (h18 : Hid (∀ w : World, Calls Try.prog 9 #[.agg #[.int .u32 ((s).x0 : Int), .int .u32 ((s).x1 : Int), .int .u32 ((s).x2 : Int), .int .u32 ((s).x3 : Int), .int .u32 ((s).x4 : Int), .int .u32 ((s).x5 : Int), .int .u32 ((s).x6 : Int), .int .u32 ((s).x7 : Int), .int .u32 ((s).x8 : Int), .int .u32 ((s).x9 : Int), .int .u32 ((s).x10 : Int), .int .u32 ((s).x11 : Int), .int .u32 ((s).x12 : Int), .int .u32 ((s).x13 : Int), .int .u32 ((s).x14 : Int), .int .u32 ((s).x15 : Int)], .agg #[.int .u32 ((o).x0 : Int), .int .u32 ((o).x1 : Int), .int .u32 ((o).x2 : Int), .int .u32 ((o).x3 : Int), .int .u32 ((o).x4 : Int), .int .u32 ((o).x5 : Int), .int .u32 ((o).x6 : Int), .int .u32 ((o).x7 : Int), .int .u32 ((o).x8 : Int), .int .u32 ((o).x9 : Int), .int .u32 ((o).x10 : Int), .int .u32 ((o).x11 : Int), .int .u32 ((o).x12 : Int), .int .u32 ((o).x13 : Int), .int .u32 ((o).x14 : Int), .int .u32 ((o).x15 : Int)]] w fun e w' => e = .returned (.int .i64 (d : Int)) ∧ Below w.heap.size w w'))
    (h19 : Hid (∀ w : World, Calls Try.prog 10 #[.agg #[.int .u32 ((s).x0 : Int), .int .u32 ((s).x1 : Int), .int .u32 ((s).x2 : Int), .int .u32 ((s).x3 : Int), .int .u32 ((s).x4 : Int), .int .u32 ((s).x5 : Int), .int .u32 ((s).x6 : Int), .int .u32 ((s).x7 : Int), .int .u32 ((s).x8 : Int), .int .u32 ((s).x9 : Int), .int .u32 ((s).x10 : Int), .int .u32 ((s).x11 : Int), .int .u32 ((s).x12 : Int), .int .u32 ((s).x13 : Int), .int .u32 ((s).x14 : Int), .int .u32 ((s).x15 : Int)], .agg #[.int .u32 ((o).x0 : Int), .int .u32 ((o).x1 : Int), .int .u32 ((o).x2 : Int), .int .u32 ((o).x3 : Int), .int .u32 ((o).x4 : Int), .int .u32 ((o).x5 : Int), .int .u32 ((o).x6 : Int), .int .u32 ((o).x7 : Int), .int .u32 ((o).x8 : Int), .int .u32 ((o).x9 : Int), .int .u32 ((o).x10 : Int), .int .u32 ((o).x11 : Int), .int .u32 ((o).x12 : Int), .int .u32 ((o).x13 : Int), .int .u32 ((o).x14 : Int), .int .u32 ((o).x15 : Int)]] w fun e w' => e = .returned (.int .i64 (d : Int)) ∧ Below w.heap.size w w'))
    (hT : Hid (∀ w : World, Calls Try.prog 11 #[.agg #[.int .u32 ((s).x0 : Int), .int .u32 ((s).x1 : Int), .int .u32 ((s).x2 : Int), .int .u32 ((s).x3 : Int), .int .u32 ((s).x4 : Int), .int .u32 ((s).x5 : Int), .int .u32 ((s).x6 : Int), .int .u32 ((s).x7 : Int), .int .u32 ((s).x8 : Int), .int .u32 ((s).x9 : Int), .int .u32 ((s).x10 : Int), .int .u32 ((s).x11 : Int), .int .u32 ((s).x12 : Int), .int .u32 ((s).x13 : Int), .int .u32 ((s).x14 : Int), .int .u32 ((s).x15 : Int)], .int .i64 (b : Int), .int .i64 (n : Int)] w fun e w' => ∃ g cap, e = .returned (.tuple #[.slice (some ⟨g, 0, none⟩) (n + 1) cap, .int .i64 0]) ∧ w.heap.size ≤ g ∧ (∃ cur, Blk w' g 3 cur) ∧ (∀ k, k ≤ n → w'.cell? ⟨g, k, none⟩ = some (.int .i64 (tr k : Int))) ∧ Below w.heap.size w w'))
    (HR1 : Hid (∀ k : Nat, k ≤ n → Hid (∀ w : World, Calls Try.prog 12 #[.agg (stA s), .int .i64 (k : Int)] w fun e w' => e = .returned (.agg (stA (xs k))) ∧ Below w.heap.size w w')))
    (HR2 : Hid (∀ k : Nat, k ≤ n → Hid (∀ w : World, Calls Try.prog 12 #[.agg (stA (flip s b)), .int .i64 (k : Int)] w fun e w' => e = .returned (.agg (stA (ys k))) ∧ Below w.heap.size w w')))
    (HAP : Hid (∀ k : Nat, k ≤ n → Hid (∀ w : World, Calls Try.prog 10 #[.agg (stA (xs k)), .agg (stA (ys k))] w fun e w' => e = .returned (.int .i64 (tr k : Int)) ∧ Below w.heap.size w w')))
    (hok : s.ok) (hbb : b < 512) (hnn : n ≤ 64) (w : World) :
    Calls Try.prog 3 #[.agg #[.int .u32 ((s).x0 : Int), .int .u32 ((s).x1 : Int), .int .u32 ((s).x2 : Int), .int .u32 ((s).x3 : Int), .int .u32 ((s).x4 : Int), .int .u32 ((s).x5 : Int), .int .u32 ((s).x6 : Int), .int .u32 ((s).x7 : Int), .int .u32 ((s).x8 : Int), .int .u32 ((s).x9 : Int), .int .u32 ((s).x10 : Int), .int .u32 ((s).x11 : Int), .int .u32 ((s).x12 : Int), .int .u32 ((s).x13 : Int), .int .u32 ((s).x14 : Int), .int .u32 ((s).x15 : Int)], .agg #[.int .u32 ((o).x0 : Int), .int .u32 ((o).x1 : Int), .int .u32 ((o).x2 : Int), .int .u32 ((o).x3 : Int), .int .u32 ((o).x4 : Int), .int .u32 ((o).x5 : Int), .int .u32 ((o).x6 : Int), .int .u32 ((o).x7 : Int), .int .u32 ((o).x8 : Int), .int .u32 ((o).x9 : Int), .int .u32 ((o).x10 : Int), .int .u32 ((o).x11 : Int), .int .u32 ((o).x12 : Int), .int .u32 ((o).x13 : Int), .int .u32 ((o).x14 : Int), .int .u32 ((o).x15 : Int)], .agg #[.int .i64 (b : Int), .int .i64 (n : Int)]] w fun e w' => e = .returned (.bool true) ∧ Below w.heap.size w w' := by
  have hg0 : Blk (((w.alloc (.cells (stA s) 24)).alloc (.cells (stA o) 24)).alloc (.cells #[.int .i64 (b : Int), .int .i64 (n : Int)] 26)) w.heap.size 24 (stA s) := ((Blk.new w 24 (stA s)).alloc _).alloc _
  have hg1 : Blk (((w.alloc (.cells (stA s) 24)).alloc (.cells (stA o) 24)).alloc (.cells #[.int .i64 (b : Int), .int .i64 (n : Int)] 26)) (w.heap.size + 1) 24 (stA o) := by
    have e : (w.alloc (.cells (stA s) 24)).heap.size = w.heap.size + 1 := by simp
    rw [← e]
    exact (Blk.new (w.alloc (.cells (stA s) 24)) 24 (stA o)).alloc _
  have hg2 : Blk (((w.alloc (.cells (stA s) 24)).alloc (.cells (stA o) 24)).alloc (.cells #[.int .i64 (b : Int), .int .i64 (n : Int)] 26)) (w.heap.size + 2) 26 #[.int .i64 (b : Int), .int .i64 (n : Int)] := by
    have e : ((w.alloc (.cells (stA s) 24)).alloc (.cells (stA o) 24)).heap.size = w.heap.size + 2 := by simp
    rw [← e]
    exact Blk.new ((w.alloc (.cells (stA s) 24)).alloc (.cells (stA o) 24)) 26 #[.int .i64 (b : Int), .int .i64 (n : Int)]
  have g1 : decide ((b : Int) < 0) = false := decide_eq_false (by omega)
  have g2 : decide ((511 : Int) < (b : Int)) = false := decide_eq_false (by omega)
  have g3 : decide ((n : Int) < 0) = false := decide_eq_false (by omega)
  have g4 : decide ((64 : Int) < (n : Int)) = false := decide_eq_false (by omega)
  go_enter Try.func3, Try.ntmps3
  go_wp2_with fail
  refine wp_region_parts [3, 4] [([], 0, false), ([1, 2, 3, 4, 6, 7], 5, false), ([], 8, false), ([], 9, false)] [10] [] (w.heap.size + 3) (by kernel_rfl) (by kernel_rfl)
    (lows_two ⟨⟨w.heap.size, 0, none⟩, _, _, _, rfl, by show w.heap.size < w.heap.size + 3; omega, hg0⟩ ⟨⟨w.heap.size + 1, 0, none⟩, _, _, _, rfl, by show w.heap.size + 1 < w.heap.size + 3; omega, hg1⟩) (parts_force ?_)
  simp only [List.cons_append, List.nil_append, List.append_nil, List.filterMap_cons, List.filterMap_nil, List.getElem?_toArray, List.getElem?_cons_zero, List.getElem?_cons_succ]
  go_wp2_with fail
  refine (awake_any _).mono ?_
  rintro e w0 ⟨rfl, rfl⟩
  have hb0 : Below (w.heap.size + 3) (((w.alloc (.cells (stA s) 24)).alloc (.cells (stA o) 24)).alloc (.cells #[.int .i64 (b : Int), .int .i64 (n : Int)] 26)) (((w.alloc (.cells (stA s) 24)).alloc (.cells (stA o) 24)).alloc (.cells #[.int .i64 (b : Int), .int .i64 (n : Int)] 26)).drew := (Below.refl _ _).drew
  have hs0 : w.heap.size + 3 ≤ (((w.alloc (.cells (stA s) 24)).alloc (.cells (stA o) 24)).alloc (.cells #[.int .i64 (b : Int), .int .i64 (n : Int)] 26)).drew.heap.size := by simp
  go_wp2_with fail
  refine ⟨rfl, hb0, parts_force ?_⟩
  simp only [List.cons_append, List.nil_append, List.append_nil, List.filterMap_cons, List.filterMap_nil, List.getElem?_toArray, List.getElem?_cons_zero, List.getElem?_cons_succ]
  go_wp2_with fail
  refine (h18.out _).mono ?_
  rintro e w1 ⟨rfl, hb⟩
  have hb1 : Below (w.heap.size + 3) (((w.alloc (.cells (stA s) 24)).alloc (.cells (stA o) 24)).alloc (.cells #[.int .i64 (b : Int), .int .i64 (n : Int)] 26)) w1 := hb0.trans (hb.mono hs0)
  have hs1 : w.heap.size + 3 ≤ w1.heap.size := Nat.le_trans hs0 hb.size
  clear hb hb0 hs0
  as_aux_lemma =>
    go_wp2_with fail
    refine ⟨rfl, hb1, parts_force ?_⟩
    simp only [List.cons_append, List.nil_append, List.append_nil, List.filterMap_cons, List.filterMap_nil, List.getElem?_toArray, List.getElem?_cons_zero, List.getElem?_cons_succ]
    go_wp2_with fail
    refine (h19.out _).mono ?_
    rintro e w2 ⟨rfl, hb⟩
    have hb2 : Below (w.heap.size + 3) (((w.alloc (.cells (stA s) 24)).alloc (.cells (stA o) 24)).alloc (.cells #[.int .i64 (b : Int), .int .i64 (n : Int)] 26)) w2 := hb1.trans (hb.mono hs1)
    have hs2 : w.heap.size + 3 ≤ w2.heap.size := Nat.le_trans hs1 hb.size
    clear hb hb1 hs1
    as_aux_lemma =>
      obtain ⟨c0_0, c0_1, c0_2, c0_3, c0_4, c0_5, c0_6, c0_7, c0_8, c0_9, c0_10, c0_11, c0_12, c0_13, c0_14, c0_15⟩ := (hg0.below hb2 (by omega)).cells
      go_wp2_with fail
      refine ⟨rfl, hb2, parts_force ?_⟩
      simp only [List.cons_append, List.nil_append, List.append_nil, List.filterMap_cons, List.filterMap_nil, List.getElem?_toArray, List.getElem?_cons_zero, List.getElem?_cons_succ]
      have x0 : w2.cell? ⟨w.heap.size + 2, 0, none⟩ = some (.int .i64 (b : Int)) := by rw [(hg2.below hb2 (by omega)).cell]; rfl
      have x1 : w2.cell? ⟨w.heap.size + 2, 1, none⟩ = some (.int .i64 (n : Int)) := by rw [(hg2.below hb2 (by omega)).cell]; rfl
      go_wp2_with fail
      refine ⟨rfl, hb2, parts_last ?_⟩
      simp only [List.cons_append, List.nil_append, List.append_nil, List.filterMap_cons, List.filterMap_nil, List.getElem?_toArray, List.getElem?_cons_zero, List.getElem?_cons_succ]
      go_wp2_with fail
      refine ⟨rfl, ?_⟩
      go_wp2_with fail
      refine (hT.out _).mono ?_
      rintro e w3 ⟨gs, cap, rfl, hgs, ⟨cur, hcur⟩, hc, hb⟩
      have hb3 : Below (w.heap.size + 3) (((w.alloc (.cells (stA s) 24)).alloc (.cells (stA o) 24)).alloc (.cells #[.int .i64 (b : Int), .int .i64 (n : Int)] 26)) w3 := hb2.trans (hb.mono hs2)
      have hs3 : w.heap.size + 3 ≤ w3.heap.size := Nat.le_trans hs2 hb.size
      have hgs' : w.heap.size + 3 ≤ gs := Nat.le_trans hs2 hgs
      clear hb hb2 hs2 c0_0 c0_1 c0_2 c0_3 c0_4 c0_5 c0_6 c0_7 c0_8 c0_9 c0_10 c0_11 c0_12 c0_13 c0_14 c0_15 x0 x1 hgs
      as_aux_lemma =>
        have y0 : w3.cell? ⟨w.heap.size + 2, 0, none⟩ = some (.int .i64 (b : Int)) := by rw [(hg2.below hb3 (by omega)).cell]; rfl
        have y1 : w3.cell? ⟨w.heap.size + 2, 1, none⟩ = some (.int .i64 (n : Int)) := by rw [(hg2.below hb3 (by omega)).cell]; rfl
        go_wp2_with fail
        obtain ⟨c0, c1, c2, c3, c4, c5, c6, c7, c8, c9, c10, c11, c12, c13, c14, c15⟩ := (hg0.below hb3 (by omega)).cells
        refine wp_region_either [3] [0, 1] 2 3 [([], 4, false)] [5] (w.heap.size + 3) (by kernel_rfl) (by kernel_rfl) (lows_one ⟨⟨w.heap.size, 0, none⟩, _, _, _, rfl, by show w.heap.size < w.heap.size + 3; omega, hg0.below hb3 (by omega)⟩) ?_
        simp only [List.cons_append, List.nil_append, List.append_nil, List.filterMap_cons, List.filterMap_nil, List.getElem?_toArray, List.getElem?_cons_zero, List.getElem?_cons_succ]
        go_wp2_with fail
        clear c0 c1 c2 c3 c4 c5 c6 c7 c8 c9 c10 c11 c12 c13 c14 c15
        have hbw : Below (w.heap.size + 3) w3 w3.drew := (Below.refl _ _).drew
        have hbs : w.heap.size + 3 ≤ w3.drew.heap.size := hs3
        refine ⟨rfl, ?_, ?_⟩
        · refine parts_force ?_
          simp only [List.cons_append, List.nil_append, List.append_nil, List.filterMap_cons, List.filterMap_nil, List.getElem?_toArray, List.getElem?_cons_zero, List.getElem?_cons_succ]
          go_wp2_with fail
          refine ⟨rfl, (hbw.alloc hbs _), parts_force ?_⟩
          simp only [List.cons_append, List.nil_append, List.append_nil, List.filterMap_cons, List.filterMap_nil, List.getElem?_toArray, List.getElem?_cons_zero, List.getElem?_cons_succ]
          go_wp2_with fail
          refine ⟨rfl, ((hbw.alloc hbs _).alloc (by simp; omega) _), parts_force ?_⟩
          simp only [List.cons_append, List.nil_append, List.append_nil, List.filterMap_cons, List.filterMap_nil, List.getElem?_toArray, List.getElem?_cons_zero, List.getElem?_cons_succ]
          go_wp2_with fail
          refine ⟨rfl, ((hbw.alloc hbs _).alloc (by simp; omega) _), parts_last ?_⟩
          simp only [List.cons_append, List.nil_append, List.append_nil, List.filterMap_cons, List.filterMap_nil, List.getElem?_toArray, List.getElem?_cons_zero, List.getElem?_cons_succ]
          go_wp2_with fail
          refine ⟨rfl, ?_⟩
          have hN0 : Blk (((w3.alloc (.cells (#[.int .u32 ((s).x0 : Int), .int .u32 ((s).x1 : Int), .int .u32 ((s).x2 : Int), .int .u32 ((s).x3 : Int), .int .u32 ((s).x4 : Int), .int .u32 ((s).x5 : Int), .int .u32 ((s).x6 : Int), .int .u32 ((s).x7 : Int), .int .u32 ((s).x8 : Int), .int .u32 ((s).x9 : Int), .int .u32 ((s).x10 : Int), .int .u32 ((s).x11 : Int), .int .u32 ((s).x12 : Int), .int .u32 ((s).x13 : Int), .int .u32 ((s).x14 : Int), .int .u32 ((s).x15 : Int)]) 30)).alloc (.cells (#[.int .u32 ((s).x0 : Int), .int .u32 ((s).x1 : Int), .int .u32 ((s).x2 : Int), .int .u32 ((s).x3 : Int), .int .u32 ((s).x4 : Int), .int .u32 ((s).x5 : Int), .int .u32 ((s).x6 : Int), .int .u32 ((s).x7 : Int), .int .u32 ((s).x8 : Int), .int .u32 ((s).x9 : Int), .int .u32 ((s).x10 : Int), .int .u32 ((s).x11 : Int), .int .u32 ((s).x12 : Int), .int .u32 ((s).x13 : Int), .int .u32 ((s).x14 : Int), .int .u32 ((s).x15 : Int)]) 30)).drew) w3.heap.size 30 (stA s) := ((Blk.new w3 30 (stA s)).alloc _).drew
          have hN1 : Blk (((w3.alloc (.cells (#[.int .u32 ((s).x0 : Int), .int .u32 ((s).x1 : Int), .int .u32 ((s).x2 : Int), .int .u32 ((s).x3 : Int), .int .u32 ((s).x4 : Int), .int .u32 ((s).x5 : Int), .int .u32 ((s).x6 : Int), .int .u32 ((s).x7 : Int), .int .u32 ((s).x8 : Int), .int .u32 ((s).x9 : Int), .int .u32 ((s).x10 : Int), .int .u32 ((s).x11 : Int), .int .u32 ((s).x12 : Int), .int .u32 ((s).x13 : Int), .int .u32 ((s).x14 : Int), .int .u32 ((s).x15 : Int)]) 30)).alloc (.cells (#[.int .u32 ((s).x0 : Int), .int .u32 ((s).x1 : Int), .int .u32 ((s).x2 : Int), .int .u32 ((s).x3 : Int), .int .u32 ((s).x4 : Int), .int .u32 ((s).x5 : Int), .int .u32 ((s).x6 : Int), .int .u32 ((s).x7 : Int), .int .u32 ((s).x8 : Int), .int .u32 ((s).x9 : Int), .int .u32 ((s).x10 : Int), .int .u32 ((s).x11 : Int), .int .u32 ((s).x12 : Int), .int .u32 ((s).x13 : Int), .int .u32 ((s).x14 : Int), .int .u32 ((s).x15 : Int)]) 30)).drew) (w3.heap.size + 1) 30 (stA s) := by
            have e : (w3.alloc (.cells (#[.int .u32 ((s).x0 : Int), .int .u32 ((s).x1 : Int), .int .u32 ((s).x2 : Int), .int .u32 ((s).x3 : Int), .int .u32 ((s).x4 : Int), .int .u32 ((s).x5 : Int), .int .u32 ((s).x6 : Int), .int .u32 ((s).x7 : Int), .int .u32 ((s).x8 : Int), .int .u32 ((s).x9 : Int), .int .u32 ((s).x10 : Int), .int .u32 ((s).x11 : Int), .int .u32 ((s).x12 : Int), .int .u32 ((s).x13 : Int), .int .u32 ((s).x14 : Int), .int .u32 ((s).x15 : Int)]) 30)).heap.size = w3.heap.size + 1 := by simp
            rw [← e]
            exact (Blk.new (w3.alloc (.cells (stA s) 30)) 30 (stA s)).drew
          have hX : Blk (((w3.alloc (.cells (#[.int .u32 ((s).x0 : Int), .int .u32 ((s).x1 : Int), .int .u32 ((s).x2 : Int), .int .u32 ((s).x3 : Int), .int .u32 ((s).x4 : Int), .int .u32 ((s).x5 : Int), .int .u32 ((s).x6 : Int), .int .u32 ((s).x7 : Int), .int .u32 ((s).x8 : Int), .int .u32 ((s).x9 : Int), .int .u32 ((s).x10 : Int), .int .u32 ((s).x11 : Int), .int .u32 ((s).x12 : Int), .int .u32 ((s).x13 : Int), .int .u32 ((s).x14 : Int), .int .u32 ((s).x15 : Int)]) 30)).alloc (.cells (#[.int .u32 ((s).x0 : Int), .int .u32 ((s).x1 : Int), .int .u32 ((s).x2 : Int), .int .u32 ((s).x3 : Int), .int .u32 ((s).x4 : Int), .int .u32 ((s).x5 : Int), .int .u32 ((s).x6 : Int), .int .u32 ((s).x7 : Int), .int .u32 ((s).x8 : Int), .int .u32 ((s).x9 : Int), .int .u32 ((s).x10 : Int), .int .u32 ((s).x11 : Int), .int .u32 ((s).x12 : Int), .int .u32 ((s).x13 : Int), .int .u32 ((s).x14 : Int), .int .u32 ((s).x15 : Int)]) 30)).drew) (w.heap.size + 2) 26 #[.int .i64 (b : Int), .int .i64 (n : Int)] := (((hg2.below hb3 (by omega)).alloc _).alloc _).drew
          have hL : Blk (((w3.alloc (.cells (#[.int .u32 ((s).x0 : Int), .int .u32 ((s).x1 : Int), .int .u32 ((s).x2 : Int), .int .u32 ((s).x3 : Int), .int .u32 ((s).x4 : Int), .int .u32 ((s).x5 : Int), .int .u32 ((s).x6 : Int), .int .u32 ((s).x7 : Int), .int .u32 ((s).x8 : Int), .int .u32 ((s).x9 : Int), .int .u32 ((s).x10 : Int), .int .u32 ((s).x11 : Int), .int .u32 ((s).x12 : Int), .int .u32 ((s).x13 : Int), .int .u32 ((s).x14 : Int), .int .u32 ((s).x15 : Int)]) 30)).alloc (.cells (#[.int .u32 ((s).x0 : Int), .int .u32 ((s).x1 : Int), .int .u32 ((s).x2 : Int), .int .u32 ((s).x3 : Int), .int .u32 ((s).x4 : Int), .int .u32 ((s).x5 : Int), .int .u32 ((s).x6 : Int), .int .u32 ((s).x7 : Int), .int .u32 ((s).x8 : Int), .int .u32 ((s).x9 : Int), .int .u32 ((s).x10 : Int), .int .u32 ((s).x11 : Int), .int .u32 ((s).x12 : Int), .int .u32 ((s).x13 : Int), .int .u32 ((s).x14 : Int), .int .u32 ((s).x15 : Int)]) 30)).drew) gs 3 cur := ((hcur.alloc _).alloc _).drew
          have hbW : Below w.heap.size w (((w3.alloc (.cells (#[.int .u32 ((s).x0 : Int), .int .u32 ((s).x1 : Int), .int .u32 ((s).x2 : Int), .int .u32 ((s).x3 : Int), .int .u32 ((s).x4 : Int), .int .u32 ((s).x5 : Int), .int .u32 ((s).x6 : Int), .int .u32 ((s).x7 : Int), .int .u32 ((s).x8 : Int), .int .u32 ((s).x9 : Int), .int .u32 ((s).x10 : Int), .int .u32 ((s).x11 : Int), .int .u32 ((s).x12 : Int), .int .u32 ((s).x13 : Int), .int .u32 ((s).x14 : Int), .int .u32 ((s).x15 : Int)]) 30)).alloc (.cells (#[.int .u32 ((s).x0 : Int), .int .u32 ((s).x1 : Int), .int .u32 ((s).x2 : Int), .int .u32 ((s).x3 : Int), .int .u32 ((s).x4 : Int), .int .u32 ((s).x5 : Int), .int .u32 ((s).x6 : Int), .int .u32 ((s).x7 : Int), .int .u32 ((s).x8 : Int), .int .u32 ((s).x9 : Int), .int .u32 ((s).x10 : Int), .int .u32 ((s).x11 : Int), .int .u32 ((s).x12 : Int), .int .u32 ((s).x13 : Int), .int .u32 ((s).x14 : Int), .int .u32 ((s).x15 : Int)]) 30)).drew) := (((((((Below.refl _ _).alloc (Nat.le_refl _) _).alloc (by simp) _).alloc (by simp; omega) _).trans (hb3.mono (by omega))).alloc (by omega) _).alloc (by simp; omega) _).drew
          have hcc : Hid (∀ k, k ≤ n → cur[k]? = some (.int .i64 (tr k : Int))) := fun k hk => by rw [← hcur.cell]; exact hc k hk
          have hsz := hcur.lt
          clear hc y0 y1 hbw hbs hcur h18 h19 hT hb3 hg0 hg1 hg2
          generalize ((w3.alloc (.cells (#[.int .u32 ((s).x0 : Int), .int .u32 ((s).x1 : Int), .int .u32 ((s).x2 : Int), .int .u32 ((s).x3 : Int), .int .u32 ((s).x4 : Int), .int .u32 ((s).x5 : Int), .int .u32 ((s).x6 : Int), .int .u32 ((s).x7 : Int), .int .u32 ((s).x8 : Int), .int .u32 ((s).x9 : Int), .int .u32 ((s).x10 : Int), .int .u32 ((s).x11 : Int), .int .u32 ((s).x12 : Int), .int .u32 ((s).x13 : Int), .int .u32 ((s).x14 : Int), .int .u32 ((s).x15 : Int)]) 30)).alloc (.cells (#[.int .u32 ((s).x0 : Int), .int .u32 ((s).x1 : Int), .int .u32 ((s).x2 : Int), .int .u32 ((s).x3 : Int), .int .u32 ((s).x4 : Int), .int .u32 ((s).x5 : Int), .int .u32 ((s).x6 : Int), .int .u32 ((s).x7 : Int), .int .u32 ((s).x8 : Int), .int .u32 ((s).x9 : Int), .int .u32 ((s).x10 : Int), .int .u32 ((s).x11 : Int), .int .u32 ((s).x12 : Int), .int .u32 ((s).x13 : Int), .int .u32 ((s).x14 : Int), .int .u32 ((s).x15 : Int)]) 30)).drew = W at *
          generalize w3.heap.size = N at *
          generalize Value.agg #[.int .u32 ((s).x0 : Int), .int .u32 ((s).x1 : Int), .int .u32 ((s).x2 : Int), .int .u32 ((s).x3 : Int), .int .u32 ((s).x4 : Int), .int .u32 ((s).x5 : Int), .int .u32 ((s).x6 : Int), .int .u32 ((s).x7 : Int), .int .u32 ((s).x8 : Int), .int .u32 ((s).x9 : Int), .int .u32 ((s).x10 : Int), .int .u32 ((s).x11 : Int), .int .u32 ((s).x12 : Int), .int .u32 ((s).x13 : Int), .int .u32 ((s).x14 : Int), .int .u32 ((s).x15 : Int)] = vs
          generalize Value.agg #[.int .u32 ((o).x0 : Int), .int .u32 ((o).x1 : Int), .int .u32 ((o).x2 : Int), .int .u32 ((o).x3 : Int), .int .u32 ((o).x4 : Int), .int .u32 ((o).x5 : Int), .int .u32 ((o).x6 : Int), .int .u32 ((o).x7 : Int), .int .u32 ((o).x8 : Int), .int .u32 ((o).x9 : Int), .int .u32 ((o).x10 : Int), .int .u32 ((o).x11 : Int), .int .u32 ((o).x12 : Int), .int .u32 ((o).x13 : Int), .int .u32 ((o).x14 : Int), .int .u32 ((o).x15 : Int)] = vo
          have nb : N + 1 ≠ N := by omega
          have nx : N + 1 ≠ w.heap.size + 2 := by omega
          have nl : w.heap.size ≤ N + 1 := by omega
          have hA : Blk W (N) 30 (stA s) := hN0
          have hB : Blk W (N + 1) 30 (stA s) := hN1
          have hNg : N + 1 ≠ gs := by omega
          clear hN0 hN1 hs3 hgs' hsz
          as_aux_lemma =>
            have lx := s.at_lt hok (b / 32)
            have HV : Hid (bits .xor .u32 (s.at (b / 32) : Int) ((2 : Int) ^ (b % 32) % 4294967296) = ((s.at (b / 32) ^^^ 2 ^ (b % 32) : Nat) : Int)) := flip_val _ b lx
            have cq : W.cell? ⟨N + 1, b / 32, none⟩ = some (.int .u32 (s.at (b / 32) : Int)) := by rw [hB.cell, stA_at s _ (by omega)]
            have fq : W.frozen? ⟨N + 1, b / 32, none⟩ = false := by have := hB; unfold Blk at this; simp [World.frozen?, this]
            have y0 : W.cell? ⟨w.heap.size + 2, 0, none⟩ = some (.int .i64 (b : Int)) := by rw [hX.cell]; rfl
            have i0' : (0 : Int) ≤ (b : Int) / 32 := by omega
            have i1 : (b : Int) / 32 < 16 := by omega
            have i2 : ((b : Int) / 32).toNat = b / 32 := by omega
            clear lx
            generalize HXX : s.at (b / 32) = x0 at *
            have HXX' : Hid (s.at (b / 32) = x0) := HXX
            clear HXX
            go_wp2_with fail
            go_region
            have hxx := HXX'.out
            rw [← hxx] at HV ⊢
            clear hxx HXX'
            refine at_world ((W.setCell ⟨N + 1, b / 32, none⟩ (.int .u32 ((s.at (b / 32) ^^^ 2 ^ (b % 32) : Nat) : Int))).drew) (by rw [← HV.out]) ?_
            have kA : Blk ((W.setCell ⟨N + 1, b / 32, none⟩ (.int .u32 ((s.at (b / 32) ^^^ 2 ^ (b % 32) : Nat) : Int))).drew) (N) 30 (stA s) := (hA.put_other _ _ (Ne.symm nb)).drew
            have kB : Blk ((W.setCell ⟨N + 1, b / 32, none⟩ (.int .u32 ((s.at (b / 32) ^^^ 2 ^ (b % 32) : Nat) : Int))).drew) (N + 1) 30 (stA (flip s b)) := by
              have := (hB.put (b / 32) (.int .u32 ((s.at (b / 32) ^^^ 2 ^ (b % 32) : Nat) : Int))).drew
              rw [stA_set s (b / 32) _ (by omega)] at this
              exact this
            have kX : Blk ((W.setCell ⟨N + 1, b / 32, none⟩ (.int .u32 ((s.at (b / 32) ^^^ 2 ^ (b % 32) : Nat) : Int))).drew) (w.heap.size + 2) 26 #[.int .i64 (b : Int), .int .i64 (n : Int)] := (hX.put_other _ _ (Ne.symm nx)).drew
            have kL : Blk ((W.setCell ⟨N + 1, b / 32, none⟩ (.int .u32 ((s.at (b / 32) ^^^ 2 ^ (b % 32) : Nat) : Int))).drew) gs 3 cur := (hL.put_other _ _ (Ne.symm hNg)).drew
            have kb : Below w.heap.size w ((W.setCell ⟨N + 1, b / 32, none⟩ (.int .u32 ((s.at (b / 32) ^^^ 2 ^ (b % 32) : Nat) : Int))).drew) := (hbW.setCell (p := ⟨N + 1, b / 32, none⟩) nl _).drew
            generalize (W.setCell ⟨N + 1, b / 32, none⟩ (.int .u32 ((s.at (b / 32) ^^^ 2 ^ (b % 32) : Nat) : Int))).drew = V at *
            clear hA hB hX hL hbW cq fq y0 i0' i1 i2 HV nb nx nl hNg
            have y1 : V.cell? ⟨w.heap.size + 2, 1, none⟩ = some (.int .i64 (n : Int)) := by rw [kX.cell]; rfl
            go_wp2_with fail
            clear y1 kX
            go_loopw [83] (fun i wr => ∃ k : Nat, k ≤ n + 1 ∧ i = .int .i64 k ∧ Blk wr (N) 30 (stA s) ∧ Blk wr (N + 1) 30 (stA (flip s b)) ∧ Blk wr gs 3 cur ∧ Below w.heap.size w wr) (fun i _ => n + 1 - (intOf i).toNat)
            case atStart => exact ⟨0, by omega, rfl, kA, kB, kL, kb⟩
            case round =>
              clear kA kB kL kb
              obtain ⟨k, hk, rfl, kA, kB, kL, kb⟩ := hrel
              by_cases hlt : k < n + 1
              · have hr1 := HR1.out k (by omega)
                have hr2 := HR2.out k (by omega)
                have hap := HAP.out k (by omega)
                have ck := hcc.out k (by omega)
                generalize xs k = x at *
                generalize ys k = y at *
                generalize tr k = tv at *
                generalize flip s b = sf at *
                have i0 : (0 : Int) ≤ (k : Int) := by omega
                have i1 : (k : Int) < (n : Int) + 1 := by omega
                have i2 : decide ((k : Int) < (n : Int) + 1) = true := decide_eq_true i1
                go_wp2_with fail
                refine wp_region_partsI [9, 10] [([4, 7, 0, 1, 2, 5, 8], 3, true), ([], 6, false), ([], 9, false), ([], 10, false), ([], 11, false)] [] [] wr.heap.size (by kernel_rfl) (by kernel_rfl)
                  (lows_two ⟨⟨N, 0, none⟩, _, _, _, rfl, kA.lt, kA⟩ ⟨⟨N + 1, 0, none⟩, _, _, _, rfl, kB.lt, kB⟩) (partsI_yield ?_)
                simp only [List.cons_append, List.nil_append, List.append_nil, List.filterMap_cons, List.filterMap_nil, List.getElem?_toArray, List.getElem?_cons_zero, List.getElem?_cons_succ]
                refine wpList_load_row (by rfl) 30 _ (by rfl) (N) (by rfl) 30 (stA (s)) (0, 0) _ (kA.drew) Try.underlying30 (by rfl) sizeRefT ?_
                simp only [Act.put, List.setIfInBounds_toArray, List.set_cons_zero, List.set_cons_succ]
                refine wpList_load_row (by rfl) 30 _ (by rfl) (N + 1) (by rfl) 30 (stA (sf)) (0, 0) _ (kB.drew) Try.underlying30 (by rfl) sizeRefT ?_
                simp only [Act.put, List.setIfInBounds_toArray, List.set_cons_zero, List.set_cons_succ]
                go_wp2_with fail
                refine ⟨rfl, _, .int .i64 (tv : Int), rfl, Or.inl ⟨by rfl, fun W1 hW1 => ?_⟩, partsI_force ?_⟩
                · have cw := (kL.below hW1 kL.lt).cell k
                  rw [ck] at cw
                  go_simp
                simp only [Act.put, List.setIfInBounds_toArray, List.set_cons_zero, List.set_cons_succ]
                simp only [List.cons_append, List.nil_append, List.append_nil, List.filterMap_cons, List.filterMap_nil, List.getElem?_toArray, List.getElem?_cons_zero, List.getElem?_cons_succ]
                go_wp2_with fail
                refine (hr1.out _).mono ?_
                rintro e w5 ⟨rfl, hb5⟩
                have hb5' : Below wr.heap.size wr w5 := (Below.refl _ _).drew.trans (hb5.mono (Nat.le_refl _))
                have hs5 := hb5.size
                clear hb5
                go_wp2_with fail
                refine ⟨rfl, hb5', partsI_force ?_⟩
                simp only [List.cons_append, List.nil_append, List.append_nil, List.filterMap_cons, List.filterMap_nil, List.getElem?_toArray, List.getElem?_cons_zero, List.getElem?_cons_succ]
                go_wp2_with fail
                refine (hr2.out _).mono ?_
                rintro e w6 ⟨rfl, hb6⟩
                have hb6' : Below wr.heap.size wr w6 := hb5'.trans (hb6.mono hs5)
                clear hb6 hb5' hs5
                go_wp2_with fail
                refine ⟨rfl, hb6', partsI_force ?_⟩
                simp only [List.cons_append, List.nil_append, List.append_nil, List.filterMap_cons, List.filterMap_nil, List.getElem?_toArray, List.getElem?_cons_zero, List.getElem?_cons_succ]
                go_wp2_with fail
                refine (hap.out _).mono ?_
                rintro e w7 ⟨rfl, hb7⟩
                have hb7' : Below wr.heap.size wr w7 := hb6'.trans (hb7.mono hb6'.size)
                clear hb7 hb6'
                go_wp2_with fail
                refine ⟨rfl, hb7', partsI_force ?_⟩
                simp only [List.cons_append, List.nil_append, List.append_nil, List.filterMap_cons, List.filterMap_nil, List.getElem?_toArray, List.getElem?_cons_zero, List.getElem?_cons_succ]
                go_wp2_with fail
                refine ⟨rfl, hb7', partsI_last ?_⟩
                simp only [List.cons_append, List.nil_append, List.append_nil, List.filterMap_cons, List.filterMap_nil, List.getElem?_toArray, List.getElem?_cons_zero, List.getElem?_cons_succ]
                go_wp2_with fail
                refine ⟨rfl, ?_⟩
                go_wp2_with fail
                go_roundw
                case rel => exact ⟨k + 1, by omega, by go_num, kA.below hb7' kA.lt, kB.below hb7' kB.lt, kL.below hb7' kL.lt, kb.trans (hb7'.mono kb.size)⟩
                case measure => simp [intOf]; omega
              · have : k = n + 1 := by omega
                subst this
                clear kA kB kL
                go_wp2_with fail
                go_ret
                exact ⟨rfl, kb⟩
        · refine parts_force ?_
          simp only [List.cons_append, List.nil_append, List.append_nil, List.filterMap_cons, List.filterMap_nil, List.getElem?_toArray, List.getElem?_cons_zero, List.getElem?_cons_succ]
          go_wp2_with fail
          refine ⟨rfl, (hbw.alloc hbs _), parts_force ?_⟩
          simp only [List.cons_append, List.nil_append, List.append_nil, List.filterMap_cons, List.filterMap_nil, List.getElem?_toArray, List.getElem?_cons_zero, List.getElem?_cons_succ]
          go_wp2_with fail
          refine ⟨rfl, ((hbw.alloc hbs _).alloc (by simp; omega) _), parts_force ?_⟩
          simp only [List.cons_append, List.nil_append, List.append_nil, List.filterMap_cons, List.filterMap_nil, List.getElem?_toArray, List.getElem?_cons_zero, List.getElem?_cons_succ]
          go_wp2_with fail
          refine ⟨rfl, ((hbw.alloc hbs _).alloc (by simp; omega) _), parts_last ?_⟩
          simp only [List.cons_append, List.nil_append, List.append_nil, List.filterMap_cons, List.filterMap_nil, List.getElem?_toArray, List.getElem?_cons_zero, List.getElem?_cons_succ]
          go_wp2_with fail
          refine ⟨rfl, ?_⟩
          have hN0 : Blk (((w3.alloc (.cells (#[.int .u32 ((s).x0 : Int), .int .u32 ((s).x1 : Int), .int .u32 ((s).x2 : Int), .int .u32 ((s).x3 : Int), .int .u32 ((s).x4 : Int), .int .u32 ((s).x5 : Int), .int .u32 ((s).x6 : Int), .int .u32 ((s).x7 : Int), .int .u32 ((s).x8 : Int), .int .u32 ((s).x9 : Int), .int .u32 ((s).x10 : Int), .int .u32 ((s).x11 : Int), .int .u32 ((s).x12 : Int), .int .u32 ((s).x13 : Int), .int .u32 ((s).x14 : Int), .int .u32 ((s).x15 : Int)]) 30)).alloc (.cells (#[.int .u32 ((s).x0 : Int), .int .u32 ((s).x1 : Int), .int .u32 ((s).x2 : Int), .int .u32 ((s).x3 : Int), .int .u32 ((s).x4 : Int), .int .u32 ((s).x5 : Int), .int .u32 ((s).x6 : Int), .int .u32 ((s).x7 : Int), .int .u32 ((s).x8 : Int), .int .u32 ((s).x9 : Int), .int .u32 ((s).x10 : Int), .int .u32 ((s).x11 : Int), .int .u32 ((s).x12 : Int), .int .u32 ((s).x13 : Int), .int .u32 ((s).x14 : Int), .int .u32 ((s).x15 : Int)]) 30)).drew) w3.heap.size 30 (stA s) := ((Blk.new w3 30 (stA s)).alloc _).drew
          have hN1 : Blk (((w3.alloc (.cells (#[.int .u32 ((s).x0 : Int), .int .u32 ((s).x1 : Int), .int .u32 ((s).x2 : Int), .int .u32 ((s).x3 : Int), .int .u32 ((s).x4 : Int), .int .u32 ((s).x5 : Int), .int .u32 ((s).x6 : Int), .int .u32 ((s).x7 : Int), .int .u32 ((s).x8 : Int), .int .u32 ((s).x9 : Int), .int .u32 ((s).x10 : Int), .int .u32 ((s).x11 : Int), .int .u32 ((s).x12 : Int), .int .u32 ((s).x13 : Int), .int .u32 ((s).x14 : Int), .int .u32 ((s).x15 : Int)]) 30)).alloc (.cells (#[.int .u32 ((s).x0 : Int), .int .u32 ((s).x1 : Int), .int .u32 ((s).x2 : Int), .int .u32 ((s).x3 : Int), .int .u32 ((s).x4 : Int), .int .u32 ((s).x5 : Int), .int .u32 ((s).x6 : Int), .int .u32 ((s).x7 : Int), .int .u32 ((s).x8 : Int), .int .u32 ((s).x9 : Int), .int .u32 ((s).x10 : Int), .int .u32 ((s).x11 : Int), .int .u32 ((s).x12 : Int), .int .u32 ((s).x13 : Int), .int .u32 ((s).x14 : Int), .int .u32 ((s).x15 : Int)]) 30)).drew) (w3.heap.size + 1) 30 (stA s) := by
            have e : (w3.alloc (.cells (#[.int .u32 ((s).x0 : Int), .int .u32 ((s).x1 : Int), .int .u32 ((s).x2 : Int), .int .u32 ((s).x3 : Int), .int .u32 ((s).x4 : Int), .int .u32 ((s).x5 : Int), .int .u32 ((s).x6 : Int), .int .u32 ((s).x7 : Int), .int .u32 ((s).x8 : Int), .int .u32 ((s).x9 : Int), .int .u32 ((s).x10 : Int), .int .u32 ((s).x11 : Int), .int .u32 ((s).x12 : Int), .int .u32 ((s).x13 : Int), .int .u32 ((s).x14 : Int), .int .u32 ((s).x15 : Int)]) 30)).heap.size = w3.heap.size + 1 := by simp
            rw [← e]
            exact (Blk.new (w3.alloc (.cells (stA s) 30)) 30 (stA s)).drew
          have hX : Blk (((w3.alloc (.cells (#[.int .u32 ((s).x0 : Int), .int .u32 ((s).x1 : Int), .int .u32 ((s).x2 : Int), .int .u32 ((s).x3 : Int), .int .u32 ((s).x4 : Int), .int .u32 ((s).x5 : Int), .int .u32 ((s).x6 : Int), .int .u32 ((s).x7 : Int), .int .u32 ((s).x8 : Int), .int .u32 ((s).x9 : Int), .int .u32 ((s).x10 : Int), .int .u32 ((s).x11 : Int), .int .u32 ((s).x12 : Int), .int .u32 ((s).x13 : Int), .int .u32 ((s).x14 : Int), .int .u32 ((s).x15 : Int)]) 30)).alloc (.cells (#[.int .u32 ((s).x0 : Int), .int .u32 ((s).x1 : Int), .int .u32 ((s).x2 : Int), .int .u32 ((s).x3 : Int), .int .u32 ((s).x4 : Int), .int .u32 ((s).x5 : Int), .int .u32 ((s).x6 : Int), .int .u32 ((s).x7 : Int), .int .u32 ((s).x8 : Int), .int .u32 ((s).x9 : Int), .int .u32 ((s).x10 : Int), .int .u32 ((s).x11 : Int), .int .u32 ((s).x12 : Int), .int .u32 ((s).x13 : Int), .int .u32 ((s).x14 : Int), .int .u32 ((s).x15 : Int)]) 30)).drew) (w.heap.size + 2) 26 #[.int .i64 (b : Int), .int .i64 (n : Int)] := (((hg2.below hb3 (by omega)).alloc _).alloc _).drew
          have hL : Blk (((w3.alloc (.cells (#[.int .u32 ((s).x0 : Int), .int .u32 ((s).x1 : Int), .int .u32 ((s).x2 : Int), .int .u32 ((s).x3 : Int), .int .u32 ((s).x4 : Int), .int .u32 ((s).x5 : Int), .int .u32 ((s).x6 : Int), .int .u32 ((s).x7 : Int), .int .u32 ((s).x8 : Int), .int .u32 ((s).x9 : Int), .int .u32 ((s).x10 : Int), .int .u32 ((s).x11 : Int), .int .u32 ((s).x12 : Int), .int .u32 ((s).x13 : Int), .int .u32 ((s).x14 : Int), .int .u32 ((s).x15 : Int)]) 30)).alloc (.cells (#[.int .u32 ((s).x0 : Int), .int .u32 ((s).x1 : Int), .int .u32 ((s).x2 : Int), .int .u32 ((s).x3 : Int), .int .u32 ((s).x4 : Int), .int .u32 ((s).x5 : Int), .int .u32 ((s).x6 : Int), .int .u32 ((s).x7 : Int), .int .u32 ((s).x8 : Int), .int .u32 ((s).x9 : Int), .int .u32 ((s).x10 : Int), .int .u32 ((s).x11 : Int), .int .u32 ((s).x12 : Int), .int .u32 ((s).x13 : Int), .int .u32 ((s).x14 : Int), .int .u32 ((s).x15 : Int)]) 30)).drew) gs 3 cur := ((hcur.alloc _).alloc _).drew
          have hbW : Below w.heap.size w (((w3.alloc (.cells (#[.int .u32 ((s).x0 : Int), .int .u32 ((s).x1 : Int), .int .u32 ((s).x2 : Int), .int .u32 ((s).x3 : Int), .int .u32 ((s).x4 : Int), .int .u32 ((s).x5 : Int), .int .u32 ((s).x6 : Int), .int .u32 ((s).x7 : Int), .int .u32 ((s).x8 : Int), .int .u32 ((s).x9 : Int), .int .u32 ((s).x10 : Int), .int .u32 ((s).x11 : Int), .int .u32 ((s).x12 : Int), .int .u32 ((s).x13 : Int), .int .u32 ((s).x14 : Int), .int .u32 ((s).x15 : Int)]) 30)).alloc (.cells (#[.int .u32 ((s).x0 : Int), .int .u32 ((s).x1 : Int), .int .u32 ((s).x2 : Int), .int .u32 ((s).x3 : Int), .int .u32 ((s).x4 : Int), .int .u32 ((s).x5 : Int), .int .u32 ((s).x6 : Int), .int .u32 ((s).x7 : Int), .int .u32 ((s).x8 : Int), .int .u32 ((s).x9 : Int), .int .u32 ((s).x10 : Int), .int .u32 ((s).x11 : Int), .int .u32 ((s).x12 : Int), .int .u32 ((s).x13 : Int), .int .u32 ((s).x14 : Int), .int .u32 ((s).x15 : Int)]) 30)).drew) := (((((((Below.refl _ _).alloc (Nat.le_refl _) _).alloc (by simp) _).alloc (by simp; omega) _).trans (hb3.mono (by omega))).alloc (by omega) _).alloc (by simp; omega) _).drew
          have hcc : Hid (∀ k, k ≤ n → cur[k]? = some (.int .i64 (tr k : Int))) := fun k hk => by rw [← hcur.cell]; exact hc k hk
          have hsz := hcur.lt
          clear hc y0 y1 hbw hbs hcur h18 h19 hT hb3 hg0 hg1 hg2
          generalize ((w3.alloc (.cells (#[.int .u32 ((s).x0 : Int), .int .u32 ((s).x1 : Int), .int .u32 ((s).x2 : Int), .int .u32 ((s).x3 : Int), .int .u32 ((s).x4 : Int), .int .u32 ((s).x5 : Int), .int .u32 ((s).x6 : Int), .int .u32 ((s).x7 : Int), .int .u32 ((s).x8 : Int), .int .u32 ((s).x9 : Int), .int .u32 ((s).x10 : Int), .int .u32 ((s).x11 : Int), .int .u32 ((s).x12 : Int), .int .u32 ((s).x13 : Int), .int .u32 ((s).x14 : Int), .int .u32 ((s).x15 : Int)]) 30)).alloc (.cells (#[.int .u32 ((s).x0 : Int), .int .u32 ((s).x1 : Int), .int .u32 ((s).x2 : Int), .int .u32 ((s).x3 : Int), .int .u32 ((s).x4 : Int), .int .u32 ((s).x5 : Int), .int .u32 ((s).x6 : Int), .int .u32 ((s).x7 : Int), .int .u32 ((s).x8 : Int), .int .u32 ((s).x9 : Int), .int .u32 ((s).x10 : Int), .int .u32 ((s).x11 : Int), .int .u32 ((s).x12 : Int), .int .u32 ((s).x13 : Int), .int .u32 ((s).x14 : Int), .int .u32 ((s).x15 : Int)]) 30)).drew = W at *
          generalize w3.heap.size = N at *
          generalize Value.agg #[.int .u32 ((s).x0 : Int), .int .u32 ((s).x1 : Int), .int .u32 ((s).x2 : Int), .int .u32 ((s).x3 : Int), .int .u32 ((s).x4 : Int), .int .u32 ((s).x5 : Int), .int .u32 ((s).x6 : Int), .int .u32 ((s).x7 : Int), .int .u32 ((s).x8 : Int), .int .u32 ((s).x9 : Int), .int .u32 ((s).x10 : Int), .int .u32 ((s).x11 : Int), .int .u32 ((s).x12 : Int), .int .u32 ((s).x13 : Int), .int .u32 ((s).x14 : Int), .int .u32 ((s).x15 : Int)] = vs
          generalize Value.agg #[.int .u32 ((o).x0 : Int), .int .u32 ((o).x1 : Int), .int .u32 ((o).x2 : Int), .int .u32 ((o).x3 : Int), .int .u32 ((o).x4 : Int), .int .u32 ((o).x5 : Int), .int .u32 ((o).x6 : Int), .int .u32 ((o).x7 : Int), .int .u32 ((o).x8 : Int), .int .u32 ((o).x9 : Int), .int .u32 ((o).x10 : Int), .int .u32 ((o).x11 : Int), .int .u32 ((o).x12 : Int), .int .u32 ((o).x13 : Int), .int .u32 ((o).x14 : Int), .int .u32 ((o).x15 : Int)] = vo
          have nb : N ≠ N + 1 := by omega
          have nx : N ≠ w.heap.size + 2 := by omega
          have nl : w.heap.size ≤ N := by omega
          have hA : Blk W (N + 1) 30 (stA s) := hN1
          have hB : Blk W (N) 30 (stA s) := hN0
          have hNg : N ≠ gs := by omega
          clear hN0 hN1 hs3 hgs' hsz
          as_aux_lemma =>
            have lx := s.at_lt hok (b / 32)
            have HV : Hid (bits .xor .u32 (s.at (b / 32) : Int) ((2 : Int) ^ (b % 32) % 4294967296) = ((s.at (b / 32) ^^^ 2 ^ (b % 32) : Nat) : Int)) := flip_val _ b lx
            have cq : W.cell? ⟨N, b / 32, none⟩ = some (.int .u32 (s.at (b / 32) : Int)) := by rw [hB.cell, stA_at s _ (by omega)]
            have fq : W.frozen? ⟨N, b / 32, none⟩ = false := by have := hB; unfold Blk at this; simp [World.frozen?, this]
            have y0 : W.cell? ⟨w.heap.size + 2, 0, none⟩ = some (.int .i64 (b : Int)) := by rw [hX.cell]; rfl
            have i0' : (0 : Int) ≤ (b : Int) / 32 := by omega
            have i1 : (b : Int) / 32 < 16 := by omega
            have i2 : ((b : Int) / 32).toNat = b / 32 := by omega
            clear lx
            generalize HXX : s.at (b / 32) = x0 at *
            have HXX' : Hid (s.at (b / 32) = x0) := HXX
            clear HXX
            go_wp2_with fail
            go_region
            have hxx := HXX'.out
            rw [← hxx] at HV ⊢
            clear hxx HXX'
            refine at_world ((W.setCell ⟨N, b / 32, none⟩ (.int .u32 ((s.at (b / 32) ^^^ 2 ^ (b % 32) : Nat) : Int))).drew) (by rw [← HV.out]) ?_
            have kA : Blk ((W.setCell ⟨N, b / 32, none⟩ (.int .u32 ((s.at (b / 32) ^^^ 2 ^ (b % 32) : Nat) : Int))).drew) (N + 1) 30 (stA s) := (hA.put_other _ _ (Ne.symm nb)).drew
            have kB : Blk ((W.setCell ⟨N, b / 32, none⟩ (.int .u32 ((s.at (b / 32) ^^^ 2 ^ (b % 32) : Nat) : Int))).drew) (N) 30 (stA (flip s b)) := by
              have := (hB.put (b / 32) (.int .u32 ((s.at (b / 32) ^^^ 2 ^ (b % 32) : Nat) : Int))).drew
              rw [stA_set s (b / 32) _ (by omega)] at this
              exact this
            have kX : Blk ((W.setCell ⟨N, b / 32, none⟩ (.int .u32 ((s.at (b / 32) ^^^ 2 ^ (b % 32) : Nat) : Int))).drew) (w.heap.size + 2) 26 #[.int .i64 (b : Int), .int .i64 (n : Int)] := (hX.put_other _ _ (Ne.symm nx)).drew
            have kL : Blk ((W.setCell ⟨N, b / 32, none⟩ (.int .u32 ((s.at (b / 32) ^^^ 2 ^ (b % 32) : Nat) : Int))).drew) gs 3 cur := (hL.put_other _ _ (Ne.symm hNg)).drew
            have kb : Below w.heap.size w ((W.setCell ⟨N, b / 32, none⟩ (.int .u32 ((s.at (b / 32) ^^^ 2 ^ (b % 32) : Nat) : Int))).drew) := (hbW.setCell (p := ⟨N, b / 32, none⟩) nl _).drew
            generalize (W.setCell ⟨N, b / 32, none⟩ (.int .u32 ((s.at (b / 32) ^^^ 2 ^ (b % 32) : Nat) : Int))).drew = V at *
            clear hA hB hX hL hbW cq fq y0 i0' i1 i2 HV nb nx nl hNg
            have y1 : V.cell? ⟨w.heap.size + 2, 1, none⟩ = some (.int .i64 (n : Int)) := by rw [kX.cell]; rfl
            go_wp2_with fail
            clear y1 kX
            go_loopw [83] (fun i wr => ∃ k : Nat, k ≤ n + 1 ∧ i = .int .i64 k ∧ Blk wr (N + 1) 30 (stA s) ∧ Blk wr (N) 30 (stA (flip s b)) ∧ Blk wr gs 3 cur ∧ Below w.heap.size w wr) (fun i _ => n + 1 - (intOf i).toNat)
            case atStart => exact ⟨0, by omega, rfl, kA, kB, kL, kb⟩
            case round =>
              clear kA kB kL kb
              obtain ⟨k, hk, rfl, kA, kB, kL, kb⟩ := hrel
              by_cases hlt : k < n + 1
              · have hr1 := HR1.out k (by omega)
                have hr2 := HR2.out k (by omega)
                have hap := HAP.out k (by omega)
                have ck := hcc.out k (by omega)
                generalize xs k = x at *
                generalize ys k = y at *
                generalize tr k = tv at *
                generalize flip s b = sf at *
                have i0 : (0 : Int) ≤ (k : Int) := by omega
                have i1 : (k : Int) < (n : Int) + 1 := by omega
                have i2 : decide ((k : Int) < (n : Int) + 1) = true := decide_eq_true i1
                go_wp2_with fail
                refine wp_region_partsI [9, 10] [([4, 7, 0, 1, 2, 5, 8], 3, true), ([], 6, false), ([], 9, false), ([], 10, false), ([], 11, false)] [] [] wr.heap.size (by kernel_rfl) (by kernel_rfl)
                  (lows_two ⟨⟨N + 1, 0, none⟩, _, _, _, rfl, kA.lt, kA⟩ ⟨⟨N, 0, none⟩, _, _, _, rfl, kB.lt, kB⟩) (partsI_yield ?_)
                simp only [List.cons_append, List.nil_append, List.append_nil, List.filterMap_cons, List.filterMap_nil, List.getElem?_toArray, List.getElem?_cons_zero, List.getElem?_cons_succ]
                refine wpList_load_row (by rfl) 30 _ (by rfl) (N + 1) (by rfl) 30 (stA (s)) (0, 0) _ (kA.drew) Try.underlying30 (by rfl) sizeRefT ?_
                simp only [Act.put, List.setIfInBounds_toArray, List.set_cons_zero, List.set_cons_succ]
                refine wpList_load_row (by rfl) 30 _ (by rfl) (N) (by rfl) 30 (stA (sf)) (0, 0) _ (kB.drew) Try.underlying30 (by rfl) sizeRefT ?_
                simp only [Act.put, List.setIfInBounds_toArray, List.set_cons_zero, List.set_cons_succ]
                go_wp2_with fail
                refine ⟨rfl, _, .int .i64 (tv : Int), rfl, Or.inl ⟨by rfl, fun W1 hW1 => ?_⟩, partsI_force ?_⟩
                · have cw := (kL.below hW1 kL.lt).cell k
                  rw [ck] at cw
                  go_simp
                simp only [Act.put, List.setIfInBounds_toArray, List.set_cons_zero, List.set_cons_succ]
                simp only [List.cons_append, List.nil_append, List.append_nil, List.filterMap_cons, List.filterMap_nil, List.getElem?_toArray, List.getElem?_cons_zero, List.getElem?_cons_succ]
                go_wp2_with fail
                refine (hr1.out _).mono ?_
                rintro e w5 ⟨rfl, hb5⟩
                have hb5' : Below wr.heap.size wr w5 := (Below.refl _ _).drew.trans (hb5.mono (Nat.le_refl _))
                have hs5 := hb5.size
                clear hb5
                go_wp2_with fail
                refine ⟨rfl, hb5', partsI_force ?_⟩
                simp only [List.cons_append, List.nil_append, List.append_nil, List.filterMap_cons, List.filterMap_nil, List.getElem?_toArray, List.getElem?_cons_zero, List.getElem?_cons_succ]
                go_wp2_with fail
                refine (hr2.out _).mono ?_
                rintro e w6 ⟨rfl, hb6⟩
                have hb6' : Below wr.heap.size wr w6 := hb5'.trans (hb6.mono hs5)
                clear hb6 hb5' hs5
                go_wp2_with fail
                refine ⟨rfl, hb6', partsI_force ?_⟩
                simp only [List.cons_append, List.nil_append, List.append_nil, List.filterMap_cons, List.filterMap_nil, List.getElem?_toArray, List.getElem?_cons_zero, List.getElem?_cons_succ]
                go_wp2_with fail
                refine (hap.out _).mono ?_
                rintro e w7 ⟨rfl, hb7⟩
                have hb7' : Below wr.heap.size wr w7 := hb6'.trans (hb7.mono hb6'.size)
                clear hb7 hb6'
                go_wp2_with fail
                refine ⟨rfl, hb7', partsI_force ?_⟩
                simp only [List.cons_append, List.nil_append, List.append_nil, List.filterMap_cons, List.filterMap_nil, List.getElem?_toArray, List.getElem?_cons_zero, List.getElem?_cons_succ]
                go_wp2_with fail
                refine ⟨rfl, hb7', partsI_last ?_⟩
                simp only [List.cons_append, List.nil_append, List.append_nil, List.filterMap_cons, List.filterMap_nil, List.getElem?_toArray, List.getElem?_cons_zero, List.getElem?_cons_succ]
                go_wp2_with fail
                refine ⟨rfl, ?_⟩
                go_wp2_with fail
                go_roundw
                case rel => exact ⟨k + 1, by omega, by go_num, kA.below hb7' kA.lt, kB.below hb7' kB.lt, kL.below hb7' kL.lt, kb.trans (hb7'.mono kb.size)⟩
                case measure => simp [intOf]; omega
              · have : k = n + 1 := by omega
                subst this
                clear kA kB kL
                go_wp2_with fail
                go_ret
                exact ⟨rfl, kb⟩

end Go.Proofs.Ytjjjgnaihnknjaa
