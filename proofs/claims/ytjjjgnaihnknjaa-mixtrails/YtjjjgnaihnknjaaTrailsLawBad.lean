/- The walk of the statement MixTrails where bit or n is out of its range: it returns true, if the functions return what they do. -/
import Derived.Test.YtjjjgnaihnknjaaQuarters
import Derived.Test.YtjjjgnaihnknjaaStateKit
import Derived.Test.YtjjjgnaihnknjaaSegs
import Derived.Test.YtjjjgnaihnknjaaEqState
import Derived.Handy
namespace Go.Proofs.Ytjjjgnaihnknjaa
open Go.RowKit
set_option linter.unusedSimpArgs false
set_option linter.unusedVariables false

set_option maxRecDepth 100000 in
set_option maxHeartbeats 40000000 in
theorem trailsLaw_bad (s o : St) (d : Nat) (z n : Int)
    (h18 : Hid (∀ w : World, Calls Try.prog 9 #[.agg #[.int .u32 ((s).x0 : Int), .int .u32 ((s).x1 : Int), .int .u32 ((s).x2 : Int), .int .u32 ((s).x3 : Int), .int .u32 ((s).x4 : Int), .int .u32 ((s).x5 : Int), .int .u32 ((s).x6 : Int), .int .u32 ((s).x7 : Int), .int .u32 ((s).x8 : Int), .int .u32 ((s).x9 : Int), .int .u32 ((s).x10 : Int), .int .u32 ((s).x11 : Int), .int .u32 ((s).x12 : Int), .int .u32 ((s).x13 : Int), .int .u32 ((s).x14 : Int), .int .u32 ((s).x15 : Int)], .agg #[.int .u32 ((o).x0 : Int), .int .u32 ((o).x1 : Int), .int .u32 ((o).x2 : Int), .int .u32 ((o).x3 : Int), .int .u32 ((o).x4 : Int), .int .u32 ((o).x5 : Int), .int .u32 ((o).x6 : Int), .int .u32 ((o).x7 : Int), .int .u32 ((o).x8 : Int), .int .u32 ((o).x9 : Int), .int .u32 ((o).x10 : Int), .int .u32 ((o).x11 : Int), .int .u32 ((o).x12 : Int), .int .u32 ((o).x13 : Int), .int .u32 ((o).x14 : Int), .int .u32 ((o).x15 : Int)]] w fun e w' => e = .returned (.int .i64 (d : Int)) ∧ Below w.heap.size w w'))
    (h19 : Hid (∀ w : World, Calls Try.prog 10 #[.agg #[.int .u32 ((s).x0 : Int), .int .u32 ((s).x1 : Int), .int .u32 ((s).x2 : Int), .int .u32 ((s).x3 : Int), .int .u32 ((s).x4 : Int), .int .u32 ((s).x5 : Int), .int .u32 ((s).x6 : Int), .int .u32 ((s).x7 : Int), .int .u32 ((s).x8 : Int), .int .u32 ((s).x9 : Int), .int .u32 ((s).x10 : Int), .int .u32 ((s).x11 : Int), .int .u32 ((s).x12 : Int), .int .u32 ((s).x13 : Int), .int .u32 ((s).x14 : Int), .int .u32 ((s).x15 : Int)], .agg #[.int .u32 ((o).x0 : Int), .int .u32 ((o).x1 : Int), .int .u32 ((o).x2 : Int), .int .u32 ((o).x3 : Int), .int .u32 ((o).x4 : Int), .int .u32 ((o).x5 : Int), .int .u32 ((o).x6 : Int), .int .u32 ((o).x7 : Int), .int .u32 ((o).x8 : Int), .int .u32 ((o).x9 : Int), .int .u32 ((o).x10 : Int), .int .u32 ((o).x11 : Int), .int .u32 ((o).x12 : Int), .int .u32 ((o).x13 : Int), .int .u32 ((o).x14 : Int), .int .u32 ((o).x15 : Int)]] w fun e w' => e = .returned (.int .i64 (d : Int)) ∧ Below w.heap.size w w'))
    (hT : Hid (∀ w : World, Calls Try.prog 11 #[.agg #[.int .u32 ((s).x0 : Int), .int .u32 ((s).x1 : Int), .int .u32 ((s).x2 : Int), .int .u32 ((s).x3 : Int), .int .u32 ((s).x4 : Int), .int .u32 ((s).x5 : Int), .int .u32 ((s).x6 : Int), .int .u32 ((s).x7 : Int), .int .u32 ((s).x8 : Int), .int .u32 ((s).x9 : Int), .int .u32 ((s).x10 : Int), .int .u32 ((s).x11 : Int), .int .u32 ((s).x12 : Int), .int .u32 ((s).x13 : Int), .int .u32 ((s).x14 : Int), .int .u32 ((s).x15 : Int)], .int .i64 z, .int .i64 n] w fun e w' => e = .returned (.tuple #[.slice none 0 0, .int .i64 1]) ∧ Below w.heap.size w w'))
    (hbad : z < 0 ∨ 511 < z ∨ n < 0 ∨ 64 < n) (w : World) :
    Calls Try.prog 3 #[.agg #[.int .u32 ((s).x0 : Int), .int .u32 ((s).x1 : Int), .int .u32 ((s).x2 : Int), .int .u32 ((s).x3 : Int), .int .u32 ((s).x4 : Int), .int .u32 ((s).x5 : Int), .int .u32 ((s).x6 : Int), .int .u32 ((s).x7 : Int), .int .u32 ((s).x8 : Int), .int .u32 ((s).x9 : Int), .int .u32 ((s).x10 : Int), .int .u32 ((s).x11 : Int), .int .u32 ((s).x12 : Int), .int .u32 ((s).x13 : Int), .int .u32 ((s).x14 : Int), .int .u32 ((s).x15 : Int)], .agg #[.int .u32 ((o).x0 : Int), .int .u32 ((o).x1 : Int), .int .u32 ((o).x2 : Int), .int .u32 ((o).x3 : Int), .int .u32 ((o).x4 : Int), .int .u32 ((o).x5 : Int), .int .u32 ((o).x6 : Int), .int .u32 ((o).x7 : Int), .int .u32 ((o).x8 : Int), .int .u32 ((o).x9 : Int), .int .u32 ((o).x10 : Int), .int .u32 ((o).x11 : Int), .int .u32 ((o).x12 : Int), .int .u32 ((o).x13 : Int), .int .u32 ((o).x14 : Int), .int .u32 ((o).x15 : Int)], .agg #[.int .i64 z, .int .i64 n]] w fun e w' => e = .returned (.bool true) ∧ Below w.heap.size w w' := by
  have hg0 : Blk (((w.alloc (.cells (stA s) 24)).alloc (.cells (stA o) 24)).alloc (.cells #[.int .i64 z, .int .i64 n] 26)) w.heap.size 24 (stA s) := ((Blk.new w 24 (stA s)).alloc _).alloc _
  have hg1 : Blk (((w.alloc (.cells (stA s) 24)).alloc (.cells (stA o) 24)).alloc (.cells #[.int .i64 z, .int .i64 n] 26)) (w.heap.size + 1) 24 (stA o) := by
    have e : (w.alloc (.cells (stA s) 24)).heap.size = w.heap.size + 1 := by simp
    rw [← e]
    exact (Blk.new (w.alloc (.cells (stA s) 24)) 24 (stA o)).alloc _
  have hg2 : Blk (((w.alloc (.cells (stA s) 24)).alloc (.cells (stA o) 24)).alloc (.cells #[.int .i64 z, .int .i64 n] 26)) (w.heap.size + 2) 26 #[.int .i64 z, .int .i64 n] := by
    have e : ((w.alloc (.cells (stA s) 24)).alloc (.cells (stA o) 24)).heap.size = w.heap.size + 2 := by simp
    rw [← e]
    exact Blk.new ((w.alloc (.cells (stA s) 24)).alloc (.cells (stA o) 24)) 26 #[.int .i64 z, .int .i64 n]
  have HB : Hid (z < 0 ∨ 511 < z ∨ n < 0 ∨ 64 < n) := hbad
  clear hbad
  go_enter Try.func3, Try.ntmps3
  go_wp2_with fail
  refine wp_region_parts [3, 4] [([], 0, false), ([1, 2, 3, 4, 6, 7], 5, false), ([], 8, false), ([], 9, false)] [10] [] (w.heap.size + 3) (by kernel_rfl) (by kernel_rfl)
    (lows_two ⟨⟨w.heap.size, 0, none⟩, _, _, _, rfl, by show w.heap.size < w.heap.size + 3; omega, hg0⟩ ⟨⟨w.heap.size + 1, 0, none⟩, _, _, _, rfl, by show w.heap.size + 1 < w.heap.size + 3; omega, hg1⟩) (parts_force ?_)
  simp only [List.cons_append, List.nil_append, List.append_nil, List.filterMap_cons, List.filterMap_nil, List.getElem?_toArray, List.getElem?_cons_zero, List.getElem?_cons_succ]
  go_wp2_with fail
  refine (awake_any _).mono ?_
  rintro e w0 ⟨rfl, rfl⟩
  have hb0 : Below (w.heap.size + 3) (((w.alloc (.cells (stA s) 24)).alloc (.cells (stA o) 24)).alloc (.cells #[.int .i64 z, .int .i64 n] 26)) (((w.alloc (.cells (stA s) 24)).alloc (.cells (stA o) 24)).alloc (.cells #[.int .i64 z, .int .i64 n] 26)).drew := (Below.refl _ _).drew
  have hs0 : w.heap.size + 3 ≤ (((w.alloc (.cells (stA s) 24)).alloc (.cells (stA o) 24)).alloc (.cells #[.int .i64 z, .int .i64 n] 26)).drew.heap.size := by simp
  go_wp2_with fail
  refine ⟨rfl, hb0, parts_force ?_⟩
  simp only [List.cons_append, List.nil_append, List.append_nil, List.filterMap_cons, List.filterMap_nil, List.getElem?_toArray, List.getElem?_cons_zero, List.getElem?_cons_succ]
  go_wp2_with fail
  refine (h18.out _).mono ?_
  rintro e w1 ⟨rfl, hb⟩
  have hb1 : Below (w.heap.size + 3) (((w.alloc (.cells (stA s) 24)).alloc (.cells (stA o) 24)).alloc (.cells #[.int .i64 z, .int .i64 n] 26)) w1 := hb0.trans (hb.mono hs0)
  have hs1 : w.heap.size + 3 ≤ w1.heap.size := Nat.le_trans hs0 hb.size
  clear hb hb0 hs0
  as_aux_lemma =>
    go_wp2_with fail
    refine ⟨rfl, hb1, parts_force ?_⟩
    simp only [List.cons_append, List.nil_append, List.append_nil, List.filterMap_cons, List.filterMap_nil, List.getElem?_toArray, List.getElem?_cons_zero, List.getElem?_cons_succ]
    go_wp2_with fail
    refine (h19.out _).mono ?_
    rintro e w2 ⟨rfl, hb⟩
    have hb2 : Below (w.heap.size + 3) (((w.alloc (.cells (stA s) 24)).alloc (.cells (stA o) 24)).alloc (.cells #[.int .i64 z, .int .i64 n] 26)) w2 := hb1.trans (hb.mono hs1)
    have hs2 : w.heap.size + 3 ≤ w2.heap.size := Nat.le_trans hs1 hb.size
    clear hb hb1 hs1
    as_aux_lemma =>
      obtain ⟨c0_0, c0_1, c0_2, c0_3, c0_4, c0_5, c0_6, c0_7, c0_8, c0_9, c0_10, c0_11, c0_12, c0_13, c0_14, c0_15⟩ := (hg0.below hb2 (by omega)).cells
      go_wp2_with fail
      refine ⟨rfl, hb2, parts_force ?_⟩
      simp only [List.cons_append, List.nil_append, List.append_nil, List.filterMap_cons, List.filterMap_nil, List.getElem?_toArray, List.getElem?_cons_zero, List.getElem?_cons_succ]
      have x0 : w2.cell? ⟨w.heap.size + 2, 0, none⟩ = some (.int .i64 z) := by rw [(hg2.below hb2 (by omega)).cell]; rfl
      have x1 : w2.cell? ⟨w.heap.size + 2, 1, none⟩ = some (.int .i64 n) := by rw [(hg2.below hb2 (by omega)).cell]; rfl
      go_wp2_with fail
      refine ⟨rfl, hb2, parts_last ?_⟩
      simp only [List.cons_append, List.nil_append, List.append_nil, List.filterMap_cons, List.filterMap_nil, List.getElem?_toArray, List.getElem?_cons_zero, List.getElem?_cons_succ]
      go_wp2_with fail
      refine ⟨rfl, ?_⟩
      go_wp2_with fail
      refine (hT.out _).mono ?_
      rintro e w3 ⟨rfl, hb⟩
      have hb3 : Below (w.heap.size + 3) (((w.alloc (.cells (stA s) 24)).alloc (.cells (stA o) 24)).alloc (.cells #[.int .i64 z, .int .i64 n] 26)) w3 := hb2.trans (hb.mono hs2)
      clear hb hb2 hs2 c0_0 c0_1 c0_2 c0_3 c0_4 c0_5 c0_6 c0_7 c0_8 c0_9 c0_10 c0_11 c0_12 c0_13 c0_14 c0_15 x0 x1
      as_aux_lemma =>
        have y0 : w3.cell? ⟨w.heap.size + 2, 0, none⟩ = some (.int .i64 z) := by rw [(hg2.below hb3 (by omega)).cell]; rfl
        have y1 : w3.cell? ⟨w.heap.size + 2, 1, none⟩ = some (.int .i64 n) := by rw [(hg2.below hb3 (by omega)).cell]; rfl
        have hb4 : Below w.heap.size w w3 := ((((Below.refl _ _).alloc (Nat.le_refl _) _).alloc (by simp) _).alloc (by simp; omega) _).trans (hb3.mono (by omega))
        clear hb3 hg0 hg1 hg2 h18 h19 hT
        generalize Value.agg #[.int .u32 ((s).x0 : Int), .int .u32 ((s).x1 : Int), .int .u32 ((s).x2 : Int), .int .u32 ((s).x3 : Int), .int .u32 ((s).x4 : Int), .int .u32 ((s).x5 : Int), .int .u32 ((s).x6 : Int), .int .u32 ((s).x7 : Int), .int .u32 ((s).x8 : Int), .int .u32 ((s).x9 : Int), .int .u32 ((s).x10 : Int), .int .u32 ((s).x11 : Int), .int .u32 ((s).x12 : Int), .int .u32 ((s).x13 : Int), .int .u32 ((s).x14 : Int), .int .u32 ((s).x15 : Int)] = vs
        generalize Value.agg #[.int .u32 ((o).x0 : Int), .int .u32 ((o).x1 : Int), .int .u32 ((o).x2 : Int), .int .u32 ((o).x3 : Int), .int .u32 ((o).x4 : Int), .int .u32 ((o).x5 : Int), .int .u32 ((o).x6 : Int), .int .u32 ((o).x7 : Int), .int .u32 ((o).x8 : Int), .int .u32 ((o).x9 : Int), .int .u32 ((o).x10 : Int), .int .u32 ((o).x11 : Int), .int .u32 ((o).x12 : Int), .int .u32 ((o).x13 : Int), .int .u32 ((o).x14 : Int), .int .u32 ((o).x15 : Int)] = vo
        by_cases g1 : z < 0
        · have g1' : decide (z < 0) = true := decide_eq_true g1
          go_wp2_with fail
          go_ret
          exact ⟨rfl, hb4⟩
        · have g1' : decide (z < 0) = false := decide_eq_false g1
          by_cases g2 : 511 < z
          · have g2' : decide (511 < z) = true := decide_eq_true g2
            go_wp2_with fail
            go_ret
            exact ⟨rfl, hb4⟩
          · have g2' : decide (511 < z) = false := decide_eq_false g2
            by_cases g3 : n < 0
            · have g3' : decide (n < 0) = true := decide_eq_true g3
              go_wp2_with fail
              go_ret
              exact ⟨rfl, hb4⟩
            · have g3' : decide (n < 0) = false := decide_eq_false g3
              have g4' : decide (64 < n) = true := decide_eq_true (by have := HB.out; omega)
              go_wp2_with fail
              go_ret
              exact ⟨rfl, hb4⟩

end Go.Proofs.Ytjjjgnaihnknjaa
