/- The walk of the statement MixApart: it returns true, if the functions return what they do. -/
import Derived.Test.YtcagcjabgceejaaQuarters
import Derived.Test.YtcagcjabgceejaaStateKit
import Derived.Test.YtcagcjabgceejaaSegs
import Derived.Test.YtcagcjabgceejaaEqState
import Derived.Handy
import Derived.Laws.OwnMore
namespace Go.Proofs.Ytcagcjabgceejaa
open Go.RowKit
set_option linter.unusedSimpArgs false
set_option linter.unusedVariables false

set_option maxHeartbeats 40000000 in
theorem apartLaw (s o p : St) (d1 d2 d3 n : Nat) (b : Bool) (tr : Nat → Nat)
    (hss : Hid (∀ w : World, Calls Try.prog 18 #[.agg #[.int .u32 ((s).x0 : Int), .int .u32 ((s).x1 : Int), .int .u32 ((s).x2 : Int), .int .u32 ((s).x3 : Int), .int .u32 ((s).x4 : Int), .int .u32 ((s).x5 : Int), .int .u32 ((s).x6 : Int), .int .u32 ((s).x7 : Int), .int .u32 ((s).x8 : Int), .int .u32 ((s).x9 : Int), .int .u32 ((s).x10 : Int), .int .u32 ((s).x11 : Int), .int .u32 ((s).x12 : Int), .int .u32 ((s).x13 : Int), .int .u32 ((s).x14 : Int), .int .u32 ((s).x15 : Int)], .agg #[.int .u32 ((s).x0 : Int), .int .u32 ((s).x1 : Int), .int .u32 ((s).x2 : Int), .int .u32 ((s).x3 : Int), .int .u32 ((s).x4 : Int), .int .u32 ((s).x5 : Int), .int .u32 ((s).x6 : Int), .int .u32 ((s).x7 : Int), .int .u32 ((s).x8 : Int), .int .u32 ((s).x9 : Int), .int .u32 ((s).x10 : Int), .int .u32 ((s).x11 : Int), .int .u32 ((s).x12 : Int), .int .u32 ((s).x13 : Int), .int .u32 ((s).x14 : Int), .int .u32 ((s).x15 : Int)]] w fun e w' => e = .returned (.int .i64 0) ∧ Below w.heap.size w w'))
    (hso : Hid (∀ w : World, Calls Try.prog 18 #[.agg #[.int .u32 ((s).x0 : Int), .int .u32 ((s).x1 : Int), .int .u32 ((s).x2 : Int), .int .u32 ((s).x3 : Int), .int .u32 ((s).x4 : Int), .int .u32 ((s).x5 : Int), .int .u32 ((s).x6 : Int), .int .u32 ((s).x7 : Int), .int .u32 ((s).x8 : Int), .int .u32 ((s).x9 : Int), .int .u32 ((s).x10 : Int), .int .u32 ((s).x11 : Int), .int .u32 ((s).x12 : Int), .int .u32 ((s).x13 : Int), .int .u32 ((s).x14 : Int), .int .u32 ((s).x15 : Int)], .agg #[.int .u32 ((o).x0 : Int), .int .u32 ((o).x1 : Int), .int .u32 ((o).x2 : Int), .int .u32 ((o).x3 : Int), .int .u32 ((o).x4 : Int), .int .u32 ((o).x5 : Int), .int .u32 ((o).x6 : Int), .int .u32 ((o).x7 : Int), .int .u32 ((o).x8 : Int), .int .u32 ((o).x9 : Int), .int .u32 ((o).x10 : Int), .int .u32 ((o).x11 : Int), .int .u32 ((o).x12 : Int), .int .u32 ((o).x13 : Int), .int .u32 ((o).x14 : Int), .int .u32 ((o).x15 : Int)]] w fun e w' => e = .returned (.int .i64 (d1 : Int)) ∧ Below w.heap.size w w'))
    (hos : Hid (∀ w : World, Calls Try.prog 18 #[.agg #[.int .u32 ((o).x0 : Int), .int .u32 ((o).x1 : Int), .int .u32 ((o).x2 : Int), .int .u32 ((o).x3 : Int), .int .u32 ((o).x4 : Int), .int .u32 ((o).x5 : Int), .int .u32 ((o).x6 : Int), .int .u32 ((o).x7 : Int), .int .u32 ((o).x8 : Int), .int .u32 ((o).x9 : Int), .int .u32 ((o).x10 : Int), .int .u32 ((o).x11 : Int), .int .u32 ((o).x12 : Int), .int .u32 ((o).x13 : Int), .int .u32 ((o).x14 : Int), .int .u32 ((o).x15 : Int)], .agg #[.int .u32 ((s).x0 : Int), .int .u32 ((s).x1 : Int), .int .u32 ((s).x2 : Int), .int .u32 ((s).x3 : Int), .int .u32 ((s).x4 : Int), .int .u32 ((s).x5 : Int), .int .u32 ((s).x6 : Int), .int .u32 ((s).x7 : Int), .int .u32 ((s).x8 : Int), .int .u32 ((s).x9 : Int), .int .u32 ((s).x10 : Int), .int .u32 ((s).x11 : Int), .int .u32 ((s).x12 : Int), .int .u32 ((s).x13 : Int), .int .u32 ((s).x14 : Int), .int .u32 ((s).x15 : Int)]] w fun e w' => e = .returned (.int .i64 (d1 : Int)) ∧ Below w.heap.size w w'))
    (hsp : Hid (∀ w : World, Calls Try.prog 18 #[.agg #[.int .u32 ((s).x0 : Int), .int .u32 ((s).x1 : Int), .int .u32 ((s).x2 : Int), .int .u32 ((s).x3 : Int), .int .u32 ((s).x4 : Int), .int .u32 ((s).x5 : Int), .int .u32 ((s).x6 : Int), .int .u32 ((s).x7 : Int), .int .u32 ((s).x8 : Int), .int .u32 ((s).x9 : Int), .int .u32 ((s).x10 : Int), .int .u32 ((s).x11 : Int), .int .u32 ((s).x12 : Int), .int .u32 ((s).x13 : Int), .int .u32 ((s).x14 : Int), .int .u32 ((s).x15 : Int)], .agg #[.int .u32 ((p).x0 : Int), .int .u32 ((p).x1 : Int), .int .u32 ((p).x2 : Int), .int .u32 ((p).x3 : Int), .int .u32 ((p).x4 : Int), .int .u32 ((p).x5 : Int), .int .u32 ((p).x6 : Int), .int .u32 ((p).x7 : Int), .int .u32 ((p).x8 : Int), .int .u32 ((p).x9 : Int), .int .u32 ((p).x10 : Int), .int .u32 ((p).x11 : Int), .int .u32 ((p).x12 : Int), .int .u32 ((p).x13 : Int), .int .u32 ((p).x14 : Int), .int .u32 ((p).x15 : Int)]] w fun e w' => e = .returned (.int .i64 (d2 : Int)) ∧ Below w.heap.size w w'))
    (hop : Hid (∀ w : World, Calls Try.prog 18 #[.agg #[.int .u32 ((o).x0 : Int), .int .u32 ((o).x1 : Int), .int .u32 ((o).x2 : Int), .int .u32 ((o).x3 : Int), .int .u32 ((o).x4 : Int), .int .u32 ((o).x5 : Int), .int .u32 ((o).x6 : Int), .int .u32 ((o).x7 : Int), .int .u32 ((o).x8 : Int), .int .u32 ((o).x9 : Int), .int .u32 ((o).x10 : Int), .int .u32 ((o).x11 : Int), .int .u32 ((o).x12 : Int), .int .u32 ((o).x13 : Int), .int .u32 ((o).x14 : Int), .int .u32 ((o).x15 : Int)], .agg #[.int .u32 ((p).x0 : Int), .int .u32 ((p).x1 : Int), .int .u32 ((p).x2 : Int), .int .u32 ((p).x3 : Int), .int .u32 ((p).x4 : Int), .int .u32 ((p).x5 : Int), .int .u32 ((p).x6 : Int), .int .u32 ((p).x7 : Int), .int .u32 ((p).x8 : Int), .int .u32 ((p).x9 : Int), .int .u32 ((p).x10 : Int), .int .u32 ((p).x11 : Int), .int .u32 ((p).x12 : Int), .int .u32 ((p).x13 : Int), .int .u32 ((p).x14 : Int), .int .u32 ((p).x15 : Int)]] w fun e w' => e = .returned (.int .i64 (d3 : Int)) ∧ Below w.heap.size w w'))
    (hT : Hid (∀ w : World, Calls Try.prog 20 #[.agg #[.int .u32 ((s).x0 : Int), .int .u32 ((s).x1 : Int), .int .u32 ((s).x2 : Int), .int .u32 ((s).x3 : Int), .int .u32 ((s).x4 : Int), .int .u32 ((s).x5 : Int), .int .u32 ((s).x6 : Int), .int .u32 ((s).x7 : Int), .int .u32 ((s).x8 : Int), .int .u32 ((s).x9 : Int), .int .u32 ((s).x10 : Int), .int .u32 ((s).x11 : Int), .int .u32 ((s).x12 : Int), .int .u32 ((s).x13 : Int), .int .u32 ((s).x14 : Int), .int .u32 ((s).x15 : Int)], .int .i64 ((o.x0 : Int) % 512), .int .i64 ((p.x0 : Int) % 20)] w fun e w' => ∃ g cap, e = .returned (.tuple #[.slice (some ⟨g, 0, none⟩) (n + 1) cap, .int .i64 0]) ∧ (∀ k, k ≤ n → w'.cell? ⟨g, k, none⟩ = some (.int .i64 (tr k : Int))) ∧ Below w.heap.size w w'))
    (q2 : ∀ W : World, Sem.run Try.prog (Op.equalIn 10000 30 (.agg #[.int .u32 ((s).x0 : Int), .int .u32 ((s).x1 : Int), .int .u32 ((s).x2 : Int), .int .u32 ((s).x3 : Int), .int .u32 ((s).x4 : Int), .int .u32 ((s).x5 : Int), .int .u32 ((s).x6 : Int), .int .u32 ((s).x7 : Int), .int .u32 ((s).x8 : Int), .int .u32 ((s).x9 : Int), .int .u32 ((s).x10 : Int), .int .u32 ((s).x11 : Int), .int .u32 ((s).x12 : Int), .int .u32 ((s).x13 : Int), .int .u32 ((s).x14 : Int), .int .u32 ((s).x15 : Int)]) (.agg #[.int .u32 ((o).x0 : Int), .int .u32 ((o).x1 : Int), .int .u32 ((o).x2 : Int), .int .u32 ((o).x3 : Int), .int .u32 ((o).x4 : Int), .int .u32 ((o).x5 : Int), .int .u32 ((o).x6 : Int), .int .u32 ((o).x7 : Int), .int .u32 ((o).x8 : Int), .int .u32 ((o).x9 : Int), .int .u32 ((o).x10 : Int), .int .u32 ((o).x11 : Int), .int .u32 ((o).x12 : Int), .int .u32 ((o).x13 : Int), .int .u32 ((o).x14 : Int), .int .u32 ((o).x15 : Int)])) W = .ok b W)
    (l1 : d1 ≤ 512) (l2 : d2 ≤ 512) (l3 : d3 ≤ 512) (ln : n ≤ 64) (g : decide ((d1 : Int) + (d3 : Int) < (d2 : Int)) = false) (e1 : ((d1 : Int) == 0) = b) (t0 : tr 0 = 1) (ts : ∀ k, 1 ≤ tr k ∧ tr k ≤ 512)
    (ho : o.x0 < 4294967296) (hp : p.x0 < 4294967296) (w : World) :
    Calls Try.prog 7 #[.agg #[.int .u32 ((s).x0 : Int), .int .u32 ((s).x1 : Int), .int .u32 ((s).x2 : Int), .int .u32 ((s).x3 : Int), .int .u32 ((s).x4 : Int), .int .u32 ((s).x5 : Int), .int .u32 ((s).x6 : Int), .int .u32 ((s).x7 : Int), .int .u32 ((s).x8 : Int), .int .u32 ((s).x9 : Int), .int .u32 ((s).x10 : Int), .int .u32 ((s).x11 : Int), .int .u32 ((s).x12 : Int), .int .u32 ((s).x13 : Int), .int .u32 ((s).x14 : Int), .int .u32 ((s).x15 : Int)], .agg #[.int .u32 ((o).x0 : Int), .int .u32 ((o).x1 : Int), .int .u32 ((o).x2 : Int), .int .u32 ((o).x3 : Int), .int .u32 ((o).x4 : Int), .int .u32 ((o).x5 : Int), .int .u32 ((o).x6 : Int), .int .u32 ((o).x7 : Int), .int .u32 ((o).x8 : Int), .int .u32 ((o).x9 : Int), .int .u32 ((o).x10 : Int), .int .u32 ((o).x11 : Int), .int .u32 ((o).x12 : Int), .int .u32 ((o).x13 : Int), .int .u32 ((o).x14 : Int), .int .u32 ((o).x15 : Int)], .agg #[.int .u32 ((p).x0 : Int), .int .u32 ((p).x1 : Int), .int .u32 ((p).x2 : Int), .int .u32 ((p).x3 : Int), .int .u32 ((p).x4 : Int), .int .u32 ((p).x5 : Int), .int .u32 ((p).x6 : Int), .int .u32 ((p).x7 : Int), .int .u32 ((p).x8 : Int), .int .u32 ((p).x9 : Int), .int .u32 ((p).x10 : Int), .int .u32 ((p).x11 : Int), .int .u32 ((p).x12 : Int), .int .u32 ((p).x13 : Int), .int .u32 ((p).x14 : Int), .int .u32 ((p).x15 : Int)]] w fun e w' => e = .returned (.bool true) ∧ Below w.heap.size w w' := by
  have hg0 : Blk (((w.alloc (.cells (stA s) 30)).alloc (.cells (stA o) 30)).alloc (.cells (stA p) 30)) w.heap.size 30 (stA s) := ((Blk.new w 30 (stA s)).alloc _).alloc _
  have hg1 : Blk (((w.alloc (.cells (stA s) 30)).alloc (.cells (stA o) 30)).alloc (.cells (stA p) 30)) (w.heap.size + 1) 30 (stA o) := by
    have e : (w.alloc (.cells (stA s) 30)).heap.size = w.heap.size + 1 := by simp
    rw [← e]
    exact (Blk.new (w.alloc (.cells (stA s) 30)) 30 (stA o)).alloc _
  have hg2 : Blk (((w.alloc (.cells (stA s) 30)).alloc (.cells (stA o) 30)).alloc (.cells (stA p) 30)) (w.heap.size + 2) 30 (stA p) := by
    have e : ((w.alloc (.cells (stA s) 30)).alloc (.cells (stA o) 30)).heap.size = w.heap.size + 2 := by simp
    rw [← e]
    exact Blk.new ((w.alloc (.cells (stA s) 30)).alloc (.cells (stA o) 30)) 30 (stA p)
  have e2 : decide ((d1 : Int) = 0) = b := by rw [← e1]; rfl
  have T0 : Hid (tr 0 = 1) := t0
  have TS : Hid (∀ k, 1 ≤ tr k ∧ tr k ≤ 512) := ts
  clear t0 ts
  go_enter Try.func7, Try.ntmps7
  go_wp2_with fail
  refine wp_region_parts [3, 4, 5] [([], 0, false), ([1, 2, 3, 4], 5, false), ([], 6, false), ([7, 8, 9, 10, 12, 13], 11, false), ([], 14, false), ([], 15, false), ([16, 17, 18, 19, 21, 22, 24, 25], 20, false), ([], 23, false), ([], 26, false), ([], 27, false), ([], 28, false), ([29, 30, 31, 32, 35, 36], 37, true), ([], 33, false), ([], 34, false), ([], 38, false)] [39] [] (w.heap.size + 3) (by kernel_rfl) (by kernel_rfl)
    (lows_three ⟨⟨w.heap.size, 0, none⟩, _, _, _, rfl, by show w.heap.size < w.heap.size + 3; omega, hg0⟩ ⟨⟨w.heap.size + 1, 0, none⟩, _, _, _, rfl, by show w.heap.size + 1 < w.heap.size + 3; omega, hg1⟩ ⟨⟨w.heap.size + 2, 0, none⟩, _, _, _, rfl, by show w.heap.size + 2 < w.heap.size + 3; omega, hg2⟩) (parts_force ?_)
  simp only [List.cons_append, List.nil_append, List.append_nil, List.filterMap_cons, List.filterMap_nil, List.getElem?_toArray, List.getElem?_cons_zero, List.getElem?_cons_succ]
  go_wp2_with fail
  refine (awake_any _).mono ?_
  rintro e w0 ⟨rfl, rfl⟩
  have hb0 : Below (w.heap.size + 3) (((w.alloc (.cells (stA s) 30)).alloc (.cells (stA o) 30)).alloc (.cells (stA p) 30)) (((w.alloc (.cells (stA s) 30)).alloc (.cells (stA o) 30)).alloc (.cells (stA p) 30)).drew := (Below.refl _ _).drew
  have hs0 : w.heap.size + 3 ≤ (((w.alloc (.cells (stA s) 30)).alloc (.cells (stA o) 30)).alloc (.cells (stA p) 30)).drew.heap.size := by simp
  go_wp2_with fail
  refine ⟨rfl, hb0, parts_force ?_⟩
  simp only [List.cons_append, List.nil_append, List.append_nil, List.filterMap_cons, List.filterMap_nil, List.getElem?_toArray, List.getElem?_cons_zero, List.getElem?_cons_succ]
  go_wp2_with fail
  refine (hss.out _).mono ?_
  rintro e w1 ⟨rfl, hb⟩
  have hb1 : Below (w.heap.size + 3) (((w.alloc (.cells (stA s) 30)).alloc (.cells (stA o) 30)).alloc (.cells (stA p) 30)) w1 := hb0.trans (hb.mono hs0)
  have hs1 : w.heap.size + 3 ≤ w1.heap.size := Nat.le_trans hs0 hb.size
  clear hb hb0 hs0
  as_aux_lemma =>
    obtain ⟨c0_0, c0_1, c0_2, c0_3, c0_4, c0_5, c0_6, c0_7, c0_8, c0_9, c0_10, c0_11, c0_12, c0_13, c0_14, c0_15⟩ := (hg0.below hb1 (by omega)).cells
    obtain ⟨c1_0, c1_1, c1_2, c1_3, c1_4, c1_5, c1_6, c1_7, c1_8, c1_9, c1_10, c1_11, c1_12, c1_13, c1_14, c1_15⟩ := (hg1.below hb1 (by omega)).cells
    obtain ⟨c2_0, c2_1, c2_2, c2_3, c2_4, c2_5, c2_6, c2_7, c2_8, c2_9, c2_10, c2_11, c2_12, c2_13, c2_14, c2_15⟩ := (hg2.below hb1 (by omega)).cells
    go_wp2_with fail
    refine ⟨rfl, hb1, parts_force ?_⟩
    simp only [List.cons_append, List.nil_append, List.append_nil, List.filterMap_cons, List.filterMap_nil, List.getElem?_toArray, List.getElem?_cons_zero, List.getElem?_cons_succ]
    go_wp2_with fail
    refine ⟨rfl, hb1, parts_force ?_⟩
    simp only [List.cons_append, List.nil_append, List.append_nil, List.filterMap_cons, List.filterMap_nil, List.getElem?_toArray, List.getElem?_cons_zero, List.getElem?_cons_succ]
    go_wp2_with fail
    refine (hso.out _).mono ?_
    rintro e w2 ⟨rfl, hb⟩
    have hb2 : Below (w.heap.size + 3) (((w.alloc (.cells (stA s) 30)).alloc (.cells (stA o) 30)).alloc (.cells (stA p) 30)) w2 := hb1.trans (hb.mono hs1)
    have hs2 : w.heap.size + 3 ≤ w2.heap.size := Nat.le_trans hs1 hb.size
    clear hb hb1 hs1 c0_0 c0_1 c0_2 c0_3 c0_4 c0_5 c0_6 c0_7 c0_8 c0_9 c0_10 c0_11 c0_12 c0_13 c0_14 c0_15 c1_0 c1_1 c1_2 c1_3 c1_4 c1_5 c1_6 c1_7 c1_8 c1_9 c1_10 c1_11 c1_12 c1_13 c1_14 c1_15 c2_0 c2_1 c2_2 c2_3 c2_4 c2_5 c2_6 c2_7 c2_8 c2_9 c2_10 c2_11 c2_12 c2_13 c2_14 c2_15
    as_aux_lemma =>
      go_wp2_with fail
      refine ⟨rfl, hb2, parts_force ?_⟩
      simp only [List.cons_append, List.nil_append, List.append_nil, List.filterMap_cons, List.filterMap_nil, List.getElem?_toArray, List.getElem?_cons_zero, List.getElem?_cons_succ]
      go_wp2_with fail
      refine (hos.out _).mono ?_
      rintro e w3 ⟨rfl, hb⟩
      have hb3 : Below (w.heap.size + 3) (((w.alloc (.cells (stA s) 30)).alloc (.cells (stA o) 30)).alloc (.cells (stA p) 30)) w3 := hb2.trans (hb.mono hs2)
      have hs3 : w.heap.size + 3 ≤ w3.heap.size := Nat.le_trans hs2 hb.size
      clear hb hb2 hs2
      as_aux_lemma =>
        obtain ⟨c0_0, c0_1, c0_2, c0_3, c0_4, c0_5, c0_6, c0_7, c0_8, c0_9, c0_10, c0_11, c0_12, c0_13, c0_14, c0_15⟩ := (hg0.below hb3 (by omega)).cells
        obtain ⟨c1_0, c1_1, c1_2, c1_3, c1_4, c1_5, c1_6, c1_7, c1_8, c1_9, c1_10, c1_11, c1_12, c1_13, c1_14, c1_15⟩ := (hg1.below hb3 (by omega)).cells
        obtain ⟨c2_0, c2_1, c2_2, c2_3, c2_4, c2_5, c2_6, c2_7, c2_8, c2_9, c2_10, c2_11, c2_12, c2_13, c2_14, c2_15⟩ := (hg2.below hb3 (by omega)).cells
        go_wp2_with fail
        refine ⟨rfl, hb3, parts_force ?_⟩
        simp only [List.cons_append, List.nil_append, List.append_nil, List.filterMap_cons, List.filterMap_nil, List.getElem?_toArray, List.getElem?_cons_zero, List.getElem?_cons_succ]
        go_wp2_with fail
        refine ⟨rfl, hb3, parts_force ?_⟩
        simp only [List.cons_append, List.nil_append, List.append_nil, List.filterMap_cons, List.filterMap_nil, List.getElem?_toArray, List.getElem?_cons_zero, List.getElem?_cons_succ]
        go_wp2_with fail
        refine (hsp.out _).mono ?_
        rintro e w4 ⟨rfl, hb⟩
        have hb4 : Below (w.heap.size + 3) (((w.alloc (.cells (stA s) 30)).alloc (.cells (stA o) 30)).alloc (.cells (stA p) 30)) w4 := hb3.trans (hb.mono hs3)
        have hs4 : w.heap.size + 3 ≤ w4.heap.size := Nat.le_trans hs3 hb.size
        clear hb hb3 hs3 c0_0 c0_1 c0_2 c0_3 c0_4 c0_5 c0_6 c0_7 c0_8 c0_9 c0_10 c0_11 c0_12 c0_13 c0_14 c0_15 c1_0 c1_1 c1_2 c1_3 c1_4 c1_5 c1_6 c1_7 c1_8 c1_9 c1_10 c1_11 c1_12 c1_13 c1_14 c1_15 c2_0 c2_1 c2_2 c2_3 c2_4 c2_5 c2_6 c2_7 c2_8 c2_9 c2_10 c2_11 c2_12 c2_13 c2_14 c2_15
        as_aux_lemma =>
          go_wp2_with fail
          refine ⟨rfl, hb4, parts_force ?_⟩
          simp only [List.cons_append, List.nil_append, List.append_nil, List.filterMap_cons, List.filterMap_nil, List.getElem?_toArray, List.getElem?_cons_zero, List.getElem?_cons_succ]
          go_wp2_with fail
          refine (hso.out _).mono ?_
          rintro e w5 ⟨rfl, hb⟩
          have hb5 : Below (w.heap.size + 3) (((w.alloc (.cells (stA s) 30)).alloc (.cells (stA o) 30)).alloc (.cells (stA p) 30)) w5 := hb4.trans (hb.mono hs4)
          have hs5 : w.heap.size + 3 ≤ w5.heap.size := Nat.le_trans hs4 hb.size
          clear hb hb4 hs4
          as_aux_lemma =>
            go_wp2_with fail
            refine ⟨rfl, hb5, parts_force ?_⟩
            simp only [List.cons_append, List.nil_append, List.append_nil, List.filterMap_cons, List.filterMap_nil, List.getElem?_toArray, List.getElem?_cons_zero, List.getElem?_cons_succ]
            go_wp2_with fail
            refine (hop.out _).mono ?_
            rintro e w6 ⟨rfl, hb⟩
            have hb6 : Below (w.heap.size + 3) (((w.alloc (.cells (stA s) 30)).alloc (.cells (stA o) 30)).alloc (.cells (stA p) 30)) w6 := hb5.trans (hb.mono hs5)
            have hs6 : w.heap.size + 3 ≤ w6.heap.size := Nat.le_trans hs5 hb.size
            clear hb hb5 hs5
            as_aux_lemma =>
              obtain ⟨c0_0, c0_1, c0_2, c0_3, c0_4, c0_5, c0_6, c0_7, c0_8, c0_9, c0_10, c0_11, c0_12, c0_13, c0_14, c0_15⟩ := (hg0.below hb6 (by omega)).cells
              obtain ⟨c1_0, c1_1, c1_2, c1_3, c1_4, c1_5, c1_6, c1_7, c1_8, c1_9, c1_10, c1_11, c1_12, c1_13, c1_14, c1_15⟩ := (hg1.below hb6 (by omega)).cells
              obtain ⟨c2_0, c2_1, c2_2, c2_3, c2_4, c2_5, c2_6, c2_7, c2_8, c2_9, c2_10, c2_11, c2_12, c2_13, c2_14, c2_15⟩ := (hg2.below hb6 (by omega)).cells
              go_wp2_with fail
              refine ⟨rfl, hb6, parts_force ?_⟩
              simp only [List.cons_append, List.nil_append, List.append_nil, List.filterMap_cons, List.filterMap_nil, List.getElem?_toArray, List.getElem?_cons_zero, List.getElem?_cons_succ]
              go_wp2_with fail
              refine ⟨rfl, hb6, parts_force ?_⟩
              simp only [List.cons_append, List.nil_append, List.append_nil, List.filterMap_cons, List.filterMap_nil, List.getElem?_toArray, List.getElem?_cons_zero, List.getElem?_cons_succ]
              go_wp2_with fail
              refine ⟨rfl, hb6, parts_yield ?_⟩
              simp only [List.cons_append, List.nil_append, List.append_nil, List.filterMap_cons, List.filterMap_nil, List.getElem?_toArray, List.getElem?_cons_zero, List.getElem?_cons_succ]
              go_wp2_with fail
              refine ⟨rfl, _, .bool b, rfl, Or.inl ⟨by rfl, fun W => by go_simp⟩, parts_force ?_⟩
              simp only [Act.put, List.setIfInBounds_toArray, List.set_cons_zero, List.set_cons_succ]
              simp only [List.cons_append, List.nil_append, List.append_nil, List.filterMap_cons, List.filterMap_nil, List.getElem?_toArray, List.getElem?_cons_zero, List.getElem?_cons_succ]
              go_wp2_with fail
              refine (hso.out _).mono ?_
              rintro e w7 ⟨rfl, hb⟩
              have hb7 : Below (w.heap.size + 3) (((w.alloc (.cells (stA s) 30)).alloc (.cells (stA o) 30)).alloc (.cells (stA p) 30)) w7 := hb6.trans (hb.mono hs6)
              have hs7 : w.heap.size + 3 ≤ w7.heap.size := Nat.le_trans hs6 hb.size
              clear hb hb6 hs6 c0_0 c0_1 c0_2 c0_3 c0_4 c0_5 c0_6 c0_7 c0_8 c0_9 c0_10 c0_11 c0_12 c0_13 c0_14 c0_15 c1_0 c1_1 c1_2 c1_3 c1_4 c1_5 c1_6 c1_7 c1_8 c1_9 c1_10 c1_11 c1_12 c1_13 c1_14 c1_15 c2_0 c2_1 c2_2 c2_3 c2_4 c2_5 c2_6 c2_7 c2_8 c2_9 c2_10 c2_11 c2_12 c2_13 c2_14 c2_15
              as_aux_lemma =>
                obtain ⟨c0_0, c0_1, c0_2, c0_3, c0_4, c0_5, c0_6, c0_7, c0_8, c0_9, c0_10, c0_11, c0_12, c0_13, c0_14, c0_15⟩ := (hg0.below hb7 (by omega)).cells
                obtain ⟨c1_0, c1_1, c1_2, c1_3, c1_4, c1_5, c1_6, c1_7, c1_8, c1_9, c1_10, c1_11, c1_12, c1_13, c1_14, c1_15⟩ := (hg1.below hb7 (by omega)).cells
                obtain ⟨c2_0, c2_1, c2_2, c2_3, c2_4, c2_5, c2_6, c2_7, c2_8, c2_9, c2_10, c2_11, c2_12, c2_13, c2_14, c2_15⟩ := (hg2.below hb7 (by omega)).cells
                go_wp2_with fail
                refine ⟨rfl, hb7, parts_force ?_⟩
                simp only [List.cons_append, List.nil_append, List.append_nil, List.filterMap_cons, List.filterMap_nil, List.getElem?_toArray, List.getElem?_cons_zero, List.getElem?_cons_succ]
                go_wp2_with fail
                refine ⟨rfl, hb7, parts_force ?_⟩
                simp only [List.cons_append, List.nil_append, List.append_nil, List.filterMap_cons, List.filterMap_nil, List.getElem?_toArray, List.getElem?_cons_zero, List.getElem?_cons_succ]
                go_wp2_with fail
                refine ⟨rfl, hb7, parts_last ?_⟩
                simp only [List.cons_append, List.nil_append, List.append_nil, List.filterMap_cons, List.filterMap_nil, List.getElem?_toArray, List.getElem?_cons_zero, List.getElem?_cons_succ]
                go_wp2_with fail
                refine ⟨rfl, ?_⟩
                go_wp2_with fail
                refine (hT.out _).mono ?_
                rintro e w9 ⟨g9, cap, rfl, hc, hb⟩
                have hb9 : Below w.heap.size w w9 := ((((Below.refl _ _).alloc (Nat.le_refl _) _).alloc (by simp) _).alloc (by simp; omega) _).trans ((hb7.mono (by omega)).trans (hb.mono (by omega)))
                clear hb hb7 hs7 c0_0 c0_1 c0_2 c0_3 c0_4 c0_5 c0_6 c0_7 c0_8 c0_9 c0_10 c0_11 c0_12 c0_13 c0_14 c0_15 c1_0 c1_1 c1_2 c1_3 c1_4 c1_5 c1_6 c1_7 c1_8 c1_9 c1_10 c1_11 c1_12 c1_13 c1_14 c1_15 c2_0 c2_1 c2_2 c2_3 c2_4 c2_5 c2_6 c2_7 c2_8 c2_9 c2_10 c2_11 c2_12 c2_13 c2_14 c2_15
                as_aux_lemma =>
                  as_aux_lemma =>
                    have c0 : w9.cell? ⟨g9, 0, none⟩ = some (.int .i64 1) := by rw [hc 0 (by omega), T0.out]; rfl
                    have HC : Hid (∀ k, k ≤ n → w9.cell? ⟨g9, k, none⟩ = some (.int .i64 (tr k : Int))) := hc
                    clear hc
                    go_wp2_with fail
                    clear c0
                    go_loop [79] (fun i => ∃ k : Nat, k ≤ n + 1 ∧ i = .int .i64 k) (fun i => n + 1 - (intOf i).toNat)
                    case atStart => exact ⟨0, by omega, rfl⟩
                    case round =>
                      obtain ⟨k, hk, rfl⟩ := hrel
                      by_cases hlt : k < n + 1
                      · have ck := HC.out k (by omega)
                        have tk := TS.out k
                        generalize tr k = tv at *
                        have a1 : decide ((tv : Int) < 1) = false := decide_eq_false (by omega)
                        have a2 : decide ((512 : Int) < (tv : Int)) = false := decide_eq_false (by omega)
                        have i0 : (0 : Int) ≤ (k : Int) := by omega
                        have i1 : (k : Int) < (n : Int) + 1 := by omega
                        have i2 : decide ((k : Int) < (n : Int) + 1) = true := decide_eq_true i1
                        clear tk
                        go_wp2_with fail
                        go_round
                        case rel => exact ⟨k + 1, by omega, by go_num⟩
                        case measure => simp [intOf]; omega
                      · have : k = n + 1 := by omega
                        subst this
                        go_wp2_with fail
                        go_ret
                        exact ⟨rfl, hb9⟩

end Go.Proofs.Ytcagcjabgceejaa
