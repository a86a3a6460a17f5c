/- The walk of the statement MixBack: it returns true, if the functions return what they do. -/
import Derived.Test.YtcagcjabgceejaaQuarters
import Derived.Test.YtcagcjabgceejaaStateKit
import Derived.Test.YtcagcjabgceejaaSegs
import Derived.Test.YtcagcjabgceejaaEqState
import Derived.Handy
namespace Go.Proofs.Ytcagcjabgceejaa
open Go.RowKit
set_option linter.unusedSimpArgs false
set_option linter.unusedVariables false

set_option maxHeartbeats 8000000 in
theorem backLaw (s o m u v t : St) (n r : Int) (b : Bool)
    (h14 : Hid (∀ w : World, Calls Try.prog 14 #[.agg #[.int .u32 ((s).x0 : Int), .int .u32 ((s).x1 : Int), .int .u32 ((s).x2 : Int), .int .u32 ((s).x3 : Int), .int .u32 ((s).x4 : Int), .int .u32 ((s).x5 : Int), .int .u32 ((s).x6 : Int), .int .u32 ((s).x7 : Int), .int .u32 ((s).x8 : Int), .int .u32 ((s).x9 : Int), .int .u32 ((s).x10 : Int), .int .u32 ((s).x11 : Int), .int .u32 ((s).x12 : Int), .int .u32 ((s).x13 : Int), .int .u32 ((s).x14 : Int), .int .u32 ((s).x15 : Int)]] w fun e w' => e = .returned (.agg #[.int .u32 ((m).x0 : Int), .int .u32 ((m).x1 : Int), .int .u32 ((m).x2 : Int), .int .u32 ((m).x3 : Int), .int .u32 ((m).x4 : Int), .int .u32 ((m).x5 : Int), .int .u32 ((m).x6 : Int), .int .u32 ((m).x7 : Int), .int .u32 ((m).x8 : Int), .int .u32 ((m).x9 : Int), .int .u32 ((m).x10 : Int), .int .u32 ((m).x11 : Int), .int .u32 ((m).x12 : Int), .int .u32 ((m).x13 : Int), .int .u32 ((m).x14 : Int), .int .u32 ((m).x15 : Int)]) ∧ Below w.heap.size w w'))
    (h16 : Hid (∀ w : World, Calls Try.prog 16 #[.agg #[.int .u32 ((m).x0 : Int), .int .u32 ((m).x1 : Int), .int .u32 ((m).x2 : Int), .int .u32 ((m).x3 : Int), .int .u32 ((m).x4 : Int), .int .u32 ((m).x5 : Int), .int .u32 ((m).x6 : Int), .int .u32 ((m).x7 : Int), .int .u32 ((m).x8 : Int), .int .u32 ((m).x9 : Int), .int .u32 ((m).x10 : Int), .int .u32 ((m).x11 : Int), .int .u32 ((m).x12 : Int), .int .u32 ((m).x13 : Int), .int .u32 ((m).x14 : Int), .int .u32 ((m).x15 : Int)]] w fun e w' => e = .returned (.agg #[.int .u32 ((s).x0 : Int), .int .u32 ((s).x1 : Int), .int .u32 ((s).x2 : Int), .int .u32 ((s).x3 : Int), .int .u32 ((s).x4 : Int), .int .u32 ((s).x5 : Int), .int .u32 ((s).x6 : Int), .int .u32 ((s).x7 : Int), .int .u32 ((s).x8 : Int), .int .u32 ((s).x9 : Int), .int .u32 ((s).x10 : Int), .int .u32 ((s).x11 : Int), .int .u32 ((s).x12 : Int), .int .u32 ((s).x13 : Int), .int .u32 ((s).x14 : Int), .int .u32 ((s).x15 : Int)]) ∧ Below w.heap.size w w'))
    (h16b : Hid (∀ w : World, Calls Try.prog 16 #[.agg #[.int .u32 ((s).x0 : Int), .int .u32 ((s).x1 : Int), .int .u32 ((s).x2 : Int), .int .u32 ((s).x3 : Int), .int .u32 ((s).x4 : Int), .int .u32 ((s).x5 : Int), .int .u32 ((s).x6 : Int), .int .u32 ((s).x7 : Int), .int .u32 ((s).x8 : Int), .int .u32 ((s).x9 : Int), .int .u32 ((s).x10 : Int), .int .u32 ((s).x11 : Int), .int .u32 ((s).x12 : Int), .int .u32 ((s).x13 : Int), .int .u32 ((s).x14 : Int), .int .u32 ((s).x15 : Int)]] w fun e w' => e = .returned (.agg #[.int .u32 ((u).x0 : Int), .int .u32 ((u).x1 : Int), .int .u32 ((u).x2 : Int), .int .u32 ((u).x3 : Int), .int .u32 ((u).x4 : Int), .int .u32 ((u).x5 : Int), .int .u32 ((u).x6 : Int), .int .u32 ((u).x7 : Int), .int .u32 ((u).x8 : Int), .int .u32 ((u).x9 : Int), .int .u32 ((u).x10 : Int), .int .u32 ((u).x11 : Int), .int .u32 ((u).x12 : Int), .int .u32 ((u).x13 : Int), .int .u32 ((u).x14 : Int), .int .u32 ((u).x15 : Int)]) ∧ Below w.heap.size w w'))
    (h14b : Hid (∀ w : World, Calls Try.prog 14 #[.agg #[.int .u32 ((u).x0 : Int), .int .u32 ((u).x1 : Int), .int .u32 ((u).x2 : Int), .int .u32 ((u).x3 : Int), .int .u32 ((u).x4 : Int), .int .u32 ((u).x5 : Int), .int .u32 ((u).x6 : Int), .int .u32 ((u).x7 : Int), .int .u32 ((u).x8 : Int), .int .u32 ((u).x9 : Int), .int .u32 ((u).x10 : Int), .int .u32 ((u).x11 : Int), .int .u32 ((u).x12 : Int), .int .u32 ((u).x13 : Int), .int .u32 ((u).x14 : Int), .int .u32 ((u).x15 : Int)]] w fun e w' => e = .returned (.agg #[.int .u32 ((s).x0 : Int), .int .u32 ((s).x1 : Int), .int .u32 ((s).x2 : Int), .int .u32 ((s).x3 : Int), .int .u32 ((s).x4 : Int), .int .u32 ((s).x5 : Int), .int .u32 ((s).x6 : Int), .int .u32 ((s).x7 : Int), .int .u32 ((s).x8 : Int), .int .u32 ((s).x9 : Int), .int .u32 ((s).x10 : Int), .int .u32 ((s).x11 : Int), .int .u32 ((s).x12 : Int), .int .u32 ((s).x13 : Int), .int .u32 ((s).x14 : Int), .int .u32 ((s).x15 : Int)]) ∧ Below w.heap.size w w'))
    (h14o : Hid (∀ w : World, Calls Try.prog 14 #[.agg #[.int .u32 ((o).x0 : Int), .int .u32 ((o).x1 : Int), .int .u32 ((o).x2 : Int), .int .u32 ((o).x3 : Int), .int .u32 ((o).x4 : Int), .int .u32 ((o).x5 : Int), .int .u32 ((o).x6 : Int), .int .u32 ((o).x7 : Int), .int .u32 ((o).x8 : Int), .int .u32 ((o).x9 : Int), .int .u32 ((o).x10 : Int), .int .u32 ((o).x11 : Int), .int .u32 ((o).x12 : Int), .int .u32 ((o).x13 : Int), .int .u32 ((o).x14 : Int), .int .u32 ((o).x15 : Int)]] w fun e w' => e = .returned (.agg #[.int .u32 ((v).x0 : Int), .int .u32 ((v).x1 : Int), .int .u32 ((v).x2 : Int), .int .u32 ((v).x3 : Int), .int .u32 ((v).x4 : Int), .int .u32 ((v).x5 : Int), .int .u32 ((v).x6 : Int), .int .u32 ((v).x7 : Int), .int .u32 ((v).x8 : Int), .int .u32 ((v).x9 : Int), .int .u32 ((v).x10 : Int), .int .u32 ((v).x11 : Int), .int .u32 ((v).x12 : Int), .int .u32 ((v).x13 : Int), .int .u32 ((v).x14 : Int), .int .u32 ((v).x15 : Int)]) ∧ Below w.heap.size w w'))
    (h14z : Hid (∀ w : World, Calls Try.prog 14 #[.agg #[.int .u32 0, .int .u32 0, .int .u32 0, .int .u32 0, .int .u32 0, .int .u32 0, .int .u32 0, .int .u32 0, .int .u32 0, .int .u32 0, .int .u32 0, .int .u32 0, .int .u32 0, .int .u32 0, .int .u32 0, .int .u32 0]] w fun e w' => e = .returned (.agg #[.int .u32 0, .int .u32 0, .int .u32 0, .int .u32 0, .int .u32 0, .int .u32 0, .int .u32 0, .int .u32 0, .int .u32 0, .int .u32 0, .int .u32 0, .int .u32 0, .int .u32 0, .int .u32 0, .int .u32 0, .int .u32 0]) ∧ Below w.heap.size w w'))
    (h17a : Hid (∀ w : World, Calls Try.prog 17 #[.agg #[.int .u32 ((s).x0 : Int), .int .u32 ((s).x1 : Int), .int .u32 ((s).x2 : Int), .int .u32 ((s).x3 : Int), .int .u32 ((s).x4 : Int), .int .u32 ((s).x5 : Int), .int .u32 ((s).x6 : Int), .int .u32 ((s).x7 : Int), .int .u32 ((s).x8 : Int), .int .u32 ((s).x9 : Int), .int .u32 ((s).x10 : Int), .int .u32 ((s).x11 : Int), .int .u32 ((s).x12 : Int), .int .u32 ((s).x13 : Int), .int .u32 ((s).x14 : Int), .int .u32 ((s).x15 : Int)], .int .i64 r] w fun e w' => e = .returned (.tuple #[.agg #[.int .u32 ((t).x0 : Int), .int .u32 ((t).x1 : Int), .int .u32 ((t).x2 : Int), .int .u32 ((t).x3 : Int), .int .u32 ((t).x4 : Int), .int .u32 ((t).x5 : Int), .int .u32 ((t).x6 : Int), .int .u32 ((t).x7 : Int), .int .u32 ((t).x8 : Int), .int .u32 ((t).x9 : Int), .int .u32 ((t).x10 : Int), .int .u32 ((t).x11 : Int), .int .u32 ((t).x12 : Int), .int .u32 ((t).x13 : Int), .int .u32 ((t).x14 : Int), .int .u32 ((t).x15 : Int)], .int .i64 0]) ∧ Below w.heap.size w w'))
    (h17b : Hid (∀ w : World, Calls Try.prog 17 #[.agg #[.int .u32 ((t).x0 : Int), .int .u32 ((t).x1 : Int), .int .u32 ((t).x2 : Int), .int .u32 ((t).x3 : Int), .int .u32 ((t).x4 : Int), .int .u32 ((t).x5 : Int), .int .u32 ((t).x6 : Int), .int .u32 ((t).x7 : Int), .int .u32 ((t).x8 : Int), .int .u32 ((t).x9 : Int), .int .u32 ((t).x10 : Int), .int .u32 ((t).x11 : Int), .int .u32 ((t).x12 : Int), .int .u32 ((t).x13 : Int), .int .u32 ((t).x14 : Int), .int .u32 ((t).x15 : Int)], .int .i64 (-r)] w fun e w' => e = .returned (.tuple #[.agg #[.int .u32 ((s).x0 : Int), .int .u32 ((s).x1 : Int), .int .u32 ((s).x2 : Int), .int .u32 ((s).x3 : Int), .int .u32 ((s).x4 : Int), .int .u32 ((s).x5 : Int), .int .u32 ((s).x6 : Int), .int .u32 ((s).x7 : Int), .int .u32 ((s).x8 : Int), .int .u32 ((s).x9 : Int), .int .u32 ((s).x10 : Int), .int .u32 ((s).x11 : Int), .int .u32 ((s).x12 : Int), .int .u32 ((s).x13 : Int), .int .u32 ((s).x14 : Int), .int .u32 ((s).x15 : Int)], .int .i64 0]) ∧ Below w.heap.size w w'))
    (q1 : ∀ W : World, Sem.run Try.prog (Op.equalIn 10000 30 (.agg #[.int .u32 ((s).x0 : Int), .int .u32 ((s).x1 : Int), .int .u32 ((s).x2 : Int), .int .u32 ((s).x3 : Int), .int .u32 ((s).x4 : Int), .int .u32 ((s).x5 : Int), .int .u32 ((s).x6 : Int), .int .u32 ((s).x7 : Int), .int .u32 ((s).x8 : Int), .int .u32 ((s).x9 : Int), .int .u32 ((s).x10 : Int), .int .u32 ((s).x11 : Int), .int .u32 ((s).x12 : Int), .int .u32 ((s).x13 : Int), .int .u32 ((s).x14 : Int), .int .u32 ((s).x15 : Int)]) (.agg #[.int .u32 ((s).x0 : Int), .int .u32 ((s).x1 : Int), .int .u32 ((s).x2 : Int), .int .u32 ((s).x3 : Int), .int .u32 ((s).x4 : Int), .int .u32 ((s).x5 : Int), .int .u32 ((s).x6 : Int), .int .u32 ((s).x7 : Int), .int .u32 ((s).x8 : Int), .int .u32 ((s).x9 : Int), .int .u32 ((s).x10 : Int), .int .u32 ((s).x11 : Int), .int .u32 ((s).x12 : Int), .int .u32 ((s).x13 : Int), .int .u32 ((s).x14 : Int), .int .u32 ((s).x15 : Int)])) W = .ok true W) (q2 : ∀ W : World, Sem.run Try.prog (Op.equalIn 10000 30 (.agg #[.int .u32 ((s).x0 : Int), .int .u32 ((s).x1 : Int), .int .u32 ((s).x2 : Int), .int .u32 ((s).x3 : Int), .int .u32 ((s).x4 : Int), .int .u32 ((s).x5 : Int), .int .u32 ((s).x6 : Int), .int .u32 ((s).x7 : Int), .int .u32 ((s).x8 : Int), .int .u32 ((s).x9 : Int), .int .u32 ((s).x10 : Int), .int .u32 ((s).x11 : Int), .int .u32 ((s).x12 : Int), .int .u32 ((s).x13 : Int), .int .u32 ((s).x14 : Int), .int .u32 ((s).x15 : Int)]) (.agg #[.int .u32 ((o).x0 : Int), .int .u32 ((o).x1 : Int), .int .u32 ((o).x2 : Int), .int .u32 ((o).x3 : Int), .int .u32 ((o).x4 : Int), .int .u32 ((o).x5 : Int), .int .u32 ((o).x6 : Int), .int .u32 ((o).x7 : Int), .int .u32 ((o).x8 : Int), .int .u32 ((o).x9 : Int), .int .u32 ((o).x10 : Int), .int .u32 ((o).x11 : Int), .int .u32 ((o).x12 : Int), .int .u32 ((o).x13 : Int), .int .u32 ((o).x14 : Int), .int .u32 ((o).x15 : Int)])) W = .ok b W) (q3 : ∀ W : World, Sem.run Try.prog (Op.equalIn 10000 30 (.agg #[.int .u32 ((m).x0 : Int), .int .u32 ((m).x1 : Int), .int .u32 ((m).x2 : Int), .int .u32 ((m).x3 : Int), .int .u32 ((m).x4 : Int), .int .u32 ((m).x5 : Int), .int .u32 ((m).x6 : Int), .int .u32 ((m).x7 : Int), .int .u32 ((m).x8 : Int), .int .u32 ((m).x9 : Int), .int .u32 ((m).x10 : Int), .int .u32 ((m).x11 : Int), .int .u32 ((m).x12 : Int), .int .u32 ((m).x13 : Int), .int .u32 ((m).x14 : Int), .int .u32 ((m).x15 : Int)]) (.agg #[.int .u32 ((v).x0 : Int), .int .u32 ((v).x1 : Int), .int .u32 ((v).x2 : Int), .int .u32 ((v).x3 : Int), .int .u32 ((v).x4 : Int), .int .u32 ((v).x5 : Int), .int .u32 ((v).x6 : Int), .int .u32 ((v).x7 : Int), .int .u32 ((v).x8 : Int), .int .u32 ((v).x9 : Int), .int .u32 ((v).x10 : Int), .int .u32 ((v).x11 : Int), .int .u32 ((v).x12 : Int), .int .u32 ((v).x13 : Int), .int .u32 ((v).x14 : Int), .int .u32 ((v).x15 : Int)])) W = .ok b W) (q4 : ∀ W : World, Sem.run Try.prog (Op.equalIn 10000 30 (.agg #[.int .u32 0, .int .u32 0, .int .u32 0, .int .u32 0, .int .u32 0, .int .u32 0, .int .u32 0, .int .u32 0, .int .u32 0, .int .u32 0, .int .u32 0, .int .u32 0, .int .u32 0, .int .u32 0, .int .u32 0, .int .u32 0]) (.agg #[.int .u32 0, .int .u32 0, .int .u32 0, .int .u32 0, .int .u32 0, .int .u32 0, .int .u32 0, .int .u32 0, .int .u32 0, .int .u32 0, .int .u32 0, .int .u32 0, .int .u32 0, .int .u32 0, .int .u32 0, .int .u32 0])) W = .ok true W)
    (hr : n.tmod 65 = r) (r1 : -64 ≤ r) (r2 : r ≤ 64) (w : World) :
    Calls Try.prog 5 #[.agg #[.int .u32 ((s).x0 : Int), .int .u32 ((s).x1 : Int), .int .u32 ((s).x2 : Int), .int .u32 ((s).x3 : Int), .int .u32 ((s).x4 : Int), .int .u32 ((s).x5 : Int), .int .u32 ((s).x6 : Int), .int .u32 ((s).x7 : Int), .int .u32 ((s).x8 : Int), .int .u32 ((s).x9 : Int), .int .u32 ((s).x10 : Int), .int .u32 ((s).x11 : Int), .int .u32 ((s).x12 : Int), .int .u32 ((s).x13 : Int), .int .u32 ((s).x14 : Int), .int .u32 ((s).x15 : Int)], .agg #[.int .u32 ((o).x0 : Int), .int .u32 ((o).x1 : Int), .int .u32 ((o).x2 : Int), .int .u32 ((o).x3 : Int), .int .u32 ((o).x4 : Int), .int .u32 ((o).x5 : Int), .int .u32 ((o).x6 : Int), .int .u32 ((o).x7 : Int), .int .u32 ((o).x8 : Int), .int .u32 ((o).x9 : Int), .int .u32 ((o).x10 : Int), .int .u32 ((o).x11 : Int), .int .u32 ((o).x12 : Int), .int .u32 ((o).x13 : Int), .int .u32 ((o).x14 : Int), .int .u32 ((o).x15 : Int)], .int .i64 n] w fun e w' => e = .returned (.bool true) ∧ Below w.heap.size w w' := by
  have hg0 : Blk ((w.alloc (.cells (stA s) 30)).alloc (.cells (stA o) 30)) w.heap.size 30 (stA s) := (Blk.new w 30 (stA s)).alloc _
  have hg1 : Blk ((w.alloc (.cells (stA s) 30)).alloc (.cells (stA o) 30)) (w.heap.size + 1) 30 (stA o) := by
    have e : (w.alloc (.cells (stA s) 30)).heap.size = w.heap.size + 1 := by simp
    rw [← e]
    exact Blk.new (w.alloc (.cells (stA s) 30)) 30 (stA o)
  go_enter Try.func5, Try.ntmps5
  go_wp2_with fail
  refine wp_region_parts [3, 4] [([], 0, false), ([1, 2, 3, 6], 4, false), ([], 5, false), ([], 7, false), ([8, 9, 10, 13], 11, false), ([], 12, false), ([], 14, false), ([15, 16, 17, 19, 22, 23], 24, true), ([], 18, false), ([], 20, false), ([], 21, false), ([], 25, false), ([26, 27], 28, true), ([], 30, true), ([], 29, false), ([], 31, false)] [32] [] (w.heap.size + 2) (by kernel_rfl) (by kernel_rfl)
    (lows_two ⟨⟨w.heap.size, 0, none⟩, _, _, _, rfl, by show w.heap.size < w.heap.size + 2; omega, hg0⟩ ⟨⟨w.heap.size + 1, 0, none⟩, _, _, _, rfl, by show w.heap.size + 1 < w.heap.size + 2; omega, hg1⟩) (parts_force ?_)
  simp only [List.cons_append, List.nil_append, List.append_nil, List.filterMap_cons, List.filterMap_nil, List.getElem?_toArray, List.getElem?_cons_zero, List.getElem?_cons_succ]
  go_wp2_with fail
  refine (awake_any _).mono ?_
  rintro e w0 ⟨rfl, rfl⟩
  have hb0 : Below (w.heap.size + 2) ((w.alloc (.cells (stA s) 30)).alloc (.cells (stA o) 30)) ((w.alloc (.cells (stA s) 30)).alloc (.cells (stA o) 30)).drew := (Below.refl _ _).drew
  have hs0 : w.heap.size + 2 ≤ ((w.alloc (.cells (stA s) 30)).alloc (.cells (stA o) 30)).drew.heap.size := by simp
  go_wp2_with fail
  refine ⟨rfl, hb0, parts_force ?_⟩
  simp only [List.cons_append, List.nil_append, List.append_nil, List.filterMap_cons, List.filterMap_nil, List.getElem?_toArray, List.getElem?_cons_zero, List.getElem?_cons_succ]
  go_wp2_with fail
  refine (h14.out _).mono ?_
  rintro e w1 ⟨rfl, hb⟩
  have hb1 : Below (w.heap.size + 2) ((w.alloc (.cells (stA s) 30)).alloc (.cells (stA o) 30)) w1 := hb0.trans (hb.mono hs0)
  have hs1 : w.heap.size + 2 ≤ w1.heap.size := Nat.le_trans hs0 hb.size
  clear hb hb0 hs0
  as_aux_lemma =>
    go_wp2_with fail
    refine ⟨rfl, hb1, parts_force ?_⟩
    simp only [List.cons_append, List.nil_append, List.append_nil, List.filterMap_cons, List.filterMap_nil, List.getElem?_toArray, List.getElem?_cons_zero, List.getElem?_cons_succ]
    go_wp2_with fail
    refine (h16.out _).mono ?_
    rintro e w2 ⟨rfl, hb⟩
    have hb2 : Below (w.heap.size + 2) ((w.alloc (.cells (stA s) 30)).alloc (.cells (stA o) 30)) w2 := hb1.trans (hb.mono hs1)
    have hs2 : w.heap.size + 2 ≤ w2.heap.size := Nat.le_trans hs1 hb.size
    clear hb hb1 hs1
    as_aux_lemma =>
      obtain ⟨c0_0, c0_1, c0_2, c0_3, c0_4, c0_5, c0_6, c0_7, c0_8, c0_9, c0_10, c0_11, c0_12, c0_13, c0_14, c0_15⟩ := (hg0.below hb2 (by omega)).cells
      obtain ⟨c1_0, c1_1, c1_2, c1_3, c1_4, c1_5, c1_6, c1_7, c1_8, c1_9, c1_10, c1_11, c1_12, c1_13, c1_14, c1_15⟩ := (hg1.below hb2 (by omega)).cells
      go_wp2_with fail
      refine ⟨rfl, hb2, parts_force ?_⟩
      simp only [List.cons_append, List.nil_append, List.append_nil, List.filterMap_cons, List.filterMap_nil, List.getElem?_toArray, List.getElem?_cons_zero, List.getElem?_cons_succ]
      go_wp2_with fail
      refine ⟨rfl, hb2, parts_force ?_⟩
      simp only [List.cons_append, List.nil_append, List.append_nil, List.filterMap_cons, List.filterMap_nil, List.getElem?_toArray, List.getElem?_cons_zero, List.getElem?_cons_succ]
      go_wp2_with fail
      refine (h16b.out _).mono ?_
      rintro e w3 ⟨rfl, hb⟩
      have hb3 : Below (w.heap.size + 2) ((w.alloc (.cells (stA s) 30)).alloc (.cells (stA o) 30)) w3 := hb2.trans (hb.mono hs2)
      have hs3 : w.heap.size + 2 ≤ w3.heap.size := Nat.le_trans hs2 hb.size
      clear hb hb2 hs2 c0_0 c0_1 c0_2 c0_3 c0_4 c0_5 c0_6 c0_7 c0_8 c0_9 c0_10 c0_11 c0_12 c0_13 c0_14 c0_15 c1_0 c1_1 c1_2 c1_3 c1_4 c1_5 c1_6 c1_7 c1_8 c1_9 c1_10 c1_11 c1_12 c1_13 c1_14 c1_15
      as_aux_lemma =>
        go_wp2_with fail
        refine ⟨rfl, hb3, parts_force ?_⟩
        simp only [List.cons_append, List.nil_append, List.append_nil, List.filterMap_cons, List.filterMap_nil, List.getElem?_toArray, List.getElem?_cons_zero, List.getElem?_cons_succ]
        go_wp2_with fail
        refine (h14b.out _).mono ?_
        rintro e w4 ⟨rfl, hb⟩
        have hb4 : Below (w.heap.size + 2) ((w.alloc (.cells (stA s) 30)).alloc (.cells (stA o) 30)) w4 := hb3.trans (hb.mono hs3)
        have hs4 : w.heap.size + 2 ≤ w4.heap.size := Nat.le_trans hs3 hb.size
        clear hb hb3 hs3
        as_aux_lemma =>
          obtain ⟨c0_0, c0_1, c0_2, c0_3, c0_4, c0_5, c0_6, c0_7, c0_8, c0_9, c0_10, c0_11, c0_12, c0_13, c0_14, c0_15⟩ := (hg0.below hb4 (by omega)).cells
          obtain ⟨c1_0, c1_1, c1_2, c1_3, c1_4, c1_5, c1_6, c1_7, c1_8, c1_9, c1_10, c1_11, c1_12, c1_13, c1_14, c1_15⟩ := (hg1.below hb4 (by omega)).cells
          go_wp2_with fail
          refine ⟨rfl, hb4, parts_force ?_⟩
          simp only [List.cons_append, List.nil_append, List.append_nil, List.filterMap_cons, List.filterMap_nil, List.getElem?_toArray, List.getElem?_cons_zero, List.getElem?_cons_succ]
          go_wp2_with fail
          refine ⟨rfl, hb4, parts_yield ?_⟩
          simp only [List.cons_append, List.nil_append, List.append_nil, List.filterMap_cons, List.filterMap_nil, List.getElem?_toArray, List.getElem?_cons_zero, List.getElem?_cons_succ]
          go_wp2_with fail
          refine ⟨rfl, _, .bool b, rfl, Or.inl ⟨by rfl, fun W => by go_simp⟩, parts_force ?_⟩
          simp only [Act.put, List.setIfInBounds_toArray, List.set_cons_zero, List.set_cons_succ]
          simp only [List.cons_append, List.nil_append, List.append_nil, List.filterMap_cons, List.filterMap_nil, List.getElem?_toArray, List.getElem?_cons_zero, List.getElem?_cons_succ]
          go_wp2_with fail
          refine (h14.out _).mono ?_
          rintro e w5 ⟨rfl, hb⟩
          have hb5 : Below (w.heap.size + 2) ((w.alloc (.cells (stA s) 30)).alloc (.cells (stA o) 30)) w5 := hb4.trans (hb.mono hs4)
          have hs5 : w.heap.size + 2 ≤ w5.heap.size := Nat.le_trans hs4 hb.size
          clear hb hb4 hs4 c0_0 c0_1 c0_2 c0_3 c0_4 c0_5 c0_6 c0_7 c0_8 c0_9 c0_10 c0_11 c0_12 c0_13 c0_14 c0_15 c1_0 c1_1 c1_2 c1_3 c1_4 c1_5 c1_6 c1_7 c1_8 c1_9 c1_10 c1_11 c1_12 c1_13 c1_14 c1_15
          as_aux_lemma =>
            go_wp2_with fail
            refine ⟨rfl, hb5, parts_force ?_⟩
            simp only [List.cons_append, List.nil_append, List.append_nil, List.filterMap_cons, List.filterMap_nil, List.getElem?_toArray, List.getElem?_cons_zero, List.getElem?_cons_succ]
            go_wp2_with fail
            refine (h14o.out _).mono ?_
            rintro e w6 ⟨rfl, hb⟩
            have hb6 : Below (w.heap.size + 2) ((w.alloc (.cells (stA s) 30)).alloc (.cells (stA o) 30)) w6 := hb5.trans (hb.mono hs5)
            have hs6 : w.heap.size + 2 ≤ w6.heap.size := Nat.le_trans hs5 hb.size
            clear hb hb5 hs5
            as_aux_lemma =>
              go_wp2_with fail
              refine ⟨rfl, hb6, parts_force ?_⟩
              simp only [List.cons_append, List.nil_append, List.append_nil, List.filterMap_cons, List.filterMap_nil, List.getElem?_toArray, List.getElem?_cons_zero, List.getElem?_cons_succ]
              go_wp2_with fail
              refine ⟨rfl, hb6, parts_force ?_⟩
              simp only [List.cons_append, List.nil_append, List.append_nil, List.filterMap_cons, List.filterMap_nil, List.getElem?_toArray, List.getElem?_cons_zero, List.getElem?_cons_succ]
              go_wp2_with fail
              refine ⟨rfl, hb6, parts_yield ?_⟩
              simp only [List.cons_append, List.nil_append, List.append_nil, List.filterMap_cons, List.filterMap_nil, List.getElem?_toArray, List.getElem?_cons_zero, List.getElem?_cons_succ]
              go_wp2_with fail
              refine ⟨rfl, _, .agg #[.int .u32 0, .int .u32 0, .int .u32 0, .int .u32 0, .int .u32 0, .int .u32 0, .int .u32 0, .int .u32 0, .int .u32 0, .int .u32 0, .int .u32 0, .int .u32 0, .int .u32 0, .int .u32 0, .int .u32 0, .int .u32 0], rfl, Or.inl ⟨by rfl, fun W => by go_simp⟩, parts_yield ?_⟩
              simp only [Act.put, List.setIfInBounds_toArray, List.set_cons_zero, List.set_cons_succ]
              simp only [List.cons_append, List.nil_append, List.append_nil, List.filterMap_cons, List.filterMap_nil, List.getElem?_toArray, List.getElem?_cons_zero, List.getElem?_cons_succ]
              go_wp2_with fail
              refine ⟨rfl, _, .agg #[.int .u32 0, .int .u32 0, .int .u32 0, .int .u32 0, .int .u32 0, .int .u32 0, .int .u32 0, .int .u32 0, .int .u32 0, .int .u32 0, .int .u32 0, .int .u32 0, .int .u32 0, .int .u32 0, .int .u32 0, .int .u32 0], rfl, Or.inl ⟨by rfl, fun W => by go_simp⟩, parts_force ?_⟩
              simp only [Act.put, List.setIfInBounds_toArray, List.set_cons_zero, List.set_cons_succ]
              simp only [List.cons_append, List.nil_append, List.append_nil, List.filterMap_cons, List.filterMap_nil, List.getElem?_toArray, List.getElem?_cons_zero, List.getElem?_cons_succ]
              go_wp2_with fail
              refine (h14z.out _).mono ?_
              rintro e w7 ⟨rfl, hb⟩
              have hb7 : Below (w.heap.size + 2) ((w.alloc (.cells (stA s) 30)).alloc (.cells (stA o) 30)) w7 := hb6.trans (hb.mono hs6)
              have hs7 : w.heap.size + 2 ≤ w7.heap.size := Nat.le_trans hs6 hb.size
              clear hb hb6 hs6
              as_aux_lemma =>
                obtain ⟨c0_0, c0_1, c0_2, c0_3, c0_4, c0_5, c0_6, c0_7, c0_8, c0_9, c0_10, c0_11, c0_12, c0_13, c0_14, c0_15⟩ := (hg0.below hb7 (by omega)).cells
                obtain ⟨c1_0, c1_1, c1_2, c1_3, c1_4, c1_5, c1_6, c1_7, c1_8, c1_9, c1_10, c1_11, c1_12, c1_13, c1_14, c1_15⟩ := (hg1.below hb7 (by omega)).cells
                go_wp2_with fail
                refine ⟨rfl, hb7, parts_force ?_⟩
                simp only [List.cons_append, List.nil_append, List.append_nil, List.filterMap_cons, List.filterMap_nil, List.getElem?_toArray, List.getElem?_cons_zero, List.getElem?_cons_succ]
                go_wp2_with fail
                refine ⟨rfl, hb7, parts_last ?_⟩
                simp only [List.cons_append, List.nil_append, List.append_nil, List.filterMap_cons, List.filterMap_nil, List.getElem?_toArray, List.getElem?_cons_zero, List.getElem?_cons_succ]
                go_wp2_with fail
                refine ⟨rfl, ?_⟩
                go_wp2_with fail
                refine (h17a.out _).mono ?_
                rintro e w8 ⟨rfl, hb⟩
                have hb8 : Below (w.heap.size + 2) ((w.alloc (.cells (stA s) 30)).alloc (.cells (stA o) 30)) w8 := hb7.trans (hb.mono hs7)
                have hs8 : w.heap.size + 2 ≤ w8.heap.size := Nat.le_trans hs7 hb.size
                clear hb hb7 hs7 c0_0 c0_1 c0_2 c0_3 c0_4 c0_5 c0_6 c0_7 c0_8 c0_9 c0_10 c0_11 c0_12 c0_13 c0_14 c0_15 c1_0 c1_1 c1_2 c1_3 c1_4 c1_5 c1_6 c1_7 c1_8 c1_9 c1_10 c1_11 c1_12 c1_13 c1_14 c1_15
                as_aux_lemma =>
                  go_wp2_with fail
                  refine (h17b.out _).mono ?_
                  rintro e w9 ⟨rfl, hb⟩
                  have hb9 : Below (w.heap.size + 2) ((w.alloc (.cells (stA s) 30)).alloc (.cells (stA o) 30)) w9 := (hb8.alloc hs8 _).trans (hb.mono (by simp; omega))
                  have hs9 : w.heap.size + 2 ≤ w9.heap.size := Nat.le_trans (by simp; omega) hb.size
                  clear hb hb8 hs8
                  as_aux_lemma =>
                    have hb10 : Below w.heap.size w w9 := (((Below.refl _ _).alloc (Nat.le_refl _) _).alloc (by simp) _).trans (hb9.mono (by omega))
                    obtain ⟨d0, d1, d2, d3, d4, d5, d6, d7, d8, d9, d10, d11, d12, d13, d14, d15⟩ := ((hg0.below hb9 (by omega)).alloc (.cells (#[.int .u32 ((s).x0 : Int), .int .u32 ((s).x1 : Int), .int .u32 ((s).x2 : Int), .int .u32 ((s).x3 : Int), .int .u32 ((s).x4 : Int), .int .u32 ((s).x5 : Int), .int .u32 ((s).x6 : Int), .int .u32 ((s).x7 : Int), .int .u32 ((s).x8 : Int), .int .u32 ((s).x9 : Int), .int .u32 ((s).x10 : Int), .int .u32 ((s).x11 : Int), .int .u32 ((s).x12 : Int), .int .u32 ((s).x13 : Int), .int .u32 ((s).x14 : Int), .int .u32 ((s).x15 : Int)]) 30)).cells
                    go_wp2_with fail
                    go_ret
                    exact ⟨rfl, hb10.alloc (by omega) _⟩

end Go.Proofs.Ytcagcjabgceejaa
