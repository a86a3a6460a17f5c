/- The walk of the statement MixRounds where n is from -64 to 64: it returns true, if the functions return what they do. -/
import Derived.Test.YtcagcjabgceejaaQuarters
import Derived.Test.YtcagcjabgceejaaStateKit
import Derived.Test.YtcagcjabgceejaaSegs
import Derived.Test.YtcagcjabgceejaaEqState
import Derived.Handy
namespace Go.Proofs.Ytcagcjabgceejaa
open Go.RowKit
set_option linter.unusedSimpArgs false
set_option linter.unusedVariables false

set_option maxHeartbeats 8000000 in
theorem roundsLaw_ok (s y m u t : St) (n : Int) (odd : Bool)
    (h12 : Hid (∀ w : World, Calls Try.prog 12 #[.agg #[.int .u32 ((s).x0 : Int), .int .u32 ((s).x1 : Int), .int .u32 ((s).x2 : Int), .int .u32 ((s).x3 : Int), .int .u32 ((s).x4 : Int), .int .u32 ((s).x5 : Int), .int .u32 ((s).x6 : Int), .int .u32 ((s).x7 : Int), .int .u32 ((s).x8 : Int), .int .u32 ((s).x9 : Int), .int .u32 ((s).x10 : Int), .int .u32 ((s).x11 : Int), .int .u32 ((s).x12 : Int), .int .u32 ((s).x13 : Int), .int .u32 ((s).x14 : Int), .int .u32 ((s).x15 : Int)], .bool odd] w fun e w' => e = .returned (.agg #[.int .u32 ((y).x0 : Int), .int .u32 ((y).x1 : Int), .int .u32 ((y).x2 : Int), .int .u32 ((y).x3 : Int), .int .u32 ((y).x4 : Int), .int .u32 ((y).x5 : Int), .int .u32 ((y).x6 : Int), .int .u32 ((y).x7 : Int), .int .u32 ((y).x8 : Int), .int .u32 ((y).x9 : Int), .int .u32 ((y).x10 : Int), .int .u32 ((y).x11 : Int), .int .u32 ((y).x12 : Int), .int .u32 ((y).x13 : Int), .int .u32 ((y).x14 : Int), .int .u32 ((y).x15 : Int)]) ∧ Below w.heap.size w w'))
    (h13 : Hid (∀ w : World, Calls Try.prog 13 #[.agg #[.int .u32 ((s).x0 : Int), .int .u32 ((s).x1 : Int), .int .u32 ((s).x2 : Int), .int .u32 ((s).x3 : Int), .int .u32 ((s).x4 : Int), .int .u32 ((s).x5 : Int), .int .u32 ((s).x6 : Int), .int .u32 ((s).x7 : Int), .int .u32 ((s).x8 : Int), .int .u32 ((s).x9 : Int), .int .u32 ((s).x10 : Int), .int .u32 ((s).x11 : Int), .int .u32 ((s).x12 : Int), .int .u32 ((s).x13 : Int), .int .u32 ((s).x14 : Int), .int .u32 ((s).x15 : Int)], .bool odd, .bool false] w fun e w' => e = .returned (.agg #[.int .u32 ((y).x0 : Int), .int .u32 ((y).x1 : Int), .int .u32 ((y).x2 : Int), .int .u32 ((y).x3 : Int), .int .u32 ((y).x4 : Int), .int .u32 ((y).x5 : Int), .int .u32 ((y).x6 : Int), .int .u32 ((y).x7 : Int), .int .u32 ((y).x8 : Int), .int .u32 ((y).x9 : Int), .int .u32 ((y).x10 : Int), .int .u32 ((y).x11 : Int), .int .u32 ((y).x12 : Int), .int .u32 ((y).x13 : Int), .int .u32 ((y).x14 : Int), .int .u32 ((y).x15 : Int)]) ∧ Below w.heap.size w w'))
    (h14 : Hid (∀ w : World, Calls Try.prog 14 #[.agg #[.int .u32 ((s).x0 : Int), .int .u32 ((s).x1 : Int), .int .u32 ((s).x2 : Int), .int .u32 ((s).x3 : Int), .int .u32 ((s).x4 : Int), .int .u32 ((s).x5 : Int), .int .u32 ((s).x6 : Int), .int .u32 ((s).x7 : Int), .int .u32 ((s).x8 : Int), .int .u32 ((s).x9 : Int), .int .u32 ((s).x10 : Int), .int .u32 ((s).x11 : Int), .int .u32 ((s).x12 : Int), .int .u32 ((s).x13 : Int), .int .u32 ((s).x14 : Int), .int .u32 ((s).x15 : Int)]] w fun e w' => e = .returned (.agg #[.int .u32 ((m).x0 : Int), .int .u32 ((m).x1 : Int), .int .u32 ((m).x2 : Int), .int .u32 ((m).x3 : Int), .int .u32 ((m).x4 : Int), .int .u32 ((m).x5 : Int), .int .u32 ((m).x6 : Int), .int .u32 ((m).x7 : Int), .int .u32 ((m).x8 : Int), .int .u32 ((m).x9 : Int), .int .u32 ((m).x10 : Int), .int .u32 ((m).x11 : Int), .int .u32 ((m).x12 : Int), .int .u32 ((m).x13 : Int), .int .u32 ((m).x14 : Int), .int .u32 ((m).x15 : Int)]) ∧ Below w.heap.size w w'))
    (h15 : Hid (∀ w : World, Calls Try.prog 15 #[.agg #[.int .u32 ((s).x0 : Int), .int .u32 ((s).x1 : Int), .int .u32 ((s).x2 : Int), .int .u32 ((s).x3 : Int), .int .u32 ((s).x4 : Int), .int .u32 ((s).x5 : Int), .int .u32 ((s).x6 : Int), .int .u32 ((s).x7 : Int), .int .u32 ((s).x8 : Int), .int .u32 ((s).x9 : Int), .int .u32 ((s).x10 : Int), .int .u32 ((s).x11 : Int), .int .u32 ((s).x12 : Int), .int .u32 ((s).x13 : Int), .int .u32 ((s).x14 : Int), .int .u32 ((s).x15 : Int)], .int .i64 20] w fun e w' => e = .returned (.agg #[.int .u32 ((m).x0 : Int), .int .u32 ((m).x1 : Int), .int .u32 ((m).x2 : Int), .int .u32 ((m).x3 : Int), .int .u32 ((m).x4 : Int), .int .u32 ((m).x5 : Int), .int .u32 ((m).x6 : Int), .int .u32 ((m).x7 : Int), .int .u32 ((m).x8 : Int), .int .u32 ((m).x9 : Int), .int .u32 ((m).x10 : Int), .int .u32 ((m).x11 : Int), .int .u32 ((m).x12 : Int), .int .u32 ((m).x13 : Int), .int .u32 ((m).x14 : Int), .int .u32 ((m).x15 : Int)]) ∧ Below w.heap.size w w'))
    (h16 : Hid (∀ w : World, Calls Try.prog 16 #[.agg #[.int .u32 ((s).x0 : Int), .int .u32 ((s).x1 : Int), .int .u32 ((s).x2 : Int), .int .u32 ((s).x3 : Int), .int .u32 ((s).x4 : Int), .int .u32 ((s).x5 : Int), .int .u32 ((s).x6 : Int), .int .u32 ((s).x7 : Int), .int .u32 ((s).x8 : Int), .int .u32 ((s).x9 : Int), .int .u32 ((s).x10 : Int), .int .u32 ((s).x11 : Int), .int .u32 ((s).x12 : Int), .int .u32 ((s).x13 : Int), .int .u32 ((s).x14 : Int), .int .u32 ((s).x15 : Int)]] w fun e w' => e = .returned (.agg #[.int .u32 ((u).x0 : Int), .int .u32 ((u).x1 : Int), .int .u32 ((u).x2 : Int), .int .u32 ((u).x3 : Int), .int .u32 ((u).x4 : Int), .int .u32 ((u).x5 : Int), .int .u32 ((u).x6 : Int), .int .u32 ((u).x7 : Int), .int .u32 ((u).x8 : Int), .int .u32 ((u).x9 : Int), .int .u32 ((u).x10 : Int), .int .u32 ((u).x11 : Int), .int .u32 ((u).x12 : Int), .int .u32 ((u).x13 : Int), .int .u32 ((u).x14 : Int), .int .u32 ((u).x15 : Int)]) ∧ Below w.heap.size w w'))
    (h15b : Hid (∀ w : World, Calls Try.prog 15 #[.agg #[.int .u32 ((s).x0 : Int), .int .u32 ((s).x1 : Int), .int .u32 ((s).x2 : Int), .int .u32 ((s).x3 : Int), .int .u32 ((s).x4 : Int), .int .u32 ((s).x5 : Int), .int .u32 ((s).x6 : Int), .int .u32 ((s).x7 : Int), .int .u32 ((s).x8 : Int), .int .u32 ((s).x9 : Int), .int .u32 ((s).x10 : Int), .int .u32 ((s).x11 : Int), .int .u32 ((s).x12 : Int), .int .u32 ((s).x13 : Int), .int .u32 ((s).x14 : Int), .int .u32 ((s).x15 : Int)], .int .i64 (-20)] w fun e w' => e = .returned (.agg #[.int .u32 ((u).x0 : Int), .int .u32 ((u).x1 : Int), .int .u32 ((u).x2 : Int), .int .u32 ((u).x3 : Int), .int .u32 ((u).x4 : Int), .int .u32 ((u).x5 : Int), .int .u32 ((u).x6 : Int), .int .u32 ((u).x7 : Int), .int .u32 ((u).x8 : Int), .int .u32 ((u).x9 : Int), .int .u32 ((u).x10 : Int), .int .u32 ((u).x11 : Int), .int .u32 ((u).x12 : Int), .int .u32 ((u).x13 : Int), .int .u32 ((u).x14 : Int), .int .u32 ((u).x15 : Int)]) ∧ Below w.heap.size w w'))
    (h17 : Hid (∀ w : World, Calls Try.prog 17 #[.agg #[.int .u32 ((s).x0 : Int), .int .u32 ((s).x1 : Int), .int .u32 ((s).x2 : Int), .int .u32 ((s).x3 : Int), .int .u32 ((s).x4 : Int), .int .u32 ((s).x5 : Int), .int .u32 ((s).x6 : Int), .int .u32 ((s).x7 : Int), .int .u32 ((s).x8 : Int), .int .u32 ((s).x9 : Int), .int .u32 ((s).x10 : Int), .int .u32 ((s).x11 : Int), .int .u32 ((s).x12 : Int), .int .u32 ((s).x13 : Int), .int .u32 ((s).x14 : Int), .int .u32 ((s).x15 : Int)], .int .i64 n] w fun e w' => e = .returned (.tuple #[.agg #[.int .u32 ((t).x0 : Int), .int .u32 ((t).x1 : Int), .int .u32 ((t).x2 : Int), .int .u32 ((t).x3 : Int), .int .u32 ((t).x4 : Int), .int .u32 ((t).x5 : Int), .int .u32 ((t).x6 : Int), .int .u32 ((t).x7 : Int), .int .u32 ((t).x8 : Int), .int .u32 ((t).x9 : Int), .int .u32 ((t).x10 : Int), .int .u32 ((t).x11 : Int), .int .u32 ((t).x12 : Int), .int .u32 ((t).x13 : Int), .int .u32 ((t).x14 : Int), .int .u32 ((t).x15 : Int)], .int .i64 0]) ∧ Below w.heap.size w w'))
    (h15n : Hid (∀ w : World, Calls Try.prog 15 #[.agg #[.int .u32 ((s).x0 : Int), .int .u32 ((s).x1 : Int), .int .u32 ((s).x2 : Int), .int .u32 ((s).x3 : Int), .int .u32 ((s).x4 : Int), .int .u32 ((s).x5 : Int), .int .u32 ((s).x6 : Int), .int .u32 ((s).x7 : Int), .int .u32 ((s).x8 : Int), .int .u32 ((s).x9 : Int), .int .u32 ((s).x10 : Int), .int .u32 ((s).x11 : Int), .int .u32 ((s).x12 : Int), .int .u32 ((s).x13 : Int), .int .u32 ((s).x14 : Int), .int .u32 ((s).x15 : Int)], .int .i64 n] w fun e w' => e = .returned (.agg #[.int .u32 ((t).x0 : Int), .int .u32 ((t).x1 : Int), .int .u32 ((t).x2 : Int), .int .u32 ((t).x3 : Int), .int .u32 ((t).x4 : Int), .int .u32 ((t).x5 : Int), .int .u32 ((t).x6 : Int), .int .u32 ((t).x7 : Int), .int .u32 ((t).x8 : Int), .int .u32 ((t).x9 : Int), .int .u32 ((t).x10 : Int), .int .u32 ((t).x11 : Int), .int .u32 ((t).x12 : Int), .int .u32 ((t).x13 : Int), .int .u32 ((t).x14 : Int), .int .u32 ((t).x15 : Int)]) ∧ Below w.heap.size w w'))
    (g1 : decide (n < -64) = false) (g2 : decide (64 < n) = false) (w : World) :
    Calls Try.prog 4 #[.agg #[.int .u32 ((s).x0 : Int), .int .u32 ((s).x1 : Int), .int .u32 ((s).x2 : Int), .int .u32 ((s).x3 : Int), .int .u32 ((s).x4 : Int), .int .u32 ((s).x5 : Int), .int .u32 ((s).x6 : Int), .int .u32 ((s).x7 : Int), .int .u32 ((s).x8 : Int), .int .u32 ((s).x9 : Int), .int .u32 ((s).x10 : Int), .int .u32 ((s).x11 : Int), .int .u32 ((s).x12 : Int), .int .u32 ((s).x13 : Int), .int .u32 ((s).x14 : Int), .int .u32 ((s).x15 : Int)], .int .i64 n, .bool odd] w fun e w' => e = .returned (.bool true) ∧ Below w.heap.size w w' := by
  have hg0 : Blk (w.alloc (.cells (stA s) 30)) w.heap.size 30 (stA s) := Blk.new w 30 (stA s)
  have q_y : ∀ W : World, Sem.run Try.prog (Op.equalIn 10000 30 (.agg #[.int .u32 ((y).x0 : Int), .int .u32 ((y).x1 : Int), .int .u32 ((y).x2 : Int), .int .u32 ((y).x3 : Int), .int .u32 ((y).x4 : Int), .int .u32 ((y).x5 : Int), .int .u32 ((y).x6 : Int), .int .u32 ((y).x7 : Int), .int .u32 ((y).x8 : Int), .int .u32 ((y).x9 : Int), .int .u32 ((y).x10 : Int), .int .u32 ((y).x11 : Int), .int .u32 ((y).x12 : Int), .int .u32 ((y).x13 : Int), .int .u32 ((y).x14 : Int), .int .u32 ((y).x15 : Int)]) (.agg #[.int .u32 ((y).x0 : Int), .int .u32 ((y).x1 : Int), .int .u32 ((y).x2 : Int), .int .u32 ((y).x3 : Int), .int .u32 ((y).x4 : Int), .int .u32 ((y).x5 : Int), .int .u32 ((y).x6 : Int), .int .u32 ((y).x7 : Int), .int .u32 ((y).x8 : Int), .int .u32 ((y).x9 : Int), .int .u32 ((y).x10 : Int), .int .u32 ((y).x11 : Int), .int .u32 ((y).x12 : Int), .int .u32 ((y).x13 : Int), .int .u32 ((y).x14 : Int), .int .u32 ((y).x15 : Int)])) W = .ok true W := fun W => (eq_state 30 Try.underlying30 y y W).trans (by rw [decide_eq_true rfl])
  have q_m : ∀ W : World, Sem.run Try.prog (Op.equalIn 10000 30 (.agg #[.int .u32 ((m).x0 : Int), .int .u32 ((m).x1 : Int), .int .u32 ((m).x2 : Int), .int .u32 ((m).x3 : Int), .int .u32 ((m).x4 : Int), .int .u32 ((m).x5 : Int), .int .u32 ((m).x6 : Int), .int .u32 ((m).x7 : Int), .int .u32 ((m).x8 : Int), .int .u32 ((m).x9 : Int), .int .u32 ((m).x10 : Int), .int .u32 ((m).x11 : Int), .int .u32 ((m).x12 : Int), .int .u32 ((m).x13 : Int), .int .u32 ((m).x14 : Int), .int .u32 ((m).x15 : Int)]) (.agg #[.int .u32 ((m).x0 : Int), .int .u32 ((m).x1 : Int), .int .u32 ((m).x2 : Int), .int .u32 ((m).x3 : Int), .int .u32 ((m).x4 : Int), .int .u32 ((m).x5 : Int), .int .u32 ((m).x6 : Int), .int .u32 ((m).x7 : Int), .int .u32 ((m).x8 : Int), .int .u32 ((m).x9 : Int), .int .u32 ((m).x10 : Int), .int .u32 ((m).x11 : Int), .int .u32 ((m).x12 : Int), .int .u32 ((m).x13 : Int), .int .u32 ((m).x14 : Int), .int .u32 ((m).x15 : Int)])) W = .ok true W := fun W => (eq_state 30 Try.underlying30 m m W).trans (by rw [decide_eq_true rfl])
  have q_u : ∀ W : World, Sem.run Try.prog (Op.equalIn 10000 30 (.agg #[.int .u32 ((u).x0 : Int), .int .u32 ((u).x1 : Int), .int .u32 ((u).x2 : Int), .int .u32 ((u).x3 : Int), .int .u32 ((u).x4 : Int), .int .u32 ((u).x5 : Int), .int .u32 ((u).x6 : Int), .int .u32 ((u).x7 : Int), .int .u32 ((u).x8 : Int), .int .u32 ((u).x9 : Int), .int .u32 ((u).x10 : Int), .int .u32 ((u).x11 : Int), .int .u32 ((u).x12 : Int), .int .u32 ((u).x13 : Int), .int .u32 ((u).x14 : Int), .int .u32 ((u).x15 : Int)]) (.agg #[.int .u32 ((u).x0 : Int), .int .u32 ((u).x1 : Int), .int .u32 ((u).x2 : Int), .int .u32 ((u).x3 : Int), .int .u32 ((u).x4 : Int), .int .u32 ((u).x5 : Int), .int .u32 ((u).x6 : Int), .int .u32 ((u).x7 : Int), .int .u32 ((u).x8 : Int), .int .u32 ((u).x9 : Int), .int .u32 ((u).x10 : Int), .int .u32 ((u).x11 : Int), .int .u32 ((u).x12 : Int), .int .u32 ((u).x13 : Int), .int .u32 ((u).x14 : Int), .int .u32 ((u).x15 : Int)])) W = .ok true W := fun W => (eq_state 30 Try.underlying30 u u W).trans (by rw [decide_eq_true rfl])
  have q_t : ∀ W : World, Sem.run Try.prog (Op.equalIn 10000 30 (.agg #[.int .u32 ((t).x0 : Int), .int .u32 ((t).x1 : Int), .int .u32 ((t).x2 : Int), .int .u32 ((t).x3 : Int), .int .u32 ((t).x4 : Int), .int .u32 ((t).x5 : Int), .int .u32 ((t).x6 : Int), .int .u32 ((t).x7 : Int), .int .u32 ((t).x8 : Int), .int .u32 ((t).x9 : Int), .int .u32 ((t).x10 : Int), .int .u32 ((t).x11 : Int), .int .u32 ((t).x12 : Int), .int .u32 ((t).x13 : Int), .int .u32 ((t).x14 : Int), .int .u32 ((t).x15 : Int)]) (.agg #[.int .u32 ((t).x0 : Int), .int .u32 ((t).x1 : Int), .int .u32 ((t).x2 : Int), .int .u32 ((t).x3 : Int), .int .u32 ((t).x4 : Int), .int .u32 ((t).x5 : Int), .int .u32 ((t).x6 : Int), .int .u32 ((t).x7 : Int), .int .u32 ((t).x8 : Int), .int .u32 ((t).x9 : Int), .int .u32 ((t).x10 : Int), .int .u32 ((t).x11 : Int), .int .u32 ((t).x12 : Int), .int .u32 ((t).x13 : Int), .int .u32 ((t).x14 : Int), .int .u32 ((t).x15 : Int)])) W = .ok true W := fun W => (eq_state 30 Try.underlying30 t t W).trans (by rw [decide_eq_true rfl])
  go_enter Try.func4, Try.ntmps4
  go_wp2_with fail
  refine wp_region_parts [3] [([], 0, false), ([1, 2, 3, 4, 6, 7], 5, false), ([], 8, false), ([], 9, false), ([10, 11, 12, 14], 13, false), ([], 15, false), ([], 16, false), ([17, 18, 19, 21], 20, false), ([], 22, false), ([], 23, false)] [24] [] (w.heap.size + 1) (by kernel_rfl) (by kernel_rfl)
    (lows_one ⟨⟨w.heap.size, 0, none⟩, _, _, _, rfl, by simp, hg0⟩) (parts_force ?_)
  simp only [List.cons_append, List.nil_append, List.append_nil, List.filterMap_cons, List.filterMap_nil, List.getElem?_toArray, List.getElem?_cons_zero, List.getElem?_cons_succ]
  go_wp2_with fail
  refine (awake_any _).mono ?_
  rintro e w0 ⟨rfl, rfl⟩
  have hb0 : Below (w.heap.size + 1) (w.alloc (.cells (stA s) 30)) (w.alloc (.cells (stA s) 30)).drew := (Below.refl _ _).drew
  have hs0 : w.heap.size + 1 ≤ (w.alloc (.cells (stA s) 30)).drew.heap.size := by simp
  go_wp2_with fail
  refine ⟨rfl, hb0, parts_force ?_⟩
  simp only [List.cons_append, List.nil_append, List.append_nil, List.filterMap_cons, List.filterMap_nil, List.getElem?_toArray, List.getElem?_cons_zero, List.getElem?_cons_succ]
  go_wp2_with fail
  refine (h12.out _).mono ?_
  rintro e w1 ⟨rfl, hb⟩
  have hb1 : Below (w.heap.size + 1) (w.alloc (.cells (stA s) 30)) w1 := hb0.trans (hb.mono hs0)
  have hs1 : w.heap.size + 1 ≤ w1.heap.size := Nat.le_trans hs0 hb.size
  clear hb hb0 hs0
  as_aux_lemma =>
    go_wp2_with fail
    refine ⟨rfl, hb1, parts_force ?_⟩
    simp only [List.cons_append, List.nil_append, List.append_nil, List.filterMap_cons, List.filterMap_nil, List.getElem?_toArray, List.getElem?_cons_zero, List.getElem?_cons_succ]
    go_wp2_with fail
    refine (h13.out _).mono ?_
    rintro e w2 ⟨rfl, hb⟩
    have hb2 : Below (w.heap.size + 1) (w.alloc (.cells (stA s) 30)) w2 := hb1.trans (hb.mono hs1)
    have hs2 : w.heap.size + 1 ≤ w2.heap.size := Nat.le_trans hs1 hb.size
    clear hb hb1 hs1
    as_aux_lemma =>
      obtain ⟨c0_0, c0_1, c0_2, c0_3, c0_4, c0_5, c0_6, c0_7, c0_8, c0_9, c0_10, c0_11, c0_12, c0_13, c0_14, c0_15⟩ := (hg0.below hb2 (by simp)).cells
      go_wp2_with fail
      refine ⟨rfl, hb2, parts_force ?_⟩
      simp only [List.cons_append, List.nil_append, List.append_nil, List.filterMap_cons, List.filterMap_nil, List.getElem?_toArray, List.getElem?_cons_zero, List.getElem?_cons_succ]
      go_wp2_with fail
      refine ⟨rfl, hb2, parts_force ?_⟩
      simp only [List.cons_append, List.nil_append, List.append_nil, List.filterMap_cons, List.filterMap_nil, List.getElem?_toArray, List.getElem?_cons_zero, List.getElem?_cons_succ]
      go_wp2_with fail
      refine (h14.out _).mono ?_
      rintro e w3 ⟨rfl, hb⟩
      have hb3 : Below (w.heap.size + 1) (w.alloc (.cells (stA s) 30)) w3 := hb2.trans (hb.mono hs2)
      have hs3 : w.heap.size + 1 ≤ w3.heap.size := Nat.le_trans hs2 hb.size
      clear hb hb2 hs2 c0_0 c0_1 c0_2 c0_3 c0_4 c0_5 c0_6 c0_7 c0_8 c0_9 c0_10 c0_11 c0_12 c0_13 c0_14 c0_15
      as_aux_lemma =>
        go_wp2_with fail
        refine ⟨rfl, hb3, parts_force ?_⟩
        simp only [List.cons_append, List.nil_append, List.append_nil, List.filterMap_cons, List.filterMap_nil, List.getElem?_toArray, List.getElem?_cons_zero, List.getElem?_cons_succ]
        go_wp2_with fail
        refine (h15.out _).mono ?_
        rintro e w4 ⟨rfl, hb⟩
        have hb4 : Below (w.heap.size + 1) (w.alloc (.cells (stA s) 30)) w4 := hb3.trans (hb.mono hs3)
        have hs4 : w.heap.size + 1 ≤ w4.heap.size := Nat.le_trans hs3 hb.size
        clear hb hb3 hs3
        as_aux_lemma =>
          obtain ⟨c0_0, c0_1, c0_2, c0_3, c0_4, c0_5, c0_6, c0_7, c0_8, c0_9, c0_10, c0_11, c0_12, c0_13, c0_14, c0_15⟩ := (hg0.below hb4 (by simp)).cells
          go_wp2_with fail
          refine ⟨rfl, hb4, parts_force ?_⟩
          simp only [List.cons_append, List.nil_append, List.append_nil, List.filterMap_cons, List.filterMap_nil, List.getElem?_toArray, List.getElem?_cons_zero, List.getElem?_cons_succ]
          go_wp2_with fail
          refine ⟨rfl, hb4, parts_force ?_⟩
          simp only [List.cons_append, List.nil_append, List.append_nil, List.filterMap_cons, List.filterMap_nil, List.getElem?_toArray, List.getElem?_cons_zero, List.getElem?_cons_succ]
          go_wp2_with fail
          refine (h16.out _).mono ?_
          rintro e w5 ⟨rfl, hb⟩
          have hb5 : Below (w.heap.size + 1) (w.alloc (.cells (stA s) 30)) w5 := hb4.trans (hb.mono hs4)
          have hs5 : w.heap.size + 1 ≤ w5.heap.size := Nat.le_trans hs4 hb.size
          clear hb hb4 hs4 c0_0 c0_1 c0_2 c0_3 c0_4 c0_5 c0_6 c0_7 c0_8 c0_9 c0_10 c0_11 c0_12 c0_13 c0_14 c0_15
          as_aux_lemma =>
            go_wp2_with fail
            refine ⟨rfl, hb5, parts_force ?_⟩
            simp only [List.cons_append, List.nil_append, List.append_nil, List.filterMap_cons, List.filterMap_nil, List.getElem?_toArray, List.getElem?_cons_zero, List.getElem?_cons_succ]
            go_wp2_with fail
            refine (h15b.out _).mono ?_
            rintro e w6 ⟨rfl, hb⟩
            have hb6 : Below (w.heap.size + 1) (w.alloc (.cells (stA s) 30)) w6 := hb5.trans (hb.mono hs5)
            have hs6 : w.heap.size + 1 ≤ w6.heap.size := Nat.le_trans hs5 hb.size
            clear hb hb5 hs5
            as_aux_lemma =>
              obtain ⟨c0_0, c0_1, c0_2, c0_3, c0_4, c0_5, c0_6, c0_7, c0_8, c0_9, c0_10, c0_11, c0_12, c0_13, c0_14, c0_15⟩ := (hg0.below hb6 (by simp)).cells
              go_wp2_with fail
              refine ⟨rfl, hb6, parts_force ?_⟩
              simp only [List.cons_append, List.nil_append, List.append_nil, List.filterMap_cons, List.filterMap_nil, List.getElem?_toArray, List.getElem?_cons_zero, List.getElem?_cons_succ]
              go_wp2_with fail
              refine ⟨rfl, hb6, parts_last ?_⟩
              simp only [List.cons_append, List.nil_append, List.append_nil, List.filterMap_cons, List.filterMap_nil, List.getElem?_toArray, List.getElem?_cons_zero, List.getElem?_cons_succ]
              go_wp2_with fail
              refine ⟨rfl, ?_⟩
              go_wp2_with fail
              refine (h17.out _).mono ?_
              rintro e w7 ⟨rfl, hb⟩
              have hb7 : Below (w.heap.size + 1) (w.alloc (.cells (stA s) 30)) w7 := hb6.trans (hb.mono hs6)
              have hs7 : w.heap.size + 1 ≤ w7.heap.size := Nat.le_trans hs6 hb.size
              clear hb hb6 hs6 c0_0 c0_1 c0_2 c0_3 c0_4 c0_5 c0_6 c0_7 c0_8 c0_9 c0_10 c0_11 c0_12 c0_13 c0_14 c0_15
              as_aux_lemma =>
                go_wp2_with fail
                have hg7 := hg0.below hb7 (by simp)
                have hW3 : Blk (w7.alloc (.cells (#[.int .u32 ((t).x0 : Int), .int .u32 ((t).x1 : Int), .int .u32 ((t).x2 : Int), .int .u32 ((t).x3 : Int), .int .u32 ((t).x4 : Int), .int .u32 ((t).x5 : Int), .int .u32 ((t).x6 : Int), .int .u32 ((t).x7 : Int), .int .u32 ((t).x8 : Int), .int .u32 ((t).x9 : Int), .int .u32 ((t).x10 : Int), .int .u32 ((t).x11 : Int), .int .u32 ((t).x12 : Int), .int .u32 ((t).x13 : Int), .int .u32 ((t).x14 : Int), .int .u32 ((t).x15 : Int)]) 30)) w.heap.size 30 (stA s) := hg7.alloc _
                have hW7 : Blk (w7.alloc (.cells (#[.int .u32 ((t).x0 : Int), .int .u32 ((t).x1 : Int), .int .u32 ((t).x2 : Int), .int .u32 ((t).x3 : Int), .int .u32 ((t).x4 : Int), .int .u32 ((t).x5 : Int), .int .u32 ((t).x6 : Int), .int .u32 ((t).x7 : Int), .int .u32 ((t).x8 : Int), .int .u32 ((t).x9 : Int), .int .u32 ((t).x10 : Int), .int .u32 ((t).x11 : Int), .int .u32 ((t).x12 : Int), .int .u32 ((t).x13 : Int), .int .u32 ((t).x14 : Int), .int .u32 ((t).x15 : Int)]) 30)) w7.heap.size 30 (stA t) := Blk.new w7 30 (stA t)
                have hWs : (w7.alloc (.cells (#[.int .u32 ((t).x0 : Int), .int .u32 ((t).x1 : Int), .int .u32 ((t).x2 : Int), .int .u32 ((t).x3 : Int), .int .u32 ((t).x4 : Int), .int .u32 ((t).x5 : Int), .int .u32 ((t).x6 : Int), .int .u32 ((t).x7 : Int), .int .u32 ((t).x8 : Int), .int .u32 ((t).x9 : Int), .int .u32 ((t).x10 : Int), .int .u32 ((t).x11 : Int), .int .u32 ((t).x12 : Int), .int .u32 ((t).x13 : Int), .int .u32 ((t).x14 : Int), .int .u32 ((t).x15 : Int)]) 30)).heap.size = w7.heap.size + 1 := by simp
                have hWb : Below w.heap.size w (w7.alloc (.cells (#[.int .u32 ((t).x0 : Int), .int .u32 ((t).x1 : Int), .int .u32 ((t).x2 : Int), .int .u32 ((t).x3 : Int), .int .u32 ((t).x4 : Int), .int .u32 ((t).x5 : Int), .int .u32 ((t).x6 : Int), .int .u32 ((t).x7 : Int), .int .u32 ((t).x8 : Int), .int .u32 ((t).x9 : Int), .int .u32 ((t).x10 : Int), .int .u32 ((t).x11 : Int), .int .u32 ((t).x12 : Int), .int .u32 ((t).x13 : Int), .int .u32 ((t).x14 : Int), .int .u32 ((t).x15 : Int)]) 30)) := (((Below.refl _ _).alloc (Nat.le_refl _) _).trans (hb7.mono (by omega))).alloc (by omega) _
                have hlt : w.heap.size < w7.heap.size := by omega
                generalize w7.alloc (.cells (#[.int .u32 ((t).x0 : Int), .int .u32 ((t).x1 : Int), .int .u32 ((t).x2 : Int), .int .u32 ((t).x3 : Int), .int .u32 ((t).x4 : Int), .int .u32 ((t).x5 : Int), .int .u32 ((t).x6 : Int), .int .u32 ((t).x7 : Int), .int .u32 ((t).x8 : Int), .int .u32 ((t).x9 : Int), .int .u32 ((t).x10 : Int), .int .u32 ((t).x11 : Int), .int .u32 ((t).x12 : Int), .int .u32 ((t).x13 : Int), .int .u32 ((t).x14 : Int), .int .u32 ((t).x15 : Int)]) 30) = W at *
                generalize w7.heap.size = N at *
                clear hb7 hs7 hg7
                refine wp_region_parts [3, 7] [([0], 1, false), ([2, 3, 4, 5], 6, false), ([], 7, false)] [8, 9] [] (N + 1) (by kernel_rfl) (by kernel_rfl)
                  (lows_two ⟨⟨w.heap.size, 0, none⟩, _, _, _, rfl, by show w.heap.size < N + 1; omega, hW3⟩ ⟨⟨N, 0, none⟩, _, _, _, rfl, by show N < N + 1; omega, hW7⟩) (parts_force ?_)
                simp only [List.cons_append, List.nil_append, List.append_nil, List.filterMap_cons, List.filterMap_nil, List.getElem?_toArray, List.getElem?_cons_zero, List.getElem?_cons_succ]
                go_wp2_with fail
                refine ⟨rfl, (Below.refl _ _).drew, parts_force ?_⟩
                simp only [List.cons_append, List.nil_append, List.append_nil, List.filterMap_cons, List.filterMap_nil, List.getElem?_toArray, List.getElem?_cons_zero, List.getElem?_cons_succ]
                obtain ⟨c0, c1, c2, c3, c4, c5, c6, c7, c8, c9, c10, c11, c12, c13, c14, c15⟩ := hW3.cells
                obtain ⟨d0, d1, d2, d3, d4, d5, d6, d7, d8, d9, d10, d11, d12, d13, d14, d15⟩ := hW7.cells
                go_wp2_with fail
                refine (h15n.out _).mono ?_
                rintro e w8 ⟨rfl, hb⟩
                have hb8 : Below (N + 1) W w8 := (Below.refl _ _).drew.trans (hb.mono (by simp; omega))
                clear c0 d0 c1 d1 c2 d2 c3 d3 c4 d4 c5 d5 c6 d6 c7 d7 c8 d8 c9 d9 c10 d10 c11 d11 c12 d12 c13 d13 c14 d14 c15 d15
                go_wp2_with fail
                refine ⟨rfl, hb8, parts_force ?_⟩
                simp only [List.cons_append, List.nil_append, List.append_nil, List.filterMap_cons, List.filterMap_nil, List.getElem?_toArray, List.getElem?_cons_zero, List.getElem?_cons_succ]
                go_wp2_with fail
                refine ⟨rfl, hb8, parts_last ?_⟩
                simp only [List.cons_append, List.nil_append, List.append_nil, List.filterMap_cons, List.filterMap_nil, List.getElem?_toArray, List.getElem?_cons_zero, List.getElem?_cons_succ]
                go_wp2_with fail
                refine ⟨rfl, ?_⟩
                go_wp2_with fail
                go_ret
                exact ⟨rfl, hWb.trans (hb8.mono (by omega))⟩

end Go.Proofs.Ytcagcjabgceejaa
