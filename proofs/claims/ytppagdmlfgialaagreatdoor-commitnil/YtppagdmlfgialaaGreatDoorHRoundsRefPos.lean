/- Rounds of the document's answer, for every state and every number from -64 to 64: what it returns; nothing below the top of the heap is changed. -/
import Derived.Test.YtppagdmlfgialaaGreatDoorHDigSum
import Derived.Test.YtppagdmlfgialaaGreatDoorHRowf
import Derived.Handy

namespace Go.Proofs.YtppagdmlfgialaaGreatDoor
open Go.RowKit

set_option maxHeartbeats 1000000 in
theorem refQuarter_core (a b c d a1 d1 c1 b1 a2 d2 c2 b2 x1 x2 x3 x4 : Nat)
    (r1 : ((a : Int) + (b : Int)) % 4294967296 = (a1 : Int)) (r2 : bits .xor .u32 (d : Int) (a1 : Int) = (x1 : Int))
    (r3 : ((c : Int) + (d1 : Int)) % 4294967296 = (c1 : Int)) (r4 : bits .xor .u32 (b : Int) (c1 : Int) = (x2 : Int))
    (r5 : ((a1 : Int) + (b1 : Int)) % 4294967296 = (a2 : Int)) (r6 : bits .xor .u32 (d1 : Int) (a2 : Int) = (x3 : Int))
    (r7 : ((c1 : Int) + (d2 : Int)) % 4294967296 = (c2 : Int)) (r8 : bits .xor .u32 (b1 : Int) (c2 : Int) = (x4 : Int))
    (t1 : Hid (∀ w : World, Calls Tryz.prog 329 #[.int .u32 (x1 : Int), .int .i64 16] w fun e w' => e = .returned (.int .u32 (d1 : Int)) ∧ w' = w))
    (t2 : Hid (∀ w : World, Calls Tryz.prog 329 #[.int .u32 (x2 : Int), .int .i64 12] w fun e w' => e = .returned (.int .u32 (b1 : Int)) ∧ w' = w))
    (t3 : Hid (∀ w : World, Calls Tryz.prog 329 #[.int .u32 (x3 : Int), .int .i64 8] w fun e w' => e = .returned (.int .u32 (d2 : Int)) ∧ w' = w))
    (t4 : Hid (∀ w : World, Calls Tryz.prog 329 #[.int .u32 (x4 : Int), .int .i64 7] w fun e w' => e = .returned (.int .u32 (b2 : Int)) ∧ w' = w)) (w : World) :
    Calls Tryz.prog 311 #[.int .u32 (a : Int), .int .u32 (b : Int), .int .u32 (c : Int), .int .u32 (d : Int)] w fun e w' => e = .returned (.tuple #[.int .u32 (a2 : Int), .int .u32 (b2 : Int), .int .u32 (c2 : Int), .int .u32 (d2 : Int)]) ∧ w' = w := by
  go_enter Tryz.func311, Tryz.ntmps311
  go_wp2_with fail
  refine (t1.out _).mono ?_
  rintro e w' ⟨rfl, rfl⟩
  go_wp2_with fail
  refine (t2.out _).mono ?_
  rintro e w' ⟨rfl, rfl⟩
  go_wp2_with fail
  refine (t3.out _).mono ?_
  rintro e w' ⟨rfl, rfl⟩
  go_wp2_with fail
  refine (t4.out _).mono ?_
  rintro e w' ⟨rfl, rfl⟩
  go_wp2
  go_returns
  exact ⟨rfl, rfl⟩
theorem refQuarter_any (a b c d : Nat) (ha : a < 4294967296) (hb : b < 4294967296) (hc : c < 4294967296) (hd : d < 4294967296) (q : Q4) (hq : quarterN ⟨a, b, c, d⟩ = q) (w : World) :
    Calls Tryz.prog 311 #[.int .u32 (a : Int), .int .u32 (b : Int), .int .u32 (c : Int), .int .u32 (d : Int)] w fun e w' => e = .returned (.tuple #[.int .u32 (q.a : Int), .int .u32 (q.b : Int), .int .u32 (q.c : Int), .int .u32 (q.d : Int)]) ∧ w' = w := by
  have o1 := half_ok ⟨a, b, c, d⟩ 16 12 ⟨ha, hb, hc, hd⟩
  have o2 := half_ok _ 8 7 o1
  subst hq
  show Calls _ _ _ _ fun e w' => e = .returned (.tuple #[.int .u32 ((half (half ⟨a, b, c, d⟩ 16 12) 8 7).a : Int), .int .u32 ((half (half ⟨a, b, c, d⟩ 16 12) 8 7).b : Int), .int .u32 ((half (half ⟨a, b, c, d⟩ 16 12) 8 7).c : Int), .int .u32 ((half (half ⟨a, b, c, d⟩ 16 12) 8 7).d : Int)]) ∧ _
  have e1 : half ⟨a, b, c, d⟩ 16 12 = ⟨add32 a b, turnN (b ^^^ add32 c (turnN (d ^^^ add32 a b) 16)) 12, add32 c (turnN (d ^^^ add32 a b) 16), turnN (d ^^^ add32 a b) 16⟩ := rfl
  generalize half ⟨a, b, c, d⟩ 16 12 = q at *
  obtain ⟨a1, b1, c1, d1⟩ := q
  simp only [Q4.mk.injEq] at e1
  obtain ⟨e1, e2, e3, e4⟩ := e1
  obtain ⟨ha1, hb1, hc1, hd1⟩ := o1
  obtain ⟨ha2, hb2, hc2, hd2⟩ := o2
  rw [← e1] at e2 e3 e4
  rw [← e4] at e2 e3
  rw [← e3] at e2
  simp only [half] at *
  refine refQuarter_core a b c d a1 d1 c1 b1 _ _ _ _ _ _ _ _ ?_ (u32_xor_nat _ _ hd ha1) ?_ (u32_xor_nat _ _ hb hc1) (add32_int _ _) (u32_xor_nat _ _ hd1 ha2) (add32_int _ _) (u32_xor_nat _ _ hb1 hc2) ?_ ?_ ?_ ?_ w
  · rw [add32_int, ← e1]
  · rw [add32_int, ← e3]
  · exact fun w => left_at _ _ 16 16 rfl (by decide) w (xor_lt32 _ _ hd ha1) e4.symm
  · exact fun w => left_at _ _ 12 12 rfl (by decide) w (xor_lt32 _ _ hb hc1) e2.symm
  · exact fun w => left_at _ _ 8 8 rfl (by decide) w (xor_lt32 _ _ hd1 ha2) rfl
  · exact fun w => left_at _ _ 7 7 rfl (by decide) w (xor_lt32 _ _ hb1 hc2) rfl

end Go.Proofs.YtppagdmlfgialaaGreatDoor

namespace Go.Proofs.YtppagdmlfgialaaGreatDoor
open Go.RowKit

set_option maxHeartbeats 4000000 in
theorem refRoundEven_core (x0 x1 x2 x3 x4 x5 x6 x7 x8 x9 x10 x11 x12 x13 x14 x15 y0 y1 y2 y3 y4 y5 y6 y7 y8 y9 y10 y11 y12 y13 y14 y15 : Nat)
    (h0 : Hid (∀ w : World, Calls Tryz.prog 311 #[.int .u32 (x0 : Int), .int .u32 (x4 : Int), .int .u32 (x8 : Int), .int .u32 (x12 : Int)] w fun e w' => e = .returned (.tuple #[.int .u32 (y0 : Int), .int .u32 (y4 : Int), .int .u32 (y8 : Int), .int .u32 (y12 : Int)]) ∧ w' = w))
    (h1 : Hid (∀ w : World, Calls Tryz.prog 311 #[.int .u32 (x1 : Int), .int .u32 (x5 : Int), .int .u32 (x9 : Int), .int .u32 (x13 : Int)] w fun e w' => e = .returned (.tuple #[.int .u32 (y1 : Int), .int .u32 (y5 : Int), .int .u32 (y9 : Int), .int .u32 (y13 : Int)]) ∧ w' = w))
    (h2 : Hid (∀ w : World, Calls Tryz.prog 311 #[.int .u32 (x2 : Int), .int .u32 (x6 : Int), .int .u32 (x10 : Int), .int .u32 (x14 : Int)] w fun e w' => e = .returned (.tuple #[.int .u32 (y2 : Int), .int .u32 (y6 : Int), .int .u32 (y10 : Int), .int .u32 (y14 : Int)]) ∧ w' = w))
    (h3 : Hid (∀ w : World, Calls Tryz.prog 311 #[.int .u32 (x3 : Int), .int .u32 (x7 : Int), .int .u32 (x11 : Int), .int .u32 (x15 : Int)] w fun e w' => e = .returned (.tuple #[.int .u32 (y3 : Int), .int .u32 (y7 : Int), .int .u32 (y11 : Int), .int .u32 (y15 : Int)]) ∧ w' = w)) (w : World) :
    Calls Tryz.prog 266 #[.agg #[.int .u32 (x0 : Int), .int .u32 (x1 : Int), .int .u32 (x2 : Int), .int .u32 (x3 : Int), .int .u32 (x4 : Int), .int .u32 (x5 : Int), .int .u32 (x6 : Int), .int .u32 (x7 : Int), .int .u32 (x8 : Int), .int .u32 (x9 : Int), .int .u32 (x10 : Int), .int .u32 (x11 : Int), .int .u32 (x12 : Int), .int .u32 (x13 : Int), .int .u32 (x14 : Int), .int .u32 (x15 : Int)], .bool false, .bool false] w fun e w' => e = .returned (.agg #[.int .u32 (y0 : Int), .int .u32 (y1 : Int), .int .u32 (y2 : Int), .int .u32 (y3 : Int), .int .u32 (y4 : Int), .int .u32 (y5 : Int), .int .u32 (y6 : Int), .int .u32 (y7 : Int), .int .u32 (y8 : Int), .int .u32 (y9 : Int), .int .u32 (y10 : Int), .int .u32 (y11 : Int), .int .u32 (y12 : Int), .int .u32 (y13 : Int), .int .u32 (y14 : Int), .int .u32 (y15 : Int)]) ∧ Below w.heap.size w w' := by
  go_enter Tryz.func266, Tryz.ntmps266
  go_wp2_with fail
  refine wp_loop_rounds 5 ?_
  rw [rounds_succ]
  go_wp2
  refine wp_region_text (by kernel_rfl) (by kernel_rfl) ?_
  go_wp2_with fail
  refine (h0.out _).mono ?_
  rintro e w1 ⟨rfl, rfl⟩
  go_wp2_with fail
  refine ⟨rfl, ?_⟩
  go_wp2_with fail
  rw [rounds_succ]
  go_wp2
  refine wp_region_text (by kernel_rfl) (by kernel_rfl) ?_
  go_wp2_with fail
  refine (h1.out _).mono ?_
  rintro e w1 ⟨rfl, rfl⟩
  go_wp2_with fail
  refine ⟨rfl, ?_⟩
  go_wp2_with fail
  rw [rounds_succ]
  go_wp2
  refine wp_region_text (by kernel_rfl) (by kernel_rfl) ?_
  go_wp2_with fail
  refine (h2.out _).mono ?_
  rintro e w1 ⟨rfl, rfl⟩
  go_wp2_with fail
  refine ⟨rfl, ?_⟩
  go_wp2_with fail
  rw [rounds_succ]
  go_wp2
  refine wp_region_text (by kernel_rfl) (by kernel_rfl) ?_
  go_wp2_with fail
  refine (h3.out _).mono ?_
  rintro e w1 ⟨rfl, rfl⟩
  go_wp2_with fail
  refine ⟨rfl, ?_⟩
  go_wp2_with fail
  rw [rounds_succ]
  go_wp2
  go_returns
  refine ⟨by simp, ?_⟩
  go_grown

end Go.Proofs.YtppagdmlfgialaaGreatDoor

namespace Go.Proofs.YtppagdmlfgialaaGreatDoor
open Go.RowKit

set_option maxHeartbeats 4000000 in
theorem refRoundOdd_core (x0 x1 x2 x3 x4 x5 x6 x7 x8 x9 x10 x11 x12 x13 x14 x15 y0 y1 y2 y3 y4 y5 y6 y7 y8 y9 y10 y11 y12 y13 y14 y15 : Nat)
    (h0 : Hid (∀ w : World, Calls Tryz.prog 311 #[.int .u32 (x0 : Int), .int .u32 (x5 : Int), .int .u32 (x10 : Int), .int .u32 (x15 : Int)] w fun e w' => e = .returned (.tuple #[.int .u32 (y0 : Int), .int .u32 (y5 : Int), .int .u32 (y10 : Int), .int .u32 (y15 : Int)]) ∧ w' = w))
    (h1 : Hid (∀ w : World, Calls Tryz.prog 311 #[.int .u32 (x1 : Int), .int .u32 (x6 : Int), .int .u32 (x11 : Int), .int .u32 (x12 : Int)] w fun e w' => e = .returned (.tuple #[.int .u32 (y1 : Int), .int .u32 (y6 : Int), .int .u32 (y11 : Int), .int .u32 (y12 : Int)]) ∧ w' = w))
    (h2 : Hid (∀ w : World, Calls Tryz.prog 311 #[.int .u32 (x2 : Int), .int .u32 (x7 : Int), .int .u32 (x8 : Int), .int .u32 (x13 : Int)] w fun e w' => e = .returned (.tuple #[.int .u32 (y2 : Int), .int .u32 (y7 : Int), .int .u32 (y8 : Int), .int .u32 (y13 : Int)]) ∧ w' = w))
    (h3 : Hid (∀ w : World, Calls Tryz.prog 311 #[.int .u32 (x3 : Int), .int .u32 (x4 : Int), .int .u32 (x9 : Int), .int .u32 (x14 : Int)] w fun e w' => e = .returned (.tuple #[.int .u32 (y3 : Int), .int .u32 (y4 : Int), .int .u32 (y9 : Int), .int .u32 (y14 : Int)]) ∧ w' = w)) (w : World) :
    Calls Tryz.prog 266 #[.agg #[.int .u32 (x0 : Int), .int .u32 (x1 : Int), .int .u32 (x2 : Int), .int .u32 (x3 : Int), .int .u32 (x4 : Int), .int .u32 (x5 : Int), .int .u32 (x6 : Int), .int .u32 (x7 : Int), .int .u32 (x8 : Int), .int .u32 (x9 : Int), .int .u32 (x10 : Int), .int .u32 (x11 : Int), .int .u32 (x12 : Int), .int .u32 (x13 : Int), .int .u32 (x14 : Int), .int .u32 (x15 : Int)], .bool true, .bool false] w fun e w' => e = .returned (.agg #[.int .u32 (y0 : Int), .int .u32 (y1 : Int), .int .u32 (y2 : Int), .int .u32 (y3 : Int), .int .u32 (y4 : Int), .int .u32 (y5 : Int), .int .u32 (y6 : Int), .int .u32 (y7 : Int), .int .u32 (y8 : Int), .int .u32 (y9 : Int), .int .u32 (y10 : Int), .int .u32 (y11 : Int), .int .u32 (y12 : Int), .int .u32 (y13 : Int), .int .u32 (y14 : Int), .int .u32 (y15 : Int)]) ∧ Below w.heap.size w w' := by
  go_enter Tryz.func266, Tryz.ntmps266
  go_wp2_with fail
  refine wp_loop_rounds 5 ?_
  rw [rounds_succ]
  go_wp2
  refine wp_region_text (by kernel_rfl) (by kernel_rfl) ?_
  go_wp2_with fail
  refine (h0.out _).mono ?_
  rintro e w1 ⟨rfl, rfl⟩
  go_wp2_with fail
  refine ⟨rfl, ?_⟩
  go_wp2_with fail
  rw [rounds_succ]
  go_wp2
  refine wp_region_text (by kernel_rfl) (by kernel_rfl) ?_
  go_wp2_with fail
  refine (h1.out _).mono ?_
  rintro e w1 ⟨rfl, rfl⟩
  go_wp2_with fail
  refine ⟨rfl, ?_⟩
  go_wp2_with fail
  rw [rounds_succ]
  go_wp2
  refine wp_region_text (by kernel_rfl) (by kernel_rfl) ?_
  go_wp2_with fail
  refine (h2.out _).mono ?_
  rintro e w1 ⟨rfl, rfl⟩
  go_wp2_with fail
  refine ⟨rfl, ?_⟩
  go_wp2_with fail
  rw [rounds_succ]
  go_wp2
  refine wp_region_text (by kernel_rfl) (by kernel_rfl) ?_
  go_wp2_with fail
  refine (h3.out _).mono ?_
  rintro e w1 ⟨rfl, rfl⟩
  go_wp2_with fail
  refine ⟨rfl, ?_⟩
  go_wp2_with fail
  rw [rounds_succ]
  go_wp2
  go_returns
  refine ⟨by simp, ?_⟩
  go_grown

end Go.Proofs.YtppagdmlfgialaaGreatDoor

namespace Go.Proofs.YtppagdmlfgialaaGreatDoor
open Go.RowKit

theorem refRound_any (odd : Bool) (s : St) (h : s.ok) (w : World) :
    Calls Tryz.prog 266 #[.agg (stA s), .bool odd, .bool false] w fun e w' => e = .returned (.agg (stA (roundN odd s))) ∧ Below w.heap.size w w' := by
  obtain ⟨h0, h1, h2, h3, h4, h5, h6, h7, h8, h9, h10, h11, h12, h13, h14, h15⟩ := h
  cases odd
  · exact refRoundEven_core s.x0 s.x1 s.x2 s.x3 s.x4 s.x5 s.x6 s.x7 s.x8 s.x9 s.x10 s.x11 s.x12 s.x13 s.x14 s.x15 (quarterN ⟨s.x0, s.x4, s.x8, s.x12⟩).a (quarterN ⟨s.x1, s.x5, s.x9, s.x13⟩).a (quarterN ⟨s.x2, s.x6, s.x10, s.x14⟩).a (quarterN ⟨s.x3, s.x7, s.x11, s.x15⟩).a (quarterN ⟨s.x0, s.x4, s.x8, s.x12⟩).b (quarterN ⟨s.x1, s.x5, s.x9, s.x13⟩).b (quarterN ⟨s.x2, s.x6, s.x10, s.x14⟩).b (quarterN ⟨s.x3, s.x7, s.x11, s.x15⟩).b (quarterN ⟨s.x0, s.x4, s.x8, s.x12⟩).c (quarterN ⟨s.x1, s.x5, s.x9, s.x13⟩).c (quarterN ⟨s.x2, s.x6, s.x10, s.x14⟩).c (quarterN ⟨s.x3, s.x7, s.x11, s.x15⟩).c (quarterN ⟨s.x0, s.x4, s.x8, s.x12⟩).d (quarterN ⟨s.x1, s.x5, s.x9, s.x13⟩).d (quarterN ⟨s.x2, s.x6, s.x10, s.x14⟩).d (quarterN ⟨s.x3, s.x7, s.x11, s.x15⟩).d (fun w => refQuarter_any _ _ _ _ h0 h4 h8 h12 _ rfl w) (fun w => refQuarter_any _ _ _ _ h1 h5 h9 h13 _ rfl w) (fun w => refQuarter_any _ _ _ _ h2 h6 h10 h14 _ rfl w) (fun w => refQuarter_any _ _ _ _ h3 h7 h11 h15 _ rfl w) w
  · exact refRoundOdd_core s.x0 s.x1 s.x2 s.x3 s.x4 s.x5 s.x6 s.x7 s.x8 s.x9 s.x10 s.x11 s.x12 s.x13 s.x14 s.x15 (quarterN ⟨s.x0, s.x5, s.x10, s.x15⟩).a (quarterN ⟨s.x1, s.x6, s.x11, s.x12⟩).a (quarterN ⟨s.x2, s.x7, s.x8, s.x13⟩).a (quarterN ⟨s.x3, s.x4, s.x9, s.x14⟩).a (quarterN ⟨s.x3, s.x4, s.x9, s.x14⟩).b (quarterN ⟨s.x0, s.x5, s.x10, s.x15⟩).b (quarterN ⟨s.x1, s.x6, s.x11, s.x12⟩).b (quarterN ⟨s.x2, s.x7, s.x8, s.x13⟩).b (quarterN ⟨s.x2, s.x7, s.x8, s.x13⟩).c (quarterN ⟨s.x3, s.x4, s.x9, s.x14⟩).c (quarterN ⟨s.x0, s.x5, s.x10, s.x15⟩).c (quarterN ⟨s.x1, s.x6, s.x11, s.x12⟩).c (quarterN ⟨s.x1, s.x6, s.x11, s.x12⟩).d (quarterN ⟨s.x2, s.x7, s.x8, s.x13⟩).d (quarterN ⟨s.x3, s.x4, s.x9, s.x14⟩).d (quarterN ⟨s.x0, s.x5, s.x10, s.x15⟩).d (fun w => refQuarter_any _ _ _ _ h0 h5 h10 h15 _ rfl w) (fun w => refQuarter_any _ _ _ _ h1 h6 h11 h12 _ rfl w) (fun w => refQuarter_any _ _ _ _ h2 h7 h8 h13 _ rfl w) (fun w => refQuarter_any _ _ _ _ h3 h4 h9 h14 _ rfl w) w
end Go.Proofs.YtppagdmlfgialaaGreatDoor

namespace Go.Proofs.YtppagdmlfgialaaGreatDoor
open Go.RowKit

theorem sizeRef {s : St} : (Tryz.prog.info? 342).map (·.size) = some (stA s).size := by
  show _ = some 16
  kernel_rfl
theorem odd_beq (z : Int) (k : Nat) (h : z = (k : Int)) : (z % 2 == 1) = decide (k % 2 = 1) := by
  subst h
  rw [Bool.eq_iff_iff]
  simp only [beq_iff_eq, decide_eq_true_eq]
  omega
theorem odd_tmod (z : Int) (k : Nat) (h : z = (k : Int)) : (z.tmod 2 == 1) = decide (k % 2 = 1) := by
  rw [Int.tmod_eq_emod_of_nonneg (by omega)]
  exact odd_beq z k h

set_option maxHeartbeats 4000000 in
theorem refRounds_pos (s : St) (h : s.ok) (n : Nat) (hn : n ≤ 64) (w : World) :
    Calls Tryz.prog 213 #[.agg (stA s), .int .i64 (n : Int)] w fun e w' => e = .returned (.agg (stA (fwd s n))) ∧ Below w.heap.size w w' := by
  go_enter Tryz.func213, Tryz.ntmps213
  go_wp2_with fail
  go_loopw [5] (fun i wr => ∃ k : Nat, k ≤ n ∧ i = .int .i64 k ∧ Blk wr w.heap.size 342 (stA (fwd s k)) ∧ Blk wr (w.heap.size + 1) 342 (stA St.zero) ∧ Below w.heap.size w wr) (fun i _ => n - (intOf i).toNat)
  case atStart =>
    refine ⟨0, by omega, rfl, (Blk.new w 342 _).alloc _, ?_, ((Below.refl _ _).alloc (Nat.le_refl _) _).alloc (by simp) _⟩
    have e : (w.alloc (.cells (stA s) 342)).heap.size = w.heap.size + 1 := by simp
    rw [← e]
    exact Blk.new (w.alloc (.cells (stA s) 342)) 342 (stA St.zero)
  case round =>
    obtain ⟨k, hk, rfl, hg, hz, hbel⟩ := hrel
    have HL' := hg.lt
    by_cases hlt : k < n
    · skip
      have hR : Hid (∀ (c : Bool) (w : World), c = decide (k % 2 = 1) → Calls Tryz.prog 266 #[.agg #[.int .u32 ((fwd s k).x0 : Int), .int .u32 ((fwd s k).x1 : Int), .int .u32 ((fwd s k).x2 : Int), .int .u32 ((fwd s k).x3 : Int), .int .u32 ((fwd s k).x4 : Int), .int .u32 ((fwd s k).x5 : Int), .int .u32 ((fwd s k).x6 : Int), .int .u32 ((fwd s k).x7 : Int), .int .u32 ((fwd s k).x8 : Int), .int .u32 ((fwd s k).x9 : Int), .int .u32 ((fwd s k).x10 : Int), .int .u32 ((fwd s k).x11 : Int), .int .u32 ((fwd s k).x12 : Int), .int .u32 ((fwd s k).x13 : Int), .int .u32 ((fwd s k).x14 : Int), .int .u32 ((fwd s k).x15 : Int)], .bool c, .bool false] w fun e w' => e = .returned (.agg #[.int .u32 ((fwd s (k + 1)).x0 : Int), .int .u32 ((fwd s (k + 1)).x1 : Int), .int .u32 ((fwd s (k + 1)).x2 : Int), .int .u32 ((fwd s (k + 1)).x3 : Int), .int .u32 ((fwd s (k + 1)).x4 : Int), .int .u32 ((fwd s (k + 1)).x5 : Int), .int .u32 ((fwd s (k + 1)).x6 : Int), .int .u32 ((fwd s (k + 1)).x7 : Int), .int .u32 ((fwd s (k + 1)).x8 : Int), .int .u32 ((fwd s (k + 1)).x9 : Int), .int .u32 ((fwd s (k + 1)).x10 : Int), .int .u32 ((fwd s (k + 1)).x11 : Int), .int .u32 ((fwd s (k + 1)).x12 : Int), .int .u32 ((fwd s (k + 1)).x13 : Int), .int .u32 ((fwd s (k + 1)).x14 : Int), .int .u32 ((fwd s (k + 1)).x15 : Int)]) ∧ Below w.heap.size w w') := fun c w hc => by rw [hc]; exact refRound_any _ _ (fwd_ok s h k) w
      have HG : Hid (Blk wr w.heap.size 342 (stA (fwd s k))) := hg
      have HZ : Hid (Blk wr (w.heap.size + 1) 342 (stA St.zero)) := hz
      have HL := hz.lt
      have HB : Hid (Below w.heap.size w wr) := hbel
      obtain ⟨_, _, _, _, _, _, _, _, _, _, _, _, _, _, _, _⟩ := hg.cells
      clear hg hz hbel
      generalize HY : fwd s (k + 1) = y at *
      generalize fwd s k = x at *
      have HY' : Hid (fwd s (k + 1) = y) := HY
      clear HY
      go_wp2_with fail
      refine (hR.out _ _ (by first | exact odd_beq _ k rfl | exact odd_tmod _ k rfl)).mono ?_
      rintro e w2 ⟨rfl, hb⟩
      have hg2 := HG.out.below hb HL'
      have hz2 := HZ.out.below hb HL
      have hb2 : Below w.heap.size w w2 := HB.out.trans (hb.mono (by omega))
      have PG : Hid (Blk (put16 w2 w.heap.size y) w.heap.size 342 (stA y)) := blk_put16 hg2 y
      have PZ : Hid (Blk (put16 w2 w.heap.size y) (w.heap.size + 1) 342 (stA St.zero)) := blk_put16_other hz2 y (by omega)
      have PB : Hid (Below w.heap.size w (put16 w2 w.heap.size y)) := below_put16 hb2 (Nat.le_refl _) y
      obtain ⟨_, _, _, _, _, _, _, _, _, _, _, _, _, _, _, _⟩ := hg2.cells
      obtain ⟨_, _, _, _, _, _, _, _, _, _, _, _, _, _, _, _⟩ := hg2.frees
      clear hg2 hz2 hb2 hb
      go_wp2_with fail
      go_roundw
      case rel =>
        refine ⟨k + 1, by omega, by go_num, ?_, PZ.out, PB.out⟩
        rw [HY'.out]; exact PG.out
      case measure => first | (simp [intOf]; omega) | (have := HM.out; simp [intOf]; omega)
    · have : k = n := by omega
      subst this
      go_wp2_with fail
      refine wp_loop_rounds 1 ?_
      rw [rounds_succ]
      have hneg : decide (0 ≤ (-(k : Int) - 1)) = false := decide_eq_false (by omega)
      generalize (-(k : Int) - 1) = z at *
      clear hk hlt
      have HZ : Hid (Blk (put16 wr (w.heap.size + 1) (fwd s k)) (w.heap.size + 1) 342 (stA (fwd s k))) := blk_put16 hz (fwd s k)
      have HB : Hid (Below w.heap.size w (put16 wr (w.heap.size + 1) (fwd s k))) := below_put16 hbel (Nat.le_succ _) (fwd s k)
      generalize HX : fwd s k = x at *
      have HX' : Hid (fwd s k = x) := HX
      clear HX
      obtain ⟨_, _, _, _, _, _, _, _, _, _, _, _, _, _, _, _⟩ := hg.cells
      obtain ⟨_, _, _, _, _, _, _, _, _, _, _, _, _, _, _, _⟩ := hz.cells
      obtain ⟨_, _, _, _, _, _, _, _, _, _, _, _, _, _, _, _⟩ := hz.frees
      clear hg hz hbel
      go_wp2_with fail
      try simp only [Exit.inBlock, Exit.then]
      refine bodyPost_ret (results_cell_row Tryz.results213 _ _ (w.heap.size + 1) 342 (stA x) (0, 0) _ rfl HZ.out Tryz.underlying342 rfl sizeRef) rfl ?_
      exact ⟨by rw [HX'.out], HB.out⟩

end Go.Proofs.YtppagdmlfgialaaGreatDoor
