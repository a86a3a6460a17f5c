/- One piece pressed into a chain: the program's contract. -/
import Derived.Test.YtiofonffmplfmaaGreatHDigBytes
import Derived.Handy
import Derived.Test.YtiofonffmplfmaaGreatHDigText
import Derived.Deep.RegionWith
import Derived.Deep.DrawnRows
import Derived.Deep.RegionLaw

namespace Go.Proofs.YtiofonffmplfmaaGreat
open Go.RowKit

theorem turn_at (x y : Nat) (i : Int) (s : Nat) (hs : (i % 32).toNat = s) (w : World) (hx : x < 4294967296) (h : turnN x s = y) :
    Calls Tryz.prog 131 #[.int .u32 x, .int .i64 i] w fun e w' => e = .returned (.int .u32 y) ∧ w' = w := by
  subst hs; exact turn_to x y i hx h w
theorem left_at (x y : Nat) (i : Int) (s : Nat) (hs : i = (s : Int)) (hs2 : s < 32) (w : World) (hx : x < 4294967296) (h : turnN x s = y) :
    Calls Tryz.prog 111 #[.int .u32 x, .int .i64 i] w fun e w' => e = .returned (.int .u32 y) ∧ w' = w := by
  subst hs; exact left_to x s y hx hs2 h w

set_option maxHeartbeats 1000000 in
theorem quarter_core (a b c d a1 d1 c1 b1 a2 d2 c2 b2 x1 x2 x3 x4 : Nat)
    (r1 : ((a : Int) + (b : Int)) % 4294967296 = (a1 : Int)) (r2 : bits .xor .u32 (d : Int) (a1 : Int) = (x1 : Int))
    (r3 : ((c : Int) + (d1 : Int)) % 4294967296 = (c1 : Int)) (r4 : bits .xor .u32 (b : Int) (c1 : Int) = (x2 : Int))
    (r5 : ((a1 : Int) + (b1 : Int)) % 4294967296 = (a2 : Int)) (r6 : bits .xor .u32 (d1 : Int) (a2 : Int) = (x3 : Int))
    (r7 : ((c1 : Int) + (d2 : Int)) % 4294967296 = (c2 : Int)) (r8 : bits .xor .u32 (b1 : Int) (c2 : Int) = (x4 : Int))
    (t1 : Hid (∀ w : World, Calls Tryz.prog 131 #[.int .u32 (x1 : Int), .int .i64 16] w fun e w' => e = .returned (.int .u32 (d1 : Int)) ∧ w' = w))
    (t2 : Hid (∀ w : World, Calls Tryz.prog 131 #[.int .u32 (x2 : Int), .int .i64 12] w fun e w' => e = .returned (.int .u32 (b1 : Int)) ∧ w' = w))
    (t3 : Hid (∀ w : World, Calls Tryz.prog 131 #[.int .u32 (x3 : Int), .int .i64 8] w fun e w' => e = .returned (.int .u32 (d2 : Int)) ∧ w' = w))
    (t4 : Hid (∀ w : World, Calls Tryz.prog 131 #[.int .u32 (x4 : Int), .int .i64 7] w fun e w' => e = .returned (.int .u32 (b2 : Int)) ∧ w' = w)) (w : World) :
    Calls Tryz.prog 130 #[.int .u32 (a : Int), .int .u32 (b : Int), .int .u32 (c : Int), .int .u32 (d : Int)] w fun e w' => e = .returned (.tuple #[.int .u32 (a2 : Int), .int .u32 (b2 : Int), .int .u32 (c2 : Int), .int .u32 (d2 : Int)]) ∧ w' = w := by
  go_enter Tryz.func130, Tryz.ntmps130
  go_wp2_with fail
  refine (t1.out _).mono ?_
  rintro e w' ⟨rfl, rfl⟩
  go_wp2_with fail
  refine (t2.out _).mono ?_
  rintro e w' ⟨rfl, rfl⟩
  go_wp2_with fail
  refine (t3.out _).mono ?_
  rintro e w' ⟨rfl, rfl⟩
  go_wp2_with fail
  refine (t4.out _).mono ?_
  rintro e w' ⟨rfl, rfl⟩
  go_wp2
  go_returns
  exact ⟨rfl, rfl⟩
theorem quarter_any (a b c d : Nat) (ha : a < 4294967296) (hb : b < 4294967296) (hc : c < 4294967296) (hd : d < 4294967296) (q : Q4) (hq : quarterN ⟨a, b, c, d⟩ = q) (w : World) :
    Calls Tryz.prog 130 #[.int .u32 (a : Int), .int .u32 (b : Int), .int .u32 (c : Int), .int .u32 (d : Int)] w fun e w' => e = .returned (.tuple #[.int .u32 (q.a : Int), .int .u32 (q.b : Int), .int .u32 (q.c : Int), .int .u32 (q.d : Int)]) ∧ w' = w := by
  have o1 := half_ok ⟨a, b, c, d⟩ 16 12 ⟨ha, hb, hc, hd⟩
  have o2 := half_ok _ 8 7 o1
  subst hq
  show Calls _ _ _ _ fun e w' => e = .returned (.tuple #[.int .u32 ((half (half ⟨a, b, c, d⟩ 16 12) 8 7).a : Int), .int .u32 ((half (half ⟨a, b, c, d⟩ 16 12) 8 7).b : Int), .int .u32 ((half (half ⟨a, b, c, d⟩ 16 12) 8 7).c : Int), .int .u32 ((half (half ⟨a, b, c, d⟩ 16 12) 8 7).d : Int)]) ∧ _
  have e1 : half ⟨a, b, c, d⟩ 16 12 = ⟨add32 a b, turnN (b ^^^ add32 c (turnN (d ^^^ add32 a b) 16)) 12, add32 c (turnN (d ^^^ add32 a b) 16), turnN (d ^^^ add32 a b) 16⟩ := rfl
  generalize half ⟨a, b, c, d⟩ 16 12 = q at *
  obtain ⟨a1, b1, c1, d1⟩ := q
  simp only [Q4.mk.injEq] at e1
  obtain ⟨e1, e2, e3, e4⟩ := e1
  obtain ⟨ha1, hb1, hc1, hd1⟩ := o1
  obtain ⟨ha2, hb2, hc2, hd2⟩ := o2
  rw [← e1] at e2 e3 e4
  rw [← e4] at e2 e3
  rw [← e3] at e2
  simp only [half] at *
  refine quarter_core a b c d a1 d1 c1 b1 _ _ _ _ _ _ _ _ ?_ (u32_xor_nat _ _ hd ha1) ?_ (u32_xor_nat _ _ hb hc1) (add32_int _ _) (u32_xor_nat _ _ hd1 ha2) (add32_int _ _) (u32_xor_nat _ _ hb1 hc2) ?_ ?_ ?_ ?_ w
  · rw [add32_int, ← e1]
  · rw [add32_int, ← e3]
  · exact fun w => turn_at _ _ (16) 16 (by decide) w (xor_lt32 _ _ hd ha1) e4.symm
  · exact fun w => turn_at _ _ (12) 12 (by decide) w (xor_lt32 _ _ hb hc1) e2.symm
  · exact fun w => turn_at _ _ (8) 8 (by decide) w (xor_lt32 _ _ hd1 ha2) rfl
  · exact fun w => turn_at _ _ (7) 7 (by decide) w (xor_lt32 _ _ hb1 hc2) rfl

end Go.Proofs.YtiofonffmplfmaaGreat

namespace Go.Proofs.YtiofonffmplfmaaGreat
open Go.RowKit

set_option maxHeartbeats 4000000 in
theorem roundEven_core (x0 x1 x2 x3 x4 x5 x6 x7 x8 x9 x10 x11 x12 x13 x14 x15 y0 y1 y2 y3 y4 y5 y6 y7 y8 y9 y10 y11 y12 y13 y14 y15 : Nat)
    (h0 : Hid (∀ w : World, Calls Tryz.prog 130 #[.int .u32 (x0 : Int), .int .u32 (x4 : Int), .int .u32 (x8 : Int), .int .u32 (x12 : Int)] w fun e w' => e = .returned (.tuple #[.int .u32 (y0 : Int), .int .u32 (y4 : Int), .int .u32 (y8 : Int), .int .u32 (y12 : Int)]) ∧ w' = w))
    (h1 : Hid (∀ w : World, Calls Tryz.prog 130 #[.int .u32 (x1 : Int), .int .u32 (x5 : Int), .int .u32 (x9 : Int), .int .u32 (x13 : Int)] w fun e w' => e = .returned (.tuple #[.int .u32 (y1 : Int), .int .u32 (y5 : Int), .int .u32 (y9 : Int), .int .u32 (y13 : Int)]) ∧ w' = w))
    (h2 : Hid (∀ w : World, Calls Tryz.prog 130 #[.int .u32 (x2 : Int), .int .u32 (x6 : Int), .int .u32 (x10 : Int), .int .u32 (x14 : Int)] w fun e w' => e = .returned (.tuple #[.int .u32 (y2 : Int), .int .u32 (y6 : Int), .int .u32 (y10 : Int), .int .u32 (y14 : Int)]) ∧ w' = w))
    (h3 : Hid (∀ w : World, Calls Tryz.prog 130 #[.int .u32 (x3 : Int), .int .u32 (x7 : Int), .int .u32 (x11 : Int), .int .u32 (x15 : Int)] w fun e w' => e = .returned (.tuple #[.int .u32 (y3 : Int), .int .u32 (y7 : Int), .int .u32 (y11 : Int), .int .u32 (y15 : Int)]) ∧ w' = w)) (w : World) :
    Calls Tryz.prog 127 #[.agg #[.int .u32 (x0 : Int), .int .u32 (x1 : Int), .int .u32 (x2 : Int), .int .u32 (x3 : Int), .int .u32 (x4 : Int), .int .u32 (x5 : Int), .int .u32 (x6 : Int), .int .u32 (x7 : Int), .int .u32 (x8 : Int), .int .u32 (x9 : Int), .int .u32 (x10 : Int), .int .u32 (x11 : Int), .int .u32 (x12 : Int), .int .u32 (x13 : Int), .int .u32 (x14 : Int), .int .u32 (x15 : Int)], .bool false] w fun e w' => e = .returned (.agg #[.int .u32 (y0 : Int), .int .u32 (y1 : Int), .int .u32 (y2 : Int), .int .u32 (y3 : Int), .int .u32 (y4 : Int), .int .u32 (y5 : Int), .int .u32 (y6 : Int), .int .u32 (y7 : Int), .int .u32 (y8 : Int), .int .u32 (y9 : Int), .int .u32 (y10 : Int), .int .u32 (y11 : Int), .int .u32 (y12 : Int), .int .u32 (y13 : Int), .int .u32 (y14 : Int), .int .u32 (y15 : Int)]) ∧ Below w.heap.size w w' := by
  go_enter Tryz.func127, Tryz.ntmps127
  go_wp2_with fail
  refine wp_loop_rounds 5 ?_
  rw [rounds_succ]
  go_wp2
  refine wp_region_text (by kernel_rfl) (by kernel_rfl) ?_
  go_wp2_with fail
  refine (h0.out _).mono ?_
  rintro e w1 ⟨rfl, rfl⟩
  go_wp2_with fail
  refine ⟨rfl, ?_⟩
  go_wp2_with fail
  rw [rounds_succ]
  go_wp2
  refine wp_region_text (by kernel_rfl) (by kernel_rfl) ?_
  go_wp2_with fail
  refine (h1.out _).mono ?_
  rintro e w1 ⟨rfl, rfl⟩
  go_wp2_with fail
  refine ⟨rfl, ?_⟩
  go_wp2_with fail
  rw [rounds_succ]
  go_wp2
  refine wp_region_text (by kernel_rfl) (by kernel_rfl) ?_
  go_wp2_with fail
  refine (h2.out _).mono ?_
  rintro e w1 ⟨rfl, rfl⟩
  go_wp2_with fail
  refine ⟨rfl, ?_⟩
  go_wp2_with fail
  rw [rounds_succ]
  go_wp2
  refine wp_region_text (by kernel_rfl) (by kernel_rfl) ?_
  go_wp2_with fail
  refine (h3.out _).mono ?_
  rintro e w1 ⟨rfl, rfl⟩
  go_wp2_with fail
  refine ⟨rfl, ?_⟩
  go_wp2_with fail
  rw [rounds_succ]
  go_wp2
  go_returns
  refine ⟨by simp, ?_⟩
  go_grown

end Go.Proofs.YtiofonffmplfmaaGreat

namespace Go.Proofs.YtiofonffmplfmaaGreat
open Go.RowKit

set_option maxHeartbeats 4000000 in
theorem roundOdd_core (x0 x1 x2 x3 x4 x5 x6 x7 x8 x9 x10 x11 x12 x13 x14 x15 y0 y1 y2 y3 y4 y5 y6 y7 y8 y9 y10 y11 y12 y13 y14 y15 : Nat)
    (h0 : Hid (∀ w : World, Calls Tryz.prog 130 #[.int .u32 (x0 : Int), .int .u32 (x5 : Int), .int .u32 (x10 : Int), .int .u32 (x15 : Int)] w fun e w' => e = .returned (.tuple #[.int .u32 (y0 : Int), .int .u32 (y5 : Int), .int .u32 (y10 : Int), .int .u32 (y15 : Int)]) ∧ w' = w))
    (h1 : Hid (∀ w : World, Calls Tryz.prog 130 #[.int .u32 (x1 : Int), .int .u32 (x6 : Int), .int .u32 (x11 : Int), .int .u32 (x12 : Int)] w fun e w' => e = .returned (.tuple #[.int .u32 (y1 : Int), .int .u32 (y6 : Int), .int .u32 (y11 : Int), .int .u32 (y12 : Int)]) ∧ w' = w))
    (h2 : Hid (∀ w : World, Calls Tryz.prog 130 #[.int .u32 (x2 : Int), .int .u32 (x7 : Int), .int .u32 (x8 : Int), .int .u32 (x13 : Int)] w fun e w' => e = .returned (.tuple #[.int .u32 (y2 : Int), .int .u32 (y7 : Int), .int .u32 (y8 : Int), .int .u32 (y13 : Int)]) ∧ w' = w))
    (h3 : Hid (∀ w : World, Calls Tryz.prog 130 #[.int .u32 (x3 : Int), .int .u32 (x4 : Int), .int .u32 (x9 : Int), .int .u32 (x14 : Int)] w fun e w' => e = .returned (.tuple #[.int .u32 (y3 : Int), .int .u32 (y4 : Int), .int .u32 (y9 : Int), .int .u32 (y14 : Int)]) ∧ w' = w)) (w : World) :
    Calls Tryz.prog 127 #[.agg #[.int .u32 (x0 : Int), .int .u32 (x1 : Int), .int .u32 (x2 : Int), .int .u32 (x3 : Int), .int .u32 (x4 : Int), .int .u32 (x5 : Int), .int .u32 (x6 : Int), .int .u32 (x7 : Int), .int .u32 (x8 : Int), .int .u32 (x9 : Int), .int .u32 (x10 : Int), .int .u32 (x11 : Int), .int .u32 (x12 : Int), .int .u32 (x13 : Int), .int .u32 (x14 : Int), .int .u32 (x15 : Int)], .bool true] w fun e w' => e = .returned (.agg #[.int .u32 (y0 : Int), .int .u32 (y1 : Int), .int .u32 (y2 : Int), .int .u32 (y3 : Int), .int .u32 (y4 : Int), .int .u32 (y5 : Int), .int .u32 (y6 : Int), .int .u32 (y7 : Int), .int .u32 (y8 : Int), .int .u32 (y9 : Int), .int .u32 (y10 : Int), .int .u32 (y11 : Int), .int .u32 (y12 : Int), .int .u32 (y13 : Int), .int .u32 (y14 : Int), .int .u32 (y15 : Int)]) ∧ Below w.heap.size w w' := by
  go_enter Tryz.func127, Tryz.ntmps127
  go_wp2_with fail
  refine wp_loop_rounds 5 ?_
  rw [rounds_succ]
  go_wp2
  refine wp_region_text (by kernel_rfl) (by kernel_rfl) ?_
  go_wp2_with fail
  refine (h0.out _).mono ?_
  rintro e w1 ⟨rfl, rfl⟩
  go_wp2_with fail
  refine ⟨rfl, ?_⟩
  go_wp2_with fail
  rw [rounds_succ]
  go_wp2
  refine wp_region_text (by kernel_rfl) (by kernel_rfl) ?_
  go_wp2_with fail
  refine (h1.out _).mono ?_
  rintro e w1 ⟨rfl, rfl⟩
  go_wp2_with fail
  refine ⟨rfl, ?_⟩
  go_wp2_with fail
  rw [rounds_succ]
  go_wp2
  refine wp_region_text (by kernel_rfl) (by kernel_rfl) ?_
  go_wp2_with fail
  refine (h2.out _).mono ?_
  rintro e w1 ⟨rfl, rfl⟩
  go_wp2_with fail
  refine ⟨rfl, ?_⟩
  go_wp2_with fail
  rw [rounds_succ]
  go_wp2
  refine wp_region_text (by kernel_rfl) (by kernel_rfl) ?_
  go_wp2_with fail
  refine (h3.out _).mono ?_
  rintro e w1 ⟨rfl, rfl⟩
  go_wp2_with fail
  refine ⟨rfl, ?_⟩
  go_wp2_with fail
  rw [rounds_succ]
  go_wp2
  go_returns
  refine ⟨by simp, ?_⟩
  go_grown

end Go.Proofs.YtiofonffmplfmaaGreat

namespace Go.Proofs.YtiofonffmplfmaaGreat
open Go.RowKit

theorem round_any (odd : Bool) (s : St) (h : s.ok) (w : World) :
    Calls Tryz.prog 127 #[.agg (stA s), .bool odd] w fun e w' => e = .returned (.agg (stA (roundN odd s))) ∧ Below w.heap.size w w' := by
  obtain ⟨h0, h1, h2, h3, h4, h5, h6, h7, h8, h9, h10, h11, h12, h13, h14, h15⟩ := h
  cases odd
  · exact roundEven_core s.x0 s.x1 s.x2 s.x3 s.x4 s.x5 s.x6 s.x7 s.x8 s.x9 s.x10 s.x11 s.x12 s.x13 s.x14 s.x15 (quarterN ⟨s.x0, s.x4, s.x8, s.x12⟩).a (quarterN ⟨s.x1, s.x5, s.x9, s.x13⟩).a (quarterN ⟨s.x2, s.x6, s.x10, s.x14⟩).a (quarterN ⟨s.x3, s.x7, s.x11, s.x15⟩).a (quarterN ⟨s.x0, s.x4, s.x8, s.x12⟩).b (quarterN ⟨s.x1, s.x5, s.x9, s.x13⟩).b (quarterN ⟨s.x2, s.x6, s.x10, s.x14⟩).b (quarterN ⟨s.x3, s.x7, s.x11, s.x15⟩).b (quarterN ⟨s.x0, s.x4, s.x8, s.x12⟩).c (quarterN ⟨s.x1, s.x5, s.x9, s.x13⟩).c (quarterN ⟨s.x2, s.x6, s.x10, s.x14⟩).c (quarterN ⟨s.x3, s.x7, s.x11, s.x15⟩).c (quarterN ⟨s.x0, s.x4, s.x8, s.x12⟩).d (quarterN ⟨s.x1, s.x5, s.x9, s.x13⟩).d (quarterN ⟨s.x2, s.x6, s.x10, s.x14⟩).d (quarterN ⟨s.x3, s.x7, s.x11, s.x15⟩).d (fun w => quarter_any _ _ _ _ h0 h4 h8 h12 _ rfl w) (fun w => quarter_any _ _ _ _ h1 h5 h9 h13 _ rfl w) (fun w => quarter_any _ _ _ _ h2 h6 h10 h14 _ rfl w) (fun w => quarter_any _ _ _ _ h3 h7 h11 h15 _ rfl w) w
  · exact roundOdd_core s.x0 s.x1 s.x2 s.x3 s.x4 s.x5 s.x6 s.x7 s.x8 s.x9 s.x10 s.x11 s.x12 s.x13 s.x14 s.x15 (quarterN ⟨s.x0, s.x5, s.x10, s.x15⟩).a (quarterN ⟨s.x1, s.x6, s.x11, s.x12⟩).a (quarterN ⟨s.x2, s.x7, s.x8, s.x13⟩).a (quarterN ⟨s.x3, s.x4, s.x9, s.x14⟩).a (quarterN ⟨s.x3, s.x4, s.x9, s.x14⟩).b (quarterN ⟨s.x0, s.x5, s.x10, s.x15⟩).b (quarterN ⟨s.x1, s.x6, s.x11, s.x12⟩).b (quarterN ⟨s.x2, s.x7, s.x8, s.x13⟩).b (quarterN ⟨s.x2, s.x7, s.x8, s.x13⟩).c (quarterN ⟨s.x3, s.x4, s.x9, s.x14⟩).c (quarterN ⟨s.x0, s.x5, s.x10, s.x15⟩).c (quarterN ⟨s.x1, s.x6, s.x11, s.x12⟩).c (quarterN ⟨s.x1, s.x6, s.x11, s.x12⟩).d (quarterN ⟨s.x2, s.x7, s.x8, s.x13⟩).d (quarterN ⟨s.x3, s.x4, s.x9, s.x14⟩).d (quarterN ⟨s.x0, s.x5, s.x10, s.x15⟩).d (fun w => quarter_any _ _ _ _ h0 h5 h10 h15 _ rfl w) (fun w => quarter_any _ _ _ _ h1 h6 h11 h12 _ rfl w) (fun w => quarter_any _ _ _ _ h2 h7 h8 h13 _ rfl w) (fun w => quarter_any _ _ _ _ h3 h4 h9 h14 _ rfl w) w
theorem sizeState {s : St} : (Tryz.prog.info? 245).map (·.size) = some (stA s).size := by
  show _ = some 16
  kernel_rfl

theorem isOdd_any (k : Nat) (w : World) :
    Calls Tryz.prog 126 #[.int .i64 (k : Int)] w fun e w' => e = .returned (.bool (decide (k % 2 = 1))) ∧ w' = w := by
  have H : Hid (decide ((k : Int).tmod 2 = 1) = decide (k % 2 = 1)) := by
    show decide ((k : Int).tmod 2 = 1) = decide (k % 2 = 1)
    rw [Int.tmod_eq_emod_of_nonneg (by omega)]
    exact decide_eq_decide.2 (by omega)
  go_enter Tryz.func126, Tryz.ntmps126
  go_wp2
  go_ret
  exact ⟨by rw [← H.out]; rfl, rfl⟩

end Go.Proofs.YtiofonffmplfmaaGreat

namespace Go.Proofs.YtiofonffmplfmaaGreat
open Go.RowKit
attribute [local go_sem ↓] Go.wp_at_zero Go.wp_at_succ

set_option maxHeartbeats 4000000 in
theorem forth_any (s : St) (h : s.ok) (n : Nat) (hn : n ≤ 64) (w : World) :
    Calls Tryz.prog 124 #[.agg (stA s), .int .i64 (n : Int)] w fun e w' => e = .returned (.agg (stA (fwd s n))) ∧ Below w.heap.size w w' := by
  go_enter Tryz.func124, Tryz.ntmps124
  go_wp2_with fail
  go_loopw [7] (fun i wr => ∃ k : Nat, k ≤ n ∧ i = .int .i64 k ∧ Blk wr w.heap.size 245 (stA (fwd s k)) ∧ Blk wr (w.heap.size + 1) 245 (stA St.zero) ∧ Below w.heap.size w wr) (fun i _ => n - (intOf i).toNat)
  case atStart =>
    refine ⟨0, by omega, rfl, (Blk.new w 245 _).alloc _, ?_, ((Below.refl _ _).alloc (Nat.le_refl _) _).alloc (by simp) _⟩
    have e : (w.alloc (.cells (stA s) 245)).heap.size = w.heap.size + 1 := by simp
    rw [← e]
    exact Blk.new (w.alloc (.cells (stA s) 245)) 245 (stA St.zero)
  case round =>
    obtain ⟨k, hk, rfl, hg, hz, hbel⟩ := hrel
    by_cases hlt : k < n
    · have hR : Hid (∀ w : World, Calls Tryz.prog 127 #[.agg #[.int .u32 ((fwd s k).x0 : Int), .int .u32 ((fwd s k).x1 : Int), .int .u32 ((fwd s k).x2 : Int), .int .u32 ((fwd s k).x3 : Int), .int .u32 ((fwd s k).x4 : Int), .int .u32 ((fwd s k).x5 : Int), .int .u32 ((fwd s k).x6 : Int), .int .u32 ((fwd s k).x7 : Int), .int .u32 ((fwd s k).x8 : Int), .int .u32 ((fwd s k).x9 : Int), .int .u32 ((fwd s k).x10 : Int), .int .u32 ((fwd s k).x11 : Int), .int .u32 ((fwd s k).x12 : Int), .int .u32 ((fwd s k).x13 : Int), .int .u32 ((fwd s k).x14 : Int), .int .u32 ((fwd s k).x15 : Int)], .bool (decide (k % 2 = 1))] w fun e w' => e = .returned (.agg #[.int .u32 ((fwd s (k + 1)).x0 : Int), .int .u32 ((fwd s (k + 1)).x1 : Int), .int .u32 ((fwd s (k + 1)).x2 : Int), .int .u32 ((fwd s (k + 1)).x3 : Int), .int .u32 ((fwd s (k + 1)).x4 : Int), .int .u32 ((fwd s (k + 1)).x5 : Int), .int .u32 ((fwd s (k + 1)).x6 : Int), .int .u32 ((fwd s (k + 1)).x7 : Int), .int .u32 ((fwd s (k + 1)).x8 : Int), .int .u32 ((fwd s (k + 1)).x9 : Int), .int .u32 ((fwd s (k + 1)).x10 : Int), .int .u32 ((fwd s (k + 1)).x11 : Int), .int .u32 ((fwd s (k + 1)).x12 : Int), .int .u32 ((fwd s (k + 1)).x13 : Int), .int .u32 ((fwd s (k + 1)).x14 : Int), .int .u32 ((fwd s (k + 1)).x15 : Int)]) ∧ Below w.heap.size w w') := fun w => round_any _ _ (fwd_ok s h k) w
      have hO : Hid (∀ (z : Int) (w : World), z = (k : Int) → Calls Tryz.prog 126 #[.int .i64 z] w fun e w' => e = .returned (.bool (decide (k % 2 = 1))) ∧ w' = w) := fun z w hz => by rw [hz]; exact isOdd_any _ w
      have HG : Hid (Blk wr w.heap.size 245 (stA (fwd s k))) := hg
      have HZ : Hid (Blk wr (w.heap.size + 1) 245 (stA St.zero)) := hz
      have HL := hz.lt
      have HB : Hid (Below w.heap.size w wr) := hbel
      obtain ⟨_, _, _, _, _, _, _, _, _, _, _, _, _, _, _, _⟩ := hg.cells
      clear hg hz hbel
      generalize HY : fwd s (k + 1) = y at *
      generalize fwd s k = x at *
      generalize decide (k % 2 = 1) = b at *
      have HY' : Hid (fwd s (k + 1) = y) := HY
      clear HY
      go_wp2_with fail
      go_region_with (first
        | (go_at_call 126; refine (hO.out _ _ rfl).mono ?_; rintro e w2 ⟨rfl, rfl⟩)
        | (go_at_call 127; refine (hR.out _).mono ?_; rintro e w2 ⟨rfl, hb⟩; obtain ⟨_, _, _, _, _, _, _, _, _, _, _, _, _, _, _, _⟩ := (HG.out.drew.below hb (by simp; omega)).cells; obtain ⟨_, _, _, _, _, _, _, _, _, _, _, _, _, _, _, _⟩ := (HG.out.drew.below hb (by simp; omega)).frees))
      all_goals
        have hg2 := HG.out.drew.below hb (by simp; omega)
        have hz2 := HZ.out.drew.below hb (by simp; omega)
        have hb2 : Below w.heap.size w w2 := HB.out.drew.trans (hb.mono (by simp; omega))
        go_wp2_with fail
        go_roundw
        case rel =>
          refine ⟨k + 1, by omega, by go_num, ?_, ?_, ?_⟩
          · rw [HY'.out]; exact blk_put16 hg2 y
          · exact blk_put16_other hz2 y (by omega)
          · exact below_put16 hb2 (Nat.le_refl _) y
        case measure => simp [intOf]; omega
    · have : k = n := by omega
      subst this
      have hz2 := blk_put16 hz (fwd s k)
      have hb2 := below_put16 hbel (Nat.le_succ _) (fwd s k)
      have HB : Hid (Below w.heap.size w (put16 wr (w.heap.size + 1) (fwd s k))) := hb2
      have HZ : Hid (Blk (put16 wr (w.heap.size + 1) (fwd s k)) (w.heap.size + 1) 245 (stA (fwd s k))) := hz2
      generalize HX : fwd s k = x at *
      have HX' : Hid (fwd s k = x) := HX
      clear HX
      obtain ⟨_, _, _, _, _, _, _, _, _, _, _, _, _, _, _, _⟩ := hg.cells
      obtain ⟨_, _, _, _, _, _, _, _, _, _, _, _, _, _, _, _⟩ := hz.cells
      obtain ⟨_, _, _, _, _, _, _, _, _, _, _, _, _, _, _, _⟩ := hz.frees
      clear hg hz hz2 hbel hb2
      go_wp2_with fail
      try simp only [Exit.inBlock, Exit.then]
      refine bodyPost_ret (results_cell_row Tryz.results124 _ _ (w.heap.size + 1) 245 (stA x) (0, 0) _ rfl HZ.out Tryz.underlying245 rfl sizeState) rfl ?_
      exact ⟨by rw [HX'.out], HB.out⟩

end Go.Proofs.YtiofonffmplfmaaGreat

namespace Go.Proofs.YtiofonffmplfmaaGreat
open Go.RowKit

/-- a result that lies in a block, and one in a slot -/
theorem results_pair {P : Program} {fn : Func} {p q : Tmp} {ty : TypeId} (h : fn.results = #[.cell p ty, .tmp q]) (tmps : Array Value) (w : World) (g : Nat) (t : TypeId) (cs : Array Value) (fr : Nat × Nat) (d : TypeDesc)
    (hp : tmps.getD p undef = .pointer (some ⟨g, 0, none⟩)) (hg : w.heap[g]? = some (.cells cs t fr))
    (hu : P.underlying ty = some d) (hd : (match d with | .struct _ | .array _ _ => true | _ => false) = true) (hi : (P.info? ty).map (·.size) = some cs.size) :
    (results fn tmps).run P w = .ok (.tuple #[.agg cs, tmps.getD q undef]) w := by
  have hp' : tmps[p]?.getD undef = .pointer (some ⟨g, 0, none⟩) := by simpa using hp
  simp [results, h, hp', asAddr, run_loadVar_row w g t ty cs fr d hg hu hd hi]

set_option maxHeartbeats 2000000 in
theorem rounds_pos (s : St) (h : s.ok) (n : Nat) (hn : n ≤ 64) (w : World) :
    Calls Tryz.prog 121 #[.agg (stA s), .int .i64 (n : Int)] w fun e w' => e = .returned (.tuple #[.agg (stA (fwd s n)), .int .i64 0]) ∧ Below w.heap.size w w' := by
  have hR : Hid (∀ w : World, Calls Tryz.prog 124 #[.agg #[.int .u32 ((s).x0 : Int), .int .u32 ((s).x1 : Int), .int .u32 ((s).x2 : Int), .int .u32 ((s).x3 : Int), .int .u32 ((s).x4 : Int), .int .u32 ((s).x5 : Int), .int .u32 ((s).x6 : Int), .int .u32 ((s).x7 : Int), .int .u32 ((s).x8 : Int), .int .u32 ((s).x9 : Int), .int .u32 ((s).x10 : Int), .int .u32 ((s).x11 : Int), .int .u32 ((s).x12 : Int), .int .u32 ((s).x13 : Int), .int .u32 ((s).x14 : Int), .int .u32 ((s).x15 : Int)], .int .i64 (n : Int)] w fun e w' => e = .returned (.agg #[.int .u32 ((fwd s n).x0 : Int), .int .u32 ((fwd s n).x1 : Int), .int .u32 ((fwd s n).x2 : Int), .int .u32 ((fwd s n).x3 : Int), .int .u32 ((fwd s n).x4 : Int), .int .u32 ((fwd s n).x5 : Int), .int .u32 ((fwd s n).x6 : Int), .int .u32 ((fwd s n).x7 : Int), .int .u32 ((fwd s n).x8 : Int), .int .u32 ((fwd s n).x9 : Int), .int .u32 ((fwd s n).x10 : Int), .int .u32 ((fwd s n).x11 : Int), .int .u32 ((fwd s n).x12 : Int), .int .u32 ((fwd s n).x13 : Int), .int .u32 ((fwd s n).x14 : Int), .int .u32 ((fwd s n).x15 : Int)]) ∧ Below w.heap.size w w') := fun w => forth_any s h n hn w
  generalize HY : fwd s n = y at *
  have HY' : Hid (fwd s n = y) := HY
  clear HY
  show Calls Tryz.prog 121 #[.agg #[.int .u32 ((s).x0 : Int), .int .u32 ((s).x1 : Int), .int .u32 ((s).x2 : Int), .int .u32 ((s).x3 : Int), .int .u32 ((s).x4 : Int), .int .u32 ((s).x5 : Int), .int .u32 ((s).x6 : Int), .int .u32 ((s).x7 : Int), .int .u32 ((s).x8 : Int), .int .u32 ((s).x9 : Int), .int .u32 ((s).x10 : Int), .int .u32 ((s).x11 : Int), .int .u32 ((s).x12 : Int), .int .u32 ((s).x13 : Int), .int .u32 ((s).x14 : Int), .int .u32 ((s).x15 : Int)], .int .i64 (n : Int)] w _
  go_enter Tryz.func121, Tryz.ntmps121
  go_wp2_with fail
  refine (hR.out _).mono ?_
  rintro e w2 ⟨rfl, hb⟩
  have hz : Blk w2 (w.heap.size + 1) 245 (stA St.zero) := by
    refine Blk.below (w := (w.alloc (.cells (stA s) 245)).alloc (.cells (stA St.zero) 245)) ?_ hb (by simp)
    have e : (w.alloc (.cells (stA s) 245)).heap.size = w.heap.size + 1 := by simp
    rw [← e]
    exact Blk.new (w.alloc (.cells (stA s) 245)) 245 (stA St.zero)
  have hb2 : Below w.heap.size w w2 := (((Below.refl _ _).alloc (Nat.le_refl _) _).alloc (by simp) _).trans (hb.mono (by simp; omega))
  have HZ : Hid (Blk (put16 w2 (w.heap.size + 1) y) (w.heap.size + 1) 245 (stA y)) := blk_put16 hz y
  have HB : Hid (Below w.heap.size w (put16 w2 (w.heap.size + 1) y)) := below_put16 hb2 (Nat.le_succ _) y
  obtain ⟨_, _, _, _, _, _, _, _, _, _, _, _, _, _, _, _⟩ := hz.cells
  obtain ⟨_, _, _, _, _, _, _, _, _, _, _, _, _, _, _, _⟩ := hz.frees
  clear hz hb2 hb
  go_wp2_with fail
  try simp only [Exit.inBlock, Exit.then]
  refine bodyPost_ret (results_pair Tryz.results121 _ _ (w.heap.size + 1) 245 (stA y) (0, 0) _ rfl HZ.out Tryz.underlying245 rfl sizeState) rfl ?_
  exact ⟨rfl, HB.out⟩

end Go.Proofs.YtiofonffmplfmaaGreat

namespace Go.Proofs.YtiofonffmplfmaaGreat
open Go.RowKit
set_option linter.unusedSimpArgs false
set_option linter.unusedVariables false

theorem sizeU8 : (Tryz.prog.info? 5).map (·.size) = some 1 := by kernel_rfl
theorem sizePiece : (Tryz.prog.info? 239).map (·.size) = some 32 := by kernel_rfl
theorem stAll (s : St) : (stA s).all (·.oneCell') = true := Array.all_eq_true_iff_forall_mem.2 (fun v hv => stA_one s v (by simpa using hv))
/-- the state, filled up to place k -/
def sideK (c p : Nat → Nat) (k : Nat) : Nat → Nat := fun j => if j < 8 then (if j < k then c j else 0) else if j - 8 < k then le4f p (4 * (j - 8)) else 0
theorem sideK_zero (c p : Nat → Nat) : sideK c p 0 = fun _ => 0 := by
  funext j
  unfold sideK
  simp
theorem sideK_all (c p : Nat → Nat) : va 16 (iv .u32 (sideK c p 8)) = va 16 (iv .u32 (sideN c p)) := va_congr fun j hj => by
  show Value.int .u32 ((sideK c p 8 j : Nat) : Int) = Value.int .u32 ((sideN c p j : Nat) : Int)
  have : sideK c p 8 j = sideN c p j := by
    unfold sideK sideN
    by_cases h : j < 8
    · simp [h]
    · rw [if_neg h, if_neg h, if_pos (by omega)]
  rw [this]
theorem sideK_step (c p : Nat → Nat) (k : Nat) (hk : k < 8) :
    va 16 (upd (upd (iv .u32 (sideK c p k)) k (.int .u32 (c k : Int))) (k + 8) (.int .u32 (le4f p (4 * k) : Int))) = va 16 (iv .u32 (sideK c p (k + 1))) := by
  rw [upd_iv, upd_iv]
  congr 2
  funext j
  unfold updN sideK
  by_cases h : j = k + 8
  · subst h
    rw [if_pos rfl, if_neg (by omega), if_pos (by omega)]
    simp
  · rw [if_neg h]
    by_cases h2 : j = k
    · subst h2
      simp [hk]
    · rw [if_neg h2]
      by_cases h3 : j < 8
      · simp only [h3, if_true]
        by_cases h4 : j < k
        · rw [if_pos h4, if_pos (by omega)]
        · rw [if_neg h4, if_neg (by omega)]
      · simp only [h3, if_false]
        by_cases h4 : j - 8 < k
        · rw [if_pos h4, if_pos (by omega)]
        · rw [if_neg h4, if_neg (by omega)]

theorem press_val (c p : Nat → Nat) (hc : okC c) (hp : okP p) (k : Nat) (hk : k < 8) :
    bits .xor .u32 ((c k : Nat) : Int) (bits .xor .u32 (((mixedN c p).at k : Nat) : Int) (((mixedN c p).at (k + 8) : Nat) : Int)) = ((pressN c p k : Nat) : Int) := by
  have h1 := (mixedN c p).at_lt (mixed_ok hc hp) k
  have h2 := (mixedN c p).at_lt (mixed_ok hc hp) (k + 8)
  rw [u32_xor_nat _ _ h1 h2, u32_xor_nat _ _ (hc k hk) (xlt32 h1 h2)]
  rfl

set_option maxHeartbeats 4000000 in
theorem press_any (c p : Nat → Nat) (hc : okC c) (hp : okP p) (w : World) :
    Calls Tryz.prog 118 #[.agg (va 8 (iv .u32 c)), .agg (va 32 (iv .u8 p))] w fun e w' => e = .returned (.agg (va 8 (iv .u32 (pressN c p)))) ∧ Below w.heap.size w w' := by
  go_enter Tryz.func118, Tryz.ntmps118
  go_wp2_with fail
  go_loopw [11] (fun i wr => ∃ k : Nat, k ≤ 8 ∧ i = .int .i64 k ∧ Blk wr w.heap.size 237 (va 8 (iv .u32 c)) ∧ Blk wr (w.heap.size + 1) 239 (va 32 (iv .u8 p)) ∧ Blk wr (w.heap.size + 2) 237 (va 8 (iv .u32 fun _ => 0)) ∧ Blk wr (w.heap.size + 3) 245 (va 16 (iv .u32 (sideK c p k))) ∧ Below w.heap.size w wr) (fun i _ => 8 - (intOf i).toNat)
  case atStart =>
    refine ⟨0, by omega, rfl, ?_, ?_, ?_, ?_, ?_⟩
    · exact (((Blk.new w _ _).alloc _).alloc _).alloc _
    · have e : (w.alloc (.cells (va 8 (iv .u32 c)) 237)).heap.size = w.heap.size + 1 := by simp
      rw [← e]
      exact ((Blk.new _ _ _).alloc _).alloc _
    · have e : ((w.alloc (.cells (va 8 (iv .u32 c)) 237)).alloc (.cells (va 32 (iv .u8 p)) 239)).heap.size = w.heap.size + 2 := by simp
      rw [← e]
      exact (Blk.new _ _ (va 8 (iv .u32 fun _ => 0))).alloc _
    · have e : (((w.alloc (.cells (va 8 (iv .u32 c)) 237)).alloc (.cells (va 32 (iv .u8 p)) 239)).alloc (.cells (va 8 (iv .u32 fun _ => 0)) 237)).heap.size = w.heap.size + 3 := by simp
      rw [← e, sideK_zero]
      exact Blk.new _ _ (va 16 (iv .u32 fun _ => 0))
    · exact ((((Below.refl _ _).alloc (Nat.le_refl _) _).alloc (by simp) _).alloc (by simp; omega) _).alloc (by simp; omega) _
  case round =>
    obtain ⟨k, hk, rfl, h0, h1, h2, h3, hb⟩ := hrel
    by_cases hlt : k < 8
    · have i0 : (0 : Int) ≤ (k : Int) := by omega
      have i1 : (k : Int) < 8 := by omega
      have i2 : decide ((k : Int) < 8) = true := decide_eq_true i1
      have h3l := h3.lt
      obtain ⟨q, hq⟩ : ∃ q : Nat, q = 4 * k := ⟨_, rfl⟩
      have hq1 : q ≤ 28 := by omega
      have wk : IntKind.i64.wrap ((k : Int) * 4) = (q : Int) := by
        rw [IntKind.wrap_i64, hq]
        omega
      have q0 : (0 : Int) ≤ (q : Int) := by omega
      have q1 : (q : Int) ≤ 32 := by omega
      have q2 : ¬ 32 = q := by omega
      have HQ : Hid (q = 4 * k) := hq
      clear hq
      obtain ⟨cs, hcs⟩ : ∃ cs : List Value, cs = (List.range 4).map fun j => Value.int .u8 ((p (q + j) : Nat) : Int) := ⟨_, rfl⟩
      have s1 : Hid (cs.length = Nat.min (32 - q) 4) := by
        show _ = _
        rw [hcs, show Nat.min (32 - q) 4 = 4 from Nat.min_eq_right (by omega)]
        simp
      have hr := h1.range q 4 (by omega)
      have s2 : Hid (∀ j v, cs[j]? = some v → (wr.alloc (.cells #[.int .u8 0, .int .u8 0, .int .u8 0, .int .u8 0] 166)).drew.cell? ((⟨w.heap.size + 1, q, none⟩ : Addr).add j) = some v) := fun j v hv => by
        rw [Addr.add_mid]
        have := hr j v (by rw [← hv, hcs]; rfl)
        rw [h1.cell] at this
        rw [((h1.alloc _).drew).cell]
        exact this
      have s3 : Hid (∀ v ∈ cs, v.oneCell' = true) := fun v hv => by
        rw [hcs] at hv
        obtain ⟨j, _, rfl⟩ := List.mem_map.1 hv
        rfl
      have s4 : Hid (splice [Value.int .u8 0, .int .u8 0, .int .u8 0, .int .u8 0] 0 cs = (List.range 4).map fun j => Value.int .u8 ((p (q + j) : Nat) : Int)) := by
        show _ = _
        rw [hcs]
        rfl
      have s5 : Hid (0 + cs.length ≤ [Value.int .u8 0, .int .u8 0, .int .u8 0, .int .u8 0].length) := by
        show _ ≤ _
        rw [hcs]
        simp
      have s6 : Hid ((wr.alloc (.cells #[.int .u8 0, .int .u8 0, .int .u8 0, .int .u8 0] 166)).drew.heap[wr.heap.size]? = some (.cells [Value.int .u8 0, .int .u8 0, .int .u8 0, .int .u8 0].toArray 166 (0, 0))) := Blk.new wr 166 #[.int .u8 0, .int .u8 0, .int .u8 0, .int .u8 0]
      have s7 : Hid (Below wr.heap.size wr (wr.alloc (.cells #[.int .u8 0, .int .u8 0, .int .u8 0, .int .u8 0] 166)).drew) := ((Below.refl _ _).alloc (Nat.le_refl _) _).drew
      clear hcs hr
      go_wp2_with fail
      go_region_law (refine step_copy_splice rfl (.tmp 14) (.tmp 17) 165 165 rfl 5 Tryz.underlying165 sizeU8 (some ⟨wr.heap.size, 0, none⟩) (some ⟨w.heap.size + 1, q, none⟩) 4 4 (32 - q) (32 - q) (by simp [Act.eval, Act.put]) (by simp [Act.eval, Act.put]) wr.heap.size 0 [.int .u8 0, .int .u8 0, .int .u8 0, .int .u8 0] 166 s6.out cs s1.out (fun _ => ⟨rfl, _, rfl, s2.out⟩) s5.out s3.out wr.heap.size wr s7.out (Nat.le_refl _) ?_; intro w4 hg4 hb4)
      have b0 : Blk w4 wr.heap.size 166 (va 4 (iv .u8 fun j => p (q + j))) := by
        have := hg4.out
        rw [s4.out] at this
        exact this
      have k0 := h0.below hb4 h0.lt
      have k1 := h1.below hb4 h1.lt
      have k2 := h2.below hb4 h2.lt
      have k3 := h3.below hb4 h3.lt
      have kb : Below w.heap.size w w4 := hb.trans (hb4.mono hb.size)
      have hz : wr.heap.size < w4.heap.size := b0.lt
      clear s1 s2 s3 s4 s5 s6 s7 hg4 hb4 h0 h1 h2 h3 hb
      generalize wr.heap.size = N at *
      have hO : Hid (∀ w : World, Calls Tryz.prog 83 #[.agg #[.int .u8 ((p q : Nat) : Int), .int .u8 ((p (q + 1) : Nat) : Int), .int .u8 ((p (q + 2) : Nat) : Int), .int .u8 ((p (q + 3) : Nat) : Int)]] w fun e w' => e = .returned (.int .u32 (le4f p q : Int)) ∧ Below w.heap.size w w') :=
        fun w => of32_va p q (fun i hi => hp _ (by omega)) w
      have d0 : w4.cell? ⟨N, 0, none⟩ = some (.int .u8 ((p q : Nat) : Int)) := b0.cv (by decide)
      have d1 : w4.cell? ⟨N, 1, none⟩ = some (.int .u8 ((p (q + 1) : Nat) : Int)) := b0.cv (by decide)
      have d2 : w4.cell? ⟨N, 2, none⟩ = some (.int .u8 ((p (q + 2) : Nat) : Int)) := b0.cv (by decide)
      have d3 : w4.cell? ⟨N, 3, none⟩ = some (.int .u8 ((p (q + 3) : Nat) : Int)) := b0.cv (by decide)
      have HL : Hid (le4f p q = le4f p (4 * k)) := by show _ = _; rw [HQ.out]
      generalize p q = a0 at *
      generalize p (q + 1) = a1 at *
      generalize p (q + 2) = a2 at *
      generalize p (q + 3) = a3 at *
      generalize le4f p q = lv at *
      have ck : w4.cell? ⟨w.heap.size, k, none⟩ = some (.int .u32 ((c k : Nat) : Int)) := k0.cv hlt
      have HC : Hid (c k = c k) := rfl
      have k8 : IntKind.i64.wrap ((k : Int) + 8) = ((k + 8 : Nat) : Int) := by rw [IntKind.wrap_i64]; omega
      clear b0 wk q0 q1 q2 hq1
      go_wp2_with fail
      go_region_with (go_at_call 83; refine (hO.out _).mono ?_; rintro e w5 ⟨rfl, hb5⟩; have ck5 : w5.cell? ⟨w.heap.size, k, none⟩ = some (.int .u32 ((c k : Nat) : Int)) := (k0.drew.below hb5 k0.lt).cv hlt; have f1 := (k3.drew.below hb5 k3.lt).frozen k; have f2 := (k3.drew.below hb5 k3.lt).frozen (k + 8); have c1 : w5.cell? ⟨w.heap.size + 3, k, none⟩ = some (iv .u32 (sideK c p k) k) := (k3.drew.below hb5 k3.lt).cv (by omega); have c2 : w5.cell? ⟨w.heap.size + 3, k + 8, none⟩ = some (iv .u32 (sideK c p k) (k + 8)) := (k3.drew.below hb5 k3.lt).cv (by omega))
      all_goals
        (have j0 := k0.drew.below hb5 k0.lt
         have j1 := k1.drew.below hb5 k1.lt
         have j2 := k2.drew.below hb5 k2.lt
         have j3 := k3.drew.below hb5 k3.lt
         have jb : Below w.heap.size w w5 := kb.drew.trans (hb5.mono kb.size)
         have e2 : va 16 (upd (upd (iv .u32 (sideK c p k)) k (.int .u32 ((c k : Nat) : Int))) (k + 8) (.int .u32 (lv : Int))) = va 16 (iv .u32 (sideK c p (k + 1))) := by
           rw [HL.out]
           exact sideK_step c p k hlt
         have j4 := (j3.put k (.int .u32 ((c k : Nat) : Int))).put (k + 8) (.int .u32 (lv : Int))
         rw [va_set, va_set, e2] at j4
         have J : Hid (Blk ((w5.setCell ⟨w.heap.size + 3, k, none⟩ (.int .u32 ((c k : Nat) : Int))).setCell ⟨w.heap.size + 3, k + 8, none⟩ (.int .u32 (lv : Int))) w.heap.size 237 (va 8 (iv .u32 c)) ∧
             Blk ((w5.setCell ⟨w.heap.size + 3, k, none⟩ (.int .u32 ((c k : Nat) : Int))).setCell ⟨w.heap.size + 3, k + 8, none⟩ (.int .u32 (lv : Int))) (w.heap.size + 1) 239 (va 32 (iv .u8 p)) ∧
             Blk ((w5.setCell ⟨w.heap.size + 3, k, none⟩ (.int .u32 ((c k : Nat) : Int))).setCell ⟨w.heap.size + 3, k + 8, none⟩ (.int .u32 (lv : Int))) (w.heap.size + 2) 237 (va 8 (iv .u32 fun _ => 0)) ∧
             Blk ((w5.setCell ⟨w.heap.size + 3, k, none⟩ (.int .u32 ((c k : Nat) : Int))).setCell ⟨w.heap.size + 3, k + 8, none⟩ (.int .u32 (lv : Int))) (w.heap.size + 3) 245 (va 16 (iv .u32 (sideK c p (k + 1)))) ∧
             Below w.heap.size w ((w5.setCell ⟨w.heap.size + 3, k, none⟩ (.int .u32 ((c k : Nat) : Int))).setCell ⟨w.heap.size + 3, k + 8, none⟩ (.int .u32 (lv : Int)))) :=
           ⟨(j0.put_other _ _ (by omega)).put_other _ _ (by omega), (j1.put_other _ _ (by omega)).put_other _ _ (by omega), (j2.put_other _ _ (by omega)).put_other _ _ (by omega), j4, (jb.setCell (by simp) _).setCell (by simp) _⟩
         clear j0 j1 j2 j3 j4 jb e2 c1 c2 f1 f2 ck ck5 hb5 d0 d1 d2 d3 k0 k1 k2 k3 kb hO
         go_wp2_with fail
         go_roundw
         case rel => exact ⟨k + 1, by omega, by go_num, J.out.1, J.out.2.1, J.out.2.2.1, J.out.2.2.2.1, J.out.2.2.2.2⟩
         case measure => simp [intOf]; omega)
    · obtain rfl : k = 8 := by omega
      have hok : (St.of (sideN c p)).ok := St.of_ok _ (side_lt hc hp)
      have hR : Hid (∀ w : World, Calls Tryz.prog 121 #[.agg (stA (St.of (sideN c p))), .int .i64 6] w fun e w' => e = .returned (.tuple #[.agg (stA (mixedN c p)), .int .i64 0]) ∧ Below w.heap.size w w') := fun w => rounds_pos _ hok 6 (by decide) w
      rw [sideK_all, ← stA_of] at h3
      generalize St.of (sideN c p) = st at *
      have h3l := h3.lt
      clear h1
      go_wp2_with (first
        | (refine wpList_load_row (by rfl) 245 _ (by rfl) (w.heap.size + 3) (by rfl) 245 (stA st) (0, 0) _ h3 Tryz.underlying245 (by rfl) sizeState ?_; simp only [Act.put, List.setIfInBounds_toArray, List.set_cons_zero, List.set_cons_succ])
        | fail)
      refine (hR.out _).mono ?_
      rintro e w5 ⟨rfl, hb5⟩
      have k0 := h0.below hb5 h0.lt
      have k2 := h2.below hb5 h2.lt
      have kb : Below w.heap.size w w5 := hb.trans (hb5.mono hb.size)
      have h5l : w.heap.size + 3 < w5.heap.size := Nat.lt_of_lt_of_le h3l hb5.size
      clear h0 h2 h3 hb hb5 hR hok
      go_wp2_with (first
        | (refine wpList_store_row (by rfl) 245 _ _ (by rfl) w5.heap.size (stA (mixedN c p)) (by rfl) (by rfl) 245 (stA St.zero) (Blk.new w5 245 (stA St.zero)) sizeState rfl (stAll (mixedN c p)) ?_; simp only [Act.put, List.setIfInBounds_toArray, List.set_cons_zero, List.set_cons_succ])
        | fail)
      have t0 := (Blk.new w5 245 (stA St.zero)).set (stA (mixedN c p))
      have k0' := (k0.alloc (.cells (stA St.zero) 245)).other (stA (mixedN c p)) (g := w5.heap.size) (k := w.heap.size) (by omega)
      have k2' := (k2.alloc (.cells (stA St.zero) 245)).other (stA (mixedN c p)) (g := w5.heap.size) (k := w.heap.size + 2) (by omega)
      have kb' : Below w.heap.size w ((w5.alloc (.cells (stA St.zero) 245)).setRow w5.heap.size (stA (mixedN c p))) := below_setRow (kb.alloc (by omega) _) (by omega) _
      have HV : Hid (∀ k, k < 8 → bits .xor .u32 ((c k : Nat) : Int) (bits .xor .u32 (((mixedN c p).at k : Nat) : Int) (((mixedN c p).at (k + 8) : Nat) : Int)) = ((pressN c p k : Nat) : Int)) := press_val c p hc hp
      change Blk ((w5.alloc (.cells #[.int .u32 0, .int .u32 0, .int .u32 0, .int .u32 0, .int .u32 0, .int .u32 0, .int .u32 0, .int .u32 0, .int .u32 0, .int .u32 0, .int .u32 0, .int .u32 0, .int .u32 0, .int .u32 0, .int .u32 0, .int .u32 0] 245)).setRow w5.heap.size (stA (mixedN c p))) _ _ _ at t0 k0' k2'
      change Below w.heap.size w ((w5.alloc (.cells #[.int .u32 0, .int .u32 0, .int .u32 0, .int .u32 0, .int .u32 0, .int .u32 0, .int .u32 0, .int .u32 0, .int .u32 0, .int .u32 0, .int .u32 0, .int .u32 0, .int .u32 0, .int .u32 0, .int .u32 0, .int .u32 0] 245)).setRow w5.heap.size (stA (mixedN c p))) at kb'
      generalize (w5.alloc (.cells #[.int .u32 0, .int .u32 0, .int .u32 0, .int .u32 0, .int .u32 0, .int .u32 0, .int .u32 0, .int .u32 0, .int .u32 0, .int .u32 0, .int .u32 0, .int .u32 0, .int .u32 0, .int .u32 0, .int .u32 0, .int .u32 0] 245)).setRow w5.heap.size (stA (mixedN c p)) = w6 at *
      have h6l : w.heap.size + 3 < w5.heap.size := h5l
      clear k0 k2 kb h5l
      generalize w5.heap.size = N at *
      generalize mixedN c p = y at *
      generalize HG : pressN c p = g at *
      have HG' : Hid (pressN c p = g) := HG
      clear HG
      go_wp2_with fail
      go_loopw [35] (fun i wr => ∃ k : Nat, k ≤ 8 ∧ i = .int .i64 k ∧ Blk wr w.heap.size 237 (va 8 (iv .u32 (fupN k g c))) ∧ Blk wr (w.heap.size + 2) 237 (va 8 (iv .u32 fun _ => 0)) ∧ Blk wr N 245 (stA y) ∧ Below w.heap.size w wr) (fun i _ => 8 - (intOf i).toNat)
      case atStart =>
        refine ⟨0, by omega, rfl, ?_, k2', t0, kb'⟩
        rw [fup_zero]
        exact k0'
      case round =>
        clear k0' k2' t0 kb'
        obtain ⟨k, hk, rfl, h0, h2, hT, hb⟩ := hrel
        by_cases hlt : k < 8
        · have i0 : (0 : Int) ≤ (k : Int) := by omega
          have i1 : (k : Int) < 8 := by omega
          have i2 : decide ((k : Int) < 8) = true := decide_eq_true i1
          have i3 : (k : Int) < 16 := by omega
          have k8 : IntKind.i64.wrap ((k : Int) + 8) = ((k + 8 : Nat) : Int) := by rw [IntKind.wrap_i64]; omega
          have hv := HV.out k hlt
          have c0 : wr.cell? ⟨w.heap.size, k, none⟩ = some (.int .u32 ((c k : Nat) : Int)) := by
            rw [h0.cv hlt]
            show some (Value.int .u32 ((fupN k g c k : Nat) : Int)) = _
            rw [show fupN k g c k = c k from if_neg (by omega)]
          have c1 : wr.cell? ⟨N, k, none⟩ = some (.int .u32 ((y.at k : Nat) : Int)) := by rw [hT.cell, stA_at y k (by omega)]
          have c2 : wr.cell? ⟨N, k + 8, none⟩ = some (.int .u32 ((y.at (k + 8) : Nat) : Int)) := by rw [hT.cell, stA_at y (k + 8) (by omega)]
          have f0 := h0.frozen k
          have HV' : Hid (bits .xor .u32 ((c k : Nat) : Int) (bits .xor .u32 ((y.at k : Nat) : Int) ((y.at (k + 8) : Nat) : Int)) = ((g k : Nat) : Int)) := hv
          clear hv
          have j0 := h0.put k (.int .u32 ((g k : Nat) : Int))
          rw [va_set, fup_step] at j0
          generalize c k = ck at *
          generalize y.at k = yk at *
          generalize y.at (k + 8) = yk8 at *
          go_wp2_with fail
          go_region
          go_wp2_with fail
          go_roundw
          case rel =>
            refine ⟨k + 1, by omega, by go_num, ?_, (h2.put_other _ _ (by omega)).drew, (hT.put_other _ _ (by omega)).drew, (hb.setCell (by simp) _).drew⟩
            have := j0.drew
            rw [← HV'.out] at this
            exact this
          case measure => simp [intOf]; omega
        · obtain rfl : k = 8 := by omega
          rw [fup_all _ 8 8 _ _ (Nat.le_refl _)] at h0
          clear hT HV
          go_wp2_with (first
            | (refine wpList_load_row (by rfl) 237 _ (by rfl) w.heap.size (by rfl) 237 (va 8 (iv .u32 g)) (0, 0) _ h0 Tryz.underlying237 (by rfl) (sizeChain.trans (by rw [va_size])) ?_; simp only [Act.put, List.setIfInBounds_toArray, List.set_cons_zero, List.set_cons_succ])
            | (refine wpList_store_row (by rfl) 237 _ _ (by rfl) (w.heap.size + 2) (va 8 (iv .u32 g)) (by rfl) (by rfl) 237 _ h2 (sizeChain.trans (by rw [va_size])) (by rw [va_size, va_size]) (iv_one _ _ _) ?_; simp only [Act.put, List.setIfInBounds_toArray, List.set_cons_zero, List.set_cons_succ])
            | fail)
          try simp only [Exit.inBlock, Exit.then]
          refine bodyPost_ret (results_cell_row Tryz.results118 _ _ (w.heap.size + 2) 237 (va 8 (iv .u32 g)) (0, 0) _ rfl (h2.set _) Tryz.underlying237 rfl (sizeChain.trans (by rw [va_size]))) rfl ?_
          rw [HG'.out]
          exact ⟨rfl, below_setRow hb (by omega) _⟩
end Go.Proofs.YtiofonffmplfmaaGreat
