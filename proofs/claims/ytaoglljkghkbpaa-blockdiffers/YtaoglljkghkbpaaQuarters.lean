/- Contracts of a quarter and its undoing, in the program and in the document's answer: what each returns, and that the world stays; for every four words. -/
import Derived.Test.YtaoglljkghkbpaaTurnsMix
import Derived.Handy
namespace Go.Proofs.Ytaoglljkghkbpaa
open Go.RowKit

theorem turn_at (x y : Nat) (i : Int) (s : Nat) (hs : (i % 32).toNat = s) (w : World) (hx : x < 4294967296) (h : turnN x s = y) :
    Calls Try.prog 61 #[.int .u32 x, .int .i64 i] w fun e w' => e = .returned (.int .u32 y) ∧ w' = w := by
  subst hs; exact turn_to x y i hx h w
set_option maxHeartbeats 1000000 in
theorem quarter_core (a b c d a1 d1 c1 b1 a2 d2 c2 b2 x1 x2 x3 x4 : Nat)
    (r1 : ((a : Int) + (b : Int)) % 4294967296 = (a1 : Int)) (r2 : bits .xor .u32 (d : Int) (a1 : Int) = (x1 : Int))
    (r3 : ((c : Int) + (d1 : Int)) % 4294967296 = (c1 : Int)) (r4 : bits .xor .u32 (b : Int) (c1 : Int) = (x2 : Int))
    (r5 : ((a1 : Int) + (b1 : Int)) % 4294967296 = (a2 : Int)) (r6 : bits .xor .u32 (d1 : Int) (a2 : Int) = (x3 : Int))
    (r7 : ((c1 : Int) + (d2 : Int)) % 4294967296 = (c2 : Int)) (r8 : bits .xor .u32 (b1 : Int) (c2 : Int) = (x4 : Int))
    (t1 : Hid (∀ w : World, Calls Try.prog 61 #[.int .u32 (x1 : Int), .int .i64 16] w fun e w' => e = .returned (.int .u32 (d1 : Int)) ∧ w' = w))
    (t2 : Hid (∀ w : World, Calls Try.prog 61 #[.int .u32 (x2 : Int), .int .i64 12] w fun e w' => e = .returned (.int .u32 (b1 : Int)) ∧ w' = w))
    (t3 : Hid (∀ w : World, Calls Try.prog 61 #[.int .u32 (x3 : Int), .int .i64 8] w fun e w' => e = .returned (.int .u32 (d2 : Int)) ∧ w' = w))
    (t4 : Hid (∀ w : World, Calls Try.prog 61 #[.int .u32 (x4 : Int), .int .i64 7] w fun e w' => e = .returned (.int .u32 (b2 : Int)) ∧ w' = w)) (w : World) :
    Calls Try.prog 60 #[.int .u32 (a : Int), .int .u32 (b : Int), .int .u32 (c : Int), .int .u32 (d : Int)] w fun e w' => e = .returned (.tuple #[.int .u32 (a2 : Int), .int .u32 (b2 : Int), .int .u32 (c2 : Int), .int .u32 (d2 : Int)]) ∧ w' = w := by
  go_enter Try.func60, Try.ntmps60
  go_wp2_with fail
  refine (t1.out _).mono ?_
  rintro e w' ⟨rfl, rfl⟩
  go_wp2_with fail
  refine (t2.out _).mono ?_
  rintro e w' ⟨rfl, rfl⟩
  go_wp2_with fail
  refine (t3.out _).mono ?_
  rintro e w' ⟨rfl, rfl⟩
  go_wp2_with fail
  refine (t4.out _).mono ?_
  rintro e w' ⟨rfl, rfl⟩
  go_wp2
  go_returns
  exact ⟨rfl, rfl⟩
theorem quarter_any (a b c d : Nat) (ha : a < 4294967296) (hb : b < 4294967296) (hc : c < 4294967296) (hd : d < 4294967296) (q : Q4) (hq : quarterN ⟨a, b, c, d⟩ = q) (w : World) :
    Calls Try.prog 60 #[.int .u32 (a : Int), .int .u32 (b : Int), .int .u32 (c : Int), .int .u32 (d : Int)] w fun e w' => e = .returned (.tuple #[.int .u32 (q.a : Int), .int .u32 (q.b : Int), .int .u32 (q.c : Int), .int .u32 (q.d : Int)]) ∧ w' = w := by
  have o1 := half_ok ⟨a, b, c, d⟩ 16 12 ⟨ha, hb, hc, hd⟩
  have o2 := half_ok _ 8 7 o1
  subst hq
  show Calls _ _ _ _ fun e w' => e = .returned (.tuple #[.int .u32 ((half (half ⟨a, b, c, d⟩ 16 12) 8 7).a : Int), .int .u32 ((half (half ⟨a, b, c, d⟩ 16 12) 8 7).b : Int), .int .u32 ((half (half ⟨a, b, c, d⟩ 16 12) 8 7).c : Int), .int .u32 ((half (half ⟨a, b, c, d⟩ 16 12) 8 7).d : Int)]) ∧ _
  have e1 : half ⟨a, b, c, d⟩ 16 12 = ⟨add32 a b, turnN (b ^^^ add32 c (turnN (d ^^^ add32 a b) 16)) 12, add32 c (turnN (d ^^^ add32 a b) 16), turnN (d ^^^ add32 a b) 16⟩ := rfl
  generalize half ⟨a, b, c, d⟩ 16 12 = q at *
  obtain ⟨a1, b1, c1, d1⟩ := q
  simp only [Q4.mk.injEq] at e1
  obtain ⟨e1, e2, e3, e4⟩ := e1
  obtain ⟨ha1, hb1, hc1, hd1⟩ := o1
  obtain ⟨ha2, hb2, hc2, hd2⟩ := o2
  rw [← e1] at e2 e3 e4
  rw [← e4] at e2 e3
  rw [← e3] at e2
  simp only [half] at *
  refine quarter_core a b c d a1 d1 c1 b1 _ _ _ _ _ _ _ _ ?_ (u32_xor_nat _ _ hd ha1) ?_ (u32_xor_nat _ _ hb hc1) (add32_int _ _) (u32_xor_nat _ _ hd1 ha2) (add32_int _ _) (u32_xor_nat _ _ hb1 hc2) ?_ ?_ ?_ ?_ w
  · rw [add32_int, ← e1]
  · rw [add32_int, ← e3]
  · exact fun w => turn_at _ _ (16) 16 (by decide) w (xor_lt32 _ _ hd ha1) e4.symm
  · exact fun w => turn_at _ _ (12) 12 (by decide) w (xor_lt32 _ _ hb hc1) e2.symm
  · exact fun w => turn_at _ _ (8) 8 (by decide) w (xor_lt32 _ _ hd1 ha2) rfl
  · exact fun w => turn_at _ _ (7) 7 (by decide) w (xor_lt32 _ _ hb1 hc2) rfl

set_option maxHeartbeats 1000000 in
theorem undo_core (a b c d a1 d1 c1 b1 a2 d2 c2 b2 x1 x2 x3 x4 : Nat)
    (r2 : bits .xor .u32 (x1 : Int) (c : Int) = (b1 : Int)) (r3 : ((c : Int) - (d : Int)) % 4294967296 = (c1 : Int))
    (r4 : bits .xor .u32 (x2 : Int) (a : Int) = (d1 : Int)) (r1 : ((a : Int) - (b1 : Int)) % 4294967296 = (a1 : Int))
    (r6 : bits .xor .u32 (x3 : Int) (c1 : Int) = (b2 : Int)) (r7 : ((c1 : Int) - (d1 : Int)) % 4294967296 = (c2 : Int))
    (r8 : bits .xor .u32 (x4 : Int) (a1 : Int) = (d2 : Int)) (r5 : ((a1 : Int) - (b2 : Int)) % 4294967296 = (a2 : Int))
    (t1 : Hid (∀ w : World, Calls Try.prog 61 #[.int .u32 (b : Int), .int .i64 (-7)] w fun e w' => e = .returned (.int .u32 (x1 : Int)) ∧ w' = w))
    (t2 : Hid (∀ w : World, Calls Try.prog 61 #[.int .u32 (d : Int), .int .i64 (-8)] w fun e w' => e = .returned (.int .u32 (x2 : Int)) ∧ w' = w))
    (t3 : Hid (∀ w : World, Calls Try.prog 61 #[.int .u32 (b1 : Int), .int .i64 (-12)] w fun e w' => e = .returned (.int .u32 (x3 : Int)) ∧ w' = w))
    (t4 : Hid (∀ w : World, Calls Try.prog 61 #[.int .u32 (d1 : Int), .int .i64 (-16)] w fun e w' => e = .returned (.int .u32 (x4 : Int)) ∧ w' = w)) (w : World) :
    Calls Try.prog 59 #[.int .u32 (a : Int), .int .u32 (b : Int), .int .u32 (c : Int), .int .u32 (d : Int)] w fun e w' => e = .returned (.tuple #[.int .u32 (a2 : Int), .int .u32 (b2 : Int), .int .u32 (c2 : Int), .int .u32 (d2 : Int)]) ∧ w' = w := by
  go_enter Try.func59, Try.ntmps59
  go_wp2_with fail
  refine (t1.out _).mono ?_
  rintro e w' ⟨rfl, rfl⟩
  go_wp2_with fail
  refine (t2.out _).mono ?_
  rintro e w' ⟨rfl, rfl⟩
  go_wp2_with fail
  refine (t3.out _).mono ?_
  rintro e w' ⟨rfl, rfl⟩
  go_wp2_with fail
  refine (t4.out _).mono ?_
  rintro e w' ⟨rfl, rfl⟩
  go_wp2
  go_returns
  exact ⟨by rw [r5], rfl⟩
theorem undo_any (a b c d : Nat) (ha : a < 4294967296) (hb : b < 4294967296) (hc : c < 4294967296) (hd : d < 4294967296) (q : Q4) (hq : undoN ⟨a, b, c, d⟩ = q) (w : World) :
    Calls Try.prog 59 #[.int .u32 (a : Int), .int .u32 (b : Int), .int .u32 (c : Int), .int .u32 (d : Int)] w fun e w' => e = .returned (.tuple #[.int .u32 (q.a : Int), .int .u32 (q.b : Int), .int .u32 (q.c : Int), .int .u32 (q.d : Int)]) ∧ w' = w := by
  have o1 := unhalf_ok ⟨a, b, c, d⟩ 24 25 ⟨ha, hb, hc, hd⟩
  have o2 := unhalf_ok _ 16 20 o1
  subst hq
  show Calls _ _ _ _ fun e w' => e = .returned (.tuple #[.int .u32 ((unhalf (unhalf ⟨a, b, c, d⟩ 24 25) 16 20).a : Int), .int .u32 ((unhalf (unhalf ⟨a, b, c, d⟩ 24 25) 16 20).b : Int), .int .u32 ((unhalf (unhalf ⟨a, b, c, d⟩ 24 25) 16 20).c : Int), .int .u32 ((unhalf (unhalf ⟨a, b, c, d⟩ 24 25) 16 20).d : Int)]) ∧ _
  have e1 : unhalf ⟨a, b, c, d⟩ 24 25 = ⟨sub32 a (turnN b 25 ^^^ c), turnN b 25 ^^^ c, sub32 c d, turnN d 24 ^^^ a⟩ := rfl
  generalize unhalf ⟨a, b, c, d⟩ 24 25 = q at *
  obtain ⟨a1, b1, c1, d1⟩ := q
  simp only [Q4.mk.injEq] at e1
  obtain ⟨e1, e2, e3, e4⟩ := e1
  obtain ⟨ha1, hb1, hc1, hd1⟩ := o1
  obtain ⟨ha2, hb2, hc2, hd2⟩ := o2
  rw [← e2] at e1
  simp only [unhalf] at *
  refine undo_core a b c d a1 d1 c1 b1 _ _ _ _ (turnN b 25) (turnN d 24) (turnN b1 20) (turnN d1 16) ?_ ?_ ?_ ?_ (u32_xor_nat _ _ (turnN_lt _ _ hb1) hc1) (sub32_int _ _ hd1) (u32_xor_nat _ _ (turnN_lt _ _ hd1) ha1) (sub32_int _ _ hb2) ?_ ?_ ?_ ?_ w
  · rw [u32_xor_nat _ _ (turnN_lt _ _ hb) hc, ← e2]
  · rw [sub32_int _ _ hd, ← e3]
  · rw [u32_xor_nat _ _ (turnN_lt _ _ hd) ha, ← e4]
  · rw [sub32_int _ _ hb1, ← e1]
  · exact fun w => turn_at _ _ (-7) 25 (by decide) w hb rfl
  · exact fun w => turn_at _ _ (-8) 24 (by decide) w hd rfl
  · exact fun w => turn_at _ _ (-12) 20 (by decide) w hb1 rfl
  · exact fun w => turn_at _ _ (-16) 16 (by decide) w hd1 rfl

end Go.Proofs.Ytaoglljkghkbpaa
