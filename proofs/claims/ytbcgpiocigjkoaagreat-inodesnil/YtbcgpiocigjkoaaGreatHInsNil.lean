/- Inodes as they change: nil ones, and a nil take. -/
import Derived.Test.YtbcgpiocigjkoaaGreatHInsOpen
import Derived.Test.YtbcgpiocigjkoaaGreatHCaAll2
import Derived.Handy

namespace Go.Proofs.YtbcgpiocigjkoaaGreat
open Go Go.RowKit
set_option linter.unusedSimpArgs false
set_option linter.unusedVariables false
theorem rnew15_any (w : World) : Calls Tryz.prog 57 #[] w fun e w' => ∃ a b, e = .returned (.agg #[.map (some a), .map (some b)]) ∧ w.heap.size ≤ a ∧ w.heap.size ≤ b ∧ Below w.heap.size w w' := by
  have hmm := @run_makeMap Tryz.prog
  go_enter Tryz.func57, Tryz.ntmps57
  go_wp2_with fail
  refine bodyPost_ret (results_cell_row Tryz.results57 _ _ w.heap.size 71 #[.map (some (w.heap.size + 1)), .map (some (w.heap.size + 1 + 1))] (0, 0) _ rfl (((Blk.new _ _ _).alloc _).alloc _) Tryz.underlying71 rfl (by kernel_rfl)) rfl ?_
  exact ⟨_, _, rfl, by omega, by omega, (((Below.refl _ _).alloc (Nat.le_refl _) _).alloc (by simp) _).alloc (by simp; omega) _⟩
/-- a stand's cells -/
def stF (dp xp : Option Addr) (a b : Option Nat) (nx : Int) (room : Int) (lp : Option Addr) : Nat → Value := fun i => if i = 0 then .pointer dp else if i = 1 then .pointer xp else if i = 2 then .map a else if i = 3 then .map b else if i = 4 then .int .i64 nx else if i < 39 then trF 0 rf0 (i - 5) else if i = 39 then .int .i64 0 else if i = 40 then .slice none 0 0 else if i = 41 then .slice none 0 0 else if i = 42 then .int .i64 room else .pointer lp
def stC (dp xp : Option Addr) (a b : Option Nat) (nx : Int) (room : Int) (lp : Option Addr) : Array Value := va 44 (stF dp xp a b nx room lp)
theorem stC_size (dp xp : Option Addr) (a b : Option Nat) (nx : Int) (room : Int) (lp : Option Addr) : (stC dp xp a b nx room lp).size = 44 := va_size _ _
theorem stC_all (dp xp : Option Addr) (a b : Option Nat) (nx : Int) (room : Int) (lp : Option Addr) : (stC dp xp a b nx room lp).all (·.oneCell') = true := va_one fun i _ => by
  unfold stF
  split
  · rfl
  · split
    · rfl
    · split
      · rfl
      · split
        · rfl
        · split
          · rfl
          · split
            · unfold trF
              split
              · rfl
              · exact rfF_one _ _ _
            · split
              · rfl
              · split
                · rfl
                · split
                  · rfl
                  · split <;> rfl
theorem sizeSt : (Tryz.prog.info? 74).map (·.size) = some 44 := by kernel_rfl
theorem zero_st (w : World) : (zeroValue 74).run Tryz.prog w = .ok (.agg (stC none none none none 0 0 none)) w := zero_of (by kernel_rfl) w
theorem built_st (dp xp : Option Addr) (a b : Nat) (room : Int) (lp : Option Addr) : Tryz.prog.built 74 [(0, .pointer dp), (1, .pointer xp), (2, .agg #[.map (some a), .map (some b)]), (3, .int .i64 1), (5, .int .i64 room), (6, .pointer lp)] = some (stC dp xp (some a) (some b) 1 room lp) := by kernel_rfl
theorem st_c1 {w : World} {g : Nat} {dp xp : Option Addr} {a b : Option Nat} {nx room : Int} {lp : Option Addr} (H : Blk w g 74 (stC dp xp a b nx room lp)) : w.cell? ⟨g, 1, none⟩ = some (.pointer xp) := H.cv (n := 44) (by decide)
theorem wpList_build6s {P : Program} {ops : Array Oper} {rest : List Oper} {o : Oper} {a : Act} {w : World} {Q : Exit → Act → World → Prop} (hg : o.guard = none) (t : TypeId) (x0 x1 x2 x3 x5 x6 : Operand) (ho : o.op = .build t #[(0, x0), (1, x1), (2, x2), (3, x3), (5, x5), (6, x6)]) (v0 v1 v2 v3 v5 v6 : Value) (h0 : a.eval x0 = v0) (h1 : a.eval x1 = v1) (h2 : a.eval x2 = v2) (h3 : a.eval x3 = v3) (h5 : a.eval x5 = v5) (h6 : a.eval x6 = v6)
    (cells : Array Value) (hf : P.built t [(0, v0), (1, v1), (2, v2), (3, v3), (5, v5), (6, v6)] = some cells) (h : wpList P ops Q rest (a.put o.dst (.agg cells)) w) : wpList P ops Q (o :: rest) a w := by
  refine wpList_buildTo hg t _ ho o.dst rfl cells ?_ h
  have e : (Array.map (fun (x : Nat × Operand) => match x with | (i, x) => (i, a.eval x)) #[(0, x0), (1, x1), (2, x2), (3, x3), (5, x5), (6, x6)]).toList = [(0, v0), (1, v1), (2, v2), (3, v3), (5, v5), (6, v6)] := by simp [h0, h1, h2, h3, h5, h6]
  rw [e]
  exact hf
theorem may00 : mayOpen 0 rf0 0 := ⟨by decide, by decide, by simp, by decide⟩
/-- inodes on an empty disk: what they stand on does not matter here -/
def Begun (w w' : World) (x mf ml mc : Nat) : Prop := (w.heap.size ≤ x ∧ w.heap.size ≤ mf ∧ x ≠ mf) ∧ ∃ c, Blk w' x 113 (ixC (some ⟨c, 0, none⟩) 0 rf0 0 0 mf ml mc) ∧ MapIs pkV ftV w' mf []
set_option maxRecDepth 100000 in
set_option maxHeartbeats 4000000 in
theorem begun_0 (w : World) : Calls Tryz.prog 20 #[.int .i64 0, .pointer none] w fun e w' => ∃ d x a b mf ml mc, e = .returned (.tuple #[.agg (stC (some ⟨d, 0, none⟩) (some ⟨x, 0, none⟩) (some a) (some b) 1 0 none), .bool true]) ∧ Begun w w' x mf ml mc ∧ Below w.heap.size w w' := by
  have hz := zero_st
  have hbt := built_tr0
  have HN : Hid (∀ w : World, Calls Tryz.prog 5 #[.int .i64 6000] w fun e w' => ∃ g, e = .returned (.tuple #[.pointer (some ⟨g, 0, none⟩), .int .i64 0]) ∧ Below w.heap.size w w') := fun w => (diskNew_any 6000 (by decide) (by decide) w).mono fun e w' ⟨g, q, h1, _, _, h2⟩ => ⟨g, h1, h2⟩
  have HC : Hid (∀ (g : Nat) (w : World), Calls Tryz.prog 6 #[.pointer (some ⟨g, 0, none⟩), .pointer none, .int .i64 0] w fun e w' => ∃ c, e = .returned (.tuple #[.pointer (some ⟨c, 0, none⟩), .int .i64 0]) ∧ Below w.heap.size w w') := fun g w => (caNew_ok g none 0 (by decide) (by decide) w).mono fun e w' ⟨c, m, h1, _, _, _, h2⟩ => ⟨c, h1, h2⟩
  have HO : Hid (∀ (c : Nat) (w : World), Calls Tryz.prog 7 #[.pointer (some ⟨c, 0, none⟩), .agg (trC 0 rf0), .int .i64 0] w fun e w' => ∃ x mf ml mc, e = .returned (.tuple #[.pointer (some ⟨x, 0, none⟩), .int .i64 0]) ∧ (w.heap.size ≤ x ∧ w.heap.size ≤ mf ∧ x ≠ mf) ∧ Blk w' x 113 (ixC (some ⟨c, 0, none⟩) 0 rf0 0 0 mf ml mc) ∧ MapIs pkV ftV w' mf [] ∧ Below w.heap.size w w') := fun c w => (open_ok (by decide) okD_zero (by decide) may00 w).mono fun e w' ⟨x, mf, ml, mc, h1, h2, h3, h4, h5⟩ => ⟨x, mf, ml, mc, h1, ⟨h2.1, h2.2.1, h2.2.2.2.2⟩, h3, h4, h5⟩
  have HR := rnew15_any
  have hb1 : Below w.heap.size w (w.alloc (.cells (stC none none none none 0 0 none) 74)) := below_new1 _ _
  have r1 : Blk (w.alloc (.cells (stC none none none none 0 0 none) 74)) w.heap.size 74 (stC none none none none 0 0 none) := Blk.new _ _ _
  go_enter Tryz.func20, Tryz.ntmps20
  go_wp2_with fail
  generalize (w.alloc (.cells (stC none none none none 0 0 none) 74)) = w1 at *
  refine (HN.out _).mono ?_
  rintro e w2 ⟨d, rfl, hb2⟩
  have r2 := r1.below hb2 r1.lt
  have hb12 := hb1.trans (hb2.mono hb1.size)
  clear r1 hb1 hb2 HN
  go_wp2_with fail
  refine (HC.out _ _).mono ?_
  rintro e w3 ⟨c, rfl, hb3⟩
  have r3 := r2.below hb3 r2.lt
  have hb13 := hb12.trans (hb3.mono hb12.size)
  clear r2 hb12 hb3 HC
  go_wp2_with (first
    | (refine wpList_buildTo (by rfl) 28 #[] (by rfl) _ rfl (trC 0 rf0) (by exact hbt) ?_; simp only [Act.put, List.setIfInBounds_toArray, List.set_cons_zero, List.set_cons_succ])
    | fail)
  refine (HO.out _ _).mono ?_
  rintro e w4 ⟨x, mf, ml, mc, rfl, hbs, hx4, hm4, hb4⟩
  have r4 := r3.below hb4 r3.lt
  have hb14 := hb13.trans (hb4.mono hb13.size)
  have HX4 : Hid ((w.heap.size ≤ x ∧ w.heap.size ≤ mf ∧ x ≠ mf) ∧ Blk w4 x 113 (ixC (some ⟨c, 0, none⟩) 0 rf0 0 0 mf ml mc) ∧ MapIs pkV ftV w4 mf []) := ⟨⟨Nat.le_trans hb13.size hbs.1, Nat.le_trans hb13.size hbs.2.1, hbs.2.2⟩, hx4, hm4⟩
  have HWS : Hid (w.heap.size < w3.heap.size ∧ w3.heap.size ≤ x ∧ w3.heap.size ≤ mf) := ⟨r3.lt, hbs.1, hbs.2.1⟩
  clear r3 hb13 hb4 HO hx4 hm4 hbs hbt
  go_wp2_with fail
  refine (HR _).mono ?_
  rintro e w5 ⟨a, b, rfl, ha, hb, hb5⟩
  have r5 := r4.below hb5 r4.lt
  have hb15 := hb14.trans (hb5.mono hb14.size)
  have HX5 : Hid (Blk w5 x 113 (ixC (some ⟨c, 0, none⟩) 0 rf0 0 0 mf ml mc) ∧ MapIs pkV ftV w5 mf []) := ⟨HX4.out.2.1.below hb5 HX4.out.2.1.lt, HX4.out.2.2.below hb5 (mapLt HX4.out.2.2)⟩
  have hbs := built_st (some ⟨d, 0, none⟩) (some ⟨x, 0, none⟩) a b 0 none
  clear r4 hb14 hb5 HR ha hb
  go_wp2_with (first
    | (refine wpList_build6s (by rfl) 74 _ _ _ _ _ _ (by rfl) _ _ _ _ _ _ (by rfl) (by rfl) (by rfl) (by rfl) (by rfl) (by rfl) (stC (some ⟨d, 0, none⟩) (some ⟨x, 0, none⟩) (some a) (some b) 1 0 none) (by exact hbs) ?_; simp only [Act.put, List.setIfInBounds_toArray, List.set_cons_zero, List.set_cons_succ])
    | (refine wpList_store_row (by rfl) 74 _ _ (by rfl) (w.heap.size) (stC (some ⟨d, 0, none⟩) (some ⟨x, 0, none⟩) (some a) (some b) 1 0 none) (by rfl) (by rfl) 74 (_) (by exact r5) (sizeSt.trans (by rw [stC_size])) (by simp only [stC_size]) (stC_all _ _ _ _ _ _ _) ?_; simp only [Act.put, List.setIfInBounds_toArray, List.set_cons_zero, List.set_cons_succ])
    | fail)
  try simp only [Exit.inBlock, Exit.then]
  refine bodyPost_ret (results_row2 Tryz.results20 _ _ (w.heap.size) 74 (stC (some ⟨d, 0, none⟩) (some ⟨x, 0, none⟩) (some a) (some b) 1 0 none) (0, 0) _ rfl (r5.set _) Tryz.underlying74 rfl (sizeSt.trans (by rw [stC_size]))) rfl ?_
  have hbe : Below w.heap.size w (w5.setRow w.heap.size (stC (some ⟨d, 0, none⟩) (some ⟨x, 0, none⟩) (some a) (some b) 1 0 none)) := below_setRow hb15 (Nat.le_refl _) _
  refine ⟨d, x, a, b, mf, ml, mc, rfl, ⟨HX4.out.1, c, HX5.out.1.other _ (by have := HWS.out; omega), ?_⟩, hbe⟩
  have hml := mapLt HX5.out.2
  obtain ⟨es, clock, hg, he⟩ := HX5.out.2
  exact ⟨es, clock, (((Keeps.refl w.heap.size w5).setRow _).2 mf (by have := HWS.out; omega) hml).trans hg, he⟩
theorem hd_now {w : World} {b t : Nat} {y : Hd} (H : Blk w b t (hdC y)) : w.cell? ⟨b, 38, none⟩ = some (.int .i64 y.n) ∧ w.cell? ⟨b, 39, none⟩ = some (.int .i64 y.k) ∧ w.cell? ⟨b, 40, none⟩ = some (.int .i64 y.l) ∧ w.cell? ⟨b, 41, none⟩ = some (.int .i64 y.s) ∧ w.cell? ⟨b, 42, none⟩ = some (.int .u64 ((y.t : Nat) : Int)) :=
  ⟨H.cv (n := 45) (by decide), H.cv (n := 45) (by decide), H.cv (n := 45) (by decide), H.cv (n := 45) (by decide), H.cv (n := 45) (by decide)⟩
set_option maxRecDepth 100000 in
set_option maxHeartbeats 4000000 in
theorem get_any {xv : Value} (n er : Int) (y : Hd) (w : World) (HU : ∀ V, Below w.heap.size w V → Calls Tryz.prog 35 #[xv, .int .i64 n] V fun e w' => e = .returned (.tuple #[.agg (hdC y), .int .i64 er]) ∧ Below V.heap.size V w') : Calls Tryz.prog 15 #[xv, .int .i64 n] w fun e w' => e = .returned (.tuple #[.agg #[.int .i64 y.n, .int .i64 y.k, .int .i64 y.l, .int .i64 y.s, .int .u64 ((y.t : Nat) : Int)], .int .i64 er]) ∧ Below w.heap.size w w' := by
  have hz2 := zero_hd
  have hb1 : Below w.heap.size w (w.alloc (.cells #[.int .i64 0, .int .i64 0, .int .i64 0, .int .i64 0, .int .u64 0] 54)) := below_new1 _ _
  have r1 : Blk (w.alloc (.cells #[.int .i64 0, .int .i64 0, .int .i64 0, .int .i64 0, .int .u64 0] 54)) w.heap.size 54 #[.int .i64 0, .int .i64 0, .int .i64 0, .int .i64 0, .int .u64 0] := Blk.new _ _ _
  have HU1 := HU _ hb1
  clear HU
  go_enter Tryz.func15, Tryz.ntmps15
  go_wp2_with fail
  generalize (w.alloc (.cells #[.int .i64 0, .int .i64 0, .int .i64 0, .int .i64 0, .int .u64 0] 54)) = w1 at *
  refine HU1.mono ?_
  rintro e w2 ⟨rfl, hb2⟩
  have r2 := r1.below hb2 r1.lt
  have hb12 := hb1.trans (hb2.mono hb1.size)
  clear r1 hb1 hb2 HU1
  have q3 : Blk (w2.alloc (.cells (hdC hd00) 117)) w2.heap.size 117 (hdC hd00) := Blk.new _ _ _
  have q3' := q3.set (hdC y)
  obtain ⟨c38, c39, c40, c41, c42⟩ := hd_now q3'
  have hb23 : Below w2.heap.size w2 ((w2.alloc (.cells (hdC hd00) 117)).setRow w2.heap.size (hdC y)) := below_setRow (below_new1 _ _) (Nat.le_refl _) _
  have r3 := r2.below hb23 r2.lt
  have HB3 : Hid (Below w.heap.size w ((w2.alloc (.cells (hdC hd00) 117)).setRow w2.heap.size (hdC y))) := hb12.trans (hb23.mono hb12.size)
  clear r2 hb12 hb23 q3'
  have d0 : ((w2.alloc (.cells (hdC hd00) 117)).setRow w2.heap.size (hdC y)).cell? ⟨w.heap.size, 0, none⟩ = some (.int .i64 0) := (r3.cell 0).trans rfl
  have e0 : ((w2.alloc (.cells (hdC hd00) 117)).setRow w2.heap.size (hdC y)).frozen? ⟨w.heap.size, 0, none⟩ = false := r3.frozen 0
  have d1 : ((w2.alloc (.cells (hdC hd00) 117)).setRow w2.heap.size (hdC y)).cell? ⟨w.heap.size, 1, none⟩ = some (.int .i64 0) := (r3.cell 1).trans rfl
  have e1 : ((w2.alloc (.cells (hdC hd00) 117)).setRow w2.heap.size (hdC y)).frozen? ⟨w.heap.size, 1, none⟩ = false := r3.frozen 1
  have d2 : ((w2.alloc (.cells (hdC hd00) 117)).setRow w2.heap.size (hdC y)).cell? ⟨w.heap.size, 2, none⟩ = some (.int .i64 0) := (r3.cell 2).trans rfl
  have e2 : ((w2.alloc (.cells (hdC hd00) 117)).setRow w2.heap.size (hdC y)).frozen? ⟨w.heap.size, 2, none⟩ = false := r3.frozen 2
  have d3 : ((w2.alloc (.cells (hdC hd00) 117)).setRow w2.heap.size (hdC y)).cell? ⟨w.heap.size, 3, none⟩ = some (.int .i64 0) := (r3.cell 3).trans rfl
  have e3 : ((w2.alloc (.cells (hdC hd00) 117)).setRow w2.heap.size (hdC y)).frozen? ⟨w.heap.size, 3, none⟩ = false := r3.frozen 3
  have d4 : ((w2.alloc (.cells (hdC hd00) 117)).setRow w2.heap.size (hdC y)).cell? ⟨w.heap.size, 4, none⟩ = some (.int .u64 0) := (r3.cell 4).trans rfl
  have e4 : ((w2.alloc (.cells (hdC hd00) 117)).setRow w2.heap.size (hdC y)).frozen? ⟨w.heap.size, 4, none⟩ = false := r3.frozen 4
  have R4 : Hid (Blk (((((((w2.alloc (.cells (hdC hd00) 117)).setRow w2.heap.size (hdC y)).setCell ⟨w.heap.size, 0, none⟩ (.int .i64 y.n)).setCell ⟨w.heap.size, 1, none⟩ (.int .i64 y.k)).setCell ⟨w.heap.size, 2, none⟩ (.int .i64 y.l)).setCell ⟨w.heap.size, 3, none⟩ (.int .i64 y.s)).setCell ⟨w.heap.size, 4, none⟩ (.int .u64 ((y.t : Nat) : Int))) w.heap.size 54 #[.int .i64 y.n, .int .i64 y.k, .int .i64 y.l, .int .i64 y.s, .int .u64 ((y.t : Nat) : Int)]) := (((((r3.put 0 (.int .i64 y.n)).put 1 (.int .i64 y.k)).put 2 (.int .i64 y.l)).put 3 (.int .i64 y.s)).put 4 (.int .u64 ((y.t : Nat) : Int)))
  have HB4 : Hid (Below w.heap.size w (((((((w2.alloc (.cells (hdC hd00) 117)).setRow w2.heap.size (hdC y)).setCell ⟨w.heap.size, 0, none⟩ (.int .i64 y.n)).setCell ⟨w.heap.size, 1, none⟩ (.int .i64 y.k)).setCell ⟨w.heap.size, 2, none⟩ (.int .i64 y.l)).setCell ⟨w.heap.size, 3, none⟩ (.int .i64 y.s)).setCell ⟨w.heap.size, 4, none⟩ (.int .u64 ((y.t : Nat) : Int)))) := (((((HB3.out.setCell (Nat.le_refl _) _).setCell (Nat.le_refl _) _).setCell (Nat.le_refl _) _).setCell (Nat.le_refl _) _).setCell (Nat.le_refl _) _)
  clear r3 HB3
  go_wp2_with (first
    | (refine wpList_store_row (by rfl) 117 _ _ (by rfl) (w2.heap.size) (hdC y) (by rfl) (by rfl) 117 (hdC hd00) (by exact q3) (sizeHd.trans (by rw [hdC_size])) (by simp only [hdC_size]) (hdC_all _) ?_; simp only [Act.put, List.setIfInBounds_toArray, List.set_cons_zero, List.set_cons_succ])
    | fail)
  try simp only [Exit.inBlock, Exit.then]
  refine bodyPost_ret (results_row2 Tryz.results15 _ _ (w.heap.size) 54 #[.int .i64 y.n, .int .i64 y.k, .int .i64 y.l, .int .i64 y.s, .int .u64 ((y.t : Nat) : Int)] (0, 0) _ rfl R4.out Tryz.underlying54 rfl (by kernel_rfl)) rfl ?_
  exact ⟨rfl, HB4.out⟩
theorem eq_info1 (w : World) : (Op.equalIn 10000 54 (.agg #[.int .i64 1, .int .i64 1, .int .i64 1, .int .i64 0, .int .u64 7]) (.agg #[.int .i64 1, .int .i64 1, .int .i64 1, .int .i64 0, .int .u64 7])).run Tryz.prog w = .ok true w := by
  have h1 : ∀ (d : Nat) (x y : Int), (Op.equalIn (d + 1) 3 (.int .i64 x) (.int .i64 y)).run Tryz.prog w = .ok (x == y) w := fun d x y => by simp [Op.equalIn, run_underlying Tryz.underlying3]
  have h2 : ∀ (d : Nat) (x y : Int), (Op.equalIn (d + 1) 45 (.int .u64 x) (.int .u64 y)).run Tryz.prog w = .ok (x == y) w := fun d x y => by simp [Op.equalIn, run_underlying Tryz.underlying45]
  have hu : Tryz.prog.underlying 54 = some (.struct (Tryz.prog.fieldsOf 54)) := by kernel_rfl
  have hp : Tryz.prog.stoodInHeld 54 = false := by kernel_rfl
  have hf : (Tryz.prog.fieldsOf 54).toList.map (fun f => (f.name == "_", f.type, f.offset)) = [(false, 3, 0), (false, 3, 1), (false, 3, 2), (false, 3, 3), (false, 45, 4)] := by kernel_rfl
  have p0 : (part 3 #[.int .i64 1, .int .i64 1, .int .i64 1, .int .i64 0, .int .u64 7] 0).run Tryz.prog w = .ok (.int .i64 1) w := by simp [part, isAgg, run_underlying Tryz.underlying3]
  have p1 : (part 3 #[.int .i64 1, .int .i64 1, .int .i64 1, .int .i64 0, .int .u64 7] 1).run Tryz.prog w = .ok (.int .i64 1) w := by simp [part, isAgg, run_underlying Tryz.underlying3]
  have p2 : (part 3 #[.int .i64 1, .int .i64 1, .int .i64 1, .int .i64 0, .int .u64 7] 2).run Tryz.prog w = .ok (.int .i64 1) w := by simp [part, isAgg, run_underlying Tryz.underlying3]
  have p3 : (part 3 #[.int .i64 1, .int .i64 1, .int .i64 1, .int .i64 0, .int .u64 7] 3).run Tryz.prog w = .ok (.int .i64 0) w := by simp [part, isAgg, run_underlying Tryz.underlying3]
  have p4 : (part 45 #[.int .i64 1, .int .i64 1, .int .i64 1, .int .i64 0, .int .u64 7] 4).run Tryz.prog w = .ok (.int .u64 7) w := by simp [part, isAgg, run_underlying Tryz.underlying45]
  have := run_eq_five (d := 9999) hu hp hf p0 p0 p1 p1 p2 p2 p3 p3 p4 p4 (h1 9998 _ _) (h1 9998 _ _) (h1 9998 _ _) (h1 9998 _ _) (h2 9998 _ _)
  exact this
set_option maxRecDepth 100000 in
set_option maxHeartbeats 4000000 in
theorem awake15_any (w : World) : Calls Tryz.prog 11 #[] w fun e w' => e = .returned (.bool true) ∧ Below w.heap.size w w' := by
  have hz := zero_st
  have HBG := begun_0 w
  have hei := eq_info1
  go_enter Tryz.func11, Tryz.ntmps11
  go_wp2_with fail
  refine HBG.mono ?_
  rintro e w1 ⟨d, x, a, b, mf, ml, mc, rfl, hbg, hb1⟩
  obtain ⟨hge, c, hx1, hm1⟩ := hbg
  have q2 : Blk (w1.alloc (.cells (stC none none none none 0 0 none) 74)) w1.heap.size 74 (stC none none none none 0 0 none) := Blk.new _ _ _
  have q2' := q2.set (stC (some ⟨d, 0, none⟩) (some ⟨x, 0, none⟩) (some a) (some b) 1 0 none)
  have c1 := st_c1 q2'
  have hb12 : Below w1.heap.size w1 ((w1.alloc (.cells (stC none none none none 0 0 none) 74)).setRow w1.heap.size (stC (some ⟨d, 0, none⟩) (some ⟨x, 0, none⟩) (some a) (some b) 1 0 none)) := below_setRow (below_new1 _ _) (Nat.le_refl _) _
  have HX2 : Hid (Blk ((w1.alloc (.cells (stC none none none none 0 0 none) 74)).setRow w1.heap.size (stC (some ⟨d, 0, none⟩) (some ⟨x, 0, none⟩) (some a) (some b) 1 0 none)) x 113 (ixC (some ⟨c, 0, none⟩) 0 rf0 0 0 mf ml mc) ∧ MapIs pkV ftV ((w1.alloc (.cells (stC none none none none 0 0 none) 74)).setRow w1.heap.size (stC (some ⟨d, 0, none⟩) (some ⟨x, 0, none⟩) (some a) (some b) 1 0 none)) mf [] ∧ Below w.heap.size w ((w1.alloc (.cells (stC none none none none 0 0 none) 74)).setRow w1.heap.size (stC (some ⟨d, 0, none⟩) (some ⟨x, 0, none⟩) (some a) (some b) 1 0 none)) ∧ (w.heap.size ≤ x ∧ w.heap.size ≤ mf ∧ x ≠ mf) ∧ x < w1.heap.size ∧ mf < w1.heap.size) := ⟨hx1.below hb12 hx1.lt, hm1.below hb12 (mapLt hm1), hb1.trans (hb12.mono hb1.size), hge, hx1.lt, mapLt hm1⟩
  clear hb1 hb12 hx1 hm1 hge HBG
  go_wp2_with (first
    | (refine wpList_store_row (by rfl) 74 _ _ (by rfl) (w1.heap.size) (stC (some ⟨d, 0, none⟩) (some ⟨x, 0, none⟩) (some a) (some b) 1 0 none) (by rfl) (by rfl) 74 (stC none none none none 0 0 none) (by exact q2) (sizeSt.trans (by rw [stC_size])) (by simp only [stC_size]) (stC_all _ _ _ _ _ _ _) ?_; simp only [Act.put, List.setIfInBounds_toArray, List.set_cons_zero, List.set_cons_succ])
    | fail)
  clear q2
  generalize ((w1.alloc (.cells (stC none none none none 0 0 none) 74)).setRow w1.heap.size (stC (some ⟨d, 0, none⟩) (some ⟨x, 0, none⟩) (some a) (some b) 1 0 none)) = w2 at *
  have HMK := make_first (cp := some ⟨c, 0, none⟩) (h := 0) (R := rf0) (ml := ml) (mc := mc) 7 w2 HX2.out.2.2.2.1.2.2 HX2.out.1 HX2.out.2.1 rfl rfl
  refine HMK.mono ?_
  rintro e w3 ⟨rfl, hx3, hm3, hb3, hk3⟩
  have hge := HX2.out.2.2.2
  have hsz := HX2.out.2.2.1.size
  have q3 : Blk w3 w1.heap.size 74 (stC (some ⟨d, 0, none⟩) (some ⟨x, 0, none⟩) (some a) (some b) 1 0 none) := (hk3 _ q2'.lt (by omega) (by omega)).trans q2'
  have d1 := st_c1 q3
  have HB3 : Hid (Below w.heap.size w w3) := HX2.out.2.2.1.trans (hb3 _ hge.1.1 hge.1.2.1 hsz)
  have HG : Hid (Calls Tryz.prog 15 #[.pointer (some ⟨x, 0, none⟩), .int .i64 1] w3 fun e w' => e = .returned (.tuple #[.agg #[.int .i64 1, .int .i64 1, .int .i64 1, .int .i64 0, .int .u64 7], .int .i64 0]) ∧ Below w3.heap.size w3 w') := by
    refine get_any 1 0 (hdN hd00 1 1 1 0 7) w3 fun V hV => ?_
    have := used_ok (x := x) 1 (by decide) (by decide) (ftU ft00 0 (hdN hd00 1 1 1 0 7)) (by decide) V fun U hU => ?_
    · exact this
    · have hVU := hV.trans (hU.mono hV.size)
      exact four_hit 0 _ U (hx3.below hVU hx3.lt) (hm3.below hVU (mapLt hm3)) rfl rfl
  clear hx3 hm3 hb3 hk3 HMK HX2 q2' c1 hge hsz q3
  go_wp2_with fail
  refine HG.out.mono ?_
  rintro e w4 ⟨rfl, hb4⟩
  have HB4 : Hid (Below w.heap.size w w4) := HB3.out.trans (hb4.mono HB3.out.size)
  clear HG hb4 HB3
  go_wp2_with fail
  go_ret
  exact ⟨rfl, HB4.out.alloc HB4.out.size _⟩
end Go.Proofs.YtbcgpiocigjkoaaGreat

namespace Go.Proofs.YtbcgpiocigjkoaaGreat
open Go Go.RowKit
set_option linter.unusedSimpArgs false
set_option linter.unusedVariables false
def ouF : Nat → Value := fun i => if i < 34 then trF 0 rf0 i else if i = 34 then .int .i64 0 else .slice none 0 0
def ou0 : Array Value := va 37 ouF
theorem ou0_size : ou0.size = 37 := va_size _ _
theorem ou0_all : ou0.all (·.oneCell') = true := va_one fun i _ => by
  unfold ouF
  split
  · unfold trF
    split
    · rfl
    · exact rfF_one _ _ _
  · split <;> rfl
theorem sizeOu : (Tryz.prog.info? 65).map (·.size) = some 37 := by kernel_rfl
theorem zero_ou (w : World) : (zeroValue 65).run Tryz.prog w = .ok (.agg ou0) w := zero_of (by kernel_rfl) w
theorem built_ou0 : Tryz.prog.built 65 [] = some ou0 := by kernel_rfl
theorem built_bk0 : Tryz.prog.built 58 [] = some (va 256 (iv .u8 fun _ => 0)) := by kernel_rfl
theorem eq_nilF_in (d : Nat) (w : World) : (Op.equalIn (d + 1) 68 .nilFunc .nilFunc).run Tryz.prog w = .ok true w := by
  simp [Op.equalIn, run_underlying Tryz.underlying68]
theorem eq_nilF (w : World) : Sem.run Tryz.prog (binOp .eql 68 .nilFunc .nilFunc) w = .ok (.bool true) w := by
  unfold binOp
  simp [show Op.equal 68 .nilFunc .nilFunc = Op.equalIn (9999 + 1) 68 .nilFunc .nilFunc from rfl, eq_nilF_in 9999 w]
set_option maxRecDepth 100000 in
set_option maxHeartbeats 4000000 in
theorem used_nil (n : Int) (w : World) : Calls Tryz.prog 35 #[.pointer none, .int .i64 n] w fun e w' => e = .returned (.tuple #[.agg (hdC hd00), .int .i64 1]) ∧ Below w.heap.size w w' := by
  have hz2 := zero_hd
  have hb1 : Below w.heap.size w (w.alloc (.cells (hdC hd00) 117)) := below_new1 _ _
  have r1 : Blk (w.alloc (.cells (hdC hd00) 117)) w.heap.size 117 (hdC hd00) := Blk.new _ _ _
  go_enter Tryz.func35, Tryz.ntmps35
  go_wp2_with fail
  generalize (w.alloc (.cells (hdC hd00) 117)) = w1 at *
  refine (wrong_nil n w1).mono ?_
  rintro e w2 ⟨rfl, hw2⟩
  subst hw2
  go_wp2_with (first
    | (refine wpList_buildTo (by rfl) 117 #[] (by rfl) _ rfl (hdC hd00) (by exact built_hd0) ?_; simp only [Act.put, List.setIfInBounds_toArray, List.set_cons_zero, List.set_cons_succ])
    | (refine wpList_store_row (by rfl) 117 _ _ (by rfl) (w.heap.size) (hdC hd00) (by rfl) (by rfl) 117 (hdC hd00) (by exact r1) (sizeHd.trans (by rw [hdC_size])) (by simp only [hdC_size]) (hdC_all _) ?_; simp only [Act.put, List.setIfInBounds_toArray, List.set_cons_zero, List.set_cons_succ])
    | fail)
  try simp only [Exit.inBlock, Exit.then]
  refine bodyPost_ret (results_row2 Tryz.results35 _ _ (w.heap.size) 117 (hdC hd00) (0, 0) _ rfl (r1.set _) Tryz.underlying117 rfl (sizeHd.trans (by rw [hdC_size]))) rfl ?_
  exact ⟨rfl, below_setRow hb1 (Nat.le_refl _) _⟩
theorem get_nil (n : Int) (w : World) : Calls Tryz.prog 15 #[.pointer none, .int .i64 n] w fun e w' => e = .returned (.tuple #[.agg #[.int .i64 0, .int .i64 0, .int .i64 0, .int .i64 0, .int .u64 0], .int .i64 1]) ∧ Below w.heap.size w w' := get_any n 1 hd00 w fun V _ => used_nil n V
set_option maxRecDepth 100000 in
set_option maxHeartbeats 4000000 in
theorem change_nil (n : Int) (fv : Value) (w : World) : Calls Tryz.prog 58 #[.pointer none, .int .i64 n, fv] w fun e w' => e = .returned (.int .i64 1) ∧ Below w.heap.size w w' := by
  have hz2 := zero_hd
  have HU : Hid (∀ w : World, Calls Tryz.prog 35 #[.pointer none, .int .i64 n] w fun e w' => e = .returned (.tuple #[.agg (hdC hd00), .int .i64 1]) ∧ Below w.heap.size w w') := used_nil n
  go_enter Tryz.func58, Tryz.ntmps58
  go_wp2_with fail
  refine (HU.out w).mono ?_
  rintro e w1 ⟨rfl, hb1⟩
  have q2 : Blk (w1.alloc (.cells (hdC hd00) 117)) w1.heap.size 117 (hdC hd00) := Blk.new _ _ _
  have HB2 : Hid (Below w.heap.size w ((w1.alloc (.cells (hdC hd00) 117)).setRow w1.heap.size (hdC hd00))) := below_setRow (hb1.alloc hb1.size _) hb1.size _
  clear hb1
  go_wp2_with (first
    | (refine wpList_store_row (by rfl) 117 _ _ (by rfl) (w1.heap.size) (hdC hd00) (by rfl) (by rfl) 117 (hdC hd00) (by exact q2) (sizeHd.trans (by rw [hdC_size])) (by simp only [hdC_size]) (hdC_all _) ?_; simp only [Act.put, List.setIfInBounds_toArray, List.set_cons_zero, List.set_cons_succ])
    | fail)
  go_ret
  exact ⟨rfl, HB2.out⟩
theorem high_nil (w : World) : Calls Tryz.prog 12 #[.pointer none] w fun e w' => e = .returned (.tuple #[.int .i64 0, .int .i64 0]) ∧ Below w.heap.size w w' := by
  go_enter Tryz.func12, Tryz.ntmps12
  go_wp2_with fail
  go_ret2
  exact ⟨rfl, Below.refl _ _⟩
theorem all_nil (w : World) : Calls Tryz.prog 14 #[.pointer none] w fun e w' => e = .returned (.tuple #[.slice none 0 0, .int .i64 0]) ∧ Below w.heap.size w w' := by
  go_enter Tryz.func14, Tryz.ntmps14
  go_wp2_with fail
  go_ret2
  exact ⟨rfl, Below.refl _ _⟩
theorem clone_nil (w : World) : Calls Tryz.prog 26 #[.pointer none] w fun e w' => e = .returned (.pointer none) ∧ Below w.heap.size w w' := by
  go_enter Tryz.func26, Tryz.ntmps26
  go_wp2_with fail
  go_ret
  exact ⟨rfl, Below.refl _ _⟩
theorem new_nil (w : World) : Calls Tryz.prog 13 #[.pointer none] w fun e w' => e = .returned (.tuple #[.int .i64 0, .int .i64 0]) ∧ Below w.heap.size w w' := by
  have hb : Below w.heap.size w (w.alloc (.cells #[.pointer none] 36)) := below_new1 _ _
  go_enter Tryz.func13, Tryz.ntmps13
  go_wp2_with fail
  go_ret2
  exact ⟨rfl, hb⟩
theorem make_nil (k t : Int) (w : World) : Calls Tryz.prog 17 #[.pointer none, .int .i64 k, .int .u64 t] w fun e w' => e = .returned (.tuple #[.int .i64 0, .int .i64 1]) ∧ Below w.heap.size w w' := by
  go_enter Tryz.func17, Tryz.ntmps17
  go_wp2_with fail
  go_ret2
  exact ⟨rfl, Below.refl _ _⟩
theorem wrongLeaf_nil (n p : Int) (w : World) : Calls Tryz.prog 44 #[.pointer none, .int .i64 n, .int .i64 p] w fun e w' => e = .returned (.int .i64 1) ∧ Below w.heap.size w w' := by
  go_enter Tryz.func44, Tryz.ntmps44
  go_wp2_with fail
  refine (wrong_nil n w).mono ?_
  rintro e w2 ⟨rfl, hw2⟩
  subst hw2
  go_wp2_with fail
  go_ret
  exact ⟨rfl, Below.refl _ _⟩
set_option maxRecDepth 100000 in
theorem leaf_nil (n p : Int) (w : World) : Calls Tryz.prog 16 #[.pointer none, .int .i64 n, .int .i64 p] w fun e w' => e = .returned (.tuple #[.agg (va 256 (iv .u8 fun _ => 0)), .int .i64 1]) ∧ Below w.heap.size w w' := by
  have hz := zero_bk
  have r1 : Blk (w.alloc (.cells (va 256 (iv .u8 fun _ => 0)) 58)) w.heap.size 58 (va 256 (iv .u8 fun _ => 0)) := Blk.new _ _ _
  have hb1 : Below w.heap.size w (w.alloc (.cells (va 256 (iv .u8 fun _ => 0)) 58)) := below_new1 _ _
  go_enter Tryz.func16, Tryz.ntmps16
  go_wp2_with fail
  generalize (w.alloc (.cells (va 256 (iv .u8 fun _ => 0)) 58)) = w1 at *
  refine (wrongLeaf_nil n p w1).mono ?_
  rintro e w2 ⟨rfl, hb2⟩
  have r2 := r1.below hb2 r1.lt
  have hb12 := hb1.trans (hb2.mono hb1.size)
  clear hb1 hb2 r1
  go_wp2_with (first
    | (refine wpList_buildTo (by rfl) 58 #[] (by rfl) _ rfl (va 256 (iv .u8 fun _ => 0)) (by exact built_bk0) ?_; simp only [Act.put, List.setIfInBounds_toArray, List.set_cons_zero, List.set_cons_succ])
    | (refine wpList_store_row (by rfl) 58 _ _ (by rfl) (w.heap.size) (va 256 (iv .u8 fun _ => 0)) (by rfl) (by rfl) 58 (_) (by exact r2) (sizeBk.trans (by rw [va_size])) (by simp only [va_size]) (iv_one _ _ _) ?_; simp only [Act.put, List.setIfInBounds_toArray, List.set_cons_zero, List.set_cons_succ])
    | fail)
  try simp only [Exit.inBlock, Exit.then]
  refine bodyPost_ret (results_row2 Tryz.results16 _ _ (w.heap.size) 58 (va 256 (iv .u8 fun _ => 0)) (0, 0) _ rfl (r2.set _) Tryz.underlying58 rfl (sizeBk.trans (by rw [va_size]))) rfl ?_
  exact ⟨rfl, below_setRow hb12 (Nat.le_refl _) _⟩
set_option maxRecDepth 100000 in
set_option maxHeartbeats 4000000 in
theorem out_nil (k : Nat) (w : World) : Calls Tryz.prog 18 #[.pointer none, .func (.func k) #[] #[]] w fun e w' => e = .returned (.tuple #[.agg ou0, .int .i64 1]) ∧ Below w.heap.size w w' := by
  have hz := zero_ou
  have hnf := eq_nilF
  have r1 : Blk (((w.alloc (.cells #[.pointer none] 36)).alloc (.cells #[.func (.func k) #[] #[]] 68)).alloc (.cells ou0 65)) (w.heap.size + 1 + 1) 65 ou0 := by
    have := Blk.new ((w.alloc (.cells #[.pointer none] 36)).alloc (.cells #[.func (.func k) #[] #[]] 68)) 65 ou0
    rw [show ((w.alloc (.cells #[.pointer none] 36)).alloc (.cells #[.func (.func k) #[] #[]] 68)).heap.size = w.heap.size + 1 + 1 by simp] at this
    exact this
  have hb1 : Below w.heap.size w (((w.alloc (.cells #[.pointer none] 36)).alloc (.cells #[.func (.func k) #[] #[]] 68)).alloc (.cells ou0 65)) := (((Below.refl _ _).alloc (Nat.le_refl _) _).alloc (by simp) _).alloc (by simp; omega) _
  go_enter Tryz.func18, Tryz.ntmps18
  go_wp2_with (first
    | (refine wpList_buildTo (by rfl) 65 #[] (by rfl) _ rfl (ou0) (by exact built_ou0) ?_; simp only [Act.put, List.setIfInBounds_toArray, List.set_cons_zero, List.set_cons_succ])
    | (refine wpList_store_row (by rfl) 65 _ _ (by rfl) (w.heap.size + 1 + 1) (ou0) (by rfl) (by rfl) 65 (ou0) (by exact r1) (sizeOu.trans (by rw [ou0_size])) (by simp only [ou0_size]) (ou0_all) ?_; simp only [Act.put, List.setIfInBounds_toArray, List.set_cons_zero, List.set_cons_succ])
    | fail)
  try simp only [Exit.inBlock, Exit.then]
  refine bodyPost_ret (results_row2 Tryz.results18 _ _ (w.heap.size + 1 + 1) 65 ou0 (0, 0) _ rfl (r1.set _) Tryz.underlying65 rfl (sizeOu.trans (by rw [ou0_size]))) rfl ?_
  exact ⟨rfl, below_setRow hb1 (by omega) _⟩
set_option maxRecDepth 100000 in
set_option maxHeartbeats 4000000 in
theorem out_none (x : Nat) (w : World) : Calls Tryz.prog 18 #[.pointer (some ⟨x, 0, none⟩), .nilFunc] w fun e w' => e = .returned (.tuple #[.agg ou0, .int .i64 1]) ∧ Below w.heap.size w w' := by
  have hz := zero_ou
  have hnf := eq_nilF
  have r1 : Blk (((w.alloc (.cells #[.pointer (some ⟨x, 0, none⟩)] 36)).alloc (.cells #[.nilFunc] 68)).alloc (.cells ou0 65)) (w.heap.size + 1 + 1) 65 ou0 := by
    have := Blk.new ((w.alloc (.cells #[.pointer (some ⟨x, 0, none⟩)] 36)).alloc (.cells #[.nilFunc] 68)) 65 ou0
    rw [show ((w.alloc (.cells #[.pointer (some ⟨x, 0, none⟩)] 36)).alloc (.cells #[.nilFunc] 68)).heap.size = w.heap.size + 1 + 1 by simp] at this
    exact this
  have hb1 : Below w.heap.size w (((w.alloc (.cells #[.pointer (some ⟨x, 0, none⟩)] 36)).alloc (.cells #[.nilFunc] 68)).alloc (.cells ou0 65)) := (((Below.refl _ _).alloc (Nat.le_refl _) _).alloc (by simp) _).alloc (by simp; omega) _
  go_enter Tryz.func18, Tryz.ntmps18
  go_wp2_with (first
    | (refine wpList_buildTo (by rfl) 65 #[] (by rfl) _ rfl (ou0) (by exact built_ou0) ?_; simp only [Act.put, List.setIfInBounds_toArray, List.set_cons_zero, List.set_cons_succ])
    | (refine wpList_store_row (by rfl) 65 _ _ (by rfl) (w.heap.size + 1 + 1) (ou0) (by rfl) (by rfl) 65 (ou0) (by exact r1) (sizeOu.trans (by rw [ou0_size])) (by simp only [ou0_size]) (ou0_all) ?_; simp only [Act.put, List.setIfInBounds_toArray, List.set_cons_zero, List.set_cons_succ])
    | fail)
  try simp only [Exit.inBlock, Exit.then]
  refine bodyPost_ret (results_row2 Tryz.results18 _ _ (w.heap.size + 1 + 1) 65 ou0 (0, 0) _ rfl (r1.set _) Tryz.underlying65 rfl (sizeOu.trans (by rw [ou0_size]))) rfl ?_
  exact ⟨rfl, below_setRow hb1 (by omega) _⟩
theorem links_nil (n b t : Int) (w : World) : Calls Tryz.prog 21 #[.pointer none, .int .i64 n, .int .i64 b, .int .u64 t] w fun e w' => e = .returned (.int .i64 1) ∧ Below w.heap.size w w' := by
  have HC : Hid (∀ (fv : Value) (w : World), Calls Tryz.prog 58 #[.pointer none, .int .i64 n, fv] w fun e w' => e = .returned (.int .i64 1) ∧ Below w.heap.size w w') := change_nil n
  go_enter Tryz.func21, Tryz.ntmps21
  go_wp2_with fail
  refine (HC.out _ _).mono ?_
  rintro e w1 ⟨rfl, hb1⟩
  go_wp2_with fail
  go_ret
  refine ⟨rfl, ?_⟩
  first
    | exact (below_new1 _ _).trans (hb1.mono (below_new1 _ _).size)
    | exact (below_new2 _ _ _).trans (hb1.mono (below_new2 _ _ _).size)
theorem drop_nil (n : Int) (w : World) : Calls Tryz.prog 23 #[.pointer none, .int .i64 n] w fun e w' => e = .returned (.int .i64 1) ∧ Below w.heap.size w w' := by
  have HC : Hid (∀ (fv : Value) (w : World), Calls Tryz.prog 58 #[.pointer none, .int .i64 n, fv] w fun e w' => e = .returned (.int .i64 1) ∧ Below w.heap.size w w') := change_nil n
  go_enter Tryz.func23, Tryz.ntmps23
  go_wp2_with fail
  refine (HC.out _ _).mono ?_
  rintro e w1 ⟨rfl, hb1⟩
  go_wp2_with fail
  go_ret
  refine ⟨rfl, ?_⟩
  first
    | exact (below_new1 _ _).trans (hb1.mono (below_new1 _ _).size)
    | exact (below_new2 _ _ _).trans (hb1.mono (below_new2 _ _ _).size)
theorem touch_nil (n t : Int) (w : World) : Calls Tryz.prog 25 #[.pointer none, .int .i64 n, .int .u64 t] w fun e w' => e = .returned (.int .i64 1) ∧ Below w.heap.size w w' := by
  have HC : Hid (∀ (fv : Value) (w : World), Calls Tryz.prog 58 #[.pointer none, .int .i64 n, fv] w fun e w' => e = .returned (.int .i64 1) ∧ Below w.heap.size w w') := change_nil n
  go_enter Tryz.func25, Tryz.ntmps25
  go_wp2_with fail
  refine (HC.out _ _).mono ?_
  rintro e w1 ⟨rfl, hb1⟩
  go_wp2_with fail
  go_ret
  refine ⟨rfl, ?_⟩
  first
    | exact (below_new1 _ _).trans (hb1.mono (below_new1 _ _).size)
    | exact (below_new2 _ _ _).trans (hb1.mono (below_new2 _ _ _).size)
theorem resize_nil (n s t : Int) (w : World) : Calls Tryz.prog 22 #[.pointer none, .int .i64 n, .int .i64 s, .int .u64 t] w fun e w' => e = .returned (.int .i64 1) ∧ Below w.heap.size w w' := by
  go_enter Tryz.func22, Tryz.ntmps22
  go_wp2_with fail
  refine (wrong_nil n _).mono ?_
  rintro e w2 ⟨rfl, hw2⟩
  subst hw2
  go_wp2_with fail
  go_ret
  refine ⟨rfl, ?_⟩
  exact (((Below.refl _ _).alloc (Nat.le_refl _) _).alloc (by simp) _).alloc (by simp; omega) _
theorem set_nil (n p t : Int) (f : Nat → Nat) (w : World) : Calls Tryz.prog 24 #[.pointer none, .int .i64 n, .int .i64 p, .agg (va 256 (iv .u8 f)), .int .u64 t] w fun e w' => e = .returned (.int .i64 1) ∧ Below w.heap.size w w' := by
  go_enter Tryz.func24, Tryz.ntmps24
  go_wp2_with fail
  refine (wrongLeaf_nil n p _).mono ?_
  rintro e w2 ⟨rfl, hb2⟩
  go_wp2_with fail
  go_ret
  refine ⟨rfl, ?_⟩
  have hb1 : Below w.heap.size w ((((w.alloc (.cells #[.pointer none] 36)).alloc (.cells #[.int .i64 p] 3)).alloc (.cells (va 256 (iv .u8 f)) 58)).alloc (.cells #[.int .u64 t] 45)) := ((((Below.refl _ _).alloc (Nat.le_refl _) _).alloc (by simp) _).alloc (by simp; omega) _).alloc (by simp; omega) _
  exact hb1.trans (hb2.mono hb1.size)
end Go.Proofs.YtbcgpiocigjkoaaGreat
