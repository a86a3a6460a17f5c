/- Inodes as they change: nil ones, and a nil take. -/
import Derived.Test.YtlhbkhmhoiknoaaGreatDoorHDigRow
import Derived.Test.YtlhbkhmhoiknoaaGreatDoorHIoChk
import Derived.Test.YtlhbkhmhoiknoaaGreatDoorHMathCount
import Derived.Handy
import Derived.Deep.MidRow
import Derived.Deep.DeepCutAuto
import Derived.Deep.Cut

namespace Go.Proofs.YtlhbkhmhoiknoaaGreatDoor
open Go Go.RowKit
set_option linter.unusedSimpArgs false
set_option linter.unusedVariables false

theorem wpList_load_blkI {P : Program} {ops : Array Oper} {rest : List Oper} {op : Oper} {a : Act} {w : World} {Q : Exit → Act → World → Prop} (hw : Region.wanted op (yielded ops a.tmps) = true) (ty : TypeId) (x : Operand) (ho : op.op = .load ty x)
    (b o n : Nat) (f : Nat → Value) (hx : a.eval x = .pointer (some ⟨b, o, none⟩)) (d : TypeDesc) (hc : w.rangeAt b o ((List.range n).map f))
    (hu : P.underlying ty = some d) (hd : d.isRow = true) (hi : (P.info? ty).map (·.size) = some n)
    (h : wpList P ops Q rest (a.put op.dst (.agg (va n f))) w) : wpList P ops Q (op :: rest) a w :=
  wpList_step fun K hK => by
    rw [if_pos hw]
    exact wp_load_mid ty x ho b o hx _ d hc hu hd (hi.trans (by simp)) (hK _ _ h)
/-- an inode as it is committed, and as it is now -/
structure Hd where
  o : Ino
  n : Int
  k : Int
  l : Int
  s : Int
  t : Nat
  left : Int
  set : Bool
def hd00 : Hd := ⟨in0, 0, 0, 0, 0, 0, 0, false⟩
def nwF (x : Hd) : Nat → Value := fun i => if i = 0 then .int .i64 x.n else if i = 1 then .int .i64 x.k else if i = 2 then .int .i64 x.l else if i = 3 then .int .i64 x.s else .int .u64 ((x.t : Nat) : Int)
def hdF (x : Hd) : Nat → Value := fun i => if i < 38 then inF x.o i else if i < 43 then nwF x (i - 38) else if i = 43 then .int .i64 x.left else .bool x.set
def hdC (x : Hd) : Array Value := va 45 (hdF x)
theorem hdC_size (x : Hd) : (hdC x).size = 45 := va_size _ _
theorem hdF_one (x : Hd) (i : Nat) : (hdF x i).oneCell' = true := by
  unfold hdF
  split
  · exact inF_one _ _
  · split
    · unfold nwF
      split
      · rfl
      · split
        · rfl
        · split
          · rfl
          · split <;> rfl
    · split <;> rfl
theorem hdC_all (x : Hd) : (hdC x).all (·.oneCell') = true := va_one fun i _ => hdF_one _ _
/-- four of them -/
def ftF (q : Nat → Hd) : Nat → Value := fun i => hdF (q (i / 45)) (i % 45)
def ftC (q : Nat → Hd) : Array Value := va 180 (ftF q)
theorem ftC_size (q : Nat → Hd) : (ftC q).size = 180 := va_size _ _
theorem ftC_all (q : Nat → Hd) : (ftC q).all (·.oneCell') = true := va_one fun i _ => hdF_one _ _
def ft00 : Nat → Hd := fun _ => hd00
theorem sizeHd : (Tryz.prog.info? 118).map (·.size) = some 45 := by kernel_rfl
theorem sizeFt : (Tryz.prog.info? 150).map (·.size) = some 180 := by kernel_rfl
theorem zero_hd (w : World) : (zeroValue 118).run Tryz.prog w = .ok (.agg (hdC hd00)) w := zero_of (by kernel_rfl) w
theorem zero_ft (w : World) : (zeroValue 150).run Tryz.prog w = .ok (.agg (ftC ft00)) w := zero_of (by kernel_rfl) w
theorem built_hd0 : Tryz.prog.built 118 [] = some (hdC hd00) := by kernel_rfl
/-- Inodes in the memory -/
def ixF (cp : Option Addr) (h : Int) (R : Rf) (high top : Int) (mf ml mc : Nat) : Nat → Value := fun i => if i = 0 then .pointer cp else if i < 35 then tiF h R (i - 1) else if i = 35 then .int .i64 high else if i = 36 then .int .i64 top else if i = 37 then .map (some mf) else if i = 38 then .map (some ml) else .map (some mc)
def ixC (cp : Option Addr) (h : Int) (R : Rf) (high top : Int) (mf ml mc : Nat) : Array Value := va 40 (ixF cp h R high top mf ml mc)
theorem built_ix (cp : Option Addr) (h : Int) (R : Rf) (a b : Int) (mf ml mc : Nat) : Tryz.prog.built 114 [(0, .pointer cp), (1, .agg (tiC h R)), (2, .int .i64 a), (3, .int .i64 b), (4, .map (some mf)), (5, .map (some ml)), (6, .map (some mc))] = some (ixC cp h R a b mf ml mc) := by kernel_rfl
section
variable {w : World} {x : Nat} {cp : Option Addr} {h : Int} {R : Rf} {high top : Int} {mf ml mc : Nat}
theorem ix_c35 (H : Blk w x 114 (ixC cp h R high top mf ml mc)) : w.cell? ⟨x, 35, none⟩ = some (.int .i64 high) := H.cv (n := 40) (by decide)
theorem ix_c36 (H : Blk w x 114 (ixC cp h R high top mf ml mc)) : w.cell? ⟨x, 36, none⟩ = some (.int .i64 top) := H.cv (n := 40) (by decide)
theorem ix_c37 (H : Blk w x 114 (ixC cp h R high top mf ml mc)) : w.cell? ⟨x, 37, none⟩ = some (.map (some mf)) := H.cv (n := 40) (by decide)
theorem ix_c38 (H : Blk w x 114 (ixC cp h R high top mf ml mc)) : w.cell? ⟨x, 38, none⟩ = some (.map (some ml)) := H.cv (n := 40) (by decide)
theorem ix_c39 (H : Blk w x 114 (ixC cp h R high top mf ml mc)) : w.cell? ⟨x, 39, none⟩ = some (.map (some mc)) := H.cv (n := 40) (by decide)
theorem ix_top (top' : Int) : (ixC cp h R high top mf ml mc).setIfInBounds 36 (.int .i64 top') = ixC cp h R high top' mf ml mc := by
  unfold ixC
  rw [va_set]
  refine va_congr fun i hi => ?_
  unfold upd ixF
  by_cases e : i = 36
  · subst e
    rfl
  · rw [if_neg e]
    by_cases e0 : i = 0
    · rw [if_pos e0, if_pos e0]
    · rw [if_neg e0, if_neg e0]
      by_cases e1 : i < 35
      · rw [if_pos e1, if_pos e1]
      · rw [if_neg e1, if_neg e1]
        by_cases e2 : i = 35
        · rw [if_pos e2, if_pos e2]
        · rw [if_neg e2, if_neg e2, if_neg e, if_neg e]
end
theorem mapLt {α β : Type} {K : α → Value} {V : β → Value} {w : World} {r : Nat} {l : List (α × β)} (h : MapIs K V w r l) : r < w.heap.size := by
  obtain ⟨es, clock, hg, _⟩ := h
  exact (Array.getElem?_eq_some_iff.1 hg).1
/-- positions as keys -/
def pkV (p : Int × Int × Int) : Value := .agg #[.int .i64 p.1, .int .i64 p.2.1, .int .i64 p.2.2]
def ftV (q : Nat → Hd) : Value := .agg (ftC q)
theorem eq_pk (d : Nat) (a b : Int × Int × Int) (w : World) : (Op.equalIn (d + 1 + 1) 155 (pkV a) (pkV b)).run Tryz.prog w = .ok (decide (a = b)) w := by
  unfold pkV
  have h1 : ∀ x y : Int, (Op.equalIn (d + 1) 3 (.int .i64 x) (.int .i64 y)).run Tryz.prog w = .ok (x == y) w := fun x y => by simp [Op.equalIn, run_underlying Tryz.underlying3]
  have p1 : ∀ x y z : Int, (part 3 #[.int .i64 x, .int .i64 y, .int .i64 z] 0).run Tryz.prog w = .ok (.int .i64 x) w := fun x y z => by simp [part, isAgg, run_underlying Tryz.underlying3]
  have p2 : ∀ x y z : Int, (part 3 #[.int .i64 x, .int .i64 y, .int .i64 z] 1).run Tryz.prog w = .ok (.int .i64 y) w := fun x y z => by simp [part, isAgg, run_underlying Tryz.underlying3]
  have p3 : ∀ x y z : Int, (part 3 #[.int .i64 x, .int .i64 y, .int .i64 z] 2).run Tryz.prog w = .ok (.int .i64 z) w := fun x y z => by simp [part, isAgg, run_underlying Tryz.underlying3]
  rw [Op.equalIn]
  simp only [Sem.run_bind, run_underlying Tryz.underlying155, Result.andThen_ok]
  simp [Op.eqFields, p1, p2, p3, h1]
  obtain ⟨a1, a2, a3⟩ := a
  obtain ⟨b1, b2, b3⟩ := b
  by_cases ha : a1 = b1
  · subst ha
    by_cases hb : a2 = b2
    · subst hb
      by_cases hc : a3 = b3
      · subst hc
        simp
      · simp [hc]
    · simp [hb]
  · simp [ha]
theorem chk_pk (d : Nat) (e : Bool) (a : Int × Int × Int) (w : World) : (Instr.checkKey e (d + 1 + 1) 155 (pkV a)).run Tryz.prog w = .ok () w := by
  unfold pkV
  have h1 : ∀ x : Int, (Instr.checkKey e (d + 1) 3 (.int .i64 x)).run Tryz.prog w = .ok () w := fun x => by simp [Instr.checkKey, run_underlying Tryz.underlying3]
  have p1 : ∀ x y z : Int, (part 3 #[.int .i64 x, .int .i64 y, .int .i64 z] 0).run Tryz.prog w = .ok (.int .i64 x) w := fun x y z => by simp [part, isAgg, run_underlying Tryz.underlying3]
  have p2 : ∀ x y z : Int, (part 3 #[.int .i64 x, .int .i64 y, .int .i64 z] 1).run Tryz.prog w = .ok (.int .i64 y) w := fun x y z => by simp [part, isAgg, run_underlying Tryz.underlying3]
  have p3 : ∀ x y z : Int, (part 3 #[.int .i64 x, .int .i64 y, .int .i64 z] 2).run Tryz.prog w = .ok (.int .i64 z) w := fun x y z => by simp [part, isAgg, run_underlying Tryz.underlying3]
  rw [Instr.checkKey]
  simp only [Sem.run_bind, run_underlying Tryz.underlying155, Result.andThen_ok]
  simp [p1, p2, p3, h1]
theorem pk_key : KeyOf Tryz.prog 155 pkV where
  desc := ⟨_, Tryz.underlying155, (fun k h => by cases h), (fun h => by cases h), (fun h => by cases h)⟩
  eq a b w := eq_pk 9998 a b w
  chk e a w := chk_pk 9998 e a w
end Go.Proofs.YtlhbkhmhoiknoaaGreatDoor

namespace Go.Proofs.YtlhbkhmhoiknoaaGreatDoor
open Go Go.RowKit
set_option linter.unusedSimpArgs false
set_option linter.unusedVariables false
theorem leafAt_any (n p : Int) (w : World) : Calls Tryz.prog 65 #[.int .i64 n, .int .i64 p] w fun e w' => e = .returned (pkV (n, 0, p)) ∧ Below w.heap.size w w' := by
  unfold pkV
  have hb : Below w.heap.size w (w.alloc (.cells #[.int .i64 n, .int .i64 0, .int .i64 p] 155)) := below_new1 w _
  go_enter Tryz.func65, Tryz.ntmps65
  have hk : Blk (w.alloc (.cells #[.int .i64 n, .int .i64 0, .int .i64 p] 155)) w.heap.size 155 #[.int .i64 n, .int .i64 0, .int .i64 p] := Blk.new _ _ _
  go_wp2_with fail
  try simp only [Exit.inBlock, Exit.then]
  refine bodyPost_ret (results_cell_row Tryz.results65 _ _ (w.heap.size) 155 _ (0, 0) _ rfl hk Tryz.underlying155 rfl (by kernel_rfl)) rfl ?_
  exact ⟨rfl, hb⟩
theorem leavesTo_any (n : Int) (h0 : 0 ≤ n) (h1 : n ≤ 4096) (w : World) : Calls Tryz.prog 60 #[.int .i64 n] w fun e w' => e = .returned (.int .i64 ((n + 3) / 4)) ∧ w' = w := by
  have e1 : (n + 4 - 1).tdiv 4 = (n + 3) / 4 := by
    rw [show n + 4 - 1 = n + 3 by omega]
    exact Int.tdiv_eq_ediv_of_nonneg (by omega)
  have e2 : (n + 3).tdiv 4 = (n + 3) / 4 := Int.tdiv_eq_ediv_of_nonneg (by omega)
  go_enter Tryz.func60, Tryz.ntmps60
  go_wp2_with fail
  go_ret
  exact ⟨rfl, rfl⟩
theorem numberAt_any (l p : Int) (h0 : 0 ≤ l) (h1 : l ≤ 4096) (h2 : 0 ≤ p) (h3 : p ≤ 4) (w : World) : Calls Tryz.prog 63 #[.int .i64 l, .int .i64 p] w fun e w' => e = .returned (.int .i64 (l * 4 + p + 1)) ∧ w' = w := by
  go_enter Tryz.func63, Tryz.ntmps63
  go_wp2_with fail
  go_ret
  exact ⟨rfl, rfl⟩
theorem hd_c39 {w : World} {b t : Nat} {x : Hd} (H : Blk w b t (hdC x)) : w.cell? ⟨b, 39, none⟩ = some (.int .i64 x.k) := H.cv (n := 45) (by decide)
theorem inUse_any (x : Hd) (w : World) : Calls Tryz.prog 62 #[.agg (hdC x)] w fun e w' => e = .returned (.bool (x.k != 0)) ∧ Below w.heap.size w w' := by
  have hb : Below w.heap.size w (w.alloc (.cells (hdC x) 118)) := below_new1 w _
  have c := hd_c39 (Blk.new w 118 (hdC x))
  go_enter Tryz.func62, Tryz.ntmps62
  go_wp2_with fail
  go_ret
  exact ⟨rfl, hb⟩
theorem wrong_nil (n : Int) (w : World) : Calls Tryz.prog 45 #[.pointer none, .int .i64 n] w fun e w' => e = .returned (.int .i64 1) ∧ w' = w := by
  go_enter Tryz.func45, Tryz.ntmps45
  go_wp2_with fail
  go_ret
  exact ⟨rfl, rfl⟩
theorem wrong_ok (x : Nat) (n : Int) (h1 : 1 ≤ n) (h2 : n ≤ 4096) (w : World) : Calls Tryz.prog 45 #[.pointer (some ⟨x, 0, none⟩), .int .i64 n] w fun e w' => e = .returned (.int .i64 0) ∧ w' = w := by
  have HP := place_any n ⟨by omega, by omega⟩ w
  rw [if_pos ⟨h1, h2⟩] at HP
  go_enter Tryz.func45, Tryz.ntmps45
  go_wp2_with fail
  refine HP.mono ?_
  rintro e w1 ⟨rfl, rfl⟩
  go_wp2_with fail
  go_ret
  exact ⟨rfl, rfl⟩
end Go.Proofs.YtlhbkhmhoiknoaaGreatDoor

namespace Go.Proofs.YtlhbkhmhoiknoaaGreatDoor
open Go Go.RowKit
set_option linter.unusedSimpArgs false
set_option linter.unusedVariables false
section
variable {x : Nat} {cp : Option Addr} {h : Int} {R : Rf} {high top : Int} {mf ml mc : Nat} {L : List ((Int × Int × Int) × (Nat → Hd))}
theorem look_four {w : World} (H : MapIs pkV ftV w mf L) (k : Int × Int × Int) (q : Nat → Hd) (b : Bool) (h1 : ((findIn k L).map ftV).getD (ftV ft00) = ftV q) (h2 : (findIn k L).isSome = b) : (Instr.lookup 110 (.map (some mf)) (pkV k) true).run Tryz.prog w = .ok (.tuple #[.agg (ftC q), .bool b]) w := by
  have := run_lookup_is Tryz.underlying110 pk_key (z := ftV ft00) (fun w => zero_ft w) H k true
  rw [h1, h2] at this
  exact this
set_option maxRecDepth 100000 in
set_option maxHeartbeats 4000000 in
theorem four_hit (leaf : Int) (q : Nat → Hd) (w : World) (hx : Blk w x 114 (ixC cp h R high top mf ml mc)) (hm : MapIs pkV ftV w mf L) (hl1 : ((findIn (0, 0, leaf) L).map ftV).getD (ftV ft00) = ftV q) (hl2 : (findIn (0, 0, leaf) L).isSome = true) : Calls Tryz.prog 61 #[.pointer (some ⟨x, 0, none⟩), .int .i64 leaf] w fun e w' => e = .returned (.tuple #[.agg (ftC q), .int .i64 0]) ∧ Below w.heap.size w w' := by
  have hz := zero_ft
  have HLK : Hid (∀ W, MapIs pkV ftV W mf L → (Instr.lookup 110 (.map (some mf)) (.agg #[.int .i64 0, .int .i64 0, .int .i64 leaf]) true).run Tryz.prog W = .ok (.tuple #[.agg (ftC q), .bool true]) W) := fun W hW => look_four hW _ q true hl1 hl2
  have hb1 : Below w.heap.size w (w.alloc (.cells (ftC ft00) 150)) := below_new1 _ _
  have r1 : Blk (w.alloc (.cells (ftC ft00) 150)) w.heap.size 150 (ftC ft00) := Blk.new _ _ _
  have HX1 : Hid (Blk (w.alloc (.cells (ftC ft00) 150)) x 114 (ixC cp h R high top mf ml mc)) := hx.below hb1 hx.lt
  have HM1 : Hid (MapIs pkV ftV (w.alloc (.cells (ftC ft00) 150)) mf L ∧ mf < w.heap.size) := ⟨hm.below hb1 (mapLt hm), (mapLt hm)⟩
  have HXL : Hid (x < w.heap.size) := hx.lt


  clear hx hm hl1 hl2
  go_enter Tryz.func61, Tryz.ntmps61
  go_wp2_with fail
  generalize (w.alloc (.cells (ftC ft00) 150)) = w1 at *
  refine (leafAt_any 0 leaf w1).mono ?_
  rintro e w2 ⟨rfl, hb2⟩
  unfold pkV
  have W2 : Below w2.heap.size w2 (w2.alloc (.cells #[.int .i64 0, .int .i64 0, .int .i64 leaf] 155)) := below_new1 _ _
  have p3 : Blk (w2.alloc (.cells #[.int .i64 0, .int .i64 0, .int .i64 leaf] 155)) w2.heap.size 155 #[.int .i64 0, .int .i64 0, .int .i64 leaf] := Blk.new _ _ _
  have hb23 : Below w1.heap.size w1 (w2.alloc (.cells #[.int .i64 0, .int .i64 0, .int .i64 leaf] 155)) := hb2.trans (W2.mono hb2.size)
  have x3 := HX1.out.below hb23 HX1.out.lt
  have m3 := HM1.out.1.below hb23 (mapLt HM1.out.1)
  have r3 := r1.below hb23 r1.lt
  have HB3 : Hid (Below w.heap.size w (w2.alloc (.cells #[.int .i64 0, .int .i64 0, .int .i64 leaf] 155)) ∧ w.heap.size < (w2.alloc (.cells #[.int .i64 0, .int .i64 0, .int .i64 leaf] 155)).heap.size) := ⟨hb1.trans (hb23.mono hb1.size), r3.lt⟩
  clear hb2 W2 hb23 hb1 HX1 HM1 r1
  go_wp2_with fail
  generalize (w2.alloc (.cells #[.int .i64 0, .int .i64 0, .int .i64 leaf] 155)) = w3 at *
  have hS0 : Blk w3.drew x 114 (ixC cp h R high top mf ml mc) ∧ Blk w3.drew w2.heap.size 155 #[.int .i64 0, .int .i64 0, .int .i64 leaf] ∧ MapIs pkV ftV w3.drew mf L := ⟨x3, p3, m3⟩
  have r3d : Blk w3.drew w.heap.size 150 (ftC ft00) := r3
  have HB3d : Hid (Below w.heap.size w w3.drew ∧ w.heap.size < w3.drew.heap.size) := ⟨HB3.out.1.drew, HB3.out.2⟩
  have X3d : Blk w3.drew x 114 (ixC cp h R high top mf ml mc) := x3
  clear x3 p3 m3 r3 HB3
  refine wp_region_partsS (fun W => Blk W x 114 (ixC cp h R high top mf ml mc) ∧ Blk W w2.heap.size 155 #[.int .i64 0, .int .i64 0, .int .i64 leaf] ∧ MapIs pkV ftV W mf L) [([0], 1, true), ([], 2, true), ([], 3, true), ([], 4, true), ([], 5, true), ([6, 7, 8], 9, false), ([], 10, false)] [11] [] (by kernel_rfl) (by kernel_rfl) hS0 (partsI_yield ?_)
  generalize w3.drew = w4 at *
  have q4 : Blk (w4.alloc (.cells (ftC ft00) 150)) w4.heap.size 150 (ftC ft00) := Blk.new _ _ _
  have q5 := q4.set (ftC q)
  have hb5 : Below w4.heap.size w4 ((w4.alloc (.cells (ftC ft00) 150)).setRow w4.heap.size (ftC q)) := below_setRow (below_new1 _ _) (Nat.le_refl _) _
  have r5 := r3d.below hb5 r3d.lt
  have X5 := X3d.below hb5 X3d.lt
  have c35 := ix_c35 X5
  have HB5 : Hid (Below w.heap.size w ((w4.alloc (.cells (ftC ft00) 150)).setRow w4.heap.size (ftC q))) := HB3d.out.1.trans (hb5.mono HB3d.out.1.size)
  have hS1 : Blk (w4.alloc (.cells (ftC ft00) 150)) x 114 (ixC cp h R high top mf ml mc) ∧ Blk (w4.alloc (.cells (ftC ft00) 150)) w2.heap.size 155 #[.int .i64 0, .int .i64 0, .int .i64 leaf] ∧ MapIs pkV ftV (w4.alloc (.cells (ftC ft00) 150)) mf L := ⟨hS0.1.alloc _, hS0.2.1.alloc _, hS0.2.2.below (below_new1 _ _) (mapLt hS0.2.2)⟩
  have hS2 : Blk ((w4.alloc (.cells (ftC ft00) 150)).setRow w4.heap.size (ftC q)) x 114 (ixC cp h R high top mf ml mc) ∧ Blk ((w4.alloc (.cells (ftC ft00) 150)).setRow w4.heap.size (ftC q)) w2.heap.size 155 #[.int .i64 0, .int .i64 0, .int .i64 leaf] ∧ MapIs pkV ftV ((w4.alloc (.cells (ftC ft00) 150)).setRow w4.heap.size (ftC q)) mf L := ⟨hS0.1.below hb5 hS0.1.lt, hS0.2.1.below hb5 hS0.2.1.lt, hS0.2.2.below hb5 (mapLt hS0.2.2)⟩
  clear X3d X5 hb5
  simp only [List.cons_append, List.nil_append, List.append_nil, List.filterMap_cons, List.filterMap_nil, List.getElem?_toArray, List.getElem?_cons_zero, List.getElem?_cons_succ]
  go_wp2_with fail
  refine ⟨rfl, _, .pointer (some ⟨x, 0, none⟩), rfl, Or.inl ⟨by rfl, fun W hW => by go_simp⟩, partsI_yield ?_⟩
  simp only [Act.put, List.setIfInBounds_toArray, List.set_cons_zero, List.set_cons_succ]
  simp only [List.cons_append, List.nil_append, List.append_nil, List.filterMap_cons, List.filterMap_nil, List.getElem?_toArray, List.getElem?_cons_zero, List.getElem?_cons_succ]
  go_wp2_with fail
  refine ⟨rfl, _, .pointer (some ⟨x, 37, none⟩), rfl, Or.inl ⟨by rfl, fun W hW => by go_simp⟩, partsI_yield ?_⟩
  simp only [Act.put, List.setIfInBounds_toArray, List.set_cons_zero, List.set_cons_succ]
  simp only [List.cons_append, List.nil_append, List.append_nil, List.filterMap_cons, List.filterMap_nil, List.getElem?_toArray, List.getElem?_cons_zero, List.getElem?_cons_succ]
  go_wp2_with fail
  refine ⟨rfl, _, .map (some mf), rfl, Or.inl ⟨by rfl, fun W hW => by have hW1 := ix_c37 hW.1; go_simp⟩, partsI_yield ?_⟩
  simp only [Act.put, List.setIfInBounds_toArray, List.set_cons_zero, List.set_cons_succ]
  simp only [List.cons_append, List.nil_append, List.append_nil, List.filterMap_cons, List.filterMap_nil, List.getElem?_toArray, List.getElem?_cons_zero, List.getElem?_cons_succ]
  go_wp2_with fail
  refine ⟨rfl, _, .agg #[.int .i64 0, .int .i64 0, .int .i64 leaf], rfl, Or.inl ⟨by rfl, fun W hW => by have hW0 : W.cell? ⟨w2.heap.size, 0, none⟩ = some (.int .i64 0) := (hW.2.1.cell 0).trans rfl; have hW1 : W.cell? ⟨w2.heap.size, 1, none⟩ = some (.int .i64 0) := (hW.2.1.cell 1).trans rfl; have hW2 : W.cell? ⟨w2.heap.size, 2, none⟩ = some (.int .i64 leaf) := (hW.2.1.cell 2).trans rfl; go_simp⟩, partsI_yield ?_⟩
  simp only [Act.put, List.setIfInBounds_toArray, List.set_cons_zero, List.set_cons_succ]
  simp only [List.cons_append, List.nil_append, List.append_nil, List.filterMap_cons, List.filterMap_nil, List.getElem?_toArray, List.getElem?_cons_zero, List.getElem?_cons_succ]
  go_wp2_with fail
  refine ⟨rfl, _, .tuple #[.agg (ftC q), .bool true], rfl, Or.inl ⟨by rfl, fun W hW => by have hW1 := HLK.out W hW.2.2; go_simp⟩, partsI_force ?_⟩
  simp only [Act.put, List.setIfInBounds_toArray, List.set_cons_zero, List.set_cons_succ]
  simp only [List.cons_append, List.nil_append, List.append_nil, List.filterMap_cons, List.filterMap_nil, List.getElem?_toArray, List.getElem?_cons_zero, List.getElem?_cons_succ]
  go_wp2_with fail
  refine ⟨rfl, hS1, partsI_force ?_⟩
  simp only [List.cons_append, List.nil_append, List.append_nil, List.filterMap_cons, List.filterMap_nil, List.getElem?_toArray, List.getElem?_cons_zero, List.getElem?_cons_succ]
  (refine wpList_store_row (by rfl) 150 _ _ (by rfl) (w4.heap.size) (ftC q) (by rfl) (by rfl) 150 (ftC ft00) (by exact q4) (sizeFt.trans (by rw [ftC_size])) (by simp only [ftC_size]) (ftC_all _) ?_; simp only [Act.put, List.setIfInBounds_toArray, List.set_cons_zero, List.set_cons_succ])
  go_wp2_with fail
  refine ⟨rfl, hS2, partsI_last ?_⟩
  simp only [List.cons_append, List.nil_append, List.append_nil, List.filterMap_cons, List.filterMap_nil, List.getElem?_toArray, List.getElem?_cons_zero, List.getElem?_cons_succ]
  go_wp2_with fail
  refine ⟨rfl, ?_⟩
  clear hS0 hS1 hS2 HLK q4
  generalize ((w4.alloc (.cells (ftC ft00) 150)).setRow w4.heap.size (ftC q)) = w5 at *
  go_wp2_with (first
    | (refine wpList_load_rowg (by rfl) 150 _ (by rfl) (w4.heap.size) (by rfl) 150 (ftC q) (0, 0) _ (by exact q5) Tryz.underlying150 (by rfl) (sizeFt.trans (by rw [ftC_size])) ?_; simp only [Act.put, List.setIfInBounds_toArray, List.set_cons_zero, List.set_cons_succ])
    | (refine wpList_store_row (by rfl) 150 _ _ (by rfl) (w.heap.size) (ftC q) (by rfl) (by rfl) 150 (_) (by exact r5) (sizeFt.trans (by rw [ftC_size])) (by simp only [ftC_size]) (ftC_all _) ?_; simp only [Act.put, List.setIfInBounds_toArray, List.set_cons_zero, List.set_cons_succ])
    | fail)
  try simp only [Exit.inBlock, Exit.then]
  refine bodyPost_ret (results_row2 Tryz.results61 _ _ (w.heap.size) 150 (ftC q) (0, 0) _ rfl (r5.set _) Tryz.underlying150 rfl (sizeFt.trans (by rw [ftC_size]))) rfl ?_
  exact ⟨rfl, below_setRow HB5.out (Nat.le_refl _) _⟩
set_option maxRecDepth 100000 in
set_option maxHeartbeats 4000000 in
theorem four_new (leaf : Int) (hh0 : 0 ≤ high) (hh1 : high ≤ 4096) (hlf : (high + 3) / 4 ≤ leaf) (q : Nat → Hd) (w : World) (hx : Blk w x 114 (ixC cp h R high top mf ml mc)) (hm : MapIs pkV ftV w mf L) (hl1 : ((findIn (0, 0, leaf) L).map ftV).getD (ftV ft00) = ftV q) (hl2 : (findIn (0, 0, leaf) L).isSome = false) : Calls Tryz.prog 61 #[.pointer (some ⟨x, 0, none⟩), .int .i64 leaf] w fun e w' => e = .returned (.tuple #[.agg (ftC q), .int .i64 0]) ∧ Below w.heap.size w w' := by
  have hz := zero_ft
  have HLK : Hid (∀ W, MapIs pkV ftV W mf L → (Instr.lookup 110 (.map (some mf)) (.agg #[.int .i64 0, .int .i64 0, .int .i64 leaf]) true).run Tryz.prog W = .ok (.tuple #[.agg (ftC q), .bool false]) W) := fun W hW => look_four hW _ q false hl1 hl2
  have hb1 : Below w.heap.size w (w.alloc (.cells (ftC ft00) 150)) := below_new1 _ _
  have r1 : Blk (w.alloc (.cells (ftC ft00) 150)) w.heap.size 150 (ftC ft00) := Blk.new _ _ _
  have HX1 : Hid (Blk (w.alloc (.cells (ftC ft00) 150)) x 114 (ixC cp h R high top mf ml mc)) := hx.below hb1 hx.lt
  have HM1 : Hid (MapIs pkV ftV (w.alloc (.cells (ftC ft00) 150)) mf L ∧ mf < w.heap.size) := ⟨hm.below hb1 (mapLt hm), (mapLt hm)⟩
  have HXL : Hid (x < w.heap.size) := hx.lt
  have HLT : Hid (∀ w : World, Calls Tryz.prog 60 #[.int .i64 high] w fun e w2 => e = .returned (.int .i64 ((high + 3) / 4)) ∧ w2 = w) := leavesTo_any high hh0 hh1
  have hge : (high + 3) / 4 ≤ leaf := hlf
  clear hx hm hl1 hl2
  go_enter Tryz.func61, Tryz.ntmps61
  go_wp2_with fail
  generalize (w.alloc (.cells (ftC ft00) 150)) = w1 at *
  refine (leafAt_any 0 leaf w1).mono ?_
  rintro e w2 ⟨rfl, hb2⟩
  unfold pkV
  have W2 : Below w2.heap.size w2 (w2.alloc (.cells #[.int .i64 0, .int .i64 0, .int .i64 leaf] 155)) := below_new1 _ _
  have p3 : Blk (w2.alloc (.cells #[.int .i64 0, .int .i64 0, .int .i64 leaf] 155)) w2.heap.size 155 #[.int .i64 0, .int .i64 0, .int .i64 leaf] := Blk.new _ _ _
  have hb23 : Below w1.heap.size w1 (w2.alloc (.cells #[.int .i64 0, .int .i64 0, .int .i64 leaf] 155)) := hb2.trans (W2.mono hb2.size)
  have x3 := HX1.out.below hb23 HX1.out.lt
  have m3 := HM1.out.1.below hb23 (mapLt HM1.out.1)
  have r3 := r1.below hb23 r1.lt
  have HB3 : Hid (Below w.heap.size w (w2.alloc (.cells #[.int .i64 0, .int .i64 0, .int .i64 leaf] 155)) ∧ w.heap.size < (w2.alloc (.cells #[.int .i64 0, .int .i64 0, .int .i64 leaf] 155)).heap.size) := ⟨hb1.trans (hb23.mono hb1.size), r3.lt⟩
  clear hb2 W2 hb23 hb1 HX1 HM1 r1
  go_wp2_with fail
  generalize (w2.alloc (.cells #[.int .i64 0, .int .i64 0, .int .i64 leaf] 155)) = w3 at *
  have hS0 : Blk w3.drew x 114 (ixC cp h R high top mf ml mc) ∧ Blk w3.drew w2.heap.size 155 #[.int .i64 0, .int .i64 0, .int .i64 leaf] ∧ MapIs pkV ftV w3.drew mf L := ⟨x3, p3, m3⟩
  have r3d : Blk w3.drew w.heap.size 150 (ftC ft00) := r3
  have HB3d : Hid (Below w.heap.size w w3.drew ∧ w.heap.size < w3.drew.heap.size) := ⟨HB3.out.1.drew, HB3.out.2⟩
  have X3d : Blk w3.drew x 114 (ixC cp h R high top mf ml mc) := x3
  clear x3 p3 m3 r3 HB3
  refine wp_region_partsS (fun W => Blk W x 114 (ixC cp h R high top mf ml mc) ∧ Blk W w2.heap.size 155 #[.int .i64 0, .int .i64 0, .int .i64 leaf] ∧ MapIs pkV ftV W mf L) [([0], 1, true), ([], 2, true), ([], 3, true), ([], 4, true), ([], 5, true), ([6, 7, 8], 9, false), ([], 10, false)] [11] [] (by kernel_rfl) (by kernel_rfl) hS0 (partsI_yield ?_)
  generalize w3.drew = w4 at *
  have q4 : Blk (w4.alloc (.cells (ftC ft00) 150)) w4.heap.size 150 (ftC ft00) := Blk.new _ _ _
  have q5 := q4.set (ftC q)
  have hb5 : Below w4.heap.size w4 ((w4.alloc (.cells (ftC ft00) 150)).setRow w4.heap.size (ftC q)) := below_setRow (below_new1 _ _) (Nat.le_refl _) _
  have r5 := r3d.below hb5 r3d.lt
  have X5 := X3d.below hb5 X3d.lt
  have c35 := ix_c35 X5
  have HB5 : Hid (Below w.heap.size w ((w4.alloc (.cells (ftC ft00) 150)).setRow w4.heap.size (ftC q))) := HB3d.out.1.trans (hb5.mono HB3d.out.1.size)
  have hS1 : Blk (w4.alloc (.cells (ftC ft00) 150)) x 114 (ixC cp h R high top mf ml mc) ∧ Blk (w4.alloc (.cells (ftC ft00) 150)) w2.heap.size 155 #[.int .i64 0, .int .i64 0, .int .i64 leaf] ∧ MapIs pkV ftV (w4.alloc (.cells (ftC ft00) 150)) mf L := ⟨hS0.1.alloc _, hS0.2.1.alloc _, hS0.2.2.below (below_new1 _ _) (mapLt hS0.2.2)⟩
  have hS2 : Blk ((w4.alloc (.cells (ftC ft00) 150)).setRow w4.heap.size (ftC q)) x 114 (ixC cp h R high top mf ml mc) ∧ Blk ((w4.alloc (.cells (ftC ft00) 150)).setRow w4.heap.size (ftC q)) w2.heap.size 155 #[.int .i64 0, .int .i64 0, .int .i64 leaf] ∧ MapIs pkV ftV ((w4.alloc (.cells (ftC ft00) 150)).setRow w4.heap.size (ftC q)) mf L := ⟨hS0.1.below hb5 hS0.1.lt, hS0.2.1.below hb5 hS0.2.1.lt, hS0.2.2.below hb5 (mapLt hS0.2.2)⟩
  clear X3d X5 hb5
  simp only [List.cons_append, List.nil_append, List.append_nil, List.filterMap_cons, List.filterMap_nil, List.getElem?_toArray, List.getElem?_cons_zero, List.getElem?_cons_succ]
  go_wp2_with fail
  refine ⟨rfl, _, .pointer (some ⟨x, 0, none⟩), rfl, Or.inl ⟨by rfl, fun W hW => by go_simp⟩, partsI_yield ?_⟩
  simp only [Act.put, List.setIfInBounds_toArray, List.set_cons_zero, List.set_cons_succ]
  simp only [List.cons_append, List.nil_append, List.append_nil, List.filterMap_cons, List.filterMap_nil, List.getElem?_toArray, List.getElem?_cons_zero, List.getElem?_cons_succ]
  go_wp2_with fail
  refine ⟨rfl, _, .pointer (some ⟨x, 37, none⟩), rfl, Or.inl ⟨by rfl, fun W hW => by go_simp⟩, partsI_yield ?_⟩
  simp only [Act.put, List.setIfInBounds_toArray, List.set_cons_zero, List.set_cons_succ]
  simp only [List.cons_append, List.nil_append, List.append_nil, List.filterMap_cons, List.filterMap_nil, List.getElem?_toArray, List.getElem?_cons_zero, List.getElem?_cons_succ]
  go_wp2_with fail
  refine ⟨rfl, _, .map (some mf), rfl, Or.inl ⟨by rfl, fun W hW => by have hW1 := ix_c37 hW.1; go_simp⟩, partsI_yield ?_⟩
  simp only [Act.put, List.setIfInBounds_toArray, List.set_cons_zero, List.set_cons_succ]
  simp only [List.cons_append, List.nil_append, List.append_nil, List.filterMap_cons, List.filterMap_nil, List.getElem?_toArray, List.getElem?_cons_zero, List.getElem?_cons_succ]
  go_wp2_with fail
  refine ⟨rfl, _, .agg #[.int .i64 0, .int .i64 0, .int .i64 leaf], rfl, Or.inl ⟨by rfl, fun W hW => by have hW0 : W.cell? ⟨w2.heap.size, 0, none⟩ = some (.int .i64 0) := (hW.2.1.cell 0).trans rfl; have hW1 : W.cell? ⟨w2.heap.size, 1, none⟩ = some (.int .i64 0) := (hW.2.1.cell 1).trans rfl; have hW2 : W.cell? ⟨w2.heap.size, 2, none⟩ = some (.int .i64 leaf) := (hW.2.1.cell 2).trans rfl; go_simp⟩, partsI_yield ?_⟩
  simp only [Act.put, List.setIfInBounds_toArray, List.set_cons_zero, List.set_cons_succ]
  simp only [List.cons_append, List.nil_append, List.append_nil, List.filterMap_cons, List.filterMap_nil, List.getElem?_toArray, List.getElem?_cons_zero, List.getElem?_cons_succ]
  go_wp2_with fail
  refine ⟨rfl, _, .tuple #[.agg (ftC q), .bool false], rfl, Or.inl ⟨by rfl, fun W hW => by have hW1 := HLK.out W hW.2.2; go_simp⟩, partsI_force ?_⟩
  simp only [Act.put, List.setIfInBounds_toArray, List.set_cons_zero, List.set_cons_succ]
  simp only [List.cons_append, List.nil_append, List.append_nil, List.filterMap_cons, List.filterMap_nil, List.getElem?_toArray, List.getElem?_cons_zero, List.getElem?_cons_succ]
  go_wp2_with fail
  refine ⟨rfl, hS1, partsI_force ?_⟩
  simp only [List.cons_append, List.nil_append, List.append_nil, List.filterMap_cons, List.filterMap_nil, List.getElem?_toArray, List.getElem?_cons_zero, List.getElem?_cons_succ]
  (refine wpList_store_row (by rfl) 150 _ _ (by rfl) (w4.heap.size) (ftC q) (by rfl) (by rfl) 150 (ftC ft00) (by exact q4) (sizeFt.trans (by rw [ftC_size])) (by simp only [ftC_size]) (ftC_all _) ?_; simp only [Act.put, List.setIfInBounds_toArray, List.set_cons_zero, List.set_cons_succ])
  go_wp2_with fail
  refine ⟨rfl, hS2, partsI_last ?_⟩
  simp only [List.cons_append, List.nil_append, List.append_nil, List.filterMap_cons, List.filterMap_nil, List.getElem?_toArray, List.getElem?_cons_zero, List.getElem?_cons_succ]
  go_wp2_with fail
  refine ⟨rfl, ?_⟩
  clear hS0 hS1 hS2 HLK q4
  generalize ((w4.alloc (.cells (ftC ft00) 150)).setRow w4.heap.size (ftC q)) = w5 at *
  go_wp2_with fail
  refine (HLT.out _).mono ?_
  rintro e _ ⟨rfl, rfl⟩
  go_wp2_with (first
    | (refine wpList_load_rowg (by rfl) 150 _ (by rfl) (w4.heap.size) (by rfl) 150 (ftC q) (0, 0) _ (by exact q5) Tryz.underlying150 (by rfl) (sizeFt.trans (by rw [ftC_size])) ?_; simp only [Act.put, List.setIfInBounds_toArray, List.set_cons_zero, List.set_cons_succ])
    | (refine wpList_store_row (by rfl) 150 _ _ (by rfl) (w.heap.size) (ftC q) (by rfl) (by rfl) 150 (_) (by exact r5) (sizeFt.trans (by rw [ftC_size])) (by simp only [ftC_size]) (ftC_all _) ?_; simp only [Act.put, List.setIfInBounds_toArray, List.set_cons_zero, List.set_cons_succ])
    | fail)
  try simp only [Exit.inBlock, Exit.then]
  refine bodyPost_ret (results_row2 Tryz.results61 _ _ (w.heap.size) 150 (ftC q) (0, 0) _ rfl (r5.set _) Tryz.underlying150 rfl (sizeFt.trans (by rw [ftC_size]))) rfl ?_
  exact ⟨rfl, below_setRow HB5.out (Nat.le_refl _) _⟩
end
end Go.Proofs.YtlhbkhmhoiknoaaGreatDoor

namespace Go.Proofs.YtlhbkhmhoiknoaaGreatDoor
open Go Go.RowKit
set_option linter.unusedSimpArgs false
set_option linter.unusedVariables false
theorem ftF_at (q : Nat → Hd) (i j : Nat) (hj : j < 45) : ftF q (i * 45 + j) = hdF (q i) j := by
  unfold ftF
  rw [show (i * 45 + j) / 45 = i by omega, show (i * 45 + j) % 45 = j by omega]
theorem ft_extract (q : Nat → Hd) (i : Nat) (hi : i < 4) : (ftC q).extract (i * 45) (i * 45 + 45) = hdC (q i) := by
  unfold ftC hdC
  rw [va_extract 180 (i * 45) 45 _ (by omega)]
  exact va_congr fun j hj => ftF_at q i j hj
theorem run_index_ft (q : Nat → Hd) (k : Nat) (hk : k < 4) (w : World) : (Instr.index 150 (.agg (ftC q)) (.int .i64 (k : Int))).run Tryz.prog w = .ok (.agg (hdC (q k))) w := by
  have hp := part_agg 118 45 _ Tryz.underlying118 rfl sizeHd (ftC q) (hdC (q k)) (k * 45) (ft_extract q k hk) w
  have hz := size_at 118 45 sizeHd w
  have h1 : (k : Int) < 4 := by omega
  simp [Instr.index, asIntOf, run_underlying Tryz.underlying150, h1, hz, hp]
  intro h
  omega
theorem ft_range {w : World} {b t : Nat} {q : Nat → Hd} (H : Blk w b t (ftC q)) (i : Nat) (hi : i < 4) : w.rangeAt b (i * 45) ((List.range 45).map (hdF (q i))) := by
  have := Blk.range (n := 180) (f := ftF q) H (i * 45) 45 (by omega)
  rw [show ((List.range 45).map fun j => ftF q (i * 45 + j)) = (List.range 45).map (hdF (q i)) from List.map_congr_left fun j hj => ftF_at q i j (List.mem_range.1 hj)] at this
  exact this
/-- one of the four another one -/
def ftU (q : Nat → Hd) (i : Nat) (x : Hd) : Nat → Hd := fun j => if j = i then x else q j
theorem ft_put {w : World} {b t : Nat} {q : Nat → Hd} (H : Blk w b t (ftC q)) (i : Nat) (hi : i < 4) (x : Hd) : Blk (w.setCells b (i * 45) (hdC x).toList) b t (ftC (ftU q i x)) := by
  have := Blk.cells_put (n := 180) (hdC x).toList (i * 45) w (ftF q) H
  rw [show va 180 (over (ftF q) (i * 45) (hdC x).toList) = ftC (ftU q i x) from va_congr fun k hk => ?_] at this
  · exact this
  · unfold over hdC
    rw [va_toList]
    simp only [List.length_map, List.length_range]
    by_cases hj : i * 45 ≤ k ∧ k < i * 45 + 45
    · rw [if_pos hj, List.getD_eq_getElem?_getD, List.getElem?_map, List.getElem?_range (by omega)]
      unfold ftF ftU
      rw [if_pos (by omega), show k % 45 = k - i * 45 by omega]
      rfl
    · rw [if_neg hj]
      unfold ftF ftU
      rw [if_neg (by omega)]
section
variable {x : Nat} {cp : Option Addr} {h : Int} {R : Rf} {high top : Int} {mf ml mc : Nat} {L : List ((Int × Int × Int) × (Nat → Hd))}
end
end Go.Proofs.YtlhbkhmhoiknoaaGreatDoor

namespace Go.Proofs.YtlhbkhmhoiknoaaGreatDoor
open Go Go.RowKit
set_option linter.unusedSimpArgs false
set_option linter.unusedVariables false
theorem res_tct {P : Program} {fn : Func} {p u v : Tmp} {ty : TypeId} (h : fn.results = #[.tmp u, .cell p ty, .tmp v]) (tmps : Array Value) (w : World) (g : Nat) (t : TypeId) (cs : Array Value) (fr : Nat × Nat) (d : TypeDesc)
    (hp : tmps.getD p undef = .pointer (some ⟨g, 0, none⟩)) (hg : w.heap[g]? = some (.cells cs t fr))
    (hu : P.underlying ty = some d) (hd : (match d with | .struct _ | .array _ _ => true | _ => false) = true) (hi : (P.info? ty).map (·.size) = some cs.size) :
    (results fn tmps).run P w = .ok (.tuple #[tmps.getD u undef, .agg cs, tmps.getD v undef]) w := by
  have hp' : tmps[p]?.getD undef = .pointer (some ⟨g, 0, none⟩) := by simpa using hp
  simp [results, h, hp', asAddr, run_loadVar_row w g t ty cs fr d hg hu hd hi]
section
variable {x : Nat} {cp : Option Addr} {h : Int} {R : Rf} {high top : Int} {mf ml mc : Nat} {L : List ((Int × Int × Int) × (Nat → Hd))}
end
end Go.Proofs.YtlhbkhmhoiknoaaGreatDoor

namespace Go.Proofs.YtlhbkhmhoiknoaaGreatDoor
open Go Go.RowKit
set_option linter.unusedSimpArgs false
set_option linter.unusedVariables false
section
variable {x : Nat} {cp : Option Addr} {h : Int} {R : Rf} {high top : Int} {mf ml mc : Nat} {L : List ((Int × Int × Int) × (Nat → Hd))}
/-- an inode with what it is now -/
def hdN (y : Hd) (n k l s : Int) (t : Nat) : Hd := ⟨y.o, n, k, l, s, t, y.left, y.set⟩
theorem hd_putNow {w : World} {b t : Nat} {y : Hd} (H : Blk w b t (hdC y)) (n k l s : Int) (u : Nat) : Blk (w.setCells b 38 [.int .i64 n, .int .i64 k, .int .i64 l, .int .i64 s, .int .u64 ((u : Nat) : Int)]) b t (hdC (hdN y n k l s u)) := by
  have := Blk.cells_put (n := 45) [.int .i64 n, .int .i64 k, .int .i64 l, .int .i64 s, .int .u64 ((u : Nat) : Int)] 38 w (hdF y) H
  rw [show va 45 (over (hdF y) 38 [.int .i64 n, .int .i64 k, .int .i64 l, .int .i64 s, .int .u64 ((u : Nat) : Int)]) = hdC (hdN y n k l s u) from va_congr fun i hi => ?_] at this
  · exact this
  · unfold over
    by_cases hj : 38 ≤ i ∧ i < 38 + [Value.int .i64 n, .int .i64 k, .int .i64 l, .int .i64 s, .int .u64 ((u : Nat) : Int)].length
    · rw [if_pos hj]
      have hj2 : i < 43 := hj.2
      unfold hdF nwF hdN
      rw [if_neg (by omega), if_pos hj2]
      obtain ⟨d, rfl⟩ : ∃ d, i = 38 + d := ⟨i - 38, by omega⟩
      rw [show 38 + d - 38 = d by omega]
      match d, (show d < 5 by omega) with
      | 0, _ => rfl
      | 1, _ => rfl
      | 2, _ => rfl
      | 3, _ => rfl
      | 4, _ => rfl
    · rw [if_neg hj]
      have hj2 : ¬ (38 ≤ i ∧ i < 43) := hj
      unfold hdF hdN
      by_cases h1 : i < 38
      · rw [if_pos h1, if_pos h1]
      · have h2 : ¬ i < 43 := fun h => hj2 ⟨by omega, h⟩
        rw [if_neg h1, if_neg h1, if_neg h2, if_neg h2]
set_option maxRecDepth 100000 in
set_option maxHeartbeats 4000000 in
theorem used_ok (n : Int) (h1 : 1 ≤ n) (h2 : n ≤ 4096) (q : Nat → Hd) (hq : (q ((n - 1) % 4).toNat).k ≠ 0) (w : World) (HF : ∀ V, Below w.heap.size w V → Calls Tryz.prog 61 #[.pointer (some ⟨x, 0, none⟩), .int .i64 ((n - 1) / 4)] V fun e w' => e = .returned (.tuple #[.agg (ftC q), .int .i64 0]) ∧ Below V.heap.size V w') : Calls Tryz.prog 66 #[.pointer (some ⟨x, 0, none⟩), .int .i64 n] w fun e w' => e = .returned (.tuple #[.agg (hdC (q ((n - 1) % 4).toNat)), .int .i64 0]) ∧ Below w.heap.size w w' := by
  have hz := zero_ft
  have hz2 := zero_hd
  have HWR := wrong_ok x n h1 h2
  have HPL : Hid (∀ V : World, Calls Tryz.prog 64 #[.int .i64 n] V fun e w' => e = .returned (.tuple #[.int .i64 ((n - 1) / 4), .int .i64 ((n - 1) % 4), .int .i64 0]) ∧ w' = V) := fun V => by
    have := place_any n ⟨by omega, by omega⟩ V
    rw [if_pos ⟨h1, h2⟩] at this
    exact this
  obtain ⟨pn, hpn, hp4⟩ : ∃ pn : Nat, (n - 1) % 4 = (pn : Int) ∧ pn < 4 := ⟨((n - 1) % 4).toNat, by omega, by omega⟩
  rw [hpn] at HPL hq ⊢
  have hpt : ((pn : Int)).toNat = pn := rfl
  rw [hpt] at hq ⊢
  have HWW : Hid (∀ w : World, Calls Tryz.prog 45 #[.pointer (some ⟨x, 0, none⟩), .int .i64 n] w fun e w' => e = .returned (.int .i64 0) ∧ w' = w) := HWR
  have HFF : Hid (∀ V, Below w.heap.size w V → Calls Tryz.prog 61 #[.pointer (some ⟨x, 0, none⟩), .int .i64 ((n - 1) / 4)] V fun e w' => e = .returned (.tuple #[.agg (ftC q), .int .i64 0]) ∧ Below V.heap.size V w') := HF
  have hb1 : Below w.heap.size w (w.alloc (.cells (hdC hd00) 118)) := below_new1 _ _
  have r1 : Blk (w.alloc (.cells (hdC hd00) 118)) w.heap.size 118 (hdC hd00) := Blk.new _ _ _
  have HIU : Hid (∀ w : World, Calls Tryz.prog 62 #[.agg (hdC (q pn))] w fun e w' => e = .returned (.bool true) ∧ Below w.heap.size w w') := fun w => by
    have := inUse_any (q pn) w
    rw [show ((q pn).k != 0) = true by simp [hq]] at this
    exact this
  have p0 : (0 : Int) ≤ (pn : Int) := by omega
  have p1 : (pn : Int) < 4 := by omega
  clear HF HWR hq hpn hpt h1 h2
  go_enter Tryz.func66, Tryz.ntmps66
  go_wp2_with fail
  have HF1 := HFF.out _ hb1
  generalize (w.alloc (.cells (hdC hd00) 118)) = w1 at *
  refine (HWW.out w1).mono ?_
  rintro e _ ⟨rfl, rfl⟩
  go_wp2_with fail
  refine (HPL.out _).mono ?_
  rintro e _ ⟨rfl, rfl⟩
  go_wp2_with fail
  refine HF1.mono ?_
  rintro e w2 ⟨rfl, hb2⟩
  have hb12 := hb1.trans (hb2.mono hb1.size)
  have r2 := r1.below hb2 r1.lt
  clear HF1 HFF hb2 hb1 r1 HWW HPL
  have f3 : Blk (w2.alloc (.cells (ftC ft00) 150)) w2.heap.size 150 (ftC ft00) := Blk.new _ _ _
  have f3' := f3.set (ftC q)
  have hb23 : Below w2.heap.size w2 ((w2.alloc (.cells (ftC ft00) 150)).setRow w2.heap.size (ftC q)) := below_setRow (below_new1 _ _) (Nat.le_refl _) _
  have r3 := r2.below hb23 r2.lt
  have HB3 : Hid (Below w.heap.size w ((w2.alloc (.cells (ftC ft00) 150)).setRow w2.heap.size (ftC q))) := hb12.trans (hb23.mono hb12.size)
  have HR3 : Hid (((w2.alloc (.cells (ftC ft00) 150)).setRow w2.heap.size (ftC q)).rangeAt w2.heap.size (pn * 45) ((List.range 45).map (hdF (q pn)))) := ft_range f3' pn hp4
  clear hb12 hb23 r2
  go_wp2_with (first
    | (refine wpList_store_row (by rfl) 150 _ _ (by rfl) (w2.heap.size) (ftC q) (by rfl) (by rfl) 150 (ftC ft00) (by exact f3) (sizeFt.trans (by rw [ftC_size])) (by simp only [ftC_size]) (ftC_all _) ?_; simp only [Act.put, List.setIfInBounds_toArray, List.set_cons_zero, List.set_cons_succ])
    | (refine wpList_load_blk (by rfl) 118 _ (by rfl) (w2.heap.size) (pn * 45) 45 (hdF (q pn)) (by rfl) _ (by exact HR3.out) Tryz.underlying118 rfl sizeHd ?_; simp only [Act.put, List.setIfInBounds_toArray, List.set_cons_zero, List.set_cons_succ])
    | fail)
  clear f3
  generalize ((w2.alloc (.cells (ftC ft00) 150)).setRow w2.heap.size (ftC q)) = w3 at *
  refine (HIU.out w3).mono ?_
  rintro e w4 ⟨rfl, hb4⟩
  have f4 := f3'.below hb4 f3'.lt
  have r4 := r3.below hb4 r3.lt
  have HR4 : Hid (w4.rangeAt w2.heap.size (pn * 45) ((List.range 45).map (hdF (q pn)))) := ft_range f4 pn hp4
  have HB4 : Hid (Below w.heap.size w w4) := HB3.out.trans (hb4.mono HB3.out.size)
  clear hb4 HB3 HR3 r3 f3' f4
  go_wp2_with (first
    | (refine wpList_load_blk (by rfl) 118 _ (by rfl) (w2.heap.size) (pn * 45) 45 (hdF (q pn)) (by rfl) _ (by exact HR4.out) Tryz.underlying118 rfl sizeHd ?_; simp only [Act.put, List.setIfInBounds_toArray, List.set_cons_zero, List.set_cons_succ])
    | (refine wpList_store_row (by rfl) 118 _ _ (by rfl) (w.heap.size) (hdC (q pn)) (by rfl) (by rfl) 118 (_) (by exact r4) (sizeHd.trans (by rw [hdC_size])) (by simp only [hdC_size]) (hdC_all _) ?_; simp only [Act.put, List.setIfInBounds_toArray, List.set_cons_zero, List.set_cons_succ])
    | fail)
  try simp only [Exit.inBlock, Exit.then]
  refine bodyPost_ret (results_row2 Tryz.results66 _ _ (w.heap.size) 118 (hdC (q pn)) (0, 0) _ rfl (r4.set _) Tryz.underlying118 rfl (sizeHd.trans (by rw [hdC_size]))) rfl ?_
  exact ⟨rfl, below_setRow HB4.out (Nat.le_refl _) _⟩
end
end Go.Proofs.YtlhbkhmhoiknoaaGreatDoor

namespace Go.Proofs.YtlhbkhmhoiknoaaGreatDoor
open Go Go.RowKit
set_option linter.unusedSimpArgs false
set_option linter.unusedVariables false
theorem hd_now {w : World} {b t : Nat} {y : Hd} (H : Blk w b t (hdC y)) : w.cell? ⟨b, 38, none⟩ = some (.int .i64 y.n) ∧ w.cell? ⟨b, 39, none⟩ = some (.int .i64 y.k) ∧ w.cell? ⟨b, 40, none⟩ = some (.int .i64 y.l) ∧ w.cell? ⟨b, 41, none⟩ = some (.int .i64 y.s) ∧ w.cell? ⟨b, 42, none⟩ = some (.int .u64 ((y.t : Nat) : Int)) :=
  ⟨H.cv (n := 45) (by decide), H.cv (n := 45) (by decide), H.cv (n := 45) (by decide), H.cv (n := 45) (by decide), H.cv (n := 45) (by decide)⟩
set_option maxRecDepth 100000 in
set_option maxHeartbeats 4000000 in
theorem get_any {xv : Value} (n er : Int) (y : Hd) (w : World) (HU : ∀ V, Below w.heap.size w V → Calls Tryz.prog 66 #[xv, .int .i64 n] V fun e w' => e = .returned (.tuple #[.agg (hdC y), .int .i64 er]) ∧ Below V.heap.size V w') : Calls Tryz.prog 40 #[xv, .int .i64 n] w fun e w' => e = .returned (.tuple #[.agg #[.int .i64 y.n, .int .i64 y.k, .int .i64 y.l, .int .i64 y.s, .int .u64 ((y.t : Nat) : Int)], .int .i64 er]) ∧ Below w.heap.size w w' := by
  have hz2 := zero_hd
  have hb1 : Below w.heap.size w (w.alloc (.cells #[.int .i64 0, .int .i64 0, .int .i64 0, .int .i64 0, .int .u64 0] 65)) := below_new1 _ _
  have r1 : Blk (w.alloc (.cells #[.int .i64 0, .int .i64 0, .int .i64 0, .int .i64 0, .int .u64 0] 65)) w.heap.size 65 #[.int .i64 0, .int .i64 0, .int .i64 0, .int .i64 0, .int .u64 0] := Blk.new _ _ _
  have HU1 := HU _ hb1
  clear HU
  go_enter Tryz.func40, Tryz.ntmps40
  go_wp2_with fail
  generalize (w.alloc (.cells #[.int .i64 0, .int .i64 0, .int .i64 0, .int .i64 0, .int .u64 0] 65)) = w1 at *
  refine HU1.mono ?_
  rintro e w2 ⟨rfl, hb2⟩
  have r2 := r1.below hb2 r1.lt
  have hb12 := hb1.trans (hb2.mono hb1.size)
  clear r1 hb1 hb2 HU1
  have q3 : Blk (w2.alloc (.cells (hdC hd00) 118)) w2.heap.size 118 (hdC hd00) := Blk.new _ _ _
  have q3' := q3.set (hdC y)
  obtain ⟨c38, c39, c40, c41, c42⟩ := hd_now q3'
  have hb23 : Below w2.heap.size w2 ((w2.alloc (.cells (hdC hd00) 118)).setRow w2.heap.size (hdC y)) := below_setRow (below_new1 _ _) (Nat.le_refl _) _
  have r3 := r2.below hb23 r2.lt
  have HB3 : Hid (Below w.heap.size w ((w2.alloc (.cells (hdC hd00) 118)).setRow w2.heap.size (hdC y))) := hb12.trans (hb23.mono hb12.size)
  clear r2 hb12 hb23 q3'
  have d0 : ((w2.alloc (.cells (hdC hd00) 118)).setRow w2.heap.size (hdC y)).cell? ⟨w.heap.size, 0, none⟩ = some (.int .i64 0) := (r3.cell 0).trans rfl
  have e0 : ((w2.alloc (.cells (hdC hd00) 118)).setRow w2.heap.size (hdC y)).frozen? ⟨w.heap.size, 0, none⟩ = false := r3.frozen 0
  have d1 : ((w2.alloc (.cells (hdC hd00) 118)).setRow w2.heap.size (hdC y)).cell? ⟨w.heap.size, 1, none⟩ = some (.int .i64 0) := (r3.cell 1).trans rfl
  have e1 : ((w2.alloc (.cells (hdC hd00) 118)).setRow w2.heap.size (hdC y)).frozen? ⟨w.heap.size, 1, none⟩ = false := r3.frozen 1
  have d2 : ((w2.alloc (.cells (hdC hd00) 118)).setRow w2.heap.size (hdC y)).cell? ⟨w.heap.size, 2, none⟩ = some (.int .i64 0) := (r3.cell 2).trans rfl
  have e2 : ((w2.alloc (.cells (hdC hd00) 118)).setRow w2.heap.size (hdC y)).frozen? ⟨w.heap.size, 2, none⟩ = false := r3.frozen 2
  have d3 : ((w2.alloc (.cells (hdC hd00) 118)).setRow w2.heap.size (hdC y)).cell? ⟨w.heap.size, 3, none⟩ = some (.int .i64 0) := (r3.cell 3).trans rfl
  have e3 : ((w2.alloc (.cells (hdC hd00) 118)).setRow w2.heap.size (hdC y)).frozen? ⟨w.heap.size, 3, none⟩ = false := r3.frozen 3
  have d4 : ((w2.alloc (.cells (hdC hd00) 118)).setRow w2.heap.size (hdC y)).cell? ⟨w.heap.size, 4, none⟩ = some (.int .u64 0) := (r3.cell 4).trans rfl
  have e4 : ((w2.alloc (.cells (hdC hd00) 118)).setRow w2.heap.size (hdC y)).frozen? ⟨w.heap.size, 4, none⟩ = false := r3.frozen 4
  have R4 : Hid (Blk (((((((w2.alloc (.cells (hdC hd00) 118)).setRow w2.heap.size (hdC y)).setCell ⟨w.heap.size, 0, none⟩ (.int .i64 y.n)).setCell ⟨w.heap.size, 1, none⟩ (.int .i64 y.k)).setCell ⟨w.heap.size, 2, none⟩ (.int .i64 y.l)).setCell ⟨w.heap.size, 3, none⟩ (.int .i64 y.s)).setCell ⟨w.heap.size, 4, none⟩ (.int .u64 ((y.t : Nat) : Int))) w.heap.size 65 #[.int .i64 y.n, .int .i64 y.k, .int .i64 y.l, .int .i64 y.s, .int .u64 ((y.t : Nat) : Int)]) := (((((r3.put 0 (.int .i64 y.n)).put 1 (.int .i64 y.k)).put 2 (.int .i64 y.l)).put 3 (.int .i64 y.s)).put 4 (.int .u64 ((y.t : Nat) : Int)))
  have HB4 : Hid (Below w.heap.size w (((((((w2.alloc (.cells (hdC hd00) 118)).setRow w2.heap.size (hdC y)).setCell ⟨w.heap.size, 0, none⟩ (.int .i64 y.n)).setCell ⟨w.heap.size, 1, none⟩ (.int .i64 y.k)).setCell ⟨w.heap.size, 2, none⟩ (.int .i64 y.l)).setCell ⟨w.heap.size, 3, none⟩ (.int .i64 y.s)).setCell ⟨w.heap.size, 4, none⟩ (.int .u64 ((y.t : Nat) : Int)))) := (((((HB3.out.setCell (Nat.le_refl _) _).setCell (Nat.le_refl _) _).setCell (Nat.le_refl _) _).setCell (Nat.le_refl _) _).setCell (Nat.le_refl _) _)
  clear r3 HB3
  go_wp2_with (first
    | (refine wpList_store_row (by rfl) 118 _ _ (by rfl) (w2.heap.size) (hdC y) (by rfl) (by rfl) 118 (hdC hd00) (by exact q3) (sizeHd.trans (by rw [hdC_size])) (by simp only [hdC_size]) (hdC_all _) ?_; simp only [Act.put, List.setIfInBounds_toArray, List.set_cons_zero, List.set_cons_succ])
    | fail)
  try simp only [Exit.inBlock, Exit.then]
  refine bodyPost_ret (results_row2 Tryz.results40 _ _ (w.heap.size) 65 #[.int .i64 y.n, .int .i64 y.k, .int .i64 y.l, .int .i64 y.s, .int .u64 ((y.t : Nat) : Int)] (0, 0) _ rfl R4.out Tryz.underlying65 rfl (by kernel_rfl)) rfl ?_
  exact ⟨rfl, HB4.out⟩
end Go.Proofs.YtlhbkhmhoiknoaaGreatDoor

namespace Go.Proofs.YtlhbkhmhoiknoaaGreatDoor
open Go Go.RowKit
set_option linter.unusedSimpArgs false
set_option linter.unusedVariables false
set_option maxRecDepth 100000 in
set_option maxHeartbeats 4000000 in
theorem used_nil (n : Int) (w : World) : Calls Tryz.prog 66 #[.pointer none, .int .i64 n] w fun e w' => e = .returned (.tuple #[.agg (hdC hd00), .int .i64 1]) ∧ Below w.heap.size w w' := by
  have hz2 := zero_hd
  have hb1 : Below w.heap.size w (w.alloc (.cells (hdC hd00) 118)) := below_new1 _ _
  have r1 : Blk (w.alloc (.cells (hdC hd00) 118)) w.heap.size 118 (hdC hd00) := Blk.new _ _ _
  go_enter Tryz.func66, Tryz.ntmps66
  go_wp2_with fail
  generalize (w.alloc (.cells (hdC hd00) 118)) = w1 at *
  refine (wrong_nil n w1).mono ?_
  rintro e w2 ⟨rfl, hw2⟩
  subst hw2
  go_wp2_with (first
    | (refine wpList_buildTo (by rfl) 118 #[] (by rfl) _ rfl (hdC hd00) (by exact built_hd0) ?_; simp only [Act.put, List.setIfInBounds_toArray, List.set_cons_zero, List.set_cons_succ])
    | (refine wpList_store_row (by rfl) 118 _ _ (by rfl) (w.heap.size) (hdC hd00) (by rfl) (by rfl) 118 (hdC hd00) (by exact r1) (sizeHd.trans (by rw [hdC_size])) (by simp only [hdC_size]) (hdC_all _) ?_; simp only [Act.put, List.setIfInBounds_toArray, List.set_cons_zero, List.set_cons_succ])
    | fail)
  try simp only [Exit.inBlock, Exit.then]
  refine bodyPost_ret (results_row2 Tryz.results66 _ _ (w.heap.size) 118 (hdC hd00) (0, 0) _ rfl (r1.set _) Tryz.underlying118 rfl (sizeHd.trans (by rw [hdC_size]))) rfl ?_
  exact ⟨rfl, below_setRow hb1 (Nat.le_refl _) _⟩
theorem get_nil (n : Int) (w : World) : Calls Tryz.prog 40 #[.pointer none, .int .i64 n] w fun e w' => e = .returned (.tuple #[.agg #[.int .i64 0, .int .i64 0, .int .i64 0, .int .i64 0, .int .u64 0], .int .i64 1]) ∧ Below w.heap.size w w' := get_any n 1 hd00 w fun V _ => used_nil n V
end Go.Proofs.YtlhbkhmhoiknoaaGreatDoor
