/- Maps in the memory told by a function: a look-up, a key stored, a key taken away. No program in it. -/
import Derived.Test.YtimjggkdpmgpjaaGreatDoorHCollKit
import Derived.Test.YtimjggkdpmgpjaaGreatDoorHIoChk
import Derived.Test.YtimjggkdpmgpjaaGreatDoorHMath
import Derived.Handy
import Derived.Deep.MidRow

namespace Go.Proofs.YtimjggkdpmgpjaaGreatDoor
theorem sgLHInsMap : (∀ (α : Type) (a : α) (l r : List α), (a :: l) ++ r = a :: (l ++ r)) ∧ (∀ (α : Type) (l : List α), [] ++ l = l) ∧ (∀ (α : Type) (l : List α), l ++ [] = l) ∧ (∀ (α β : Type) (f : α → Option β) (a : α) (l : List α), (a :: l).filterMap f = match f a with | none => l.filterMap f | some b => b :: l.filterMap f) ∧ (∀ (α β : Type) (f : α → Option β), [].filterMap f = []) ∧ (∀ (α : Type) (l : List α) (i : Nat), l.toArray[i]? = l[i]?) ∧ (∀ (α : Type) (a : α) (l : List α), (a :: l)[0]? = some a) ∧ (∀ (α : Type) (a : α) (l : List α) (i : Nat), (a :: l)[i + 1]? = l[i]?) :=
  ⟨fun _ _ _ _ => List.cons_append, fun _ _ => List.nil_append _, fun _ _ => List.append_nil _, fun _ _ _ _ _ => List.filterMap_cons, fun _ _ _ => List.filterMap_nil, fun _ _ _ => List.getElem?_toArray, fun _ _ _ => List.getElem?_cons_zero, fun _ _ _ _ => List.getElem?_cons_succ⟩
theorem sgPHInsMap : (∀ (α : Type) (l : List α) (i : Nat) (a : α), l.toArray.setIfInBounds i a = (l.set i a).toArray) ∧ (∀ (α : Type) (a b : α) (l : List α), (a :: l).set 0 b = b :: l) ∧ (∀ (α : Type) (a b : α) (l : List α) (i : Nat), (a :: l).set (i + 1) b = a :: l.set i b) :=
  ⟨fun _ _ _ _ => List.setIfInBounds_toArray _ _ _, fun _ _ _ _ => List.set_cons_zero, fun _ _ _ _ _ => List.set_cons_succ⟩
end Go.Proofs.YtimjggkdpmgpjaaGreatDoor
namespace Go.Proofs.YtimjggkdpmgpjaaGreatDoor
open Go Go.RowKit
set_option linter.unusedSimpArgs false
set_option linter.unusedVariables false

theorem wpList_load_blkI {P : Program} {ops : Array Oper} {rest : List Oper} {op : Oper} {a : Act} {w : World} {Q : Exit → Act → World → Prop} (hw : Region.wanted op (yielded ops a.tmps) = true) (ty : TypeId) (x : Operand) (ho : op.op = .load ty x)
    (b o n : Nat) (f : Nat → Value) (hx : a.eval x = .pointer (some ⟨b, o, none⟩)) (d : TypeDesc) (hc : w.rangeAt b o ((List.range n).map f))
    (hu : P.underlying ty = some d) (hd : d.isRow = true) (hi : (P.info? ty).map (·.size) = some n)
    (h : wpList P ops Q rest (a.put op.dst (.agg (va n f))) w) : wpList P ops Q (op :: rest) a w :=
  wpList_step fun K hK => by
    rw [if_pos hw]
    exact wp_load_mid ty x ho b o hx _ d hc hu hd (hi.trans (by simp)) (hK _ _ h)
/-- an inode as it is committed, and as it is now -/
structure Hd where
  o : Ino
  n : Int
  k : Int
  l : Int
  s : Int
  t : Nat
  left : Int
  set : Bool
def hd00 : Hd := ⟨in0, 0, 0, 0, 0, 0, 0, false⟩
def nwF (x : Hd) : Nat → Value := fun i => if i = 0 then .int .i64 x.n else if i = 1 then .int .i64 x.k else if i = 2 then .int .i64 x.l else if i = 3 then .int .i64 x.s else .int .u64 ((x.t : Nat) : Int)
def hdF (x : Hd) : Nat → Value := fun i => if i < 38 then inF x.o i else if i < 43 then nwF x (i - 38) else if i = 43 then .int .i64 x.left else .bool x.set
def hdC (x : Hd) : Array Value := va 45 (hdF x)
theorem hdC_size (x : Hd) : (hdC x).size = 45 := va_size _ _
theorem hdF_one (x : Hd) (i : Nat) : (hdF x i).oneCell' = true := by
  unfold hdF
  split
  · exact inF_one _ _
  · split
    · unfold nwF
      split
      · rfl
      · split
        · rfl
        · split
          · rfl
          · split <;> rfl
    · split <;> rfl
theorem hdC_all (x : Hd) : (hdC x).all (·.oneCell') = true := va_one fun i _ => hdF_one _ _
/-- four of them -/
def ftF (q : Nat → Hd) : Nat → Value := fun i => hdF (q (i / 45)) (i % 45)
def ftC (q : Nat → Hd) : Array Value := va 180 (ftF q)
theorem ftC_size (q : Nat → Hd) : (ftC q).size = 180 := va_size _ _
theorem ftC_all (q : Nat → Hd) : (ftC q).all (·.oneCell') = true := va_one fun i _ => hdF_one _ _
def ft00 : Nat → Hd := fun _ => hd00
theorem sizeHd : (Tryz.prog.info? 140).map (·.size) = some 45 := by kernel_rfl
theorem sizeFt : (Tryz.prog.info? 183).map (·.size) = some 180 := by kernel_rfl
theorem zero_hd (w : World) : (zeroValue 140).run Tryz.prog w = .ok (.agg (hdC hd00)) w := zero_of (by kernel_rfl) w
theorem zero_ft (w : World) : (zeroValue 183).run Tryz.prog w = .ok (.agg (ftC ft00)) w := zero_of (by kernel_rfl) w
/-- Inodes in the memory -/
def ixF (cp : Option Addr) (h : Int) (R : Rf) (high top : Int) (mf ml mc : Nat) : Nat → Value := fun i => if i = 0 then .pointer cp else if i < 35 then tiF h R (i - 1) else if i = 35 then .int .i64 high else if i = 36 then .int .i64 top else if i = 37 then .map (some mf) else if i = 38 then .map (some ml) else .map (some mc)
def ixC (cp : Option Addr) (h : Int) (R : Rf) (high top : Int) (mf ml mc : Nat) : Array Value := va 40 (ixF cp h R high top mf ml mc)
theorem built_ix (cp : Option Addr) (h : Int) (R : Rf) (a b : Int) (mf ml mc : Nat) : Tryz.prog.built 136 [(0, .pointer cp), (1, .agg (tiC h R)), (2, .int .i64 a), (3, .int .i64 b), (4, .map (some mf)), (5, .map (some ml)), (6, .map (some mc))] = some (ixC cp h R a b mf ml mc) := by kernel_rfl
section
variable {w : World} {x : Nat} {cp : Option Addr} {h : Int} {R : Rf} {high top : Int} {mf ml mc : Nat}
theorem ix_c35 (H : Blk w x 136 (ixC cp h R high top mf ml mc)) : w.cell? ⟨x, 35, none⟩ = some (.int .i64 high) := H.cv (n := 40) (by decide)
theorem ix_c36 (H : Blk w x 136 (ixC cp h R high top mf ml mc)) : w.cell? ⟨x, 36, none⟩ = some (.int .i64 top) := H.cv (n := 40) (by decide)
theorem ix_c37 (H : Blk w x 136 (ixC cp h R high top mf ml mc)) : w.cell? ⟨x, 37, none⟩ = some (.map (some mf)) := H.cv (n := 40) (by decide)
theorem ix_c38 (H : Blk w x 136 (ixC cp h R high top mf ml mc)) : w.cell? ⟨x, 38, none⟩ = some (.map (some ml)) := H.cv (n := 40) (by decide)
theorem ix_c39 (H : Blk w x 136 (ixC cp h R high top mf ml mc)) : w.cell? ⟨x, 39, none⟩ = some (.map (some mc)) := H.cv (n := 40) (by decide)
theorem ix_top (top' : Int) : (ixC cp h R high top mf ml mc).setIfInBounds 36 (.int .i64 top') = ixC cp h R high top' mf ml mc := by
  unfold ixC
  rw [va_set]
  refine va_congr fun i hi => ?_
  unfold upd ixF
  by_cases e : i = 36
  · subst e
    rfl
  · rw [if_neg e]
    by_cases e0 : i = 0
    · rw [if_pos e0, if_pos e0]
    · rw [if_neg e0, if_neg e0]
      by_cases e1 : i < 35
      · rw [if_pos e1, if_pos e1]
      · rw [if_neg e1, if_neg e1]
        by_cases e2 : i = 35
        · rw [if_pos e2, if_pos e2]
        · rw [if_neg e2, if_neg e2, if_neg e, if_neg e]
end
theorem mapLt {α β : Type} {K : α → Value} {V : β → Value} {w : World} {r : Nat} {l : List (α × β)} (h : MapIs K V w r l) : r < w.heap.size := by
  obtain ⟨es, clock, hg, _⟩ := h
  exact (Array.getElem?_eq_some_iff.1 hg).1
/-- positions as keys -/
def pkV (p : Int × Int × Int) : Value := .agg #[.int .i64 p.1, .int .i64 p.2.1, .int .i64 p.2.2]
def ftV (q : Nat → Hd) : Value := .agg (ftC q)
theorem eq_pk (d : Nat) (a b : Int × Int × Int) (w : World) : (Op.equalIn (d + 1 + 1) 188 (pkV a) (pkV b)).run Tryz.prog w = .ok (decide (a = b)) w := by
  unfold pkV
  have h1 : ∀ x y : Int, (Op.equalIn (d + 1) 3 (.int .i64 x) (.int .i64 y)).run Tryz.prog w = .ok (x == y) w := fun x y => by simp [Op.equalIn, run_underlying Tryz.underlying3]
  have p1 : ∀ x y z : Int, (part 3 #[.int .i64 x, .int .i64 y, .int .i64 z] 0).run Tryz.prog w = .ok (.int .i64 x) w := fun x y z => by simp [part, isAgg, run_underlying Tryz.underlying3]
  have p2 : ∀ x y z : Int, (part 3 #[.int .i64 x, .int .i64 y, .int .i64 z] 1).run Tryz.prog w = .ok (.int .i64 y) w := fun x y z => by simp [part, isAgg, run_underlying Tryz.underlying3]
  have p3 : ∀ x y z : Int, (part 3 #[.int .i64 x, .int .i64 y, .int .i64 z] 2).run Tryz.prog w = .ok (.int .i64 z) w := fun x y z => by simp [part, isAgg, run_underlying Tryz.underlying3]
  rw [Op.equalIn]
  simp only [Sem.run_bind, run_underlying Tryz.underlying188, Result.andThen_ok]
  simp [Op.eqFields, p1, p2, p3, h1]
  obtain ⟨a1, a2, a3⟩ := a
  obtain ⟨b1, b2, b3⟩ := b
  by_cases ha : a1 = b1
  · subst ha
    by_cases hb : a2 = b2
    · subst hb
      by_cases hc : a3 = b3
      · subst hc
        simp
      · simp [hc]
    · simp [hb]
  · simp [ha]
theorem chk_pk (d : Nat) (e : Bool) (a : Int × Int × Int) (w : World) : (Instr.checkKey e (d + 1 + 1) 188 (pkV a)).run Tryz.prog w = .ok () w := by
  unfold pkV
  have h1 : ∀ x : Int, (Instr.checkKey e (d + 1) 3 (.int .i64 x)).run Tryz.prog w = .ok () w := fun x => by simp [Instr.checkKey, run_underlying Tryz.underlying3]
  have p1 : ∀ x y z : Int, (part 3 #[.int .i64 x, .int .i64 y, .int .i64 z] 0).run Tryz.prog w = .ok (.int .i64 x) w := fun x y z => by simp [part, isAgg, run_underlying Tryz.underlying3]
  have p2 : ∀ x y z : Int, (part 3 #[.int .i64 x, .int .i64 y, .int .i64 z] 1).run Tryz.prog w = .ok (.int .i64 y) w := fun x y z => by simp [part, isAgg, run_underlying Tryz.underlying3]
  have p3 : ∀ x y z : Int, (part 3 #[.int .i64 x, .int .i64 y, .int .i64 z] 2).run Tryz.prog w = .ok (.int .i64 z) w := fun x y z => by simp [part, isAgg, run_underlying Tryz.underlying3]
  rw [Instr.checkKey]
  simp only [Sem.run_bind, run_underlying Tryz.underlying188, Result.andThen_ok]
  simp [p1, p2, p3, h1]
theorem pk_key : KeyOf Tryz.prog 188 pkV where
  desc := ⟨_, Tryz.underlying188, (fun k h => by cases h), (fun h => by cases h), (fun h => by cases h)⟩
  eq a b w := eq_pk 9998 a b w
  chk e a w := chk_pk 9998 e a w
end Go.Proofs.YtimjggkdpmgpjaaGreatDoor

namespace Go.Proofs.YtimjggkdpmgpjaaGreatDoor
open Go Go.RowKit
set_option linter.unusedSimpArgs false
set_option linter.unusedVariables false
theorem leafAt_any (n p : Int) (w : World) : Calls Tryz.prog 76 #[.int .i64 n, .int .i64 p] w fun e w' => e = .returned (pkV (n, 0, p)) ∧ Below w.heap.size w w' := by
  unfold pkV
  have hb : Below w.heap.size w (w.alloc (.cells #[.int .i64 n, .int .i64 0, .int .i64 p] 188)) := below_new1 w _
  go_enter Tryz.func76, Tryz.ntmps76
  have hk : Blk (w.alloc (.cells #[.int .i64 n, .int .i64 0, .int .i64 p] 188)) w.heap.size 188 #[.int .i64 n, .int .i64 0, .int .i64 p] := Blk.new _ _ _
  go_wp2_with fail
  try simp only [Exit.inBlock, Exit.then]
  refine bodyPost_ret (results_cell_row Tryz.results76 _ _ (w.heap.size) 188 _ (0, 0) _ rfl hk Tryz.underlying188 rfl (by kernel_rfl)) rfl ?_
  exact ⟨rfl, hb⟩
theorem leavesTo_any (n : Int) (h0 : 0 ≤ n) (h1 : n ≤ 4096) (w : World) : Calls Tryz.prog 71 #[.int .i64 n] w fun e w' => e = .returned (.int .i64 ((n + 3) / 4)) ∧ w' = w := by
  have e1 : (n + 4 - 1).tdiv 4 = (n + 3) / 4 := by
    rw [show n + 4 - 1 = n + 3 by omega]
    exact Int.tdiv_eq_ediv_of_nonneg (by omega)
  have e2 : (n + 3).tdiv 4 = (n + 3) / 4 := Int.tdiv_eq_ediv_of_nonneg (by omega)
  go_enter Tryz.func71, Tryz.ntmps71
  go_wp2_with fail
  go_ret
  exact ⟨rfl, rfl⟩
theorem numberAt_any (l p : Int) (h0 : 0 ≤ l) (h1 : l ≤ 4096) (h2 : 0 ≤ p) (h3 : p ≤ 4) (w : World) : Calls Tryz.prog 74 #[.int .i64 l, .int .i64 p] w fun e w' => e = .returned (.int .i64 (l * 4 + p + 1)) ∧ w' = w := by
  go_enter Tryz.func74, Tryz.ntmps74
  go_wp2_with fail
  go_ret
  exact ⟨rfl, rfl⟩
theorem hd_c39 {w : World} {b t : Nat} {x : Hd} (H : Blk w b t (hdC x)) : w.cell? ⟨b, 39, none⟩ = some (.int .i64 x.k) := H.cv (n := 45) (by decide)
theorem inUse_any (x : Hd) (w : World) : Calls Tryz.prog 73 #[.agg (hdC x)] w fun e w' => e = .returned (.bool (x.k != 0)) ∧ Below w.heap.size w w' := by
  have hb : Below w.heap.size w (w.alloc (.cells (hdC x) 140)) := below_new1 w _
  have c := hd_c39 (Blk.new w 140 (hdC x))
  go_enter Tryz.func73, Tryz.ntmps73
  go_wp2_with fail
  go_ret
  exact ⟨rfl, hb⟩
theorem wrong_ok (x : Nat) (n : Int) (h1 : 1 ≤ n) (h2 : n ≤ 4096) (w : World) : Calls Tryz.prog 83 #[.pointer (some ⟨x, 0, none⟩), .int .i64 n] w fun e w' => e = .returned (.int .i64 0) ∧ w' = w := by
  have HP := place_any n ⟨by omega, by omega⟩ w
  rw [if_pos ⟨h1, h2⟩] at HP
  go_enter Tryz.func83, Tryz.ntmps83
  go_wp2_with fail
  refine HP.mono ?_
  rintro e w1 ⟨rfl, rfl⟩
  go_wp2_with fail
  go_ret
  exact ⟨rfl, rfl⟩
end Go.Proofs.YtimjggkdpmgpjaaGreatDoor

namespace Go.Proofs.YtimjggkdpmgpjaaGreatDoor
open Go Go.RowKit
set_option linter.unusedSimpArgs false
set_option linter.unusedVariables false
section
variable {x : Nat} {cp : Option Addr} {h : Int} {R : Rf} {high top : Int} {mf ml mc : Nat} {L : List ((Int × Int × Int) × (Nat → Hd))}
theorem look_four {w : World} (H : MapIs pkV ftV w mf L) (k : Int × Int × Int) (q : Nat → Hd) (b : Bool) (h1 : ((findIn k L).map ftV).getD (ftV ft00) = ftV q) (h2 : (findIn k L).isSome = b) : (Instr.lookup 132 (.map (some mf)) (pkV k) true).run Tryz.prog w = .ok (.tuple #[.agg (ftC q), .bool b]) w := by
  have := run_lookup_is Tryz.underlying132 pk_key (z := ftV ft00) (fun w => zero_ft w) H k true
  rw [h1, h2] at this
  exact this
set_option maxRecDepth 100000 in
set_option maxHeartbeats 4000000 in
theorem four_hit (leaf : Int) (q : Nat → Hd) (w : World) (hx : Blk w x 136 (ixC cp h R high top mf ml mc)) (hm : MapIs pkV ftV w mf L) (hl1 : ((findIn (0, 0, leaf) L).map ftV).getD (ftV ft00) = ftV q) (hl2 : (findIn (0, 0, leaf) L).isSome = true) : Calls Tryz.prog 72 #[.pointer (some ⟨x, 0, none⟩), .int .i64 leaf] w fun e w' => e = .returned (.tuple #[.agg (ftC q), .int .i64 0]) ∧ Below w.heap.size w w' := by
  have hz := zero_ft
  have HLK : Hid (∀ W, MapIs pkV ftV W mf L → (Instr.lookup 132 (.map (some mf)) (.agg #[.int .i64 0, .int .i64 0, .int .i64 leaf]) true).run Tryz.prog W = .ok (.tuple #[.agg (ftC q), .bool true]) W) := fun W hW => look_four hW _ q true hl1 hl2
  have hb1 : Below w.heap.size w (w.alloc (.cells (ftC ft00) 183)) := below_new1 _ _
  have r1 : Blk (w.alloc (.cells (ftC ft00) 183)) w.heap.size 183 (ftC ft00) := Blk.new _ _ _
  have HX1 : Hid (Blk (w.alloc (.cells (ftC ft00) 183)) x 136 (ixC cp h R high top mf ml mc)) := hx.below hb1 hx.lt
  have HM1 : Hid (MapIs pkV ftV (w.alloc (.cells (ftC ft00) 183)) mf L ∧ mf < w.heap.size) := ⟨hm.below hb1 (mapLt hm), (mapLt hm)⟩
  have HXL : Hid (x < w.heap.size) := hx.lt


  clear hx hm hl1 hl2
  go_enter Tryz.func72, Tryz.ntmps72
  go_wp2_with fail
  generalize (w.alloc (.cells (ftC ft00) 183)) = w1 at *
  refine (leafAt_any 0 leaf w1).mono ?_
  rintro e w2 ⟨rfl, hb2⟩
  unfold pkV
  have W2 : Below w2.heap.size w2 (w2.alloc (.cells #[.int .i64 0, .int .i64 0, .int .i64 leaf] 188)) := below_new1 _ _
  have p3 : Blk (w2.alloc (.cells #[.int .i64 0, .int .i64 0, .int .i64 leaf] 188)) w2.heap.size 188 #[.int .i64 0, .int .i64 0, .int .i64 leaf] := Blk.new _ _ _
  have hb23 : Below w1.heap.size w1 (w2.alloc (.cells #[.int .i64 0, .int .i64 0, .int .i64 leaf] 188)) := hb2.trans (W2.mono hb2.size)
  have x3 := HX1.out.below hb23 HX1.out.lt
  have m3 := HM1.out.1.below hb23 (mapLt HM1.out.1)
  have r3 := r1.below hb23 r1.lt
  have HB3 : Hid (Below w.heap.size w (w2.alloc (.cells #[.int .i64 0, .int .i64 0, .int .i64 leaf] 188)) ∧ w.heap.size < (w2.alloc (.cells #[.int .i64 0, .int .i64 0, .int .i64 leaf] 188)).heap.size) := ⟨hb1.trans (hb23.mono hb1.size), r3.lt⟩
  clear hb2 W2 hb23 hb1 HX1 HM1 r1
  go_wp2_with fail
  generalize (w2.alloc (.cells #[.int .i64 0, .int .i64 0, .int .i64 leaf] 188)) = w3 at *
  have hS0 : Blk w3.drew x 136 (ixC cp h R high top mf ml mc) ∧ Blk w3.drew w2.heap.size 188 #[.int .i64 0, .int .i64 0, .int .i64 leaf] ∧ MapIs pkV ftV w3.drew mf L := ⟨x3, p3, m3⟩
  have r3d : Blk w3.drew w.heap.size 183 (ftC ft00) := r3
  have HB3d : Hid (Below w.heap.size w w3.drew ∧ w.heap.size < w3.drew.heap.size) := ⟨HB3.out.1.drew, HB3.out.2⟩
  have X3d : Blk w3.drew x 136 (ixC cp h R high top mf ml mc) := x3
  clear x3 p3 m3 r3 HB3
  refine wp_region_partsS (fun W => Blk W x 136 (ixC cp h R high top mf ml mc) ∧ Blk W w2.heap.size 188 #[.int .i64 0, .int .i64 0, .int .i64 leaf] ∧ MapIs pkV ftV W mf L) [([0], 1, true), ([], 2, true), ([], 3, true), ([], 4, true), ([], 5, true), ([6, 7, 8], 9, false), ([], 10, false)] [11] [] (by kernel_rfl) (by kernel_rfl) hS0 (partsI_yield ?_)
  generalize w3.drew = w4 at *
  have q4 : Blk (w4.alloc (.cells (ftC ft00) 183)) w4.heap.size 183 (ftC ft00) := Blk.new _ _ _
  have q5 := q4.set (ftC q)
  have hb5 : Below w4.heap.size w4 ((w4.alloc (.cells (ftC ft00) 183)).setRow w4.heap.size (ftC q)) := below_setRow (below_new1 _ _) (Nat.le_refl _) _
  have r5 := r3d.below hb5 r3d.lt
  have X5 := X3d.below hb5 X3d.lt
  have c35 := ix_c35 X5
  have HB5 : Hid (Below w.heap.size w ((w4.alloc (.cells (ftC ft00) 183)).setRow w4.heap.size (ftC q))) := HB3d.out.1.trans (hb5.mono HB3d.out.1.size)
  have hS1 : Blk (w4.alloc (.cells (ftC ft00) 183)) x 136 (ixC cp h R high top mf ml mc) ∧ Blk (w4.alloc (.cells (ftC ft00) 183)) w2.heap.size 188 #[.int .i64 0, .int .i64 0, .int .i64 leaf] ∧ MapIs pkV ftV (w4.alloc (.cells (ftC ft00) 183)) mf L := ⟨hS0.1.alloc _, hS0.2.1.alloc _, hS0.2.2.below (below_new1 _ _) (mapLt hS0.2.2)⟩
  have hS2 : Blk ((w4.alloc (.cells (ftC ft00) 183)).setRow w4.heap.size (ftC q)) x 136 (ixC cp h R high top mf ml mc) ∧ Blk ((w4.alloc (.cells (ftC ft00) 183)).setRow w4.heap.size (ftC q)) w2.heap.size 188 #[.int .i64 0, .int .i64 0, .int .i64 leaf] ∧ MapIs pkV ftV ((w4.alloc (.cells (ftC ft00) 183)).setRow w4.heap.size (ftC q)) mf L := ⟨hS0.1.below hb5 hS0.1.lt, hS0.2.1.below hb5 hS0.2.1.lt, hS0.2.2.below hb5 (mapLt hS0.2.2)⟩
  clear X3d X5 hb5
  simp only [sgLHInsMap]
  go_wp2_with fail
  refine ⟨rfl, _, .pointer (some ⟨x, 0, none⟩), rfl, Or.inl ⟨by rfl, fun W hW => by go_simp⟩, partsI_yield ?_⟩
  simp only [Act.put, sgPHInsMap]
  simp only [sgLHInsMap]
  go_wp2_with fail
  refine ⟨rfl, _, .pointer (some ⟨x, 37, none⟩), rfl, Or.inl ⟨by rfl, fun W hW => by go_simp⟩, partsI_yield ?_⟩
  simp only [Act.put, sgPHInsMap]
  simp only [sgLHInsMap]
  go_wp2_with fail
  refine ⟨rfl, _, .map (some mf), rfl, Or.inl ⟨by rfl, fun W hW => by have hW1 := ix_c37 hW.1; go_simp⟩, partsI_yield ?_⟩
  simp only [Act.put, sgPHInsMap]
  simp only [sgLHInsMap]
  go_wp2_with fail
  refine ⟨rfl, _, .agg #[.int .i64 0, .int .i64 0, .int .i64 leaf], rfl, Or.inl ⟨by rfl, fun W hW => by have hW0 : W.cell? ⟨w2.heap.size, 0, none⟩ = some (.int .i64 0) := (hW.2.1.cell 0).trans rfl; have hW1 : W.cell? ⟨w2.heap.size, 1, none⟩ = some (.int .i64 0) := (hW.2.1.cell 1).trans rfl; have hW2 : W.cell? ⟨w2.heap.size, 2, none⟩ = some (.int .i64 leaf) := (hW.2.1.cell 2).trans rfl; go_simp⟩, partsI_yield ?_⟩
  simp only [Act.put, sgPHInsMap]
  simp only [sgLHInsMap]
  go_wp2_with fail
  refine ⟨rfl, _, .tuple #[.agg (ftC q), .bool true], rfl, Or.inl ⟨by rfl, fun W hW => by have hW1 := HLK.out W hW.2.2; go_simp⟩, partsI_force ?_⟩
  simp only [Act.put, sgPHInsMap]
  simp only [sgLHInsMap]
  go_wp2_with fail
  refine ⟨rfl, hS1, partsI_force ?_⟩
  simp only [sgLHInsMap]
  (refine wpList_store_row (by rfl) 183 _ _ (by rfl) (w4.heap.size) (ftC q) (by rfl) (by rfl) 183 (ftC ft00) (by exact q4) (sizeFt.trans (by rw [ftC_size])) (by simp only [ftC_size]) (ftC_all _) ?_; simp only [Act.put, sgPHInsMap])
  go_wp2_with fail
  refine ⟨rfl, hS2, partsI_last ?_⟩
  simp only [sgLHInsMap]
  go_wp2_with fail
  refine ⟨rfl, ?_⟩
  clear hS0 hS1 hS2 HLK q4
  generalize ((w4.alloc (.cells (ftC ft00) 183)).setRow w4.heap.size (ftC q)) = w5 at *
  go_wp2_with (first
    | (refine wpList_load_rowg (by rfl) 183 _ (by rfl) (w4.heap.size) (by rfl) 183 (ftC q) (0, 0) _ (by exact q5) Tryz.underlying183 (by rfl) (sizeFt.trans (by rw [ftC_size])) ?_; simp only [Act.put, sgPHInsMap])
    | (refine wpList_store_row (by rfl) 183 _ _ (by rfl) (w.heap.size) (ftC q) (by rfl) (by rfl) 183 (_) (by exact r5) (sizeFt.trans (by rw [ftC_size])) (by simp only [ftC_size]) (ftC_all _) ?_; simp only [Act.put, sgPHInsMap])
    | fail)
  try simp only [Exit.inBlock, Exit.then]
  refine bodyPost_ret (results_row2 Tryz.results72 _ _ (w.heap.size) 183 (ftC q) (0, 0) _ rfl (r5.set _) Tryz.underlying183 rfl (sizeFt.trans (by rw [ftC_size]))) rfl ?_
  exact ⟨rfl, below_setRow HB5.out (Nat.le_refl _) _⟩
set_option maxRecDepth 100000 in
set_option maxHeartbeats 4000000 in
theorem four_new (leaf : Int) (hh0 : 0 ≤ high) (hh1 : high ≤ 4096) (hlf : (high + 3) / 4 ≤ leaf) (q : Nat → Hd) (w : World) (hx : Blk w x 136 (ixC cp h R high top mf ml mc)) (hm : MapIs pkV ftV w mf L) (hl1 : ((findIn (0, 0, leaf) L).map ftV).getD (ftV ft00) = ftV q) (hl2 : (findIn (0, 0, leaf) L).isSome = false) : Calls Tryz.prog 72 #[.pointer (some ⟨x, 0, none⟩), .int .i64 leaf] w fun e w' => e = .returned (.tuple #[.agg (ftC q), .int .i64 0]) ∧ Below w.heap.size w w' := by
  have hz := zero_ft
  have HLK : Hid (∀ W, MapIs pkV ftV W mf L → (Instr.lookup 132 (.map (some mf)) (.agg #[.int .i64 0, .int .i64 0, .int .i64 leaf]) true).run Tryz.prog W = .ok (.tuple #[.agg (ftC q), .bool false]) W) := fun W hW => look_four hW _ q false hl1 hl2
  have hb1 : Below w.heap.size w (w.alloc (.cells (ftC ft00) 183)) := below_new1 _ _
  have r1 : Blk (w.alloc (.cells (ftC ft00) 183)) w.heap.size 183 (ftC ft00) := Blk.new _ _ _
  have HX1 : Hid (Blk (w.alloc (.cells (ftC ft00) 183)) x 136 (ixC cp h R high top mf ml mc)) := hx.below hb1 hx.lt
  have HM1 : Hid (MapIs pkV ftV (w.alloc (.cells (ftC ft00) 183)) mf L ∧ mf < w.heap.size) := ⟨hm.below hb1 (mapLt hm), (mapLt hm)⟩
  have HXL : Hid (x < w.heap.size) := hx.lt
  have HLT : Hid (∀ w : World, Calls Tryz.prog 71 #[.int .i64 high] w fun e w2 => e = .returned (.int .i64 ((high + 3) / 4)) ∧ w2 = w) := leavesTo_any high hh0 hh1
  have hge : (high + 3) / 4 ≤ leaf := hlf
  clear hx hm hl1 hl2
  go_enter Tryz.func72, Tryz.ntmps72
  go_wp2_with fail
  generalize (w.alloc (.cells (ftC ft00) 183)) = w1 at *
  refine (leafAt_any 0 leaf w1).mono ?_
  rintro e w2 ⟨rfl, hb2⟩
  unfold pkV
  have W2 : Below w2.heap.size w2 (w2.alloc (.cells #[.int .i64 0, .int .i64 0, .int .i64 leaf] 188)) := below_new1 _ _
  have p3 : Blk (w2.alloc (.cells #[.int .i64 0, .int .i64 0, .int .i64 leaf] 188)) w2.heap.size 188 #[.int .i64 0, .int .i64 0, .int .i64 leaf] := Blk.new _ _ _
  have hb23 : Below w1.heap.size w1 (w2.alloc (.cells #[.int .i64 0, .int .i64 0, .int .i64 leaf] 188)) := hb2.trans (W2.mono hb2.size)
  have x3 := HX1.out.below hb23 HX1.out.lt
  have m3 := HM1.out.1.below hb23 (mapLt HM1.out.1)
  have r3 := r1.below hb23 r1.lt
  have HB3 : Hid (Below w.heap.size w (w2.alloc (.cells #[.int .i64 0, .int .i64 0, .int .i64 leaf] 188)) ∧ w.heap.size < (w2.alloc (.cells #[.int .i64 0, .int .i64 0, .int .i64 leaf] 188)).heap.size) := ⟨hb1.trans (hb23.mono hb1.size), r3.lt⟩
  clear hb2 W2 hb23 hb1 HX1 HM1 r1
  go_wp2_with fail
  generalize (w2.alloc (.cells #[.int .i64 0, .int .i64 0, .int .i64 leaf] 188)) = w3 at *
  have hS0 : Blk w3.drew x 136 (ixC cp h R high top mf ml mc) ∧ Blk w3.drew w2.heap.size 188 #[.int .i64 0, .int .i64 0, .int .i64 leaf] ∧ MapIs pkV ftV w3.drew mf L := ⟨x3, p3, m3⟩
  have r3d : Blk w3.drew w.heap.size 183 (ftC ft00) := r3
  have HB3d : Hid (Below w.heap.size w w3.drew ∧ w.heap.size < w3.drew.heap.size) := ⟨HB3.out.1.drew, HB3.out.2⟩
  have X3d : Blk w3.drew x 136 (ixC cp h R high top mf ml mc) := x3
  clear x3 p3 m3 r3 HB3
  refine wp_region_partsS (fun W => Blk W x 136 (ixC cp h R high top mf ml mc) ∧ Blk W w2.heap.size 188 #[.int .i64 0, .int .i64 0, .int .i64 leaf] ∧ MapIs pkV ftV W mf L) [([0], 1, true), ([], 2, true), ([], 3, true), ([], 4, true), ([], 5, true), ([6, 7, 8], 9, false), ([], 10, false)] [11] [] (by kernel_rfl) (by kernel_rfl) hS0 (partsI_yield ?_)
  generalize w3.drew = w4 at *
  have q4 : Blk (w4.alloc (.cells (ftC ft00) 183)) w4.heap.size 183 (ftC ft00) := Blk.new _ _ _
  have q5 := q4.set (ftC q)
  have hb5 : Below w4.heap.size w4 ((w4.alloc (.cells (ftC ft00) 183)).setRow w4.heap.size (ftC q)) := below_setRow (below_new1 _ _) (Nat.le_refl _) _
  have r5 := r3d.below hb5 r3d.lt
  have X5 := X3d.below hb5 X3d.lt
  have c35 := ix_c35 X5
  have HB5 : Hid (Below w.heap.size w ((w4.alloc (.cells (ftC ft00) 183)).setRow w4.heap.size (ftC q))) := HB3d.out.1.trans (hb5.mono HB3d.out.1.size)
  have hS1 : Blk (w4.alloc (.cells (ftC ft00) 183)) x 136 (ixC cp h R high top mf ml mc) ∧ Blk (w4.alloc (.cells (ftC ft00) 183)) w2.heap.size 188 #[.int .i64 0, .int .i64 0, .int .i64 leaf] ∧ MapIs pkV ftV (w4.alloc (.cells (ftC ft00) 183)) mf L := ⟨hS0.1.alloc _, hS0.2.1.alloc _, hS0.2.2.below (below_new1 _ _) (mapLt hS0.2.2)⟩
  have hS2 : Blk ((w4.alloc (.cells (ftC ft00) 183)).setRow w4.heap.size (ftC q)) x 136 (ixC cp h R high top mf ml mc) ∧ Blk ((w4.alloc (.cells (ftC ft00) 183)).setRow w4.heap.size (ftC q)) w2.heap.size 188 #[.int .i64 0, .int .i64 0, .int .i64 leaf] ∧ MapIs pkV ftV ((w4.alloc (.cells (ftC ft00) 183)).setRow w4.heap.size (ftC q)) mf L := ⟨hS0.1.below hb5 hS0.1.lt, hS0.2.1.below hb5 hS0.2.1.lt, hS0.2.2.below hb5 (mapLt hS0.2.2)⟩
  clear X3d X5 hb5
  simp only [sgLHInsMap]
  go_wp2_with fail
  refine ⟨rfl, _, .pointer (some ⟨x, 0, none⟩), rfl, Or.inl ⟨by rfl, fun W hW => by go_simp⟩, partsI_yield ?_⟩
  simp only [Act.put, sgPHInsMap]
  simp only [sgLHInsMap]
  go_wp2_with fail
  refine ⟨rfl, _, .pointer (some ⟨x, 37, none⟩), rfl, Or.inl ⟨by rfl, fun W hW => by go_simp⟩, partsI_yield ?_⟩
  simp only [Act.put, sgPHInsMap]
  simp only [sgLHInsMap]
  go_wp2_with fail
  refine ⟨rfl, _, .map (some mf), rfl, Or.inl ⟨by rfl, fun W hW => by have hW1 := ix_c37 hW.1; go_simp⟩, partsI_yield ?_⟩
  simp only [Act.put, sgPHInsMap]
  simp only [sgLHInsMap]
  go_wp2_with fail
  refine ⟨rfl, _, .agg #[.int .i64 0, .int .i64 0, .int .i64 leaf], rfl, Or.inl ⟨by rfl, fun W hW => by have hW0 : W.cell? ⟨w2.heap.size, 0, none⟩ = some (.int .i64 0) := (hW.2.1.cell 0).trans rfl; have hW1 : W.cell? ⟨w2.heap.size, 1, none⟩ = some (.int .i64 0) := (hW.2.1.cell 1).trans rfl; have hW2 : W.cell? ⟨w2.heap.size, 2, none⟩ = some (.int .i64 leaf) := (hW.2.1.cell 2).trans rfl; go_simp⟩, partsI_yield ?_⟩
  simp only [Act.put, sgPHInsMap]
  simp only [sgLHInsMap]
  go_wp2_with fail
  refine ⟨rfl, _, .tuple #[.agg (ftC q), .bool false], rfl, Or.inl ⟨by rfl, fun W hW => by have hW1 := HLK.out W hW.2.2; go_simp⟩, partsI_force ?_⟩
  simp only [Act.put, sgPHInsMap]
  simp only [sgLHInsMap]
  go_wp2_with fail
  refine ⟨rfl, hS1, partsI_force ?_⟩
  simp only [sgLHInsMap]
  (refine wpList_store_row (by rfl) 183 _ _ (by rfl) (w4.heap.size) (ftC q) (by rfl) (by rfl) 183 (ftC ft00) (by exact q4) (sizeFt.trans (by rw [ftC_size])) (by simp only [ftC_size]) (ftC_all _) ?_; simp only [Act.put, sgPHInsMap])
  go_wp2_with fail
  refine ⟨rfl, hS2, partsI_last ?_⟩
  simp only [sgLHInsMap]
  go_wp2_with fail
  refine ⟨rfl, ?_⟩
  clear hS0 hS1 hS2 HLK q4
  generalize ((w4.alloc (.cells (ftC ft00) 183)).setRow w4.heap.size (ftC q)) = w5 at *
  go_wp2_with fail
  refine (HLT.out _).mono ?_
  rintro e _ ⟨rfl, rfl⟩
  go_wp2_with (first
    | (refine wpList_load_rowg (by rfl) 183 _ (by rfl) (w4.heap.size) (by rfl) 183 (ftC q) (0, 0) _ (by exact q5) Tryz.underlying183 (by rfl) (sizeFt.trans (by rw [ftC_size])) ?_; simp only [Act.put, sgPHInsMap])
    | (refine wpList_store_row (by rfl) 183 _ _ (by rfl) (w.heap.size) (ftC q) (by rfl) (by rfl) 183 (_) (by exact r5) (sizeFt.trans (by rw [ftC_size])) (by simp only [ftC_size]) (ftC_all _) ?_; simp only [Act.put, sgPHInsMap])
    | fail)
  try simp only [Exit.inBlock, Exit.then]
  refine bodyPost_ret (results_row2 Tryz.results72 _ _ (w.heap.size) 183 (ftC q) (0, 0) _ rfl (r5.set _) Tryz.underlying183 rfl (sizeFt.trans (by rw [ftC_size]))) rfl ?_
  exact ⟨rfl, below_setRow HB5.out (Nat.le_refl _) _⟩
end
end Go.Proofs.YtimjggkdpmgpjaaGreatDoor

namespace Go.Proofs.YtimjggkdpmgpjaaGreatDoor
open Go Go.RowKit
set_option linter.unusedSimpArgs false
set_option linter.unusedVariables false
theorem ftF_at (q : Nat → Hd) (i j : Nat) (hj : j < 45) : ftF q (i * 45 + j) = hdF (q i) j := by
  unfold ftF
  rw [show (i * 45 + j) / 45 = i by omega, show (i * 45 + j) % 45 = j by omega]
theorem ft_extract (q : Nat → Hd) (i : Nat) (hi : i < 4) : (ftC q).extract (i * 45) (i * 45 + 45) = hdC (q i) := by
  unfold ftC hdC
  rw [va_extract 180 (i * 45) 45 _ (by omega)]
  exact va_congr fun j hj => ftF_at q i j hj
theorem run_index_ft (q : Nat → Hd) (k : Nat) (hk : k < 4) (w : World) : (Instr.index 183 (.agg (ftC q)) (.int .i64 (k : Int))).run Tryz.prog w = .ok (.agg (hdC (q k))) w := by
  have hp := part_agg 140 45 _ Tryz.underlying140 rfl sizeHd (ftC q) (hdC (q k)) (k * 45) (ft_extract q k hk) w
  have hz := size_at 140 45 sizeHd w
  have h1 : (k : Int) < 4 := by omega
  simp [Instr.index, asIntOf, run_underlying Tryz.underlying183, h1, hz, hp]
  intro h
  omega
theorem ft_range {w : World} {b t : Nat} {q : Nat → Hd} (H : Blk w b t (ftC q)) (i : Nat) (hi : i < 4) : w.rangeAt b (i * 45) ((List.range 45).map (hdF (q i))) := by
  have := Blk.range (n := 180) (f := ftF q) H (i * 45) 45 (by omega)
  rw [show ((List.range 45).map fun j => ftF q (i * 45 + j)) = (List.range 45).map (hdF (q i)) from List.map_congr_left fun j hj => ftF_at q i j (List.mem_range.1 hj)] at this
  exact this
/-- one of the four another one -/
def ftU (q : Nat → Hd) (i : Nat) (x : Hd) : Nat → Hd := fun j => if j = i then x else q j
theorem ft_put {w : World} {b t : Nat} {q : Nat → Hd} (H : Blk w b t (ftC q)) (i : Nat) (hi : i < 4) (x : Hd) : Blk (w.setCells b (i * 45) (hdC x).toList) b t (ftC (ftU q i x)) := by
  have := Blk.cells_put (n := 180) (hdC x).toList (i * 45) w (ftF q) H
  rw [show va 180 (over (ftF q) (i * 45) (hdC x).toList) = ftC (ftU q i x) from va_congr fun k hk => ?_] at this
  · exact this
  · unfold over hdC
    rw [va_toList]
    simp only [List.length_map, List.length_range]
    by_cases hj : i * 45 ≤ k ∧ k < i * 45 + 45
    · rw [if_pos hj, List.getD_eq_getElem?_getD, List.getElem?_map, List.getElem?_range (by omega)]
      unfold ftF ftU
      rw [if_pos (by omega), show k % 45 = k - i * 45 by omega]
      rfl
    · rw [if_neg hj]
      unfold ftF ftU
      rw [if_neg (by omega)]
section
variable {x : Nat} {cp : Option Addr} {h : Int} {R : Rf} {high top : Int} {mf ml mc : Nat} {L : List ((Int × Int × Int) × (Nat → Hd))}
end
end Go.Proofs.YtimjggkdpmgpjaaGreatDoor

namespace Go.Proofs.YtimjggkdpmgpjaaGreatDoor
open Go Go.RowKit
set_option linter.unusedVariables false
set_option linter.unusedSimpArgs false

section
variable {α β : Type} [DecidableEq α] {P : Program}
def delIn (a : α) : List (α × β) → List (α × β)
  | [] => []
  | p :: l => if a = p.1 then l else p :: delIn a l
theorem findIn_none {a : α} : ∀ {l : List (α × β)}, findIn a l = none ↔ a ∉ l.map Prod.fst
  | [] => by simp [findIn]
  | p :: l => by
    unfold findIn
    by_cases h : a = p.1
    · simp [h]
    · simp [h, findIn_none (l := l)]
theorem findIn_del_ne {a b : α} (hne : b ≠ a) : ∀ l : List (α × β), findIn b (delIn a l) = findIn b l
  | [] => rfl
  | p :: l => by
    unfold delIn
    by_cases h : a = p.1
    · rw [if_pos h]
      show _ = findIn b (p :: l)
      unfold findIn
      rw [if_neg (by rw [← h]; exact hne)]
      cases l <;> rfl
    · rw [if_neg h]
      show findIn b (p :: delIn a l) = findIn b (p :: l)
      simp only [findIn, findIn_del_ne hne l]
theorem findIn_del_self {a : α} : ∀ l : List (α × β), (l.map Prod.fst).Nodup → findIn a (delIn a l) = none
  | [], _ => rfl
  | p :: l, hn => by
    have h1 : p.1 ∉ l.map Prod.fst ∧ (l.map Prod.fst).Nodup := by simpa using hn
    unfold delIn
    by_cases h : a = p.1
    · rw [if_pos h, findIn_none, h]
      exact h1.1
    · rw [if_neg h]
      show findIn a (p :: delIn a l) = none
      simp only [findIn, if_neg h]
      exact findIn_del_self l h1.2
theorem delIn_sub (a : α) : ∀ l : List (α × β), (delIn a l).Sublist l
  | [] => List.Sublist.refl _
  | p :: l => by
    unfold delIn
    split
    · exact List.sublist_cons_self _ _
    · exact (delIn_sub a l).cons_cons p
theorem run_findAt {kt : TypeId} {K : α → Value} {V : β → Value} (hk : KeyOf P kt K) (a : α) (w : World) (b : β) : ∀ (l : List (α × β)) (es : List MapEntry) (i : Nat), es.map (fun e => (e.key, e.val)) = l.map (fun p => (K p.1, V p.2)) → findIn a l = some b →
    ∃ j, (Instr.findAsking kt (K a) es i).run P w = .ok (some (i + j, V b)) w ∧ j < l.length ∧ l.eraseIdx j = delIn a l
  | [], es, i, h, hf => by cases hf
  | p :: l, [], i, h, hf => by simp at h
  | p :: l, e :: es, i, h, hf => by
    simp only [List.map_cons, List.cons.injEq, Prod.mk.injEq] at h
    obtain ⟨⟨h1, h2⟩, h3⟩ := h
    have he := hk.eq a p.1 w
    rw [← h1] at he
    unfold delIn
    by_cases hq : a = p.1
    · simp only [findIn, if_pos hq] at hf
      cases hf
      refine ⟨0, ?_, by simp, by rw [if_pos hq]; rfl⟩
      simp only [Instr.findAsking, Sem.run_bind, he, Result.andThen_ok, decide_eq_true hq, if_true, Sem.run_pure, Nat.add_zero, h2]
    · simp only [findIn, if_neg hq] at hf
      obtain ⟨j, h4, h5, h6⟩ := run_findAt hk a w b l es (i + 1) h3 hf
      refine ⟨j + 1, ?_, by simp only [List.length_cons]; omega, by rw [if_neg hq]; simp [h6]⟩
      simp only [Instr.findAsking, Sem.run_bind, he, Result.andThen_ok, decide_eq_false hq, Bool.false_eq_true, if_false, h4]
      rw [show i + 1 + j = i + (j + 1) by omega]
/-- a key taken away -/
theorem run_delete_is {mt kt et : TypeId} {K : α → Value} {V : β → Value} (hm : P.underlying mt = some (.map kt et)) (hk : KeyOf P kt K) {w : World} {r : Nat} {l : List (α × β)} (h : MapIs K V w r l) (a : α) (b : β) (hf : findIn a l = some b) :
    ∃ w', (∀ ty, (Builtin.delete_ #[mt, kt] ty #[.map (some r), K a]).run P w = .ok (.tuple #[]) w') ∧ MapIs K V w' r (delIn a l) ∧ Keeps r w w' := by
  obtain ⟨es, clock, hg, he⟩ := h
  obtain ⟨j, h4, h5, h6⟩ := run_findAt hk a w b l es.toList 0 he hf
  obtain ⟨d, hd, n1, n2, n3⟩ := hk.desc
  have hc := hk.chk es.isEmpty a w
  have hgo : (getObj r).run P w = .ok (.map es clock) w := by simp [getObj, Sem.run, hg]
  have hso : ∀ o, (setObj r o).run P w = .ok () { w with heap := w.heap.setIfInBounds r o } := fun o => by simp [setObj, Sem.run, hg]
  have hr : r < w.heap.size := (Array.getElem?_eq_some_iff.1 hg).1
  have hl : es.toList.length = l.length := by
    have := congrArg List.length he
    simpa using this
  have hfk : (Instr.findKey kt (K a) es.toList).run P w = .ok (some (j, V b)) w := by
    rw [Nat.zero_add] at h4
    cases hes : es.toList with
    | nil =>
      rw [hes] at hl
      simp at hl
      omega
    | cons e es' =>
      rw [hes] at h4
      simp [Instr.findKey, run_underlying hd, findNow_none n1 n2 n3, h4]
  refine ⟨{ w with heap := w.heap.setIfInBounds r (.map (es.eraseIdxIfInBounds j) clock) }, ?_, ⟨es.eraseIdxIfInBounds j, clock, ?_, ?_⟩, ⟨⟨rfl, rfl, rfl, by simp, fun k hk => ?_⟩, fun k hk _ => ?_⟩⟩
  · intro ty
    simp [Builtin.delete_, run_underlying hm, hgo, hc, hfk, hso, Result.andThen]
  · simp [hr]
  · have hj : j < es.size := by
      have : es.size = es.toList.length := by simp
      omega
    rw [← h6]
    unfold Array.eraseIdxIfInBounds
    rw [dif_pos hj, Array.toList_eraseIdx]
    have h7 : ∀ {γ δ : Type} (g : γ → δ) (xs : List γ) (n : Nat), (xs.eraseIdx n).map g = (xs.map g).eraseIdx n := fun g xs n => by
      induction xs generalizing n with
      | nil => rfl
      | cons x xs ih => cases n with
        | zero => rfl
        | succ n => simp [ih]
    rw [h7, h7, he]
  · simp [Array.getElem?_setIfInBounds, show r ≠ k by omega]
  · simp [Array.getElem?_setIfInBounds, Ne.symm hk]
end
end Go.Proofs.YtimjggkdpmgpjaaGreatDoor

namespace Go.Proofs.YtimjggkdpmgpjaaGreatDoor
open Go Go.RowKit
set_option linter.unusedVariables false
set_option linter.unusedSimpArgs false
section
variable {α β : Type} [DecidableEq α] {P : Program}
/-- the map in block r says M -/
def MapFn (K : α → Value) (V : β → Value) (w : World) (r : Nat) (M : α → Option β) : Prop := ∃ l : List (α × β), MapIs K V w r l ∧ (l.map Prod.fst).Nodup ∧ ∀ a, findIn a l = M a
variable {K : α → Value} {V : β → Value} {w w' : World} {r : Nat} {M : α → Option β}
theorem MapFn.lt (h : MapFn K V w r M) : r < w.heap.size := by
  obtain ⟨l, ⟨es, clock, hg, _⟩, _⟩ := h
  exact (Array.getElem?_eq_some_iff.1 hg).1
theorem MapFn.keep (h : MapFn K V w r M) (hk : w'.heap[r]? = w.heap[r]?) : MapFn K V w' r M := by
  obtain ⟨l, ⟨es, clock, hg, he⟩, h2⟩ := h
  exact ⟨l, ⟨es, clock, hk.trans hg, he⟩, h2⟩
theorem MapFn.below {B : Nat} (h : MapFn K V w r M) (hb : Below B w w') (hB : r < B) : MapFn K V w' r M := h.keep (hb.block r hB)
theorem MapFn.congr {M' : α → Option β} (h : MapFn K V w r M) (e : ∀ a, M a = M' a) : MapFn K V w r M' := by
  obtain ⟨l, h1, h2, h3⟩ := h
  exact ⟨l, h1, h2, fun a => (h3 a).trans (e a)⟩
theorem MapFn.new (h : w.heap[r]? = some (.map #[] 0)) : MapFn K V w r (fun _ : α => (none : Option β)) := ⟨[], ⟨#[], 0, h, rfl⟩, List.nodup_nil, fun _ => rfl⟩
theorem MapFn.look {mt kt et : TypeId} {z : Value} (hm : P.underlying mt = some (.map kt et)) (hk : KeyOf P kt K) (hz : ∀ w, (zeroValue et).run P w = .ok z w) (h : MapFn K V w r M) (a : α) (ok : Bool) :
    (Instr.lookup mt (.map (some r)) (K a) ok).run P w = .ok (if ok then .tuple #[((M a).map V).getD z, .bool (M a).isSome] else ((M a).map V).getD z) w := by
  obtain ⟨l, h1, _, h3⟩ := h
  have := run_lookup_is hm hk hz h1 a ok
  rw [h3 a] at this
  exact this
theorem findIn_set {a b : α} {v : β} : ∀ (l : List (α × β)) (j : Nat) (p : β), l[j]? = some (a, p) → (l.map Prod.fst).Nodup → findIn b (l.set j (a, v)) = if b = a then some v else findIn b l
  | [], j, p, h, _ => by simp at h
  | x :: l, 0, p, h, hn => by
    obtain rfl : x = (a, p) := by simpa using h
    simp only [List.set_cons_zero, findIn]
    split <;> rfl
  | x :: l, j + 1, p, h, hn => by
    have hn' : x.1 ∉ l.map Prod.fst ∧ (l.map Prod.fst).Nodup := by simpa using hn
    have h' : l[j]? = some (a, p) := by simpa using h
    have ih := findIn_set (b := b) (v := v) l j p h' hn'.2
    simp only [List.set_cons_succ, findIn, ih]
    by_cases hx : b = x.1
    · rw [if_pos hx, if_pos hx]
      have : ¬ b = a := fun e => hn'.1 (by
        rw [← hx, e]
        exact List.mem_map.2 ⟨(a, p), List.mem_of_getElem? h', rfl⟩)
      rw [if_neg this]
    · rw [if_neg hx, if_neg hx]
theorem run_findPos {kt : TypeId} (hk : KeyOf P kt K) (a : α) (w : World) (b : β) : ∀ (l : List (α × β)) (es : List MapEntry) (i : Nat), es.map (fun e => (e.key, e.val)) = l.map (fun p => (K p.1, V p.2)) → findIn a l = some b →
    ∃ j, (Instr.findAsking kt (K a) es i).run P w = .ok (some (i + j, V b)) w ∧ l[j]? = some (a, b)
  | [], es, i, h, hf => by cases hf
  | p :: l, [], i, h, hf => by simp at h
  | p :: l, e :: es, i, h, hf => by
    simp only [List.map_cons, List.cons.injEq, Prod.mk.injEq] at h
    obtain ⟨⟨h1, h2⟩, h3⟩ := h
    have he := hk.eq a p.1 w
    rw [← h1] at he
    by_cases hq : a = p.1
    · simp only [findIn, if_pos hq] at hf
      cases hf
      refine ⟨0, ?_, by simp [hq]⟩
      simp only [Instr.findAsking, Sem.run_bind, he, Result.andThen_ok, decide_eq_true hq, if_true, Sem.run_pure, Nat.add_zero, h2]
    · simp only [findIn, if_neg hq] at hf
      obtain ⟨j, h4, h5⟩ := run_findPos hk a w b l es (i + 1) h3 hf
      refine ⟨j + 1, ?_, by simpa using h5⟩
      simp only [Instr.findAsking, Sem.run_bind, he, Result.andThen_ok, decide_eq_false hq, Bool.false_eq_true, if_false, h4]
      rw [show i + 1 + j = i + (j + 1) by omega]
/-- a key stored -/
theorem MapFn.put {mt kt et : TypeId} (hm : P.underlying mt = some (.map kt et)) (hk : KeyOf P kt K) (h : MapFn K V w r M) (a : α) (hb : Instr.sameBits 10000 (K a) (K a) = true) (v : β) :
    ∃ w', (Instr.mapUpdate mt (.map (some r)) (K a) (V v)).run P w = .ok () w' ∧ MapFn K V w' r (fun b => if b = a then some v else M b) ∧ Keeps r w w' := by
  obtain ⟨l, h1, h2, h3⟩ := h
  cases hf : findIn a l with
  | none =>
    obtain ⟨w', g1, g2, g3⟩ := run_update_is hm hk h1 a v hf
    refine ⟨w', g1, ⟨l ++ [(a, v)], g2, ?_, fun b => ?_⟩, g3⟩
    · rw [List.map_append, List.nodup_append]
      refine ⟨h2, by simp, fun x hx y hy => ?_⟩
      have hy' : y = a := by simpa using hy
      subst hy'
      exact fun e => (findIn_none.1 hf) (e ▸ hx)
    · rw [findIn_append]
      by_cases e : b = a
      · subst e
        simp [hf, findIn]
      · simp [findIn, e, h3]
  | some u =>
    obtain ⟨es, clock, hg, he⟩ := h1
    obtain ⟨d, hd, n1, n2, n3⟩ := hk.desc
    obtain ⟨j, g1, g2⟩ := run_findPos hk a w u l es.toList 0 he hf
    have hgo : (getObj r).run P w = .ok (.map es clock) w := by simp [getObj, Sem.run, hg]
    have hso : ∀ o, (setObj r o).run P w = .ok () { w with heap := w.heap.setIfInBounds r o } := fun o => by simp [setObj, Sem.run, hg]
    have hr : r < w.heap.size := (Array.getElem?_eq_some_iff.1 hg).1
    have hc := hk.chk false a w
    have hjl : j < l.length := (List.getElem?_eq_some_iff.1 g2).1
    have hel : es.size = l.length := by
      have := congrArg List.length he
      simpa using this
    have hq : (Instr.findKey kt (K a) es.toList).run P w = .ok (some (j, V u)) w := by
      rw [Nat.zero_add] at g1
      cases hes : es.toList with
      | nil =>
        rw [← Array.length_toList, hes] at hel
        simp at hel
        omega
      | cons e es' =>
        rw [hes] at g1
        simp [Instr.findKey, run_underlying hd, findNow_none n1 n2 n3, g1]
    have hkey : ((Option.map (fun x => x.key) es[j]?).getD (K a)) = K a := by
      have h2 := congrArg (fun z => (z[j]?).map Prod.fst) he
      simp only [List.getElem?_map, g2, Option.map_some] at h2
      rw [Array.getElem?_toList] at h2
      cases hq : es[j]? with
      | none => rfl
      | some e =>
        rw [hq] at h2
        simp at h2
        simp [h2]
    have hst : (Instr.keyThatStays (K a) (K a)).run P w = .ok (K a) w := by simp [Instr.keyThatStays, hb]
    refine ⟨{ w with heap := w.heap.setIfInBounds r (.map (es.modify j fun e => { key := K a, val := V v, born := e.born }) clock) }, ?_, ⟨l.set j (a, v), ⟨es.modify j fun e => { key := K a, val := V v, born := e.born }, clock, by simp [hr], ?_⟩, ?_, fun b => ?_⟩, ⟨⟨rfl, rfl, rfl, by simp, fun k hk => ?_⟩, fun k hk _ => ?_⟩⟩
    · simp only [Instr.mapUpdate, run_underlying hm, Sem.run_bind, hgo, hc, hq, Result.andThen_ok, hkey, hst, hso]
    · apply List.ext_getElem?
      intro i
      have h2 := congrArg (fun z => z[i]?) he
      simp only [List.getElem?_map, Array.getElem?_toList] at h2 ⊢
      rw [Array.getElem?_modify, List.getElem?_set]
      by_cases hij : j = i
      · subst hij
        rw [if_pos rfl, if_pos rfl, if_pos hjl]
        rw [Array.getElem?_eq_getElem (by omega)]
        simp
      · rw [if_neg hij, if_neg hij]
        exact h2
    · have e : (l.set j (a, v)).map Prod.fst = l.map Prod.fst := by
        apply List.ext_getElem?
        intro i
        rw [List.getElem?_map, List.getElem?_map, List.getElem?_set]
        by_cases hij : j = i
        · subst hij
          rw [if_pos rfl, if_pos hjl, g2]
          rfl
        · rw [if_neg hij]
      rw [e]
      exact h2
    · rw [findIn_set l j u g2 h2, h3]
    · simp [Array.getElem?_setIfInBounds, show r ≠ k by omega]
    · simp [Array.getElem?_setIfInBounds, Ne.symm hk]
/-- a key taken away, if it was there -/
theorem MapFn.del {mt kt et : TypeId} (hm : P.underlying mt = some (.map kt et)) (hk : KeyOf P kt K) (h : MapFn K V w r M) (a : α) :
    ∃ w', (∀ ty, (Builtin.delete_ #[mt, kt] ty #[.map (some r), K a]).run P w = .ok (.tuple #[]) w') ∧ MapFn K V w' r (fun b => if b = a then none else M b) ∧ Keeps r w w' := by
  obtain ⟨l, h1, h2, h3⟩ := h
  cases hf : findIn a l with
  | some u =>
    obtain ⟨w', g1, g2, g3⟩ := run_delete_is hm hk h1 a u hf
    refine ⟨w', g1, ⟨delIn a l, g2, ?_, fun b => ?_⟩, g3⟩
    · exact List.Nodup.sublist ((delIn_sub a l).map Prod.fst) h2
    · by_cases e : b = a
      · subst e
        rw [findIn_del_self l h2]
        simp
      · rw [findIn_del_ne e, h3]
        simp [e]
  | none =>
    obtain ⟨es, clock, hg, he⟩ := h1
    obtain ⟨x, h4, h5, h6⟩ := run_findKey hk a w l es.toList he
    obtain rfl := h6 hf
    have hc := hk.chk es.isEmpty a w
    have hgo : (getObj r).run P w = .ok (.map es clock) w := by simp [getObj, Sem.run, hg]
    have hso : ∀ o, (setObj r o).run P w = .ok () { w with heap := w.heap.setIfInBounds r o } := fun o => by simp [setObj, Sem.run, hg]
    have hr : r < w.heap.size := (Array.getElem?_eq_some_iff.1 hg).1
    refine ⟨{ w with heap := w.heap.setIfInBounds r (.map es clock) }, ?_, ⟨l, ⟨es, clock, by simp [hr], he⟩, h2, fun b => ?_⟩, ⟨⟨rfl, rfl, rfl, by simp, fun k hk => ?_⟩, fun k hk _ => ?_⟩⟩
    · intro ty
      simp [Builtin.delete_, run_underlying hm, hgo, hc, h4, hso, Result.andThen]
    · by_cases e : b = a
      · subst e
        rw [hf]
        simp
      · rw [h3]
        simp [e]
    · simp [Array.getElem?_setIfInBounds, show r ≠ k by omega]
    · simp [Array.getElem?_setIfInBounds, Ne.symm hk]
end
end Go.Proofs.YtimjggkdpmgpjaaGreatDoor
