/- Which roots may be: the program's Check, MapHeight, MapLeaves. -/
import Derived.Test.YtalnfphlhcojcaaHNdRef
import Derived.Handy
import Derived.BigQuiet
import Derived.Deep.QuietTactic

namespace Go.Proofs.Ytalnfphlhcojcaa
open Go Go.RowKit
set_option linter.unusedSimpArgs false
set_option linter.unusedVariables false
def tiF (h : Int) (r : Rf) : Nat → Value := fun i => if i = 0 then .int .i64 h else rfF r.1 r.2 (i - 1)
def tiC (h : Int) (r : Rf) : Array Value := va 34 (tiF h r)
theorem tiC_size (h : Int) (r : Rf) : (tiC h r).size = 34 := va_size _ _
theorem tiF_one (h : Int) (r : Rf) (i : Nat) : (tiF h r i).oneCell' = true := by
  unfold tiF
  split
  · rfl
  · exact rfF_one _ _ _
theorem ti_ref (h : Int) (r : Rf) : (tiC h r).extract 1 (1 + 33) = rfC r := by
  unfold tiC rfC
  rw [va_extract 34 1 33 _ (by decide)]
  refine va_congr fun i hi => ?_
  unfold tiF
  rw [if_neg (by omega), show 1 + i - 1 = i by omega]
theorem sizeTi : (Try.prog.info? 29).map (·.size) = some 34 := by kernel_rfl
/-- fields compared one by one -/
theorem eqF_cons {P : Program} {w : World} {d : Nat} {f : Field} {fs : List Field} {t o : Nat} {cs ds : Array Value} {x y : Value} {b B : Bool} (hf : (f.name == "_", f.type, f.offset) = (false, t, o)) (p : (part t cs o).run P w = .ok x w) (q : (part t ds o).run P w = .ok y w)
    (h : (Op.equalIn d t x y).run P w = .ok b w) (hr : (Op.eqFields d cs ds fs).run P w = .ok B w) : (Op.eqFields d cs ds (f :: fs)).run P w = .ok (b && B) w := by
  simp only [Prod.mk.injEq] at hf
  obtain ⟨n1, rfl, rfl⟩ := hf
  have n1' : f.name ≠ "_" := by simpa using n1
  unfold Op.eqFields
  rw [if_pos n1']
  simp only [Sem.run_bind, p, q, Result.andThen_ok, h]
  cases b
  · simp
  · simp only [Bool.not_true, Bool.false_eq_true, if_false, hr, Bool.true_and]
end Go.Proofs.Ytalnfphlhcojcaa

namespace Go.Proofs.Ytalnfphlhcojcaa
open Go Go.RowKit
set_option linter.unusedSimpArgs false
set_option linter.unusedVariables false
/-- the least height of a tree whose leaves hold a things each, for n things -/
def hL (a n : Int) : Int := if n ≤ a then 0 else if n ≤ 4 * a then 1 else if n ≤ 16 * a then 2 else if n ≤ 64 * a then 3 else if n ≤ 256 * a then 4 else if n ≤ 1024 * a then 5 else 6
theorem hL_lt (a n : Int) : 0 ≤ hL a n ∧ hL a n ≤ 6 := by
  unfold hL
  split
  · decide
  · split
    · decide
    · split
      · decide
      · split
        · decide
        · split
          · decide
          · split <;> decide
end Go.Proofs.Ytalnfphlhcojcaa

namespace Go.Proofs.Ytalnfphlhcojcaa
open Go Go.RowKit
set_option linter.unusedSimpArgs false
set_option linter.unusedVariables false
/-- a root: blocks, counter, the table's tree, inodes, the map's tree, used -/
structure Sup where
  b : Int
  c : Nat
  th : Int
  tr : Rf
  n : Int
  mh : Int
  mr : Rf
  u : Int
  deriving DecidableEq
def su0 : Sup := ⟨0, 0, 0, rf0, 0, 0, rf0, 0⟩
/-- what any root is that can stand in the memory -/
structure SuW (x : Sup) : Prop where
  b : -9223372036854775808 ≤ x.b ∧ x.b ≤ 9223372036854775807
  c : x.c < 18446744073709551616
  th : -9223372036854775808 ≤ x.th ∧ x.th ≤ 9223372036854775807
  ta : x.tr.1 < 4294967296
  td : okD x.tr.2
  n : -9223372036854775808 ≤ x.n ∧ x.n ≤ 9223372036854775807
  mh : -9223372036854775808 ≤ x.mh ∧ x.mh ≤ 9223372036854775807
  ma : x.mr.1 < 4294967296
  md : okD x.mr.2
  u : -9223372036854775808 ≤ x.u ∧ x.u ≤ 9223372036854775807
def suF (x : Sup) : Nat → Value := fun i => if i = 0 then .int .i64 x.b else if i = 1 then .int .u64 ((x.c : Nat) : Int) else if i < 36 then tiF x.th x.tr (i - 2) else if i = 36 then .int .i64 x.n else if i < 71 then tiF x.mh x.mr (i - 37) else .int .i64 x.u
def suC (x : Sup) : Array Value := va 72 (suF x)
theorem suC_size (x : Sup) : (suC x).size = 72 := va_size _ _
theorem suF_one (x : Sup) (i : Nat) : (suF x i).oneCell' = true := by
  unfold suF
  split
  · rfl
  · split
    · rfl
    · split
      · exact tiF_one _ _ _
      · split
        · rfl
        · split
          · exact tiF_one _ _ _
          · rfl
theorem suC_all (x : Sup) : (suC x).all (·.oneCell') = true := va_one fun i _ => suF_one _ _
theorem tiC_all (h : Int) (r : Rf) : (tiC h r).all (·.oneCell') = true := va_one fun i _ => tiF_one _ _ _
theorem su_table (x : Sup) : (suC x).extract 2 (2 + 34) = tiC x.th x.tr := by
  unfold suC tiC
  rw [va_extract 72 2 34 _ (by decide)]
  refine va_congr fun i hi => ?_
  unfold suF
  rw [if_neg (by omega), if_neg (by omega), if_pos (by omega), show 2 + i - 2 = i by omega]
theorem su_map (x : Sup) : (suC x).extract 37 (37 + 34) = tiC x.mh x.mr := by
  unfold suC tiC
  rw [va_extract 72 37 34 _ (by decide)]
  refine va_congr fun i hi => ?_
  unfold suF
  rw [if_neg (by omega), if_neg (by omega), if_neg (by omega), if_neg (by omega), if_pos (by omega), show 37 + i - 37 = i by omega]
theorem su_tref (x : Sup) : (suC x).extract 3 (3 + 33) = rfC x.tr := by
  unfold suC rfC
  rw [va_extract 72 3 33 _ (by decide)]
  refine va_congr fun i hi => ?_
  unfold suF tiF
  rw [if_neg (by omega), if_neg (by omega), if_pos (by omega), if_neg (by omega), show 3 + i - 2 - 1 = i by omega]
theorem su_mref (x : Sup) : (suC x).extract 38 (38 + 33) = rfC x.mr := by
  unfold suC rfC
  rw [va_extract 72 38 33 _ (by decide)]
  refine va_congr fun i hi => ?_
  unfold suF tiF
  rw [if_neg (by omega), if_neg (by omega), if_neg (by omega), if_neg (by omega), if_pos (by omega), if_neg (by omega), show 38 + i - 37 - 1 = i by omega]
theorem sizeSup : (Try.prog.info? 31).map (·.size) = some 72 := by kernel_rfl
theorem zero_sup (w : World) : (zeroValue 31).run Try.prog w = .ok (.agg (suC su0)) w := zero_of (by kernel_rfl) w
theorem zero_ti (w : World) : (zeroValue 29).run Try.prog w = .ok (.agg (tiC 0 rf0)) w := zero_of (by kernel_rfl) w
theorem built_sup0 : Try.prog.built 31 [] = some (suC su0) := by kernel_rfl
theorem sup_c0 {w : World} {g T : Nat} {x : Sup} (h : Blk w g T (suC x)) : w.cell? ⟨g, 0, none⟩ = some (.int .i64 x.b) := by rw [h.cell]; exact va_at (suF x) (by decide)
theorem sup_c1 {w : World} {g T : Nat} {x : Sup} (h : Blk w g T (suC x)) : w.cell? ⟨g, 1, none⟩ = some (.int .u64 ((x.c : Nat) : Int)) := by rw [h.cell]; exact va_at (suF x) (by decide)
theorem sup_c2 {w : World} {g T : Nat} {x : Sup} (h : Blk w g T (suC x)) : w.cell? ⟨g, 2, none⟩ = some (.int .i64 x.th) := by rw [h.cell]; exact va_at (suF x) (by decide)
theorem sup_c3 {w : World} {g T : Nat} {x : Sup} (h : Blk w g T (suC x)) : w.cell? ⟨g, 3, none⟩ = some (.int .u32 ((x.tr.1 : Nat) : Int)) := by rw [h.cell]; exact va_at (suF x) (by decide)
theorem sup_c36 {w : World} {g T : Nat} {x : Sup} (h : Blk w g T (suC x)) : w.cell? ⟨g, 36, none⟩ = some (.int .i64 x.n) := by rw [h.cell]; exact va_at (suF x) (by decide)
theorem sup_c37 {w : World} {g T : Nat} {x : Sup} (h : Blk w g T (suC x)) : w.cell? ⟨g, 37, none⟩ = some (.int .i64 x.mh) := by rw [h.cell]; exact va_at (suF x) (by decide)
theorem sup_c38 {w : World} {g T : Nat} {x : Sup} (h : Blk w g T (suC x)) : w.cell? ⟨g, 38, none⟩ = some (.int .u32 ((x.mr.1 : Nat) : Int)) := by rw [h.cell]; exact va_at (suF x) (by decide)
theorem sup_c71 {w : World} {g T : Nat} {x : Sup} (h : Blk w g T (suC x)) : w.cell? ⟨g, 71, none⟩ = some (.int .i64 x.u) := by rw [h.cell]; exact va_at (suF x) (by decide)
theorem run_eq_six {P : Program} {w : World} {d : Nat} {t t1 t2 t3 t4 t5 t6 o1 o2 o3 o4 o5 o6 : Nat} {cs ds : Array Value} {x1 y1 x2 y2 x3 y3 x4 y4 x5 y5 x6 y6 : Value} {b1 b2 b3 b4 b5 b6 : Bool} (hu : P.underlying t = some (.struct (P.fieldsOf t))) (hp : P.stoodInHeld t = false)
    (hf : (P.fieldsOf t).toList.map (fun f => (f.name == "_", f.type, f.offset)) = [(false, t1, o1), (false, t2, o2), (false, t3, o3), (false, t4, o4), (false, t5, o5), (false, t6, o6)])
    (p1 : (part t1 cs o1).run P w = .ok x1 w) (q1 : (part t1 ds o1).run P w = .ok y1 w) (p2 : (part t2 cs o2).run P w = .ok x2 w) (q2 : (part t2 ds o2).run P w = .ok y2 w) (p3 : (part t3 cs o3).run P w = .ok x3 w) (q3 : (part t3 ds o3).run P w = .ok y3 w)
    (p4 : (part t4 cs o4).run P w = .ok x4 w) (q4 : (part t4 ds o4).run P w = .ok y4 w) (p5 : (part t5 cs o5).run P w = .ok x5 w) (q5 : (part t5 ds o5).run P w = .ok y5 w) (p6 : (part t6 cs o6).run P w = .ok x6 w) (q6 : (part t6 ds o6).run P w = .ok y6 w)
    (h1 : (Op.equalIn d t1 x1 y1).run P w = .ok b1 w) (h2 : (Op.equalIn d t2 x2 y2).run P w = .ok b2 w) (h3 : (Op.equalIn d t3 x3 y3).run P w = .ok b3 w) (h4 : (Op.equalIn d t4 x4 y4).run P w = .ok b4 w) (h5 : (Op.equalIn d t5 x5 y5).run P w = .ok b5 w) (h6 : (Op.equalIn d t6 x6 y6).run P w = .ok b6 w) :
    (Op.equalIn (d + 1) t (.agg cs) (.agg ds)).run P w = .ok (b1 && (b2 && (b3 && (b4 && (b5 && (b6 && true)))))) w := by
  rw [run_equalIn_struct w d t cs ds hu hp]
  obtain ⟨f1, l1, e1, hf1, hl1⟩ := List.map_eq_cons_iff.1 hf
  obtain ⟨f2, l2, e2, hf2, hl2⟩ := List.map_eq_cons_iff.1 hl1
  obtain ⟨f3, l3, e3, hf3, hl3⟩ := List.map_eq_cons_iff.1 hl2
  obtain ⟨f4, l4, e4, hf4, hl4⟩ := List.map_eq_cons_iff.1 hl3
  obtain ⟨f5, l5, e5, hf5, hl5⟩ := List.map_eq_cons_iff.1 hl4
  obtain ⟨f6, l6, e6, hf6, hl6⟩ := List.map_eq_cons_iff.1 hl5
  have e7 := List.map_eq_nil_iff.1 hl6
  subst e7 e6 e5 e4 e3 e2
  rw [e1]
  exact eqF_cons hf1 p1 q1 h1 (eqF_cons hf2 p2 q2 h2 (eqF_cons hf3 p3 q3 h3 (eqF_cons hf4 p4 q4 h4 (eqF_cons hf5 p5 q5 h5 (eqF_cons hf6 p6 q6 h6 (by simp [Op.eqFields]))))))
theorem eq_supAt (t tt tr : TypeId) (ut ur : TypeDesc) (hut : Try.prog.underlying tt = some ut) (htr : ut.isRow = true) (hst : (Try.prog.info? tt).map (·.size) = some 34) (hur : Try.prog.underlying tr = some ur) (hrr : ur.isRow = true) (hsr : (Try.prog.info? tr).map (·.size) = some 33)
    (hu : Try.prog.underlying t = some (.struct (Try.prog.fieldsOf t))) (hp : Try.prog.stoodInHeld t = false)
    (hf : (Try.prog.fieldsOf t).toList.map (fun f => (f.name == "_", f.type, f.offset)) = [(false, 3, 0), (false, 22, 1), (false, tt, 2), (false, 3, 36), (false, tt, 37), (false, 3, 71)])
    (hu2 : Try.prog.underlying tt = some (.struct (Try.prog.fieldsOf tt))) (hp2 : Try.prog.stoodInHeld tt = false)
    (hf2 : (Try.prog.fieldsOf tt).toList.map (fun f => (f.name == "_", f.type, f.offset)) = [(false, 3, 0), (false, tr, 1)])
    (HR : ∀ (d : Nat) (a b : Rf) (w : World), (Op.equalIn (d + 1 + 1 + 1) tr (.agg (rfC a)) (.agg (rfC b))).run Try.prog w = .ok (decide (a = b)) w)
    (d : Nat) (x y : Sup) (w : World) : (Op.equalIn (d + 1 + 1 + 1 + 1 + 1) t (.agg (suC x)) (.agg (suC y))).run Try.prog w = .ok (decide (x = y)) w := by
  have hi : ∀ (d : Nat) (a b : Int), (Op.equalIn (d + 1) 3 (.int .i64 a) (.int .i64 b)).run Try.prog w = .ok (a == b) w := fun d a b => by simp [Op.equalIn, run_underlying Try.underlying3]
  have hn : ∀ (d : Nat) (a b : Int), (Op.equalIn (d + 1) 22 (.int .u64 a) (.int .u64 b)).run Try.prog w = .ok (a == b) w := fun d a b => by simp [Op.equalIn, run_underlying Try.underlying22]
  have pt1 : ∀ (h : Int) (r : Rf), (part 3 (tiC h r) 0).run Try.prog w = .ok (.int .i64 h) w := fun h r => part_int _ _ Try.underlying3 _ _ _ (va_at (tiF h r) (by decide)) w
  have pt2 : ∀ (h : Int) (r : Rf), (part tr (tiC h r) 1).run Try.prog w = .ok (.agg (rfC r)) w := fun h r => part_agg _ 33 _ hur hrr hsr _ _ 1 (ti_ref h r) w
  have HT : ∀ (h h' : Int) (r r' : Rf), (Op.equalIn (d + 1 + 1 + 1 + 1) tt (.agg (tiC h r)) (.agg (tiC h' r'))).run Try.prog w = .ok ((h == h') && decide (r = r')) w := fun h h' r r' =>
    run_eq_two hu2 hp2 hf2 (pt1 _ _) (pt1 _ _) (pt2 _ _) (pt2 _ _) (hi _ _ _) (HR d _ _ w)
  have p0 : ∀ x : Sup, (part 3 (suC x) 0).run Try.prog w = .ok (.int .i64 x.b) w := fun x => part_int _ _ Try.underlying3 _ _ _ (va_at (suF x) (by decide)) w
  have p1 : ∀ x : Sup, (part 22 (suC x) 1).run Try.prog w = .ok (.int .u64 ((x.c : Nat) : Int)) w := fun x => part_int _ _ Try.underlying22 _ _ _ (va_at (suF x) (by decide)) w
  have p2 : ∀ x : Sup, (part tt (suC x) 2).run Try.prog w = .ok (.agg (tiC x.th x.tr)) w := fun x => part_agg _ 34 _ hut htr hst _ _ 2 (su_table x) w
  have p3 : ∀ x : Sup, (part 3 (suC x) 36).run Try.prog w = .ok (.int .i64 x.n) w := fun x => part_int _ _ Try.underlying3 _ _ _ (va_at (suF x) (by decide)) w
  have p4 : ∀ x : Sup, (part tt (suC x) 37).run Try.prog w = .ok (.agg (tiC x.mh x.mr)) w := fun x => part_agg _ 34 _ hut htr hst _ _ 37 (su_map x) w
  have p5 : ∀ x : Sup, (part 3 (suC x) 71).run Try.prog w = .ok (.int .i64 x.u) w := fun x => part_int _ _ Try.underlying3 _ _ _ (va_at (suF x) (by decide)) w
  rw [run_eq_six hu hp hf (p0 x) (p0 y) (p1 x) (p1 y) (p2 x) (p2 y) (p3 x) (p3 y) (p4 x) (p4 y) (p5 x) (p5 y) (hi _ _ _) (hn _ _ _) (HT _ _ _ _) (hi _ _ _) (HT _ _ _ _) (hi _ _ _)]
  refine congrArg (fun b => Result.ok b w) ?_
  obtain ⟨b, c, th, tr, n, mh, mr, u⟩ := x
  obtain ⟨b', c', th', tr', n', mh', mr', u'⟩ := y
  rw [Bool.eq_iff_iff]
  simp only [decide_eq_true_eq, Bool.and_eq_true, beq_iff_eq, Sup.mk.injEq, and_true]
  constructor
  · rintro ⟨a, b, ⟨c, d⟩, e, ⟨f, g⟩, h⟩
    exact ⟨a, by omega, c, d, e, f, g, h⟩
  · rintro ⟨a, b, c, d, e, f, g, h⟩
    exact ⟨a, by omega, ⟨c, d⟩, e, ⟨f, g⟩, h⟩
theorem eq_sup (d : Nat) (x y : Sup) (w : World) : (Op.equalIn (d + 1 + 1 + 1 + 1 + 1) 31 (.agg (suC x)) (.agg (suC y))).run Try.prog w = .ok (decide (x = y)) w :=
  eq_supAt 31 29 27 _ _ Try.underlying29 rfl sizeTi Try.underlying27 rfl slSizeRef (by kernel_rfl) (by kernel_rfl) (by kernel_rfl) (by kernel_rfl) (by kernel_rfl) (by kernel_rfl) eq_ref d x y w
end Go.Proofs.Ytalnfphlhcojcaa

namespace Go.Proofs.Ytalnfphlhcojcaa
open Go.ChangeShapes Go.WideShapes Go.ChangeAt Go.RowKit Go.Joins
set_option linter.unusedVariables false
set_option linter.unusedSimpArgs false
set_option maxRecDepth 100000 in
theorem open_ti_cells {H : Type} {enc : TypeId × Value → H} {W : World} {fuel : Nat} {l : List Value} {x : DataW H × List MemPlace} (hl : l.length = 34)
    (hf : DataW.trod enc Try.prog W 0 (fun _ => true) true fuel 29 l = some x) : ∃ (h : Int) (r : Rf), l = (tiC h r).toList ∧ (-9223372036854775808 ≤ h ∧ h ≤ 9223372036854775807) ∧ r.1 < 4294967296 ∧ okD r.2 := by
  have hc8 : Try.prog.cellsOf 3 = 1 := by kernel_rfl
  have hcr : Try.prog.cellsOf 27 = 33 := by kernel_rfl
  obtain ⟨xs, k, hk, hxy, _, hxl, hfs⟩ := DataW.trod_struct Try.underlying29 hf
  match xs, hxl with
  | [y0, y1], _ =>
    have g0 : DataW.trod enc Try.prog W 0 (fun _ => true) true k 3 ((l.drop 0).take (Try.prog.cellsOf 3)) = some y0 := hfs 0 _ rfl
    have g1 : DataW.trod enc Try.prog W 0 (fun _ => true) true k 27 ((l.drop 1).take (Try.prog.cellsOf 27)) = some y1 := hfs 1 _ rfl
    rw [hc8] at g0
    rw [hcr] at g1
    obtain ⟨c0, e0, _, w0⟩ := DataW.trod_int Try.underlying3 g0
    have b0 := bounds_i64 w0
    have l0 : l[0]? = some (.int .i64 c0) := nd_take_one e0
    obtain ⟨r, h0, h1, h2⟩ := open_ref_cells (by rw [List.length_take, List.length_drop, hl]; decide) g1
    refine ⟨c0, r, ?_, b0, h1, h2⟩
    apply List.ext_getElem?
    intro i
    by_cases hi : i < 34
    · have hr : (tiC c0 r).toList[i]? = some (tiF c0 r i) := by
        have := va_at (tiF c0 r) hi
        unfold tiC
        simpa using this
      rw [hr]
      unfold tiF
      by_cases i0 : i = 0
      · subst i0
        rw [if_pos rfl, l0]
      rw [if_neg i0]
      have h4 := congrArg (fun z => z[i - 1]?) h0
      simp only [List.getElem?_take, List.getElem?_drop] at h4
      rw [if_pos (by omega), show 1 + (i - 1) = i by omega] at h4
      rw [h4]
      have := va_at (rfF r.1 r.2) (show i - 1 < 33 by omega)
      unfold rfC
      simpa using this
    · rw [List.getElem?_eq_none (by omega), List.getElem?_eq_none (by rw [Array.length_toList, tiC_size]; omega)]
set_option maxRecDepth 100000 in
theorem open_sup_cells {H : Type} {enc : TypeId × Value → H} {W : World} {fuel : Nat} {l : List Value} {x : DataW H × List MemPlace} (hl : l.length = 72)
    (hf : DataW.trod enc Try.prog W 0 (fun _ => true) true fuel 31 l = some x) : ∃ y : Sup, l = (suC y).toList ∧ SuW y := by
  have hc8 : Try.prog.cellsOf 3 = 1 := by kernel_rfl
  have hcu : Try.prog.cellsOf 22 = 1 := by kernel_rfl
  have hct : Try.prog.cellsOf 29 = 34 := by kernel_rfl
  obtain ⟨xs, k, hk, hxy, _, hxl, hfs⟩ := DataW.trod_struct Try.underlying31 hf
  match xs, hxl with
  | [y0, y1, y2, y3, y4, y5], _ =>
    have g0 : DataW.trod enc Try.prog W 0 (fun _ => true) true k 3 ((l.drop 0).take (Try.prog.cellsOf 3)) = some y0 := hfs 0 _ rfl
    have g1 : DataW.trod enc Try.prog W 0 (fun _ => true) true k 22 ((l.drop 1).take (Try.prog.cellsOf 22)) = some y1 := hfs 1 _ rfl
    have g2 : DataW.trod enc Try.prog W 0 (fun _ => true) true k 29 ((l.drop 2).take (Try.prog.cellsOf 29)) = some y2 := hfs 2 _ rfl
    have g3 : DataW.trod enc Try.prog W 0 (fun _ => true) true k 3 ((l.drop 36).take (Try.prog.cellsOf 3)) = some y3 := hfs 3 _ rfl
    have g4 : DataW.trod enc Try.prog W 0 (fun _ => true) true k 29 ((l.drop 37).take (Try.prog.cellsOf 29)) = some y4 := hfs 4 _ rfl
    have g5 : DataW.trod enc Try.prog W 0 (fun _ => true) true k 3 ((l.drop 71).take (Try.prog.cellsOf 3)) = some y5 := hfs 5 _ rfl
    rw [hc8] at g0 g3 g5
    rw [hcu] at g1
    rw [hct] at g2 g4
    obtain ⟨c0, e0, _, w0⟩ := DataW.trod_int Try.underlying3 g0
    obtain ⟨c1, e1, _, w1⟩ := DataW.trod_int Try.underlying22 g1
    obtain ⟨c3, e3, _, w3⟩ := DataW.trod_int Try.underlying3 g3
    obtain ⟨c5, e5, _, w5⟩ := DataW.trod_int Try.underlying3 g5
    have b0 := bounds_i64 w0
    have b1 := bounds_u64 w1
    have b3 := bounds_i64 w3
    have b5 := bounds_i64 w5
    have l0 : l[0]? = some (.int .i64 c0) := nd_take_one e0
    have l1 : l[1]? = some (.int .u64 c1) := nd_take_one e1
    have l3 : l[36]? = some (.int .i64 c3) := nd_take_one e3
    have l5 : l[71]? = some (.int .i64 c5) := nd_take_one e5
    obtain ⟨th, tr, t0, t1, t2, t3⟩ := open_ti_cells (by rw [List.length_take, List.length_drop, hl]; decide) g2
    obtain ⟨mh, mr, m0, m1, m2, m3⟩ := open_ti_cells (by rw [List.length_take, List.length_drop, hl]; decide) g4
    refine ⟨⟨c0, c1.toNat, th, tr, c3, mh, mr, c5⟩, ?_, ⟨b0, by show c1.toNat < _; omega, t1, t2, t3, b3, m1, m2, m3, b5⟩⟩
    apply List.ext_getElem?
    intro i
    by_cases hi : i < 72
    · have hr : (suC ⟨c0, c1.toNat, th, tr, c3, mh, mr, c5⟩).toList[i]? = some (suF ⟨c0, c1.toNat, th, tr, c3, mh, mr, c5⟩ i) := by
        have := va_at (suF ⟨c0, c1.toNat, th, tr, c3, mh, mr, c5⟩) hi
        unfold suC
        simpa using this
      rw [hr]
      unfold suF
      by_cases i0 : i = 0
      · subst i0
        rw [if_pos rfl, l0]
      rw [if_neg i0]
      by_cases i1 : i = 1
      · subst i1
        rw [if_pos rfl, l1]
        congr 2
        show c1 = ((c1.toNat : Nat) : Int)
        omega
      rw [if_neg i1]
      by_cases i2 : i < 36
      · rw [if_pos i2]
        have h4 := congrArg (fun z => z[i - 2]?) t0
        simp only [List.getElem?_take, List.getElem?_drop] at h4
        rw [if_pos (by omega), show 2 + (i - 2) = i by omega] at h4
        rw [h4]
        have := va_at (tiF th tr) (show i - 2 < 34 by omega)
        unfold tiC
        simpa using this
      rw [if_neg i2]
      by_cases i3 : i = 36
      · subst i3
        rw [if_pos rfl, l3]
      rw [if_neg i3]
      by_cases i4 : i < 71
      · rw [if_pos i4]
        have h4 := congrArg (fun z => z[i - 37]?) m0
        simp only [List.getElem?_take, List.getElem?_drop] at h4
        rw [if_pos (by omega), show 37 + (i - 37) = i by omega] at h4
        rw [h4]
        have := va_at (tiF mh mr) (show i - 37 < 34 by omega)
        unfold tiC
        simpa using this
      rw [if_neg i4]
      obtain rfl : i = 71 := by omega
      rw [l5]
    · rw [List.getElem?_eq_none (by omega), List.getElem?_eq_none (by rw [Array.length_toList, suC_size]; omega)]
set_option maxRecDepth 100000 in
theorem open_sup {H : Type} {enc : TypeId × Value → H} {W : World} {r : Reach} {b0 : Nat} {v : Value} {d : DataW H} {p : List MemPlace}
    (hv : Value.okWide Try.prog W r b0 31 v) (h : DataW.Trod enc Try.prog W 0 (fun _ => true) true 31 v d p) : ∃ y : Sup, v = .agg (suC y) ∧ SuW y := by
  obtain ⟨cs, rfl, hcs⟩ := okWide_struct Try.underlying31 hv
  obtain ⟨fuel, hf⟩ := h
  have hc : Try.prog.cellsOf 31 = 72 := by kernel_rfl
  rw [hc] at hcs
  have hl : cs.toList.length = 72 := by rw [Array.length_toList]; exact hcs
  obtain ⟨y, h0, h1⟩ := open_sup_cells hl (show DataW.trod enc Try.prog W 0 (fun _ => true) true fuel 31 cs.toList = some (d, p) from hf)
  refine ⟨y, ?_, h1⟩
  congr 1
  exact Array.toList_inj.1 h0
end Go.Proofs.Ytalnfphlhcojcaa

namespace Go.Proofs.Ytalnfphlhcojcaa
open Go Go.RowKit
set_option linter.unusedSimpArgs false
set_option linter.unusedVariables false
set_option maxHeartbeats 4000000 in
theorem sleast4 (n : Int) (h0 : -9223372036854775808 ≤ n) (hn : n ≤ 16384) (w : World) : Calls Try.prog 35 #[.int .i64 4, .int .i64 n] w fun e w' => e = .returned (.int .i64 (hL 4 n)) ∧ w' = w := by
  by_cases c0 : n ≤ 4
  · have HE : Hid (hL 4 n = 0) := by show hL 4 n = 0; unfold hL; rw [if_pos (by omega)]
    have s0 : ¬ ((4 : Int) < n) := by omega
    clear hn c0
    rw [HE.out]
    clear HE
    go_enter Try.func35, Try.ntmps35
    go_wp2
    go_rounds 1
    go_returns
    exact ⟨by simp, rfl⟩
  · skip
    by_cases c1 : n ≤ 16
    · have HE : Hid (hL 4 n = 1) := by show hL 4 n = 1; unfold hL; rw [if_neg (by omega)]; rw [if_pos (by omega)]
      have s0 : ¬ ((16 : Int) < n) := by omega
      have g0 : (4 : Int) < n := by omega
      clear hn c0 c1
      rw [HE.out]
      clear HE
      go_enter Try.func35, Try.ntmps35
      go_wp2
      go_rounds 2
      go_returns
      exact ⟨by simp, rfl⟩
    · skip
      by_cases c2 : n ≤ 64
      · have HE : Hid (hL 4 n = 2) := by show hL 4 n = 2; unfold hL; rw [if_neg (by omega)]; rw [if_neg (by omega)]; rw [if_pos (by omega)]
        have s0 : ¬ ((64 : Int) < n) := by omega
        have g0 : (4 : Int) < n := by omega
        have g1 : (16 : Int) < n := by omega
        clear hn c0 c1 c2
        rw [HE.out]
        clear HE
        go_enter Try.func35, Try.ntmps35
        go_wp2
        go_rounds 3
        go_returns
        exact ⟨by simp, rfl⟩
      · skip
        by_cases c3 : n ≤ 256
        · have HE : Hid (hL 4 n = 3) := by show hL 4 n = 3; unfold hL; rw [if_neg (by omega)]; rw [if_neg (by omega)]; rw [if_neg (by omega)]; rw [if_pos (by omega)]
          have s0 : ¬ ((256 : Int) < n) := by omega
          have g0 : (4 : Int) < n := by omega
          have g1 : (16 : Int) < n := by omega
          have g2 : (64 : Int) < n := by omega
          clear hn c0 c1 c2 c3
          rw [HE.out]
          clear HE
          go_enter Try.func35, Try.ntmps35
          go_wp2
          go_rounds 4
          go_returns
          exact ⟨by simp, rfl⟩
        · skip
          by_cases c4 : n ≤ 1024
          · have HE : Hid (hL 4 n = 4) := by show hL 4 n = 4; unfold hL; rw [if_neg (by omega)]; rw [if_neg (by omega)]; rw [if_neg (by omega)]; rw [if_neg (by omega)]; rw [if_pos (by omega)]
            have s0 : ¬ ((1024 : Int) < n) := by omega
            have g0 : (4 : Int) < n := by omega
            have g1 : (16 : Int) < n := by omega
            have g2 : (64 : Int) < n := by omega
            have g3 : (256 : Int) < n := by omega
            clear hn c0 c1 c2 c3 c4
            rw [HE.out]
            clear HE
            go_enter Try.func35, Try.ntmps35
            go_wp2
            go_rounds 5
            go_returns
            exact ⟨by simp, rfl⟩
          · skip
            by_cases c5 : n ≤ 4096
            · have HE : Hid (hL 4 n = 5) := by show hL 4 n = 5; unfold hL; rw [if_neg (by omega)]; rw [if_neg (by omega)]; rw [if_neg (by omega)]; rw [if_neg (by omega)]; rw [if_neg (by omega)]; rw [if_pos (by omega)]
              have s0 : ¬ ((4096 : Int) < n) := by omega
              have g0 : (4 : Int) < n := by omega
              have g1 : (16 : Int) < n := by omega
              have g2 : (64 : Int) < n := by omega
              have g3 : (256 : Int) < n := by omega
              have g4 : (1024 : Int) < n := by omega
              clear hn c0 c1 c2 c3 c4 c5
              rw [HE.out]
              clear HE
              go_enter Try.func35, Try.ntmps35
              go_wp2
              go_rounds 6
              go_returns
              exact ⟨by simp, rfl⟩
            · skip
              have HE : Hid (hL 4 n = 6) := by show hL 4 n = 6; unfold hL; rw [if_neg (by omega)]; rw [if_neg (by omega)]; rw [if_neg (by omega)]; rw [if_neg (by omega)]; rw [if_neg (by omega)]; rw [if_neg (by omega)]
              have s0 : ¬ ((16384 : Int) < n) := by omega
              have g0 : (4 : Int) < n := by omega
              have g1 : (16 : Int) < n := by omega
              have g2 : (64 : Int) < n := by omega
              have g3 : (256 : Int) < n := by omega
              have g4 : (1024 : Int) < n := by omega
              have g5 : (4096 : Int) < n := by omega
              clear hn c0 c1 c2 c3 c4 c5
              rw [HE.out]
              clear HE
              go_enter Try.func35, Try.ntmps35
              go_wp2
              go_rounds 7
              go_returns
              exact ⟨by simp, rfl⟩
set_option maxHeartbeats 4000000 in
theorem sleast1k (n : Int) (h0 : -9223372036854775808 ≤ n) (hn : n ≤ 4194304) (w : World) : Calls Try.prog 35 #[.int .i64 1024, .int .i64 n] w fun e w' => e = .returned (.int .i64 (hL 1024 n)) ∧ w' = w := by
  by_cases c0 : n ≤ 1024
  · have HE : Hid (hL 1024 n = 0) := by show hL 1024 n = 0; unfold hL; rw [if_pos (by omega)]
    have s0 : ¬ ((1024 : Int) < n) := by omega
    clear hn c0
    rw [HE.out]
    clear HE
    go_enter Try.func35, Try.ntmps35
    go_wp2
    go_rounds 1
    go_returns
    exact ⟨by simp, rfl⟩
  · skip
    by_cases c1 : n ≤ 4096
    · have HE : Hid (hL 1024 n = 1) := by show hL 1024 n = 1; unfold hL; rw [if_neg (by omega)]; rw [if_pos (by omega)]
      have s0 : ¬ ((4096 : Int) < n) := by omega
      have g0 : (1024 : Int) < n := by omega
      clear hn c0 c1
      rw [HE.out]
      clear HE
      go_enter Try.func35, Try.ntmps35
      go_wp2
      go_rounds 2
      go_returns
      exact ⟨by simp, rfl⟩
    · skip
      by_cases c2 : n ≤ 16384
      · have HE : Hid (hL 1024 n = 2) := by show hL 1024 n = 2; unfold hL; rw [if_neg (by omega)]; rw [if_neg (by omega)]; rw [if_pos (by omega)]
        have s0 : ¬ ((16384 : Int) < n) := by omega
        have g0 : (1024 : Int) < n := by omega
        have g1 : (4096 : Int) < n := by omega
        clear hn c0 c1 c2
        rw [HE.out]
        clear HE
        go_enter Try.func35, Try.ntmps35
        go_wp2
        go_rounds 3
        go_returns
        exact ⟨by simp, rfl⟩
      · skip
        by_cases c3 : n ≤ 65536
        · have HE : Hid (hL 1024 n = 3) := by show hL 1024 n = 3; unfold hL; rw [if_neg (by omega)]; rw [if_neg (by omega)]; rw [if_neg (by omega)]; rw [if_pos (by omega)]
          have s0 : ¬ ((65536 : Int) < n) := by omega
          have g0 : (1024 : Int) < n := by omega
          have g1 : (4096 : Int) < n := by omega
          have g2 : (16384 : Int) < n := by omega
          clear hn c0 c1 c2 c3
          rw [HE.out]
          clear HE
          go_enter Try.func35, Try.ntmps35
          go_wp2
          go_rounds 4
          go_returns
          exact ⟨by simp, rfl⟩
        · skip
          by_cases c4 : n ≤ 262144
          · have HE : Hid (hL 1024 n = 4) := by show hL 1024 n = 4; unfold hL; rw [if_neg (by omega)]; rw [if_neg (by omega)]; rw [if_neg (by omega)]; rw [if_neg (by omega)]; rw [if_pos (by omega)]
            have s0 : ¬ ((262144 : Int) < n) := by omega
            have g0 : (1024 : Int) < n := by omega
            have g1 : (4096 : Int) < n := by omega
            have g2 : (16384 : Int) < n := by omega
            have g3 : (65536 : Int) < n := by omega
            clear hn c0 c1 c2 c3 c4
            rw [HE.out]
            clear HE
            go_enter Try.func35, Try.ntmps35
            go_wp2
            go_rounds 5
            go_returns
            exact ⟨by simp, rfl⟩
          · skip
            by_cases c5 : n ≤ 1048576
            · have HE : Hid (hL 1024 n = 5) := by show hL 1024 n = 5; unfold hL; rw [if_neg (by omega)]; rw [if_neg (by omega)]; rw [if_neg (by omega)]; rw [if_neg (by omega)]; rw [if_neg (by omega)]; rw [if_pos (by omega)]
              have s0 : ¬ ((1048576 : Int) < n) := by omega
              have g0 : (1024 : Int) < n := by omega
              have g1 : (4096 : Int) < n := by omega
              have g2 : (16384 : Int) < n := by omega
              have g3 : (65536 : Int) < n := by omega
              have g4 : (262144 : Int) < n := by omega
              clear hn c0 c1 c2 c3 c4 c5
              rw [HE.out]
              clear HE
              go_enter Try.func35, Try.ntmps35
              go_wp2
              go_rounds 6
              go_returns
              exact ⟨by simp, rfl⟩
            · skip
              have HE : Hid (hL 1024 n = 6) := by show hL 1024 n = 6; unfold hL; rw [if_neg (by omega)]; rw [if_neg (by omega)]; rw [if_neg (by omega)]; rw [if_neg (by omega)]; rw [if_neg (by omega)]; rw [if_neg (by omega)]
              have s0 : ¬ ((4194304 : Int) < n) := by omega
              have g0 : (1024 : Int) < n := by omega
              have g1 : (4096 : Int) < n := by omega
              have g2 : (16384 : Int) < n := by omega
              have g3 : (65536 : Int) < n := by omega
              have g4 : (262144 : Int) < n := by omega
              have g5 : (1048576 : Int) < n := by omega
              clear hn c0 c1 c2 c3 c4 c5
              rw [HE.out]
              clear HE
              go_enter Try.func35, Try.ntmps35
              go_wp2
              go_rounds 7
              go_returns
              exact ⟨by simp, rfl⟩
end Go.Proofs.Ytalnfphlhcojcaa

namespace Go.Proofs.Ytalnfphlhcojcaa
open Go Go.RowKit
set_option linter.unusedSimpArgs false
set_option linter.unusedVariables false
set_option maxRecDepth 20000
theorem su_wrap (i : Nat) (h : i < 18446744073709551616) : IntKind.u64.wrap (i : Int) = (i : Int) := by
  rw [IntKind.wrap_u64]
  omega
theorem su_dN {B : Nat} {w0 w : World} (h : Below B w0 w) (n : Nat) : Below B w0 (w.drewN n) := ⟨h.1, h.2, h.3, h.4, h.5⟩
def rBl (b : Int) : Bool := decide (16 ≤ b) && decide (b ≤ 8192)
def onD (a : Nat) (b : Int) : Bool := decide (a ≠ 0) && decide ((a : Int) < b)
def sDisk (x : Sup) : Bool := rBl x.b && (decide (3 ≤ x.u) && decide (x.u < x.b))
def sHgt (x : Sup) : Bool := (decide (1 ≤ x.n) && decide (x.n ≤ 4096)) && (decide (x.th = hL 4 x.n) && decide (x.mh = hL 1024 x.b))
def sPl (x : Sup) : Bool := onD x.tr.1 x.b && (onD x.mr.1 x.b && decide (x.tr.1 ≠ x.mr.1))
def sck (x : Sup) : Bool := sDisk x && (sHgt x && sPl x)
def scE (x : Sup) : Int := if sck x = true then 0 else 200
theorem rBl_iff (b : Int) : rBl b = true ↔ 16 ≤ b ∧ b ≤ 8192 := by unfold rBl; simp
theorem sDisk_b (x : Sup) (h : sDisk x = true) : 16 ≤ x.b ∧ x.b ≤ 8192 := by
  unfold sDisk at h
  rw [Bool.and_eq_true] at h
  exact (rBl_iff _).1 h.1
set_option maxHeartbeats 4000000 in
theorem rightBlocks_any (b : Int) (w : World) : Calls Try.prog 34 #[.int .i64 b] w fun e w' => e = .returned (.bool (rBl b)) ∧ w' = w := by
  have HO : Hid (rBl b = (decide (16 ≤ b) && decide (b ≤ 8192))) := rfl
  generalize rBl b = B at *
  by_cases h : 16 ≤ b
  · go_enter Try.func34, Try.ntmps34
    go_wp2_with fail
    go_ret
    exact ⟨by rw [HO.out]; simp [h], rfl⟩
  · go_enter Try.func34, Try.ntmps34
    go_wp2_with fail
    go_ret
    exact ⟨by rw [HO.out]; simp [h]; omega, rfl⟩
set_option maxHeartbeats 4000000 in
theorem onDisk_any (a : Nat) (b : Int) (ha : a < 4294967296) (hb : 0 ≤ b) (hb2 : b ≤ 9223372036854775807) (w : World) : Calls Try.prog 36 #[.int .u32 (a : Int), .int .i64 b] w fun e w' => e = .returned (.bool (onD a b)) ∧ w' = w := by
  have HO : Hid (onD a b = (decide (a ≠ 0) && decide ((a : Int) < b))) := rfl
  generalize onD a b = B at *
  have h1 : IntKind.u64.wrap (a : Int) = (a : Int) := su_wrap a (by omega)
  have h2 : IntKind.u64.wrap b = b := by
    have := su_wrap b.toNat (by omega)
    rwa [show ((b.toNat : Nat) : Int) = b by omega] at this
  by_cases h : (a : Int) = 0
  · have h' : a = 0 := by omega
    go_enter Try.func36, Try.ntmps36
    go_wp2_with fail
    go_ret
    exact ⟨by rw [HO.out]; simp [h'], rfl⟩
  · have h' : ¬ a = 0 := by omega
    go_enter Try.func36, Try.ntmps36
    go_wp2_with fail
    go_ret
    exact ⟨by rw [HO.out]; simp [h'], rfl⟩
set_option maxHeartbeats 4000000 in
theorem mapLeaves_any (b : Int) (w : World) : Calls Try.prog 14 #[.int .i64 b] w fun e w' => e = .returned (.tuple #[.int .i64 (if rBl b = true then (b + 1023) / 1024 else 0), .int .i64 (if rBl b = true then 0 else 200)]) ∧ w' = w := by
  have HR : Hid (∀ w : World, Calls Try.prog 34 #[.int .i64 b] w fun e w' => e = .returned (.bool (rBl b)) ∧ w' = w) := rightBlocks_any b
  by_cases h : 16 ≤ b ∧ b ≤ 8192
  · rw [(rBl_iff b).2 h] at *
    have HE : Hid ((b + 1024 - 1).tdiv 1024 = (b + 1023) / 1024) := by
      show (b + 1024 - 1).tdiv 1024 = (b + 1023) / 1024
      rw [Int.tdiv_eq_ediv_of_nonneg (by omega)]
      omega
    obtain ⟨h1, h2⟩ := h
    go_enter Try.func14, Try.ntmps14
    go_wp2_with fail
    refine (HR.out _).mono ?_
    rintro e w2 ⟨rfl, rfl⟩
    go_wp2_with fail
    go_ret2
    refine ⟨?_, rfl⟩
    first
    | (rw [← HE.out]; simp; done)
    | (have := HE.out; simp at this ⊢; omega)
  · have hf : rBl b = false := Bool.eq_false_iff.2 fun hh => h ((rBl_iff b).1 hh)
    rw [hf] at HR ⊢
    clear h hf
    go_enter Try.func14, Try.ntmps14
    go_wp2_with fail
    refine (HR.out _).mono ?_
    rintro e w2 ⟨rfl, rfl⟩
    go_wp2_with fail
    go_ret2
    exact ⟨rfl, rfl⟩
set_option maxHeartbeats 4000000 in
theorem rightDisk_any (x : Sup) (w : World) : Calls Try.prog 28 #[.agg (suC x)] w fun e w' => e = .returned (.bool (sDisk x)) ∧ Below w.heap.size w w' := by
  have r0 : Blk (w.alloc (.cells (suC x) 31)) w.heap.size 31 (suC x) := Blk.new _ _ _
  have HB : Hid (Below w.heap.size w (w.alloc (.cells (suC x) 31))) := below_new1 _ _
  have c0 := sup_c0 r0
  have c5 := sup_c71 r0
  have HR : Hid (∀ w : World, Calls Try.prog 34 #[.int .i64 x.b] w fun e w' => e = .returned (.bool (rBl x.b)) ∧ w' = w) := rightBlocks_any x.b
  have HO : Hid (sDisk x = (rBl x.b && (decide (3 ≤ x.u) && decide (x.u < x.b)))) := rfl
  generalize rBl x.b = R at *
  generalize sDisk x = B at *
  generalize x.b = b at *
  generalize x.u = u at *
  clear r0
  cases R
  · go_enter Try.func28, Try.ntmps28
    go_wp2_with fail
    refine (HR.out _).mono ?_
    rintro e w2 ⟨rfl, rfl⟩
    go_wp2_with fail
    go_ret
    exact ⟨by rw [HO.out]; simp, HB.out⟩
  · by_cases hu : 3 ≤ u
    · go_enter Try.func28, Try.ntmps28
      go_wp2_with fail
      refine (HR.out _).mono ?_
      rintro e w2 ⟨rfl, rfl⟩
      go_wp2_with fail
      go_ret
      exact ⟨by rw [HO.out]; simp [hu], HB.out⟩
    · go_enter Try.func28, Try.ntmps28
      go_wp2_with fail
      refine (HR.out _).mono ?_
      rintro e w2 ⟨rfl, rfl⟩
      go_wp2_with fail
      go_ret
      exact ⟨by rw [HO.out]; simp [hu]; omega, HB.out⟩
set_option maxHeartbeats 4000000 in
theorem rightHeights_any (x : Sup) (hx : SuW x) (hb : x.b ≤ 8192) (w : World) : Calls Try.prog 29 #[.agg (suC x)] w fun e w' => e = .returned (.bool (sHgt x)) ∧ Below w.heap.size w w' := by
  have r0 : Blk (w.alloc (.cells (suC x) 31)) w.heap.size 31 (suC x) := Blk.new _ _ _
  have HB : Hid (Below w.heap.size w (w.alloc (.cells (suC x) 31))) := below_new1 _ _
  have c0 := sup_c0 r0
  have c2 := sup_c2 r0
  have c36 := sup_c36 r0
  have c37 := sup_c37 r0
  have H4 : Hid (x.n ≤ 4096 → ∀ w : World, Calls Try.prog 35 #[.int .i64 4, .int .i64 x.n] w fun e w' => e = .returned (.int .i64 (hL 4 x.n)) ∧ w' = w) := fun h => sleast4 x.n hx.n.1 (by omega)
  have HK : Hid (∀ w : World, Calls Try.prog 35 #[.int .i64 1024, .int .i64 x.b] w fun e w' => e = .returned (.int .i64 (hL 1024 x.b)) ∧ w' = w) := sleast1k x.b hx.b.1 (by omega)
  have HO : Hid (sHgt x = ((decide (1 ≤ x.n) && decide (x.n ≤ 4096)) && (decide (x.th = hL 4 x.n) && decide (x.mh = hL 1024 x.b)))) := rfl
  generalize sHgt x = B at *
  clear r0 hb hx
  generalize hL 4 x.n = H1 at *
  generalize hL 1024 x.b = H2 at *
  generalize x.b = b at *
  generalize x.n = n at *
  generalize x.th = th at *
  generalize x.mh = mh at *
  by_cases h1 : 1 ≤ n
  · have h1' : ¬ n < 1 := by omega
    by_cases h2 : n ≤ 4096
    · have h2' : ¬ 4096 < n := by omega
      have H4' : Hid (∀ w : World, Calls Try.prog 35 #[.int .i64 4, .int .i64 n] w fun e w' => e = .returned (.int .i64 H1) ∧ w' = w) := H4.out h2
      clear H4
      by_cases ht : th = H1
      · subst ht
        go_enter Try.func29, Try.ntmps29
        go_wp2_with fail
        generalize (w.alloc (.cells (suC x) 31)) = w0 at *
        go_quiet (first | (go_at_call_of 35 (Value.int IntKind.i64 4); refine Calls.quiet_of_same (H4'.out _)) | (go_at_call_of 35 (Value.int IntKind.i64 1024); refine Calls.quiet_of_same (HK.out _)))
        go_wp2_with fail
        go_ret
        exact ⟨by rw [HO.out]; by_cases hm : mh = H2 <;> simp [h1, h2, hm], su_dN HB.out _⟩
      · go_enter Try.func29, Try.ntmps29
        go_wp2_with fail
        generalize (w.alloc (.cells (suC x) 31)) = w0 at *
        go_quiet (first | (go_at_call_of 35 (Value.int IntKind.i64 4); refine Calls.quiet_of_same (H4'.out _)) | (go_at_call_of 35 (Value.int IntKind.i64 1024); refine Calls.quiet_of_same (HK.out _)))
        go_wp2_with fail
        go_ret
        exact ⟨by rw [HO.out]; simp [h1, h2, ht], su_dN HB.out _⟩
    · have h2' : 4096 < n := by omega
      go_enter Try.func29, Try.ntmps29
      go_wp2_with fail
      go_ret
      exact ⟨by rw [HO.out]; simp [h2]; omega, HB.out⟩
  · have h1' : n < 1 := by omega
    go_enter Try.func29, Try.ntmps29
    go_wp2_with fail
    go_ret
    exact ⟨by rw [HO.out]; simp [h1]; omega, HB.out⟩
set_option maxHeartbeats 4000000 in
theorem rightPlaces_any (x : Sup) (hx : SuW x) (hb : 0 ≤ x.b) (w : World) : Calls Try.prog 30 #[.agg (suC x)] w fun e w' => e = .returned (.bool (sPl x)) ∧ Below w.heap.size w w' := by
  have r0 : Blk (w.alloc (.cells (suC x) 31)) w.heap.size 31 (suC x) := Blk.new _ _ _
  have HB : Hid (Below w.heap.size w (w.alloc (.cells (suC x) 31))) := below_new1 _ _
  have c0 := sup_c0 r0
  have c3 := sup_c3 r0
  have c38 := sup_c38 r0
  have H1 : Hid (∀ w : World, Calls Try.prog 36 #[.int .u32 (x.tr.1 : Int), .int .i64 x.b] w fun e w' => e = .returned (.bool (onD x.tr.1 x.b)) ∧ w' = w) := onDisk_any _ _ hx.ta hb hx.b.2
  have H2 : Hid (∀ w : World, Calls Try.prog 36 #[.int .u32 (x.mr.1 : Int), .int .i64 x.b] w fun e w' => e = .returned (.bool (onD x.mr.1 x.b)) ∧ w' = w) := onDisk_any _ _ hx.ma hb hx.b.2
  have HO : Hid (sPl x = (onD x.tr.1 x.b && (onD x.mr.1 x.b && decide (x.tr.1 ≠ x.mr.1)))) := rfl
  generalize sPl x = B at *
  clear r0 hb hx
  generalize onD x.tr.1 x.b = P1 at *
  generalize onD x.mr.1 x.b = P2 at *
  generalize x.b = b at *
  generalize x.tr.1 = n1 at *
  generalize x.mr.1 = n2 at *
  go_enter Try.func30, Try.ntmps30
  go_wp2_with fail
  have c0' := c0
  generalize (w.alloc (.cells (suC x) 31)) = w0 at *
  go_quiet (fail)
  cases P1
  · go_wp2_with fail
    refine (H1.out _).mono ?_
    rintro e w2 ⟨rfl, rfl⟩
    go_wp2_with fail
    go_ret
    exact ⟨by rw [HO.out]; simp, su_dN HB.out _⟩
  · cases P2
    · go_wp2_with fail
      refine (H1.out _).mono ?_
      rintro e w2 ⟨rfl, rfl⟩
      go_wp2_with fail
      refine (H2.out _).mono ?_
      rintro e w2 ⟨rfl, rfl⟩
      go_wp2_with fail
      go_ret
      exact ⟨by rw [HO.out]; simp, su_dN HB.out _⟩
    · by_cases hq : n1 = n2
      · subst hq
        go_wp2_with fail
        refine (H1.out _).mono ?_
        rintro e w2 ⟨rfl, rfl⟩
        go_wp2_with fail
        refine (H2.out _).mono ?_
        rintro e w2 ⟨rfl, rfl⟩
        go_wp2_with fail
        go_ret
        exact ⟨by rw [HO.out]; simp, su_dN HB.out _⟩
      · have hq' : ¬ (n1 : Int) = (n2 : Int) := by omega
        go_wp2_with fail
        refine (H1.out _).mono ?_
        rintro e w2 ⟨rfl, rfl⟩
        go_wp2_with fail
        refine (H2.out _).mono ?_
        rintro e w2 ⟨rfl, rfl⟩
        go_wp2_with fail
        go_ret
        exact ⟨by rw [HO.out]; simp [hq]; omega, su_dN HB.out _⟩
set_option maxHeartbeats 4000000 in
theorem scheck_any (x : Sup) (hx : SuW x) (w : World) : Calls Try.prog 10 #[.agg (suC x)] w fun e w' => e = .returned (.int .i64 (scE x)) ∧ Below w.heap.size w w' := by
  have r0 : Blk (w.alloc (.cells (suC x) 31)) w.heap.size 31 (suC x) := Blk.new _ _ _
  have HB0 : Hid (Below w.heap.size w (w.alloc (.cells (suC x) 31)) ∧ w.heap.size < (w.alloc (.cells (suC x) 31)).heap.size) := ⟨below_new1 _ _, by simp⟩
  have HL : Hid (∀ w, Calls Try.prog 28 #[.agg (suC x)] w fun e w' => e = .returned (.bool (sDisk x)) ∧ Below w.heap.size w w') := rightDisk_any x
  have HS : Hid (sDisk x = true → ∀ w, Calls Try.prog 29 #[.agg (suC x)] w fun e w' => e = .returned (.bool (sHgt x)) ∧ Below w.heap.size w w') := fun h => rightHeights_any x hx (sDisk_b x h).2
  have HT : Hid (sDisk x = true → ∀ w, Calls Try.prog 30 #[.agg (suC x)] w fun e w' => e = .returned (.bool (sPl x)) ∧ Below w.heap.size w w') := fun h => rightPlaces_any x hx (by have := (sDisk_b x h).1; omega)
  have HO : Hid (scE x = if (sDisk x && (sHgt x && sPl x)) = true then 0 else 200) := rfl
  generalize scE x = B at *
  generalize sDisk x = bl at *
  generalize sHgt x = bs at *
  generalize sPl x = bt at *
  go_enter Try.func10, Try.ntmps10
  go_wp2_with (first | (refine wpList_load_rowg (by rfl) 31 _ (by rfl) (w.heap.size) (by rfl) 31 (suC x) (0, 0) _ (by exact r0) Try.underlying31 (by rfl) (sizeSup.trans (by rw [suC_size])) ?_; simp only [Act.put, List.setIfInBounds_toArray, List.set_cons_zero, List.set_cons_succ]) | fail)
  generalize (w.alloc (.cells (suC x) 31)) = w0 at *
  refine (HL.out _).mono ?_
  intro e w1 hw1
  obtain ⟨he1, hb1⟩ := hw1
  subst he1
  have HB1 : Hid (Below w.heap.size w w1 ∧ w.heap.size < w1.heap.size) := ⟨HB0.out.1.trans (hb1.mono (by have := HB0.out.2; omega)), by have := HB0.out.2; have := hb1.size; omega⟩
  have r1 : Blk w1 w.heap.size 31 (suC x) := r0.below hb1 (HB0.out.2)
  clear hb1 HB0 r0
  cases bl
  · go_wp2_with fail
    go_ret
    exact ⟨by rw [HO.out]; rfl, HB1.out.1⟩
  · have HS' : Hid (∀ w, Calls Try.prog 29 #[.agg (suC x)] w fun e w' => e = .returned (.bool bs) ∧ Below w.heap.size w w') := HS.out rfl
    have HT' : Hid (∀ w, Calls Try.prog 30 #[.agg (suC x)] w fun e w' => e = .returned (.bool bt) ∧ Below w.heap.size w w') := HT.out rfl
    clear HS HT
    go_wp2_with (first | (refine wpList_load_rowg (by rfl) 31 _ (by rfl) (w.heap.size) (by rfl) 31 (suC x) (0, 0) _ (by exact r1) Try.underlying31 (by rfl) (sizeSup.trans (by rw [suC_size])) ?_; simp only [Act.put, List.setIfInBounds_toArray, List.set_cons_zero, List.set_cons_succ]) | fail)
    refine (HS'.out _).mono ?_
    intro e w2 hw2
    obtain ⟨he2, hb2⟩ := hw2
    subst he2
    have HB2 : Hid (Below w.heap.size w w2 ∧ w.heap.size < w2.heap.size) := ⟨HB1.out.1.trans (hb2.mono (by have := HB1.out.2; omega)), by have := HB1.out.2; have := hb2.size; omega⟩
    have r2 : Blk w2 w.heap.size 31 (suC x) := r1.below hb2 (HB1.out.2)
    clear hb2 HB1 r1
    cases bs
    · go_wp2_with fail
      go_ret
      exact ⟨by rw [HO.out]; rfl, HB2.out.1⟩
    · go_wp2_with (first | (refine wpList_load_rowg (by rfl) 31 _ (by rfl) (w.heap.size) (by rfl) 31 (suC x) (0, 0) _ (by exact r2) Try.underlying31 (by rfl) (sizeSup.trans (by rw [suC_size])) ?_; simp only [Act.put, List.setIfInBounds_toArray, List.set_cons_zero, List.set_cons_succ]) | fail)
      refine (HT'.out _).mono ?_
      intro e w3 hw3
      obtain ⟨he3, hb3⟩ := hw3
      subst he3
      have HB3 : Hid (Below w.heap.size w w3 ∧ w.heap.size < w3.heap.size) := ⟨HB2.out.1.trans (hb3.mono (by have := HB2.out.2; omega)), by have := HB2.out.2; have := hb3.size; omega⟩
      clear hb3 HB2 r2
      cases bt
      · go_wp2_with fail
        go_ret
        exact ⟨by rw [HO.out]; rfl, HB3.out.1⟩
      · go_wp2_with fail
        go_ret
        exact ⟨by rw [HO.out]; rfl, HB3.out.1⟩
end Go.Proofs.Ytalnfphlhcojcaa
