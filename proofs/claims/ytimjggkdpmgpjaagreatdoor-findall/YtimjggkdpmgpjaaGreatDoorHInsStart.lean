/- Inodes in the memory alone: as Open makes them. -/
import Derived.Test.YtimjggkdpmgpjaaGreatDoorHGrBuild
import Derived.Lib.SlBytesConst
import Derived.ArgAppend
import Derived.Handy
import Derived.Test.YtimjggkdpmgpjaaGreatDoorHIoChk
import Derived.Test.YtimjggkdpmgpjaaGreatDoorProg
import Derived.WideKeyElems
import Derived.Test.YtimjggkdpmgpjaaGreatDoorHMath
import Derived.Deep.MidRow
import Derived.BigQuiet
import Derived.Deep.QuietTactic
import Derived.Deep.DeepCutAuto
import Derived.Deep.Cut
import Derived.Test.YtimjggkdpmgpjaaGreatDoorHBlkOwn
import Derived.Lib.AppendZerosOnto
import Derived.Lib.Walk
import Derived.Test.YtimjggkdpmgpjaaGreatDoorHLogOf
import Derived.Test.YtimjggkdpmgpjaaGreatDoorHInsCalls
import Derived.Test.YtimjggkdpmgpjaaGreatDoorHCaKit
import Derived.Test.YtimjggkdpmgpjaaGreatDoorHDiLay

namespace Go.Proofs.YtimjggkdpmgpjaaGreatDoor
theorem sgLHInsStart : (∀ (α : Type) (a : α) (l r : List α), (a :: l) ++ r = a :: (l ++ r)) ∧ (∀ (α : Type) (l : List α), [] ++ l = l) ∧ (∀ (α : Type) (l : List α), l ++ [] = l) ∧ (∀ (α β : Type) (f : α → Option β) (a : α) (l : List α), (a :: l).filterMap f = match f a with | none => l.filterMap f | some b => b :: l.filterMap f) ∧ (∀ (α β : Type) (f : α → Option β), [].filterMap f = []) ∧ (∀ (α : Type) (l : List α) (i : Nat), l.toArray[i]? = l[i]?) ∧ (∀ (α : Type) (a : α) (l : List α), (a :: l)[0]? = some a) ∧ (∀ (α : Type) (a : α) (l : List α) (i : Nat), (a :: l)[i + 1]? = l[i]?) :=
  ⟨fun _ _ _ _ => List.cons_append, fun _ _ => List.nil_append _, fun _ _ => List.append_nil _, fun _ _ _ _ _ => List.filterMap_cons, fun _ _ _ => List.filterMap_nil, fun _ _ _ => List.getElem?_toArray, fun _ _ _ => List.getElem?_cons_zero, fun _ _ _ _ => List.getElem?_cons_succ⟩
theorem sgPHInsStart : (∀ (α : Type) (l : List α) (i : Nat) (a : α), l.toArray.setIfInBounds i a = (l.set i a).toArray) ∧ (∀ (α : Type) (a b : α) (l : List α), (a :: l).set 0 b = b :: l) ∧ (∀ (α : Type) (a b : α) (l : List α) (i : Nat), (a :: l).set (i + 1) b = a :: l.set i b) :=
  ⟨fun _ _ _ _ => List.setIfInBounds_toArray _ _ _, fun _ _ _ _ => List.set_cons_zero, fun _ _ _ _ _ => List.set_cons_succ⟩
end Go.Proofs.YtimjggkdpmgpjaaGreatDoor
namespace Go.Proofs.YtimjggkdpmgpjaaGreatDoor
open Go Go.RowKit
set_option linter.unusedSimpArgs false
set_option linter.unusedVariables false

/-- a grown tree's cells: the cache, the standing tree, the height, the map, the end -/
def grF (cp : Option Addr) (h : Int) (R : Rf) (hh : Int) (mv : Option Nat) (e : Int) : Nat → Value := fun i => if i = 0 then .pointer cp else if i < 35 then trF h R (i - 1) else if i = 35 then .int .i64 hh else if i = 36 then .map mv else .int .i64 e
def grC (cp : Option Addr) (h : Int) (R : Rf) (hh : Int) (mv : Option Nat) (e : Int) : Array Value := va 38 (grF cp h R hh mv e)
theorem grC_size (cp : Option Addr) (h : Int) (R : Rf) (hh : Int) (mv : Option Nat) (e : Int) : (grC cp h R hh mv e).size = 38 := va_size _ _
theorem built_gr1 (cp : Option Addr) : Tryz.prog.built 180 [(0, .pointer cp)] = some (grC cp 0 rf0 0 none 0) := by kernel_rfl
theorem built_tr0 : Tryz.prog.built 76 [] = some (trC 0 rf0) := by kernel_rfl
section
variable {w : World} {b t : Nat} {cp : Option Addr} {h hh e : Int} {R : Rf} {mv : Option Nat}
theorem gr_c0 (H : Blk w b t (grC cp h R hh mv e)) : w.cell? ⟨b, 0, none⟩ = some (.pointer cp) := H.cv (n := 38) (by decide)
theorem gr_c35 (H : Blk w b t (grC cp h R hh mv e)) : w.cell? ⟨b, 35, none⟩ = some (.int .i64 hh) := H.cv (n := 38) (by decide)
theorem gr_c36 (H : Blk w b t (grC cp h R hh mv e)) : w.cell? ⟨b, 36, none⟩ = some (.map mv) := H.cv (n := 38) (by decide)
theorem gr_c37 (H : Blk w b t (grC cp h R hh mv e)) : w.cell? ⟨b, 37, none⟩ = some (.int .i64 e) := H.cv (n := 38) (by decide)
theorem gr_putTree (H : Blk w b t (grC cp h R hh mv e)) (h' : Int) (R' : Rf) : Blk (w.setCells b 1 (trC h' R').toList) b t (grC cp h' R' hh mv e) := by
  have := Blk.cells_put (n := 38) (trC h' R').toList 1 w (grF cp h R hh mv e) H
  rw [show va 38 (over (grF cp h R hh mv e) 1 (trC h' R').toList) = grC cp h' R' hh mv e from va_congr fun i hi => ?_] at this
  · exact this
  · unfold over trC
    rw [va_toList]
    simp only [List.length_map, List.length_range]
    by_cases hj : 1 ≤ i ∧ i < 1 + 34
    · rw [if_pos hj, List.getD_eq_getElem?_getD, List.getElem?_map, List.getElem?_range (by omega)]
      unfold grF
      rw [if_neg (by omega), if_pos (by omega)]
      rfl
    · rw [if_neg hj]
      unfold grF
      by_cases h0 : i = 0
      · rw [if_pos h0, if_pos h0]
      · have h1 : ¬ i < 35 := by omega
        rw [if_neg h0, if_neg h0, if_neg h1, if_neg h1]
theorem gr_putHeight (H : Blk w b t (grC cp h R hh mv e)) (x : Int) : Blk (w.setCell ⟨b, 35, none⟩ (.int .i64 x)) b t (grC cp h R x mv e) := by
  have := H.put 35 (.int .i64 x)
  rw [show (grC cp h R hh mv e).setIfInBounds 35 (.int .i64 x) = grC cp h R x mv e from ?_] at this
  · exact this
  · unfold grC
    rw [va_set]
    refine va_congr fun i hi => ?_
    unfold upd grF
    by_cases hj : i = 35
    · subst hj
      rfl
    · rw [if_neg hj]
      by_cases h0 : i = 0
      · rw [if_pos h0, if_pos h0]
      · rw [if_neg h0, if_neg h0]
        by_cases h1 : i < 35
        · rw [if_pos h1, if_pos h1]
        · rw [if_neg h1, if_neg h1]
          by_cases h2 : i = 35
          · first | exact absurd h2 hj | rw [if_pos h2, if_pos h2]
          · rw [if_neg h2, if_neg h2]
            all_goals by_cases h3 : i = 36
            all_goals first | exact absurd h3 hj | rw [if_pos h3, if_pos h3] | exact absurd (show i = 37 by omega) hj | rw [if_neg h3, if_neg h3]
theorem gr_putMap (H : Blk w b t (grC cp h R hh mv e)) (x : Option Nat) : Blk (w.setCell ⟨b, 36, none⟩ (.map x)) b t (grC cp h R hh x e) := by
  have := H.put 36 (.map x)
  rw [show (grC cp h R hh mv e).setIfInBounds 36 (.map x) = grC cp h R hh x e from ?_] at this
  · exact this
  · unfold grC
    rw [va_set]
    refine va_congr fun i hi => ?_
    unfold upd grF
    by_cases hj : i = 36
    · subst hj
      rfl
    · rw [if_neg hj]
      by_cases h0 : i = 0
      · rw [if_pos h0, if_pos h0]
      · rw [if_neg h0, if_neg h0]
        by_cases h1 : i < 35
        · rw [if_pos h1, if_pos h1]
        · rw [if_neg h1, if_neg h1]
          by_cases h2 : i = 35
          · first | exact absurd h2 hj | rw [if_pos h2, if_pos h2]
          · rw [if_neg h2, if_neg h2]
            all_goals by_cases h3 : i = 36
            all_goals first | exact absurd h3 hj | rw [if_pos h3, if_pos h3] | exact absurd (show i = 37 by omega) hj | rw [if_neg h3, if_neg h3]
theorem gr_putEnd (H : Blk w b t (grC cp h R hh mv e)) (x : Int) : Blk (w.setCell ⟨b, 37, none⟩ (.int .i64 x)) b t (grC cp h R hh mv x) := by
  have := H.put 37 (.int .i64 x)
  rw [show (grC cp h R hh mv e).setIfInBounds 37 (.int .i64 x) = grC cp h R hh mv x from ?_] at this
  · exact this
  · unfold grC
    rw [va_set]
    refine va_congr fun i hi => ?_
    unfold upd grF
    by_cases hj : i = 37
    · subst hj
      rfl
    · rw [if_neg hj]
      by_cases h0 : i = 0
      · rw [if_pos h0, if_pos h0]
      · rw [if_neg h0, if_neg h0]
        by_cases h1 : i < 35
        · rw [if_pos h1, if_pos h1]
        · rw [if_neg h1, if_neg h1]
          by_cases h2 : i = 35
          · first | exact absurd h2 hj | rw [if_pos h2, if_pos h2]
          · rw [if_neg h2, if_neg h2]
            all_goals by_cases h3 : i = 36
            all_goals first | exact absurd h3 hj | rw [if_pos h3, if_pos h3] | exact absurd (show i = 37 by omega) hj | rw [if_neg h3, if_neg h3]
end
set_option maxRecDepth 100000 in
set_option maxHeartbeats 4000000 in
theorem grCapacity_ok (h c : Nat) (hh : h ≤ 6) (hc : 4 ^ h = c) (w : World) : Calls Tryz.prog 103 #[.int .i64 (h : Int)] w fun x w' => x = .returned (.int .i64 (c : Int)) ∧ w = w' := by
  have hC : Hid (∀ w, Calls Tryz.prog 125 #[.int .i64 (h : Int)] w fun e w' => e = .returned (.tuple #[.int .i64 (c : Int), .int .i64 0]) ∧ w = w') := capacity_ok h c hh hc
  clear hc hh
  go_enter Tryz.func103, Tryz.ntmps103
  go_wp2_with fail
  refine (hC.out _).mono ?_
  rintro e _ ⟨rfl, rfl⟩
  go_wp2_with fail
  go_ret
  exact ⟨rfl, rfl⟩
end Go.Proofs.YtimjggkdpmgpjaaGreatDoor

namespace Go.Proofs.YtimjggkdpmgpjaaGreatDoor
open Go Go.RowKit
set_option linter.unusedSimpArgs false
set_option linter.unusedVariables false

set_option maxRecDepth 100000 in
set_option maxHeartbeats 4000000 in
theorem follow_root (h : Int) (R : Rf) (cp sa : Option Addr) (cap : Nat) (fv : Value) (w : World) : Calls Tryz.prog 123 #[.pointer cp, .agg (trC h R), .slice sa 0 cap, fv] w fun x w' => x = .returned (.tuple #[.agg (rfC R), .int .i64 0]) ∧ Below w.heap.size w w' := by
  have hz := zero_ref
  have hzp := zero_po
  have hb1 : Below w.heap.size w ((w.alloc (.cells (trC h R) 76)).alloc (.cells (rfC rf0) 74)) := below_new2 _ _ _
  have t1 : Blk ((w.alloc (.cells (trC h R) 76)).alloc (.cells (rfC rf0) 74)) w.heap.size 76 (trC h R) := (Blk.new _ _ _).alloc _
  have r1 : Blk ((w.alloc (.cells (trC h R) 76)).alloc (.cells (rfC rf0) 74)) (w.heap.size + 1) 74 (rfC rf0) := Blk.new1 _ _ _ _
  go_enter Tryz.func123, Tryz.ntmps123
  go_wp2_with (first
    | (refine wpList_load_rowg (by rfl) 76 _ (by rfl) (w.heap.size) (by rfl) 76 (trC h R) (0, 0) _ (by exact t1) Tryz.underlying76 (by rfl) (sizeTr.trans (by rw [trC_size])) ?_; simp only [Act.put, sgPHInsStart])
    | fail)
  generalize ((w.alloc (.cells (trC h R) 76)).alloc (.cells (rfC rf0) 74)) = w1 at *
  refine (root_any h R w1).mono ?_
  rintro x w2 ⟨rfl, hb2⟩
  have q0 := Blk.new w2 263 (poC 0 0 rf0)
  have q3 := q0.set (poC h 0 R)
  have hb3 : Below w2.heap.size w2 ((w2.alloc (.cells (poC 0 0 rf0) 263)).setRow w2.heap.size (poC h 0 R)) := below_setRow (below_new1 _ _) (Nat.le_refl _) _
  have hb13 : Below w1.heap.size w1 ((w2.alloc (.cells (poC 0 0 rf0) 263)).setRow w2.heap.size (poC h 0 R)) := hb2.trans (hb3.mono hb2.size)
  have r3 := r1.below hb13 r1.lt
  have HB3 : Hid (Below w.heap.size w ((w2.alloc (.cells (poC 0 0 rf0) 263)).setRow w2.heap.size (poC h 0 R))) := hb1.trans (hb13.mono hb1.size)
  clear hb2 hb3 hb13 hb1 t1 r1
  go_wp2_with (first
    | (refine wpList_store_row (by rfl) 263 _ _ (by rfl) (w2.heap.size) (poC h 0 R) (by rfl) (by rfl) 263 (_) (by exact q0) (sizePo.trans (by rw [poC_size])) (by simp only [poC_size]) (poC_all _ _ _) ?_; simp only [Act.put, sgPHInsStart])
    | fail)
  clear q0
  generalize ((w2.alloc (.cells (poC 0 0 rf0) 263)).setRow w2.heap.size (poC h 0 R)) = w3 at *
  generalize w2.heap.size = pb at *
  have HR3 : Hid (w3.rangeAt pb 2 ((List.range 33).map (rfF R.1 R.2))) := po_range q3
  clear q3
  refine wp_loop_rounds 1 ?_
  rw [rounds_succ]
  go_wp2_with (first
    | (refine wpList_load_blk (by rfl) 74 _ (by rfl) (pb) (2) 33 (rfF R.1 R.2) (by rfl) _ (by exact HR3.out) Tryz.underlying74 rfl tsizeRef ?_; simp only [Act.put, sgPHInsStart])
    | (refine wpList_store_row (by rfl) 74 _ _ (by rfl) (w.heap.size + 1) (rfC R) (by rfl) (by rfl) 74 (_) (by exact r3) (tsizeRef.trans (by rw [rfC_size])) (by simp only [rfC_size]) (rfC_all _) ?_; simp only [Act.put, sgPHInsStart])
    | fail)
  try simp only [Exit.inBlock, Exit.then]
  refine bodyPost_ret (results_row2 Tryz.results123 _ _ (w.heap.size + 1) 74 (rfC R) (0, 0) _ rfl (r3.set _) Tryz.underlying74 rfl (tsizeRef.trans (by rw [rfC_size]))) rfl ?_
  exact ⟨rfl, below_setRow HB3.out (by omega) _⟩
set_option maxRecDepth 100000 in
set_option maxHeartbeats 4000000 in
theorem ref_root (h : Int) (R : Rf) (hR : R.1 < 4294967296) (hD : okD R.2) (hok : trOk h R) (cp : Option Addr) (w : World) : Calls Tryz.prog 102 #[.pointer cp, .agg (trC h R), .int .i64 h, .int .i64 0] w fun x w' => x = .returned (.tuple #[.agg (rfC R), .int .i64 0]) ∧ Below w.heap.size w w' := by
  have hz := zero_ref
  have hb1 : Below w.heap.size w ((w.alloc (.cells (trC h R) 76)).alloc (.cells (rfC rf0) 74)) := below_new2 _ _ _
  have t1 : Blk ((w.alloc (.cells (trC h R) 76)).alloc (.cells (rfC rf0) 74)) w.heap.size 76 (trC h R) := (Blk.new _ _ _).alloc _
  have r1 : Blk ((w.alloc (.cells (trC h R) 76)).alloc (.cells (rfC rf0) 74)) (w.heap.size + 1) 74 (rfC rf0) := Blk.new1 _ _ _ _
  have HW : Hid (∀ w, Calls Tryz.prog 122 #[.agg (trC h R), .int .i64 h, .int .i64 0] w fun x w' => ∃ b, x = .returned (.tuple #[.slice (some ⟨b, 0, none⟩) 0 0, .int .i64 0]) ∧ w.heap.size ≤ b ∧ Blk w' b 3 (va 0 (iv .i64 (wayN 0 0))) ∧ Below w.heap.size w w') := fun w => wayTo_ok h R hR hD hok h 0 0 rfl ⟨hok.2.1, Int.le_refl _⟩ 0 (by omega) (by decide) w
  clear hR hD hok
  go_enter Tryz.func102, Tryz.ntmps102
  go_wp2_with (first
    | (refine wpList_load_rowg (by rfl) 76 _ (by rfl) (w.heap.size) (by rfl) 76 (trC h R) (0, 0) _ (by exact t1) Tryz.underlying76 (by rfl) (sizeTr.trans (by rw [trC_size])) ?_; simp only [Act.put, sgPHInsStart])
    | fail)
  generalize ((w.alloc (.cells (trC h R) 76)).alloc (.cells (rfC rf0) 74)) = w1 at *
  refine (HW.out w1).mono ?_
  rintro x w2 ⟨b, rfl, hbb, kb, hb2⟩
  have r2 := r1.below hb2 r1.lt
  have t2 := t1.below hb2 t1.lt
  have HB2 : Hid (Below w.heap.size w w2) := hb1.trans (hb2.mono hb1.size)
  clear hb1 hb2 t1 r1 hbb kb
  go_wp2_with (first
    | (refine wpList_load_rowg (by rfl) 76 _ (by rfl) (w.heap.size) (by rfl) 76 (trC h R) (0, 0) _ (by exact t2) Tryz.underlying76 (by rfl) (sizeTr.trans (by rw [trC_size])) ?_; simp only [Act.put, sgPHInsStart])
    | fail)
  refine (follow_root h R cp _ 0 _ w2).mono ?_
  rintro x w3 ⟨rfl, hb3⟩
  have r4 := r2.below hb3 r2.lt
  have HB4 : Hid (Below w.heap.size w w3) := HB2.out.trans (hb3.mono HB2.out.size)
  clear hb3 r2 t2 HB2
  go_wp2_with (first
    | (refine wpList_store_row (by rfl) 74 _ _ (by rfl) (w.heap.size + 1) (rfC R) (by rfl) (by rfl) 74 (_) (by exact r4) (tsizeRef.trans (by rw [rfC_size])) (by simp only [rfC_size]) (rfC_all _) ?_; simp only [Act.put, sgPHInsStart])
    | fail)
  try simp only [Exit.inBlock, Exit.then]
  refine bodyPost_ret (results_row2 Tryz.results102 _ _ (w.heap.size + 1) 74 (rfC R) (0, 0) _ rfl (r4.set _) Tryz.underlying74 rfl (tsizeRef.trans (by rw [rfC_size]))) rfl ?_
  exact ⟨rfl, below_setRow HB4.out (by omega) _⟩
set_option maxRecDepth 100000 in
set_option maxHeartbeats 4000000 in
theorem stand_ok {cp : Option Addr} {h0 hh0 e0 : Int} {R0 : Rf} {mv0 : Option Nat} (n c : Nat) (hn : n ≤ 6) (hc : 4 ^ n = c) (R R1 : Rf) (g : Nat) (hrf : ∀ w, Calls Tryz.prog 102 #[.pointer cp, .agg (trC (n : Int) R), .int .i64 (n : Int), .int .i64 0] w fun x w' => x = .returned (.tuple #[.agg (rfC R1), .int .i64 0]) ∧ Below w.heap.size w w') (w : World) (hg : Blk w g 180 (grC cp h0 R0 hh0 mv0 e0)) :
    Calls Tryz.prog 70 #[.pointer (some ⟨g, 0, none⟩), .agg (trC (n : Int) R)] w fun x w' => x = .returned (.int .i64 0) ∧ ∃ m, w.heap.size ≤ m ∧ (∃ k, w'.heap[m]? = some (.map #[] k)) ∧ Blk w' g 180 (grC cp (n : Int) R (n : Int) (some m) (c : Int)) ∧ Below g w w' := by
  have HC : Hid (∀ w, Calls Tryz.prog 103 #[.int .i64 (n : Int)] w fun x w' => x = .returned (.int .i64 (c : Int)) ∧ w = w') := grCapacity_ok n c hn hc
  clear hn hc
  have hz := zero_ref
  have hRef : Hid (∀ w, Calls Tryz.prog 102 #[.pointer cp, .agg (trC (n : Int) R), .int .i64 (n : Int), .int .i64 0] w fun x w' => x = .returned (.tuple #[.agg (rfC R1), .int .i64 0]) ∧ Below w.heap.size w w') := hrf
  have HB1 : Hid (Below w.heap.size w (w.alloc (.cells (trC (n : Int) R) 76))) := below_new1 w _
  have t1 : Blk (w.alloc (.cells (trC (n : Int) R) 76)) w.heap.size 76 (trC (n : Int) R) := Blk.new w _ _
  have g1 : Blk (w.alloc (.cells (trC (n : Int) R) 76)) g 180 (grC cp h0 R0 hh0 mv0 e0) := hg.alloc _
  have HGL : Hid (g < w.heap.size) := hg.lt
  clear hg hrf
  go_enter Tryz.func70, Tryz.ntmps70
  go_wp2_with fail
  generalize (w.alloc (.cells (trC (n : Int) R) 76)) = w1 at *
  go_cut [6] (fun v6 wx => v6 = .int .i64 0 ∧ Blk wx g 180 (grC cp h0 R0 hh0 mv0 e0) ∧ Blk wx w.heap.size 76 (trC (n : Int) R) ∧ Below w1.heap.size w1 wx)
  case first =>
    have hS0 : Blk w1.drew g 180 (grC cp h0 R0 hh0 mv0 e0) ∧ Blk w1.drew w.heap.size 76 (trC (n : Int) R) := ⟨g1, t1⟩
    have hwd : Below w1.heap.size w1 w1.drew := (Below.refl _ _).drew
    have HWS : Hid (w1.drew.heap.size = w1.heap.size) := rfl
    refine wp_region_plan (fun W => Blk W g 180 (grC cp h0 R0 hh0 mv0 e0) ∧ Blk W w.heap.size 76 (trC (n : Int) R)) (.yield [0] 1 (.yield [] 2 (.yield [] 3 (.yield [] 4 (.yield [] 5 (.yield [] 6 (.fork 7 11 (.force [8, 9, 10] 11 (.force [] 12 (.fin [13]))) (.force [] 7 (.force [8, 10] 9 (.force [] 12 (.fin [13]))))))))))) (by kernel_rfl) (by kernel_rfl) hS0 (plan_yield ?_)
    generalize w1.drew = wd at *
    simp only [sgLHInsStart]
    go_wp2_with fail
    refine ⟨rfl, _, .pointer (some ⟨g, 0, none⟩), rfl, Or.inl ⟨by rfl, fun W hW => by go_simp⟩, plan_yield ?_⟩
    simp only [Act.put, sgPHInsStart]
    simp only [sgLHInsStart]
    go_wp2_with fail
    refine ⟨rfl, _, .pointer (some ⟨g, 0, none⟩), rfl, Or.inl ⟨by rfl, fun W hW => by go_simp⟩, plan_yield ?_⟩
    simp only [Act.put, sgPHInsStart]
    simp only [sgLHInsStart]
    go_wp2_with fail
    refine ⟨rfl, _, .pointer cp, rfl, Or.inl ⟨by rfl, fun W hW => by have hW1 := gr_c0 hW.1; go_simp⟩, plan_yield ?_⟩
    simp only [Act.put, sgPHInsStart]
    simp only [sgLHInsStart]
    go_wp2_with fail
    refine ⟨rfl, _, .agg (trC (n : Int) R), rfl, kyields_load (by rfl) 76 _ (by rfl) w.heap.size 34 (trF (n : Int) R) (by rfl) _ 76 (fun W hW => hW.2) Tryz.underlying76 rfl sizeTr, plan_yield ?_⟩
    simp only [Act.put, sgPHInsStart]
    simp only [sgLHInsStart]
    go_wp2_with fail
    refine ⟨rfl, _, .pointer (some ⟨w.heap.size, 0, none⟩), rfl, Or.inl ⟨by rfl, fun W hW => by go_simp⟩, plan_yield ?_⟩
    simp only [Act.put, sgPHInsStart]
    simp only [sgLHInsStart]
    go_wp2_with fail
    refine ⟨rfl, _, .int .i64 (n : Int), rfl, Or.inl ⟨by rfl, fun W hW => by have hW1 : W.cell? ⟨w.heap.size, 0, none⟩ = some (.int .i64 (n : Int)) := hW.2.cv (n := 34) (by decide); go_simp⟩, plan_fork ?_ ?_⟩
    simp only [Act.put, sgPHInsStart]
    · simp only [sgLHInsStart]
      go_wp2_with fail
      refine (hRef.out _).mono ?_
      rintro e w2 ⟨rfl, hb2⟩
      have s2g := hS0.1.below hb2 hS0.1.lt
      have s2t := hS0.2.below hb2 hS0.2.lt
      go_wp2_with fail
      refine ⟨rfl, ⟨s2g, s2t⟩, plan_force ?_⟩
      simp only [sgLHInsStart]
      have q0 := Blk.new w2 74 (rfC rf0)
      go_wp2_with fail
      refine ⟨rfl, ⟨s2g.alloc _, s2t.alloc _⟩, plan_force ?_⟩
      simp only [sgLHInsStart]
      refine wpList_store_row (by rfl) 74 _ _ (by rfl) (w2.heap.size) (rfC R1) (by rfl) (by rfl) 74 (rfC rf0) q0 (tsizeRef.trans (by rw [rfC_size])) (by simp only [rfC_size]) (rfC_all _) ?_
      simp only [Act.put, sgPHInsStart]
      go_wp2_with fail
      refine ⟨rfl, ⟨(s2g.alloc _).other _ (Nat.ne_of_lt s2g.lt), (s2t.alloc _).other _ (Nat.ne_of_lt s2t.lt)⟩, plan_fin ?_⟩
      simp only [sgLHInsStart]
      go_wp2_with fail
      refine ⟨rfl, ?_⟩
      go_wp2_with fail
      go_meet
      have hws := HWS.out
      have hbx := hwd.trans (hb2.mono (B' := w1.heap.size) (by omega))
      exact ⟨rfl, (s2g.alloc _).other _ (Nat.ne_of_lt s2g.lt), (s2t.alloc _).other _ (Nat.ne_of_lt s2t.lt), below_setRow (hbx.alloc hbx.size _) hbx.size _⟩
    · simp only [sgLHInsStart]
      have q0 := Blk.new wd 74 (rfC rf0)
      go_wp2_with fail
      refine ⟨rfl, ⟨hS0.1.alloc _, hS0.2.alloc _⟩, plan_force ?_⟩
      simp only [sgLHInsStart]
      go_wp2_with fail
      refine (hRef.out _).mono ?_
      rintro e w2 ⟨rfl, hb2⟩
      have s2g := (hS0.1.alloc _).below hb2 (hS0.1.alloc _).lt
      have s2t := (hS0.2.alloc _).below hb2 (hS0.2.alloc _).lt
      have q2 := q0.below hb2 q0.lt
      have hb3 : Below wd.heap.size wd w2 := (below_new1 wd _).trans (hb2.mono (by simp))
      go_wp2_with fail
      refine ⟨rfl, ⟨s2g, s2t⟩, plan_force ?_⟩
      simp only [sgLHInsStart]
      go_wp2_with fail
      refine ⟨rfl, ⟨s2g, s2t⟩, plan_force ?_⟩
      simp only [sgLHInsStart]
      refine wpList_store_row (by rfl) 74 _ _ (by rfl) (wd.heap.size) (rfC R1) (by rfl) (by rfl) 74 (rfC rf0) q2 (tsizeRef.trans (by rw [rfC_size])) (by simp only [rfC_size]) (rfC_all _) ?_
      simp only [Act.put, sgPHInsStart]
      go_wp2_with fail
      refine ⟨rfl, ⟨s2g.other _ (Nat.ne_of_lt hS0.1.lt), s2t.other _ (Nat.ne_of_lt hS0.2.lt)⟩, plan_fin ?_⟩
      simp only [sgLHInsStart]
      go_wp2_with fail
      refine ⟨rfl, ?_⟩
      go_wp2_with fail
      go_meet
      have hws := HWS.out
      have hbx := hwd.trans (hb3.mono (B' := w1.heap.size) (by omega))
      exact ⟨rfl, s2g.other _ (Nat.ne_of_lt hS0.1.lt), s2t.other _ (Nat.ne_of_lt hS0.2.lt), below_setRow hbx (by omega) _⟩
  case rest =>
    obtain ⟨rfl, g3, t3, hb3⟩ := hcut
    rename World => w3
    have HB3 : Hid (Below w.heap.size w w3) := HB1.out.trans (hb3.mono HB1.out.size)
    have HG3 : Hid (Blk w3.drew g 180 (grC cp h0 R0 hh0 mv0 e0)) := g3
    have HT3 : Hid (Blk w3.drew w.heap.size 76 (trC (n : Int) R)) := t3
    have HTH : Hid (w3.drew.there g 1 34) := Blk.there HG3.out 1 34 (by rw [grC_size]; decide)
    have HG4 : Hid (Blk (w3.drew.setCells g 1 (trC (n : Int) R).toList) g 180 (grC cp (n : Int) R hh0 mv0 e0)) := gr_putTree HG3.out _ _
    have HT4 : Hid (Blk (w3.drew.setCells g 1 (trC (n : Int) R).toList) w.heap.size 76 (trC (n : Int) R)) := Blk.cells_other (Nat.ne_of_gt HGL.out) _ _ _ HT3.out
    have c35 := gr_c35 HG4.out
    have f35 : (w3.drew.setCells g 1 (trC (n : Int) R).toList).frozen? ⟨g, 35, none⟩ = false := HG4.out.frozen 35
    clear g1 t1 hb3 g3 t3 HB1 hRef hz
    go_wp2_with fail
    refine wp_region_partsS (fun W => Blk W w.heap.size 76 (trC (n : Int) R)) [([0, 1], 2, true), ([], 3, true), ([], 4, true), ([], 5, false), ([], 6, false), ([], 7, false), ([], 8, false), ([], 9, false)] [] [10] (by kernel_rfl) (by kernel_rfl) HT3.out (partsI_yield ?_)
    simp only [sgLHInsStart]
    go_wp2_with fail
    refine ⟨rfl, _, .agg (trC (n : Int) R), rfl, kyields_load (by rfl) 76 _ (by rfl) w.heap.size 34 (trF (n : Int) R) (by rfl) _ 76 (fun W hW => hW) Tryz.underlying76 rfl sizeTr, partsI_yield ?_⟩
    simp only [Act.put, sgPHInsStart]
    simp only [sgLHInsStart]
    go_wp2_with fail
    refine ⟨rfl, _, .pointer (some ⟨w.heap.size, 0, none⟩), rfl, Or.inl ⟨by rfl, fun W hW => by go_simp⟩, partsI_yield ?_⟩
    simp only [Act.put, sgPHInsStart]
    simp only [sgLHInsStart]
    go_wp2_with fail
    refine ⟨rfl, _, .int .i64 (n : Int), rfl, Or.inl ⟨by rfl, fun W hW => by have hW1 : W.cell? ⟨w.heap.size, 0, none⟩ = some (.int .i64 (n : Int)) := hW.cv (n := 34) (by decide); go_simp⟩, partsI_force ?_⟩
    simp only [Act.put, sgPHInsStart]
    simp only [sgLHInsStart]
    go_wp2_with fail
    refine ⟨rfl, HT3.out, partsI_force ?_⟩
    simp only [sgLHInsStart]
    go_wp2_with fail
    refine ⟨rfl, HT3.out, partsI_force ?_⟩
    simp only [sgLHInsStart]
    refine wpList_store_mid (by rfl) 76 _ _ (by rfl) g 1 (trC (n : Int) R) (by rfl) (by rfl) (by rw [trC_size]; exact HTH.out) (by rw [trC_size]; exact sizeTr) (trC_all _ _) ?_
    simp only [Act.put, sgPHInsStart]
    go_wp2_with fail
    refine ⟨rfl, HT4.out, partsI_force ?_⟩
    simp only [sgLHInsStart]
    go_wp2_with fail
    refine ⟨rfl, HT4.out, partsI_force ?_⟩
    simp only [sgLHInsStart]
    go_wp2_with fail
    refine ⟨rfl, HT4.out, partsI_last ?_⟩
    simp only [sgLHInsStart]
    have HG5 : Hid (Blk ((w3.drew.setCells g 1 (trC (n : Int) R).toList).setCell ⟨g, 35, none⟩ (.int .i64 (n : Int))) g 180 (grC cp (n : Int) R (n : Int) mv0 e0)) := gr_putHeight HG4.out _
    have HT5 : Hid (Blk ((w3.drew.setCells g 1 (trC (n : Int) R).toList).setCell ⟨g, 35, none⟩ (.int .i64 (n : Int))) w.heap.size 76 (trC (n : Int) R)) := HT4.out.put_other _ _ (Nat.ne_of_gt HGL.out)
    have HB5 : Hid (Below g w ((w3.drew.setCells g 1 (trC (n : Int) R).toList).setCell ⟨g, 35, none⟩ (.int .i64 (n : Int)))) := (below_setCells (Nat.le_refl _) _ _ _ (HB3.out.mono (Nat.le_of_lt HGL.out)).drew).setCell (Nat.le_refl _) _
    go_wp2_with fail
    refine ⟨rfl, ?_⟩
    clear HB3 HG3 HT3 HTH HG4 HT4 c35 f35
    generalize ((w3.drew.setCells g 1 (trC (n : Int) R).toList).setCell ⟨g, 35, none⟩ (.int .i64 (n : Int))) = w4 at *
    have c36 : w4.cell? ⟨g, 36, none⟩ = some (.map mv0) := gr_c36 HG5.out
    have f36 : w4.frozen? ⟨g, 36, none⟩ = false := HG5.out.frozen 36
    have ct : w4.cell? ⟨w.heap.size, 0, none⟩ = some (.int .i64 (n : Int)) := HT5.out.cv (n := 34) (by decide)
    have HGL4 : Hid (g < w4.heap.size) := HG5.out.lt
    have HWL4 : Hid (w.heap.size < w4.heap.size) := HT5.out.lt
    have hgl4 := HGL4.out
    have hwl4 := HWL4.out
    have hmm := @run_makeMap Tryz.prog
    go_wp2_with fail
    have HG6 : Hid (Blk ((w4.setCell ⟨g, 36, none⟩ (.map (some w4.heap.size))).alloc (.map #[] 0)) g 180 (grC cp (n : Int) R (n : Int) (some w4.heap.size) e0)) := (gr_putMap HG5.out _).alloc _
    have HM6 : Hid (((w4.setCell ⟨g, 36, none⟩ (.map (some w4.heap.size))).alloc (.map #[] 0)).heap[w4.heap.size]? = some (.map #[] 0)) := by
      have := heap_alloc_new (w4.setCell ⟨g, 36, none⟩ (.map (some w4.heap.size))) (.map #[] 0)
      rw [World.size_setCell] at this
      exact this
    have HB6 : Hid (Below g w ((w4.setCell ⟨g, 36, none⟩ (.map (some w4.heap.size))).alloc (.map #[] 0))) := (HB5.out.setCell (Nat.le_refl _) _).alloc (by rw [World.size_setCell]; exact Nat.le_of_lt HGL4.out) _
    clear HB5 HG5 HT5 c36 f36 ct hgl4 hwl4 hmm
    generalize ((w4.setCell ⟨g, 36, none⟩ (.map (some w4.heap.size))).alloc (.map #[] 0)) = w6 at *
    generalize w4.heap.size = m at *
    refine (HC.out _).mono ?_
    rintro e _ ⟨rfl, rfl⟩
    have c37 : w6.cell? ⟨g, 37, none⟩ = some (.int .i64 e0) := gr_c37 HG6.out
    have f37 : w6.frozen? ⟨g, 37, none⟩ = false := HG6.out.frozen 37
    go_wp2_with fail
    go_ret
    exact ⟨rfl, m, Nat.le_of_lt HWL4.out, ⟨0, (Deep.blk_setCell_other w6 ⟨g, 37, none⟩ _ m (Nat.ne_of_gt HGL4.out)).trans HM6.out⟩, gr_putEnd HG6.out _, HB6.out.setCell (Nat.le_refl _) _⟩
set_option maxRecDepth 100000 in
set_option maxHeartbeats 4000000 in
theorem new_ok (n c : Nat) (hc : 4 ^ n = c) (h : Int) (hh : h = (n : Int)) (R : Rf) (hR : R.1 < 4294967296) (hD : okD R.2) (hok : trOk h R) (cp : Option Addr) (w : World) : Calls Tryz.prog 43 #[.pointer cp, .agg (trC h R)] w fun x w' => ∃ g m, x = .returned (.tuple #[.pointer (some ⟨g, 0, none⟩), .int .i64 0]) ∧ w.heap.size ≤ g ∧ g < m ∧ (∃ k, w'.heap[m]? = some (.map #[] k)) ∧ Blk w' g 180 (grC cp h R h (some m) (c : Int)) ∧ Below w.heap.size w w' := by
  have HSt : Hid (∀ w g, Blk w g 180 (grC cp 0 rf0 0 none 0) → Calls Tryz.prog 70 #[.pointer (some ⟨g, 0, none⟩), .agg (trC h R)] w fun x w' => x = .returned (.int .i64 0) ∧ ∃ m, w.heap.size ≤ m ∧ (∃ k, w'.heap[m]? = some (.map #[] k)) ∧ Blk w' g 180 (grC cp h R h (some m) (c : Int)) ∧ Below g w w') := fun w g h1 => by
    subst hh
    exact stand_ok n c (by have := hok.2; omega) hc R R g (fun w => ref_root (n : Int) R hR hD hok cp w) w h1
  clear hR hD hok hc hh
  have HBt : Hid (Tryz.prog.built 180 [(0, .pointer cp)] = some (grC cp 0 rf0 0 none 0)) := built_gr1 cp
  have HB1 : Hid (Below w.heap.size w ((w.alloc (.cells (trC h R) 76)).alloc (.cells (grC cp 0 rf0 0 none 0) 180))) := below_new2 w _ _
  have t1 : Blk ((w.alloc (.cells (trC h R) 76)).alloc (.cells (grC cp 0 rf0 0 none 0) 180)) w.heap.size 76 (trC h R) := (Blk.new w _ _).alloc _
  have HG1 : Hid (Blk ((w.alloc (.cells (trC h R) 76)).alloc (.cells (grC cp 0 rf0 0 none 0) 180)) (w.heap.size + 1) 180 (grC cp 0 rf0 0 none 0)) := Blk.new1 w _ _ _
  go_enter Tryz.func43, Tryz.ntmps43
  go_wp2_with (first
    | (refine gr_build1 (by rfl) 180 0 _ (by rfl) (.pointer cp) (by rfl) (grC cp 0 rf0 0 none 0) (by exact HBt.out) ?_; simp only [Act.put, sgPHInsStart])
    | (refine wpList_load_rowg (by rfl) 76 _ (by rfl) (w.heap.size) (by rfl) 76 (trC h R) (0, 0) _ (by exact t1) Tryz.underlying76 (by rfl) (sizeTr.trans (by rw [trC_size])) ?_; simp only [Act.put, sgPHInsStart])
    | fail)
  generalize ((w.alloc (.cells (trC h R) 76)).alloc (.cells (grC cp 0 rf0 0 none 0) 180)) = w1 at *
  refine (HSt.out _ _ HG1.out).mono ?_
  rintro e w2 ⟨rfl, m, hm, hk, hg2, hb2⟩
  have HB2 : Hid (Below w.heap.size w w2) := HB1.out.trans (hb2.mono (by omega))
  have HM : Hid (w.heap.size + 1 < m) := Nat.lt_of_lt_of_le HG1.out.lt hm
  have HK : Hid (∃ k, w2.heap[m]? = some (.map #[] k)) := hk
  have HG2 : Hid (Blk w2 (w.heap.size + 1) 180 (grC cp h R h (some m) (c : Int))) := hg2
  clear hb2 hm hk hg2
  go_wp2_with fail
  go_ret2
  exact ⟨_, m, rfl, by omega, HM.out, HK.out, HG2.out, HB2.out⟩
end Go.Proofs.YtimjggkdpmgpjaaGreatDoor

namespace Go.Proofs.YtimjggkdpmgpjaaGreatDoor
open Go Go.RowKit
set_option linter.unusedSimpArgs false
set_option linter.unusedVariables false
/-- a table that may be opened -/
def mayOpen (h : Int) (R : Rf) (high : Int) : Prop := (0 ≤ high ∧ high ≤ 4096) ∧ h = hL 4 high ∧ (decide (R = rf0) = decide (high = 0)) ∧ rOk R = true
theorem ti_c0 {w : World} {b t : Nat} {h : Int} {R : Rf} (H : Blk w b t (trC h R)) : w.cell? ⟨b, 0, none⟩ = some (.int .i64 h) := H.cv (n := 34) (by decide)
theorem wpList_build7 {P : Program} {ops : Array Oper} {rest : List Oper} {o : Oper} {a : Act} {w : World} {Q : Exit → Act → World → Prop} (hg : o.guard = none) (t : TypeId) (x0 x1 x2 x3 x4 x5 x6 : Operand) (ho : o.op = .build t #[(0, x0), (1, x1), (2, x2), (3, x3), (4, x4), (5, x5), (6, x6)]) (v0 v1 v2 v3 v4 v5 v6 : Value) (h0 : a.eval x0 = v0) (h1 : a.eval x1 = v1) (h2 : a.eval x2 = v2) (h3 : a.eval x3 = v3) (h4 : a.eval x4 = v4) (h5 : a.eval x5 = v5) (h6 : a.eval x6 = v6)
    (cells : Array Value) (hf : P.built t [(0, v0), (1, v1), (2, v2), (3, v3), (4, v4), (5, v5), (6, v6)] = some cells) (h : wpList P ops Q rest (a.put o.dst (.agg cells)) w) : wpList P ops Q (o :: rest) a w := by
  refine wpList_buildTo hg t _ ho o.dst rfl cells ?_ h
  have e : (Array.map (fun (x : Nat × Operand) => match x with | (i, x) => (i, a.eval x)) #[(0, x0), (1, x1), (2, x2), (3, x3), (4, x4), (5, x5), (6, x6)]).toList = [(0, v0), (1, v1), (2, v2), (3, v3), (4, v4), (5, v5), (6, v6)] := by simp [h0, h1, h2, h3, h4, h5, h6]
  rw [e]
  exact hf
section
variable {cp : Option Addr} {h : Int} {R : Rf} {high : Int}
set_option maxRecDepth 100000 in
set_option maxHeartbeats 4000000 in
theorem open_full (hR : R.1 < 4294967296) (hD : okD R.2) (hh : -9223372036854775808 ≤ high ∧ high ≤ 9223372036854775807) (hm : mayOpen h R high) (w : World) : Calls Tryz.prog 21 #[.pointer cp, .agg (trC h R), .int .i64 high] w fun e w' => ∃ x mf ml mc, e = .returned (.tuple #[.pointer (some ⟨x, 0, none⟩), .int .i64 0]) ∧ (w.heap.size ≤ x ∧ w.heap.size ≤ mf ∧ w.heap.size ≤ ml ∧ w.heap.size ≤ mc ∧ x ≠ mf) ∧ Blk w' x 136 (ixC cp h R high high mf ml mc) ∧ MapIs pkV ftV w' mf [] ∧ (mf < ml ∧ ml < mc ∧ mc < x ∧ w'.heap[mf]? = some (.map #[] 0) ∧ w'.heap[ml]? = some (.map #[] 0) ∧ w'.heap[mc]? = some (.map #[] 0)) ∧ Below w.heap.size w w' := by
  have HT := table_any high hh
  have hb1 : Below w.heap.size w (w.alloc (.cells (trC h R) 76)) := below_new1 _ _
  have t1 : Blk (w.alloc (.cells (trC h R) 76)) w.heap.size 76 (trC h R) := Blk.new _ _ _
  have c0 := ti_c0 t1
  have HR1 : Hid ((w.alloc (.cells (trC h R) 76)).rangeAt w.heap.size 1 ((List.range 33).map (rfF R.1 R.2))) := tr_range t1
  have HNo : Hid (∀ w, Calls Tryz.prog 42 #[.agg (rfC R)] w fun e w' => e = .returned (.bool (decide (R = rf0))) ∧ Below w.heap.size w w') := none_any R
  obtain ⟨hg, he, hz, hr⟩ := hm
  have HTT : Hid (∀ w : World, Calls Tryz.prog 41 #[.int .i64 high] w fun e w' => e = .returned (.tuple #[.int .i64 (hL 4 high), .int .i64 0]) ∧ w' = w) := fun w => by
    have := HT w
    rw [if_pos hg] at this
    exact this
  clear HT
  rw [← he] at HTT
  have hok : trOk h R := ⟨hr, by rw [he]; exact hL_lt 4 high⟩
  obtain ⟨nh, hnh⟩ : ∃ nh : Nat, h = (nh : Int) := ⟨h.toNat, by have := hok.2.1; omega⟩
  have HG : Hid (∀ w, Calls Tryz.prog 43 #[.pointer cp, .agg (trC h R)] w fun x w' => ∃ g, x = .returned (.tuple #[.pointer (some ⟨g, 0, none⟩), .int .i64 0]) ∧ Below w.heap.size w w') := fun w => (new_ok nh (4 ^ nh) rfl h hnh R hR hD hok cp w).mono fun e w' ⟨g, m, h1, _, _, _, _, h2⟩ => ⟨g, h1, h2⟩
  obtain ⟨bz, hbz⟩ : ∃ bz, decide (R = rf0) = bz := ⟨_, rfl⟩
  rw [hbz] at HNo hz
  clear hok hR hD he hg hh hbz hnh hr
  by_cases h0 : high = 0
  · subst h0
    rw [decide_eq_true rfl] at hz
    subst hz
    go_enter Tryz.func21, Tryz.ntmps21
    go_wp2_with fail
    generalize (w.alloc (.cells (trC h R) 76)) = w1 at *
    refine (HTT.out _).mono ?_
    rintro e w2 ⟨rfl, hw2⟩
    subst hw2
    go_wp2_with (first
      | (refine wpList_load_blkI (by rfl) 74 _ (by rfl) (w.heap.size) (1) 33 (rfF R.1 R.2) (by rfl) _ (by exact HR1.out) Tryz.underlying74 rfl tsizeRef ?_; simp only [Act.put, sgPHInsStart])
      | fail)
    refine (HNo.out _).mono ?_
    rintro e w3 ⟨rfl, hb3⟩
    have t3 := t1.below hb3 t1.lt
    have hb13 := hb1.trans (hb3.mono hb1.size)
    clear hb3 t1 hb1 HNo HTT HR1 c0
    go_wp2_with (first
      | (refine wpList_load_rowg (by rfl) 76 _ (by rfl) (w.heap.size) (by rfl) 76 (trC h R) (0, 0) _ (by exact t3) Tryz.underlying76 (by rfl) (sizeTr.trans (by rw [trC_size])) ?_; simp only [Act.put, sgPHInsStart])
      | fail)
    refine (HG.out _).mono ?_
    rintro e w4 ⟨g4, rfl, hb4⟩
    have hb14 := hb13.trans (hb4.mono hb13.size)
    have t4 := t3.below hb4 t3.lt
    clear hb4 hb13 t3 HG
    have hmm := @run_makeMap Tryz.prog
    have hbt := built_ix cp h R 0 0 w4.heap.size (w4.heap.size + 1) (w4.heap.size + 1 + 1)
    go_wp2_with (first
      | (refine wpList_load_rowg (by rfl) 76 _ (by rfl) (w.heap.size) (by rfl) 76 (trC h R) (0, 0) _ (by exact t4) Tryz.underlying76 (by rfl) (sizeTr.trans (by rw [trC_size])) ?_; simp only [Act.put, sgPHInsStart])
      | (refine wpList_build7 (by rfl) 136 _ _ _ _ _ _ _ (by rfl) _ _ _ _ _ _ _ (by rfl) (by rfl) (by rfl) (by rfl) (by rfl) (by rfl) (by rfl) (ixC cp h R 0 0 w4.heap.size (w4.heap.size + 1) (w4.heap.size + 1 + 1)) (by exact hbt) ?_; simp only [Act.put, sgPHInsStart])
      | fail)
    refine bodyPost_ret (results_tmp2 Tryz.results21 _ _ _) rfl ?_
    have hx5 := Blk.new (((w4.alloc (.map #[] 0)).alloc (.map #[] 0)).alloc (.map #[] 0)) 136 (ixC cp h R 0 0 w4.heap.size (w4.heap.size + 1) (w4.heap.size + 1 + 1))
    rw [show (((w4.alloc (.map #[] 0)).alloc (.map #[] 0)).alloc (.map #[] 0)).heap.size = w4.heap.size + 1 + 1 + 1 by simp] at hx5
    have hs := hb14.size
    have hb1 : Below (w4.heap.size + 1) (w4.alloc (.map #[] 0)) (w4.alloc (.map #[] 0)) := Below.refl _ _
    have hb5 : Below (w4.heap.size + 1) (w4.alloc (.map #[] 0)) ((((w4.alloc (.map #[] 0)).alloc (.map #[] 0)).alloc (.map #[] 0)).alloc (.cells (ixC cp h R 0 0 w4.heap.size (w4.heap.size + 1) (w4.heap.size + 1 + 1)) 136)) := ((hb1.alloc (by simp) _).alloc (by simp) _).alloc (by simp) _
    have hm0 : MapIs pkV ftV (w4.alloc (.map #[] 0)) w4.heap.size [] := ⟨#[], 0, heap_alloc_new _ _, rfl⟩
    have hm1 : ((w4.alloc (.map #[] 0)).alloc (.map #[] 0)).heap[w4.heap.size + 1]? = some (.map #[] 0) := by
      have := heap_alloc_new (w4.alloc (.map #[] 0)) (.map #[] 0)
      rw [show (w4.alloc (.map #[] 0)).heap.size = w4.heap.size + 1 by simp] at this
      exact this
    have hm2 : (((w4.alloc (.map #[] 0)).alloc (.map #[] 0)).alloc (.map #[] 0)).heap[w4.heap.size + 1 + 1]? = some (.map #[] 0) := by
      have := heap_alloc_new ((w4.alloc (.map #[] 0)).alloc (.map #[] 0)) (.map #[] 0)
      rw [show ((w4.alloc (.map #[] 0)).alloc (.map #[] 0)).heap.size = w4.heap.size + 1 + 1 by simp] at this
      exact this
    have hb6 : Below (w4.heap.size + 1 + 1) ((w4.alloc (.map #[] 0)).alloc (.map #[] 0)) ((((w4.alloc (.map #[] 0)).alloc (.map #[] 0)).alloc (.map #[] 0)).alloc (.cells (ixC cp h R 0 0 w4.heap.size (w4.heap.size + 1) (w4.heap.size + 1 + 1)) 136)) := ((Below.refl _ _).alloc (by simp) _).alloc (by simp) _
    have hb7 : Below (w4.heap.size + 1 + 1 + 1) (((w4.alloc (.map #[] 0)).alloc (.map #[] 0)).alloc (.map #[] 0)) ((((w4.alloc (.map #[] 0)).alloc (.map #[] 0)).alloc (.map #[] 0)).alloc (.cells (ixC cp h R 0 0 w4.heap.size (w4.heap.size + 1) (w4.heap.size + 1 + 1)) 136)) := (Below.refl _ _).alloc (by simp) _
    exact ⟨_, _, _, _, rfl, ⟨by omega, by omega, by omega, by omega, by omega⟩, hx5, hm0.below hb5 (by omega), ⟨by omega, by omega, by omega, (hb5.block _ (by omega)).trans (heap_alloc_new _ _), (hb6.block _ (by omega)).trans hm1, (hb7.block _ (by omega)).trans hm2⟩, hb14.trans ((((((Below.refl _ _).alloc hs _).alloc (by simp; omega) _).alloc (by simp; omega) _).alloc (by simp; omega) _))⟩
  · have hq0 : (high == 0) = false := by simp [h0]
    rw [decide_eq_false h0] at hz
    subst hz
    go_enter Tryz.func21, Tryz.ntmps21
    go_wp2_with fail
    generalize (w.alloc (.cells (trC h R) 76)) = w1 at *
    refine (HTT.out _).mono ?_
    rintro e w2 ⟨rfl, hw2⟩
    subst hw2
    go_wp2_with (first
      | (refine wpList_load_blkI (by rfl) 74 _ (by rfl) (w.heap.size) (1) 33 (rfF R.1 R.2) (by rfl) _ (by exact HR1.out) Tryz.underlying74 rfl tsizeRef ?_; simp only [Act.put, sgPHInsStart])
      | fail)
    refine (HNo.out _).mono ?_
    rintro e w3 ⟨rfl, hb3⟩
    have t3 := t1.below hb3 t1.lt
    have hb13 := hb1.trans (hb3.mono hb1.size)
    clear hb3 t1 hb1 HNo HTT HR1 c0
    go_wp2_with (first
      | (refine wpList_load_rowg (by rfl) 76 _ (by rfl) (w.heap.size) (by rfl) 76 (trC h R) (0, 0) _ (by exact t3) Tryz.underlying76 (by rfl) (sizeTr.trans (by rw [trC_size])) ?_; simp only [Act.put, sgPHInsStart])
      | fail)
    refine (HG.out _).mono ?_
    rintro e w4 ⟨g4, rfl, hb4⟩
    have hb14 := hb13.trans (hb4.mono hb13.size)
    have t4 := t3.below hb4 t3.lt
    clear hb4 hb13 t3 HG
    have hmm := @run_makeMap Tryz.prog
    have hbt := built_ix cp h R high high w4.heap.size (w4.heap.size + 1) (w4.heap.size + 1 + 1)
    go_wp2_with (first
      | (refine wpList_load_rowg (by rfl) 76 _ (by rfl) (w.heap.size) (by rfl) 76 (trC h R) (0, 0) _ (by exact t4) Tryz.underlying76 (by rfl) (sizeTr.trans (by rw [trC_size])) ?_; simp only [Act.put, sgPHInsStart])
      | (refine wpList_build7 (by rfl) 136 _ _ _ _ _ _ _ (by rfl) _ _ _ _ _ _ _ (by rfl) (by rfl) (by rfl) (by rfl) (by rfl) (by rfl) (by rfl) (ixC cp h R high high w4.heap.size (w4.heap.size + 1) (w4.heap.size + 1 + 1)) (by exact hbt) ?_; simp only [Act.put, sgPHInsStart])
      | fail)
    refine bodyPost_ret (results_tmp2 Tryz.results21 _ _ _) rfl ?_
    have hx5 := Blk.new (((w4.alloc (.map #[] 0)).alloc (.map #[] 0)).alloc (.map #[] 0)) 136 (ixC cp h R high high w4.heap.size (w4.heap.size + 1) (w4.heap.size + 1 + 1))
    rw [show (((w4.alloc (.map #[] 0)).alloc (.map #[] 0)).alloc (.map #[] 0)).heap.size = w4.heap.size + 1 + 1 + 1 by simp] at hx5
    have hs := hb14.size
    have hb1 : Below (w4.heap.size + 1) (w4.alloc (.map #[] 0)) (w4.alloc (.map #[] 0)) := Below.refl _ _
    have hb5 : Below (w4.heap.size + 1) (w4.alloc (.map #[] 0)) ((((w4.alloc (.map #[] 0)).alloc (.map #[] 0)).alloc (.map #[] 0)).alloc (.cells (ixC cp h R high high w4.heap.size (w4.heap.size + 1) (w4.heap.size + 1 + 1)) 136)) := ((hb1.alloc (by simp) _).alloc (by simp) _).alloc (by simp) _
    have hm0 : MapIs pkV ftV (w4.alloc (.map #[] 0)) w4.heap.size [] := ⟨#[], 0, heap_alloc_new _ _, rfl⟩
    have hm1 : ((w4.alloc (.map #[] 0)).alloc (.map #[] 0)).heap[w4.heap.size + 1]? = some (.map #[] 0) := by
      have := heap_alloc_new (w4.alloc (.map #[] 0)) (.map #[] 0)
      rw [show (w4.alloc (.map #[] 0)).heap.size = w4.heap.size + 1 by simp] at this
      exact this
    have hm2 : (((w4.alloc (.map #[] 0)).alloc (.map #[] 0)).alloc (.map #[] 0)).heap[w4.heap.size + 1 + 1]? = some (.map #[] 0) := by
      have := heap_alloc_new ((w4.alloc (.map #[] 0)).alloc (.map #[] 0)) (.map #[] 0)
      rw [show ((w4.alloc (.map #[] 0)).alloc (.map #[] 0)).heap.size = w4.heap.size + 1 + 1 by simp] at this
      exact this
    have hb6 : Below (w4.heap.size + 1 + 1) ((w4.alloc (.map #[] 0)).alloc (.map #[] 0)) ((((w4.alloc (.map #[] 0)).alloc (.map #[] 0)).alloc (.map #[] 0)).alloc (.cells (ixC cp h R high high w4.heap.size (w4.heap.size + 1) (w4.heap.size + 1 + 1)) 136)) := ((Below.refl _ _).alloc (by simp) _).alloc (by simp) _
    have hb7 : Below (w4.heap.size + 1 + 1 + 1) (((w4.alloc (.map #[] 0)).alloc (.map #[] 0)).alloc (.map #[] 0)) ((((w4.alloc (.map #[] 0)).alloc (.map #[] 0)).alloc (.map #[] 0)).alloc (.cells (ixC cp h R high high w4.heap.size (w4.heap.size + 1) (w4.heap.size + 1 + 1)) 136)) := (Below.refl _ _).alloc (by simp) _
    exact ⟨_, _, _, _, rfl, ⟨by omega, by omega, by omega, by omega, by omega⟩, hx5, hm0.below hb5 (by omega), ⟨by omega, by omega, by omega, (hb5.block _ (by omega)).trans (heap_alloc_new _ _), (hb6.block _ (by omega)).trans hm1, (hb7.block _ (by omega)).trans hm2⟩, hb14.trans ((((((Below.refl _ _).alloc hs _).alloc (by simp; omega) _).alloc (by simp; omega) _).alloc (by simp; omega) _))⟩
end
end Go.Proofs.YtimjggkdpmgpjaaGreatDoor

namespace Go.Proofs.YtimjggkdpmgpjaaGreatDoor
open Go Go.RowKit
set_option linter.unusedSimpArgs false
set_option linter.unusedVariables false
theorem may00 : mayOpen 0 rf0 0 := ⟨by decide, by decide, by simp, by decide⟩
end Go.Proofs.YtimjggkdpmgpjaaGreatDoor

namespace Go.Proofs.YtimjggkdpmgpjaaGreatDoor
open Go Go.RowKit
set_option linter.unusedSimpArgs false
set_option linter.unusedVariables false
theorem open_im (cp : Option Addr) (w : World) : Calls Tryz.prog 21 #[.pointer cp, .agg (trC 0 rf0), .int .i64 0] w fun e w' => ∃ x mf ml mc, e = .returned (.tuple #[.pointer (some ⟨x, 0, none⟩), .int .i64 0]) ∧ (w.heap.size ≤ x ∧ w.heap.size ≤ mf ∧ w.heap.size ≤ ml ∧ w.heap.size ≤ mc) ∧ IM w' x mf ml mc cp 0 (fun _ => hd00) (fun _ _ _ => 0) ∧ Below w.heap.size w w' := by
  refine (open_full (by decide) okD_zero (by decide) may00 w).mono ?_
  rintro e w' ⟨x, mf, ml, mc, h1, h2, h3, h4, h5, h6⟩
  refine ⟨x, mf, ml, mc, h1, ⟨h2.1, h2.2.1, h2.2.2.1, h2.2.2.2.1⟩, ⟨h3, ⟨fun _ => none, MapFn.new h5.2.2.2.1, fun i _ p _ => rfl⟩, ⟨fun _ => none, MapFn.new h5.2.2.2.2.1, fun n p j _ => rfl⟩, ⟨0, h5.2.2.2.2.2⟩, ?_⟩, h6⟩
  omega
end Go.Proofs.YtimjggkdpmgpjaaGreatDoor
