/- Trees: Same, where Diff is told. -/
import Derived.Test.YtjhabngibbmpbaaGreatHTrDf2
import Derived.Test.YtjhabngibbmpbaaGreatHTrDf
import Derived.BigQuiet
import Derived.Deep.QuietTactic
import Derived.Handy

namespace Go.Proofs.YtjhabngibbmpbaaGreat
theorem sgLHTrSm : (∀ (α : Type) (a : α) (l r : List α), (a :: l) ++ r = a :: (l ++ r)) ∧ (∀ (α : Type) (l : List α), [] ++ l = l) ∧ (∀ (α : Type) (l : List α), l ++ [] = l) ∧ (∀ (α β : Type) (f : α → Option β) (a : α) (l : List α), (a :: l).filterMap f = match f a with | none => l.filterMap f | some b => b :: l.filterMap f) ∧ (∀ (α β : Type) (f : α → Option β), [].filterMap f = []) ∧ (∀ (α : Type) (l : List α) (i : Nat), l.toArray[i]? = l[i]?) ∧ (∀ (α : Type) (a : α) (l : List α), (a :: l)[0]? = some a) ∧ (∀ (α : Type) (a : α) (l : List α) (i : Nat), (a :: l)[i + 1]? = l[i]?) :=
  ⟨fun _ _ _ _ => List.cons_append, fun _ _ => List.nil_append _, fun _ _ => List.append_nil _, fun _ _ _ _ _ => List.filterMap_cons, fun _ _ _ => List.filterMap_nil, fun _ _ _ => List.getElem?_toArray, fun _ _ _ => List.getElem?_cons_zero, fun _ _ _ _ => List.getElem?_cons_succ⟩
theorem sgPHTrSm : (∀ (α : Type) (l : List α) (i : Nat) (a : α), l.toArray.setIfInBounds i a = (l.set i a).toArray) ∧ (∀ (α : Type) (a b : α) (l : List α), (a :: l).set 0 b = b :: l) ∧ (∀ (α : Type) (a b : α) (l : List α) (i : Nat), (a :: l).set (i + 1) b = a :: l.set i b) :=
  ⟨fun _ _ _ _ => List.setIfInBounds_toArray _ _ _, fun _ _ _ _ => List.set_cons_zero, fun _ _ _ _ _ => List.set_cons_succ⟩
end Go.Proofs.YtjhabngibbmpbaaGreat
namespace Go.Proofs.YtjhabngibbmpbaaGreat
open Go Go.RowKit
set_option linter.unusedSimpArgs false
set_option linter.unusedVariables false
theorem built_se (c : Nat) (h : Int) (R : Rf) (fn : Fn) (x y : Array Value) : Tryz.prog.built 125 [(0, .pointer (some ⟨c, 0, none⟩)), (1, .agg (trC h R)), (2, .func fn x y)] = some (seC c h R (.func fn x y)) := by kernel_rfl
theorem zero_se (w : World) : (zeroValue 125).run Tryz.prog w = .ok (.agg (va 36 fun i => if i = 0 then .pointer none else if i < 35 then trF 0 rf0 (i - 1) else .nilFunc)) w := zero_of (by kernel_rfl) w
theorem se_tree {w : World} {b t c : Nat} {h : Int} {R : Rf} {fv : Value} (H : Blk w b t (seC c h R fv)) : w.rangeAt b 1 ((List.range 34).map (trF h R)) := by
  have := Blk.range (n := 36) (f := seF c h R fv) H 1 34 (by decide)
  rw [show ((List.range 34).map fun j => seF c h R fv (1 + j)) = (List.range 34).map (trF h R) from List.map_congr_left fun j hj => ?_] at this
  · exact this
  · have hj := List.mem_range.1 hj
    unfold seF
    rw [if_neg (show ¬ 1 + j = 0 by omega), if_pos (show 1 + j < 35 by omega), show 1 + j - 1 = j by omega]
section
variable {B g N c m room i : Nat} {F : Nat → Nat} {U : Nat → Prop} {bx Bm : Nat} {k9 : Int} {s : List Ps} {z : Value}
set_option maxRecDepth 100000 in
set_option maxHeartbeats 8000000 in
/-- look at nothing -/
theorem look_nil (R : Rf) (fv : Value) (l p : Int) (w : World) : Calls Tryz.prog 79 #[.agg (seC c k9 R fv), .agg (poC l p rf0), .agg (rfC rf0)] w fun e w' => e = .returned (.int .i64 0) ∧ Below w.heap.size w w' := by
  have s1 : Blk (((w.alloc (.cells (seC c k9 R fv) 125)).alloc (.cells (poC l p rf0) 75)).alloc (.cells (rfC rf0) 44)) w.heap.size 125 (seC c k9 R fv) := ((Blk.new _ _ _).alloc _).alloc _
  have t1 : Blk (((w.alloc (.cells (seC c k9 R fv) 125)).alloc (.cells (poC l p rf0) 75)).alloc (.cells (rfC rf0) 44)) (w.heap.size + 1) 75 (poC l p rf0) := (Blk.new1 _ _ _ _).alloc _
  have r1 : Blk (((w.alloc (.cells (seC c k9 R fv) 125)).alloc (.cells (poC l p rf0) 75)).alloc (.cells (rfC rf0) 44)) (w.heap.size + 2) 44 (rfC rf0) := Blk.new2 _ _ _ _ _
  have hb1 : Below w.heap.size w (((w.alloc (.cells (seC c k9 R fv) 125)).alloc (.cells (poC l p rf0) 75)).alloc (.cells (rfC rf0) 44)) := below_new3 _ _ _ _
  have HK1 : Hid (Blk (((w.alloc (.cells (seC c k9 R fv) 125)).alloc (.cells (poC l p rf0) 75)).alloc (.cells (rfC rf0) 44)) w.heap.size 125 (seC c k9 R fv) ∧ Blk (((w.alloc (.cells (seC c k9 R fv) 125)).alloc (.cells (poC l p rf0) 75)).alloc (.cells (rfC rf0) 44)) (w.heap.size + 1) 75 (poC l p rf0) ∧ Blk (((w.alloc (.cells (seC c k9 R fv) 125)).alloc (.cells (poC l p rf0) 75)).alloc (.cells (rfC rf0) 44)) (w.heap.size + 2) 44 (rfC rf0) ∧ Below w.heap.size w (((w.alloc (.cells (seC c k9 R fv) 125)).alloc (.cells (poC l p rf0) 75)).alloc (.cells (rfC rf0) 44))) := ⟨s1, t1, r1, hb1⟩
  have z1 : (((w.alloc (.cells (seC c k9 R fv) 125)).alloc (.cells (poC l p rf0) 75)).alloc (.cells (rfC rf0) 44)).cell? ⟨w.heap.size + 1, 0, none⟩ = some (.int .i64 l) := (t1.cell 0).trans (va_at (poF l p rf0) (by decide))
  have z2 : (((w.alloc (.cells (seC c k9 R fv) 125)).alloc (.cells (poC l p rf0) 75)).alloc (.cells (rfC rf0) 44)).cell? ⟨w.heap.size, 1, none⟩ = some (.int .i64 k9) := (s1.cell 1).trans (va_at (seF c k9 R fv) (by decide))
  have z3 : (((w.alloc (.cells (seC c k9 R fv) 125)).alloc (.cells (poC l p rf0) 75)).alloc (.cells (rfC rf0) 44)).cell? ⟨w.heap.size + 1, 1, none⟩ = some (.int .i64 p) := (t1.cell 1).trans (va_at (poF l p rf0) (by decide))
  clear s1 t1 r1 hb1
  go_enter Tryz.func79, Tryz.ntmps79
  go_upto_region 1 with fail
  generalize (((w.alloc (.cells (seC c k9 R fv) 125)).alloc (.cells (poC l p rf0) 75)).alloc (.cells (rfC rf0) 44)) = w1 at *
  go_cut [23] (fun v wx => v = .bool (decide (l = k9 ∧ p = 0)) ∧ w1 = wx)
  case first =>
    by_cases h1 : l = k9
    · subst h1
      by_cases h2 : p = 0
      · subst h2
        go_wp2_with fail
        go_meet
        exact ⟨by simp, rfl⟩
      · go_wp2_with fail
        go_meet
        exact ⟨by simp [h2], rfl⟩
    · go_wp2_with fail
      go_meet
      exact ⟨by simp [h1], rfl⟩
  case rest =>
    obtain ⟨rfl, rfl⟩ := hcut
    clear z1 z2 z3
    go_upto_if 23 with fail
    go_cut [] (fun wx => Hid (Blk wx (w.heap.size + 1) 75 (poC l p rf0) ∧ Below w.heap.size w wx))
    case first =>
      by_cases hd : l = k9 ∧ p = 0
      · rw [decide_eq_true hd]
        have HRR : Hid (w1.rangeAt w.heap.size 2 ((List.range 33).map (rfF R.1 R.2))) := se_root HK1.out.1
        have r1 := HK1.out.2.2.1
        go_wp2_with (first
          | (refine wpList_load_blk (by rfl) 44 _ (by rfl) (w.heap.size) (2) 33 (rfF R.1 R.2) (by rfl) _ (by exact HRR.out) Tryz.underlying44 rfl tsizeRef ?_; simp only [Act.put, sgPHTrSm])
          | (refine wpList_store_row (by rfl) 44 _ _ (by rfl) (w.heap.size + 2) (rfC R) (by rfl) (by rfl) 44 (_) (by exact r1) (tsizeRef.trans (by rw [rfC_size])) (by simp only [rfC_size]) (rfC_all _) ?_; simp only [Act.put, sgPHTrSm])
          | fail)
        go_meet
        exact ⟨HK1.out.2.1.other _ (by omega), below_setRow HK1.out.2.2.2 (by omega) _⟩
      · rw [decide_eq_false hd]
        go_wp2_with fail
        go_meet
        exact ⟨HK1.out.2.1, HK1.out.2.2.2⟩
    case rest =>
      obtain ⟨w2, rfl⟩ : ∃ u, u = wc := ⟨_, rfl⟩
      have HK2 : Hid (Blk w2 (w.heap.size + 1) 75 (poC l p rf0) ∧ Below w.heap.size w w2) := hcut
      clear hcut HK1
      have HRP : Hid (w2.rangeAt (w.heap.size + 1) 2 ((List.range 33).map (rfF rf0.1 rf0.2))) := po_range HK2.out.1
      have hNn : Hid (∀ w, Calls Tryz.prog 45 #[.agg (rfC rf0)] w fun e w' => e = .returned (.bool true) ∧ Below w.heap.size w w') := fun w => by
        have := none_any rf0 w
        rw [decide_eq_true rfl] at this
        exact this
      go_wp2_with (first
        | (refine wpList_load_blk (by rfl) 44 _ (by rfl) (w.heap.size + 1) (2) 33 (rfF rf0.1 rf0.2) (by rfl) _ (by exact HRP.out) Tryz.underlying44 rfl tsizeRef ?_; simp only [Act.put, sgPHTrSm])
        | fail)
      refine (hNn.out w2).mono ?_
      rintro x w3 ⟨rfl, hb3⟩
      have hb13 := HK2.out.2.trans (hb3.mono HK2.out.2.size)
      go_wp2_with fail
      go_ret
      exact ⟨rfl, hb13⟩
set_option maxRecDepth 100000 in
set_option maxHeartbeats 8000000 in
/-- start at nothing -/
theorem start_nil (R : Rf) (fv : Value) (l p : Int) (w : World) : Calls Tryz.prog 62 #[.agg (seC c k9 R fv), .agg (poC l p rf0)] w fun e w' => e = .returned (.int .i64 0) ∧ Below w.heap.size w w' := by
  have hzr := zero_ref
  have s1 : Blk ((w.alloc (.cells (seC c k9 R fv) 125)).alloc (.cells (poC l p rf0) 75)) w.heap.size 125 (seC c k9 R fv) := (Blk.new _ _ _).alloc _
  have t1 : Blk ((w.alloc (.cells (seC c k9 R fv) 125)).alloc (.cells (poC l p rf0) 75)) (w.heap.size + 1) 75 (poC l p rf0) := Blk.new1 _ _ _ _
  have hb1 : Below w.heap.size w ((w.alloc (.cells (seC c k9 R fv) 125)).alloc (.cells (poC l p rf0) 75)) := below_new2 _ _ _
  have z1 : ((w.alloc (.cells (seC c k9 R fv) 125)).alloc (.cells (poC l p rf0) 75)).cell? ⟨w.heap.size + 1, 0, none⟩ = some (.int .i64 l) := (t1.cell 0).trans (va_at (poF l p rf0) (by decide))
  have z2 : ((w.alloc (.cells (seC c k9 R fv) 125)).alloc (.cells (poC l p rf0) 75)).cell? ⟨w.heap.size, 1, none⟩ = some (.int .i64 k9) := (s1.cell 1).trans (va_at (seF c k9 R fv) (by decide))
  have HRP : Hid (((w.alloc (.cells (seC c k9 R fv) 125)).alloc (.cells (poC l p rf0) 75)).rangeAt (w.heap.size + 1) 2 ((List.range 33).map (rfF rf0.1 rf0.2))) := po_range t1
  have HK1 : Hid (Blk ((w.alloc (.cells (seC c k9 R fv) 125)).alloc (.cells (poC l p rf0) 75)) w.heap.size 125 (seC c k9 R fv) ∧ Blk ((w.alloc (.cells (seC c k9 R fv) 125)).alloc (.cells (poC l p rf0) 75)) (w.heap.size + 1) 75 (poC l p rf0) ∧ Below w.heap.size w ((w.alloc (.cells (seC c k9 R fv) 125)).alloc (.cells (poC l p rf0) 75))) := ⟨s1, t1, hb1⟩
  have hNn : Hid (∀ w, Calls Tryz.prog 45 #[.agg (rfC rf0)] w fun e w' => e = .returned (.bool true) ∧ Below w.heap.size w w') := fun w => by
    have := none_any rf0 w
    rw [decide_eq_true rfl] at this
    exact this
  clear s1 t1 hb1
  go_enter Tryz.func62, Tryz.ntmps62
  go_upto_region 1 with fail
  generalize ((w.alloc (.cells (seC c k9 R fv) 125)).alloc (.cells (poC l p rf0) 75)) = w1 at *
  go_cut [17] (fun v wx => v = .bool true ∧ Hid (Blk wx w.heap.size 125 (seC c k9 R fv) ∧ Blk wx (w.heap.size + 1) 75 (poC l p rf0) ∧ Below w.heap.size w wx))
  case first =>
    by_cases h1 : k9 ≤ l
    · have d1 : decide (k9 ≤ l) = true := decide_eq_true h1
      have d2 : decide (l ≥ k9) = true := d1
      go_wp2_with fail
      go_meet
      exact ⟨rfl, HK1.out⟩
    · have d1 : decide (k9 ≤ l) = false := decide_eq_false h1
      have d2 : decide (l ≥ k9) = false := d1
      go_wp2_with (first
        | (refine tr_load_blkg (by rfl) 44 _ (by rfl) (w.heap.size + 1) (2) 33 (rfF rf0.1 rf0.2) (by rfl) _ (by exact HRP.out) Tryz.underlying44 rfl tsizeRef ?_; simp only [Act.put, sgPHTrSm])
        | fail)
      refine (hNn.out w1).mono ?_
      rintro x w3 ⟨rfl, hb3⟩
      have HK3 : Hid (Blk w3 w.heap.size 125 (seC c k9 R fv) ∧ Blk w3 (w.heap.size + 1) 75 (poC l p rf0) ∧ Below w.heap.size w w3) := ⟨HK1.out.1.below hb3 HK1.out.1.lt, HK1.out.2.1.below hb3 HK1.out.2.1.lt, HK1.out.2.2.trans (hb3.mono HK1.out.2.2.size)⟩
      clear hb3 z1 z2
      go_wp2_with fail
      go_meet
      exact ⟨rfl, HK3.out⟩
  case rest =>
    obtain ⟨rfl, hcut⟩ := hcut
    obtain ⟨w2, rfl⟩ : ∃ u, u = wc := ⟨_, rfl⟩
    have HK2 : Hid (Blk w2 w.heap.size 125 (seC c k9 R fv) ∧ Blk w2 (w.heap.size + 1) 75 (poC l p rf0) ∧ Below w.heap.size w w2) := hcut
    clear hcut HK1 z1 z2 HRP
    have s2 := HK2.out.1
    have t2 := HK2.out.2.1
    go_wp2_with (first
      | (refine wpList_load_rowg (by rfl) 125 _ (by rfl) (w.heap.size) (by rfl) 125 (seC c k9 R fv) (0, 0) _ (by exact s2) Tryz.underlying125 (by rfl) (size_se.trans (by rw [seC_size])) ?_; simp only [Act.put, sgPHTrSm])
      | (refine wpList_load_rowg (by rfl) 75 _ (by rfl) (w.heap.size + 1) (by rfl) 75 (poC l p rf0) (0, 0) _ (by exact t2) Tryz.underlying75 (by rfl) (sizePo.trans (by rw [poC_size])) ?_; simp only [Act.put, sgPHTrSm])
      | fail)
    refine (look_nil R fv l p w2).mono ?_
    rintro x w4 ⟨rfl, hb4⟩
    have HB4 : Hid (Below w.heap.size w w4) := HK2.out.2.2.trans (hb4.mono HK2.out.2.2.size)
    clear hb4 s2 t2
    go_wp2_with fail
    go_ret
    exact ⟨rfl, HB4.out⟩
set_option maxRecDepth 100000 in
set_option maxHeartbeats 8000000 in
/-- start against a tree of nothing -/
theorem start_none (hF : ∀ a, F a < 256) (hk9 : 0 ≤ k9 ∧ k9 ≤ 6) (n : Nat) (hn : n ≤ 6) (R : Rf) (hR : R.1 < 4294967296) (hi : i < 34359700000) (w : World) (H : WS B g N F c m room (gft bx) (QA bx Bm) List.length w i U s z) : Calls Tryz.prog 62 #[.agg (seC c k9 rf0 (.func (.func 61) #[] #[.pointer (some ⟨bx, 0, none⟩)])), .agg (poC (n : Int) 0 R)] w fun e w' => e = .returned (.int .i64 (wlkR F N stL n s 0 R).2) ∧ WSt B g N F c m room (gft bx) (QA bx Bm) List.length w w' (i + 6 + 10922) U z (wlkR F N stL n s 0 R).1 := by
  by_cases hR0 : R = rf0
  · subst hR0
    have HE : wlkR F N stL n s 0 rf0 = (s, 0) := by cases n <;> simp [wlkR]
    rw [HE]
    exact (start_nil rf0 _ _ _ w).mono fun e w' ⟨e1, hb⟩ => ⟨e1, .of ((H.below qa_keep hb).mono (by omega)) hb⟩
  generalize hfv : (Value.func (.func 61) #[] #[.pointer (some ⟨bx, 0, none⟩)]) = fv at *
  have HFV : Hid (fv = .func (.func 61) #[] #[.pointer (some ⟨bx, 0, none⟩)]) := hfv.symm
  clear hfv
  have hzr := zero_ref
  have hpn := pN_le hn
  have s1 : Blk ((w.alloc (.cells (seC c k9 rf0 fv) 125)).alloc (.cells (poC (n : Int) 0 R) 75)) w.heap.size 125 (seC c k9 rf0 fv) := (Blk.new _ _ _).alloc _
  have t1 : Blk ((w.alloc (.cells (seC c k9 rf0 fv) 125)).alloc (.cells (poC (n : Int) 0 R) 75)) (w.heap.size + 1) 75 (poC (n : Int) 0 R) := Blk.new1 _ _ _ _
  have hb1 : Below w.heap.size w ((w.alloc (.cells (seC c k9 rf0 fv) 125)).alloc (.cells (poC (n : Int) 0 R) 75)) := below_new2 _ _ _
  have z1 : ((w.alloc (.cells (seC c k9 rf0 fv) 125)).alloc (.cells (poC (n : Int) 0 R) 75)).cell? ⟨w.heap.size + 1, 0, none⟩ = some (.int .i64 (n : Int)) := (t1.cell 0).trans (va_at (poF (n : Int) 0 R) (by decide))
  have z2 : ((w.alloc (.cells (seC c k9 rf0 fv) 125)).alloc (.cells (poC (n : Int) 0 R) 75)).cell? ⟨w.heap.size, 1, none⟩ = some (.int .i64 k9) := (s1.cell 1).trans (va_at (seF c k9 rf0 fv) (by decide))
  have HRP : Hid (((w.alloc (.cells (seC c k9 rf0 fv) 125)).alloc (.cells (poC (n : Int) 0 R) 75)).rangeAt (w.heap.size + 1) 2 ((List.range 33).map (rfF R.1 R.2))) := po_range t1
  have HK1 : Hid (Blk ((w.alloc (.cells (seC c k9 rf0 fv) 125)).alloc (.cells (poC (n : Int) 0 R) 75)) w.heap.size 125 (seC c k9 rf0 fv) ∧ Blk ((w.alloc (.cells (seC c k9 rf0 fv) 125)).alloc (.cells (poC (n : Int) 0 R) 75)) (w.heap.size + 1) 75 (poC (n : Int) 0 R) ∧ Below w.heap.size w ((w.alloc (.cells (seC c k9 rf0 fv) 125)).alloc (.cells (poC (n : Int) 0 R) 75))) := ⟨s1, t1, hb1⟩
  have hNn : Hid (∀ w, Calls Tryz.prog 45 #[.agg (rfC R)] w fun e w' => e = .returned (.bool false) ∧ Below w.heap.size w w') := fun w => by
    have := none_any R w
    rw [decide_eq_false hR0] at this
    exact this
  have HLk : Hid (∀ (j : Nat) (U : Nat → Prop) (w : World), j ≤ i + 6 → WS B g N F c m room (gft bx) (QA bx Bm) List.length w j U s z → Calls Tryz.prog 79 #[.agg (seC c k9 rf0 fv), .agg (poC (n : Int) 0 R), .agg (rfC rf0)] w fun e w' => e = .returned (.int .i64 (wlkR F N stL n s 0 R).2) ∧ WSt B g N F c m room (gft bx) (QA bx Bm) List.length w w' (j + pN n) U z (wlkR F N stL n s 0 R).1) := fun j U w hj hw => by
    rw [HFV.out]
    exact look_any hF n hn s z 0 R j U w (Int.le_refl _) (by
      have := pow4_le n hn
      simp only [Int.zero_add, Int.one_mul]
      omega) hR (by omega) hw
  have HRf : Hid (∀ w : World, ¬ k9 ≤ (n : Int) → TD w B g N F c m room i U → Calls Tryz.prog 19 #[.pointer (some ⟨c, 0, none⟩), .agg (trC k9 rf0), .int .i64 (n : Int), .int .i64 0] w fun x w' => x = .returned (.tuple #[.agg (rfC rf0), .int .i64 0]) ∧ TDStep w w' B g N F c m room (i + 6) U) := fun w hk h => by
    have := ref9_any k9 rf0 (by decide) okD_zero hF (n : Int) 0 (by omega) w h
    have e : refV F N k9 rf0 (n : Int) 0 = (rf0, 0) := by
      unfold refV
      rw [if_pos ⟨by decide, hk9⟩, if_neg, folR_none]
      unfold outP
      have := pow4_pos (k9 - (n : Int)).toNat
      omega
    rw [e] at this
    exact this
  have HPN : Hid (pN n ≤ 10922) := hpn
  have HS0 : Hid (WS B g N F c m room (gft bx) (QA bx Bm) List.length w i U s z) := H
  have HSU : Hid (∀ b, (U b ∨ gft bx z b) → b < w.heap.size) := fun b q => q.elim (fun u => (H.td.lt b u).2) (H.lt b)
  clear s1 t1 hb1 H hF hk9 hn hR hi hR0 hpn
  go_enter Tryz.func62, Tryz.ntmps62
  go_upto_region 1 with fail
  generalize ((w.alloc (.cells (seC c k9 rf0 fv) 125)).alloc (.cells (poC (n : Int) 0 R) 75)) = w1 at *
  go_cut [17] (fun v wx => v = .bool (decide (k9 ≤ (n : Int))) ∧ Hid (Blk wx w.heap.size 125 (seC c k9 rf0 fv) ∧ Blk wx (w.heap.size + 1) 75 (poC (n : Int) 0 R) ∧ Below w.heap.size w wx))
  case first =>
    by_cases h1 : k9 ≤ (n : Int)
    · have d1 : decide (k9 ≤ (n : Int)) = true := decide_eq_true h1
      have d2 : decide ((n : Int) ≥ k9) = true := d1
      go_wp2_with fail
      go_meet
      exact ⟨by rw [d1], HK1.out⟩
    · have d1 : decide (k9 ≤ (n : Int)) = false := decide_eq_false h1
      have d2 : decide ((n : Int) ≥ k9) = false := d1
      go_wp2_with (first
        | (refine tr_load_blkg (by rfl) 44 _ (by rfl) (w.heap.size + 1) (2) 33 (rfF R.1 R.2) (by rfl) _ (by exact HRP.out) Tryz.underlying44 rfl tsizeRef ?_; simp only [Act.put, sgPHTrSm])
        | fail)
      refine (hNn.out w1).mono ?_
      rintro x w3 ⟨rfl, hb3⟩
      have HK3 : Hid (Blk w3 w.heap.size 125 (seC c k9 rf0 fv) ∧ Blk w3 (w.heap.size + 1) 75 (poC (n : Int) 0 R) ∧ Below w.heap.size w w3) := ⟨HK1.out.1.below hb3 HK1.out.1.lt, HK1.out.2.1.below hb3 HK1.out.2.1.lt, HK1.out.2.2.trans (hb3.mono HK1.out.2.2.size)⟩
      clear hb3 z1 z2
      go_wp2_with fail
      go_meet
      exact ⟨by rw [d1], HK3.out⟩
  case rest =>
    obtain ⟨rfl, hcut⟩ := hcut
    obtain ⟨w2, rfl⟩ : ∃ u, u = wc := ⟨_, rfl⟩
    have HK2 : Hid (Blk w2 w.heap.size 125 (seC c k9 rf0 fv) ∧ Blk w2 (w.heap.size + 1) 75 (poC (n : Int) 0 R) ∧ Below w.heap.size w w2) := hcut
    clear hcut HK1 z1 z2 HRP hNn
    have s2 := HK2.out.1
    have t2 := HK2.out.2.1
    have HS2 : Hid (WS B g N F c m room (gft bx) (QA bx Bm) List.length w2 i U s z) := HS0.out.below qa_keep HK2.out.2.2
    by_cases h1 : k9 ≤ (n : Int)
    · rw [decide_eq_true h1]
      clear h1 HRf
      go_wp2_with (first
        | (refine wpList_load_rowg (by rfl) 125 _ (by rfl) (w.heap.size) (by rfl) 125 (seC c k9 rf0 fv) (0, 0) _ (by exact s2) Tryz.underlying125 (by rfl) (size_se.trans (by rw [seC_size])) ?_; simp only [Act.put, sgPHTrSm])
        | (refine wpList_load_rowg (by rfl) 75 _ (by rfl) (w.heap.size + 1) (by rfl) 75 (poC (n : Int) 0 R) (0, 0) _ (by exact t2) Tryz.underlying75 (by rfl) (sizePo.trans (by rw [poC_size])) ?_; simp only [Act.put, sgPHTrSm])
        | fail)
      refine (HLk.out i U w2 (by omega) HS2.out).mono ?_
      rintro x w4 ⟨rfl, U4, z4, hs4, ht4, hf4⟩
      have HE : Hid (WSt B g N F c m room (gft bx) (QA bx Bm) List.length w w4 (i + 6 + 10922) U z (wlkR F N stL n s 0 R).1) := ⟨U4, z4, hs4.mono (by have := HPN.out; omega), (Turns.of_below (S := fun b => U b ∨ gft bx z b) HK2.out.2.2).trans ht4 fun b q => .inl q, fun b q => (hf4 b q).imp id fun u => Nat.le_trans HK2.out.2.2.size u⟩
      clear hs4 ht4 hf4 s2 t2
      go_wp2_with fail
      go_ret
      exact ⟨rfl, HE.out⟩
    · rw [decide_eq_false h1]
      have HRF : Hid (Calls Tryz.prog 19 #[.pointer (some ⟨c, 0, none⟩), .agg (trC k9 rf0), .int .i64 (n : Int), .int .i64 0] w2 fun x w' => x = .returned (.tuple #[.agg (rfC rf0), .int .i64 0]) ∧ TDStep w2 w' B g N F c m room (i + 6) U) := HRf.out w2 h1 HS2.out.td
      have c2 : w2.cell? ⟨w.heap.size, 0, none⟩ = some (.pointer (some ⟨c, 0, none⟩)) := (s2.cell 0).trans (va_at (seF c k9 rf0 fv) (by decide))
      have e2 : w2.cell? ⟨w.heap.size + 1, 0, none⟩ = some (.int .i64 (n : Int)) := (t2.cell 0).trans (va_at (poF (n : Int) 0 R) (by decide))
      have e3 : w2.cell? ⟨w.heap.size + 1, 1, none⟩ = some (.int .i64 0) := (t2.cell 1).trans (va_at (poF (n : Int) 0 R) (by decide))
      have HTr : Hid (w2.rangeAt w.heap.size 1 ((List.range 34).map (trF k9 rf0))) := se_tree s2
      clear h1 HRf s2 t2
      go_wp2_with (first
        | (refine wpList_load_blk (by rfl) 46 _ (by rfl) (w.heap.size) (1) 34 (trF k9 rf0) (by rfl) _ (by exact HTr.out) Tryz.underlying46 rfl sizeTr ?_; simp only [Act.put, sgPHTrSm])
        | fail)
      refine HRF.out.mono ?_
      rintro x w3 ⟨rfl, hs3⟩
      obtain ⟨U3, hs3, ht3, hf3⟩ := HS2.out.step qa_keep hs3 (by omega)
      have nn : ∀ b, w.heap.size ≤ b → ¬ (U b ∨ gft bx z b) := fun b h q => by have := HSU.out b q; omega
      have q0 : Blk (w3.alloc (.cells (rfC rf0) 44)) w3.heap.size 44 (rfC rf0) := Blk.new _ _ _
      have r4 : Blk ((w3.alloc (.cells (rfC rf0) 44)).setRow w3.heap.size (rfC rf0)) w3.heap.size 44 (rfC rf0) := q0.set _
      have hb4 : Below w3.heap.size w3 ((w3.alloc (.cells (rfC rf0) 44)).setRow w3.heap.size (rfC rf0)) := below_setRow (below_new1 _ _) (Nat.le_refl _) _
      have s3 : Blk w3 w.heap.size 125 (seC c k9 rf0 fv) := ht3.blk HK2.out.1 (nn _ (Nat.le_refl _))
      have t3 : Blk w3 (w.heap.size + 1) 75 (poC (n : Int) 0 R) := ht3.blk HK2.out.2.1 (nn _ (by omega))
      have s4 := s3.below hb4 s3.lt
      have t4 := t3.below hb4 t3.lt
      have HS4 : Hid (WS B g N F c m room (gft bx) (QA bx Bm) List.length ((w3.alloc (.cells (rfC rf0) 44)).setRow w3.heap.size (rfC rf0)) (i + 6) U3 s z) := hs3.below qa_keep hb4
      have HT4 : Hid (Turns (fun b => U b ∨ gft bx z b) w ((w3.alloc (.cells (rfC rf0) 44)).setRow w3.heap.size (rfC rf0))) := ((Turns.of_below (S := fun b => U b ∨ gft bx z b) HK2.out.2.2).trans ht3 fun b q => .inl q).trans (Turns.of_below (S := fun b => U b ∨ gft bx z b) hb4) fun b q => .inl q
      have HF4 : Hid (∀ b, (U3 b ∨ gft bx z b) → (U b ∨ gft bx z b) ∨ w.heap.size ≤ b) := fun b q => (hf3 b q).imp id fun u => Nat.le_trans HK2.out.2.2.size u
      clear hs3 ht3 hf3 nn hb4 s3 t3 c2 e2 e3 HTr HRF HS2
      go_wp2_with (first
        | (refine wpList_store_row (by rfl) 44 _ _ (by rfl) (w3.heap.size) (rfC rf0) (by rfl) (by rfl) 44 (_) (by exact q0) (tsizeRef.trans (by rw [rfC_size])) (by simp only [rfC_size]) (rfC_all _) ?_; simp only [Act.put, sgPHTrSm])
        | (refine wpList_load_rowg (by rfl) 125 _ (by rfl) (w.heap.size) (by rfl) 125 (seC c k9 rf0 fv) (0, 0) _ (by exact s4) Tryz.underlying125 (by rfl) (size_se.trans (by rw [seC_size])) ?_; simp only [Act.put, sgPHTrSm])
        | (refine wpList_load_rowg (by rfl) 75 _ (by rfl) (w.heap.size + 1) (by rfl) 75 (poC (n : Int) 0 R) (0, 0) _ (by exact t4) Tryz.underlying75 (by rfl) (sizePo.trans (by rw [poC_size])) ?_; simp only [Act.put, sgPHTrSm])
        | (refine wpList_load_rowg (by rfl) 44 _ (by rfl) (w3.heap.size) (by rfl) 44 (rfC rf0) (0, 0) _ (by exact r4) Tryz.underlying44 (by rfl) (tsizeRef.trans (by rw [rfC_size])) ?_; simp only [Act.put, sgPHTrSm])
        | fail)
      clear q0 r4 s4 t4
      generalize ((w3.alloc (.cells (rfC rf0) 44)).setRow w3.heap.size (rfC rf0)) = w4 at *
      refine (HLk.out (i + 6) U3 w4 (Nat.le_refl _) HS4.out).mono ?_
      rintro x w5 ⟨rfl, U5, z5, hs5, ht5, hf5⟩
      have HE : Hid (WSt B g N F c m room (gft bx) (QA bx Bm) List.length w w5 (i + 6 + 10922) U z (wlkR F N stL n s 0 R).1) := ⟨U5, z5, hs5.mono (by have := HPN.out; omega), HT4.out.trans ht5 HF4.out, fun b q => by
        rcases hf5 b q with u | u
        · exact HF4.out b u
        · exact .inr (Nat.le_trans HT4.out.size u)⟩
      clear hs5 ht5 hf5
      go_wp2_with fail
      go_ret
      exact ⟨rfl, HE.out⟩
end
end Go.Proofs.YtjhabngibbmpbaaGreat

namespace Go.Proofs.YtjhabngibbmpbaaGreat
open Go Go.RowKit
set_option linter.unusedSimpArgs false
set_option linter.unusedVariables false
/-- what Diff answers: a list of positions and an error, beside the disk -/
def DfP (w w' : World) (B g N : Nat) (F : Nat → Nat) (c m room i : Nat) (U : Nat → Prop) (e : Ending) (L : List Ps) (er : Int) : Prop := ∃ v, e = .returned (.tuple #[v, .int .i64 er]) ∧ w'.ownsRow w.heap.size 75 35 v L.length (posL L) ∧ ∃ V, TD w' B g N F c m room i V ∧ Turns U w w' ∧ (∀ x, V x → U x ∨ w.heap.size ≤ x) ∧ ∀ k, v.ownBlock = some k → ¬ V k
section
variable {B g N c m room i : Nat} {F : Nat → Nat} {U : Nat → Prop}
set_option maxRecDepth 100000 in
set_option maxHeartbeats 8000000 in
theorem diff_bad (k h : Int) (Ra Rb : Rf) (hA : Ra.1 < 4294967296 ∧ okD Ra.2) (hB : Rb.1 < 4294967296 ∧ okD Rb.2) (hno : ¬ (trOk k Ra ∧ trOk h Rb)) (cp : Option Addr) (w : World) : Calls Tryz.prog 32 #[.pointer cp, .agg (trC k Ra), .agg (trC h Rb)] w fun e w' => e = .returned (.tuple #[.slice none 0 0, .int .i64 1]) ∧ Below w.heap.size w w' := by
  have hb1 : Below w.heap.size w ((w.alloc (.cells (trC k Ra) 46)).alloc (.cells (trC h Rb) 46)) := below_new2 _ _ _
  have a1 : Blk ((w.alloc (.cells (trC k Ra) 46)).alloc (.cells (trC h Rb) 46)) w.heap.size 46 (trC k Ra) := (Blk.new _ _ _).alloc _
  have b1 : Blk ((w.alloc (.cells (trC k Ra) 46)).alloc (.cells (trC h Rb) 46)) (w.heap.size + 1) 46 (trC h Rb) := Blk.new1 _ _ _ _
  have HB1 : Hid (Below w.heap.size w ((w.alloc (.cells (trC k Ra) 46)).alloc (.cells (trC h Rb) 46))) := hb1
  have HR : Hid ((Ra.1 < 4294967296 ∧ okD Ra.2) ∧ Rb.1 < 4294967296 ∧ okD Rb.2) := ⟨hA, hB⟩
  clear hb1 hA hB
  go_enter Tryz.func32, Tryz.ntmps32
  go_wp2_with (first
    | (refine wpList_load_rowg (by rfl) 46 _ (by rfl) (w.heap.size) (by rfl) 46 (trC k Ra) (0, 0) _ (by exact a1) Tryz.underlying46 (by rfl) (sizeTr.trans (by rw [trC_size])) ?_; simp only [Act.put, sgPHTrSm])
    | fail)
  generalize ((w.alloc (.cells (trC k Ra) 46)).alloc (.cells (trC h Rb) 46)) = w1 at *
  refine (tright_any k Ra HR.out.1.1 HR.out.1.2 w1).mono ?_
  rintro e w2 ⟨rfl, hb2⟩
  have HB2 : Hid (Below w.heap.size w w2) := HB1.out.trans (hb2.mono HB1.out.size)
  have b2 := b1.below hb2 b1.lt
  clear hb2 a1 b1 HB1
  by_cases hk : trOk k Ra
  · have hb : ¬ trOk h Rb := fun q => hno ⟨hk, q⟩
    rw [decide_eq_true hk]
    clear hno hk
    go_wp2_with (first
      | (refine wpList_load_rowg (by rfl) 46 _ (by rfl) (w.heap.size + 1) (by rfl) 46 (trC h Rb) (0, 0) _ (by exact b2) Tryz.underlying46 (by rfl) (sizeTr.trans (by rw [trC_size])) ?_; simp only [Act.put, sgPHTrSm])
      | fail)
    refine (tright_any h Rb HR.out.2.1 HR.out.2.2 w2).mono ?_
    rintro e w3 ⟨rfl, hb3⟩
    have HB3 : Hid (Below w.heap.size w w3) := HB2.out.trans (hb3.mono HB2.out.size)
    rw [decide_eq_false hb]
    clear hb3 b2
    go_wp2_with fail
    go_ret2
    exact ⟨rfl, HB3.out⟩
  · rw [decide_eq_false hk]
    go_wp2_with fail
    go_ret2
    exact ⟨rfl, HB2.out⟩
set_option maxRecDepth 100000 in
set_option maxHeartbeats 16000000 in
/-- Diff of two that are right, by what start does -/
theorem diff_ok (k h : Int) (Ra Rb : Rf) (hA : Ra.1 < 4294967296 ∧ okD Ra.2) (hB : Rb.1 < 4294967296 ∧ okD Rb.2) (hok : trOk k Ra ∧ trOk h Rb) (L : List Ps) (er : Int) (i' : Nat) (hst : ∀ (bx Bm : Nat) (w : World), WS B g N F c m room (gft bx) (QA bx Bm) List.length w i U [] (.slice none 0 0) → Calls Tryz.prog 62 #[.agg (seC c k Ra (.func (.func 61) #[] #[.pointer (some ⟨bx, 0, none⟩)])), .agg (poC h 0 Rb)] w fun e w' => e = .returned (.int .i64 er) ∧ WSt B g N F c m room (gft bx) (QA bx Bm) List.length w w' i' U (.slice none 0 0) L) (w : World) (H : TD w B g N F c m room i U) : Calls Tryz.prog 32 #[.pointer (some ⟨c, 0, none⟩), .agg (trC k Ra), .agg (trC h Rb)] w fun e w' => DfP w w' B g N F c m room i' U e (if er = 0 then L else []) er := by
  have hzs := zero_se
  have hb1 : Below w.heap.size w ((w.alloc (.cells (trC k Ra) 46)).alloc (.cells (trC h Rb) 46)) := below_new2 _ _ _
  have a1 : Blk ((w.alloc (.cells (trC k Ra) 46)).alloc (.cells (trC h Rb) 46)) w.heap.size 46 (trC k Ra) := (Blk.new _ _ _).alloc _
  have b1 : Blk ((w.alloc (.cells (trC k Ra) 46)).alloc (.cells (trC h Rb) 46)) (w.heap.size + 1) 46 (trC h Rb) := Blk.new1 _ _ _ _
  have HB1 : Hid (Below w.heap.size w ((w.alloc (.cells (trC k Ra) 46)).alloc (.cells (trC h Rb) 46))) := hb1
  have HR : Hid ((Ra.1 < 4294967296 ∧ okD Ra.2) ∧ (Rb.1 < 4294967296 ∧ okD Rb.2) ∧ trOk k Ra ∧ trOk h Rb) := ⟨hA, hB, hok⟩
  have HT0 : Hid (TD w B g N F c m room i U) := H
  have HStt : Hid (∀ (bx Bm : Nat) (w : World), WS B g N F c m room (gft bx) (QA bx Bm) List.length w i U [] (.slice none 0 0) → Calls Tryz.prog 62 #[.agg (seC c k Ra (.func (.func 61) #[] #[.pointer (some ⟨bx, 0, none⟩)])), .agg (poC h 0 Rb)] w fun e w' => e = .returned (.int .i64 er) ∧ WSt B g N F c m room (gft bx) (QA bx Bm) List.length w w' i' U (.slice none 0 0) L) := hst
  clear hb1 hA hB hok hst H
  obtain ⟨Lx, hLx⟩ : ∃ Lx, (if er = 0 then L else []) = Lx := ⟨_, rfl⟩
  rw [hLx]
  have HLX : Hid ((if er = 0 then L else []) = Lx) := hLx
  clear hLx
  go_enter Tryz.func32, Tryz.ntmps32
  go_wp2_with (first
    | (refine wpList_load_rowg (by rfl) 46 _ (by rfl) (w.heap.size) (by rfl) 46 (trC k Ra) (0, 0) _ (by exact a1) Tryz.underlying46 (by rfl) (sizeTr.trans (by rw [trC_size])) ?_; simp only [Act.put, sgPHTrSm])
    | fail)
  generalize ((w.alloc (.cells (trC k Ra) 46)).alloc (.cells (trC h Rb) 46)) = w1 at *
  refine (tright_any k Ra HR.out.1.1 HR.out.1.2 w1).mono ?_
  rintro e w2 ⟨rfl, hb2⟩
  have HB2 : Hid (Below w.heap.size w w2) := HB1.out.trans (hb2.mono HB1.out.size)
  have a2 := a1.below hb2 a1.lt
  have b2 := b1.below hb2 b1.lt
  rw [decide_eq_true HR.out.2.2.1]
  clear hb2 a1 b1 HB1
  go_wp2_with (first
    | (refine wpList_load_rowg (by rfl) 46 _ (by rfl) (w.heap.size + 1) (by rfl) 46 (trC h Rb) (0, 0) _ (by exact b2) Tryz.underlying46 (by rfl) (sizeTr.trans (by rw [trC_size])) ?_; simp only [Act.put, sgPHTrSm])
    | fail)
  refine (tright_any h Rb HR.out.2.1.1 HR.out.2.1.2 w2).mono ?_
  rintro e w3 ⟨rfl, hb3⟩
  have HB3 : Hid (Below w.heap.size w w3) := HB2.out.trans (hb3.mono HB2.out.size)
  rw [decide_eq_true HR.out.2.2.2]
  have a3 := (a2.below hb3 a2.lt).alloc (.cells #[.slice none 0 0] 64)
  have b3 := (b2.below hb3 b2.lt).alloc (.cells #[.slice none 0 0] 64)
  have hb35 : Below w.heap.size w (w3.alloc (.cells #[.slice none 0 0] 64)) := HB3.out.trans ((below_new1 _ _).mono HB3.out.size)
  have HB5 : Hid (Below w.heap.size w (w3.alloc (.cells #[.slice none 0 0] 64))) := hb35
  have HP5 : Hid (PB (w3.alloc (.cells #[.slice none 0 0] 64)) w3.heap.size w.heap.size (.slice none 0 0) []) := ⟨Blk.new _ _ _, ⟨rfl, .inl ⟨rfl, rfl⟩⟩, by simp [Value.ownBlock]⟩
  have HX5 : Hid (w.heap.size + 1 < w3.heap.size ∧ w3.heap.size < (w3.alloc (.cells #[.slice none 0 0] 64)).heap.size) := ⟨(b2.below hb3 b2.lt).lt, (Blk.new _ _ _ : Blk (w3.alloc (.cells #[.slice none 0 0] 64)) w3.heap.size _ _).lt⟩
  clear hb3 a2 b2 HB2 hb35 HB3
  go_upto_region 4 with fail
  generalize (w3.alloc (.cells #[.slice none 0 0] 64)) = w5 at *
  generalize w3.heap.size = bx at *
  have HBT : Hid (Tryz.prog.built 125 [(0, .pointer (some ⟨c, 0, none⟩)), (1, .agg (trC k Ra)), (2, .func (.func 61) #[] #[.pointer (some ⟨bx, 0, none⟩)])] = some (seC c k Ra (.func (.func 61) #[] #[.pointer (some ⟨bx, 0, none⟩)]))) := built_se c k Ra _ _ _
  have q0 : Blk (w5.alloc (.cells (va 36 fun i => if i = 0 then .pointer none else if i < 35 then trF 0 rf0 (i - 1) else .nilFunc) 125)) w5.heap.size 125 (va 36 fun i => if i = 0 then .pointer none else if i < 35 then trF 0 rf0 (i - 1) else .nilFunc) := Blk.new _ _ _
  have s4 : Blk ((w5.alloc (.cells (va 36 fun i => if i = 0 then .pointer none else if i < 35 then trF 0 rf0 (i - 1) else .nilFunc) 125)).setRow w5.heap.size (seC c k Ra (.func (.func 61) #[] #[.pointer (some ⟨bx, 0, none⟩)]))) w5.heap.size 125 (seC c k Ra (.func (.func 61) #[] #[.pointer (some ⟨bx, 0, none⟩)])) := q0.set _
  have hb54 : Below w5.heap.size w5 ((w5.alloc (.cells (va 36 fun i => if i = 0 then .pointer none else if i < 35 then trF 0 rf0 (i - 1) else .nilFunc) 125)).setRow w5.heap.size (seC c k Ra (.func (.func 61) #[] #[.pointer (some ⟨bx, 0, none⟩)]))) := below_setRow (below_new1 _ _) (Nat.le_refl _) _
  have b4 := b3.below hb54 b3.lt
  have hP4 := HP5.out.below hb54
  have HB4 : Hid (Below w.heap.size w ((w5.alloc (.cells (va 36 fun i => if i = 0 then .pointer none else if i < 35 then trF 0 rf0 (i - 1) else .nilFunc) 125)).setRow w5.heap.size (seC c k Ra (.func (.func 61) #[] #[.pointer (some ⟨bx, 0, none⟩)])))) := HB5.out.trans (hb54.mono HB5.out.size)
  have HGZ : Hid (∀ b, gft bx (.slice none 0 0) b → b = bx) := fun b q => by
    rcases q with q | q
    · exact q
    · simp [Value.ownBlock] at q
  have HS4 : Hid (WS B g N F c m room (gft bx) (QA bx w.heap.size) List.length ((w5.alloc (.cells (va 36 fun i => if i = 0 then .pointer none else if i < 35 then trF 0 rf0 (i - 1) else .nilFunc) 125)).setRow w5.heap.size (seC c k Ra (.func (.func 61) #[] #[.pointer (some ⟨bx, 0, none⟩)]))) i U [] (.slice none 0 0)) := by
    refine ⟨HT0.out.below HB4.out, ⟨hP4, HB4.out.size⟩, fun b q u => ?_, Nat.zero_le _, fun b q => hP4.lt b q⟩
    have h1 := HGZ.out b q
    have h2 := (HT0.out.lt b u).2
    have h3 := HX5.out.1
    omega
  have HNS : Hid (¬ (U w5.heap.size ∨ gft bx (.slice none 0 0) w5.heap.size) ∧ ¬ (U (w.heap.size + 1) ∨ gft bx (.slice none 0 0) (w.heap.size + 1))) := by
    have h3 := HX5.out
    have h4 := HB5.out.size
    refine ⟨fun q => ?_, fun q => ?_⟩
    · rcases q with u | u
      · have := (HT0.out.lt _ u).2
        omega
      · have := HGZ.out _ u
        omega
    · rcases q with u | u
      · have := (HT0.out.lt _ u).2
        omega
      · have := HGZ.out _ u
        omega
  have HSt : Hid (∀ w', WS B g N F c m room (gft bx) (QA bx w.heap.size) List.length w' i U [] (.slice none 0 0) → Calls Tryz.prog 62 #[.agg (seC c k Ra (.func (.func 61) #[] #[.pointer (some ⟨bx, 0, none⟩)])), .agg (poC h 0 Rb)] w' fun e w2 => e = .returned (.int .i64 er) ∧ WSt B g N F c m room (gft bx) (QA bx w.heap.size) List.length w' w2 i' U (.slice none 0 0) L) := fun w' hw => HStt.out bx w.heap.size w' hw
  clear hP4 hb54 HP5 HB5 HStt b3
  go_upto_region 5 with (first
    | (refine wpList_load_rowg (by rfl) 46 _ (by rfl) (w.heap.size) (by rfl) 46 (trC k Ra) (0, 0) _ (by exact a3) Tryz.underlying46 (by rfl) (sizeTr.trans (by rw [trC_size])) ?_; simp only [Act.put, sgPHTrSm])
    | (refine tr_build3 (by rfl) 125 0 1 2 _ _ _ (by rfl) (.pointer (some ⟨c, 0, none⟩)) (.agg (trC k Ra)) (.func (.func 61) #[] #[.pointer (some ⟨bx, 0, none⟩)]) (by rfl) (by rfl) (by rfl) (seC c k Ra (.func (.func 61) #[] #[.pointer (some ⟨bx, 0, none⟩)])) (by exact HBT.out) ?_; simp only [Act.put, sgPHTrSm])
    | (refine wpList_store_row (by rfl) 125 _ _ (by rfl) (w5.heap.size) (seC c k Ra (.func (.func 61) #[] #[.pointer (some ⟨bx, 0, none⟩)])) (by rfl) (by rfl) 125 (_) (by exact q0) (size_se.trans (by rw [seC_size])) (by simp only [seC_size, va_size]) (seC_all _ _ _ _ rfl) ?_; simp only [Act.put, sgPHTrSm])
    | fail)
  clear q0 a3 HBT hzs
  have hS : Blk ((w5.alloc (.cells (va 36 fun i => if i = 0 then .pointer none else if i < 35 then trF 0 rf0 (i - 1) else .nilFunc) 125)).setRow w5.heap.size (seC c k Ra (.func (.func 61) #[] #[.pointer (some ⟨bx, 0, none⟩)]))).drew w5.heap.size 125 (seC c k Ra (.func (.func 61) #[] #[.pointer (some ⟨bx, 0, none⟩)])) ∧ Blk ((w5.alloc (.cells (va 36 fun i => if i = 0 then .pointer none else if i < 35 then trF 0 rf0 (i - 1) else .nilFunc) 125)).setRow w5.heap.size (seC c k Ra (.func (.func 61) #[] #[.pointer (some ⟨bx, 0, none⟩)]))).drew (w.heap.size + 1) 46 (trC h Rb) := ⟨s4, b4⟩
  clear s4 b4
  generalize ((w5.alloc (.cells (va 36 fun i => if i = 0 then .pointer none else if i < 35 then trF 0 rf0 (i - 1) else .nilFunc) 125)).setRow w5.heap.size (seC c k Ra (.func (.func 61) #[] #[.pointer (some ⟨bx, 0, none⟩)]))) = w4 at *
  generalize w5.heap.size = sb at *
  refine wp_region_partsS (fun W => Blk W sb 125 (seC c k Ra (.func (.func 61) #[] #[.pointer (some ⟨bx, 0, none⟩)])) ∧ Blk W (w.heap.size + 1) 46 (trC h Rb)) [([], 0, true), ([], 1, false), ([], 2, false), ([], 3, false)] [4] [] (by kernel_rfl) (by kernel_rfl) hS (partsI_yield ?_)
  simp only [sgLHTrSm]
  go_wp2_with fail
  refine ⟨rfl, _, .agg (seC c k Ra (.func (.func 61) #[] #[.pointer (some ⟨bx, 0, none⟩)])), rfl, kyields_load (by rfl) 125 _ (by rfl) sb 36 (seF c k Ra (.func (.func 61) #[] #[.pointer (some ⟨bx, 0, none⟩)])) (by rfl) _ 125 (fun W hW => hW.1) Tryz.underlying125 rfl size_se, partsI_force ?_⟩
  simp only [Act.put, sgPHTrSm]
  simp only [sgLHTrSm]
  have hb5 := hS.2
  (refine wpList_load_rowg (by rfl) 46 _ (by rfl) (w.heap.size + 1) (by rfl) 46 (trC h Rb) (0, 0) _ (by exact hb5) Tryz.underlying46 (by rfl) (sizeTr.trans (by rw [trC_size])) ?_; simp only [Act.put, sgPHTrSm])
  go_wp2_with fail
  clear hb5
  refine ⟨rfl, hS, partsI_force ?_⟩
  simp only [sgLHTrSm]
  go_wp2_with fail
  refine (root_any h Rb _).mono ?_
  rintro e w6 ⟨rfl, hb6⟩
  have hS6 := (⟨hS.1.below hb6 hS.1.lt, hS.2.below hb6 hS.2.lt⟩ : Blk w6 sb 125 (seC c k Ra (.func (.func 61) #[] #[.pointer (some ⟨bx, 0, none⟩)])) ∧ Blk w6 (w.heap.size + 1) 46 (trC h Rb))
  have HB46 : Hid (Below w4.heap.size w4 w6) := (Below.refl _ _).drew.trans (hb6.mono (Below.refl w4.heap.size w4).drew.size)
  clear hb6 hS
  go_wp2_with fail
  refine ⟨rfl, hS6, partsI_force ?_⟩
  simp only [sgLHTrSm]
  go_wp2_with fail
  refine (HSt.out w6 (HS4.out.below qa_keep HB46.out)).mono ?_
  rintro e w7 ⟨rfl, U7, z7, hs7, ht7, hf7⟩
  have hS7 := (⟨ht7.blk hS6.1 HNS.out.1, ht7.blk hS6.2 HNS.out.2⟩ : Blk w7 sb 125 (seC c k Ra (.func (.func 61) #[] #[.pointer (some ⟨bx, 0, none⟩)])) ∧ Blk w7 (w.heap.size + 1) 46 (trC h Rb))
  clear hS6
  go_wp2_with fail
  refine ⟨rfl, hS7, partsI_last ?_⟩
  simp only [sgLHTrSm]
  go_wp2_with fail
  refine ⟨rfl, ?_⟩
  have HT7 : Hid (TD w7 B g N F c m room i' U7 ∧ Turns U w w7 ∧ (∀ x, U7 x → U x ∨ w.heap.size ≤ x) ∧ ∀ k, z7.ownBlock = some k → ¬ U7 k) := by
    have h9 := HB4.out.size
    have h8 := HB46.out.size
    have h7 := HX5.out.1
    refine ⟨hs7.td, ((Turns.of_below (S := U) HB4.out).trans (Turns.of_below (S := U) HB46.out) fun b q => .inl q).trans ht7 fun b q => q.imp id fun q => by have := HGZ.out b q; omega, fun b q => ?_, fun k q => hs7.ap k (.inr q)⟩
    rcases hf7 b (.inl q) with (u | u) | u
    · exact .inl u
    · have := HGZ.out b u
      exact .inr (by omega)
    · exact .inr (by omega)
  have HP7 : Hid (PB w7 bx w.heap.size z7 L) := hs7.q.1
  have c7 : w7.cell? ⟨bx, 0, none⟩ = some z7 := (HP7.out.1.cell 0).trans rfl
  clear hs7 ht7 hf7 hS7 HS4 HSt HNS
  by_cases he : er = 0
  · subst he
    obtain rfl : L = Lx := by
      have := HLX.out
      simpa using this
    go_wp2_with fail
    go_ret2
    exact ⟨z7, rfl, HP7.out.2.1, U7, HT7.out⟩
  · obtain rfl : [] = Lx := by
      have := HLX.out
      rw [if_neg he] at this
      exact this
    have hne2 : (er != 0) = true := by simp [he]
    have hne3 : decide (er = 0) = false := decide_eq_false he
    go_wp2_with fail
    go_ret2
    exact ⟨_, rfl, ⟨rfl, .inl ⟨rfl, rfl⟩⟩, U7, HT7.out.1, HT7.out.2.1, HT7.out.2.2.1, fun k q => by simp [Value.ownBlock] at q⟩
/-- against a tree of nothing -/
theorem diff_none (hF : ∀ a, F a < 256) (k h : Int) (Rb : Rf) (hB : Rb.1 < 4294967296 ∧ okD Rb.2) (hk : 0 ≤ k ∧ k ≤ 6) (hok : trOk h Rb) (hi : i < 34359600000) (w : World) (H : TD w B g N F c m room i U) : Calls Tryz.prog 32 #[.pointer (some ⟨c, 0, none⟩), .agg (trC k rf0), .agg (trC h Rb)] w fun e w' => DfP w w' B g N F c m room (i + 6 + 10922) U e (allV F N h Rb).1 (allV F N h Rb).2 := by
  obtain ⟨n, rfl⟩ := Int.eq_ofNat_of_zero_le hok.2.1
  have hn : n ≤ 6 := by have := hok.2.2; omega
  have hev : evR F N (n : Int) Rb = bnR F N n 0 Rb := by
    unfold evR
    rw [if_pos hok, Int.toNat_natCast]
  have := diff_ok k (n : Int) rf0 Rb ⟨by decide, okD_zero⟩ hB ⟨⟨by decide, hk⟩, hok⟩ (bnR F N n 0 Rb).1 (bnR F N n 0 Rb).2 (i + 6 + 10922) (fun bx Bm w hw => by
    have := start_none hF hk n hn Rb hB.1 (by omega) w hw
    rw [wlk_look] at this
    exact this) w H
  unfold allV
  rw [hev]
  generalize bnR F N n 0 Rb = bv at *
  obtain ⟨L, er⟩ := bv
  by_cases h0 : er = 0
  · simp only [if_pos h0] at this ⊢
    rw [h0] at this
    exact this
  · simp only [if_neg h0] at this ⊢
    exact this
/-- nothing against a tree -/
theorem diff_nil (k h : Int) (Ra : Rf) (hA : Ra.1 < 4294967296 ∧ okD Ra.2) (hk : 0 ≤ h ∧ h ≤ 6) (hok : trOk k Ra) (w : World) (H : TD w B g N F c m room i U) : Calls Tryz.prog 32 #[.pointer (some ⟨c, 0, none⟩), .agg (trC k Ra), .agg (trC h rf0)] w fun e w' => DfP w w' B g N F c m room i U e [] 0 := by
  have := diff_ok k h Ra rf0 hA ⟨by decide, okD_zero⟩ ⟨hok, by decide, hk⟩ [] 0 i (fun bx Bm w hw => (start_nil Ra _ h 0 w).mono fun e w' ⟨e1, hb⟩ => ⟨e1, .of (hw.below qa_keep hb) hb⟩) w H
  rw [if_pos rfl] at this
  exact this
end
end Go.Proofs.YtjhabngibbmpbaaGreat

namespace Go.Proofs.YtjhabngibbmpbaaGreat
open Go Go.RowKit
set_option linter.unusedSimpArgs false
set_option linter.unusedVariables false
section
variable {B g N c m room i : Nat} {F : Nat → Nat} {U : Nat → Prop}
set_option maxRecDepth 100000 in
set_option maxHeartbeats 8000000 in
theorem same_bad (k h : Int) (Ra Rb : Rf) (hA : Ra.1 < 4294967296 ∧ okD Ra.2) (hB : Rb.1 < 4294967296 ∧ okD Rb.2) (hno : ¬ (trOk k Ra ∧ trOk h Rb)) (cp : Option Addr) (w : World) : Calls Tryz.prog 33 #[.pointer cp, .agg (trC k Ra), .agg (trC h Rb)] w fun e w' => e = .returned (.tuple #[.bool false, .int .i64 1]) ∧ Below w.heap.size w w' := by
  have hb1 : Below w.heap.size w ((w.alloc (.cells (trC k Ra) 46)).alloc (.cells (trC h Rb) 46)) := below_new2 _ _ _
  have a1 : Blk ((w.alloc (.cells (trC k Ra) 46)).alloc (.cells (trC h Rb) 46)) w.heap.size 46 (trC k Ra) := (Blk.new _ _ _).alloc _
  have b1 : Blk ((w.alloc (.cells (trC k Ra) 46)).alloc (.cells (trC h Rb) 46)) (w.heap.size + 1) 46 (trC h Rb) := Blk.new1 _ _ _ _
  have HD : Hid (∀ w, Calls Tryz.prog 32 #[.pointer cp, .agg (trC k Ra), .agg (trC h Rb)] w fun e w' => e = .returned (.tuple #[.slice none 0 0, .int .i64 1]) ∧ Below w.heap.size w w') := fun w => diff_bad k h Ra Rb hA hB hno cp w
  have HB1 : Hid (Below w.heap.size w ((w.alloc (.cells (trC k Ra) 46)).alloc (.cells (trC h Rb) 46))) := hb1
  clear hb1 hA hB hno
  go_enter Tryz.func33, Tryz.ntmps33
  go_wp2_with (first
    | (refine wpList_load_rowg (by rfl) 46 _ (by rfl) (w.heap.size) (by rfl) 46 (trC k Ra) (0, 0) _ (by exact a1) Tryz.underlying46 (by rfl) (sizeTr.trans (by rw [trC_size])) ?_; simp only [Act.put, sgPHTrSm])
    | (refine wpList_load_rowg (by rfl) 46 _ (by rfl) (w.heap.size + 1) (by rfl) 46 (trC h Rb) (0, 0) _ (by exact b1) Tryz.underlying46 (by rfl) (sizeTr.trans (by rw [trC_size])) ?_; simp only [Act.put, sgPHTrSm])
    | fail)
  generalize ((w.alloc (.cells (trC k Ra) 46)).alloc (.cells (trC h Rb) 46)) = w1 at *
  refine (HD.out w1).mono ?_
  rintro e w2 ⟨rfl, hb2⟩
  have HB2 : Hid (Below w.heap.size w w2) := HB1.out.trans (hb2.mono HB1.out.size)
  clear hb2 a1 b1 HD HB1
  go_wp2_with fail
  go_ret2
  exact ⟨rfl, HB2.out⟩
set_option maxRecDepth 100000 in
set_option maxHeartbeats 8000000 in
theorem same_ok (k h : Int) (Ra Rb : Rf) (L : List Ps) (er : Int) (i' : Nat) (hd1 : ∀ w, TD w B g N F c m room i U → Calls Tryz.prog 32 #[.pointer (some ⟨c, 0, none⟩), .agg (trC k Ra), .agg (trC h Rb)] w fun e w' => DfP w w' B g N F c m room i' U e L er) (hd2 : ∀ V w, TD w B g N F c m room i' V → Calls Tryz.prog 32 #[.pointer (some ⟨c, 0, none⟩), .agg (trC h Rb), .agg (trC k Ra)] w fun e w' => DfP w w' B g N F c m room i' V e [] 0) (w : World) (H : TD w B g N F c m room i U) : Calls Tryz.prog 33 #[.pointer (some ⟨c, 0, none⟩), .agg (trC k Ra), .agg (trC h Rb)] w fun e w' => (∃ bb f, e = .returned (.tuple #[.bool bb, .int .i64 f])) ∧ TDStep w w' B g N F c m room i' U := by
  have hb1 : Below w.heap.size w ((w.alloc (.cells (trC k Ra) 46)).alloc (.cells (trC h Rb) 46)) := below_new2 _ _ _
  have a1 : Blk ((w.alloc (.cells (trC k Ra) 46)).alloc (.cells (trC h Rb) 46)) w.heap.size 46 (trC k Ra) := (Blk.new _ _ _).alloc _
  have b1 : Blk ((w.alloc (.cells (trC k Ra) 46)).alloc (.cells (trC h Rb) 46)) (w.heap.size + 1) 46 (trC h Rb) := Blk.new1 _ _ _ _
  have HD1 : Hid (∀ w, TD w B g N F c m room i U → Calls Tryz.prog 32 #[.pointer (some ⟨c, 0, none⟩), .agg (trC k Ra), .agg (trC h Rb)] w fun e w' => DfP w w' B g N F c m room i' U e L er) := hd1
  have HD2 : Hid (∀ V w, TD w B g N F c m room i' V → Calls Tryz.prog 32 #[.pointer (some ⟨c, 0, none⟩), .agg (trC h Rb), .agg (trC k Ra)] w fun e w' => DfP w w' B g N F c m room i' V e [] 0) := hd2
  have HB1 : Hid (Below w.heap.size w ((w.alloc (.cells (trC k Ra) 46)).alloc (.cells (trC h Rb) 46))) := hb1
  have HT0 : Hid (TD w B g N F c m room i U) := H
  clear hb1 hd1 hd2 H
  go_enter Tryz.func33, Tryz.ntmps33
  go_wp2_with (first
    | (refine wpList_load_rowg (by rfl) 46 _ (by rfl) (w.heap.size) (by rfl) 46 (trC k Ra) (0, 0) _ (by exact a1) Tryz.underlying46 (by rfl) (sizeTr.trans (by rw [trC_size])) ?_; simp only [Act.put, sgPHTrSm])
    | (refine wpList_load_rowg (by rfl) 46 _ (by rfl) (w.heap.size + 1) (by rfl) 46 (trC h Rb) (0, 0) _ (by exact b1) Tryz.underlying46 (by rfl) (sizeTr.trans (by rw [trC_size])) ?_; simp only [Act.put, sgPHTrSm])
    | fail)
  generalize ((w.alloc (.cells (trC k Ra) 46)).alloc (.cells (trC h Rb) 46)) = w1 at *
  refine (HD1.out w1 (HT0.out.below HB1.out)).mono ?_
  rintro e w2 ⟨v, rfl, ho2, V2, hd2, ht2, hv2, _⟩
  obtain ⟨la, lc, rfl⟩ := kown_slice ho2
  obtain ⟨n, hn⟩ : ∃ n, L.length = n := ⟨_, rfl⟩
  rw [hn]
  have hU : ∀ b, w.heap.size ≤ b → ¬ U b := fun b h u => by have := (HT0.out.lt b u).2; omega
  have HA2 : Hid (Blk w2 w.heap.size 46 (trC k Ra) ∧ Blk w2 (w.heap.size + 1) 46 (trC h Rb)) := ⟨ht2.blk a1 (hU _ (Nat.le_refl _)), ht2.blk b1 (hU _ (by omega))⟩
  have HT2 : Hid (TD w2 B g N F c m room i' V2 ∧ Turns U w w2 ∧ (∀ x, V2 x → U x ∨ w.heap.size + 2 ≤ x)) := ⟨hd2, (Turns.of_below (S := U) HB1.out).trans ht2 fun b q => .inl q, fun x q => (hv2 x q).imp id fun u => by have := b1.lt; omega⟩
  clear ho2 hd2 ht2 hv2 hU a1 b1 HD1 HB1 hn
  by_cases he : er = 0
  · subst he
    have a2 := HA2.out.1
    have b2 := HA2.out.2
    go_wp2_with (first
      | (refine wpList_load_rowg (by rfl) 46 _ (by rfl) (w.heap.size) (by rfl) 46 (trC k Ra) (0, 0) _ (by exact a2) Tryz.underlying46 (by rfl) (sizeTr.trans (by rw [trC_size])) ?_; simp only [Act.put, sgPHTrSm])
      | (refine wpList_load_rowg (by rfl) 46 _ (by rfl) (w.heap.size + 1) (by rfl) 46 (trC h Rb) (0, 0) _ (by exact b2) Tryz.underlying46 (by rfl) (sizeTr.trans (by rw [trC_size])) ?_; simp only [Act.put, sgPHTrSm])
      | fail)
    refine (HD2.out V2 w2 HT2.out.1).mono ?_
    rintro e w3 ⟨v, rfl, ho3, V3, hd3, ht3, hv3, _⟩
    obtain ⟨lb, ld, rfl⟩ := kown_slice ho3
    have hV : ∀ b, w.heap.size ≤ b → b < w.heap.size + 2 → ¬ V2 b := fun b h1 h2 u => by
      rcases HT2.out.2.2 b u with q | q
      · have := (HT0.out.lt b q).2
        omega
      · omega
    have a3 : Blk w3 w.heap.size 46 (trC k Ra) := ht3.blk HA2.out.1 (hV _ (Nat.le_refl _) (by omega))
    have b3 : Blk w3 (w.heap.size + 1) 46 (trC h Rb) := ht3.blk HA2.out.2 (hV _ (by omega) (by omega))
    have HST : Hid (TDStep w w3 B g N F c m room i' U) := ⟨V3, hd3, HT2.out.2.1.trans ht3 fun b q => (HT2.out.2.2 b q).imp id (by omega), fun b q => by
      rcases hv3 b q with u | u
      · exact (HT2.out.2.2 b u).imp id (by omega)
      · exact .inr (Nat.le_trans HT2.out.2.1.size u)⟩
    have ca : w3.cell? ⟨w.heap.size, 0, none⟩ = some (.int .i64 k) := (a3.cell 0).trans (va_at (trF k Ra) (by decide))
    have cb : w3.cell? ⟨w.heap.size + 1, 0, none⟩ = some (.int .i64 h) := (b3.cell 0).trans (va_at (trF h Rb) (by decide))
    clear ho3 hd3 ht3 hv3 hV a2 b2 a3 b3 HA2 HT2 HD2
    simp only [List.length_nil]
    by_cases hk : k = h
    · subst hk
      by_cases hn0 : n = 0
      · subst hn0
        go_wp2_with fail
        go_ret2
        exact ⟨⟨_, _, rfl⟩, HST.out⟩
      · have hn1 : ¬ (n : Int) = 0 := by omega
        go_wp2_with fail
        go_ret2
        exact ⟨⟨_, _, rfl⟩, HST.out⟩
    · go_wp2_with fail
      go_ret2
      exact ⟨⟨_, _, rfl⟩, HST.out⟩
  · have hne2 : (er != 0) = true := by simp [he]
    have hne3 : decide (er = 0) = false := decide_eq_false he
    go_wp2_with fail
    go_ret2
    exact ⟨⟨_, _, rfl⟩, V2, HT2.out.1, HT2.out.2.1, fun x q => (HT2.out.2.2 x q).imp id (by omega)⟩
end
end Go.Proofs.YtjhabngibbmpbaaGreat
