/- Trees: the statements' own ref and given; which trees the document calls right. -/
import Derived.Test.YtiofonffmplfmaaGreatHTrRKids
import Derived.Test.YtiofonffmplfmaaGreatHNdTake
import Derived.Handy
import Derived.Test.YtiofonffmplfmaaGreatHTrGS

namespace Go.Proofs.YtiofonffmplfmaaGreat
theorem sgLHTrGiven : (∀ (α : Type) (a : α) (l r : List α), (a :: l) ++ r = a :: (l ++ r)) ∧ (∀ (α : Type) (l : List α), [] ++ l = l) ∧ (∀ (α : Type) (l : List α), l ++ [] = l) ∧ (∀ (α β : Type) (f : α → Option β) (a : α) (l : List α), (a :: l).filterMap f = match f a with | none => l.filterMap f | some b => b :: l.filterMap f) ∧ (∀ (α β : Type) (f : α → Option β), [].filterMap f = []) ∧ (∀ (α : Type) (l : List α) (i : Nat), l.toArray[i]? = l[i]?) ∧ (∀ (α : Type) (a : α) (l : List α), (a :: l)[0]? = some a) ∧ (∀ (α : Type) (a : α) (l : List α) (i : Nat), (a :: l)[i + 1]? = l[i]?) :=
  ⟨fun _ _ _ _ => List.cons_append, fun _ _ => List.nil_append _, fun _ _ => List.append_nil _, fun _ _ _ _ _ => List.filterMap_cons, fun _ _ _ => List.filterMap_nil, fun _ _ _ => List.getElem?_toArray, fun _ _ _ => List.getElem?_cons_zero, fun _ _ _ _ => List.getElem?_cons_succ⟩
theorem sgPHTrGiven : (∀ (α : Type) (l : List α) (i : Nat) (a : α), l.toArray.setIfInBounds i a = (l.set i a).toArray) ∧ (∀ (α : Type) (a b : α) (l : List α), (a :: l).set 0 b = b :: l) ∧ (∀ (α : Type) (a b : α) (l : List α) (i : Nat), (a :: l).set (i + 1) b = a :: l.set i b) :=
  ⟨fun _ _ _ _ => List.setIfInBounds_toArray _ _ _, fun _ _ _ _ => List.set_cons_zero, fun _ _ _ _ _ => List.set_cons_succ⟩
end Go.Proofs.YtiofonffmplfmaaGreat
namespace Go.Proofs.YtiofonffmplfmaaGreat
open Go Go.RowKit
set_option linter.unusedSimpArgs false
set_option linter.unusedVariables false

theorem rsizeTr : (Tryz.prog.info? 33).map (·.size) = some 34 := by kernel_rfl
theorem rinfoBk : (Tryz.prog.info? 49).map (fun i => (i.zero, i.size, i.bytes)) = some (some (.agg (va 256 (iv .u8 fun _ => 0))), 256, 256) := by kernel_rfl
theorem results_row_two {P : Program} {fn : Func} {p1 u v : Tmp} {ty1 : TypeId} (h : fn.results = #[.cell p1 ty1, .tmp u, .tmp v]) (tmps : Array Value) (w : World) (g1 : Nat) (t1 : TypeId) (cs1 : Array Value) (d1 : TypeDesc)
    (hp1 : tmps.getD p1 undef = .pointer (some ⟨g1, 0, none⟩)) (hg1 : Blk w g1 t1 cs1)
    (hu1 : P.underlying ty1 = some d1) (hd1 : (match d1 with | .struct _ | .array _ _ => true | _ => false) = true) (hi1 : (P.info? ty1).map (·.size) = some cs1.size) :
    (results fn tmps).run P w = .ok (.tuple #[.agg cs1, tmps.getD u undef, tmps.getD v undef]) w := by
  have hp1' : tmps[p1]?.getD undef = .pointer (some ⟨g1, 0, none⟩) := by simpa using hp1
  simp [results, h, hp1', asAddr, run_loadVar_row w g1 t1 ty1 cs1 (0, 0) d1 hg1 hu1 hd1 hi1]
theorem kd_range {w : World} {b t : Nat} {K : Nat → Rf} (H : Blk w b t (kdC K)) (i : Nat) (hi : i < 4) : w.rangeAt b (i * 33) ((List.range 33).map (rfF (K i).1 (K i).2)) := by
  have := Blk.range (n := 132) (f := kdF K) H (i * 33) 33 (by omega)
  rw [show ((List.range 33).map fun j => kdF K (i * 33 + j)) = (List.range 33).map (rfF (K i).1 (K i).2) from List.map_congr_left fun j hj => ?_] at this
  · exact this
  · have hj := List.mem_range.1 hj
    unfold kdF
    rw [show (i * 33 + j) / 33 = i by omega, show (i * 33 + j) % 33 = j by omega]
/-- the blocks that are read on a way -/
def folB (F : Nat → Nat) (N : Nat) : Int → Rf → List Nat → List (Nat → Nat)
  | _, _, [] => []
  | h, R, p :: ps => if R = rf0 then [] else if nodE F N h R = 0 then gotF F N R :: folB F N (h - 1) (decK (gotF F N R) p) ps else []
theorem folB_none (F : Nat → Nat) (N : Nat) (h : Int) (ps : List Nat) : folB F N h rf0 ps = [] := by
  cases ps with
  | nil => rfl
  | cons p ps => simp [folB]
/-- blocks as cells -/
def bkL (l : List (Nat → Nat)) : List Value := l.flatMap fun f => (va 256 (iv .u8 f)).toList
theorem bkL_snoc (l : List (Nat → Nat)) (f : Nat → Nat) : bkL (l ++ [f]) = bkL l ++ (va 256 (iv .u8 f)).toList := by simp [bkL]
theorem way_idx (n q j lN cc wj : Nat) (hlN : n - 1 - j = lN) (hcc : 4 ^ lN = cc) (hwj : wj = wayN n q j) (hq : q < 4096) : (wrap64 ((q : Int) / (cc : Int))).tmod 4 = (wj : Int) := by
  have h1 : q / cc ≤ q := Nat.div_le_self _ _
  have hd : q / cc % 4 = wj := by
    rw [hwj]
    unfold wayN
    rw [hlN, hcc]
  rw [show (q : Int) / (cc : Int) = ((q / cc : Nat) : Int) by omega, ← IntWalk.i64_left, IntKind.wrap_i64, ← hd]
  have h3 : (0 : Int) ≤ ((q / cc : Nat) : Int) := Int.natCast_nonneg _
  generalize q / cc = z at *
  rw [show ((z : Int) + 9223372036854775808) % 18446744073709551616 - 9223372036854775808 = (z : Int) by omega]
  rfl
section
variable {F : Nat → Nat} {N : Nat}
set_option maxRecDepth 100000 in
set_option maxHeartbeats 4000000 in
theorem rdown_any (h : Int) (R : Rf) (hR : R.1 < 4294967296) (hF : ∀ a, F a < 256) (hh : 0 ≤ h ∧ h ≤ 6) (l : Int) (q : Nat) (hl : 0 ≤ l ∧ l ≤ h) (n : Nat) (hn : h - l = (n : Int)) (hq : q < 4 ^ n) (a1 : Rf) (a2 : Int) (han : folR F N h R ((List.range n).map (wayN n q)) = (a1, a2)) (bl : List (Nat → Nat)) (hbl : folB F N h R ((List.range n).map (wayN n q)) = bl) (a0 : Option Addr) (cap : Nat) (hN : N ≤ 8192) (w : World) (H : IsBlks w a0 N fun i => blkAt F i) : Calls Tryz.prog 34 #[.slice a0 N cap, .agg (trC h R), .int .i64 l, .int .i64 (q : Int)] w fun x w' => ∃ a c nn, x = .returned (.tuple #[.agg (rfC a1), .slice a nn c, .int .i64 a2]) ∧ (a2 = 0 → nn = bl.length ∧ w'.ownsRow w.heap.size 49 256 (.slice a bl.length c) bl.length (bkL bl)) ∧ Below w.heap.size w w' := by
  obtain ⟨i0, hi, hz0, hz1, hz2⟩ := info_parts rinfoBk
  have hz := rzero_bk
  have hzk := rzero_kd
  have hzr := zero_rref
  have hq4 : q < 4096 := Nat.lt_of_lt_of_le hq (pow4_le n (by omega))
  have hb1 : Below w.heap.size w (((((w.alloc (.cells (trC h R) 33)).alloc (.cells (rfC rf0) 31)).alloc (.cells (rfC rf0) 31)).setRow (w.heap.size + 2) (rfC R)).alloc (.cells #[] 49)) := (below_setRow ((below_new2 _ _ _).alloc (by simp; omega) _) (by omega) _).alloc (by simp; omega) _
  have t0 : Blk ((w.alloc (.cells (trC h R) 33)).alloc (.cells (rfC rf0) 31)) w.heap.size 33 (trC h R) := (Blk.new _ _ _).alloc _
  have HR0 : Hid (((w.alloc (.cells (trC h R) 33)).alloc (.cells (rfC rf0) 31)).rangeAt w.heap.size 1 ((List.range 33).map (rfF R.1 R.2))) := tr_range t0
  have t1 : Blk (((((w.alloc (.cells (trC h R) 33)).alloc (.cells (rfC rf0) 31)).alloc (.cells (rfC rf0) 31)).setRow (w.heap.size + 2) (rfC R)).alloc (.cells #[] 49)) w.heap.size 33 (trC h R) := (((t0.alloc _).other _ (by omega)).alloc _)
  have r1 : Blk (((((w.alloc (.cells (trC h R) 33)).alloc (.cells (rfC rf0) 31)).alloc (.cells (rfC rf0) 31)).setRow (w.heap.size + 2) (rfC R)).alloc (.cells #[] 49)) (w.heap.size + 1) 31 (rfC rf0) := ((((Blk.new1 _ _ _ _).alloc _).other _ (by omega)).alloc _)
  have c0 : Blk (((w.alloc (.cells (trC h R) 33)).alloc (.cells (rfC rf0) 31)).alloc (.cells (rfC rf0) 31)) (w.heap.size + 2) 31 (rfC rf0) := Blk.new2 _ _ _ _ _
  have c1 : Blk (((((w.alloc (.cells (trC h R) 33)).alloc (.cells (rfC rf0) 31)).alloc (.cells (rfC rf0) 31)).setRow (w.heap.size + 2) (rfC R)).alloc (.cells #[] 49)) (w.heap.size + 2) 31 (rfC R) := (c0.set _).alloc _
  have o1 : Blk (((((w.alloc (.cells (trC h R) 33)).alloc (.cells (rfC rf0) 31)).alloc (.cells (rfC rf0) 31)).setRow (w.heap.size + 2) (rfC R)).alloc (.cells #[] 49)) (w.heap.size + 3) 49 #[] := by
    have := Blk.new ((((w.alloc (.cells (trC h R) 33)).alloc (.cells (rfC rf0) 31)).alloc (.cells (rfC rf0) 31)).setRow (w.heap.size + 2) (rfC R)) 49 #[]
    rw [show ((((w.alloc (.cells (trC h R) 33)).alloc (.cells (rfC rf0) 31)).alloc (.cells (rfC rf0) 31)).setRow (w.heap.size + 2) (rfC R)).heap.size = w.heap.size + 3 by simp] at this
    exact this
  have z1 : (((((w.alloc (.cells (trC h R) 33)).alloc (.cells (rfC rf0) 31)).alloc (.cells (rfC rf0) 31)).setRow (w.heap.size + 2) (rfC R)).alloc (.cells #[] 49)).cell? ⟨w.heap.size, 0, none⟩ = some (.int .i64 h) := (t1.cell 0).trans (va_at (trF h R) (by decide))
  have HI1 : Hid (IsBlks (((((w.alloc (.cells (trC h R) 33)).alloc (.cells (rfC rf0) 31)).alloc (.cells (rfC rf0) 31)).setRow (w.heap.size + 2) (rfC R)).alloc (.cells #[] 49)) a0 N fun i => blkAt F i) := H.below hb1
  have HO1 : Hid ((((((w.alloc (.cells (trC h R) 33)).alloc (.cells (rfC rf0) 31)).alloc (.cells (rfC rf0) 31)).setRow (w.heap.size + 2) (rfC R)).alloc (.cells #[] 49)).ownsRow (w.heap.size + 3) 49 256 (.slice (some ⟨w.heap.size + 3, 0, none⟩) 0 0) 0 []) := kown_empty o1 (Nat.le_refl _)
  have HB1 : Hid (Below w.heap.size w (((((w.alloc (.cells (trC h R) 33)).alloc (.cells (rfC rf0) 31)).alloc (.cells (rfC rf0) 31)).setRow (w.heap.size + 2) (rfC R)).alloc (.cells #[] 49))) := hb1
  have HIW : Hid (IsBlks w a0 N fun i => blkAt F i) := H
  clear H hb1 t0 t1 o1
  go_enter Tryz.func34, Tryz.ntmps34
  go_wp2_with (first
    | (refine wpList_load_blk (by rfl) 31 _ (by rfl) (w.heap.size) (1) 33 (rfF R.1 R.2) (by rfl) _ (by exact HR0.out) Tryz.underlying31 rfl rsizeRef ?_; simp only [Act.put, sgPHTrGiven])
    | (refine wpList_store_row (by rfl) 31 _ _ (by rfl) (w.heap.size + 2) (rfC R) (by rfl) (by rfl) 31 (_) (by exact c0) (rsizeRef.trans (by rw [rfC_size])) (by simp only [rfC_size]) (rfC_all _) ?_; simp only [Act.put, sgPHTrGiven])
    | fail)
  clear HR0 c0
  generalize (((((w.alloc (.cells (trC h R) 33)).alloc (.cells (rfC rf0) 31)).alloc (.cells (rfC rf0) 31)).setRow (w.heap.size + 2) (rfC R)).alloc (.cells #[] 49)) = w1 at *
  go_loopw [12, 13] (fun v t wr => ∃ (j : Nat) (R' : Rf) (acc : List (Nat → Nat)) (a : Option Addr) (c : Nat), j ≤ n ∧ t = .int .i64 (h - (j : Int)) ∧ v = .slice a acc.length c ∧ acc.length ≤ j ∧ wr.ownsRow (w.heap.size + 3) 49 256 (.slice a acc.length c) acc.length (bkL acc) ∧ R'.1 < 4294967296 ∧ folR F N (h - (j : Int)) R' (((List.range n).map (wayN n q)).drop j) = (a1, a2) ∧ acc ++ folB F N (h - (j : Int)) R' (((List.range n).map (wayN n q)).drop j) = bl ∧ Blk wr (w.heap.size + 1) 31 (rfC rf0) ∧ Blk wr (w.heap.size + 2) 31 (rfC R') ∧ (IsBlks wr a0 N fun i => blkAt F i) ∧ Below w.heap.size w wr) (fun _ t _ => (intOf t - l).toNat)
  case atStart => exact ⟨0, R, [], _, _, Nat.zero_le _, by simp, rfl, Nat.le_refl _, HO1.out, hR, by simpa using han, by simpa using hbl, r1, c1, HI1.out, HB1.out⟩
  case round =>
    clear r1 c1 HO1 HI1 HB1 z1
    obtain ⟨j, R', acc, a, c, hj, rfl, rfl, hacc, hown, hR', hfo, hfb, kr, kc, himg, hb⟩ := hrel
    have HOW : Hid (wr.ownsRow (w.heap.size + 3) 49 256 (.slice a acc.length c) acc.length (bkL acc)) := hown
    have HFO : Hid (folR F N (h - (j : Int)) R' (((List.range n).map (wayN n q)).drop j) = (a1, a2)) := hfo
    have HFB : Hid (acc ++ folB F N (h - (j : Int)) R' (((List.range n).map (wayN n q)).drop j) = bl) := hfb
    have HIM : Hid (IsBlks wr a0 N fun i => blkAt F i) := himg
    have HBW : Hid (Below w.heap.size w wr) := hb
    clear hown hfo hfb himg hb
    by_cases hlt : j < n
    · have hgt : l < h - (j : Int) := by omega
      have d1 : decide (l < h - (j : Int)) = true := decide_eq_true hgt
      obtain ⟨wj, hwj⟩ : ∃ wj, wj = wayN n q j := ⟨_, rfl⟩
      have HWJ : Hid (wj = wayN n q j) := hwj
      have hw4 : wj < 4 := hwj ▸ wayN_lt n q j
      have w40 : (0 : Int) ≤ (wj : Int) := Int.natCast_nonneg _
      have w41 : (wj : Int) < 4 := by omega
      have HDR : Hid (((List.range n).map (wayN n q)).drop j = wj :: ((List.range n).map (wayN n q)).drop (j + 1)) := (List.drop_eq_getElem?_toList_append).trans (by rw [List.getElem?_map, List.getElem?_range hlt, hwj]; rfl)
      clear hwj
      by_cases hR0 : R' = rf0
      · have hNn : Hid (∀ w, Calls Tryz.prog 35 #[.agg (rfC R')] w fun e w' => e = .returned (.bool true) ∧ Below w.heap.size w w') := fun w => by
          have := rnone_any R' w
          rw [decide_eq_true hR0] at this
          exact this
        have HA1 : Hid ((a1, a2) = (rf0, (0 : Int))) := by
          show _ = _
          rw [← HFO.out, hR0, folR_none]
        have HA2 : Hid (bl = acc) := by
          show _ = _
          rw [← HFB.out, hR0, folB_none, List.append_nil]
        clear hR0 HFO HFB
        go_wp2_with (first
          | (refine wpList_load_rowg (by rfl) 31 _ (by rfl) (w.heap.size + 2) (by rfl) 31 (rfC R') (0, 0) _ (by exact kc) Tryz.underlying31 (by rfl) (rsizeRef.trans (by rw [rfC_size])) ?_; simp only [Act.put, sgPHTrGiven])
          | fail)
        refine (hNn.out wr).mono ?_
        rintro x w4 ⟨rfl, hb4⟩
        have kr4 := kr.below hb4 kr.lt
        have HO4 : Hid (w4.ownsRow (w.heap.size + 3) 49 256 (.slice a acc.length c) acc.length (bkL acc)) := kown_below HOW.out hb4
        have hb14 := HBW.out.trans (hb4.mono HBW.out.size)
        clear hb4 kr kc
        go_wp2_with (first
          | (refine wpList_store_row (by rfl) 31 _ _ (by rfl) (w.heap.size + 1) (rfC rf0) (by rfl) (by rfl) 31 (_) (by exact kr4) (rsizeRef.trans (by rw [rfC_size])) (by simp only [rfC_size]) (rfC_all _) ?_; simp only [Act.put, sgPHTrGiven])
          | fail)
        try simp only [Exit.inBlock, Exit.then]
        refine bodyPost_ret (results_row_two Tryz.results34 _ _ (w.heap.size + 1) 31 (rfC rf0) _ rfl (kr4.set _) Tryz.underlying31 rfl (rsizeRef.trans (by rw [rfC_size]))) rfl ?_
        obtain ⟨rfl, rfl⟩ := Prod.mk.inj HA1.out
        obtain rfl := HA2.out
        have X := kown_setRow HO4.out (g := w.heap.size + 1) (fun z hz _ => (by omega : z ≠ w.heap.size + 1)) (rfC rf0)
        have Y := kown_mono X (show w.heap.size ≤ w.heap.size + 3 by omega)
        exact ⟨a, c, _, rfl, fun _ => ⟨rfl, Y⟩, below_setRow hb14 (by omega) _⟩
      · have hNn : Hid (∀ w, Calls Tryz.prog 35 #[.agg (rfC R')] w fun e w' => e = .returned (.bool false) ∧ Below w.heap.size w w') := fun w => by
          have := rnone_any R' w
          rw [decide_eq_false hR0] at this
          exact this
        go_wp2_with (first
          | (refine wpList_load_rowg (by rfl) 31 _ (by rfl) (w.heap.size + 2) (by rfl) 31 (rfC R') (0, 0) _ (by exact kc) Tryz.underlying31 (by rfl) (rsizeRef.trans (by rw [rfC_size])) ?_; simp only [Act.put, sgPHTrGiven])
          | fail)
        refine (hNn.out wr).mono ?_
        rintro x w4 ⟨rfl, hb4⟩
        have kr4 := kr.below hb4 kr.lt
        have kc4 := kc.below hb4 kc.lt
        have HO4 : Hid (w4.ownsRow (w.heap.size + 3) 49 256 (.slice a acc.length c) acc.length (bkL acc)) := kown_below HOW.out hb4
        have HI4 : Hid (IsBlks w4 a0 N fun i => blkAt F i) := HIM.out.below hb4
        have hb14 := HBW.out.trans (hb4.mono HBW.out.size)
        clear hb4 kr kc HOW HIM HBW hNn
        obtain ⟨er, her⟩ : ∃ er, nodE F N (h - (j : Int)) R' = er := ⟨_, rfl⟩
        have HKd : Hid (∀ w : World, (IsBlks w a0 N fun i => blkAt F i) → Calls Tryz.prog 56 #[.slice a0 N cap, .int .i64 (h - (j : Int)), .agg (rfC R')] w fun x w' => x = .returned (.tuple #[.agg (kdC (if er = 0 then decK (gotF F N R') else fun _ => rf0)), .agg (va 256 (iv .u8 (gotF F N R'))), .int .i64 er]) ∧ Below w.heap.size w w') := fun w h1 => rkids_any _ R' hR' hF er her a0 cap hN w h1
        go_wp2_with (first
          | (refine wpList_load_rowg (by rfl) 31 _ (by rfl) (w.heap.size + 2) (by rfl) 31 (rfC R') (0, 0) _ (by exact kc4) Tryz.underlying31 (by rfl) (rsizeRef.trans (by rw [rfC_size])) ?_; simp only [Act.put, sgPHTrGiven])
          | fail)
        refine (HKd.out w4 HI4.out).mono ?_
        rintro x w5 ⟨rfl, hb5⟩
        have kr5 := kr4.below hb5 kr4.lt
        have kc5 := kc4.below hb5 kc4.lt
        have HO5 : Hid (w5.ownsRow (w.heap.size + 3) 49 256 (.slice a acc.length c) acc.length (bkL acc)) := kown_below HO4.out hb5
        have HI5 : Hid (IsBlks w5 a0 N fun i => blkAt F i) := HI4.out.below hb5
        have hb15 := hb14.trans (hb5.mono hb14.size)
        clear hb5 hb14 kr4 kc4 HO4 HI4 HKd
        obtain ⟨f, hf⟩ : ∃ f, gotF F N R' = f := ⟨_, rfl⟩
        obtain ⟨KK, hKK⟩ : ∃ KK, (if er = 0 then decK f else fun _ => rf0) = KK := ⟨_, rfl⟩
        rw [hf, hKK]
        have q0 : Blk ((w5.alloc (.cells (kdC fun _ => rf0) 149)).alloc (.cells (va 256 (iv .u8 fun _ => 0)) 49)) w5.heap.size 149 (kdC fun _ => rf0) := (Blk.new _ _ _).alloc _
        have y0 : Blk ((w5.alloc (.cells (kdC fun _ => rf0) 149)).alloc (.cells (va 256 (iv .u8 fun _ => 0)) 49)) (w5.heap.size + 1) 49 (va 256 (iv .u8 fun _ => 0)) := Blk.new1 _ _ _ _
        have y1 := y0.other (kdC KK) (show w5.heap.size + 1 ≠ w5.heap.size by omega)
        have x7 : Blk ((((w5.alloc (.cells (kdC fun _ => rf0) 149)).alloc (.cells (va 256 (iv .u8 fun _ => 0)) 49)).setRow w5.heap.size (kdC KK)).setRow (w5.heap.size + 1) (va 256 (iv .u8 f))) w5.heap.size 149 (kdC KK) := (q0.set _).other _ (by omega)
        have y7 : Blk ((((w5.alloc (.cells (kdC fun _ => rf0) 149)).alloc (.cells (va 256 (iv .u8 fun _ => 0)) 49)).setRow w5.heap.size (kdC KK)).setRow (w5.heap.size + 1) (va 256 (iv .u8 f))) (w5.heap.size + 1) 49 (va 256 (iv .u8 f)) := y1.set _
        have hb7 : Below w5.heap.size w5 ((((w5.alloc (.cells (kdC fun _ => rf0) 149)).alloc (.cells (va 256 (iv .u8 fun _ => 0)) 49)).setRow w5.heap.size (kdC KK)).setRow (w5.heap.size + 1) (va 256 (iv .u8 f))) := below_setRow (below_setRow (below_new2 _ _ _) (Nat.le_refl _) _) (by omega) _
        have kr7 := kr5.below hb7 kr5.lt
        have kc7 := kc5.below hb7 kc5.lt
        have HO7 : Hid (((((w5.alloc (.cells (kdC fun _ => rf0) 149)).alloc (.cells (va 256 (iv .u8 fun _ => 0)) 49)).setRow w5.heap.size (kdC KK)).setRow (w5.heap.size + 1) (va 256 (iv .u8 f))).ownsRow (w.heap.size + 3) 49 256 (.slice a acc.length c) acc.length (bkL acc)) := kown_below HO5.out hb7
        have HI7 : Hid (IsBlks ((((w5.alloc (.cells (kdC fun _ => rf0) 149)).alloc (.cells (va 256 (iv .u8 fun _ => 0)) 49)).setRow w5.heap.size (kdC KK)).setRow (w5.heap.size + 1) (va 256 (iv .u8 f))) a0 N fun i => blkAt F i) := HI5.out.below hb7
        have hb17 := hb15.trans (hb7.mono hb15.size)
        have HS5 : Hid (w.heap.size + 2 < w5.heap.size) := kc5.lt
        clear hb7 kr5 kc5 HO5 HI5 hb15
        by_cases he0 : er = 0
        · subst he0
          have hKK2 : decK f = KK := by
            rw [← hKK, if_pos rfl]
          have HFN : Hid (folR F N (h - (j : Int) - 1) (KK wj) (((List.range n).map (wayN n q)).drop (j + 1)) = (a1, a2)) := by
            show _ = _
            rw [← HFO.out, HDR.out]
            simp only [folR, if_neg hR0, if_pos her, hf, hKK2]
          have HFM : Hid ((acc ++ [f]) ++ folB F N (h - (j : Int) - 1) (KK wj) (((List.range n).map (wayN n q)).drop (j + 1)) = bl) := by
            show _ = _
            rw [← HFB.out, HDR.out]
            simp only [folB, if_neg hR0, if_pos her, hf, hKK2, List.append_assoc, List.singleton_append]
          have HDL : Hid ((KK wj).1 < 4294967296) := by
            show _ < _
            rw [← hKK2]
            exact decK_lt _ _
          clear her HFO HFB hf hKK hKK2
          obtain ⟨lN, hlN⟩ : ∃ lN, n - 1 - j = lN := ⟨_, rfl⟩
          obtain ⟨cc, hcc⟩ : ∃ cc, 4 ^ lN = cc := ⟨_, rfl⟩
          have hcc1 : 1 ≤ cc := hcc ▸ pow4_pos lN
          have hcc0 : ¬ (cc : Int) = 0 := by omega
          have hcc4 : cc ≤ 4096 := hcc ▸ pow4_le lN (by omega)
          have hix := way_idx n q j lN cc wj hlN hcc HWJ.out hq4
          have ha1 : h - (j : Int) - 1 - l = (lN : Int) := by omega
          have HCP : Hid (∀ w, Calls Tryz.prog 11 #[.int .i64 (lN : Int)] w fun e w' => e = .returned (.int .i64 (cc : Int)) ∧ w = w') := fun w => refCap_any lN cc (by omega) hcc w
          clear hlN hcc HDR
          go_upto_region 11 with (first
            | (refine wpList_store_row (by rfl) 149 _ _ (by rfl) (w5.heap.size) (kdC KK) (by rfl) (by rfl) 149 (_) (by exact q0) (rsizeKd.trans (by rw [kdC_size])) (by simp only [kdC_size]) (kdC_all _) ?_; simp only [Act.put, sgPHTrGiven])
            | (refine wpList_store_row (by rfl) 49 _ _ (by rfl) (w5.heap.size + 1) (va 256 (iv .u8 f)) (by rfl) (by rfl) 49 (_) (by exact y1) (rsizeBk.trans (by rw [va_size])) (by simp only [va_size]) (iv_one _ _ _) ?_; simp only [Act.put, sgPHTrGiven])
            | fail)
          clear q0 y0 y1
          generalize ((((w5.alloc (.cells (kdC fun _ => rf0) 149)).alloc (.cells (va 256 (iv .u8 fun _ => 0)) 49)).setRow w5.heap.size (kdC KK)).setRow (w5.heap.size + 1) (va 256 (iv .u8 f))) = w7 at *
          generalize hkb : w5.heap.size = kb at *
          have HOWN : Hid ((w7.alloc (.cells (va 256 (iv .u8 f)) 49)).ownsRow (w.heap.size + 3) 49 256 (.slice a acc.length c) acc.length (bkL acc)) := HO7.out.alloc _
          have HNEW : Hid (∀ j u, (va 256 (iv .u8 f)).toList[j]? = some u → (w7.alloc (.cells (va 256 (iv .u8 f)) 49)).cell? ((⟨w7.heap.size, 0, none⟩ : Addr).add j) = some u) := cells_new w7 _ _
          have HMEM : Hid (∀ u ∈ (va 256 (iv .u8 f)).toList, u.oneCell' = true) := kva_mem_one 256 f
          have HLEN : Hid ((va 256 (iv .u8 f)).toList.length = 1 * 256) := by
            show _ = _
            rw [va_toList]
            simp
          have hsz7 : w.heap.size + 3 ≤ w7.heap.size := by
            have := kc7.lt
            omega
          go_wp2_with (first
            | (refine wpList_load_rowg (by rfl) 49 _ (by rfl) (kb + 1) (by rfl) 49 (va 256 (iv .u8 f)) (0, 0) _ (by exact y7) Tryz.underlying49 (by rfl) (rsizeBk.trans (by rw [va_size])) ?_; simp only [Act.put, sgPHTrGiven])
            | (refine wpList_build1 (by rfl) 27 49 _ (by rfl) (va 256 (iv .u8 f)) (by rfl) i0 _ 256 Tryz.underlying27 hi hz0 hz1 (va_size _ _) (by decide) (by decide) ?_; simp only [Act.put, sgPHTrGiven])
            | (at_builtin; refine wpList_append_own _ rfl _ _ 27 rfl (w.heap.size + 3) 49 i0 (.agg (va 256 (iv .u8 fun _ => 0))) 256 256 Tryz.underlying27 hi hz0 hz1 hz2 (va_size _ _) (by decide) _ _ _ rfl HOWN.out ⟨w7.heap.size, 0, none⟩ 1 1 (va 256 (iv .u8 f)).toList rfl HLEN.out HNEW.out HMEM.out (by unfold maxLen; omega) (by omega) (by simp; omega) ?_)
            | go_in)
          intro v' w8 hown' hgrow _
          have hb18 : Below w.heap.size w w8 := (hb17.alloc hb17.size _).grown hgrow (by simp; omega) (fun k hk => by have := (HOWN.out.lt k hk).1; omega)
          have blkK : ∀ (x t : Nat) (cs : Array Value), Blk w7 x t cs → 49 ≠ t → Blk w8 x t cs := fun x t cs hx ht => (hgrow.block x (hx.alloc _).lt (fun e => own_ne HOWN.out (hx.alloc _) ht e.symm)).trans (hx.alloc _)
          have kr8 := blkK _ _ _ kr7 (by decide)
          have kc8 := blkK _ _ _ kc7 (by decide)
          have x8 := blkK _ _ _ x7 (by decide)
          obtain ⟨a', c', hv'⟩ := kown_slice hown'
          subst hv'
          have hown8 : w8.ownsRow (w.heap.size + 3) 49 256 (.slice a' (acc ++ [f]).length c') (acc ++ [f]).length (bkL (acc ++ [f])) := by
            rw [bkL_snoc]
            simpa using hown'
          have HO8 : Hid (w8.ownsRow (w.heap.size + 3) 49 256 (.slice a' (acc ++ [f]).length c') (acc ++ [f]).length (bkL (acc ++ [f]))) := hown8
          have HB8 : Hid (Below w.heap.size w w8) := hb18
          have HR8 : Hid (w8.rangeAt kb (wj * 33) ((List.range 33).map (rfF (KK wj).1 (KK wj).2))) := kd_range x8 wj hw4
          clear hown' hown8 hgrow blkK HOWN HNEW HMEM HLEN hb18 hb17 kr7 kc7 x7 y7 HO7 HI7 x8
          go_wp2_with fail
          refine (HCP.out w8).mono ?_
          rintro x _ ⟨rfl, rfl⟩
          go_wp2_with (first
            | (refine wpList_load_blk (by rfl) 31 _ (by rfl) (kb) (wj * 33) 33 (rfF (KK wj).1 (KK wj).2) (by rfl) _ (by exact HR8.out) Tryz.underlying31 rfl rsizeRef ?_; simp only [Act.put, sgPHTrGiven])
            | (refine wpList_store_row (by rfl) 31 _ _ (by rfl) (w.heap.size + 2) (rfC (KK wj)) (by rfl) (by rfl) 31 (_) (by exact kc8) (rsizeRef.trans (by rw [rfC_size])) (by simp only [rfC_size]) (rfC_all _) ?_; simp only [Act.put, sgPHTrGiven])
            | fail)
          refine ⟨⟨j + 1, KK wj, acc ++ [f], a', c', hlt, ?_, ?_, ?_, ?_, HDL.out, ?_, ?_, kr8.other _ (by omega), kc8.set _, HIW.out.below (below_setRow HB8.out (by omega) _), below_setRow HB8.out (by omega) _⟩, ?_⟩
          · exact congrArg (Value.int .i64) (by push_cast; omega)
          · simp
          · rw [List.length_append]
            simp
            omega
          · exact kown_setRow HO8.out (g := w.heap.size + 2) (fun z hz _ => (by omega : z ≠ w.heap.size + 2)) _
          · rw [← HFN.out, show h - ((j + 1 : Nat) : Int) = h - (j : Int) - 1 by omega]
          · rw [← HFM.out, show h - ((j + 1 : Nat) : Int) = h - (j : Int) - 1 by omega]
          · simp only [intOf]
            omega
        · have HA1 : Hid ((a1, a2) = (rf0, er)) := by
            show _ = _
            rw [← HFO.out, HDR.out]
            simp only [folR, if_neg hR0, her, if_neg he0]
          have hne2 : (er != 0) = true := by simp [he0]
          have hne3 : decide (er = 0) = false := decide_eq_false he0
          clear her HFO HFB hKK hf
          go_wp2_with (first
            | (refine wpList_store_row (by rfl) 149 _ _ (by rfl) (w5.heap.size) (kdC KK) (by rfl) (by rfl) 149 (_) (by exact q0) (rsizeKd.trans (by rw [kdC_size])) (by simp only [kdC_size]) (kdC_all _) ?_; simp only [Act.put, sgPHTrGiven])
            | (refine wpList_store_row (by rfl) 49 _ _ (by rfl) (w5.heap.size + 1) (va 256 (iv .u8 f)) (by rfl) (by rfl) 49 (_) (by exact y1) (rsizeBk.trans (by rw [va_size])) (by simp only [va_size]) (iv_one _ _ _) ?_; simp only [Act.put, sgPHTrGiven])
            | (refine wpList_store_row (by rfl) 31 _ _ (by rfl) (w.heap.size + 1) (rfC rf0) (by rfl) (by rfl) 31 (_) (by exact kr7) (rsizeRef.trans (by rw [rfC_size])) (by simp only [rfC_size]) (rfC_all _) ?_; simp only [Act.put, sgPHTrGiven])
            | fail)
          try simp only [Exit.inBlock, Exit.then]
          refine bodyPost_ret (results_row_two Tryz.results34 _ _ (w.heap.size + 1) 31 (rfC rf0) _ rfl (kr7.set _) Tryz.underlying31 rfl (rsizeRef.trans (by rw [rfC_size]))) rfl ?_
          obtain ⟨rfl, rfl⟩ := Prod.mk.inj HA1.out
          exact ⟨none, 0, 0, rfl, fun u => absurd u he0, below_setRow hb17 (by omega) _⟩
    · have hjn : j = n := by omega
      subst hjn
      have hgt : ¬ l < h - (j : Int) := by omega
      have d1 : decide (l < h - (j : Int)) = false := decide_eq_false hgt
      have HA1 : Hid ((a1, a2) = (R', (0 : Int))) := by
        show _ = _
        rw [← HFO.out, List.drop_of_length_le (by simp)]
        rfl
      have HA2 : Hid (bl = acc) := by
        show _ = _
        rw [← HFB.out, List.drop_of_length_le (by simp)]
        simp [folB]
      clear HFO HFB
      go_wp2_with (first
        | (refine wpList_load_rowg (by rfl) 31 _ (by rfl) (w.heap.size + 2) (by rfl) 31 (rfC R') (0, 0) _ (by exact kc) Tryz.underlying31 (by rfl) (rsizeRef.trans (by rw [rfC_size])) ?_; simp only [Act.put, sgPHTrGiven])
        | (refine wpList_store_row (by rfl) 31 _ _ (by rfl) (w.heap.size + 1) (rfC R') (by rfl) (by rfl) 31 (_) (by exact kr) (rsizeRef.trans (by rw [rfC_size])) (by simp only [rfC_size]) (rfC_all _) ?_; simp only [Act.put, sgPHTrGiven])
        | fail)
      try simp only [Exit.inBlock, Exit.then]
      refine bodyPost_ret (results_row_two Tryz.results34 _ _ (w.heap.size + 1) 31 (rfC R') _ rfl (kr.set _) Tryz.underlying31 rfl (rsizeRef.trans (by rw [rfC_size]))) rfl ?_
      obtain ⟨rfl, rfl⟩ := Prod.mk.inj HA1.out
      obtain rfl := HA2.out
      have X := kown_setRow HOW.out (g := w.heap.size + 1) (fun z hz _ => (by omega : z ≠ w.heap.size + 1)) (rfC a1)
      have Y := kown_mono X (show w.heap.size ≤ w.heap.size + 3 by omega)
      exact ⟨a, c, _, rfl, fun _ => ⟨rfl, Y⟩, below_setRow HBW.out (by omega) _⟩
end
end Go.Proofs.YtiofonffmplfmaaGreat

namespace Go.Proofs.YtiofonffmplfmaaGreat
open Go Go.RowKit
set_option linter.unusedSimpArgs false
set_option linter.unusedVariables false
/-- the blocks that were met -/
def MB (V : World) (bx B : Nat) (v : Value) (l : List (Nat → Nat)) : Prop := GS V bx 37 B 52 256 v l.length (bkL l)
end Go.Proofs.YtiofonffmplfmaaGreat

namespace Go.Proofs.YtiofonffmplfmaaGreat
open Go Go.RowKit
set_option linter.unusedSimpArgs false
set_option linter.unusedVariables false
/-- the blocks met so far, apart from the disk and from others (o) -/
structure FM (W : World) (bx Bm : Nat) (mv : Value) (n0 : Nat) (v : Value) (l : List (Nat → Nat)) (V o : Nat → Prop) : Prop where
  mb : MB W bx Bm v l
  ap : ∀ b, gft bx v b → ¬ V b ∧ ¬ o b
  sub : ∀ b, gft bx v b → gft bx mv b ∨ n0 ≤ b
  bm : Bm ≤ W.heap.size
section
variable {W W' : World} {bx Bm n0 : Nat} {mv v : Value} {l : List (Nat → Nat)} {V V' o : Nat → Prop}
theorem FM.step (h : FM W bx Bm mv n0 v l V o) (ht : Turns V W W') (hv : ∀ x, V' x → V x ∨ W.heap.size ≤ x) : FM W' bx Bm mv n0 v l V' o := by
  refine ⟨h.mb.keep ht fun b q q2 => (h.ap b q2).1 q, fun b q => ⟨fun q2 => ?_, (h.ap b q).2⟩, h.sub, Nat.le_trans h.bm ht.size⟩
  rcases hv b q2 with u | u
  · exact (h.ap b q).1 u
  · have := h.mb.lt b q
    omega
theorem FM.below (h : FM W bx Bm mv n0 v l V o) (hb : Below W.heap.size W W') : FM W' bx Bm mv n0 v l V o := h.step (.of_below hb) fun x hx => .inl hx
theorem FM.laid (h : FM W bx Bm mv n0 v l V o) {b : Nat} (hb : o b) (cs : Array Value) : FM (W.setRow b cs) bx Bm mv n0 v l V o := by
  have ht : Turns (fun x => x = b) W (W.setRow b cs) := ⟨by simp, by simp, by simp, by simp, fun z hz hn => setRow_other _ _ z _ hn⟩
  exact ⟨h.mb.keep ht fun z q q2 => (h.ap z q2).2 (q ▸ hb), h.ap, h.sub, by simpa using h.bm⟩
end
section
variable {B g N c m room i : Nat} {F : Nat → Nat} {U : Nat → Prop}
end
end Go.Proofs.YtiofonffmplfmaaGreat

namespace Go.Proofs.YtiofonffmplfmaaGreat
open Go Go.RowKit
set_option linter.unusedSimpArgs false
set_option linter.unusedVariables false
/-- what Leaf answers -/
def leafV (F : Nat → Nat) (N : Nat) (h : Int) (R : Rf) (p : Int) : (Nat → Nat) × Int := if (refV F N h R 0 p).2 = 0 then (gotF F N (refV F N h R 0 p).1, gotE F N (refV F N h R 0 p).1) else (fun _ => 0, (refV F N h R 0 p).2)
/-- what Blocks answers, of a way -/
def bksV (F : Nat → Nat) (N : Nat) (h : Int) (R : Rf) (ps : List Nat) : List (Nat → Nat) × Int :=
  if (folR F N h R ps).2 = 0 then (if (folR F N h R ps).1 = rf0 then (folB F N h R ps, 0) else if gotE F N (folR F N h R ps).1 = 0 then (folB F N h R ps ++ [gotF F N (folR F N h R ps).1], 0) else ([], gotE F N (folR F N h R ps).1)) else ([], (folR F N h R ps).2)
/-- what Blocks answers -/
def blocksV (F : Nat → Nat) (N : Nat) (h : Int) (R : Rf) (p : Int) : List (Nat → Nat) × Int := if trOk h R then (if outP h 0 p then ([], 90) else bksV F N h R (wayTo9 h 0 p)) else ([], 1)
theorem folR_lt9 (F : Nat → Nat) (N : Nat) : ∀ (ps : List Nat) (h : Int) (R : Rf), R.1 < 4294967296 → (folR F N h R ps).1.1 < 4294967296
  | [], _, _, hR => hR
  | p :: ps, h, R, hR => by
    unfold folR
    split
    · exact (by decide : (0 : Nat) < 4294967296)
    · split
      · exact folR_lt9 F N ps _ _ (decK_lt _ _)
      · exact (by decide : (0 : Nat) < 4294967296)
theorem folB_len (F : Nat → Nat) (N : Nat) : ∀ (ps : List Nat) (h : Int) (R : Rf), (folB F N h R ps).length ≤ ps.length
  | [], _, _ => by simp [folB]
  | p :: ps, h, R => by
    unfold folB
    split
    · simp
    · split
      · have := folB_len F N ps (h - 1) (decK (gotF F N R) p)
        simp
        omega
      · simp
section
variable {B g N c m room i : Nat} {F : Nat → Nat} {U : Nat → Prop}
end
end Go.Proofs.YtiofonffmplfmaaGreat

namespace Go.Proofs.YtiofonffmplfmaaGreat
open Go Go.RowKit
set_option linter.unusedSimpArgs false
set_option linter.unusedVariables false

theorem tr_load_blkg {P : Program} {ops : Array Oper} {rest : List Oper} {op : Oper} {a : Act} {w : World} {Q : Exit → Act → World → Prop} (hw : Region.wanted op (yielded ops a.tmps) = true) (ty : TypeId) (x : Operand) (ho : op.op = .load ty x)
    (b o n : Nat) (f : Nat → Value) (hx : a.eval x = .pointer (some ⟨b, o, none⟩)) (d : TypeDesc) (hc : w.rangeAt b o ((List.range n).map f))
    (hu : P.underlying ty = some d) (hd : d.isRow = true) (hi : (P.info? ty).map (·.size) = some n)
    (h : wpList P ops Q rest (a.put op.dst (.agg (va n f))) w) : wpList P ops Q (op :: rest) a w :=
  wpList_step fun K hK => by
    rw [if_pos hw]
    exact wp_load_mid ty x ho b o hx _ d hc hu hd (hi.trans (by simp)) (hK _ _ h)
theorem zero_tr (w : World) : (zeroValue 45).run Tryz.prog w = .ok (.agg (trC 0 rf0)) w := zero_of (by kernel_rfl) w
theorem built_tr (h : Int) (R : Rf) : Tryz.prog.built 45 [(0, .int .i64 h), (1, .agg (rfC R))] = some (trC h R) := by kernel_rfl
set_option maxRecDepth 100000 in
set_option maxHeartbeats 4000000 in
theorem lref_any (r : Rf) (w : World) : Calls Tryz.prog 20 #[.agg (rfC r)] w fun x w' => x = .returned (.agg (rfC r)) ∧ Below w.heap.size w w' := by
  have hz := zero_ref
  have r0 : Blk ((w.alloc (.cells (rfC r) 31)).alloc (.cells (rfC rf0) 43)) w.heap.size 31 (rfC r) := (Blk.new _ _ _).alloc _
  have r1 : Blk ((w.alloc (.cells (rfC r) 31)).alloc (.cells (rfC rf0) 43)) (w.heap.size + 1) 43 (rfC rf0) := Blk.new1 _ _ _ _
  have hb : Below w.heap.size w ((w.alloc (.cells (rfC r) 31)).alloc (.cells (rfC rf0) 43)) := below_new2 _ _ _
  have x1 : ((w.alloc (.cells (rfC r) 31)).alloc (.cells (rfC rf0) 43)).cell? ⟨w.heap.size, 0, none⟩ = some (.int .u32 (r.1 : Int)) := (r0.cell 0).trans (va_at (rfF r.1 r.2) (by decide))
  have HR : Hid (((w.alloc (.cells (rfC r) 31)).alloc (.cells (rfC rf0) 43)).rangeAt w.heap.size 1 ((List.range 32).map (iv .u8 (dF r.2)))) := rref_range r0
  have HBT : Hid (Tryz.prog.built 43 [(0, .int .u32 (r.1 : Int)), (1, .agg (va 32 (iv .u8 (dF r.2))))] = some (rfC r)) := built_refC r.1 r.2
  go_enter Tryz.func20, Tryz.ntmps20
  go_wp2_with (first
    | (refine wpList_load_blk (by rfl) 29 _ (by rfl) (w.heap.size) (1) 32 (iv .u8 (dF r.2)) (by rfl) _ (by exact HR.out) Tryz.underlying29 rfl rsizeSum ?_; simp only [Act.put, sgPHTrGiven])
    | (refine tr_build2 (by rfl) 43 0 1 _ _ (by rfl) (.int .u32 (r.1 : Int)) (.agg (va 32 (iv .u8 (dF r.2)))) (by rfl) (by rfl) (rfC r) (by exact HBT.out) ?_; simp only [Act.put, sgPHTrGiven])
    | (refine wpList_store_row (by rfl) 43 _ _ (by rfl) (w.heap.size + 1) (rfC r) (by rfl) (by rfl) 43 (_) (by exact r1) (tsizeRef.trans (by rw [rfC_size])) (by simp only [rfC_size]) (rfC_all _) ?_; simp only [Act.put, sgPHTrGiven])
    | fail)
  try simp only [Exit.inBlock, Exit.then]
  refine bodyPost_ret (results_cell_row Tryz.results20 _ _ (w.heap.size + 1) 43 (rfC r) (0, 0) _ rfl (r1.set _) Tryz.underlying43 rfl (tsizeRef.trans (by rw [rfC_size]))) rfl ?_
  exact ⟨rfl, below_setRow hb (by omega) _⟩
set_option maxRecDepth 100000 in
set_option maxHeartbeats 4000000 in
theorem given_tree (h : Int) (R : Rf) (w : World) : Calls Tryz.prog 9 #[.agg (trC h R)] w fun x w' => x = .returned (.agg (trC h R)) ∧ Below w.heap.size w w' := by
  have hz := zero_tr
  have t1 : Blk ((w.alloc (.cells (trC h R) 33)).alloc (.cells (trC 0 rf0) 45)) w.heap.size 33 (trC h R) := (Blk.new _ _ _).alloc _
  have k1 : Blk ((w.alloc (.cells (trC h R) 33)).alloc (.cells (trC 0 rf0) 45)) (w.heap.size + 1) 45 (trC 0 rf0) := Blk.new1 _ _ _ _
  have hb1 : Below w.heap.size w ((w.alloc (.cells (trC h R) 33)).alloc (.cells (trC 0 rf0) 45)) := below_new2 _ _ _
  have hS : Blk ((w.alloc (.cells (trC h R) 33)).alloc (.cells (trC 0 rf0) 45)).drew w.heap.size 33 (trC h R) := t1
  have k2 : Blk ((w.alloc (.cells (trC h R) 33)).alloc (.cells (trC 0 rf0) 45)).drew (w.heap.size + 1) 45 (trC 0 rf0) := k1
  have hbd : Below w.heap.size w ((w.alloc (.cells (trC h R) 33)).alloc (.cells (trC 0 rf0) 45)).drew := hb1.drew
  have HBT : Hid (Tryz.prog.built 45 [(0, .int .i64 h), (1, .agg (rfC R))] = some (trC h R)) := built_tr h R
  clear t1 k1 hb1
  go_enter Tryz.func9, Tryz.ntmps9
  go_wp2_with fail
  generalize ((w.alloc (.cells (trC h R) 33)).alloc (.cells (trC 0 rf0) 45)) = w1 at *
  refine wp_region_plan (fun W => Blk W w.heap.size 33 (trC h R)) (.yield [] 0 (.yield [] 1 (.yield [] 2 (.yield [] 3 (.force [] 4 (.force [] 5 (.force [] 6 (.fin [])))))))) (by kernel_rfl) (by kernel_rfl) hS (plan_yield ?_)
  simp only [sgLHTrGiven]
  go_wp2_with fail
  first | (refine ⟨rfl, _, .pointer (some ⟨w.heap.size, 0, none⟩), rfl, Or.inl ⟨by rfl, fun W hW => by go_simp⟩, plan_yield ?_⟩) | (refine ⟨rfl, .pointer (some ⟨w.heap.size, 0, none⟩), Or.inl ⟨by rfl, fun W hW => by go_simp⟩, plan_yield ?_⟩)
  simp only [Act.put, sgPHTrGiven]
  simp only [sgLHTrGiven]
  go_wp2_with fail
  first | (refine ⟨rfl, _, .int .i64 h, rfl, Or.inl ⟨by rfl, fun W hW => by have hW1 : W.cell? ⟨w.heap.size, 0, none⟩ = some (.int .i64 h) := (hW.cell 0).trans (va_at (trF h R) (by decide)); go_simp⟩, plan_yield ?_⟩) | (refine ⟨rfl, .int .i64 h, Or.inl ⟨by rfl, fun W hW => by have hW1 : W.cell? ⟨w.heap.size, 0, none⟩ = some (.int .i64 h) := (hW.cell 0).trans (va_at (trF h R) (by decide)); go_simp⟩, plan_yield ?_⟩)
  simp only [Act.put, sgPHTrGiven]
  simp only [sgLHTrGiven]
  go_wp2_with fail
  first | (refine ⟨rfl, _, .pointer (some ⟨w.heap.size, 1, none⟩), rfl, Or.inl ⟨by rfl, fun W hW => by go_simp⟩, plan_yield ?_⟩) | (refine ⟨rfl, .pointer (some ⟨w.heap.size, 1, none⟩), Or.inl ⟨by rfl, fun W hW => by go_simp⟩, plan_yield ?_⟩)
  simp only [Act.put, sgPHTrGiven]
  simp only [sgLHTrGiven]
  go_wp2_with fail
  first | (refine ⟨rfl, _, .agg (rfC R), rfl, kyields_load_at (by rfl) 31 _ (by rfl) w.heap.size 1 33 (rfF R.1 R.2) (by rfl) _ (fun W hW => tr_range hW) Tryz.underlying31 rfl rsizeRef, plan_force ?_⟩) | (refine ⟨rfl, .agg (rfC R), kyields_load_at (by rfl) 31 _ (by rfl) w.heap.size 1 33 (rfF R.1 R.2) (by rfl) _ (fun W hW => tr_range hW) Tryz.underlying31 rfl rsizeRef, plan_force ?_⟩)
  simp only [Act.put, sgPHTrGiven]
  simp only [sgLHTrGiven]
  go_wp2_with fail
  refine (lref_any R _).mono ?_
  rintro x w3 ⟨rfl, hb3⟩
  have k3 := k2.below hb3 k2.lt
  go_wp2_with fail
  refine ⟨rfl, hS.below hb3 hS.lt, plan_force ?_⟩
  simp only [sgLHTrGiven]
  refine tr_build2 (by rfl) 45 0 1 _ _ (by rfl) (.int .i64 h) (.agg (rfC R)) (by rfl) (by rfl) (trC h R) (by exact HBT.out) ?_
  simp only [Act.put, sgPHTrGiven]
  go_wp2_with fail
  refine ⟨rfl, hS.below hb3 hS.lt, plan_force ?_⟩
  simp only [sgLHTrGiven]
  refine wpList_store_row (by rfl) 45 _ _ (by rfl) (w.heap.size + 1) (trC h R) (by rfl) (by rfl) 45 _ k3 (sizeTr.trans (by rw [trC_size])) (by simp only [trC_size]) (trC_all _ _) ?_
  simp only [Act.put, sgPHTrGiven]
  go_wp2_with fail
  refine ⟨rfl, (hS.below hb3 hS.lt).other _ (by omega), plan_fin ?_⟩
  simp only [sgLHTrGiven]
  go_wp2_with fail
  refine ⟨rfl, ?_⟩
  go_wp2_with fail
  try simp only [Exit.inBlock, Exit.then]
  refine bodyPost_ret (results_cell_row Tryz.results9 _ _ (w.heap.size + 1) 45 (trC h R) (0, 0) _ rfl (k3.set _) Tryz.underlying45 rfl (sizeTr.trans (by rw [trC_size]))) rfl ?_
  exact ⟨rfl, below_setRow (hbd.trans (hb3.mono hbd.size)) (by omega) _⟩
set_option maxRecDepth 100000 in
set_option maxHeartbeats 4000000 in
theorem rright_lo (h : Int) (hh : h < 0) (R : Rf) (w : World) : Calls Tryz.prog 10 #[.agg (trC h R)] w fun x w' => x = .returned (.bool false) ∧ Below w.heap.size w w' := by
  have t1 : Blk (w.alloc (.cells (trC h R) 33)) w.heap.size 33 (trC h R) := Blk.new _ _ _
  have hb1 : Below w.heap.size w (w.alloc (.cells (trC h R) 33)) := below_new1 _ _
  have z1 : (w.alloc (.cells (trC h R) 33)).cell? ⟨w.heap.size, 0, none⟩ = some (.int .i64 h) := (t1.cell 0).trans (va_at (trF h R) (by decide))
  have HR : Hid ((w.alloc (.cells (trC h R) 33)).rangeAt w.heap.size 1 ((List.range 33).map (rfF R.1 R.2))) := tr_range t1
  have d1 : decide (0 ≤ h) = false := decide_eq_false (by omega)
  go_enter Tryz.func10, Tryz.ntmps10
  go_wp2_with fail
  go_ret
  exact ⟨rfl, hb1⟩
set_option maxRecDepth 100000 in
set_option maxHeartbeats 4000000 in
theorem rright_hi (h : Int) (hh : 6 < h) (R : Rf) (w : World) : Calls Tryz.prog 10 #[.agg (trC h R)] w fun x w' => x = .returned (.bool false) ∧ Below w.heap.size w w' := by
  have t1 : Blk (w.alloc (.cells (trC h R) 33)) w.heap.size 33 (trC h R) := Blk.new _ _ _
  have hb1 : Below w.heap.size w (w.alloc (.cells (trC h R) 33)) := below_new1 _ _
  have z1 : (w.alloc (.cells (trC h R) 33)).cell? ⟨w.heap.size, 0, none⟩ = some (.int .i64 h) := (t1.cell 0).trans (va_at (trF h R) (by decide))
  have HR : Hid ((w.alloc (.cells (trC h R) 33)).rangeAt w.heap.size 1 ((List.range 33).map (rfF R.1 R.2))) := tr_range t1
  have d1 : decide (0 ≤ h) = true := decide_eq_true (by omega)
  have d0 : 0 ≤ h := by omega
  have d2 : decide (h ≤ 6) = false := decide_eq_false (by omega)
  go_enter Tryz.func10, Tryz.ntmps10
  go_wp2_with fail
  go_ret
  exact ⟨rfl, hb1⟩
set_option maxRecDepth 100000 in
set_option maxHeartbeats 4000000 in
theorem rright_in (h : Int) (hh : 0 ≤ h ∧ h ≤ 6) (R : Rf) (w : World) : Calls Tryz.prog 10 #[.agg (trC h R)] w fun x w' => x = .returned (.bool (rOk R)) ∧ Below w.heap.size w w' := by
  have t1 : Blk (w.alloc (.cells (trC h R) 33)) w.heap.size 33 (trC h R) := Blk.new _ _ _
  have hb1 : Below w.heap.size w (w.alloc (.cells (trC h R) 33)) := below_new1 _ _
  have z1 : (w.alloc (.cells (trC h R) 33)).cell? ⟨w.heap.size, 0, none⟩ = some (.int .i64 h) := (t1.cell 0).trans (va_at (trF h R) (by decide))
  have HR : Hid ((w.alloc (.cells (trC h R) 33)).rangeAt w.heap.size 1 ((List.range 33).map (rfF R.1 R.2))) := tr_range t1
  obtain ⟨d0, d6⟩ := hh
  have d1 : decide (0 ≤ h) = true := decide_eq_true d0
  have d2 : decide (h ≤ 6) = true := decide_eq_true d6
  go_enter Tryz.func10, Tryz.ntmps10
  go_wp2_with (first
    | (refine tr_load_blkg (by rfl) 31 _ (by rfl) w.heap.size 1 33 (rfF R.1 R.2) (by rfl) _ (by exact HR.out) Tryz.underlying31 rfl rsizeRef ?_; simp only [Act.put, sgPHTrGiven])
    | fail)
  refine (rright_any R _).mono ?_
  rintro x w2 ⟨rfl, hb2⟩
  go_wp2_with fail
  go_ret
  exact ⟨rfl, hb1.trans (hb2.mono hb1.size)⟩
theorem rtright_any (h : Int) (R : Rf) (w : World) : Calls Tryz.prog 10 #[.agg (trC h R)] w fun x w' => x = .returned (.bool (decide (trOk h R))) ∧ Below w.heap.size w w' := by
  by_cases h0 : h < 0
  · rw [decide_eq_false (fun u : trOk h R => by have := u.2.1; omega)]
    exact rright_lo h h0 R w
  · by_cases h6 : 6 < h
    · rw [decide_eq_false (fun u : trOk h R => by have := u.2.2; omega)]
      exact rright_hi h h6 R w
    · have : decide (trOk h R) = rOk R := by
        cases hr : rOk R with
        | false => exact decide_eq_false fun u => by rw [u.1] at hr; cases hr
        | true => exact decide_eq_true ⟨hr, by omega, by omega⟩
      rw [this]
      exact rright_in h ⟨by omega, by omega⟩ R w
end Go.Proofs.YtiofonffmplfmaaGreat
