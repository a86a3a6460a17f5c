/- The statement FileShifts: its walk. -/
import Derived.Test.YtelgceaembmenaaGreatHInsMem
import Derived.Test.YtelgceaembmenaaGreatHGrNew
import Derived.Handy
import Derived.Test.YtelgceaembmenaaGreatHInsCalls
import Derived.Test.YtelgceaembmenaaGreatHCaKit
import Derived.Test.YtelgceaembmenaaGreatHNdAwake
import Derived.Test.YtelgceaembmenaaGreatHFlLayD
import Derived.Test.YtelgceaembmenaaGreatHIoChk

namespace Go.Proofs.YtelgceaembmenaaGreat
open Go Go.RowKit
set_option linter.unusedSimpArgs false
set_option linter.unusedVariables false
/-- a table that may be opened -/
def mayOpen (h : Int) (R : Rf) (high : Int) : Prop := (0 ≤ high ∧ high ≤ 4096) ∧ h = hL 4 high ∧ (decide (R = rf0) = decide (high = 0)) ∧ rOk R = true
theorem ti_c0 {w : World} {b t : Nat} {h : Int} {R : Rf} (H : Blk w b t (trC h R)) : w.cell? ⟨b, 0, none⟩ = some (.int .i64 h) := H.cv (n := 34) (by decide)
theorem wpList_build7 {P : Program} {ops : Array Oper} {rest : List Oper} {o : Oper} {a : Act} {w : World} {Q : Exit → Act → World → Prop} (hg : o.guard = none) (t : TypeId) (x0 x1 x2 x3 x4 x5 x6 : Operand) (ho : o.op = .build t #[(0, x0), (1, x1), (2, x2), (3, x3), (4, x4), (5, x5), (6, x6)]) (v0 v1 v2 v3 v4 v5 v6 : Value) (h0 : a.eval x0 = v0) (h1 : a.eval x1 = v1) (h2 : a.eval x2 = v2) (h3 : a.eval x3 = v3) (h4 : a.eval x4 = v4) (h5 : a.eval x5 = v5) (h6 : a.eval x6 = v6)
    (cells : Array Value) (hf : P.built t [(0, v0), (1, v1), (2, v2), (3, v3), (4, v4), (5, v5), (6, v6)] = some cells) (h : wpList P ops Q rest (a.put o.dst (.agg cells)) w) : wpList P ops Q (o :: rest) a w := by
  refine wpList_buildTo hg t _ ho o.dst rfl cells ?_ h
  have e : (Array.map (fun (x : Nat × Operand) => match x with | (i, x) => (i, a.eval x)) #[(0, x0), (1, x1), (2, x2), (3, x3), (4, x4), (5, x5), (6, x6)]).toList = [(0, v0), (1, v1), (2, v2), (3, v3), (4, v4), (5, v5), (6, v6)] := by simp [h0, h1, h2, h3, h4, h5, h6]
  rw [e]
  exact hf
section
variable {cp : Option Addr} {h : Int} {R : Rf} {high : Int}
set_option maxRecDepth 100000 in
set_option maxHeartbeats 4000000 in
theorem open_full (hR : R.1 < 4294967296) (hD : okD R.2) (hh : -9223372036854775808 ≤ high ∧ high ≤ 9223372036854775807) (hm : mayOpen h R high) (w : World) : Calls Tryz.prog 23 #[.pointer cp, .agg (trC h R), .int .i64 high] w fun e w' => ∃ x mf ml mc, e = .returned (.tuple #[.pointer (some ⟨x, 0, none⟩), .int .i64 0]) ∧ (w.heap.size ≤ x ∧ w.heap.size ≤ mf ∧ w.heap.size ≤ ml ∧ w.heap.size ≤ mc ∧ x ≠ mf) ∧ Blk w' x 84 (ixC cp h R high high mf ml mc) ∧ MapIs pkV ftV w' mf [] ∧ (mf < ml ∧ ml < mc ∧ mc < x ∧ w'.heap[mf]? = some (.map #[] 0) ∧ w'.heap[ml]? = some (.map #[] 0) ∧ w'.heap[mc]? = some (.map #[] 0)) ∧ Below w.heap.size w w' := by
  have HT := table_any high hh
  have hb1 : Below w.heap.size w (w.alloc (.cells (trC h R) 70)) := below_new1 _ _
  have t1 : Blk (w.alloc (.cells (trC h R) 70)) w.heap.size 70 (trC h R) := Blk.new _ _ _
  have c0 := ti_c0 t1
  have HR1 : Hid ((w.alloc (.cells (trC h R) 70)).rangeAt w.heap.size 1 ((List.range 33).map (rfF R.1 R.2))) := tr_range t1
  have HNo : Hid (∀ w, Calls Tryz.prog 44 #[.agg (rfC R)] w fun e w' => e = .returned (.bool (decide (R = rf0))) ∧ Below w.heap.size w w') := none_any R
  obtain ⟨hg, he, hz, hr⟩ := hm
  have HTT : Hid (∀ w : World, Calls Tryz.prog 43 #[.int .i64 high] w fun e w' => e = .returned (.tuple #[.int .i64 (hL 4 high), .int .i64 0]) ∧ w' = w) := fun w => by
    have := HT w
    rw [if_pos hg] at this
    exact this
  clear HT
  rw [← he] at HTT
  have hok : trOk h R := ⟨hr, by rw [he]; exact hL_lt 4 high⟩
  obtain ⟨nh, hnh⟩ : ∃ nh : Nat, h = (nh : Int) := ⟨h.toNat, by have := hok.2.1; omega⟩
  have HG : Hid (∀ w, Calls Tryz.prog 45 #[.pointer cp, .agg (trC h R)] w fun x w' => ∃ g, x = .returned (.tuple #[.pointer (some ⟨g, 0, none⟩), .int .i64 0]) ∧ Below w.heap.size w w') := fun w => (new_ok nh (4 ^ nh) rfl h hnh R hR hD hok cp w).mono fun e w' ⟨g, m, h1, _, _, _, _, h2⟩ => ⟨g, h1, h2⟩
  obtain ⟨bz, hbz⟩ : ∃ bz, decide (R = rf0) = bz := ⟨_, rfl⟩
  rw [hbz] at HNo hz
  clear hok hR hD he hg hh hbz hnh hr
  by_cases h0 : high = 0
  · subst h0
    rw [decide_eq_true rfl] at hz
    subst hz
    go_enter Tryz.func23, Tryz.ntmps23
    go_wp2_with fail
    generalize (w.alloc (.cells (trC h R) 70)) = w1 at *
    refine (HTT.out _).mono ?_
    rintro e w2 ⟨rfl, hw2⟩
    subst hw2
    go_wp2_with (first
      | (refine wpList_load_blkI (by rfl) 68 _ (by rfl) (w.heap.size) (1) 33 (rfF R.1 R.2) (by rfl) _ (by exact HR1.out) Tryz.underlying68 rfl tsizeRef ?_; simp only [Act.put, List.setIfInBounds_toArray, List.set_cons_zero, List.set_cons_succ])
      | fail)
    refine (HNo.out _).mono ?_
    rintro e w3 ⟨rfl, hb3⟩
    have t3 := t1.below hb3 t1.lt
    have hb13 := hb1.trans (hb3.mono hb1.size)
    clear hb3 t1 hb1 HNo HTT HR1 c0
    go_wp2_with (first
      | (refine wpList_load_rowg (by rfl) 70 _ (by rfl) (w.heap.size) (by rfl) 70 (trC h R) (0, 0) _ (by exact t3) Tryz.underlying70 (by rfl) (sizeTr.trans (by rw [trC_size])) ?_; simp only [Act.put, List.setIfInBounds_toArray, List.set_cons_zero, List.set_cons_succ])
      | fail)
    refine (HG.out _).mono ?_
    rintro e w4 ⟨g4, rfl, hb4⟩
    have hb14 := hb13.trans (hb4.mono hb13.size)
    have t4 := t3.below hb4 t3.lt
    clear hb4 hb13 t3 HG
    have hmm := @run_makeMap Tryz.prog
    have hbt := built_ix cp h R 0 0 w4.heap.size (w4.heap.size + 1) (w4.heap.size + 1 + 1)
    go_wp2_with (first
      | (refine wpList_load_rowg (by rfl) 70 _ (by rfl) (w.heap.size) (by rfl) 70 (trC h R) (0, 0) _ (by exact t4) Tryz.underlying70 (by rfl) (sizeTr.trans (by rw [trC_size])) ?_; simp only [Act.put, List.setIfInBounds_toArray, List.set_cons_zero, List.set_cons_succ])
      | (refine wpList_build7 (by rfl) 84 _ _ _ _ _ _ _ (by rfl) _ _ _ _ _ _ _ (by rfl) (by rfl) (by rfl) (by rfl) (by rfl) (by rfl) (by rfl) (ixC cp h R 0 0 w4.heap.size (w4.heap.size + 1) (w4.heap.size + 1 + 1)) (by exact hbt) ?_; simp only [Act.put, List.setIfInBounds_toArray, List.set_cons_zero, List.set_cons_succ])
      | fail)
    refine bodyPost_ret (results_tmp2 Tryz.results23 _ _ _) rfl ?_
    have hx5 := Blk.new (((w4.alloc (.map #[] 0)).alloc (.map #[] 0)).alloc (.map #[] 0)) 84 (ixC cp h R 0 0 w4.heap.size (w4.heap.size + 1) (w4.heap.size + 1 + 1))
    rw [show (((w4.alloc (.map #[] 0)).alloc (.map #[] 0)).alloc (.map #[] 0)).heap.size = w4.heap.size + 1 + 1 + 1 by simp] at hx5
    have hs := hb14.size
    have hb1 : Below (w4.heap.size + 1) (w4.alloc (.map #[] 0)) (w4.alloc (.map #[] 0)) := Below.refl _ _
    have hb5 : Below (w4.heap.size + 1) (w4.alloc (.map #[] 0)) ((((w4.alloc (.map #[] 0)).alloc (.map #[] 0)).alloc (.map #[] 0)).alloc (.cells (ixC cp h R 0 0 w4.heap.size (w4.heap.size + 1) (w4.heap.size + 1 + 1)) 84)) := ((hb1.alloc (by simp) _).alloc (by simp) _).alloc (by simp) _
    have hm0 : MapIs pkV ftV (w4.alloc (.map #[] 0)) w4.heap.size [] := ⟨#[], 0, heap_alloc_new _ _, rfl⟩
    have hm1 : ((w4.alloc (.map #[] 0)).alloc (.map #[] 0)).heap[w4.heap.size + 1]? = some (.map #[] 0) := by
      have := heap_alloc_new (w4.alloc (.map #[] 0)) (.map #[] 0)
      rw [show (w4.alloc (.map #[] 0)).heap.size = w4.heap.size + 1 by simp] at this
      exact this
    have hm2 : (((w4.alloc (.map #[] 0)).alloc (.map #[] 0)).alloc (.map #[] 0)).heap[w4.heap.size + 1 + 1]? = some (.map #[] 0) := by
      have := heap_alloc_new ((w4.alloc (.map #[] 0)).alloc (.map #[] 0)) (.map #[] 0)
      rw [show ((w4.alloc (.map #[] 0)).alloc (.map #[] 0)).heap.size = w4.heap.size + 1 + 1 by simp] at this
      exact this
    have hb6 : Below (w4.heap.size + 1 + 1) ((w4.alloc (.map #[] 0)).alloc (.map #[] 0)) ((((w4.alloc (.map #[] 0)).alloc (.map #[] 0)).alloc (.map #[] 0)).alloc (.cells (ixC cp h R 0 0 w4.heap.size (w4.heap.size + 1) (w4.heap.size + 1 + 1)) 84)) := ((Below.refl _ _).alloc (by simp) _).alloc (by simp) _
    have hb7 : Below (w4.heap.size + 1 + 1 + 1) (((w4.alloc (.map #[] 0)).alloc (.map #[] 0)).alloc (.map #[] 0)) ((((w4.alloc (.map #[] 0)).alloc (.map #[] 0)).alloc (.map #[] 0)).alloc (.cells (ixC cp h R 0 0 w4.heap.size (w4.heap.size + 1) (w4.heap.size + 1 + 1)) 84)) := (Below.refl _ _).alloc (by simp) _
    exact ⟨_, _, _, _, rfl, ⟨by omega, by omega, by omega, by omega, by omega⟩, hx5, hm0.below hb5 (by omega), ⟨by omega, by omega, by omega, (hb5.block _ (by omega)).trans (heap_alloc_new _ _), (hb6.block _ (by omega)).trans hm1, (hb7.block _ (by omega)).trans hm2⟩, hb14.trans ((((((Below.refl _ _).alloc hs _).alloc (by simp; omega) _).alloc (by simp; omega) _).alloc (by simp; omega) _))⟩
  · have hq0 : (high == 0) = false := by simp [h0]
    rw [decide_eq_false h0] at hz
    subst hz
    go_enter Tryz.func23, Tryz.ntmps23
    go_wp2_with fail
    generalize (w.alloc (.cells (trC h R) 70)) = w1 at *
    refine (HTT.out _).mono ?_
    rintro e w2 ⟨rfl, hw2⟩
    subst hw2
    go_wp2_with (first
      | (refine wpList_load_blkI (by rfl) 68 _ (by rfl) (w.heap.size) (1) 33 (rfF R.1 R.2) (by rfl) _ (by exact HR1.out) Tryz.underlying68 rfl tsizeRef ?_; simp only [Act.put, List.setIfInBounds_toArray, List.set_cons_zero, List.set_cons_succ])
      | fail)
    refine (HNo.out _).mono ?_
    rintro e w3 ⟨rfl, hb3⟩
    have t3 := t1.below hb3 t1.lt
    have hb13 := hb1.trans (hb3.mono hb1.size)
    clear hb3 t1 hb1 HNo HTT HR1 c0
    go_wp2_with (first
      | (refine wpList_load_rowg (by rfl) 70 _ (by rfl) (w.heap.size) (by rfl) 70 (trC h R) (0, 0) _ (by exact t3) Tryz.underlying70 (by rfl) (sizeTr.trans (by rw [trC_size])) ?_; simp only [Act.put, List.setIfInBounds_toArray, List.set_cons_zero, List.set_cons_succ])
      | fail)
    refine (HG.out _).mono ?_
    rintro e w4 ⟨g4, rfl, hb4⟩
    have hb14 := hb13.trans (hb4.mono hb13.size)
    have t4 := t3.below hb4 t3.lt
    clear hb4 hb13 t3 HG
    have hmm := @run_makeMap Tryz.prog
    have hbt := built_ix cp h R high high w4.heap.size (w4.heap.size + 1) (w4.heap.size + 1 + 1)
    go_wp2_with (first
      | (refine wpList_load_rowg (by rfl) 70 _ (by rfl) (w.heap.size) (by rfl) 70 (trC h R) (0, 0) _ (by exact t4) Tryz.underlying70 (by rfl) (sizeTr.trans (by rw [trC_size])) ?_; simp only [Act.put, List.setIfInBounds_toArray, List.set_cons_zero, List.set_cons_succ])
      | (refine wpList_build7 (by rfl) 84 _ _ _ _ _ _ _ (by rfl) _ _ _ _ _ _ _ (by rfl) (by rfl) (by rfl) (by rfl) (by rfl) (by rfl) (by rfl) (ixC cp h R high high w4.heap.size (w4.heap.size + 1) (w4.heap.size + 1 + 1)) (by exact hbt) ?_; simp only [Act.put, List.setIfInBounds_toArray, List.set_cons_zero, List.set_cons_succ])
      | fail)
    refine bodyPost_ret (results_tmp2 Tryz.results23 _ _ _) rfl ?_
    have hx5 := Blk.new (((w4.alloc (.map #[] 0)).alloc (.map #[] 0)).alloc (.map #[] 0)) 84 (ixC cp h R high high w4.heap.size (w4.heap.size + 1) (w4.heap.size + 1 + 1))
    rw [show (((w4.alloc (.map #[] 0)).alloc (.map #[] 0)).alloc (.map #[] 0)).heap.size = w4.heap.size + 1 + 1 + 1 by simp] at hx5
    have hs := hb14.size
    have hb1 : Below (w4.heap.size + 1) (w4.alloc (.map #[] 0)) (w4.alloc (.map #[] 0)) := Below.refl _ _
    have hb5 : Below (w4.heap.size + 1) (w4.alloc (.map #[] 0)) ((((w4.alloc (.map #[] 0)).alloc (.map #[] 0)).alloc (.map #[] 0)).alloc (.cells (ixC cp h R high high w4.heap.size (w4.heap.size + 1) (w4.heap.size + 1 + 1)) 84)) := ((hb1.alloc (by simp) _).alloc (by simp) _).alloc (by simp) _
    have hm0 : MapIs pkV ftV (w4.alloc (.map #[] 0)) w4.heap.size [] := ⟨#[], 0, heap_alloc_new _ _, rfl⟩
    have hm1 : ((w4.alloc (.map #[] 0)).alloc (.map #[] 0)).heap[w4.heap.size + 1]? = some (.map #[] 0) := by
      have := heap_alloc_new (w4.alloc (.map #[] 0)) (.map #[] 0)
      rw [show (w4.alloc (.map #[] 0)).heap.size = w4.heap.size + 1 by simp] at this
      exact this
    have hm2 : (((w4.alloc (.map #[] 0)).alloc (.map #[] 0)).alloc (.map #[] 0)).heap[w4.heap.size + 1 + 1]? = some (.map #[] 0) := by
      have := heap_alloc_new ((w4.alloc (.map #[] 0)).alloc (.map #[] 0)) (.map #[] 0)
      rw [show ((w4.alloc (.map #[] 0)).alloc (.map #[] 0)).heap.size = w4.heap.size + 1 + 1 by simp] at this
      exact this
    have hb6 : Below (w4.heap.size + 1 + 1) ((w4.alloc (.map #[] 0)).alloc (.map #[] 0)) ((((w4.alloc (.map #[] 0)).alloc (.map #[] 0)).alloc (.map #[] 0)).alloc (.cells (ixC cp h R high high w4.heap.size (w4.heap.size + 1) (w4.heap.size + 1 + 1)) 84)) := ((Below.refl _ _).alloc (by simp) _).alloc (by simp) _
    have hb7 : Below (w4.heap.size + 1 + 1 + 1) (((w4.alloc (.map #[] 0)).alloc (.map #[] 0)).alloc (.map #[] 0)) ((((w4.alloc (.map #[] 0)).alloc (.map #[] 0)).alloc (.map #[] 0)).alloc (.cells (ixC cp h R high high w4.heap.size (w4.heap.size + 1) (w4.heap.size + 1 + 1)) 84)) := (Below.refl _ _).alloc (by simp) _
    exact ⟨_, _, _, _, rfl, ⟨by omega, by omega, by omega, by omega, by omega⟩, hx5, hm0.below hb5 (by omega), ⟨by omega, by omega, by omega, (hb5.block _ (by omega)).trans (heap_alloc_new _ _), (hb6.block _ (by omega)).trans hm1, (hb7.block _ (by omega)).trans hm2⟩, hb14.trans ((((((Below.refl _ _).alloc hs _).alloc (by simp; omega) _).alloc (by simp; omega) _).alloc (by simp; omega) _))⟩
end
end Go.Proofs.YtelgceaembmenaaGreat

namespace Go.Proofs.YtelgceaembmenaaGreat
open Go Go.RowKit
set_option linter.unusedSimpArgs false
set_option linter.unusedVariables false
theorem may00 : mayOpen 0 rf0 0 := ⟨by decide, by decide, by simp, by decide⟩
end Go.Proofs.YtelgceaembmenaaGreat

namespace Go.Proofs.YtelgceaembmenaaGreat
open Go Go.RowKit
set_option linter.unusedSimpArgs false
set_option linter.unusedVariables false
theorem open_im (cp : Option Addr) (w : World) : Calls Tryz.prog 23 #[.pointer cp, .agg (trC 0 rf0), .int .i64 0] w fun e w' => ∃ x mf ml mc, e = .returned (.tuple #[.pointer (some ⟨x, 0, none⟩), .int .i64 0]) ∧ (w.heap.size ≤ x ∧ w.heap.size ≤ mf ∧ w.heap.size ≤ ml ∧ w.heap.size ≤ mc) ∧ IM w' x mf ml mc cp 0 (fun _ => hd00) (fun _ _ _ => 0) ∧ Below w.heap.size w w' := by
  refine (open_full (by decide) okD_zero (by decide) may00 w).mono ?_
  rintro e w' ⟨x, mf, ml, mc, h1, h2, h3, h4, h5, h6⟩
  refine ⟨x, mf, ml, mc, h1, ⟨h2.1, h2.2.1, h2.2.2.1, h2.2.2.2.1⟩, ⟨h3, ⟨fun _ => none, MapFn.new h5.2.2.2.1, fun i _ p _ => rfl⟩, ⟨fun _ => none, MapFn.new h5.2.2.2.2.1, fun n p j _ => rfl⟩, ⟨0, h5.2.2.2.2.2⟩, ?_⟩, h6⟩
  omega
end Go.Proofs.YtelgceaembmenaaGreat

namespace Go.Proofs.YtelgceaembmenaaGreat
open Go Go.RowKit
set_option linter.unusedSimpArgs false
set_option linter.unusedVariables false
/-- a directory and a file, as they are made -/
def bgH : Nat → Hd := hU (hU (fun _ => hd00) 1 (hdN hd00 1 2 1 0 1)) 2 (hdN hd00 2 1 1 0 1)
def bgD : Nat → Nat → Nat → Nat := fun _ _ _ => 0
theorem bg_file : Fi bgH bgD 2 0 1 (fun _ => 0) := ⟨by decide, by decide, rfl, rfl, rfl, rfl, rfl, rfl, by decide, fun q i hi => by rw [if_neg (by omega)]; rfl⟩
/-- inodes that were begun -/
def Beg (w w' : World) (x mf ml mc : Nat) (cp : Option Addr) : Prop := (w.heap.size ≤ x ∧ w.heap.size ≤ mf ∧ w.heap.size ≤ ml ∧ w.heap.size ≤ mc) ∧ IM w' x mf ml mc cp 2 bgH bgD ∧ Below w.heap.size w w'
set_option maxRecDepth 100000 in
set_option maxHeartbeats 4000000 in
theorem begun_any (w : World) : Calls Tryz.prog 6 #[] w fun e w' => ∃ x mf ml mc cp, e = .returned (.tuple #[.pointer (some ⟨x, 0, none⟩), .int .i64 2, .bool true]) ∧ Beg w w' x mf ml mc cp := by
  have hbt := built_tr0
  have HN : Hid (∀ w : World, Calls Tryz.prog 20 #[.int .i64 64] w fun e w' => ∃ g, e = .returned (.tuple #[.pointer (some ⟨g, 0, none⟩), .int .i64 0]) ∧ Below w.heap.size w w') := fun w => (diskNew_any 64 (by decide) (by decide) w).mono fun e w' ⟨g, q, h1, _, _, h2⟩ => ⟨g, h1, h2⟩
  have HG : Hid (∀ w : World, Calls Tryz.prog 22 #[] w fun e w' => ∃ g, e = .returned (.pointer (some ⟨g, 0, none⟩)) ∧ Below w.heap.size w w') := fun w => (newLog_any w).mono fun e w' ⟨g, r, h1, _, _, _, h2⟩ => ⟨g, h1, h2⟩
  have HC : Hid (∀ (g l : Nat) (w : World), Calls Tryz.prog 21 #[.pointer (some ⟨g, 0, none⟩), .pointer (some ⟨l, 0, none⟩), .int .i64 16] w fun e w' => ∃ c, e = .returned (.tuple #[.pointer (some ⟨c, 0, none⟩), .int .i64 0]) ∧ Below w.heap.size w w') := fun g l w => (caNew_ok g (some ⟨l, 0, none⟩) 16 (by decide) (by decide) w).mono fun e w' ⟨c, m, h1, _, _, _, h2⟩ => ⟨c, h1, h2⟩
  have HO : Hid (∀ (c : Nat) (w : World), Calls Tryz.prog 23 #[.pointer (some ⟨c, 0, none⟩), .agg (trC 0 rf0), .int .i64 0] w fun e w' => ∃ x mf ml mc, e = .returned (.tuple #[.pointer (some ⟨x, 0, none⟩), .int .i64 0]) ∧ (w.heap.size ≤ x ∧ w.heap.size ≤ mf ∧ w.heap.size ≤ ml ∧ w.heap.size ≤ mc) ∧ IM w' x mf ml mc (some ⟨c, 0, none⟩) 0 (fun _ => hd00) (fun _ _ _ => 0) ∧ Below w.heap.size w w') := fun c w => open_im (some ⟨c, 0, none⟩) w
  go_enter Tryz.func6, Tryz.ntmps6
  go_wp2_with fail
  refine (HN.out _).mono ?_
  rintro e w2 ⟨d, rfl, hb2⟩
  go_wp2_with fail
  refine (HG.out _).mono ?_
  rintro e w3 ⟨l, rfl, hb3⟩
  have hb13 := hb2.trans (hb3.mono hb2.size)
  clear hb2 hb3 HN HG
  go_wp2_with fail
  refine (HC.out _ _ _).mono ?_
  rintro e w4 ⟨c, rfl, hb4⟩
  have hb14 := hb13.trans (hb4.mono hb13.size)
  clear hb13 hb4 HC
  go_wp2_with (first
    | (refine wpList_buildTo (by rfl) 70 #[] (by rfl) _ rfl (trC 0 rf0) (by exact hbt) ?_; simp only [Act.put, List.setIfInBounds_toArray, List.set_cons_zero, List.set_cons_succ])
    | fail)
  refine (HO.out _ _).mono ?_
  rintro e w5 ⟨x, mf, ml, mc, rfl, hbs, hI5, hb5⟩
  have hb15 := hb14.trans (hb5.mono hb14.size)
  have hz := hb14.size
  have HX : Hid (w.heap.size ≤ x ∧ w.heap.size ≤ mf ∧ w.heap.size ≤ ml ∧ w.heap.size ≤ mc) := ⟨by omega, by omega, by omega, by omega⟩
  have HM1 := hI5.make 1 (by decide) (by decide) rfl (fun m h1 h2 => absurd h2 (by omega)) 2 (.inr rfl) 1 (by decide)
  have HB15 : Hid (Below w.heap.size w w5) := hb15
  clear hb14 hb5 hb15 HO hI5 hbt hbs
  go_wp2_with fail
  refine HM1.mono ?_
  rintro e w6 ⟨rfl, hI6, ht6⟩
  have HM2 := hI6.make 2 (by decide) (by decide) rfl (fun m h1 h2 => by
    have : m = 1 := by omega
    subst this
    decide) 1 (.inl rfl) 1 (by decide)
  have HT6 : Hid (Turns (fun z => z = x ∨ z = mf) w5 w6) := ht6
  clear HM1 hI6 ht6
  go_wp2_with fail
  refine HM2.mono ?_
  rintro e w7 ⟨rfl, hI7, ht7⟩
  have HE : Hid (Beg w w7 x mf ml mc (some ⟨c, 0, none⟩)) := by
    refine ⟨HX.out, hI7, ?_⟩
    have t7 := HT6.out.tr ht7
    have := HX.out
    exact HB15.out.trans (t7.below HB15.out.size (fun b hb => by rcases hb with rfl | rfl; exact this.1; exact this.2.1))
  clear HM2 hI7 ht7
  go_wp2_with fail
  go_ret3
  exact ⟨x, mf, ml, mc, _, rfl, HE.out⟩
end Go.Proofs.YtelgceaembmenaaGreat

namespace Go.Proofs.YtelgceaembmenaaGreat
open Go Go.RowKit
set_option linter.unusedSimpArgs false
set_option linter.unusedVariables false
theorem wrF_lt {F : Nat → Nat} {o : Nat} (hF : ∀ p, p < o → F p < 256) (s : ByteArray) (a p : Nat) : wrF F o s a p < 256 := by
  unfold wrF
  split
  · exact tbyte_lt _ _
  · split
    · rename_i h
      exact hF p h
    · decide
set_option maxRecDepth 100000 in
set_option maxHeartbeats 4000000 in
theorem awake16_any (w : World) : Calls Tryz.prog 7 #[] w fun e w' => e = .returned (.bool true) ∧ Below w.heap.size w w' := by
  have HB := begun_any w
  go_enter Tryz.func7, Tryz.ntmps7
  go_wp2_with fail
  refine HB.mono ?_
  rintro e w1 ⟨x, mf, ml, mc, cp, rfl, hx, hI, hb1⟩
  have HW := hI.writeOk bg_file 300 1 ⟨#[97, 98]⟩ (by decide) (by decide)
  have HX : Hid (w.heap.size ≤ x ∧ w.heap.size ≤ mf ∧ w.heap.size ≤ ml ∧ w.heap.size ≤ mc) := hx
  have HB1 : Hid (Below w.heap.size w w1) := hb1
  clear HB hI hb1 hx
  go_wp2_with fail
  refine HW.mono ?_
  rintro e w2 ⟨rfl, ⟨H', D', hI2, hf2, _⟩, hT2⟩
  have HR := hI2.readF hf2 (fun p _ => wrF_lt (fun p hp => absurd hp (by omega)) _ _ _) 299 9 (by decide) (by decide)
  have hs : strN (fun j => wrF (fun _ => 0) 0 ⟨#[97, 98]⟩ 300 (299 + j)) (thN (max 0 (300 + (⟨#[97, 98]⟩ : ByteArray).size)) 299 9) = ⟨#[0, 97, 98]⟩ := by decide
  rw [hs] at HR
  have HE : Hid (Below w.heap.size w w2) := by
    have := HX.out
    exact HB1.out.trans (hT2.below HB1.out.size (fun b hb => by rcases hb with rfl | rfl; exact this.2.2.1; exact this.2.1))
  clear HW hI2 hf2 hT2 hs
  go_wp2_with fail
  refine HR.mono ?_
  rintro e w3 ⟨rfl, hb3⟩
  have HE3 : Hid (Below w.heap.size w w3) := HE.out.trans (hb3.mono HE.out.size)
  clear HR hb3
  go_wp2_with fail
  go_ret
  exact ⟨rfl, HE3.out⟩
end Go.Proofs.YtelgceaembmenaaGreat

namespace Go.Proofs.YtelgceaembmenaaGreat
open Go Go.RowKit
set_option linter.unusedSimpArgs false
set_option linter.unusedVariables false
/-- the file 2 has z bytes G -/
def FB (w V : World) (x mf ml mc : Nat) (cp : Option Addr) (z : Nat) (G : Nat → Nat) : Prop := ∃ H D st, IM V x mf ml mc cp 2 H D ∧ Fi H D 2 z st G ∧ (∀ p, p < z → G p < 256) ∧ (w.heap.size ≤ ml ∧ w.heap.size ≤ mf) ∧ Below w.heap.size w V
/-- bytes put in -/
def isF (G : Nat → Nat) (a : Nat) (t : ByteArray) : Nat → Nat := fun p => if p < a then G p else if p < a + t.size then tbyte t (p - a) else G (p - t.size)
section
variable {w V : World} {x mf ml mc : Nat} {cp : Option Addr} {z : Nat} {G : Nat → Nat}
theorem FB.bel (h : FB w V x mf ml mc cp z G) : Below w.heap.size w V := by
  obtain ⟨H, D, st, _, _, _, _, hb⟩ := h
  exact hb
theorem FB.below {V' : World} (h : FB w V x mf ml mc cp z G) (hb : Below V.heap.size V V') : FB w V' x mf ml mc cp z G := by
  obtain ⟨H, D, st, h1, h2, h3, h4, h5⟩ := h
  exact ⟨H, D, st, h1.below hb, h2, h3, h4, h5.trans (hb.mono h5.size)⟩
theorem FB.of_now {V' : World} {H D} {z' s' : Nat} {G' K : Nat → Nat} (h4 : w.heap.size ≤ ml ∧ w.heap.size ≤ mf) (h5 : Below w.heap.size w V) (hN : Now V' x mf ml mc cp 2 H D 2 z' s' G') (ht : Turns (fun z => z = ml ∨ z = mf) V V') (hK : ∀ p, p < z' → K p = G' p) (hl : ∀ p, p < z' → K p < 256) : FB w V' x mf ml mc cp z' K := by
  obtain ⟨H', D', h1, h2, _⟩ := hN
  exact ⟨H', D', s', h1, h2.congr hK, hl, h4, h5.trans (ht.below h5.size (fun b hb => by rcases hb with rfl | rfl; exact h4.1; exact h4.2))⟩
theorem FB.start (h : Beg w V x mf ml mc cp) : FB w V x mf ml mc cp 0 (fun _ => 0) := ⟨bgH, bgD, 1, h.2.1, bg_file, fun p hp => absurd hp (Nat.not_lt_zero _), ⟨h.1.2.2.1, h.1.2.1⟩, h.2.2⟩
theorem FB.write (h : FB w V x mf ml mc cp 0 G) (s : ByteArray) (hs : s.size ≤ 20000) : Calls Tryz.prog 9 #[.pointer (some ⟨x, 0, none⟩), .int .i64 2, .int .i64 0, .string s, .int .u64 1] V fun e w' => (∃ k : Int, e = .returned (.tuple #[.int .i64 k, .int .i64 0])) ∧ FB w w' x mf ml mc cp s.size (tbyte s) := by
  obtain ⟨H, D, st, hI, hf, hG, h4, h5⟩ := h
  by_cases h0 : s.size = 0
  · obtain rfl := empty_text h0
    refine (hI.writeNone hf 0 1 (by decide)).mono ?_
    rintro e w' ⟨rfl, hb⟩
    exact ⟨⟨_, rfl⟩, H, D, st, hI.below hb, hf.congr (fun p hp => absurd hp (Nat.not_lt_zero _)), fun p hp => absurd hp (Nat.not_lt_zero _), h4, h5.trans (hb.mono h5.size)⟩
  · refine (hI.writeOk hf 0 1 s (by omega) (by omega)).mono ?_
    rintro e w' ⟨rfl, hN, ht⟩
    rw [show max 0 (0 + s.size) = s.size by omega] at hN
    refine ⟨⟨_, rfl⟩, FB.of_now h4 h5 hN ht (fun p hp => ?_) (fun p _ => tbyte_lt _ _)⟩
    unfold wrF
    rw [if_pos (by omega), Nat.sub_zero]
theorem isF_lt (hG : ∀ p, p < z → G p < 256) (a : Nat) (ha : a ≤ z) (t : ByteArray) (p : Nat) (hp : p < z + t.size) : isF G a t p < 256 := by
  unfold isF
  by_cases c1 : p < a
  · rw [if_pos c1]; exact hG p (by omega)
  · rw [if_neg c1]
    by_cases c2 : p < a + t.size
    · rw [if_pos c2]; exact tbyte_lt _ _
    · rw [if_neg c2]; exact hG _ (by omega)
theorem FB.insert (h : FB w V x mf ml mc cp z G) (hz : z ≤ 20000) (a : Nat) (ha : a ≤ z) (t : ByteArray) (ht : t.size ≤ 20000) : Calls Tryz.prog 16 #[.pointer (some ⟨x, 0, none⟩), .int .i64 2, .int .i64 (a : Int), .string t, .int .u64 2] V fun e w' => e = .returned (.int .i64 0) ∧ FB w w' x mf ml mc cp (z + t.size) (isF G a t) := by
  obtain ⟨H, D, st, hI, hf, hG, h4, h5⟩ := h
  by_cases h0 : t.size = 0
  · obtain rfl := empty_text h0
    refine (hI.insertNone hf a 2 ha).mono ?_
    rintro e w' ⟨rfl, hb⟩
    refine ⟨rfl, H, D, st, hI.below hb, hf.congr (fun p hp => ?_), fun p hp => isF_lt hG a ha _ p hp, h4, h5.trans (hb.mono h5.size)⟩
    unfold isF
    have e0 : (⟨#[]⟩ : ByteArray).size = 0 := rfl
    rw [e0]
    by_cases c1 : p < a
    · rw [if_pos c1]
    · rw [if_neg c1, if_neg (by omega), Nat.sub_zero]
  · refine (hI.insertOk hf hG t a 2 (by omega) ha (by omega)).mono ?_
    rintro e w' ⟨rfl, hN, hT⟩
    refine ⟨rfl, FB.of_now h4 h5 hN hT (fun p hp => ?_) (fun p hp => isF_lt hG a ha t p hp)⟩
    have hzz : (t ++ strN (fun j => G (a + j)) (z - a)).size = t.size + (z - a) := by rw [ByteArray.size_append, strN_size]
    unfold isF wrF
    rw [hzz]
    by_cases c1 : p < a
    · rw [if_pos c1, if_neg (by omega), if_pos (by omega)]
    · have cc : a ≤ p ∧ p < a + (t.size + (z - a)) := by omega
      rw [if_neg c1, if_pos cc]
      by_cases c2 : p < a + t.size
      · rw [if_pos c2, tbyte_append, if_pos (by omega)]
      · rw [if_neg c2, tbyte_append, if_neg (by omega), strN_at _ _ _ (by omega) (by exact hG _ (by omega))]
        congr 1
        omega
theorem FB.find (h : FB w V x mf ml mc cp z G) (t : ByteArray) (ht : t.size ≤ 20000) : Calls Tryz.prog 12 #[.pointer (some ⟨x, 0, none⟩), .int .i64 2, .int .i64 0, .string t] V fun e w' => ∃ re, e = .returned (.tuple #[.int .i64 re, .int .i64 0]) ∧ FnK t G z 0 re ∧ FB w w' x mf ml mc cp z G := by
  have h0 := h
  obtain ⟨H, D, st, hI, hf, hG, h4, h5⟩ := h
  refine (hI.findF hf t (by omega) 0 (by decide)).mono ?_
  rintro e w' ⟨⟨re, rfl, hre⟩, hb⟩
  exact ⟨re, rfl, hre, h0.below hb⟩
theorem FB.read (h : FB w V x mf ml mc cp z G) (a m : Nat) (ha : a ≤ 9223372036854775807) (hm : m ≤ 9223372036854775807) (r : ByteArray) (hr : strN (fun j => G (a + j)) (thN z a m) = r) : Calls Tryz.prog 18 #[.pointer (some ⟨x, 0, none⟩), .int .i64 2, .int .i64 (a : Int), .int .i64 (m : Int)] V fun e w' => e = .returned (.tuple #[.string r, .int .i64 0]) ∧ FB w w' x mf ml mc cp z G := by
  have h0 := h
  obtain ⟨H, D, st, hI, hf, hG, h4, h5⟩ := h
  subst hr
  refine (hI.readF hf hG a m ha hm).mono ?_
  rintro e w' ⟨rfl, hb⟩
  exact ⟨rfl, h0.below hb⟩
theorem FB.size (h : FB w V x mf ml mc cp z G) : Calls Tryz.prog 17 #[.pointer (some ⟨x, 0, none⟩), .int .i64 2] V fun e w' => e = .returned (.tuple #[.int .i64 (z : Int), .int .i64 0]) ∧ FB w w' x mf ml mc cp z G := by
  have h0 := h
  obtain ⟨H, D, st, hI, hf, hG, h4, h5⟩ := h
  refine (hI.sizeF hf).mono ?_
  rintro e w' ⟨rfl, hb⟩
  exact ⟨rfl, h0.below hb⟩
theorem FB.insertBad (h : FB w V x mf ml mc cp z G) (a : Int) (hb : a < 0 ∨ (z : Int) < a) (t : ByteArray) : Calls Tryz.prog 16 #[.pointer (some ⟨x, 0, none⟩), .int .i64 2, .int .i64 a, .string t, .int .u64 2] V fun e w' => e = .returned (.int .i64 1) ∧ FB w w' x mf ml mc cp z G := by
  have h0 := h
  obtain ⟨H, D, st, hI, hf, hG, h4, h5⟩ := h
  refine (hI.insertBad hf a hb t 2).mono ?_
  rintro e w' ⟨rfl, hb⟩
  exact ⟨rfl, h0.below hb⟩
theorem FB.remove {t : ByteArray} {a : Nat} (h : FB w V x mf ml mc cp (z + t.size) (isF G a t)) (hGz : ∀ p, p < z → G p < 256) (ha : a ≤ z) (hz : z ≤ 20000) (ht : t.size ≤ 20000) : Calls Tryz.prog 19 #[.pointer (some ⟨x, 0, none⟩), .int .i64 2, .int .i64 (a : Int), .int .i64 (t.size : Int), .int .u64 3] V fun e w' => e = .returned (.tuple #[.int .i64 (t.size : Int), .int .i64 0]) ∧ FB w w' x mf ml mc cp z G := by
  have h0' := h
  obtain ⟨H, D, st, hI, hf, hG, h4, h5⟩ := h
  have hk : thN (z + t.size) a t.size = t.size := by unfold thN; omega
  by_cases h0 : t.size = 0
  · refine (hI.removeNone hf a t.size 3 (by omega) (by omega) (by rw [hk, h0])).mono ?_
    rintro e w' ⟨rfl, hb⟩
    refine ⟨by rw [h0]; rfl, H, D, st, hI.below hb, ?_, hGz, h4, h5.trans (hb.mono h5.size)⟩
    have hf' := hf
    rw [h0, Nat.add_zero] at hf'
    refine hf'.congr fun p hp => ?_
    unfold isF
    rw [h0]
    by_cases c1 : p < a
    · rw [if_pos c1]
    · rw [if_neg c1, if_neg (by omega), Nat.sub_zero]
  · refine (hI.removeOk hf hG a t.size t.size 3 (by omega) (by omega) hk h0).mono ?_
    rintro e w' ⟨rfl, hN, hT⟩
    rw [show z + t.size - t.size = z by omega] at hN
    refine ⟨rfl, FB.of_now h4 h5 hN hT (fun p hp => ?_) hGz⟩
    unfold wrF
    rw [strN_size]
    by_cases c1 : p < a
    · rw [if_neg (by omega), if_pos (by omega)]
      unfold isF
      rw [if_pos c1]
    · have e1 : isF G a t (a + t.size + (p - a)) = G p := by
        unfold isF
        rw [if_neg (by omega), if_neg (by omega)]
        congr 1
        omega
      rw [if_pos (by omega), strN_at _ _ _ (by omega) (by show isF G a t (a + t.size + (p - a)) < 256; rw [e1]; exact hGz p hp)]
      exact e1.symm
end
theorem sh_at (G : Nat → Nat) (a : Nat) (t : ByteArray) : AtK (tbyte t) (isF G a t) t.size a := fun i hi => by
  unfold isF
  rw [if_neg (by omega), if_pos (by omega)]
  congr 1
  omega
/-- what is found of what was put in -/
theorem sh_found {G : Nat → Nat} {a z : Nat} {t : ByteArray} {re : Int} (ha : a ≤ z) (h : FnK t (isF G a t) (z + t.size) 0 re) : ∃ p : Nat, re = (p : Int) ∧ p ≤ a ∧ p + t.size ≤ z + t.size ∧ AtK (tbyte t) (isF G a t) t.size p := by
  rcases h with ⟨p, h1, _, h2, h3, h4⟩ | ⟨_, h4⟩
  · refine ⟨p, h1, ?_, h2, h3⟩
    rcases Nat.lt_or_ge a p with c | c
    · exact absurd (sh_at G a t) (h4 a (Nat.zero_le _) c)
    · exact c
  · exact absurd (sh_at G a t) (h4 a (Nat.zero_le _) (by omega))
theorem sh_read {G : Nat → Nat} {a z p : Nat} {t : ByteArray} (hp : p + t.size ≤ z + t.size) (h : AtK (tbyte t) (isF G a t) t.size p) : strN (fun j => isF G a t (p + j)) (thN (z + t.size) p t.size) = t := by
  have : thN (z + t.size) p t.size = t.size := by unfold thN; omega
  rw [this]
  refine text_ext (strN_size _ _) fun j hj => ?_
  rw [strN_size] at hj
  rw [strN_at _ _ _ hj (by show isF G a t (p + j) < 256; rw [h j hj]; exact tbyte_lt _ _)]
  exact h j hj
theorem sh_all (s : ByteArray) : strN (fun j => tbyte s (0 + j)) (thN s.size 0 (s.size + 1)) = s := by
  have : thN s.size 0 (s.size + 1) = s.size := by unfold thN; omega
  rw [this]
  refine text_ext (strN_size _ _) fun j hj => ?_
  rw [strN_size] at hj
  rw [strN_at _ _ _ hj (by show tbyte s (0 + j) < 256; exact tbyte_lt _ _), Nat.zero_add]
theorem sh_beq (t : ByteArray) : (t.toList == t.toList) = true := beq_self_eq_true _
set_option maxRecDepth 100000 in
set_option maxHeartbeats 8000000 in
theorem fileShiftsLaw (s : ByteArray) (a : Int) (t : ByteArray) (ha : -9223372036854775808 ≤ a ∧ a ≤ 9223372036854775807) (hs : s.size ≤ 140737488355327) (ht : t.size ≤ 140737488355327) (w : World) : Calls Tryz.prog 5 #[.string s, .int .i64 a, .string t] w fun e w' => e = .returned (.bool true) ∧ Below w.heap.size w w' := by
  have HBG := begun_any w
  have HAW : Hid (∀ V : World, Calls Tryz.prog 7 #[] V fun e w' => e = .returned (.bool true) ∧ Below V.heap.size V w') := awake16_any
  have sb : (s.size : Int) ≤ 140737488355327 := by omega
  have tb : (t.size : Int) ≤ 140737488355327 := by omega
  go_enter Tryz.func5, Tryz.ntmps5
  go_wp2_with fail
  refine HBG.mono ?_
  rintro e w1 ⟨x, mf, ml, mc, cp, rfl, hB⟩
  have G1 : Hid (FB w w1 x mf ml mc cp 0 (fun _ => 0)) := FB.start hB
  clear HBG hB
  go_wp2_with fail
  refine (HAW.out _).mono ?_
  rintro e w2 ⟨rfl, hb2⟩
  have G2 : Hid (FB w w2 x mf ml mc cp 0 (fun _ => 0)) := G1.out.below hb2
  clear hb2 G1
  by_cases h1 : 20000 < s.size
  · have g1 : (20000 : Int) < (s.size : Int) := by omega
    go_wp2_with fail
    refine (HAW.out _).mono ?_
    rintro e w3 ⟨rfl, hb3⟩
    have G3 := (G2.out.below hb3).bel
    have HG3 : Hid (Below w.heap.size w w3) := G3
    clear G3 hb3
    go_wp2_with fail
    go_ret
    exact ⟨rfl, HG3.out⟩
  · have g1 : ¬ ((20000 : Int) < (s.size : Int)) := by omega
    by_cases h2 : 20000 < t.size
    · have g2 : (20000 : Int) < (t.size : Int) := by omega
      go_wp2_with fail
      refine (HAW.out _).mono ?_
      rintro e w3 ⟨rfl, hb3⟩
      have G3 := (G2.out.below hb3).bel
      have HG3 : Hid (Below w.heap.size w w3) := G3
      clear G3 hb3
      go_wp2_with fail
      go_ret
      exact ⟨rfl, HG3.out⟩
    · have g2 : ¬ ((20000 : Int) < (t.size : Int)) := by omega
      have HW := G2.out.write s (by omega)
      go_wp2_with fail
      refine HW.mono ?_
      rintro e w3 ⟨⟨k0, rfl⟩, hg3⟩
      have G3 : Hid (FB w w3 x mf ml mc cp s.size (tbyte s)) := hg3
      clear HW hg3 G2
      by_cases h3 : a < 0 ∨ (s.size : Int) < a
      · have HI := G3.out.insertBad a h3 t
        have HSZ : Hid (∀ V, FB w V x mf ml mc cp s.size (tbyte s) → Calls Tryz.prog 17 #[.pointer (some ⟨x, 0, none⟩), .int .i64 2] V fun e w' => e = .returned (.tuple #[.int .i64 (s.size : Int), .int .i64 0]) ∧ FB w w' x mf ml mc cp s.size (tbyte s)) := fun V hV => hV.size
        go_wp2_with fail
        refine HI.mono ?_
        rintro e w4 ⟨rfl, hg4⟩
        have H4 := HSZ.out w4 hg4
        clear hg4 HI G3
        go_wp2_with fail
        refine H4.mono ?_
        rintro e w5 ⟨rfl, hg5⟩
        have HB5 : Hid (Below w.heap.size w w5) := hg5.bel
        clear hg5 H4
        by_cases h4 : a < 0
        · clear h3
          go_wp2_with fail
          go_ret
          exact ⟨rfl, HB5.out⟩
        · have h5 : (s.size : Int) < a := by omega
          clear h3
          go_wp2_with fail
          go_ret
          exact ⟨rfl, HB5.out⟩
      · obtain ⟨b, rfl⟩ : ∃ b : Nat, a = (b : Int) := ⟨a.toNat, by omega⟩
        have hbs : b ≤ s.size := by omega
        have HI := G3.out.insert (by omega) b hbs t (by omega)
        go_wp2_with fail
        refine HI.mono ?_
        rintro e w4 ⟨rfl, hg4⟩
        have HFN := hg4.find t (by omega)
        clear hg4 HI G3
        go_wp2_with fail
        refine HFN.mono ?_
        rintro e w5 ⟨re, rfl, hre, hg5⟩
        obtain ⟨p, rfl, hpb, hpz, hat⟩ := sh_found hbs hre
        have HRD := hg5.read p t.size (by omega) (by omega) t (sh_read hpz hat)
        clear hre hat hg5 HFN
        have p0 : ¬ ((p : Int) < 0) := by omega
        have p1 : ¬ ((b : Int) < (p : Int)) := by omega
        have pb : (p : Int) ≤ 20000 := by omega
        have bb : (b : Int) ≤ 20000 := by omega
        have tq := sh_beq t
        go_wp2_with fail
        refine HRD.mono ?_
        rintro e w6 ⟨rfl, hg6⟩
        have HRM := hg6.remove (fun p _ => tbyte_lt _ _) hbs (by omega) (by omega)
        clear hg6 HRD
        go_wp2_with fail
        refine HRM.mono ?_
        rintro e w7 ⟨rfl, hg7⟩
        have HR2 := hg7.read 0 (s.size + 1) (by omega) (by omega) s (sh_all s)
        have ez : (s.size : Int) + 1 = ((s.size + 1 : Nat) : Int) := by omega
        rw [← ez] at HR2
        have sq := sh_beq s
        clear hg7 HRM ez
        go_wp2_with fail
        refine HR2.mono ?_
        rintro e w8 ⟨rfl, hg8⟩
        have HB8 : Hid (Below w.heap.size w w8) := hg8.bel
        clear hg8 HR2
        go_wp2_with fail
        go_ret
        exact ⟨rfl, HB8.out⟩
end Go.Proofs.YtelgceaembmenaaGreat
