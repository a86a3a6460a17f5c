/- Directories: the entries that a function asks for, sorted; the function is told for entries that may be. -/
import Derived.Test.YtojnlmfahgeidaaGreatDoorHDkWrite
import Derived.Test.YtojnlmfahgeidaaGreatDoorHGrNew
import Derived.Handy
import Derived.Test.YtojnlmfahgeidaaGreatDoorHInsCalls
import Derived.Test.YtojnlmfahgeidaaGreatDoorHCaKit
import Derived.Test.YtojnlmfahgeidaaGreatDoorHTrRead
import Derived.Test.YtojnlmfahgeidaaGreatDoorHDiFillK
import Derived.Test.YtojnlmfahgeidaaGreatDoorHDiRemove
import Derived.Test.YtojnlmfahgeidaaGreatDoorHDiDirE
import Derived.Test.YtojnlmfahgeidaaGreatDoorRows
import Derived.WalkKit
import Derived.ProofKit
import Derived.OpenShut
import Derived.Lib.SmallJoins
import Derived.SizedLaws
import Derived.Deep.Slices
import Derived.Test.YtojnlmfahgeidaaGreatDoorHDigText
import Derived.Test.YtojnlmfahgeidaaGreatDoorHNaCmp2
import Derived.Deep.Cut

namespace Go.Proofs.YtojnlmfahgeidaaGreatDoor
open Go Go.RowKit
set_option linter.unusedSimpArgs false
set_option linter.unusedVariables false
/-- a table that may be opened -/
def mayOpen (h : Int) (R : Rf) (high : Int) : Prop := (0 ≤ high ∧ high ≤ 4096) ∧ h = hL 4 high ∧ (decide (R = rf0) = decide (high = 0)) ∧ rOk R = true
theorem ti_c0 {w : World} {b t : Nat} {h : Int} {R : Rf} (H : Blk w b t (trC h R)) : w.cell? ⟨b, 0, none⟩ = some (.int .i64 h) := H.cv (n := 34) (by decide)
theorem wpList_build7 {P : Program} {ops : Array Oper} {rest : List Oper} {o : Oper} {a : Act} {w : World} {Q : Exit → Act → World → Prop} (hg : o.guard = none) (t : TypeId) (x0 x1 x2 x3 x4 x5 x6 : Operand) (ho : o.op = .build t #[(0, x0), (1, x1), (2, x2), (3, x3), (4, x4), (5, x5), (6, x6)]) (v0 v1 v2 v3 v4 v5 v6 : Value) (h0 : a.eval x0 = v0) (h1 : a.eval x1 = v1) (h2 : a.eval x2 = v2) (h3 : a.eval x3 = v3) (h4 : a.eval x4 = v4) (h5 : a.eval x5 = v5) (h6 : a.eval x6 = v6)
    (cells : Array Value) (hf : P.built t [(0, v0), (1, v1), (2, v2), (3, v3), (4, v4), (5, v5), (6, v6)] = some cells) (h : wpList P ops Q rest (a.put o.dst (.agg cells)) w) : wpList P ops Q (o :: rest) a w := by
  refine wpList_buildTo hg t _ ho o.dst rfl cells ?_ h
  have e : (Array.map (fun (x : Nat × Operand) => match x with | (i, x) => (i, a.eval x)) #[(0, x0), (1, x1), (2, x2), (3, x3), (4, x4), (5, x5), (6, x6)]).toList = [(0, v0), (1, v1), (2, v2), (3, v3), (4, v4), (5, v5), (6, v6)] := by simp [h0, h1, h2, h3, h4, h5, h6]
  rw [e]
  exact hf
section
variable {cp : Option Addr} {h : Int} {R : Rf} {high : Int}
set_option maxRecDepth 100000 in
set_option maxHeartbeats 4000000 in
theorem open_full (hR : R.1 < 4294967296) (hD : okD R.2) (hh : -9223372036854775808 ≤ high ∧ high ≤ 9223372036854775807) (hm : mayOpen h R high) (w : World) : Calls Tryz.prog 48 #[.pointer cp, .agg (trC h R), .int .i64 high] w fun e w' => ∃ x mf ml mc, e = .returned (.tuple #[.pointer (some ⟨x, 0, none⟩), .int .i64 0]) ∧ (w.heap.size ≤ x ∧ w.heap.size ≤ mf ∧ w.heap.size ≤ ml ∧ w.heap.size ≤ mc ∧ x ≠ mf) ∧ Blk w' x 218 (ixC cp h R high high mf ml mc) ∧ MapIs pkV ftV w' mf [] ∧ (mf < ml ∧ ml < mc ∧ mc < x ∧ w'.heap[mf]? = some (.map #[] 0) ∧ w'.heap[ml]? = some (.map #[] 0) ∧ w'.heap[mc]? = some (.map #[] 0)) ∧ Below w.heap.size w w' := by
  have HT := table_any high hh
  have hb1 : Below w.heap.size w (w.alloc (.cells (trC h R) 122)) := below_new1 _ _
  have t1 : Blk (w.alloc (.cells (trC h R) 122)) w.heap.size 122 (trC h R) := Blk.new _ _ _
  have c0 := ti_c0 t1
  have HR1 : Hid ((w.alloc (.cells (trC h R) 122)).rangeAt w.heap.size 1 ((List.range 33).map (rfF R.1 R.2))) := tr_range t1
  have HNo : Hid (∀ w, Calls Tryz.prog 105 #[.agg (rfC R)] w fun e w' => e = .returned (.bool (decide (R = rf0))) ∧ Below w.heap.size w w') := none_any R
  obtain ⟨hg, he, hz, hr⟩ := hm
  have HTT : Hid (∀ w : World, Calls Tryz.prog 104 #[.int .i64 high] w fun e w' => e = .returned (.tuple #[.int .i64 (hL 4 high), .int .i64 0]) ∧ w' = w) := fun w => by
    have := HT w
    rw [if_pos hg] at this
    exact this
  clear HT
  rw [← he] at HTT
  have hok : trOk h R := ⟨hr, by rw [he]; exact hL_lt 4 high⟩
  obtain ⟨nh, hnh⟩ : ∃ nh : Nat, h = (nh : Int) := ⟨h.toNat, by have := hok.2.1; omega⟩
  have HG : Hid (∀ w, Calls Tryz.prog 106 #[.pointer cp, .agg (trC h R)] w fun x w' => ∃ g, x = .returned (.tuple #[.pointer (some ⟨g, 0, none⟩), .int .i64 0]) ∧ Below w.heap.size w w') := fun w => (new_ok nh (4 ^ nh) rfl h hnh R hR hD hok cp w).mono fun e w' ⟨g, m, h1, _, _, _, _, h2⟩ => ⟨g, h1, h2⟩
  obtain ⟨bz, hbz⟩ : ∃ bz, decide (R = rf0) = bz := ⟨_, rfl⟩
  rw [hbz] at HNo hz
  clear hok hR hD he hg hh hbz hnh hr
  by_cases h0 : high = 0
  · subst h0
    rw [decide_eq_true rfl] at hz
    subst hz
    go_enter Tryz.func48, Tryz.ntmps48
    go_wp2_with fail
    generalize (w.alloc (.cells (trC h R) 122)) = w1 at *
    refine (HTT.out _).mono ?_
    rintro e w2 ⟨rfl, hw2⟩
    subst hw2
    go_wp2_with (first
      | (refine wpList_load_blkI (by rfl) 120 _ (by rfl) (w.heap.size) (1) 33 (rfF R.1 R.2) (by rfl) _ (by exact HR1.out) Tryz.underlying120 rfl tsizeRef ?_; simp only [Act.put, List.setIfInBounds_toArray, List.set_cons_zero, List.set_cons_succ])
      | fail)
    refine (HNo.out _).mono ?_
    rintro e w3 ⟨rfl, hb3⟩
    have t3 := t1.below hb3 t1.lt
    have hb13 := hb1.trans (hb3.mono hb1.size)
    clear hb3 t1 hb1 HNo HTT HR1 c0
    go_wp2_with (first
      | (refine wpList_load_rowg (by rfl) 122 _ (by rfl) (w.heap.size) (by rfl) 122 (trC h R) (0, 0) _ (by exact t3) Tryz.underlying122 (by rfl) (sizeTr.trans (by rw [trC_size])) ?_; simp only [Act.put, List.setIfInBounds_toArray, List.set_cons_zero, List.set_cons_succ])
      | fail)
    refine (HG.out _).mono ?_
    rintro e w4 ⟨g4, rfl, hb4⟩
    have hb14 := hb13.trans (hb4.mono hb13.size)
    have t4 := t3.below hb4 t3.lt
    clear hb4 hb13 t3 HG
    have hmm := @run_makeMap Tryz.prog
    have hbt := built_ix cp h R 0 0 w4.heap.size (w4.heap.size + 1) (w4.heap.size + 1 + 1)
    go_wp2_with (first
      | (refine wpList_load_rowg (by rfl) 122 _ (by rfl) (w.heap.size) (by rfl) 122 (trC h R) (0, 0) _ (by exact t4) Tryz.underlying122 (by rfl) (sizeTr.trans (by rw [trC_size])) ?_; simp only [Act.put, List.setIfInBounds_toArray, List.set_cons_zero, List.set_cons_succ])
      | (refine wpList_build7 (by rfl) 218 _ _ _ _ _ _ _ (by rfl) _ _ _ _ _ _ _ (by rfl) (by rfl) (by rfl) (by rfl) (by rfl) (by rfl) (by rfl) (ixC cp h R 0 0 w4.heap.size (w4.heap.size + 1) (w4.heap.size + 1 + 1)) (by exact hbt) ?_; simp only [Act.put, List.setIfInBounds_toArray, List.set_cons_zero, List.set_cons_succ])
      | fail)
    refine bodyPost_ret (results_tmp2 Tryz.results48 _ _ _) rfl ?_
    have hx5 := Blk.new (((w4.alloc (.map #[] 0)).alloc (.map #[] 0)).alloc (.map #[] 0)) 218 (ixC cp h R 0 0 w4.heap.size (w4.heap.size + 1) (w4.heap.size + 1 + 1))
    rw [show (((w4.alloc (.map #[] 0)).alloc (.map #[] 0)).alloc (.map #[] 0)).heap.size = w4.heap.size + 1 + 1 + 1 by simp] at hx5
    have hs := hb14.size
    have hb1 : Below (w4.heap.size + 1) (w4.alloc (.map #[] 0)) (w4.alloc (.map #[] 0)) := Below.refl _ _
    have hb5 : Below (w4.heap.size + 1) (w4.alloc (.map #[] 0)) ((((w4.alloc (.map #[] 0)).alloc (.map #[] 0)).alloc (.map #[] 0)).alloc (.cells (ixC cp h R 0 0 w4.heap.size (w4.heap.size + 1) (w4.heap.size + 1 + 1)) 218)) := ((hb1.alloc (by simp) _).alloc (by simp) _).alloc (by simp) _
    have hm0 : MapIs pkV ftV (w4.alloc (.map #[] 0)) w4.heap.size [] := ⟨#[], 0, heap_alloc_new _ _, rfl⟩
    have hm1 : ((w4.alloc (.map #[] 0)).alloc (.map #[] 0)).heap[w4.heap.size + 1]? = some (.map #[] 0) := by
      have := heap_alloc_new (w4.alloc (.map #[] 0)) (.map #[] 0)
      rw [show (w4.alloc (.map #[] 0)).heap.size = w4.heap.size + 1 by simp] at this
      exact this
    have hm2 : (((w4.alloc (.map #[] 0)).alloc (.map #[] 0)).alloc (.map #[] 0)).heap[w4.heap.size + 1 + 1]? = some (.map #[] 0) := by
      have := heap_alloc_new ((w4.alloc (.map #[] 0)).alloc (.map #[] 0)) (.map #[] 0)
      rw [show ((w4.alloc (.map #[] 0)).alloc (.map #[] 0)).heap.size = w4.heap.size + 1 + 1 by simp] at this
      exact this
    have hb6 : Below (w4.heap.size + 1 + 1) ((w4.alloc (.map #[] 0)).alloc (.map #[] 0)) ((((w4.alloc (.map #[] 0)).alloc (.map #[] 0)).alloc (.map #[] 0)).alloc (.cells (ixC cp h R 0 0 w4.heap.size (w4.heap.size + 1) (w4.heap.size + 1 + 1)) 218)) := ((Below.refl _ _).alloc (by simp) _).alloc (by simp) _
    have hb7 : Below (w4.heap.size + 1 + 1 + 1) (((w4.alloc (.map #[] 0)).alloc (.map #[] 0)).alloc (.map #[] 0)) ((((w4.alloc (.map #[] 0)).alloc (.map #[] 0)).alloc (.map #[] 0)).alloc (.cells (ixC cp h R 0 0 w4.heap.size (w4.heap.size + 1) (w4.heap.size + 1 + 1)) 218)) := (Below.refl _ _).alloc (by simp) _
    exact ⟨_, _, _, _, rfl, ⟨by omega, by omega, by omega, by omega, by omega⟩, hx5, hm0.below hb5 (by omega), ⟨by omega, by omega, by omega, (hb5.block _ (by omega)).trans (heap_alloc_new _ _), (hb6.block _ (by omega)).trans hm1, (hb7.block _ (by omega)).trans hm2⟩, hb14.trans ((((((Below.refl _ _).alloc hs _).alloc (by simp; omega) _).alloc (by simp; omega) _).alloc (by simp; omega) _))⟩
  · have hq0 : (high == 0) = false := by simp [h0]
    rw [decide_eq_false h0] at hz
    subst hz
    go_enter Tryz.func48, Tryz.ntmps48
    go_wp2_with fail
    generalize (w.alloc (.cells (trC h R) 122)) = w1 at *
    refine (HTT.out _).mono ?_
    rintro e w2 ⟨rfl, hw2⟩
    subst hw2
    go_wp2_with (first
      | (refine wpList_load_blkI (by rfl) 120 _ (by rfl) (w.heap.size) (1) 33 (rfF R.1 R.2) (by rfl) _ (by exact HR1.out) Tryz.underlying120 rfl tsizeRef ?_; simp only [Act.put, List.setIfInBounds_toArray, List.set_cons_zero, List.set_cons_succ])
      | fail)
    refine (HNo.out _).mono ?_
    rintro e w3 ⟨rfl, hb3⟩
    have t3 := t1.below hb3 t1.lt
    have hb13 := hb1.trans (hb3.mono hb1.size)
    clear hb3 t1 hb1 HNo HTT HR1 c0
    go_wp2_with (first
      | (refine wpList_load_rowg (by rfl) 122 _ (by rfl) (w.heap.size) (by rfl) 122 (trC h R) (0, 0) _ (by exact t3) Tryz.underlying122 (by rfl) (sizeTr.trans (by rw [trC_size])) ?_; simp only [Act.put, List.setIfInBounds_toArray, List.set_cons_zero, List.set_cons_succ])
      | fail)
    refine (HG.out _).mono ?_
    rintro e w4 ⟨g4, rfl, hb4⟩
    have hb14 := hb13.trans (hb4.mono hb13.size)
    have t4 := t3.below hb4 t3.lt
    clear hb4 hb13 t3 HG
    have hmm := @run_makeMap Tryz.prog
    have hbt := built_ix cp h R high high w4.heap.size (w4.heap.size + 1) (w4.heap.size + 1 + 1)
    go_wp2_with (first
      | (refine wpList_load_rowg (by rfl) 122 _ (by rfl) (w.heap.size) (by rfl) 122 (trC h R) (0, 0) _ (by exact t4) Tryz.underlying122 (by rfl) (sizeTr.trans (by rw [trC_size])) ?_; simp only [Act.put, List.setIfInBounds_toArray, List.set_cons_zero, List.set_cons_succ])
      | (refine wpList_build7 (by rfl) 218 _ _ _ _ _ _ _ (by rfl) _ _ _ _ _ _ _ (by rfl) (by rfl) (by rfl) (by rfl) (by rfl) (by rfl) (by rfl) (ixC cp h R high high w4.heap.size (w4.heap.size + 1) (w4.heap.size + 1 + 1)) (by exact hbt) ?_; simp only [Act.put, List.setIfInBounds_toArray, List.set_cons_zero, List.set_cons_succ])
      | fail)
    refine bodyPost_ret (results_tmp2 Tryz.results48 _ _ _) rfl ?_
    have hx5 := Blk.new (((w4.alloc (.map #[] 0)).alloc (.map #[] 0)).alloc (.map #[] 0)) 218 (ixC cp h R high high w4.heap.size (w4.heap.size + 1) (w4.heap.size + 1 + 1))
    rw [show (((w4.alloc (.map #[] 0)).alloc (.map #[] 0)).alloc (.map #[] 0)).heap.size = w4.heap.size + 1 + 1 + 1 by simp] at hx5
    have hs := hb14.size
    have hb1 : Below (w4.heap.size + 1) (w4.alloc (.map #[] 0)) (w4.alloc (.map #[] 0)) := Below.refl _ _
    have hb5 : Below (w4.heap.size + 1) (w4.alloc (.map #[] 0)) ((((w4.alloc (.map #[] 0)).alloc (.map #[] 0)).alloc (.map #[] 0)).alloc (.cells (ixC cp h R high high w4.heap.size (w4.heap.size + 1) (w4.heap.size + 1 + 1)) 218)) := ((hb1.alloc (by simp) _).alloc (by simp) _).alloc (by simp) _
    have hm0 : MapIs pkV ftV (w4.alloc (.map #[] 0)) w4.heap.size [] := ⟨#[], 0, heap_alloc_new _ _, rfl⟩
    have hm1 : ((w4.alloc (.map #[] 0)).alloc (.map #[] 0)).heap[w4.heap.size + 1]? = some (.map #[] 0) := by
      have := heap_alloc_new (w4.alloc (.map #[] 0)) (.map #[] 0)
      rw [show (w4.alloc (.map #[] 0)).heap.size = w4.heap.size + 1 by simp] at this
      exact this
    have hm2 : (((w4.alloc (.map #[] 0)).alloc (.map #[] 0)).alloc (.map #[] 0)).heap[w4.heap.size + 1 + 1]? = some (.map #[] 0) := by
      have := heap_alloc_new ((w4.alloc (.map #[] 0)).alloc (.map #[] 0)) (.map #[] 0)
      rw [show ((w4.alloc (.map #[] 0)).alloc (.map #[] 0)).heap.size = w4.heap.size + 1 + 1 by simp] at this
      exact this
    have hb6 : Below (w4.heap.size + 1 + 1) ((w4.alloc (.map #[] 0)).alloc (.map #[] 0)) ((((w4.alloc (.map #[] 0)).alloc (.map #[] 0)).alloc (.map #[] 0)).alloc (.cells (ixC cp h R high high w4.heap.size (w4.heap.size + 1) (w4.heap.size + 1 + 1)) 218)) := ((Below.refl _ _).alloc (by simp) _).alloc (by simp) _
    have hb7 : Below (w4.heap.size + 1 + 1 + 1) (((w4.alloc (.map #[] 0)).alloc (.map #[] 0)).alloc (.map #[] 0)) ((((w4.alloc (.map #[] 0)).alloc (.map #[] 0)).alloc (.map #[] 0)).alloc (.cells (ixC cp h R high high w4.heap.size (w4.heap.size + 1) (w4.heap.size + 1 + 1)) 218)) := (Below.refl _ _).alloc (by simp) _
    exact ⟨_, _, _, _, rfl, ⟨by omega, by omega, by omega, by omega, by omega⟩, hx5, hm0.below hb5 (by omega), ⟨by omega, by omega, by omega, (hb5.block _ (by omega)).trans (heap_alloc_new _ _), (hb6.block _ (by omega)).trans hm1, (hb7.block _ (by omega)).trans hm2⟩, hb14.trans ((((((Below.refl _ _).alloc hs _).alloc (by simp; omega) _).alloc (by simp; omega) _).alloc (by simp; omega) _))⟩
end
end Go.Proofs.YtojnlmfahgeidaaGreatDoor

namespace Go.Proofs.YtojnlmfahgeidaaGreatDoor
open Go Go.RowKit
set_option linter.unusedSimpArgs false
set_option linter.unusedVariables false
theorem may00 : mayOpen 0 rf0 0 := ⟨by decide, by decide, by simp, by decide⟩
end Go.Proofs.YtojnlmfahgeidaaGreatDoor

namespace Go.Proofs.YtojnlmfahgeidaaGreatDoor
open Go Go.RowKit
set_option linter.unusedSimpArgs false
set_option linter.unusedVariables false
theorem open_im (cp : Option Addr) (w : World) : Calls Tryz.prog 48 #[.pointer cp, .agg (trC 0 rf0), .int .i64 0] w fun e w' => ∃ x mf ml mc, e = .returned (.tuple #[.pointer (some ⟨x, 0, none⟩), .int .i64 0]) ∧ (w.heap.size ≤ x ∧ w.heap.size ≤ mf ∧ w.heap.size ≤ ml ∧ w.heap.size ≤ mc) ∧ IM w' x mf ml mc cp 0 (fun _ => hd00) (fun _ _ _ => 0) ∧ Below w.heap.size w w' := by
  refine (open_full (by decide) okD_zero (by decide) may00 w).mono ?_
  rintro e w' ⟨x, mf, ml, mc, h1, h2, h3, h4, h5, h6⟩
  refine ⟨x, mf, ml, mc, h1, ⟨h2.1, h2.2.1, h2.2.2.1, h2.2.2.2.1⟩, ⟨h3, ⟨fun _ => none, MapFn.new h5.2.2.2.1, fun i _ p _ => rfl⟩, ⟨fun _ => none, MapFn.new h5.2.2.2.2.1, fun n p j _ => rfl⟩, ⟨0, h5.2.2.2.2.2⟩, ?_⟩, h6⟩
  omega
end Go.Proofs.YtojnlmfahgeidaaGreatDoor

namespace Go.Proofs.YtojnlmfahgeidaaGreatDoor
open Go Go.RowKit
set_option linter.unusedSimpArgs false
set_option linter.unusedVariables false
/-- two directories and a file, as they are made -/
def b7H : Nat → Hd := hU (hU (hU (fun _ => hd00) 1 (hdN hd00 1 2 1 0 1)) 2 (hdN hd00 2 2 1 0 1)) 3 (hdN hd00 3 1 1 0 1)
def b7D : Nat → Nat → Nat → Nat := fun _ _ _ => 0
theorem b7_dir (n : Nat) (h : n = 1 ∨ n = 2) (N : Nat → Int) (S : Nat → ByteArray) : Di b7H b7D n 0 1 N S := by
  have e : DB b7D n 0 N S := fun q i hi => by
    rw [show inLf 0 q = 0 by unfold inLf; omega]
    rfl
  rcases h with rfl | rfl
  · exact ⟨by decide, by decide, rfl, rfl, rfl, rfl, rfl, by decide, fun p hp => absurd hp (Nat.not_lt_zero _), e⟩
  · exact ⟨by decide, by decide, rfl, rfl, rfl, rfl, rfl, by decide, fun p hp => absurd hp (Nat.not_lt_zero _), e⟩
/-- inodes that were begun -/
def Beg7 (w w' : World) (x mf ml mc : Nat) (cp : Option Addr) : Prop := (w.heap.size ≤ x ∧ w.heap.size ≤ mf ∧ w.heap.size ≤ ml ∧ w.heap.size ≤ mc) ∧ IM w' x mf ml mc cp 3 b7H b7D ∧ Below w.heap.size w w'
set_option maxRecDepth 100000 in
set_option maxHeartbeats 4000000 in
theorem begun17_any (w : World) : Calls Tryz.prog 10 #[] w fun e w' => ∃ x mf ml mc cp, e = .returned (.tuple #[.pointer (some ⟨x, 0, none⟩), .bool true]) ∧ Beg7 w w' x mf ml mc cp := by
  have hbt := built_tr0
  have HN : Hid (∀ w : World, Calls Tryz.prog 46 #[.int .i64 64] w fun e w' => ∃ g, e = .returned (.tuple #[.pointer (some ⟨g, 0, none⟩), .int .i64 0]) ∧ Below w.heap.size w w') := fun w => (diskNew_any 64 (by decide) (by decide) w).mono fun e w' ⟨g, q, h1, _, _, h2⟩ => ⟨g, h1, h2⟩
  have HC : Hid (∀ (g : Nat) (w : World), Calls Tryz.prog 47 #[.pointer (some ⟨g, 0, none⟩), .pointer none, .int .i64 0] w fun e w' => ∃ c, e = .returned (.tuple #[.pointer (some ⟨c, 0, none⟩), .int .i64 0]) ∧ Below w.heap.size w w') := fun g w => (caNew_ok g none 0 (by decide) (by decide) w).mono fun e w' ⟨c, m, h1, _, _, _, h2⟩ => ⟨c, h1, h2⟩
  have HO : Hid (∀ (c : Nat) (w : World), Calls Tryz.prog 48 #[.pointer (some ⟨c, 0, none⟩), .agg (trC 0 rf0), .int .i64 0] w fun e w' => ∃ x mf ml mc, e = .returned (.tuple #[.pointer (some ⟨x, 0, none⟩), .int .i64 0]) ∧ (w.heap.size ≤ x ∧ w.heap.size ≤ mf ∧ w.heap.size ≤ ml ∧ w.heap.size ≤ mc) ∧ IM w' x mf ml mc (some ⟨c, 0, none⟩) 0 (fun _ => hd00) (fun _ _ _ => 0) ∧ Below w.heap.size w w') := fun c w => open_im (some ⟨c, 0, none⟩) w
  go_enter Tryz.func10, Tryz.ntmps10
  go_wp2_with fail
  refine (HN.out _).mono ?_
  rintro e w3 ⟨d, rfl, hb13⟩
  clear HN
  go_wp2_with fail
  refine (HC.out _ _).mono ?_
  rintro e w4 ⟨c, rfl, hb4⟩
  have hb14 := hb13.trans (hb4.mono hb13.size)
  clear hb13 hb4 HC
  go_wp2_with (first
    | (refine wpList_buildTo (by rfl) 122 #[] (by rfl) _ rfl (trC 0 rf0) (by exact hbt) ?_; simp only [Act.put, List.setIfInBounds_toArray, List.set_cons_zero, List.set_cons_succ])
    | fail)
  refine (HO.out _ _).mono ?_
  rintro e w5 ⟨x, mf, ml, mc, rfl, hbs, hI5, hb5⟩
  have hb15 := hb14.trans (hb5.mono hb14.size)
  have hz := hb14.size
  have HX : Hid (w.heap.size ≤ x ∧ w.heap.size ≤ mf ∧ w.heap.size ≤ ml ∧ w.heap.size ≤ mc) := ⟨by omega, by omega, by omega, by omega⟩
  have HM1 := hI5.make 1 (by decide) (by decide) rfl (fun m h1 h2 => absurd h2 (by omega)) 2 (.inr rfl) 1 (by decide)
  have HB15 : Hid (Below w.heap.size w w5) := hb15
  clear hb14 hb5 hb15 HO hI5 hbt hbs
  go_wp2_with fail
  refine HM1.mono ?_
  rintro e w6 ⟨rfl, hI6, ht6⟩
  have HM2 := hI6.make 2 (by decide) (by decide) rfl (fun m h1 h2 => by
    have : m = 1 := by omega
    subst this
    decide) 2 (.inr rfl) 1 (by decide)
  have HT6 : Hid (Turns (fun z => z = x ∨ z = mf) w5 w6) := ht6
  clear HM1 hI6 ht6
  go_wp2_with fail
  refine HM2.mono ?_
  rintro e w7 ⟨rfl, hI7, ht7⟩
  have HM3 := hI7.make 3 (by decide) (by decide) rfl (fun m h1 h2 => by
    have : m = 1 ∨ m = 2 := by omega
    rcases this with rfl | rfl <;> decide) 1 (.inl rfl) 1 (by decide)
  have HT7 : Hid (Turns (fun z => z = x ∨ z = mf) w5 w7) := HT6.out.tr ht7
  clear HM2 hI7 ht7 HT6
  go_wp2_with fail
  refine HM3.mono ?_
  rintro e w8 ⟨rfl, hI8, ht8⟩
  have HE : Hid (Beg7 w w8 x mf ml mc (some ⟨c, 0, none⟩)) := by
    refine ⟨HX.out, hI8, ?_⟩
    have t8 := HT7.out.tr ht8
    have := HX.out
    exact HB15.out.trans (t8.below HB15.out.size (fun b hb => by rcases hb with rfl | rfl; exact this.1; exact this.2.1))
  clear HM3 hI8 ht8
  go_wp2_with fail
  go_ret2
  exact ⟨x, mf, ml, mc, _, rfl, HE.out⟩
set_option maxRecDepth 100000 in
set_option maxHeartbeats 4000000 in
theorem awake17_any (w : World) : Calls Tryz.prog 11 #[] w fun e w' => e = .returned (.bool true) ∧ Below w.heap.size w w' := by
  have HB := begun17_any w
  go_enter Tryz.func11, Tryz.ntmps11
  go_wp2_with fail
  refine HB.mono ?_
  rintro e w1 ⟨x, mf, ml, mc, cp, rfl, hx, hI, hb1⟩
  have HA := hI.addOk (b7_dir 1 (.inl rfl) (fun _ => 0) (fun _ => ⟨#[]⟩)) (by decide) 9 ⟨#[97]⟩ (by decide) (fun r hr => absurd hr (Nat.not_lt_zero _)) 2
  have HX : Hid (w.heap.size ≤ x ∧ w.heap.size ≤ mf ∧ w.heap.size ≤ ml ∧ w.heap.size ≤ mc) := hx
  have HB1 : Hid (Below w.heap.size w w1) := hb1
  clear HB hI hb1 hx
  go_wp2_with fail
  refine HA.mono ?_
  rintro e w2 ⟨rfl, ⟨H', D', hI2, hd2, _⟩, hT2⟩
  have HF := hI2.findD hd2 ⟨#[97]⟩ (by decide) 0 ⟨by decide, fun r hr => absurd hr (Nat.not_lt_zero _), fun _ => rfl⟩ 9 0 0 rfl rfl rfl
  have HE : Hid (Below w.heap.size w w2) := by
    have := HX.out
    exact HB1.out.trans (hT2.below HB1.out.size (fun b hb => by rcases hb with rfl | rfl; exact this.2.2.1; exact this.2.1))
  clear HA hI2 hd2 hT2
  go_wp2_with fail
  refine HF.mono ?_
  rintro e w3 ⟨rfl, hb3⟩
  have HE3 : Hid (Below w.heap.size w w3) := HE.out.trans (hb3.mono HE.out.size)
  clear HF hb3
  go_wp2_with fail
  go_ret
  exact ⟨rfl, HE3.out⟩
end Go.Proofs.YtojnlmfahgeidaaGreatDoor

namespace Go.Proofs.YtojnlmfahgeidaaGreatDoor
open Go.ChangeShapes Go.WideShapes Go.ChangeAt Go.RowKit Go.Joins
set_option linter.unusedVariables false
set_option linter.unusedSimpArgs false
/-- a deed -/
structure A7 where
  kd : Int
  dr : Int
  i : Int
  s : ByteArray
  t : Nat
def A7.cs (x : A7) : List Value := [.int .i64 x.kd, .int .i64 x.dr, .int .i64 x.i, .string x.s, .int .u64 ((x.t : Nat) : Int)]
/-- what any deed is -/
def A7.ok (x : A7) : Prop := (-9223372036854775808 ≤ x.kd ∧ x.kd ≤ 9223372036854775807) ∧ (-9223372036854775808 ≤ x.dr ∧ x.dr ≤ 9223372036854775807) ∧ (-9223372036854775808 ≤ x.i ∧ x.i ≤ 9223372036854775807) ∧ x.s.size ≤ maxLen ∧ x.t < 18446744073709551616
def IsA17 (W : World) (a : Option Addr) (n : Nat) (A : Nat → A7) : Prop := ∀ i, i < n → ∃ b o, a = some ⟨b, o, none⟩ ∧ b < W.heap.size ∧ W.rangeAt b (o + i * 5) (A i).cs
theorem IsA17.below {W V : World} {a : Option Addr} {n : Nat} {A : Nat → A7} (h : IsA17 W a n A) (hb : Below W.heap.size W V) : IsA17 V a n A := fun i hi => by
  obtain ⟨b, o, h1, h2, h3⟩ := h i hi
  refine ⟨b, o, h1, Nat.lt_of_lt_of_le h2 hb.size, fun j v hv => ?_⟩
  rw [← h3 j v hv]
  simp [World.cell?, hb.block b h2]
theorem a7cell_lt {W : World} {b o : Nat} {v : Value} (h : W.cell? ⟨b, o, none⟩ = some v) : b < W.heap.size := World.block_lt_of_cell? _ _ h
set_option maxRecDepth 100000 in
theorem open_acts17 {H : Type} {enc : TypeId × Value → H} {W : World} {a0 : Option Addr} {len cap fuel : Nat} {x : DataW H × List MemPlace}
    (hf : DataW.trod enc Tryz.prog W 0 (fun _ => true) true fuel 22 [.slice a0 len cap] = some x) (hsz : ∀ n ∈ x.1.weights Tryz.prog 22, n ≤ reachBytes) :
    ∃ (A : Nat → A7), len * 48 ≤ 140737488351232 ∧ (a0 = none → len = 0 ∧ cap = 0) ∧ (∀ i, i < len → (A i).ok) ∧ IsA17 W a0 len A := by
  rcases Deep.open_slice Tryz.underlying22 hf with ⟨hcs, hx⟩ | ⟨a, len', cap', m, n, D, Pl, hcs, _, hl, hm, hmm, hx, hel⟩
  · simp at hcs
    obtain ⟨rfl, rfl, rfl⟩ := hcs
    exact ⟨fun _ => ⟨0, 0, 0, ⟨#[]⟩, 0⟩, by omega, fun _ => ⟨rfl, rfl⟩, fun i hi => absurd hi (by omega), fun i hi => absurd hi (by omega)⟩
  · simp at hcs
    obtain ⟨rfl, rfl, rfl⟩ := hcs
    subst hx
    simp only [if_true] at hmm
    subst hmm
    have hu := Tryz.underlying22
    have hby : Tryz.prog.bytesOf 38 = 48 := by kernel_rfl
    have hw0 := hsz ((((List.range len).map D).length + ((List.range (m - len)).map fun j => D (len + j)).length) * Tryz.prog.bytesOf 38) (by simp [DataW.weights, hu])
    rw [hby] at hw0
    simp only [List.length_map, List.length_range] at hw0
    have hlen4 : len * 48 ≤ 140737488351232 := by
      unfold reachBytes at hw0
      omega
    have hce : Tryz.prog.cellsOf 38 = 5 := by kernel_rfl
    have hci : Tryz.prog.cellsOf 3 = 1 := by kernel_rfl
    have hcu : Tryz.prog.cellsOf 9 = 1 := by kernel_rfl
    have hc8 : Tryz.prog.cellsOf 26 = 1 := by kernel_rfl
    have hcl2 : Tryz.prog.cellsOf 36 = 2 := by kernel_rfl
    have hsp : 0 < len → a.spot = none := fun h0 => by
      obtain ⟨cs', h1, _⟩ := hel 0 (by omega)
      rw [hce] at h1
      obtain ⟨_, hcl, hcell⟩ := World.cells?_some h1
      match cs', hcl with
      | [v0, v1, v2, v3, v4], _ => simpa [Addr.add] using World.cell?_spot (hcell 0 (by omega))
    have each : ∀ i, ∃ q : A7, i < len → q.ok ∧ ∃ b o, a = ⟨b, o, none⟩ ∧ b < W.heap.size ∧ W.rangeAt b (o + i * 5) q.cs := by
      intro i
      by_cases hi : i < len
      · obtain ⟨cs', h1, h2⟩ := hel i (by omega)
        rw [hce] at h1
        obtain ⟨_, hcl, hcell⟩ := World.cells?_some h1
        obtain ⟨xs, k, hk, hxy, _, hxl, hfs⟩ := DataW.trod_struct Tryz.underlying38 h2
        match xs, hxl, cs', hcl with
        | [y0, y1, y2, y3], _, [v0, v1, v2, v3, v4], _ =>
          have g0 := hfs 0 _ rfl
          have g1 := hfs 1 _ rfl
          have gl := hfs 2 _ rfl
          have g4 := hfs 3 _ rfl
          simp [hci, hcu, hc8, hcl2] at g0 g1 gl g4
          obtain ⟨zs, k', hk', hzy, _, hzl, hgs⟩ := DataW.trod_struct Tryz.underlying36 gl
          match zs, hzl with
          | [z0, z1], _ =>
          have g2 := hgs 0 _ rfl
          have g3 := hgs 1 _ rfl
          simp [hci, hcu] at g2 g3
          obtain ⟨p0, e0, _, w0⟩ := DataW.trod_int Tryz.underlying3 g0
          obtain ⟨p1, e1, _, w1⟩ := DataW.trod_int Tryz.underlying3 g1
          obtain ⟨p2, e2, _, w2⟩ := DataW.trod_int Tryz.underlying3 g2
          obtain ⟨r, e3, _, w3⟩ := DataW.trod_string Tryz.underlying9 g3
          obtain ⟨y, e4, _, w4⟩ := DataW.trod_int Tryz.underlying26 g4
          simp at e0 e1 e2 e3 e4
          subst e0 e1 e2 e3 e4
          have hy := bounds_u64 w4
          obtain ⟨t, rfl⟩ : ∃ t : Nat, y = (t : Int) := ⟨y.toNat, by omega⟩
          refine ⟨⟨p0, p1, p2, r, t⟩, fun _ => ⟨⟨bounds_i64 w0, bounds_i64 w1, bounds_i64 w2, w3, by show t < 18446744073709551616; omega⟩, ?_⟩⟩
          have c0 := hcell 0 (by decide)
          have c1 := hcell 1 (by decide)
          have c2 := hcell 2 (by decide)
          have c3 := hcell 3 (by decide)
          have c4 := hcell 4 (by decide)
          obtain ⟨b, off, spot⟩ := a
          have hspot : spot = none := hsp (by omega)
          subst hspot
          simp only [Addr.add_mid, List.getElem?_cons_zero, List.getElem?_cons_succ] at c0 c1 c2 c3 c4
          refine ⟨b, off, rfl, a7cell_lt c0, fun j v hv => ?_⟩
          match j with
          | 0 => rw [← hv]; exact c0
          | 1 => rw [← hv]; exact c1
          | 2 => rw [← hv]; exact c2
          | 3 => rw [← hv]; exact c3
          | 4 => rw [← hv]; exact c4
          | j + 5 => simp [A7.cs] at hv
      · exact ⟨⟨0, 0, 0, ⟨#[]⟩, 0⟩, fun h => absurd h hi⟩
    refine ⟨fun i => Classical.choose (each i), hlen4, fun h => by simp at h, fun i hi => (Classical.choose_spec (each i) hi).1, fun i hi => ?_⟩
    obtain ⟨b, o, rfl, h1, h2⟩ := (Classical.choose_spec (each i) hi).2
    exact ⟨b, o, rfl, h1, h2⟩
theorem open_acts17y {H : Type} {enc : TypeId × Value → H} {W : World} {a0 : Option Addr} {len cap fuel : Nat} {x : DataW H × List MemPlace}
    (hf : DataW.trod enc Tryz.prog W 0 (fun _ => true) true fuel 22 [.slice a0 len cap] = some x) (hsz : ∀ n ∈ x.1.weights Tryz.prog 22, n ≤ reachBytes) :
    ∃ (X : Nat → A7), len ≤ 9223372036854775807 ∧ ((∀ i, i < len → (X i).ok) ∧ IsA17 W a0 len X) := by
  obtain ⟨A, h1, _, h3, h4⟩ := open_acts17 hf hsz
  exact ⟨A, by omega, h3, h4⟩
end Go.Proofs.YtojnlmfahgeidaaGreatDoor

namespace Go.Proofs.YtojnlmfahgeidaaGreatDoor
open Go Go.RowKit Go.Nam
set_option linter.unusedSimpArgs false
set_option linter.unusedVariables false
theorem IsA17.cs {W : World} {b o n i : Nat} {X : Nat → A7} (h : IsA17 W (some ⟨b, o, none⟩) n X) (hi : i < n) : W.cell? ⟨b, o + i * 5, none⟩ = some (.int .i64 (X i).kd) ∧ W.cell? ⟨b, o + i * 5 + 1, none⟩ = some (.int .i64 (X i).dr) ∧ W.cell? ⟨b, o + i * 5 + 2, none⟩ = some (.int .i64 (X i).i) ∧ W.cell? ⟨b, o + i * 5 + 3, none⟩ = some (.string (X i).s) ∧ W.cell? ⟨b, o + i * 5 + 4, none⟩ = some (.int .u64 (((X i).t : Nat) : Int)) := by
  obtain ⟨b', o', h1, _, h3⟩ := h i hi
  injection h1 with h1
  injection h1 with e1 e2 _
  subst e1 e2
  exact ⟨h3 0 _ rfl, h3 1 _ rfl, h3 2 _ rfl, h3 3 _ rfl, h3 4 _ rfl⟩
/-- what stands in the loop: two directories, what is said of them in a block of its own -/
structure DL (w W : World) (gs x mf ml mc : Nat) (cp : Option Addr) (A : Nat → Option Addr) (K C T : Nat → Nat) (N : Nat → Nat → Int) (S : Nat → Nat → ByteArray) : Prop where
  pd : PD W (gs + 1) x mf ml mc cp A K C T N S
  sd : Blk W gs 31 (sdC A K C T)
  lt : x < gs ∧ mf < gs ∧ ml < gs ∧ mc < gs
  lo : w.heap.size ≤ x ∧ w.heap.size ≤ mf ∧ w.heap.size ≤ ml ∧ w.heap.size ≤ mc ∧ w.heap.size ≤ gs
  bl : Below w.heap.size w W
section
variable {w W W' : World} {gs x mf ml mc : Nat} {cp : Option Addr} {A A' : Nat → Option Addr} {K C T K' C' T' : Nat → Nat} {N N' : Nat → Nat → Int} {S S' : Nat → Nat → ByteArray}
theorem DL.below (h : DL w W gs x mf ml mc cp A K C T N S) (hb : Below W.heap.size W W') : DL w W' gs x mf ml mc cp A K C T N S :=
  ⟨h.pd.below hb, h.sd.below hb h.sd.lt, h.lt, h.lo, h.bl.trans (hb.mono h.bl.size)⟩
theorem DL.begin (hB : Beg7 w W x mf ml mc cp) : DL w (W.alloc (.cells #[.slice none 0 0, .slice none 0 0, .slice none 0 0, .int .u64 0, .int .u64 1, .int .u64 1] 31)) W.heap.size x mf ml mc cp (fun _ => none) (fun _ => 0) (fun _ => 0) (fun _ => 1) (fun _ _ => 0) (fun _ _ => ⟨#[]⟩) := by
  obtain ⟨hx, hI, hb⟩ := hB
  have hl := hI.lts
  have hs := hb.size
  have hn : Below W.heap.size W (W.alloc (.cells #[.slice none 0 0, .slice none 0 0, .slice none 0 0, .int .u64 0, .int .u64 1, .int .u64 1] 31)) := below_new1 _ _
  refine ⟨⟨⟨b7H, b7D, hI.below hn, ⟨rfl, fun m h1 h2 => ?_⟩, fun d hd => b7_dir d hd _ _⟩, ⟨by omega, by omega, by omega, by omega⟩, by simp, fun d hd => ⟨fun i hi => absurd hi (Nat.not_lt_zero _), fun _ => ⟨rfl, rfl⟩⟩, fun d b o k hd he => by cases he⟩, Blk.new _ _ _, ⟨hl.1, hl.2.1, hl.2.2.1, hl.2.2.2⟩, ⟨hx.1, hx.2.1, hx.2.2.1, hx.2.2.2, hs⟩, hb.trans (hn.mono hs)⟩
  unfold b7H hU
  rw [if_neg (by omega), if_neg (by omega), if_neg (by omega)]
  rfl
/-- one deed of the loop, and what it says laid into its block -/
theorem DL.did (h : DL w W gs x mf ml mc cp A K C T N S) (hp : PD W' (gs + 1) x mf ml mc cp A' K' C' T' N' S') (hT : Turns (fun z => z = ml ∨ z = mf) W W') : DL w (W'.setRow gs (sdC A' K' C' T')) gs x mf ml mc cp A' K' C' T' N' S' ∧ Blk W' gs 31 (sdC A K C T) ∧ Below w.heap.size w W' := by
  have hlt := h.lt
  have hlo := h.lo
  have hs : Blk W' gs 31 (sdC A K C T) := (hT.block _ h.sd.lt (by omega)).trans h.sd
  obtain ⟨H, D, h1, h2, h3⟩ := hp.im
  have hz : ∀ (c : Array Value) (k : Nat), k ≠ gs → (W'.setRow gs c).heap[k]? = W'.heap[k]? := fun c k => setRow_other W' gs k c
  have hb : Below w.heap.size w W' := h.bl.trans (hT.below h.bl.size (fun b hb => by rcases hb with rfl | rfl; exact hlo.2.2.1; exact hlo.2.1))
  refine ⟨⟨⟨⟨H, D, h1.keep (hz _ _ (by omega)) (hz _ _ (by omega)) (hz _ _ (by omega)) (hz _ _ (by omega)), h2, h3⟩, hp.lt, ?_, fun d hd => ⟨(hp.ls d hd).1.at (by simp) fun b o hb hl => hz _ _ (fun e => ?_), (hp.ls d hd).2⟩, hp.hi⟩, hs.set _, h.lt, h.lo, below_setRow hb hlo.2.2.2.2 _⟩, hs, hb⟩
  · have := hp.sz
    simpa using this
  · have := hp.hi d b o none hd hb
    omega
end
end Go.Proofs.YtojnlmfahgeidaaGreatDoor

namespace Go.Proofs.YtojnlmfahgeidaaGreatDoor
open Go Go.RowKit Go.Nam
set_option linter.unusedSimpArgs false
set_option linter.unusedVariables false
section
variable {w : World} {x mf ml mc : Nat} {cp : Option Addr} {top : Int} {H : Nat → Hd} {D : Nat → Nat → Nat → Nat} {n k st : Nat} {N : Nat → Int} {S : Nat → ByteArray}
set_option maxRecDepth 100000 in
set_option maxHeartbeats 8000000 in
theorem IM.thoseE (h : IM w x mf ml mc cp top H D) (hd : Di H D n k st N S) (fn bx : Nat) (pr : Lk → Bool) (ef : ∀ args w, (callFunc fn args).run Tryz.prog w = .ok (.enter fn args) w) (HA : ∀ (i : Int) (s : ByteArray), encE i s = 0 → ∀ (V : World), Below w.heap.size w V → Calls Tryz.prog fn #[.agg #[.int .i64 i, .string s], .pointer (some ⟨bx, 0, none⟩)] V fun e w' => e = .returned (.bool (pr (i, s))) ∧ Below V.heap.size V w') :
    Calls Tryz.prog 62 #[.pointer (some ⟨x, 0, none⟩), .agg (nfC (n : Int) 2 (H n).l ((64 * k : Nat) : Int) st), .func (.func fn) #[] #[.pointer (some ⟨bx, 0, none⟩)]] w fun e w' => ∃ v R, e = .returned (.tuple #[v, .int .i64 0]) ∧ w'.ownsRow w.heap.size 36 2 v R.length (lkR R) ∧ SoR R ∧ R.Perm ((liR N S k).filter pr) ∧ Below w.heap.size w w' := by
  have HCT : Hid (∀ V : World, Calls Tryz.prog 60 #[.agg (nfC (n : Int) 2 (H n).l ((64 * k : Nat) : Int) st)] V fun e w' => e = .returned (.int .i64 (k : Int)) ∧ Below V.heap.size V w') := count_any (n : Int) 2 (H n).l k st hd.le
  have HEN : Hid (∀ (q : Nat), 4 * q < k → ∀ V, Below w.heap.size w V → Calls Tryz.prog 61 #[.pointer (some ⟨x, 0, none⟩), .agg (nfC (n : Int) 2 (H n).l ((64 * k : Nat) : Int) st), .int .i64 (q : Int)] V fun e w' => ∃ v, e = .returned (.tuple #[v, .int .i64 0]) ∧ w'.ownsRow V.heap.size 36 2 v (inLf k q) (lkL (shN N q) (shS S q) (inLf k q)) ∧ Below V.heap.size V w') := fun q hq V hV => (h.below hV).entries hd (H n).l q hq
  have HAS : Hid (∀ (i : Int) (s : ByteArray), encE i s = 0 → ∀ (V : World), Below w.heap.size w V → Calls Tryz.prog fn #[.agg #[.int .i64 i, .string s], .pointer (some ⟨bx, 0, none⟩)] V fun e w' => e = .returned (.bool (pr (i, s))) ∧ Below V.heap.size V w') := HA
  obtain ⟨i0, hi0, hz0, hz1, hz2⟩ := info_parts infoLk
  have hle := hd.le
  have HOK : Hid (∀ p, p < k → encE (N p) (S p) = 0) := hd.ok
  clear h hd HA
  generalize (H n).l = l at *
  generalize ((64 * k : Nat) : Int) = z at *
  have H0 : Hid (Blk (w.alloc (.cells (nfC (n : Int) 2 l z st) 86)) w.heap.size 86 (nfC (n : Int) 2 l z st) ∧ Below w.heap.size w (w.alloc (.cells (nfC (n : Int) 2 l z st) 86)) ∧ (w.alloc (.cells (nfC (n : Int) 2 l z st) 86)).heap.size = w.heap.size + 1) := ⟨Blk.new _ _ _, below_new1 _ _, by simp⟩
  go_enter Tryz.func62, Tryz.ntmps62
  go_wp2_with fail
  generalize (w.alloc (.cells (nfC (n : Int) 2 l z st) 86)) = W1 at *
  go_loopw [8, 9] (fun v8 v9 wr => Hid (∃ (f q : Nat) (A : List Lk), f = 4 * q ∧ v9 = .int .i64 (f : Int) ∧ 4 * q < k + 4 ∧ A = (liR N S (min (4 * q) k)).filter pr ∧ wr.ownsRow (w.heap.size + 1) 36 2 v8 A.length (lkR A) ∧ Below w.heap.size w wr ∧ Below (w.heap.size + 1) W1 wr)) (fun _ v9 _ => k + 4 - (intOf v9).toNat)
  case atStart => exact ⟨0, 0, [], rfl, rfl, by omega, by simp [liR], ⟨rfl, .inl ⟨rfl, rfl⟩⟩, H0.out.2.1, Below.refl _ _⟩
  case round =>
    obtain ⟨WR, rfl⟩ : ∃ u, u = wr := ⟨_, rfl⟩
    obtain ⟨f, q, A, hf, rfl, hq, hA, hown, hbw, hb1⟩ := Hid.out hrel
    obtain ⟨V8, rfl⟩ : ∃ u, u = u8 := ⟨_, rfl⟩
    have f1 : (f : Int) ≤ 20000 := by omega
    have d2 : (f : Int) / 4 = (q : Int) := by omega
    have HQ : Hid (f = 4 * q ∧ 4 * q < k + 4 ∧ A = (liR N S (min (4 * q) k)).filter pr) := ⟨hf, hq, hA⟩
    have HST : Hid (WR.ownsRow (w.heap.size + 1) 36 2 V8 A.length (lkR A) ∧ Below w.heap.size w WR ∧ Below (w.heap.size + 1) W1 WR) := ⟨hown, hbw, hb1⟩
    have b0 : Blk WR w.heap.size 86 (nfC (n : Int) 2 l z st) := H0.out.1.below hb1 (by omega)
    clear hrel hf hq hA hown hbw hb1
    go_wp2_with (first | (refine wpList_load_row (by rfl) 86 _ (by rfl) (w.heap.size) (by rfl) 86 (nfC (n : Int) 2 l z st) (0, 0) _ (by exact b0) Tryz.underlying86 (by rfl) (size_nf.trans (by rfl)) ?_; simp only [Act.put, List.setIfInBounds_toArray, List.set_cons_zero, List.set_cons_succ]) | fail)
    refine (HCT.out _).mono ?_
    rintro e w2 ⟨rfl, hb2⟩
    have HS2 : Hid (w2.ownsRow (w.heap.size + 1) 36 2 V8 A.length (lkR A) ∧ Below w.heap.size w w2 ∧ Below (w.heap.size + 1) W1 w2) := ⟨kownBel HST.out.1 hb2, HST.out.2.1.trans (hb2.mono HST.out.2.1.size), HST.out.2.2.trans (hb2.mono (by have := HST.out.2.2.size; have := H0.out.2.2; omega))⟩
    have b2 : Blk w2 w.heap.size 86 (nfC (n : Int) 2 l z st) := b0.below hb2 b0.lt
    clear hb2 b0 HST
    by_cases c : f < k
    · have c1 : (f : Int) < (k : Int) := by omega
      have H3 := HEN.out q (by have := HQ.out.1; omega) w2 HS2.out.2.1
      go_wp2_with (first | (refine wpList_load_row (by rfl) 86 _ (by rfl) (w.heap.size) (by rfl) 86 (nfC (n : Int) 2 l z st) (0, 0) _ (by exact b2) Tryz.underlying86 (by rfl) (size_nf.trans (by rfl)) ?_; simp only [Act.put, List.setIfInBounds_toArray, List.set_cons_zero, List.set_cons_succ]) | fail)
      refine H3.mono ?_
      rintro e w3 ⟨v, rfl, hv, hb3⟩
      have HM : Hid (0 < inLf k q ∧ inLf k q ≤ 4 ∧ 4 * q + inLf k q ≤ k) := by
        have := HQ.out.1
        unfold inLf
        exact ⟨by omega, by omega, by omega⟩
      obtain ⟨a, cc, rfl, hI, hcc⟩ := own_lks hv
      obtain ⟨g, rfl, hg, hc⟩ := hI HM.out.1
      have HG : Hid (w2.heap.size ≤ g) := (hv.lt g rfl).1
      have HS3 : Hid (w3.ownsRow (w.heap.size + 1) 36 2 V8 A.length (lkR A) ∧ (∀ b, V8.ownBlock = some b → b ≠ g) ∧ (∀ r, r < inLf k q → w3.cell? ⟨g, r * 2, none⟩ = some (.int .i64 (shN N q r)) ∧ w3.cell? ⟨g, r * 2 + 1, none⟩ = some (.string (shS S q r))) ∧ g < w3.heap.size ∧ Below w.heap.size w w3 ∧ Below (w.heap.size + 1) W1 w3) :=
        ⟨kownBel HS2.out.1 hb3, fun b hb => by have := (HS2.out.1.lt b hb).2; have := HG.out; omega, fun r hr => ⟨(hc r hr).1, (hc r hr).2⟩, hg, HS2.out.2.1.trans (hb3.mono HS2.out.2.1.size), HS2.out.2.2.trans (hb3.mono (by have := HS2.out.2.2.size; have := H0.out.2.2; omega))⟩
      clear hI hc hv hb3 hcc hg H3 b2
      obtain ⟨m, hm⟩ : ∃ m, m = inLf k q := ⟨_, rfl⟩
      have HMM : Hid (m = inLf k q) := hm
      have hm4 : (m : Int) ≤ 4 := by have := HM.out; omega
      rw [← hm] at HS3 ⊢
      clear hm
      go_wp2_with fail
      go_loopw [8, 33] (fun v8 v33 wx => Hid (∃ (i : Nat) (A2 : List Lk), i ≤ m ∧ v33 = .int .i64 (i : Int) ∧ A2 = A ++ (liR (shN N q) (shS S q) i).filter pr ∧ wx.ownsRow (w.heap.size + 1) 36 2 v8 A2.length (lkR A2) ∧ (∀ b, v8.ownBlock = some b → b ≠ g) ∧ (∀ r, r < m → wx.cell? ⟨g, r * 2, none⟩ = some (.int .i64 (shN N q r)) ∧ wx.cell? ⟨g, r * 2 + 1, none⟩ = some (.string (shS S q r))) ∧ g < wx.heap.size ∧ Below w.heap.size w wx ∧ Below (w.heap.size + 1) W1 wx)) (fun _ v33 _ => m - (intOf v33).toNat)
      case atStart => exact ⟨0, A, Nat.zero_le _, rfl, by simp [liR], HS3.out.1, HS3.out.2.1, HS3.out.2.2.1, HS3.out.2.2.2.1, HS3.out.2.2.2.2.1, HS3.out.2.2.2.2.2⟩
      case round =>
        obtain ⟨WX, rfl⟩ : ∃ u, u = wr := ⟨_, rfl⟩
        obtain ⟨i, A2, him, rfl, hA2, hown, hne, hcs, hgl, hbw, hb1⟩ := Hid.out hrel
        obtain ⟨V9, rfl⟩ : ∃ u, u = u8 := ⟨_, rfl⟩
        have HST : Hid (A2 = A ++ (liR (shN N q) (shS S q) i).filter pr ∧ WX.ownsRow (w.heap.size + 1) 36 2 V9 A2.length (lkR A2) ∧ (∀ b, V9.ownBlock = some b → b ≠ g) ∧ (∀ r, r < m → WX.cell? ⟨g, r * 2, none⟩ = some (.int .i64 (shN N q r)) ∧ WX.cell? ⟨g, r * 2 + 1, none⟩ = some (.string (shS S q r))) ∧ g < WX.heap.size ∧ Below w.heap.size w WX ∧ Below (w.heap.size + 1) W1 WX) := ⟨hA2, hown, hne, hcs, hgl, hbw, hb1⟩
        clear hrel hA2 hown hne hcs hgl hbw hb1 HS3
        by_cases hi : i < m
        · have i1 : (i : Int) < (m : Int) := by omega
          have i0z : (0 : Int) ≤ (i : Int) := by omega
          have c0 := (HST.out.2.2.2.1 i hi).1
          have c2 := (HST.out.2.2.2.1 i hi).2
          obtain ⟨XN, hXN⟩ : ∃ XN, XN = shN N q i := ⟨_, rfl⟩
          obtain ⟨XS, hXS⟩ : ∃ XS, XS = shS S q i := ⟨_, rfl⟩
          rw [← hXN] at c0
          rw [← hXS] at c2
          have HLI : Hid (liR (shN N q) (shS S q) (i + 1) = liR (shN N q) (shS S q) i ++ [(XN, XS)]) := by
            show _ = _
            unfold liR
            rw [List.range_succ, List.map_append, hXN, hXS]
            rfl
          have HAB : Hid (A2.length ≤ 30000) := by
            have h1 := HST.out.1
            have h2 := HQ.out.2.2
            have h3 : A.length ≤ 4 * q := by
              rw [h2]
              refine Nat.le_trans (List.length_filter_le _ _) ?_
              rw [liR_len]
              omega
            have h4 : ((liR (shN N q) (shS S q) i).filter pr).length ≤ i := by
              refine Nat.le_trans (List.length_filter_le _ _) ?_
              rw [liR_len]
              exact Nat.le_refl _
            have h5 := HQ.out.2.1
            show _ ≤ _
            rw [h1, List.length_append]
            omega
          have HEZ : Hid (encE XN XS = 0) := by
            have h1 := HMM.out
            unfold inLf at h1
            rw [hXN, hXS]
            exact HOK.out (4 * q + i) (by omega)
          clear hXN hXS
          go_upto_region 11 with fail
          have HX1 : Hid (Blk (WX.alloc (.cells #[.int .i64 XN, .string XS] 36)) WX.heap.size 36 #[.int .i64 XN, .string XS] ∧ Below WX.heap.size WX (WX.alloc (.cells #[.int .i64 XN, .string XS] 36))) := ⟨Blk.new _ _ _, below_new1 _ _⟩
          clear c0 c2
          generalize (WX.alloc (.cells #[.int .i64 XN, .string XS] 36)) = X1 at *
          have d0 : X1.cell? ⟨WX.heap.size, 0, none⟩ = some (.int .i64 XN) := (HX1.out.1.cell 0).trans rfl
          have d1 : X1.cell? ⟨WX.heap.size, 1, none⟩ = some (.string XS) := (HX1.out.1.cell 1).trans rfl
          have H5 := HAS.out XN XS HEZ.out X1 (HST.out.2.2.2.2.2.1.trans (HX1.out.2.mono HST.out.2.2.2.2.2.1.size))
          go_wp2_with fail
          refine H5.mono ?_
          rintro e w5 ⟨rfl, hb5⟩
          have HB5 : Hid (Below WX.heap.size WX w5 ∧ Blk w5 WX.heap.size 36 #[.int .i64 XN, .string XS]) := ⟨HX1.out.2.trans (hb5.mono HX1.out.2.size), HX1.out.1.below hb5 HX1.out.1.lt⟩
          have HWX : Hid (w.heap.size + 1 ≤ WX.heap.size) := by
            have h1 := HST.out.2.2.2.2.2.2.size
            have h2 := H0.out.2.2
            show _ ≤ _
            omega
          clear d0 d1 H5 hb5
          have HFI : Hid ((liR (shN N q) (shS S q) (i + 1)).filter pr = (liR (shN N q) (shS S q) i).filter pr ++ (if pr (XN, XS) = true then [(XN, XS)] else [])) := by
            show _ = _
            rw [HLI.out, List.filter_append, List.filter_cons, List.filter_nil]
          generalize pr (XN, XS) = pb at *
          cases pb
          · go_wp2_with fail
            go_roundw
            case rel => exact ⟨i + 1, A2, by omega, by first | rfl | go_num | simp, by rw [HFI.out, HST.out.1]; simp, kownBel HST.out.2.1 HB5.out.1, HST.out.2.2.1, fun r hr => ⟨(HB5.out.1.cell (p := ⟨g, r * 2, none⟩) HST.out.2.2.2.2.1).trans (HST.out.2.2.2.1 r hr).1, (HB5.out.1.cell (p := ⟨g, r * 2 + 1, none⟩) HST.out.2.2.2.2.1).trans (HST.out.2.2.2.1 r hr).2⟩, Nat.lt_of_lt_of_le HST.out.2.2.2.2.1 HB5.out.1.size, HST.out.2.2.2.2.2.1.trans (HB5.out.1.mono HST.out.2.2.2.2.2.1.size), HST.out.2.2.2.2.2.2.trans (HB5.out.1.mono HWX.out)⟩
            case measure => simp [intOf]; omega
          · have d0 : w5.cell? ⟨WX.heap.size, 0, none⟩ = some (.int .i64 XN) := (HB5.out.2.cell 0).trans rfl
            have d1 : w5.cell? ⟨WX.heap.size, 1, none⟩ = some (.string XS) := (HB5.out.2.cell 1).trans rfl
            have HO6 : Hid ((w5.alloc (.cells #[.int .i64 XN, .string XS] 36)).ownsRow (w.heap.size + 1) 36 2 V9 A2.length (lkR A2)) := (kownBel HST.out.2.1 HB5.out.1).alloc _
            have HX6 : Hid (IsR (w5.alloc (.cells #[.int .i64 XN, .string XS] 36)) w5.heap.size 0 [(XN, XS)]) := fun j u hu => by
              have := cells_new2L w5 (.int .i64 XN) (.string XS) 36 j u hu
              rwa [Addr.add_mid] at this
            have HBD : Hid ((A2.length + [((XN, XS) : Lk)].length) * 24 ≤ 140737488355328) := by
              have := HAB.out
              show _ ≤ _
              simp
              omega
            have HB6 : Hid (Below WX.heap.size WX (w5.alloc (.cells #[.int .i64 XN, .string XS] 36))) := HB5.out.1.alloc HB5.out.1.size _
            have HSZ : Hid (w.heap.size + 1 ≤ (w5.alloc (.cells #[.int .i64 XN, .string XS] 36)).heap.size) := Nat.le_trans HWX.out HB6.out.size
            go_wp2_with (first | (refine wpList_append_lks_at (by rfl) _ _ 49 (by rfl) (w.heap.size + 1) 36 i0 (.agg #[.int .i64 0, .string ⟨#[]⟩]) Tryz.underlying49 hi0 hz0 hz1 hz2 rfl V9 A2 A2.length rfl (by rfl) (by exact HO6.out) w5.heap.size 0 1 1 [(XN, XS)] rfl (by rfl) (by exact HX6.out) HBD.out HSZ.out (fun v7 U7 ho7 hg7 hl7 => ?_); simp only [Act.put, List.setIfInBounds_toArray, List.set_cons_zero, List.set_cons_succ]) | fail)
            have HB7 : Hid (Below (w.heap.size + 1) (w5.alloc (.cells #[.int .i64 XN, .string XS] 36)) U7) := (Below.refl _ _).grown hg7 HSZ.out (fun b hb => (HO6.out.lt b hb).1)
            have HC7 : Hid (∀ r v, r < m → WX.cell? ⟨g, v, none⟩ = U7.cell? ⟨g, v, none⟩) := fun r v hr => by
              have h1 := HST.out.2.2.2.2.1
              have h2 : U7.heap[g]? = WX.heap[g]? := (hg7.block g (by have := HB6.out.size; omega) (fun e => HST.out.2.2.1 g e.symm rfl)).trans (HB6.out.block g h1)
              exact (World.cell?_of_block (a := ⟨g, v, none⟩) h2).symm
            go_roundw
            case rel => exact ⟨i + 1, A2 ++ [(XN, XS)], by omega, by first | rfl | go_num | simp, by rw [HFI.out, HST.out.1, List.append_assoc]; rfl, by rw [List.length_append]; exact ho7, fun b hb => by
              rcases hl7 with h | h
              · exact HST.out.2.2.1 b (h ▸ hb)
              · rw [h] at hb
                have h1 := HST.out.2.2.2.2.1
                have h2 := HB6.out.size
                injection hb with hb
                omega, fun r hr => ⟨(HC7.out r _ hr).symm.trans (HST.out.2.2.2.1 r hr).1, (HC7.out r _ hr).symm.trans (HST.out.2.2.2.1 r hr).2⟩, by have := HST.out.2.2.2.2.1; have := HB6.out.size; have := HB7.out.size; omega, (HST.out.2.2.2.2.2.1.trans (HB6.out.mono HST.out.2.2.2.2.2.1.size)).trans (HB7.out.mono (by omega)), (HST.out.2.2.2.2.2.2.trans (HB6.out.mono HWX.out)).trans HB7.out⟩
            case measure => simp [intOf]; omega
        · have i1 : ¬ (i : Int) < (m : Int) := by omega
          go_wp2_with fail
          go_roundw
          case rel => exact ⟨f + 4, q + 1, A2, by have := HQ.out.1; omega, by first | rfl | go_num | simp, by have := HQ.out.1; omega, by
            obtain rfl : i = m := by omega
            rw [HST.out.1, HQ.out.2.2]
            rw [thoseA N S k q (by have := HQ.out.1; omega) pr, ← HMM.out], HST.out.2.1, HST.out.2.2.2.2.2.1, HST.out.2.2.2.2.2.2⟩
          case measure => simp [intOf]; omega
    · have c1 : ¬ (f : Int) < (k : Int) := by omega
      have HAK : Hid (A = (liR N S k).filter pr) := by
        have h1 := HQ.out.1
        have h2 := HQ.out.2.2
        rw [show min (4 * q) k = k by omega] at h2
        exact h2
      have HAL : Hid (A.length ≤ k) := by
        show _ ≤ _
        rw [HAK.out]
        refine Nat.le_trans (List.length_filter_le _ _) ?_
        rw [liR_len]
        exact Nat.le_refl _
      have hof := HS2.out.1
      rw [li_of A, liR_cells, liR_len] at hof
      obtain ⟨a, cc, e8, hIs, hcc⟩ := own_lks hof
      have hnil : a = none → A.length = 0 ∧ cc = 0 := fun h0 => by
        rcases hof.2 with ⟨hv, hn0⟩ | ⟨g', cap', cur, hv, _⟩
        · rw [e8] at hv
          simp at hv
          exact ⟨hn0, hv.2.2⟩
        · rw [e8, h0] at hv
          cases hv
      have hIC : IsLkC w2 a A.length (fun i => (A.getD i (0, ⟨#[]⟩)).1) (fun i => (A.getD i (0, ⟨#[]⟩)).2) := fun i hi => by
        obtain ⟨g', h1, h2, h3⟩ := hIs (by omega)
        exact ⟨g', 0, h1, h2, by rw [Nat.zero_add]; exact (h3 i hi).1, by rw [Nat.zero_add]; exact (h3 i hi).2⟩
      have HSO := sorted_any a A.length cc _ _ (by have := HAL.out; omega) w2 hIC hnil
      subst e8
      clear hof hIs hcc hnil hIC
      go_wp2_with fail
      refine HSO.mono ?_
      rintro e w3 ⟨v, sg, rfl, hpm, hov, hso, hb3⟩
      have HR : Hid (∃ R, w3.ownsRow w.heap.size 36 2 v R.length (lkR R) ∧ SoR R ∧ R.Perm ((liR N S k).filter pr)) := by
        refine ⟨liR (fun p => (A.getD (sg p) (0, ⟨#[]⟩)).1) (fun p => (A.getD (sg p) (0, ⟨#[]⟩)).2) A.length, ?_, so_soR hso, ?_⟩
        · rw [liR_len, liR_cells]
          exact kown_mono hov HS2.out.2.1.size
        · have h1 := en_perm (fun i => (A.getD i (0, ⟨#[]⟩)).1) (fun i => (A.getD i (0, ⟨#[]⟩)).2) hpm
          rw [← li_of A, HAK.out] at h1
          rw [HAK.out]
          exact h1
      have HBE : Hid (Below w.heap.size w w3) := HS2.out.2.1.trans (hb3.mono HS2.out.2.1.size)
      clear hpm hov hso hb3
      go_wp2_with fail
      go_ret2
      obtain ⟨R, r1, r2, r3⟩ := HR.out
      exact ⟨v, R, rfl, r1, r2, r3, HBE.out⟩
end
end Go.Proofs.YtojnlmfahgeidaaGreatDoor
