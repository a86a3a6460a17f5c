/- A deed on branches as an argument, opened: no condition but that it is one. -/
import Derived.Test.YtojnlmfahgeidaaGreatDoorHDkWrite
import Derived.Test.YtojnlmfahgeidaaGreatDoorHGrNew
import Derived.Handy
import Derived.Test.YtojnlmfahgeidaaGreatDoorHInsCalls
import Derived.Test.YtojnlmfahgeidaaGreatDoorHCaKit
import Derived.Test.YtojnlmfahgeidaaGreatDoorHTrRead
import Derived.Test.YtojnlmfahgeidaaGreatDoorHBlkGroups
import Derived.Laws.AppendOwnNone
import Derived.Test.YtojnlmfahgeidaaGreatDoorHNdTake
import Derived.Test.YtojnlmfahgeidaaGreatDoorRows
import Derived.WalkKit
import Derived.ProofKit
import Derived.OpenShut
import Derived.Deep.Slices
import Derived.Lib.SmallJoins
import Derived.SizedLaws

namespace Go.Proofs.YtojnlmfahgeidaaGreatDoor
open Go Go.RowKit
set_option linter.unusedSimpArgs false
set_option linter.unusedVariables false
/-- a table that may be opened -/
def mayOpen (h : Int) (R : Rf) (high : Int) : Prop := (0 ≤ high ∧ high ≤ 4096) ∧ h = hL 4 high ∧ (decide (R = rf0) = decide (high = 0)) ∧ rOk R = true
theorem ti_c0 {w : World} {b t : Nat} {h : Int} {R : Rf} (H : Blk w b t (trC h R)) : w.cell? ⟨b, 0, none⟩ = some (.int .i64 h) := H.cv (n := 34) (by decide)
theorem wpList_build7 {P : Program} {ops : Array Oper} {rest : List Oper} {o : Oper} {a : Act} {w : World} {Q : Exit → Act → World → Prop} (hg : o.guard = none) (t : TypeId) (x0 x1 x2 x3 x4 x5 x6 : Operand) (ho : o.op = .build t #[(0, x0), (1, x1), (2, x2), (3, x3), (4, x4), (5, x5), (6, x6)]) (v0 v1 v2 v3 v4 v5 v6 : Value) (h0 : a.eval x0 = v0) (h1 : a.eval x1 = v1) (h2 : a.eval x2 = v2) (h3 : a.eval x3 = v3) (h4 : a.eval x4 = v4) (h5 : a.eval x5 = v5) (h6 : a.eval x6 = v6)
    (cells : Array Value) (hf : P.built t [(0, v0), (1, v1), (2, v2), (3, v3), (4, v4), (5, v5), (6, v6)] = some cells) (h : wpList P ops Q rest (a.put o.dst (.agg cells)) w) : wpList P ops Q (o :: rest) a w := by
  refine wpList_buildTo hg t _ ho o.dst rfl cells ?_ h
  have e : (Array.map (fun (x : Nat × Operand) => match x with | (i, x) => (i, a.eval x)) #[(0, x0), (1, x1), (2, x2), (3, x3), (4, x4), (5, x5), (6, x6)]).toList = [(0, v0), (1, v1), (2, v2), (3, v3), (4, v4), (5, v5), (6, v6)] := by simp [h0, h1, h2, h3, h4, h5, h6]
  rw [e]
  exact hf
section
variable {cp : Option Addr} {h : Int} {R : Rf} {high : Int}
set_option maxRecDepth 100000 in
set_option maxHeartbeats 4000000 in
theorem open_full (hR : R.1 < 4294967296) (hD : okD R.2) (hh : -9223372036854775808 ≤ high ∧ high ≤ 9223372036854775807) (hm : mayOpen h R high) (w : World) : Calls Tryz.prog 48 #[.pointer cp, .agg (trC h R), .int .i64 high] w fun e w' => ∃ x mf ml mc, e = .returned (.tuple #[.pointer (some ⟨x, 0, none⟩), .int .i64 0]) ∧ (w.heap.size ≤ x ∧ w.heap.size ≤ mf ∧ w.heap.size ≤ ml ∧ w.heap.size ≤ mc ∧ x ≠ mf) ∧ Blk w' x 218 (ixC cp h R high high mf ml mc) ∧ MapIs pkV ftV w' mf [] ∧ (mf < ml ∧ ml < mc ∧ mc < x ∧ w'.heap[mf]? = some (.map #[] 0) ∧ w'.heap[ml]? = some (.map #[] 0) ∧ w'.heap[mc]? = some (.map #[] 0)) ∧ Below w.heap.size w w' := by
  have HT := table_any high hh
  have hb1 : Below w.heap.size w (w.alloc (.cells (trC h R) 122)) := below_new1 _ _
  have t1 : Blk (w.alloc (.cells (trC h R) 122)) w.heap.size 122 (trC h R) := Blk.new _ _ _
  have c0 := ti_c0 t1
  have HR1 : Hid ((w.alloc (.cells (trC h R) 122)).rangeAt w.heap.size 1 ((List.range 33).map (rfF R.1 R.2))) := tr_range t1
  have HNo : Hid (∀ w, Calls Tryz.prog 105 #[.agg (rfC R)] w fun e w' => e = .returned (.bool (decide (R = rf0))) ∧ Below w.heap.size w w') := none_any R
  obtain ⟨hg, he, hz, hr⟩ := hm
  have HTT : Hid (∀ w : World, Calls Tryz.prog 104 #[.int .i64 high] w fun e w' => e = .returned (.tuple #[.int .i64 (hL 4 high), .int .i64 0]) ∧ w' = w) := fun w => by
    have := HT w
    rw [if_pos hg] at this
    exact this
  clear HT
  rw [← he] at HTT
  have hok : trOk h R := ⟨hr, by rw [he]; exact hL_lt 4 high⟩
  obtain ⟨nh, hnh⟩ : ∃ nh : Nat, h = (nh : Int) := ⟨h.toNat, by have := hok.2.1; omega⟩
  have HG : Hid (∀ w, Calls Tryz.prog 106 #[.pointer cp, .agg (trC h R)] w fun x w' => ∃ g, x = .returned (.tuple #[.pointer (some ⟨g, 0, none⟩), .int .i64 0]) ∧ Below w.heap.size w w') := fun w => (new_ok nh (4 ^ nh) rfl h hnh R hR hD hok cp w).mono fun e w' ⟨g, m, h1, _, _, _, _, h2⟩ => ⟨g, h1, h2⟩
  obtain ⟨bz, hbz⟩ : ∃ bz, decide (R = rf0) = bz := ⟨_, rfl⟩
  rw [hbz] at HNo hz
  clear hok hR hD he hg hh hbz hnh hr
  by_cases h0 : high = 0
  · subst h0
    rw [decide_eq_true rfl] at hz
    subst hz
    go_enter Tryz.func48, Tryz.ntmps48
    go_wp2_with fail
    generalize (w.alloc (.cells (trC h R) 122)) = w1 at *
    refine (HTT.out _).mono ?_
    rintro e w2 ⟨rfl, hw2⟩
    subst hw2
    go_wp2_with (first
      | (refine wpList_load_blkI (by rfl) 120 _ (by rfl) (w.heap.size) (1) 33 (rfF R.1 R.2) (by rfl) _ (by exact HR1.out) Tryz.underlying120 rfl tsizeRef ?_; simp only [Act.put, List.setIfInBounds_toArray, List.set_cons_zero, List.set_cons_succ])
      | fail)
    refine (HNo.out _).mono ?_
    rintro e w3 ⟨rfl, hb3⟩
    have t3 := t1.below hb3 t1.lt
    have hb13 := hb1.trans (hb3.mono hb1.size)
    clear hb3 t1 hb1 HNo HTT HR1 c0
    go_wp2_with (first
      | (refine wpList_load_rowg (by rfl) 122 _ (by rfl) (w.heap.size) (by rfl) 122 (trC h R) (0, 0) _ (by exact t3) Tryz.underlying122 (by rfl) (sizeTr.trans (by rw [trC_size])) ?_; simp only [Act.put, List.setIfInBounds_toArray, List.set_cons_zero, List.set_cons_succ])
      | fail)
    refine (HG.out _).mono ?_
    rintro e w4 ⟨g4, rfl, hb4⟩
    have hb14 := hb13.trans (hb4.mono hb13.size)
    have t4 := t3.below hb4 t3.lt
    clear hb4 hb13 t3 HG
    have hmm := @run_makeMap Tryz.prog
    have hbt := built_ix cp h R 0 0 w4.heap.size (w4.heap.size + 1) (w4.heap.size + 1 + 1)
    go_wp2_with (first
      | (refine wpList_load_rowg (by rfl) 122 _ (by rfl) (w.heap.size) (by rfl) 122 (trC h R) (0, 0) _ (by exact t4) Tryz.underlying122 (by rfl) (sizeTr.trans (by rw [trC_size])) ?_; simp only [Act.put, List.setIfInBounds_toArray, List.set_cons_zero, List.set_cons_succ])
      | (refine wpList_build7 (by rfl) 218 _ _ _ _ _ _ _ (by rfl) _ _ _ _ _ _ _ (by rfl) (by rfl) (by rfl) (by rfl) (by rfl) (by rfl) (by rfl) (ixC cp h R 0 0 w4.heap.size (w4.heap.size + 1) (w4.heap.size + 1 + 1)) (by exact hbt) ?_; simp only [Act.put, List.setIfInBounds_toArray, List.set_cons_zero, List.set_cons_succ])
      | fail)
    refine bodyPost_ret (results_tmp2 Tryz.results48 _ _ _) rfl ?_
    have hx5 := Blk.new (((w4.alloc (.map #[] 0)).alloc (.map #[] 0)).alloc (.map #[] 0)) 218 (ixC cp h R 0 0 w4.heap.size (w4.heap.size + 1) (w4.heap.size + 1 + 1))
    rw [show (((w4.alloc (.map #[] 0)).alloc (.map #[] 0)).alloc (.map #[] 0)).heap.size = w4.heap.size + 1 + 1 + 1 by simp] at hx5
    have hs := hb14.size
    have hb1 : Below (w4.heap.size + 1) (w4.alloc (.map #[] 0)) (w4.alloc (.map #[] 0)) := Below.refl _ _
    have hb5 : Below (w4.heap.size + 1) (w4.alloc (.map #[] 0)) ((((w4.alloc (.map #[] 0)).alloc (.map #[] 0)).alloc (.map #[] 0)).alloc (.cells (ixC cp h R 0 0 w4.heap.size (w4.heap.size + 1) (w4.heap.size + 1 + 1)) 218)) := ((hb1.alloc (by simp) _).alloc (by simp) _).alloc (by simp) _
    have hm0 : MapIs pkV ftV (w4.alloc (.map #[] 0)) w4.heap.size [] := ⟨#[], 0, heap_alloc_new _ _, rfl⟩
    have hm1 : ((w4.alloc (.map #[] 0)).alloc (.map #[] 0)).heap[w4.heap.size + 1]? = some (.map #[] 0) := by
      have := heap_alloc_new (w4.alloc (.map #[] 0)) (.map #[] 0)
      rw [show (w4.alloc (.map #[] 0)).heap.size = w4.heap.size + 1 by simp] at this
      exact this
    have hm2 : (((w4.alloc (.map #[] 0)).alloc (.map #[] 0)).alloc (.map #[] 0)).heap[w4.heap.size + 1 + 1]? = some (.map #[] 0) := by
      have := heap_alloc_new ((w4.alloc (.map #[] 0)).alloc (.map #[] 0)) (.map #[] 0)
      rw [show ((w4.alloc (.map #[] 0)).alloc (.map #[] 0)).heap.size = w4.heap.size + 1 + 1 by simp] at this
      exact this
    have hb6 : Below (w4.heap.size + 1 + 1) ((w4.alloc (.map #[] 0)).alloc (.map #[] 0)) ((((w4.alloc (.map #[] 0)).alloc (.map #[] 0)).alloc (.map #[] 0)).alloc (.cells (ixC cp h R 0 0 w4.heap.size (w4.heap.size + 1) (w4.heap.size + 1 + 1)) 218)) := ((Below.refl _ _).alloc (by simp) _).alloc (by simp) _
    have hb7 : Below (w4.heap.size + 1 + 1 + 1) (((w4.alloc (.map #[] 0)).alloc (.map #[] 0)).alloc (.map #[] 0)) ((((w4.alloc (.map #[] 0)).alloc (.map #[] 0)).alloc (.map #[] 0)).alloc (.cells (ixC cp h R 0 0 w4.heap.size (w4.heap.size + 1) (w4.heap.size + 1 + 1)) 218)) := (Below.refl _ _).alloc (by simp) _
    exact ⟨_, _, _, _, rfl, ⟨by omega, by omega, by omega, by omega, by omega⟩, hx5, hm0.below hb5 (by omega), ⟨by omega, by omega, by omega, (hb5.block _ (by omega)).trans (heap_alloc_new _ _), (hb6.block _ (by omega)).trans hm1, (hb7.block _ (by omega)).trans hm2⟩, hb14.trans ((((((Below.refl _ _).alloc hs _).alloc (by simp; omega) _).alloc (by simp; omega) _).alloc (by simp; omega) _))⟩
  · have hq0 : (high == 0) = false := by simp [h0]
    rw [decide_eq_false h0] at hz
    subst hz
    go_enter Tryz.func48, Tryz.ntmps48
    go_wp2_with fail
    generalize (w.alloc (.cells (trC h R) 122)) = w1 at *
    refine (HTT.out _).mono ?_
    rintro e w2 ⟨rfl, hw2⟩
    subst hw2
    go_wp2_with (first
      | (refine wpList_load_blkI (by rfl) 120 _ (by rfl) (w.heap.size) (1) 33 (rfF R.1 R.2) (by rfl) _ (by exact HR1.out) Tryz.underlying120 rfl tsizeRef ?_; simp only [Act.put, List.setIfInBounds_toArray, List.set_cons_zero, List.set_cons_succ])
      | fail)
    refine (HNo.out _).mono ?_
    rintro e w3 ⟨rfl, hb3⟩
    have t3 := t1.below hb3 t1.lt
    have hb13 := hb1.trans (hb3.mono hb1.size)
    clear hb3 t1 hb1 HNo HTT HR1 c0
    go_wp2_with (first
      | (refine wpList_load_rowg (by rfl) 122 _ (by rfl) (w.heap.size) (by rfl) 122 (trC h R) (0, 0) _ (by exact t3) Tryz.underlying122 (by rfl) (sizeTr.trans (by rw [trC_size])) ?_; simp only [Act.put, List.setIfInBounds_toArray, List.set_cons_zero, List.set_cons_succ])
      | fail)
    refine (HG.out _).mono ?_
    rintro e w4 ⟨g4, rfl, hb4⟩
    have hb14 := hb13.trans (hb4.mono hb13.size)
    have t4 := t3.below hb4 t3.lt
    clear hb4 hb13 t3 HG
    have hmm := @run_makeMap Tryz.prog
    have hbt := built_ix cp h R high high w4.heap.size (w4.heap.size + 1) (w4.heap.size + 1 + 1)
    go_wp2_with (first
      | (refine wpList_load_rowg (by rfl) 122 _ (by rfl) (w.heap.size) (by rfl) 122 (trC h R) (0, 0) _ (by exact t4) Tryz.underlying122 (by rfl) (sizeTr.trans (by rw [trC_size])) ?_; simp only [Act.put, List.setIfInBounds_toArray, List.set_cons_zero, List.set_cons_succ])
      | (refine wpList_build7 (by rfl) 218 _ _ _ _ _ _ _ (by rfl) _ _ _ _ _ _ _ (by rfl) (by rfl) (by rfl) (by rfl) (by rfl) (by rfl) (by rfl) (ixC cp h R high high w4.heap.size (w4.heap.size + 1) (w4.heap.size + 1 + 1)) (by exact hbt) ?_; simp only [Act.put, List.setIfInBounds_toArray, List.set_cons_zero, List.set_cons_succ])
      | fail)
    refine bodyPost_ret (results_tmp2 Tryz.results48 _ _ _) rfl ?_
    have hx5 := Blk.new (((w4.alloc (.map #[] 0)).alloc (.map #[] 0)).alloc (.map #[] 0)) 218 (ixC cp h R high high w4.heap.size (w4.heap.size + 1) (w4.heap.size + 1 + 1))
    rw [show (((w4.alloc (.map #[] 0)).alloc (.map #[] 0)).alloc (.map #[] 0)).heap.size = w4.heap.size + 1 + 1 + 1 by simp] at hx5
    have hs := hb14.size
    have hb1 : Below (w4.heap.size + 1) (w4.alloc (.map #[] 0)) (w4.alloc (.map #[] 0)) := Below.refl _ _
    have hb5 : Below (w4.heap.size + 1) (w4.alloc (.map #[] 0)) ((((w4.alloc (.map #[] 0)).alloc (.map #[] 0)).alloc (.map #[] 0)).alloc (.cells (ixC cp h R high high w4.heap.size (w4.heap.size + 1) (w4.heap.size + 1 + 1)) 218)) := ((hb1.alloc (by simp) _).alloc (by simp) _).alloc (by simp) _
    have hm0 : MapIs pkV ftV (w4.alloc (.map #[] 0)) w4.heap.size [] := ⟨#[], 0, heap_alloc_new _ _, rfl⟩
    have hm1 : ((w4.alloc (.map #[] 0)).alloc (.map #[] 0)).heap[w4.heap.size + 1]? = some (.map #[] 0) := by
      have := heap_alloc_new (w4.alloc (.map #[] 0)) (.map #[] 0)
      rw [show (w4.alloc (.map #[] 0)).heap.size = w4.heap.size + 1 by simp] at this
      exact this
    have hm2 : (((w4.alloc (.map #[] 0)).alloc (.map #[] 0)).alloc (.map #[] 0)).heap[w4.heap.size + 1 + 1]? = some (.map #[] 0) := by
      have := heap_alloc_new ((w4.alloc (.map #[] 0)).alloc (.map #[] 0)) (.map #[] 0)
      rw [show ((w4.alloc (.map #[] 0)).alloc (.map #[] 0)).heap.size = w4.heap.size + 1 + 1 by simp] at this
      exact this
    have hb6 : Below (w4.heap.size + 1 + 1) ((w4.alloc (.map #[] 0)).alloc (.map #[] 0)) ((((w4.alloc (.map #[] 0)).alloc (.map #[] 0)).alloc (.map #[] 0)).alloc (.cells (ixC cp h R high high w4.heap.size (w4.heap.size + 1) (w4.heap.size + 1 + 1)) 218)) := ((Below.refl _ _).alloc (by simp) _).alloc (by simp) _
    have hb7 : Below (w4.heap.size + 1 + 1 + 1) (((w4.alloc (.map #[] 0)).alloc (.map #[] 0)).alloc (.map #[] 0)) ((((w4.alloc (.map #[] 0)).alloc (.map #[] 0)).alloc (.map #[] 0)).alloc (.cells (ixC cp h R high high w4.heap.size (w4.heap.size + 1) (w4.heap.size + 1 + 1)) 218)) := (Below.refl _ _).alloc (by simp) _
    exact ⟨_, _, _, _, rfl, ⟨by omega, by omega, by omega, by omega, by omega⟩, hx5, hm0.below hb5 (by omega), ⟨by omega, by omega, by omega, (hb5.block _ (by omega)).trans (heap_alloc_new _ _), (hb6.block _ (by omega)).trans hm1, (hb7.block _ (by omega)).trans hm2⟩, hb14.trans ((((((Below.refl _ _).alloc hs _).alloc (by simp; omega) _).alloc (by simp; omega) _).alloc (by simp; omega) _))⟩
end
end Go.Proofs.YtojnlmfahgeidaaGreatDoor

namespace Go.Proofs.YtojnlmfahgeidaaGreatDoor
open Go Go.RowKit
set_option linter.unusedSimpArgs false
set_option linter.unusedVariables false
theorem may00 : mayOpen 0 rf0 0 := ⟨by decide, by decide, by simp, by decide⟩
end Go.Proofs.YtojnlmfahgeidaaGreatDoor

namespace Go.Proofs.YtojnlmfahgeidaaGreatDoor
open Go Go.RowKit
set_option linter.unusedSimpArgs false
set_option linter.unusedVariables false
theorem open_im (cp : Option Addr) (w : World) : Calls Tryz.prog 48 #[.pointer cp, .agg (trC 0 rf0), .int .i64 0] w fun e w' => ∃ x mf ml mc, e = .returned (.tuple #[.pointer (some ⟨x, 0, none⟩), .int .i64 0]) ∧ (w.heap.size ≤ x ∧ w.heap.size ≤ mf ∧ w.heap.size ≤ ml ∧ w.heap.size ≤ mc) ∧ IM w' x mf ml mc cp 0 (fun _ => hd00) (fun _ _ _ => 0) ∧ Below w.heap.size w w' := by
  refine (open_full (by decide) okD_zero (by decide) may00 w).mono ?_
  rintro e w' ⟨x, mf, ml, mc, h1, h2, h3, h4, h5, h6⟩
  refine ⟨x, mf, ml, mc, h1, ⟨h2.1, h2.2.1, h2.2.2.1, h2.2.2.2.1⟩, ⟨h3, ⟨fun _ => none, MapFn.new h5.2.2.2.1, fun i _ p _ => rfl⟩, ⟨fun _ => none, MapFn.new h5.2.2.2.2.1, fun n p j _ => rfl⟩, ⟨0, h5.2.2.2.2.2⟩, ?_⟩, h6⟩
  omega
end Go.Proofs.YtojnlmfahgeidaaGreatDoor

namespace Go.Proofs.YtojnlmfahgeidaaGreatDoor
open Go Go.RowKit
set_option linter.unusedSimpArgs false
set_option linter.unusedVariables false
section
variable {w : World} {x mf ml mc : Nat} {cp : Option Addr} {H : Nat → Hd} {D : Nat → Nat → Nat → Nat}
set_option maxRecDepth 100000 in
set_option maxHeartbeats 4000000 in
theorem IM.high0 (h : IM w x mf ml mc cp 0 H D) : Calls Tryz.prog 135 #[.pointer (some ⟨x, 0, none⟩)] w fun e w' => e = .returned (.tuple #[.int .i64 0, .int .i64 0]) ∧ Below w.heap.size w w' := by
  have c36 : w.cell? ⟨x, 36, none⟩ = some (.int .i64 0) := (h.ix.cell 36).trans rfl
  clear h
  go_enter Tryz.func135, Tryz.ntmps135
  go_wp2_with fail
  go_loopw [8] (fun v wr => w = wr) (fun _ _ => 0)
  case atStart => rfl
  case round =>
    obtain rfl := hrel
    go_wp2_with fail
    go_ret2
    exact ⟨rfl, Below.refl _ _⟩
set_option maxRecDepth 100000 in
set_option maxHeartbeats 4000000 in
theorem IM.begin0 (h : IM w x mf ml mc cp 0 (fun _ => hd00) D) (st : Nat) : Calls Tryz.prog 84 #[.pointer (some ⟨x, 0, none⟩), .int .u64 ((st : Nat) : Int)] w fun e w' => e = .returned (.int .i64 0) ∧ IM w' x mf ml mc cp 1 (hU (fun _ => hd00) 1 (hdN hd00 1 2 1 0 st)) D ∧ Turns (fun z => z = x ∨ z = mf) w w' := by
  have HH := h.high0
  have HM : Hid (∀ V, Below w.heap.size w V → Calls Tryz.prog 49 #[.pointer (some ⟨x, 0, none⟩), .int .i64 2, .int .u64 ((st : Nat) : Int)] V fun e w' => e = .returned (.tuple #[.int .i64 1, .int .i64 0]) ∧ IM w' x mf ml mc cp 1 (hU (fun _ => hd00) 1 (hdN hd00 1 2 1 0 st)) D ∧ Turns (fun z => z = x ∨ z = mf) V w') := fun V hV => (h.below hV).make 1 (by decide) (by decide) rfl (fun m h1 h2 => absurd h2 (by omega)) 2 (.inr rfl) st (by decide)
  clear h
  go_enter Tryz.func84, Tryz.ntmps84
  go_wp2_with fail
  refine HH.mono ?_
  rintro e w2 ⟨rfl, hb2⟩
  have H2 := HM.out w2 hb2
  clear HH HM
  go_wp2_with fail
  refine H2.mono ?_
  rintro e w3 ⟨rfl, hI, hT⟩
  have HE : Hid (IM w3 x mf ml mc cp 1 (hU (fun _ => hd00) 1 (hdN hd00 1 2 1 0 st)) D ∧ Turns (fun z => z = x ∨ z = mf) w w3) := ⟨hI, (Turns.of_below hb2).trans hT fun b hb => .inl hb⟩
  clear hI hT hb2 H2
  go_wp2_with fail
  go_ret
  exact ⟨rfl, HE.out.1, HE.out.2⟩
theorem root_dir (st : Nat) (N : Nat → Int) (S : Nat → ByteArray) : Di (hU (fun _ => hd00) 1 (hdN hd00 1 2 1 0 st)) (fun _ _ _ => 0) 1 0 st N S :=
  ⟨by decide, by decide, rfl, rfl, rfl, rfl, rfl, by decide, fun p hp => absurd hp (Nat.not_lt_zero _), fun q i hi => by
    rw [show inLf 0 q = 0 by unfold inLf; omega]
    rfl⟩
end
def slN : Value → Nat
  | .slice _ n _ => n
  | _ => 0
def nzR : Nat → List Value
  | 0 => []
  | j + 1 => nzR j ++ [.int .i64 0, .int .i64 0, .int .u64 0, .string ⟨#[]⟩, .slice none 0 0]
theorem infoNd : (Tryz.prog.info? 315).map (fun i => (i.zero, i.size, i.bytes)) = some (some (.agg [.int .i64 0, .int .i64 0, .int .u64 0, .string ⟨#[]⟩, .slice none 0 0].toArray), 5, 64) := by kernel_rfl
theorem nd_zero (w : World) : (zeroValue 315).run Tryz.prog w = .ok (.agg #[.int .i64 0, .int .i64 0, .int .u64 0, .string ⟨#[]⟩, .slice none 0 0]) w := di_zero (by kernel_rfl) w
theorem own_frozen {w : World} {B e size g n c m : Nat} {xs : List Value} (h : w.ownsRow B e size (.slice (some ⟨g, 0, none⟩) n c) m xs) (k : Nat) : w.frozen? ⟨g, k, none⟩ = false := by
  rcases h.2 with ⟨hv, _⟩ | ⟨g', cap, cur, hv, hB, hg, _⟩
  · cases hv
  · injection hv with hv _ _
    injection hv with hv
    injection hv with hv
    subst hv
    exact Blk.frozen (t := e) (cs := cur) hg k
theorem blk_news {w : World} {g t : Nat} {cs : List Value} (h : Blk w g t cs.toArray) (j : Nat) (u : Value) (hu : cs[j]? = some u) : w.cell? ((⟨g, 0, none⟩ : Addr).add j) = some u := by
  rw [Addr.add_mid, Nat.zero_add, h.cell]
  simpa using hu
set_option maxRecDepth 100000 in
set_option maxHeartbeats 8000000 in
theorem with22_nil (st : Int) (w : World) : Calls Tryz.prog 190 #[.slice none 0 0, .int .i64 1, .agg #[.int .i64 2, .int .i64 1, .int .u64 st, .string ⟨#[]⟩, .slice none 0 0]] w fun e w' => ∃ v, e = .returned v ∧ Below w.heap.size w w' := by
  obtain ⟨i0, hi0, hz0, hz1, hz2⟩ := info_parts infoNd
  have hz := nd_zero
  have b0 : Blk ((w.alloc (.cells #[.int .i64 2, .int .i64 1, .int .u64 st, .string ⟨#[]⟩, .slice none 0 0] 315)).alloc (.cells #[] 315)) w.heap.size 315 #[.int .i64 2, .int .i64 1, .int .u64 st, .string ⟨#[]⟩, .slice none 0 0] := Blk.alloc (Blk.new _ _ _) _
  have HE0 : Hid (((w.alloc (.cells #[.int .i64 2, .int .i64 1, .int .u64 st, .string ⟨#[]⟩, .slice none 0 0] 315)).alloc (.cells #[] 315)).ownsRow (w.heap.size + 1) 315 5 (.slice (some ⟨w.heap.size + 1, 0, none⟩) 0 0) 0 []) := kown_empty (Blk.new1 _ _ _ _) (Nat.le_refl _)
  have hb : Below w.heap.size w ((w.alloc (.cells #[.int .i64 2, .int .i64 1, .int .u64 st, .string ⟨#[]⟩, .slice none 0 0] 315)).alloc (.cells #[] 315)) := below_new2 _ _ _
  go_enter Tryz.func190, Tryz.ntmps190
  go_wp2_with (first | (at_builtin; refine wpList_append_own_none rfl _ _ 152 rfl (w.heap.size + 1) 315 i0 5 Tryz.underlying152 hi0 _ 0 [] rfl HE0.out rfl ?_; simp only [Act.put, List.setIfInBounds_toArray, List.set_cons_zero, List.set_cons_succ]) | fail)
  generalize ((w.alloc (.cells #[.int .i64 2, .int .i64 1, .int .u64 st, .string ⟨#[]⟩, .slice none 0 0] 315)).alloc (.cells #[] 315)) = w1 at *
  have HB1 : Hid (Below w.heap.size w w1 ∧ Blk w1 w.heap.size 315 #[.int .i64 2, .int .i64 1, .int .u64 st, .string ⟨#[]⟩, .slice none 0 0]) := ⟨hb, b0⟩
  clear hb b0
  have hs1 : w.heap.size + 1 < w1.heap.size := (HE0.out.lt (w.heap.size + 1) rfl).2
  go_loopw [7] (fun v wr => Hid (∃ (j : Nat) (a : Option Addr) (c : Nat), j ≤ 2 ∧ v = .slice a j c ∧ wr.ownsRow (w.heap.size + 1) 315 5 (.slice a j c) j (nzR j) ∧ Below (w.heap.size + 1) w1 wr)) (fun v _ => 2 - slN v)
  case atStart => exact ⟨0, _, _, by decide, rfl, HE0.out, Below.refl _ _⟩
  case round =>
    obtain ⟨j, a, c, hj, rfl, hown, hbl⟩ := Hid.out hrel
    have HO : Hid (wr.ownsRow (w.heap.size + 1) 315 5 (.slice a j c) j (nzR j)) := hown
    have HBL : Hid (Below (w.heap.size + 1) w1 wr) := hbl
    clear hrel hown hbl HE0
    by_cases h1 : j ≤ 1
    · have i1 : (j : Int) ≤ 1 := by omega
      have HOA : Hid ((wr.alloc (.cells #[.int .i64 0, .int .i64 0, .int .u64 0, .string ⟨#[]⟩, .slice none 0 0] 315)).ownsRow (w.heap.size + 1) 315 5 (.slice a j c) j (nzR j)) := HO.out.alloc _
      have HNW : Hid (∀ k u, [.int .i64 0, .int .i64 0, .int .u64 0, .string ⟨#[]⟩, .slice none 0 0][k]? = some u → (wr.alloc (.cells #[.int .i64 0, .int .i64 0, .int .u64 0, .string ⟨#[]⟩, .slice none 0 0] 315)).cell? ((⟨wr.heap.size, 0, none⟩ : Addr).add k) = some u) := blk_news (Blk.new wr 315 #[.int .i64 0, .int .i64 0, .int .u64 0, .string ⟨#[]⟩, .slice none 0 0])
      have HBA : Hid (Below (w.heap.size + 1) w1 (wr.alloc (.cells #[.int .i64 0, .int .i64 0, .int .u64 0, .string ⟨#[]⟩, .slice none 0 0] 315))) := HBL.out.trans ((below_new1 _ _).mono (Nat.le_trans (Nat.le_of_lt hs1) HBL.out.size))
      clear HO
      go_wp2_with (first | (at_builtin; refine wpList_append_own _ rfl _ _ 152 rfl (w.heap.size + 1) 315 i0 (.agg #[.int .i64 0, .int .i64 0, .int .u64 0, .string ⟨#[]⟩, .slice none 0 0]) 5 64 Tryz.underlying152 hi0 hz0 hz1 hz2 rfl (by decide) _ j _ rfl HOA.out ⟨wr.heap.size, 0, none⟩ 1 1 [.int .i64 0, .int .i64 0, .int .u64 0, .string ⟨#[]⟩, .slice none 0 0] rfl rfl HNW.out (fun y hy => by simp at hy; rcases hy with rfl | rfl | rfl | rfl <;> rfl) (by unfold maxLen; omega) (by omega) (by have := HBL.out.size; simp; omega) (fun v2 U2 ho2 hg2 hn2 => ?_); simp only [Act.put, List.setIfInBounds_toArray, List.set_cons_zero, List.set_cons_succ]) | fail)
      obtain ⟨a', c', rfl⟩ := kown_slice ho2
      have HO2 : Hid (U2.ownsRow (w.heap.size + 1) 315 5 (.slice a' (j + 1) c') (j + 1) (nzR (j + 1))) := ho2
      have HB2 : Hid (Below (w.heap.size + 1) w1 U2) := HBA.out.trans ((Below.refl _ _).grown hg2 (by have := HBA.out.size; omega) (fun k hk => (HOA.out.lt k hk).1))
      clear ho2 hg2 hn2 HOA HNW HBA HBL
      go_wp2_with fail
      go_roundw
      case rel => exact ⟨j + 1, a', c', by omega, rfl, HO2.out, HB2.out⟩
      case measure => simp [slN]; omega
    · have hj2 : j = 2 := by omega
      subst hj2
      obtain ⟨g, c', e1, hBg, hgl⟩ := kown_form HO.out (by decide)
      injection e1 with e1 _ e2
      subst e1 e2
      have bx : Blk wr w.heap.size 315 #[.int .i64 2, .int .i64 1, .int .u64 st, .string ⟨#[]⟩, .slice none 0 0] := HB1.out.2.below HBL.out (by omega)
      have x0 := (bx.cell 0).trans rfl
      have y0 : wr.cell? ⟨g, 5, none⟩ = some (.int .i64 0) := (HO.out.cellAt 5 (by decide)).trans rfl
      have z0 : wr.frozen? ⟨g, 5, none⟩ = false := own_frozen HO.out 5
      have x1 := (bx.cell 1).trans rfl
      have y1 : wr.cell? ⟨g, 6, none⟩ = some (.int .i64 0) := (HO.out.cellAt 6 (by decide)).trans rfl
      have z1 : wr.frozen? ⟨g, 6, none⟩ = false := own_frozen HO.out 6
      have x2 := (bx.cell 2).trans rfl
      have y2 : wr.cell? ⟨g, 7, none⟩ = some (.int .u64 0) := (HO.out.cellAt 7 (by decide)).trans rfl
      have z2 : wr.frozen? ⟨g, 7, none⟩ = false := own_frozen HO.out 7
      have x3 := (bx.cell 3).trans rfl
      have y3 : wr.cell? ⟨g, 8, none⟩ = some (.string ⟨#[]⟩) := (HO.out.cellAt 8 (by decide)).trans rfl
      have z3 : wr.frozen? ⟨g, 8, none⟩ = false := own_frozen HO.out 8
      have x4 := (bx.cell 4).trans rfl
      have y4 : wr.cell? ⟨g, 9, none⟩ = some (.slice none 0 0) := (HO.out.cellAt 9 (by decide)).trans rfl
      have z4 : wr.frozen? ⟨g, 9, none⟩ = false := own_frozen HO.out 9
      have HBW : Hid (Below w.heap.size w wr) := HB1.out.1.trans (HBL.out.mono (by omega))
      have HBE : Hid (Below w.heap.size w (((((wr.setCell ⟨g, 5, none⟩ (.int .i64 2)).setCell ⟨g, 6, none⟩ (.int .i64 1)).setCell ⟨g, 7, none⟩ (.int .u64 st)).setCell ⟨g, 8, none⟩ (.string ⟨#[]⟩)).setCell ⟨g, 9, none⟩ (.slice none 0 0))) := (((((HBW.out.setCell (p := ⟨g, 5, none⟩) (by show w.heap.size ≤ g; omega) (.int .i64 2)).setCell (p := ⟨g, 6, none⟩) (by show w.heap.size ≤ g; omega) (.int .i64 1)).setCell (p := ⟨g, 7, none⟩) (by show w.heap.size ≤ g; omega) (.int .u64 st)).setCell (p := ⟨g, 8, none⟩) (by show w.heap.size ≤ g; omega) (.string ⟨#[]⟩)).setCell (p := ⟨g, 9, none⟩) (by show w.heap.size ≤ g; omega) (.slice none 0 0))
      clear bx HO HBL HB1 HBW
      go_wp2_with fail
      go_ret
      first | exact HBE.out | exact ⟨_, rfl, HBE.out⟩ | exact ⟨⟨_, rfl⟩, HBE.out⟩ | exact ⟨_, HBE.out⟩
set_option maxRecDepth 100000 in
set_option maxHeartbeats 4000000 in
theorem rbegin22_nil (st : Int) (w : World) : Calls Tryz.prog 130 #[.slice none 0 0, .int .u64 st] w fun e w' => ∃ v, e = .returned (.tuple #[v, .int .i64 0]) ∧ Below w.heap.size w w' := by
  have HW : Hid (∀ w : World, Calls Tryz.prog 190 #[.slice none 0 0, .int .i64 1, .agg #[.int .i64 2, .int .i64 1, .int .u64 st, .string ⟨#[]⟩, .slice none 0 0]] w fun e w' => ∃ v, e = .returned v ∧ Below w.heap.size w w') := with22_nil st
  go_enter Tryz.func130, Tryz.ntmps130
  go_wp2_with fail
  go_loopw [10] (fun v wr => v = .int .i64 0 ∧ w = wr) (fun _ _ => 0)
  case atStart => exact ⟨rfl, rfl⟩
  case round =>
    obtain ⟨rfl, rfl⟩ := hrel
    go_wp2_with fail
    refine (HW.out _).mono ?_
    rintro e w2 ⟨v, rfl, hb2⟩
    have HB : Hid (Below w.heap.size w w2) := hb2
    clear hb2 HW
    go_wp2_with fail
    go_ret2
    exact ⟨v, rfl, HB.out⟩
set_option maxRecDepth 100000 in
set_option maxHeartbeats 4000000 in
theorem begun22_any (st : Nat) (w : World) : Calls Tryz.prog 77 #[.int .u64 ((st : Nat) : Int)] w fun e w' => ∃ x mf ml mc cp v, e = .returned (.tuple #[.pointer (some ⟨x, 0, none⟩), v, .bool true]) ∧ (w.heap.size ≤ x ∧ w.heap.size ≤ mf ∧ w.heap.size ≤ ml ∧ w.heap.size ≤ mc) ∧ IM w' x mf ml mc cp 1 (hU (fun _ => hd00) 1 (hdN hd00 1 2 1 0 st)) (fun _ _ _ => 0) ∧ Below w.heap.size w w' := by
  have hbt := built_tr0
  have HN : Hid (∀ w : World, Calls Tryz.prog 46 #[.int .i64 64] w fun e w' => ∃ g, e = .returned (.tuple #[.pointer (some ⟨g, 0, none⟩), .int .i64 0]) ∧ Below w.heap.size w w') := fun w => (diskNew_any 64 (by decide) (by decide) w).mono fun e w' ⟨g, q, h1, _, _, h2⟩ => ⟨g, h1, h2⟩
  have HL : Hid (∀ w : World, Calls Tryz.prog 129 #[] w fun e w' => ∃ g, e = .returned (.pointer (some ⟨g, 0, none⟩)) ∧ Below w.heap.size w w') := fun w => (newLog_any w).mono fun e w' ⟨g, r, h1, _, _, _, h2⟩ => ⟨g, h1, h2⟩
  have HC : Hid (∀ (g k : Nat) (w : World), Calls Tryz.prog 47 #[.pointer (some ⟨g, 0, none⟩), .pointer (some ⟨k, 0, none⟩), .int .i64 16] w fun e w' => ∃ c, e = .returned (.tuple #[.pointer (some ⟨c, 0, none⟩), .int .i64 0]) ∧ Below w.heap.size w w') := fun g k w => (caNew_ok g (some ⟨k, 0, none⟩) 16 (by decide) (by decide) w).mono fun e w' ⟨c, m, h1, _, _, _, h2⟩ => ⟨c, h1, h2⟩
  have HO : Hid (∀ (c : Nat) (w : World), Calls Tryz.prog 48 #[.pointer (some ⟨c, 0, none⟩), .agg (trC 0 rf0), .int .i64 0] w fun e w' => ∃ x mf ml mc, e = .returned (.tuple #[.pointer (some ⟨x, 0, none⟩), .int .i64 0]) ∧ (w.heap.size ≤ x ∧ w.heap.size ≤ mf ∧ w.heap.size ≤ ml ∧ w.heap.size ≤ mc) ∧ IM w' x mf ml mc (some ⟨c, 0, none⟩) 0 (fun _ => hd00) (fun _ _ _ => 0) ∧ Below w.heap.size w w') := fun c w => open_im (some ⟨c, 0, none⟩) w
  have HR : Hid (∀ w : World, Calls Tryz.prog 130 #[.slice none 0 0, .int .u64 ((st : Nat) : Int)] w fun e w' => ∃ v, e = .returned (.tuple #[v, .int .i64 0]) ∧ Below w.heap.size w w') := rbegin22_nil _
  go_enter Tryz.func77, Tryz.ntmps77
  go_wp2_with fail
  refine (HN.out _).mono ?_
  rintro e w1 ⟨d, rfl, hb1⟩
  clear HN
  go_wp2_with fail
  refine (HL.out _).mono ?_
  rintro e w2 ⟨k, rfl, hb2⟩
  have hb12 := hb1.trans (hb2.mono hb1.size)
  clear HL hb1 hb2
  go_wp2_with fail
  refine (HC.out _ _ _).mono ?_
  rintro e w3 ⟨c, rfl, hb3⟩
  have hb13 := hb12.trans (hb3.mono hb12.size)
  clear HC hb12 hb3
  go_wp2_with (first
    | (refine wpList_buildTo (by rfl) 122 #[] (by rfl) _ rfl (trC 0 rf0) (by exact hbt) ?_; simp only [Act.put, List.setIfInBounds_toArray, List.set_cons_zero, List.set_cons_succ])
    | fail)
  refine (HO.out _ _).mono ?_
  rintro e w4 ⟨x, mf, ml, mc, rfl, hbs, hI4, hb4⟩
  have hz := hb13.size
  have hb14 := hb13.trans (hb4.mono hb13.size)
  have HX : Hid (w.heap.size ≤ x ∧ w.heap.size ≤ mf ∧ w.heap.size ≤ ml ∧ w.heap.size ≤ mc) := ⟨by omega, by omega, by omega, by omega⟩
  have HI4 : Hid (∀ V, Below w4.heap.size w4 V → IM V x mf ml mc (some ⟨c, 0, none⟩) 0 (fun _ => hd00) (fun _ _ _ => 0)) := fun V hV => hI4.below hV
  clear HO hbs hb13 hb4 hI4 hz hbt
  go_wp2_with fail
  refine (HR.out _).mono ?_
  rintro e w5 ⟨v, rfl, hb5⟩
  have H5 := (HI4.out w5 hb5).begin0 st
  have hb15 := hb14.trans (hb5.mono hb14.size)
  clear HR HI4 hb14 hb5
  go_wp2_with fail
  refine H5.mono ?_
  rintro e w6 ⟨rfl, hI6, hT6⟩
  have HE : Hid (IM w6 x mf ml mc (some ⟨c, 0, none⟩) 1 (hU (fun _ => hd00) 1 (hdN hd00 1 2 1 0 st)) (fun _ _ _ => 0) ∧ Below w.heap.size w w6) := ⟨hI6, hb15.trans (hT6.below hb15.size (fun b hb => by have := HX.out; rcases hb with rfl | rfl <;> omega))⟩
  clear hI6 hT6 H5 hb15
  go_wp2_with fail
  go_ret3
  exact ⟨x, mf, ml, mc, _, v, rfl, HX.out, HE.out.1, HE.out.2⟩
theorem pr_a : ∃ Nl i, prs [47, 97] = (Nl, false, i, 0) := ⟨(prs [47, 97]).1, (prs [47, 97]).2.2.1, by kernel_rfl⟩
theorem sp_a : splR [47, 97] = ([], true, ⟨#[97]⟩, 0) := by kernel_rfl
set_option maxRecDepth 100000 in
set_option maxHeartbeats 4000000 in
theorem awake22_any (w : World) : Calls Tryz.prog 41 #[] w fun e w' => e = .returned (.bool true) ∧ Below w.heap.size w w' := by
  have HB := begun22_any 1 w
  obtain ⟨Nl, i, hp⟩ := pr_a
  have hpa : prs (⟨#[47, 97]⟩ : ByteArray).data.toList = (Nl, false, i, 0) := hp
  go_enter Tryz.func41, Tryz.ntmps41
  go_wp2_with fail
  refine HB.mono ?_
  rintro e w1 ⟨x, mf, ml, mc, cp, v, rfl, hx, hI, hb1⟩
  have HM := hI.mkdirRoot (root_dir 1 (fun _ => 0) (fun _ => ⟨#[]⟩)) rfl (by decide) ⟨#[47, 97]⟩ ⟨#[97]⟩ Nl i hpa sp_a (by decide) (by decide) 2
  have HX : Hid (w.heap.size ≤ x) := hx.1
  have HB1 : Hid (Below w.heap.size w w1) := hb1
  clear HB hI hb1 hx hp hpa
  go_wp2_with fail
  refine HM.mono ?_
  rintro e w2 ⟨rfl, hT⟩
  have HE : Hid (Below w.heap.size w w2) := HB1.out.trans (hT.below HB1.out.size (fun b hb => by have := HX.out; omega))
  clear hT HM HX HB1
  go_wp2_with fail
  go_ret
  exact ⟨rfl, HE.out⟩
end Go.Proofs.YtojnlmfahgeidaaGreatDoor

namespace Go.Proofs.YtojnlmfahgeidaaGreatDoor
open Go Go.RowKit
set_option linter.unusedSimpArgs false
set_option linter.unusedVariables false
set_option maxRecDepth 100000 in
set_option maxHeartbeats 8000000 in
theorem branchNoneLaw (kd st : Int) (p q : ByteArray) (ba : Option Addr) (bn bc : Nat) (w : World) : Calls Tryz.prog 9 #[.agg #[.int .i64 kd, .string p, .string q, .int .u64 st, .slice ba bn bc]] w fun e w' => e = .returned (.bool true) ∧ Below w.heap.size w w' := by
  have HA : Hid (∀ V : World, Calls Tryz.prog 41 #[] V fun e w' => e = .returned (.bool true) ∧ Below V.heap.size V w') := awake22_any
  have HC : Hid (∀ V : World, Calls Tryz.prog 43 #[.pointer none, .string p, .string q, .int .u64 st] V fun e w' => e = .returned (.tuple #[.int .i64 0, .int .i64 1]) ∧ Below V.heap.size V w') := brcopy_nil p q st
  have HR : Hid (∀ V : World, Calls Tryz.prog 44 #[.pointer none, .string p, .int .u64 st, .nilFunc] V fun e w' => e = .returned (.tuple #[.int .i64 0, .int .i64 1]) ∧ Below V.heap.size V w') := brremoveall_nil p st .nilFunc (.inl rfl)
  have HS : Hid (∀ V : World, Calls Tryz.prog 45 #[.pointer none, .string p, .string q] V fun e w' => e = .returned (.tuple #[.bool false, .int .i64 1]) ∧ Below V.heap.size V w') := brsame_nil p q
  have b0 : Blk (w.alloc (.cells #[.int .i64 kd, .string p, .string q, .int .u64 st, .slice ba bn bc] 101)) w.heap.size 101 #[.int .i64 kd, .string p, .string q, .int .u64 st, .slice ba bn bc] := Blk.new _ _ _
  have hb : Below w.heap.size w (w.alloc (.cells #[.int .i64 kd, .string p, .string q, .int .u64 st, .slice ba bn bc] 101)) := below_new1 _ _
  have c0 := (b0.cell 0).trans rfl
  have c1 := (b0.cell 1).trans rfl
  have c2 := (b0.cell 2).trans rfl
  have c3 := (b0.cell 3).trans rfl
  have c4 := (b0.cell 4).trans rfl
  go_enter Tryz.func9, Tryz.ntmps9
  go_wp2_with fail
  generalize (w.alloc (.cells #[.int .i64 kd, .string p, .string q, .int .u64 st, .slice ba bn bc] 101)) = w1 at *
  refine (HC.out _).mono ?_
  rintro e w2 ⟨rfl, hb2⟩
  have b2 := b0.below hb2 b0.lt
  have hb12 := hb.trans (hb2.mono hb.size)
  clear c0 c1 c2 c3 c4 b0 hb hb2 HC
  have c0 := (b2.cell 0).trans rfl
  have c1 := (b2.cell 1).trans rfl
  have c2 := (b2.cell 2).trans rfl
  have c3 := (b2.cell 3).trans rfl
  have c4 := (b2.cell 4).trans rfl
  go_wp2_with fail
  refine (HR.out _).mono ?_
  rintro e w3 ⟨rfl, hb3⟩
  have b3 := b2.below hb3 b2.lt
  have hb13 := hb12.trans (hb3.mono hb12.size)
  clear c0 c1 c2 c3 c4 b2 hb12 hb3 HR
  have c0 := (b3.cell 0).trans rfl
  have c1 := (b3.cell 1).trans rfl
  have c2 := (b3.cell 2).trans rfl
  have c3 := (b3.cell 3).trans rfl
  have c4 := (b3.cell 4).trans rfl
  go_wp2_with fail
  refine (HS.out _).mono ?_
  rintro e w4 ⟨rfl, hb4⟩
  have hb14 := hb13.trans (hb4.mono hb13.size)
  clear c0 c1 c2 c3 c4 b3 hb13 hb4 HS
  go_wp2_with fail
  refine (HA.out _).mono ?_
  rintro e w5 ⟨rfl, hb5⟩
  have HB : Hid (Below w.heap.size w w5) := hb14.trans (hb5.mono hb14.size)
  clear hb5 hb14 HA
  go_wp2_with fail
  go_ret
  exact ⟨rfl, HB.out⟩
end Go.Proofs.YtojnlmfahgeidaaGreatDoor

namespace Go.Proofs.YtojnlmfahgeidaaGreatDoor
open Go.ChangeShapes Go.WideShapes Go.ChangeAt Go.RowKit Go.Joins
set_option linter.unusedVariables false
set_option linter.unusedSimpArgs false
set_option maxRecDepth 100000 in
theorem open_act22c {H : Type} {enc : TypeId × Value → H} {W : World} {fuel : Nat} {l : List Value} {x : DataW H × List MemPlace} (hl : l.length = 5)
    (hf : DataW.trod enc Tryz.prog W 0 (fun _ => true) true fuel 101 l = some x) :
    ∃ (kd : Int) (p q : ByteArray) (st : Int) (ba : Option Addr) (bn bc : Nat), l = [.int .i64 kd, .string p, .string q, .int .u64 st, .slice ba bn bc] := by
  have hci : Tryz.prog.cellsOf 3 = 1 := by kernel_rfl
  have hcs : Tryz.prog.cellsOf 9 = 1 := by kernel_rfl
  have hcu : Tryz.prog.cellsOf 26 = 1 := by kernel_rfl
  have hcl : Tryz.prog.cellsOf 78 = 1 := by kernel_rfl
  obtain ⟨xs, k, hk, hxy, _, hxl, hfs⟩ := DataW.trod_struct Tryz.underlying101 hf
  match xs, hxl, l, hl with
  | [y0, y1, y2, y3, y4], _, [v0, v1, v2, v3, v4], _ =>
    have g0 := hfs 0 _ rfl
    have g1 := hfs 1 _ rfl
    have g2 := hfs 2 _ rfl
    have g3 := hfs 3 _ rfl
    have g4 := hfs 4 _ rfl
    simp [hci, hcs, hcu, hcl] at g0 g1 g2 g3 g4
    obtain ⟨a, e0, _, w0⟩ := DataW.trod_int Tryz.underlying3 g0
    obtain ⟨b, e1, _, w1⟩ := DataW.trod_string Tryz.underlying9 g1
    obtain ⟨c, e2, _, w2⟩ := DataW.trod_string Tryz.underlying9 g2
    obtain ⟨d, e3, _, w3⟩ := DataW.trod_int Tryz.underlying26 g3
    simp at e0 e1 e2 e3
    subst e0 e1 e2 e3
    have e4 : ∃ (s0 : Option Addr) (n0 p0 : Nat), v4 = .slice s0 n0 p0 := by
      rcases Deep.open_slice Tryz.underlying78 g4 with ⟨hcs', _⟩ | ⟨ad, len', cap', m, n, D, Pl, hcs', _⟩
      · simp at hcs'
        exact ⟨none, 0, 0, hcs'⟩
      · simp at hcs'
        exact ⟨some ad, len', cap', hcs'⟩
    obtain ⟨s0, n0, p0, rfl⟩ := e4
    exact ⟨a, b, c, d, s0, n0, p0, rfl⟩
set_option maxRecDepth 100000 in
theorem open_act22 {H : Type} {enc : TypeId × Value → H} {W : World} {r : Reach} {b0 : Nat} {v : Value} {d : DataW H} {p : List MemPlace}
    (hv : Value.okWide Tryz.prog W r b0 101 v) (h : DataW.Trod enc Tryz.prog W 0 (fun _ => true) true 101 v d p) :
    ∃ (kd : Int) (p q : ByteArray) (st : Int) (ba : Option Addr) (bn bc : Nat), v = .agg #[.int .i64 kd, .string p, .string q, .int .u64 st, .slice ba bn bc] := by
  obtain ⟨cs, rfl, hcs⟩ := okWide_struct Tryz.underlying101 hv
  obtain ⟨fuel, hf⟩ := h
  have hc : Tryz.prog.cellsOf 101 = 5 := by kernel_rfl
  rw [hc] at hcs
  obtain ⟨l, rfl⟩ : ∃ l : List Value, cs = l.toArray := ⟨cs.toList, by simp⟩
  have hl : l.length = 5 := by simpa using hcs
  obtain ⟨kd, p0, q, st, ba, bn, bc, rfl⟩ := open_act22c hl (show DataW.trod enc Tryz.prog W 0 (fun _ => true) true fuel 101 l = some (d, p) by simpa [Value.cells] using hf)
  exact ⟨kd, p0, q, st, ba, bn, bc, rfl⟩
end Go.Proofs.YtojnlmfahgeidaaGreatDoor
