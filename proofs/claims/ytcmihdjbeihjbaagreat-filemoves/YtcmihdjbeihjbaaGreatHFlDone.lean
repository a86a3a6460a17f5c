/- What a deed should make of a file: the statement's done. -/
import Derived.Test.YtcmihdjbeihjbaaGreatHInsMem
import Derived.Test.YtcmihdjbeihjbaaGreatHGrNew
import Derived.Handy
import Derived.Test.YtcmihdjbeihjbaaGreatHInsCalls
import Derived.Test.YtcmihdjbeihjbaaGreatHCaKit
import Derived.Test.YtcmihdjbeihjbaaGreatHTrRead
import Derived.Test.YtcmihdjbeihjbaaGreatHIoKit
import Derived.Test.YtcmihdjbeihjbaaGreatHInsPut
import Derived.BigRegion

namespace Go.Proofs.YtcmihdjbeihjbaaGreat
open Go Go.RowKit
set_option linter.unusedSimpArgs false
set_option linter.unusedVariables false
/-- a table that may be opened -/
def mayOpen (h : Int) (R : Rf) (high : Int) : Prop := (0 ≤ high ∧ high ≤ 4096) ∧ h = hL 4 high ∧ (decide (R = rf0) = decide (high = 0)) ∧ rOk R = true
theorem ti_c0 {w : World} {b t : Nat} {h : Int} {R : Rf} (H : Blk w b t (trC h R)) : w.cell? ⟨b, 0, none⟩ = some (.int .i64 h) := H.cv (n := 34) (by decide)
theorem wpList_build7 {P : Program} {ops : Array Oper} {rest : List Oper} {o : Oper} {a : Act} {w : World} {Q : Exit → Act → World → Prop} (hg : o.guard = none) (t : TypeId) (x0 x1 x2 x3 x4 x5 x6 : Operand) (ho : o.op = .build t #[(0, x0), (1, x1), (2, x2), (3, x3), (4, x4), (5, x5), (6, x6)]) (v0 v1 v2 v3 v4 v5 v6 : Value) (h0 : a.eval x0 = v0) (h1 : a.eval x1 = v1) (h2 : a.eval x2 = v2) (h3 : a.eval x3 = v3) (h4 : a.eval x4 = v4) (h5 : a.eval x5 = v5) (h6 : a.eval x6 = v6)
    (cells : Array Value) (hf : P.built t [(0, v0), (1, v1), (2, v2), (3, v3), (4, v4), (5, v5), (6, v6)] = some cells) (h : wpList P ops Q rest (a.put o.dst (.agg cells)) w) : wpList P ops Q (o :: rest) a w := by
  refine wpList_buildTo hg t _ ho o.dst rfl cells ?_ h
  have e : (Array.map (fun (x : Nat × Operand) => match x with | (i, x) => (i, a.eval x)) #[(0, x0), (1, x1), (2, x2), (3, x3), (4, x4), (5, x5), (6, x6)]).toList = [(0, v0), (1, v1), (2, v2), (3, v3), (4, v4), (5, v5), (6, v6)] := by simp [h0, h1, h2, h3, h4, h5, h6]
  rw [e]
  exact hf
section
variable {cp : Option Addr} {h : Int} {R : Rf} {high : Int}
set_option maxRecDepth 100000 in
set_option maxHeartbeats 4000000 in
theorem open_full (hR : R.1 < 4294967296) (hD : okD R.2) (hh : -9223372036854775808 ≤ high ∧ high ≤ 9223372036854775807) (hm : mayOpen h R high) (w : World) : Calls Tryz.prog 13 #[.pointer cp, .agg (trC h R), .int .i64 high] w fun e w' => ∃ x mf ml mc, e = .returned (.tuple #[.pointer (some ⟨x, 0, none⟩), .int .i64 0]) ∧ (w.heap.size ≤ x ∧ w.heap.size ≤ mf ∧ w.heap.size ≤ ml ∧ w.heap.size ≤ mc ∧ x ≠ mf) ∧ Blk w' x 72 (ixC cp h R high high mf ml mc) ∧ MapIs pkV ftV w' mf [] ∧ (mf < ml ∧ ml < mc ∧ mc < x ∧ w'.heap[mf]? = some (.map #[] 0) ∧ w'.heap[ml]? = some (.map #[] 0) ∧ w'.heap[mc]? = some (.map #[] 0)) ∧ Below w.heap.size w w' := by
  have HT := table_any high hh
  have hb1 : Below w.heap.size w (w.alloc (.cells (trC h R) 56)) := below_new1 _ _
  have t1 : Blk (w.alloc (.cells (trC h R) 56)) w.heap.size 56 (trC h R) := Blk.new _ _ _
  have c0 := ti_c0 t1
  have HR1 : Hid ((w.alloc (.cells (trC h R) 56)).rangeAt w.heap.size 1 ((List.range 33).map (rfF R.1 R.2))) := tr_range t1
  have HNo : Hid (∀ w, Calls Tryz.prog 31 #[.agg (rfC R)] w fun e w' => e = .returned (.bool (decide (R = rf0))) ∧ Below w.heap.size w w') := none_any R
  obtain ⟨hg, he, hz, hr⟩ := hm
  have HTT : Hid (∀ w : World, Calls Tryz.prog 30 #[.int .i64 high] w fun e w' => e = .returned (.tuple #[.int .i64 (hL 4 high), .int .i64 0]) ∧ w' = w) := fun w => by
    have := HT w
    rw [if_pos hg] at this
    exact this
  clear HT
  rw [← he] at HTT
  have hok : trOk h R := ⟨hr, by rw [he]; exact hL_lt 4 high⟩
  obtain ⟨nh, hnh⟩ : ∃ nh : Nat, h = (nh : Int) := ⟨h.toNat, by have := hok.2.1; omega⟩
  have HG : Hid (∀ w, Calls Tryz.prog 32 #[.pointer cp, .agg (trC h R)] w fun x w' => ∃ g, x = .returned (.tuple #[.pointer (some ⟨g, 0, none⟩), .int .i64 0]) ∧ Below w.heap.size w w') := fun w => (new_ok nh (4 ^ nh) rfl h hnh R hR hD hok cp w).mono fun e w' ⟨g, m, h1, _, _, _, _, h2⟩ => ⟨g, h1, h2⟩
  obtain ⟨bz, hbz⟩ : ∃ bz, decide (R = rf0) = bz := ⟨_, rfl⟩
  rw [hbz] at HNo hz
  clear hok hR hD he hg hh hbz hnh hr
  by_cases h0 : high = 0
  · subst h0
    rw [decide_eq_true rfl] at hz
    subst hz
    go_enter Tryz.func13, Tryz.ntmps13
    go_wp2_with fail
    generalize (w.alloc (.cells (trC h R) 56)) = w1 at *
    refine (HTT.out _).mono ?_
    rintro e w2 ⟨rfl, hw2⟩
    subst hw2
    go_wp2_with (first
      | (refine wpList_load_blkI (by rfl) 54 _ (by rfl) (w.heap.size) (1) 33 (rfF R.1 R.2) (by rfl) _ (by exact HR1.out) Tryz.underlying54 rfl tsizeRef ?_; simp only [Act.put, List.setIfInBounds_toArray, List.set_cons_zero, List.set_cons_succ])
      | fail)
    refine (HNo.out _).mono ?_
    rintro e w3 ⟨rfl, hb3⟩
    have t3 := t1.below hb3 t1.lt
    have hb13 := hb1.trans (hb3.mono hb1.size)
    clear hb3 t1 hb1 HNo HTT HR1 c0
    go_wp2_with (first
      | (refine wpList_load_rowg (by rfl) 56 _ (by rfl) (w.heap.size) (by rfl) 56 (trC h R) (0, 0) _ (by exact t3) Tryz.underlying56 (by rfl) (sizeTr.trans (by rw [trC_size])) ?_; simp only [Act.put, List.setIfInBounds_toArray, List.set_cons_zero, List.set_cons_succ])
      | fail)
    refine (HG.out _).mono ?_
    rintro e w4 ⟨g4, rfl, hb4⟩
    have hb14 := hb13.trans (hb4.mono hb13.size)
    have t4 := t3.below hb4 t3.lt
    clear hb4 hb13 t3 HG
    have hmm := @run_makeMap Tryz.prog
    have hbt := built_ix cp h R 0 0 w4.heap.size (w4.heap.size + 1) (w4.heap.size + 1 + 1)
    go_wp2_with (first
      | (refine wpList_load_rowg (by rfl) 56 _ (by rfl) (w.heap.size) (by rfl) 56 (trC h R) (0, 0) _ (by exact t4) Tryz.underlying56 (by rfl) (sizeTr.trans (by rw [trC_size])) ?_; simp only [Act.put, List.setIfInBounds_toArray, List.set_cons_zero, List.set_cons_succ])
      | (refine wpList_build7 (by rfl) 72 _ _ _ _ _ _ _ (by rfl) _ _ _ _ _ _ _ (by rfl) (by rfl) (by rfl) (by rfl) (by rfl) (by rfl) (by rfl) (ixC cp h R 0 0 w4.heap.size (w4.heap.size + 1) (w4.heap.size + 1 + 1)) (by exact hbt) ?_; simp only [Act.put, List.setIfInBounds_toArray, List.set_cons_zero, List.set_cons_succ])
      | fail)
    refine bodyPost_ret (results_tmp2 Tryz.results13 _ _ _) rfl ?_
    have hx5 := Blk.new (((w4.alloc (.map #[] 0)).alloc (.map #[] 0)).alloc (.map #[] 0)) 72 (ixC cp h R 0 0 w4.heap.size (w4.heap.size + 1) (w4.heap.size + 1 + 1))
    rw [show (((w4.alloc (.map #[] 0)).alloc (.map #[] 0)).alloc (.map #[] 0)).heap.size = w4.heap.size + 1 + 1 + 1 by simp] at hx5
    have hs := hb14.size
    have hb1 : Below (w4.heap.size + 1) (w4.alloc (.map #[] 0)) (w4.alloc (.map #[] 0)) := Below.refl _ _
    have hb5 : Below (w4.heap.size + 1) (w4.alloc (.map #[] 0)) ((((w4.alloc (.map #[] 0)).alloc (.map #[] 0)).alloc (.map #[] 0)).alloc (.cells (ixC cp h R 0 0 w4.heap.size (w4.heap.size + 1) (w4.heap.size + 1 + 1)) 72)) := ((hb1.alloc (by simp) _).alloc (by simp) _).alloc (by simp) _
    have hm0 : MapIs pkV ftV (w4.alloc (.map #[] 0)) w4.heap.size [] := ⟨#[], 0, heap_alloc_new _ _, rfl⟩
    have hm1 : ((w4.alloc (.map #[] 0)).alloc (.map #[] 0)).heap[w4.heap.size + 1]? = some (.map #[] 0) := by
      have := heap_alloc_new (w4.alloc (.map #[] 0)) (.map #[] 0)
      rw [show (w4.alloc (.map #[] 0)).heap.size = w4.heap.size + 1 by simp] at this
      exact this
    have hm2 : (((w4.alloc (.map #[] 0)).alloc (.map #[] 0)).alloc (.map #[] 0)).heap[w4.heap.size + 1 + 1]? = some (.map #[] 0) := by
      have := heap_alloc_new ((w4.alloc (.map #[] 0)).alloc (.map #[] 0)) (.map #[] 0)
      rw [show ((w4.alloc (.map #[] 0)).alloc (.map #[] 0)).heap.size = w4.heap.size + 1 + 1 by simp] at this
      exact this
    have hb6 : Below (w4.heap.size + 1 + 1) ((w4.alloc (.map #[] 0)).alloc (.map #[] 0)) ((((w4.alloc (.map #[] 0)).alloc (.map #[] 0)).alloc (.map #[] 0)).alloc (.cells (ixC cp h R 0 0 w4.heap.size (w4.heap.size + 1) (w4.heap.size + 1 + 1)) 72)) := ((Below.refl _ _).alloc (by simp) _).alloc (by simp) _
    have hb7 : Below (w4.heap.size + 1 + 1 + 1) (((w4.alloc (.map #[] 0)).alloc (.map #[] 0)).alloc (.map #[] 0)) ((((w4.alloc (.map #[] 0)).alloc (.map #[] 0)).alloc (.map #[] 0)).alloc (.cells (ixC cp h R 0 0 w4.heap.size (w4.heap.size + 1) (w4.heap.size + 1 + 1)) 72)) := (Below.refl _ _).alloc (by simp) _
    exact ⟨_, _, _, _, rfl, ⟨by omega, by omega, by omega, by omega, by omega⟩, hx5, hm0.below hb5 (by omega), ⟨by omega, by omega, by omega, (hb5.block _ (by omega)).trans (heap_alloc_new _ _), (hb6.block _ (by omega)).trans hm1, (hb7.block _ (by omega)).trans hm2⟩, hb14.trans ((((((Below.refl _ _).alloc hs _).alloc (by simp; omega) _).alloc (by simp; omega) _).alloc (by simp; omega) _))⟩
  · have hq0 : (high == 0) = false := by simp [h0]
    rw [decide_eq_false h0] at hz
    subst hz
    go_enter Tryz.func13, Tryz.ntmps13
    go_wp2_with fail
    generalize (w.alloc (.cells (trC h R) 56)) = w1 at *
    refine (HTT.out _).mono ?_
    rintro e w2 ⟨rfl, hw2⟩
    subst hw2
    go_wp2_with (first
      | (refine wpList_load_blkI (by rfl) 54 _ (by rfl) (w.heap.size) (1) 33 (rfF R.1 R.2) (by rfl) _ (by exact HR1.out) Tryz.underlying54 rfl tsizeRef ?_; simp only [Act.put, List.setIfInBounds_toArray, List.set_cons_zero, List.set_cons_succ])
      | fail)
    refine (HNo.out _).mono ?_
    rintro e w3 ⟨rfl, hb3⟩
    have t3 := t1.below hb3 t1.lt
    have hb13 := hb1.trans (hb3.mono hb1.size)
    clear hb3 t1 hb1 HNo HTT HR1 c0
    go_wp2_with (first
      | (refine wpList_load_rowg (by rfl) 56 _ (by rfl) (w.heap.size) (by rfl) 56 (trC h R) (0, 0) _ (by exact t3) Tryz.underlying56 (by rfl) (sizeTr.trans (by rw [trC_size])) ?_; simp only [Act.put, List.setIfInBounds_toArray, List.set_cons_zero, List.set_cons_succ])
      | fail)
    refine (HG.out _).mono ?_
    rintro e w4 ⟨g4, rfl, hb4⟩
    have hb14 := hb13.trans (hb4.mono hb13.size)
    have t4 := t3.below hb4 t3.lt
    clear hb4 hb13 t3 HG
    have hmm := @run_makeMap Tryz.prog
    have hbt := built_ix cp h R high high w4.heap.size (w4.heap.size + 1) (w4.heap.size + 1 + 1)
    go_wp2_with (first
      | (refine wpList_load_rowg (by rfl) 56 _ (by rfl) (w.heap.size) (by rfl) 56 (trC h R) (0, 0) _ (by exact t4) Tryz.underlying56 (by rfl) (sizeTr.trans (by rw [trC_size])) ?_; simp only [Act.put, List.setIfInBounds_toArray, List.set_cons_zero, List.set_cons_succ])
      | (refine wpList_build7 (by rfl) 72 _ _ _ _ _ _ _ (by rfl) _ _ _ _ _ _ _ (by rfl) (by rfl) (by rfl) (by rfl) (by rfl) (by rfl) (by rfl) (ixC cp h R high high w4.heap.size (w4.heap.size + 1) (w4.heap.size + 1 + 1)) (by exact hbt) ?_; simp only [Act.put, List.setIfInBounds_toArray, List.set_cons_zero, List.set_cons_succ])
      | fail)
    refine bodyPost_ret (results_tmp2 Tryz.results13 _ _ _) rfl ?_
    have hx5 := Blk.new (((w4.alloc (.map #[] 0)).alloc (.map #[] 0)).alloc (.map #[] 0)) 72 (ixC cp h R high high w4.heap.size (w4.heap.size + 1) (w4.heap.size + 1 + 1))
    rw [show (((w4.alloc (.map #[] 0)).alloc (.map #[] 0)).alloc (.map #[] 0)).heap.size = w4.heap.size + 1 + 1 + 1 by simp] at hx5
    have hs := hb14.size
    have hb1 : Below (w4.heap.size + 1) (w4.alloc (.map #[] 0)) (w4.alloc (.map #[] 0)) := Below.refl _ _
    have hb5 : Below (w4.heap.size + 1) (w4.alloc (.map #[] 0)) ((((w4.alloc (.map #[] 0)).alloc (.map #[] 0)).alloc (.map #[] 0)).alloc (.cells (ixC cp h R high high w4.heap.size (w4.heap.size + 1) (w4.heap.size + 1 + 1)) 72)) := ((hb1.alloc (by simp) _).alloc (by simp) _).alloc (by simp) _
    have hm0 : MapIs pkV ftV (w4.alloc (.map #[] 0)) w4.heap.size [] := ⟨#[], 0, heap_alloc_new _ _, rfl⟩
    have hm1 : ((w4.alloc (.map #[] 0)).alloc (.map #[] 0)).heap[w4.heap.size + 1]? = some (.map #[] 0) := by
      have := heap_alloc_new (w4.alloc (.map #[] 0)) (.map #[] 0)
      rw [show (w4.alloc (.map #[] 0)).heap.size = w4.heap.size + 1 by simp] at this
      exact this
    have hm2 : (((w4.alloc (.map #[] 0)).alloc (.map #[] 0)).alloc (.map #[] 0)).heap[w4.heap.size + 1 + 1]? = some (.map #[] 0) := by
      have := heap_alloc_new ((w4.alloc (.map #[] 0)).alloc (.map #[] 0)) (.map #[] 0)
      rw [show ((w4.alloc (.map #[] 0)).alloc (.map #[] 0)).heap.size = w4.heap.size + 1 + 1 by simp] at this
      exact this
    have hb6 : Below (w4.heap.size + 1 + 1) ((w4.alloc (.map #[] 0)).alloc (.map #[] 0)) ((((w4.alloc (.map #[] 0)).alloc (.map #[] 0)).alloc (.map #[] 0)).alloc (.cells (ixC cp h R high high w4.heap.size (w4.heap.size + 1) (w4.heap.size + 1 + 1)) 72)) := ((Below.refl _ _).alloc (by simp) _).alloc (by simp) _
    have hb7 : Below (w4.heap.size + 1 + 1 + 1) (((w4.alloc (.map #[] 0)).alloc (.map #[] 0)).alloc (.map #[] 0)) ((((w4.alloc (.map #[] 0)).alloc (.map #[] 0)).alloc (.map #[] 0)).alloc (.cells (ixC cp h R high high w4.heap.size (w4.heap.size + 1) (w4.heap.size + 1 + 1)) 72)) := (Below.refl _ _).alloc (by simp) _
    exact ⟨_, _, _, _, rfl, ⟨by omega, by omega, by omega, by omega, by omega⟩, hx5, hm0.below hb5 (by omega), ⟨by omega, by omega, by omega, (hb5.block _ (by omega)).trans (heap_alloc_new _ _), (hb6.block _ (by omega)).trans hm1, (hb7.block _ (by omega)).trans hm2⟩, hb14.trans ((((((Below.refl _ _).alloc hs _).alloc (by simp; omega) _).alloc (by simp; omega) _).alloc (by simp; omega) _))⟩
end
end Go.Proofs.YtcmihdjbeihjbaaGreat

namespace Go.Proofs.YtcmihdjbeihjbaaGreat
open Go Go.RowKit
set_option linter.unusedSimpArgs false
set_option linter.unusedVariables false
theorem may00 : mayOpen 0 rf0 0 := ⟨by decide, by decide, by simp, by decide⟩
end Go.Proofs.YtcmihdjbeihjbaaGreat

namespace Go.Proofs.YtcmihdjbeihjbaaGreat
open Go Go.RowKit
set_option linter.unusedSimpArgs false
set_option linter.unusedVariables false
theorem open_im (cp : Option Addr) (w : World) : Calls Tryz.prog 13 #[.pointer cp, .agg (trC 0 rf0), .int .i64 0] w fun e w' => ∃ x mf ml mc, e = .returned (.tuple #[.pointer (some ⟨x, 0, none⟩), .int .i64 0]) ∧ (w.heap.size ≤ x ∧ w.heap.size ≤ mf ∧ w.heap.size ≤ ml ∧ w.heap.size ≤ mc) ∧ IM w' x mf ml mc cp 0 (fun _ => hd00) (fun _ _ _ => 0) ∧ Below w.heap.size w w' := by
  refine (open_full (by decide) okD_zero (by decide) may00 w).mono ?_
  rintro e w' ⟨x, mf, ml, mc, h1, h2, h3, h4, h5, h6⟩
  refine ⟨x, mf, ml, mc, h1, ⟨h2.1, h2.2.1, h2.2.2.1, h2.2.2.2.1⟩, ⟨h3, ⟨fun _ => none, MapFn.new h5.2.2.2.1, fun i _ p _ => rfl⟩, ⟨fun _ => none, MapFn.new h5.2.2.2.2.1, fun n p j _ => rfl⟩, ⟨0, h5.2.2.2.2.2⟩, ?_⟩, h6⟩
  omega
end Go.Proofs.YtcmihdjbeihjbaaGreat

namespace Go.Proofs.YtcmihdjbeihjbaaGreat
open Go Go.RowKit
set_option linter.unusedSimpArgs false
set_option linter.unusedVariables false
/-- a directory and a file, as they are made -/
def bgH : Nat → Hd := hU (hU (fun _ => hd00) 1 (hdN hd00 1 2 1 0 1)) 2 (hdN hd00 2 1 1 0 1)
def bgD : Nat → Nat → Nat → Nat := fun _ _ _ => 0
theorem bg_file : Fi bgH bgD 2 0 1 (fun _ => 0) := ⟨by decide, by decide, rfl, rfl, rfl, rfl, rfl, rfl, by decide, fun q i hi => by rw [if_neg (by omega)]; rfl⟩
/-- inodes that were begun -/
def Beg (w w' : World) (x mf ml mc : Nat) (cp : Option Addr) : Prop := (w.heap.size ≤ x ∧ w.heap.size ≤ mf ∧ w.heap.size ≤ ml ∧ w.heap.size ≤ mc) ∧ IM w' x mf ml mc cp 2 bgH bgD ∧ Below w.heap.size w w'
set_option maxRecDepth 100000 in
set_option maxHeartbeats 4000000 in
theorem begun_any (w : World) : Calls Tryz.prog 4 #[] w fun e w' => ∃ x mf ml mc cp, e = .returned (.tuple #[.pointer (some ⟨x, 0, none⟩), .int .i64 2, .bool true]) ∧ Beg w w' x mf ml mc cp := by
  have hbt := built_tr0
  have HN : Hid (∀ w : World, Calls Tryz.prog 10 #[.int .i64 64] w fun e w' => ∃ g, e = .returned (.tuple #[.pointer (some ⟨g, 0, none⟩), .int .i64 0]) ∧ Below w.heap.size w w') := fun w => (diskNew_any 64 (by decide) (by decide) w).mono fun e w' ⟨g, q, h1, _, _, h2⟩ => ⟨g, h1, h2⟩
  have HG : Hid (∀ w : World, Calls Tryz.prog 12 #[] w fun e w' => ∃ g, e = .returned (.pointer (some ⟨g, 0, none⟩)) ∧ Below w.heap.size w w') := fun w => (newLog_any w).mono fun e w' ⟨g, r, h1, _, _, _, h2⟩ => ⟨g, h1, h2⟩
  have HC : Hid (∀ (g l : Nat) (w : World), Calls Tryz.prog 11 #[.pointer (some ⟨g, 0, none⟩), .pointer (some ⟨l, 0, none⟩), .int .i64 16] w fun e w' => ∃ c, e = .returned (.tuple #[.pointer (some ⟨c, 0, none⟩), .int .i64 0]) ∧ Below w.heap.size w w') := fun g l w => (caNew_ok g (some ⟨l, 0, none⟩) 16 (by decide) (by decide) w).mono fun e w' ⟨c, m, h1, _, _, _, h2⟩ => ⟨c, h1, h2⟩
  have HO : Hid (∀ (c : Nat) (w : World), Calls Tryz.prog 13 #[.pointer (some ⟨c, 0, none⟩), .agg (trC 0 rf0), .int .i64 0] w fun e w' => ∃ x mf ml mc, e = .returned (.tuple #[.pointer (some ⟨x, 0, none⟩), .int .i64 0]) ∧ (w.heap.size ≤ x ∧ w.heap.size ≤ mf ∧ w.heap.size ≤ ml ∧ w.heap.size ≤ mc) ∧ IM w' x mf ml mc (some ⟨c, 0, none⟩) 0 (fun _ => hd00) (fun _ _ _ => 0) ∧ Below w.heap.size w w') := fun c w => open_im (some ⟨c, 0, none⟩) w
  go_enter Tryz.func4, Tryz.ntmps4
  go_wp2_with fail
  refine (HN.out _).mono ?_
  rintro e w2 ⟨d, rfl, hb2⟩
  go_wp2_with fail
  refine (HG.out _).mono ?_
  rintro e w3 ⟨l, rfl, hb3⟩
  have hb13 := hb2.trans (hb3.mono hb2.size)
  clear hb2 hb3 HN HG
  go_wp2_with fail
  refine (HC.out _ _ _).mono ?_
  rintro e w4 ⟨c, rfl, hb4⟩
  have hb14 := hb13.trans (hb4.mono hb13.size)
  clear hb13 hb4 HC
  go_wp2_with (first
    | (refine wpList_buildTo (by rfl) 56 #[] (by rfl) _ rfl (trC 0 rf0) (by exact hbt) ?_; simp only [Act.put, List.setIfInBounds_toArray, List.set_cons_zero, List.set_cons_succ])
    | fail)
  refine (HO.out _ _).mono ?_
  rintro e w5 ⟨x, mf, ml, mc, rfl, hbs, hI5, hb5⟩
  have hb15 := hb14.trans (hb5.mono hb14.size)
  have hz := hb14.size
  have HX : Hid (w.heap.size ≤ x ∧ w.heap.size ≤ mf ∧ w.heap.size ≤ ml ∧ w.heap.size ≤ mc) := ⟨by omega, by omega, by omega, by omega⟩
  have HM1 := hI5.make 1 (by decide) (by decide) rfl (fun m h1 h2 => absurd h2 (by omega)) 2 (.inr rfl) 1 (by decide)
  have HB15 : Hid (Below w.heap.size w w5) := hb15
  clear hb14 hb5 hb15 HO hI5 hbt hbs
  go_wp2_with fail
  refine HM1.mono ?_
  rintro e w6 ⟨rfl, hI6, ht6⟩
  have HM2 := hI6.make 2 (by decide) (by decide) rfl (fun m h1 h2 => by
    have : m = 1 := by omega
    subst this
    decide) 1 (.inl rfl) 1 (by decide)
  have HT6 : Hid (Turns (fun z => z = x ∨ z = mf) w5 w6) := ht6
  clear HM1 hI6 ht6
  go_wp2_with fail
  refine HM2.mono ?_
  rintro e w7 ⟨rfl, hI7, ht7⟩
  have HE : Hid (Beg w w7 x mf ml mc (some ⟨c, 0, none⟩)) := by
    refine ⟨HX.out, hI7, ?_⟩
    have t7 := HT6.out.tr ht7
    have := HX.out
    exact HB15.out.trans (t7.below HB15.out.size (fun b hb => by rcases hb with rfl | rfl; exact this.1; exact this.2.1))
  clear HM2 hI7 ht7
  go_wp2_with fail
  go_ret3
  exact ⟨x, mf, ml, mc, _, rfl, HE.out⟩
end Go.Proofs.YtcmihdjbeihjbaaGreat

namespace Go.Proofs.YtcmihdjbeihjbaaGreat
open Go Go.RowKit
set_option linter.unusedSimpArgs false
set_option linter.unusedVariables false
theorem wrF_lt {F : Nat → Nat} {o : Nat} (hF : ∀ p, p < o → F p < 256) (s : ByteArray) (a p : Nat) : wrF F o s a p < 256 := by
  unfold wrF
  split
  · exact tbyte_lt _ _
  · split
    · rename_i h
      exact hF p h
    · decide
set_option maxRecDepth 100000 in
set_option maxHeartbeats 4000000 in
theorem awake16_any (w : World) : Calls Tryz.prog 5 #[] w fun e w' => e = .returned (.bool true) ∧ Below w.heap.size w w' := by
  have HB := begun_any w
  go_enter Tryz.func5, Tryz.ntmps5
  go_wp2_with fail
  refine HB.mono ?_
  rintro e w1 ⟨x, mf, ml, mc, cp, rfl, hx, hI, hb1⟩
  have HW := hI.writeOk bg_file 300 1 ⟨#[97, 98]⟩ (by decide) (by decide)
  have HX : Hid (w.heap.size ≤ x ∧ w.heap.size ≤ mf ∧ w.heap.size ≤ ml ∧ w.heap.size ≤ mc) := hx
  have HB1 : Hid (Below w.heap.size w w1) := hb1
  clear HB hI hb1 hx
  go_wp2_with fail
  refine HW.mono ?_
  rintro e w2 ⟨rfl, ⟨H', D', hI2, hf2, _⟩, hT2⟩
  have HR := hI2.readF hf2 (fun p _ => wrF_lt (fun p hp => absurd hp (by omega)) _ _ _) 299 9 (by decide) (by decide)
  have hs : strN (fun j => wrF (fun _ => 0) 0 ⟨#[97, 98]⟩ 300 (299 + j)) (thN (max 0 (300 + (⟨#[97, 98]⟩ : ByteArray).size)) 299 9) = ⟨#[0, 97, 98]⟩ := by decide
  rw [hs] at HR
  have HE : Hid (Below w.heap.size w w2) := by
    have := HX.out
    exact HB1.out.trans (hT2.below HB1.out.size (fun b hb => by rcases hb with rfl | rfl; exact this.2.2.1; exact this.2.1))
  clear HW hI2 hf2 hT2 hs
  go_wp2_with fail
  refine HR.mono ?_
  rintro e w3 ⟨rfl, hb3⟩
  have HE3 : Hid (Below w.heap.size w w3) := HE.out.trans (hb3.mono HE.out.size)
  clear HR hb3
  go_wp2_with fail
  go_ret
  exact ⟨rfl, HE3.out⟩
end Go.Proofs.YtcmihdjbeihjbaaGreat

namespace Go.Proofs.YtcmihdjbeihjbaaGreat
open Go Go.RowKit
set_option linter.unusedSimpArgs false
set_option linter.unusedVariables false
/-- the bytes of a range that are there -/
def prT (s : ByteArray) (a m : Nat) : ByteArray := strN (fun j => tbyte s (a + j)) (thN s.size a m)
theorem prT_out (s : ByteArray) (a m : Nat) (h : s.size ≤ a) : prT s a m = ⟨#[]⟩ := by
  have : thN s.size a m = 0 := by unfold thN; omega
  unfold prT
  rw [this]
  rfl
theorem prT_cut (s : ByteArray) (a m : Nat) (h : a < s.size) (hm : m < s.size - a) : (s.extract a s.size).extract 0 m = prT s a m := by
  have hz := extract_size s a s.size (Nat.le_refl _)
  have ht : thN s.size a m = m := by unfold thN; omega
  refine text_ext ?_ fun j hj => ?_
  · unfold prT
    rw [strN_size, extract_size _ _ _ (by omega), ht]
    rfl
  · rw [extract_size _ _ _ (by omega)] at hj
    unfold prT
    rw [tbyte_extract _ _ _ _ (by omega) (by omega), tbyte_extract _ _ _ _ (Nat.le_refl _) (by omega), strN_at (fun j => tbyte s (a + j)) _ j (by omega) (tbyte_lt _ _), Nat.zero_add]
theorem prT_all (s : ByteArray) (a m : Nat) (h : a < s.size) (hm : ¬ m < s.size - a) : s.extract a s.size = prT s a m := by
  have hz := extract_size s a s.size (Nat.le_refl _)
  have ht : thN s.size a m = s.size - a := by unfold thN; omega
  refine text_ext ?_ fun j hj => ?_
  · unfold prT
    rw [strN_size, hz, ht]
  · rw [hz] at hj
    unfold prT
    rw [tbyte_extract _ _ _ _ (Nat.le_refl _) (by omega), strN_at (fun j => tbyte s (a + j)) _ j (by omega) (tbyte_lt _ _)]
set_option maxRecDepth 100000 in
theorem part_any (s : ByteArray) (a m : Nat) (hs : s.size ≤ 140737488355328) (ha : a ≤ 9223372036854775807) (hm : m ≤ 9223372036854775807) (w : World) : Calls Tryz.prog 26 #[.string s, .int .i64 (a : Int), .int .i64 (m : Int)] w fun e w' => e = .returned (.string (prT s a m)) ∧ w' = w := by
  obtain ⟨S, hS⟩ : ∃ S : Nat, s.size = S := ⟨_, rfl⟩
  by_cases h1 : S ≤ a
  · have HP : Hid (prT s a m = ⟨#[]⟩) := prT_out s a m (by omega)
    have t1 : (S : Int) ≤ (a : Int) := by omega
    go_enter Tryz.func26, Tryz.ntmps26
    go_wp2_with fail
    go_ret
    exact ⟨by rw [HP.out]; rfl, rfl⟩
  · have t1 : ¬ ((S : Int) ≤ (a : Int)) := by omega
    have t2 : (0 : Int) ≤ (a : Int) := by omega
    have t3 : (a : Int) ≤ (S : Int) := by omega
    have hz := extract_size s a s.size (Nat.le_refl _)
    rw [hS] at hz
    obtain ⟨T, hT⟩ : ∃ T : Nat, S - a = T := ⟨_, rfl⟩
    rw [hT] at hz
    have t4 : (0 : Int) ≤ (m : Int) := by omega
    by_cases h2 : m < T
    · have HP : Hid ((s.extract a S).extract 0 m = prT s a m) := by rw [← hS]; exact prT_cut s a m (by omega) (by omega)
      have t5 : (m : Int) < (T : Int) := by omega
      have t6 : (m : Int) ≤ (T : Int) := by omega
      clear h1 h2 hT
      go_enter Tryz.func26, Tryz.ntmps26
      go_wp2_with fail
      go_ret
      exact ⟨by rw [← HP.out]; rfl, rfl⟩
    · have HP : Hid (s.extract a S = prT s a m) := by rw [← hS]; exact prT_all s a m (by omega) (by omega)
      have t5 : ¬ ((m : Int) < (T : Int)) := by omega
      clear h1 h2 hT
      go_enter Tryz.func26, Tryz.ntmps26
      go_wp2_with fail
      go_ret
      exact ⟨by rw [← HP.out]; rfl, rfl⟩
/-- a file's model -/
def mdC (s : ByteArray) (st : Nat) : Array Value := #[.string s, .int .u64 ((st : Nat) : Int)]
section
variable {w : World} {x mf ml mc : Nat} {cp : Option Addr} {top : Int} {H : Nat → Hd} {D : Nat → Nat → Nat → Nat} {n st : Nat}
theorem read_whole (s : ByteArray) (h : s.size ≤ 1048576) : strN (fun j => tbyte s (0 + j)) (thN s.size 0 1048577) = s := by
  have : thN s.size 0 1048577 = s.size := by unfold thN; omega
  rw [this, strN_congr (g := tbyte s) fun j _ => by rw [Nat.zero_add]]
  exact strN_text s
set_option maxRecDepth 100000 in
set_option maxHeartbeats 8000000 in
theorem IM.standsF (h : IM w x mf ml mc cp top H D) (s : ByteArray) (hf : Fi H D n s.size st (tbyte s)) (a m : Int) (ha : -9223372036854775808 ≤ a ∧ a ≤ 9223372036854775807) (hm : -9223372036854775808 ≤ m ∧ m ≤ 9223372036854775807) : Calls Tryz.prog 9 #[.pointer (some ⟨x, 0, none⟩), .int .i64 (n : Int), .agg (mdC s st), .int .i64 a, .int .i64 m] w fun e w' => e = .returned (.bool true) ∧ Below w.heap.size w w' := by
  have hsz := hf.le
  have hzi : ∀ w, (zeroValue 62).run Tryz.prog w = .ok (.agg if0) w := zero_info
  have k1 : Blk (w.alloc (.cells (mdC s st) 32)) w.heap.size 32 (mdC s st) := Blk.new _ _ _
  have hb1 : Below w.heap.size w (w.alloc (.cells (mdC s st) 32)) := below_new1 _ _
  have HG := (h.below hb1).getF hf
  have HSZ : Hid (∀ V, Below w.heap.size w V → Calls Tryz.prog 25 #[.pointer (some ⟨x, 0, none⟩), .int .i64 (n : Int)] V fun e w' => e = .returned (.tuple #[.int .i64 (s.size : Int), .int .i64 0]) ∧ Below V.heap.size V w') := fun V hV => (h.below hV).sizeF hf
  have HRB : Hid (∀ V, Below w.heap.size w V → (a < 0 ∨ m < 0) → Calls Tryz.prog 14 #[.pointer (some ⟨x, 0, none⟩), .int .i64 (n : Int), .int .i64 a, .int .i64 m] V fun e w' => e = .returned (.tuple #[.string ⟨#[]⟩, .int .i64 1]) ∧ Below V.heap.size V w') := fun V hV hb => (h.below hV).readBad hf a m hb
  have HRF : Hid (∀ V, Below w.heap.size w V → ∀ a m : Nat, a ≤ 9223372036854775807 → m ≤ 9223372036854775807 → Calls Tryz.prog 14 #[.pointer (some ⟨x, 0, none⟩), .int .i64 (n : Int), .int .i64 (a : Int), .int .i64 (m : Int)] V fun e w' => e = .returned (.tuple #[.string (prT s a m), .int .i64 0]) ∧ Below V.heap.size V w') := fun V hV a m ha hm => (h.below hV).readF hf (fun p _ => tbyte_lt _ _) a m ha hm
  have HRW : Hid (∀ V, Below w.heap.size w V → Calls Tryz.prog 14 #[.pointer (some ⟨x, 0, none⟩), .int .i64 (n : Int), .int .i64 0, .int .i64 1048577] V fun e w' => e = .returned (.tuple #[.string s, .int .i64 0]) ∧ Below V.heap.size V w') := fun V hV => by
    have := (h.below hV).readF hf (fun p _ => tbyte_lt _ _) 0 1048577 (by decide) (by decide)
    rw [read_whole s hsz] at this
    exact this
  obtain ⟨S, hS⟩ : ∃ S : Nat, s.size = S := ⟨_, rfl⟩
  have HZ : Hid (s.size = S ∧ S ≤ 1048576) := ⟨hS, by omega⟩
  rw [hS] at HG HSZ
  unfold fiV at HG
  clear h hf hsz
  go_enter Tryz.func9, Tryz.ntmps9
  go_wp2_with fail
  refine HG.mono ?_
  rintro e w2 ⟨rfl, hb2⟩
  have u1 : Blk (w2.alloc (.cells if0 62)) w2.heap.size 62 if0 := Blk.new _ _ _
  have u2 := u1.set (fiC n S st)
  have hb12 := hb1.trans (hb2.mono hb1.size)
  have hb3 : Below w.heap.size w ((w2.alloc (.cells if0 62)).setRow w2.heap.size (fiC n S st)) := below_setRow (hb12.alloc hb12.size _) hb12.size _
  have k2 := k1.below hb2 k1.lt
  have k3 : Blk ((w2.alloc (.cells if0 62)).setRow w2.heap.size (fiC n S st)) w.heap.size 32 (mdC s st) := (k2.alloc _).other _ (by have := k2.lt; omega)
  have H3 := HSZ.out _ hb3
  clear HG hb1 hb2 hb12 k1 k2
  go_wp2_with (first
    | (refine wpList_store_row (by rfl) 62 _ _ (by rfl) (w2.heap.size) (fiC n S st) (by rfl) (by rfl) 62 if0 (by exact u1) (sizeInfo.trans (by rfl)) (by rfl) (fi_all _ _ _) ?_; simp only [Act.put, List.setIfInBounds_toArray, List.set_cons_zero, List.set_cons_succ])
    | fail)
  clear u1
  obtain ⟨g, hg⟩ : ∃ g, w2.heap.size = g := ⟨_, rfl⟩
  rw [hg] at u2 hb3 k3 H3 ⊢
  generalize (w2.alloc (.cells if0 62)).setRow g (fiC n S st) = w3 at *
  refine H3.mono ?_
  rintro e w4 ⟨rfl, hb4⟩
  have hb14 := hb3.trans (hb4.mono hb3.size)
  obtain ⟨d0, d1, d2, d3, d4⟩ := fi_cs (u2.below hb4 u2.lt)
  have k4 := k3.below hb4 k3.lt
  have m0 : w4.cell? ⟨w.heap.size, 0, none⟩ = some (.string s) := (k4.cell 0).trans rfl
  have m1 : w4.cell? ⟨w.heap.size, 1, none⟩ = some (.int .u64 ((st : Nat) : Int)) := (k4.cell 1).trans rfl
  have HB4 : Hid (Below w.heap.size w w4) := hb14
  have hneS : ((S : Int) != (S : Int)) = false := by simp
  have hneT : ((st : Int) != (st : Int)) = false := by simp
  clear H3 hb3 hb4 k3 u2 hg hb14
  by_cases hbad : a < 0 ∨ m < 0
  · have HR1 := HRB.out w4 HB4.out hbad
    go_wp2_with fail
    refine HR1.mono ?_
    rintro e w5 ⟨rfl, hb5⟩
    have HB5 : Hid (Below w.heap.size w w5) := HB4.out.trans (hb5.mono HB4.out.size)
    have k5 := k4.below hb5 k4.lt
    have HR2 := HRW.out w5 HB5.out
    have m5 : w5.cell? ⟨w.heap.size, 0, none⟩ = some (.string s) := (k5.cell 0).trans rfl
    clear HR1 hb5 m0 m1 k4 d0 d1 d2 d3 d4
    by_cases ha0 : a < 0
    · clear hbad
      go_wp2_with fail
      refine HR2.mono ?_
      rintro e w6 ⟨rfl, hb6⟩
      have HB6 : Hid (Below w.heap.size w w6) := HB5.out.trans (hb6.mono HB5.out.size)
      have m6 : w6.cell? ⟨w.heap.size, 0, none⟩ = some (.string s) := ((k5.below hb6 k5.lt).cell 0).trans rfl
      clear HR2 hb6 m5
      go_wp2_with fail
      go_ret
      exact ⟨rfl, HB6.out⟩
    · have hm0 : m < 0 := by omega
      clear hbad
      go_wp2_with fail
      refine HR2.mono ?_
      rintro e w6 ⟨rfl, hb6⟩
      have HB6 : Hid (Below w.heap.size w w6) := HB5.out.trans (hb6.mono HB5.out.size)
      have m6 : w6.cell? ⟨w.heap.size, 0, none⟩ = some (.string s) := ((k5.below hb6 k5.lt).cell 0).trans rfl
      clear HR2 hb6 m5
      go_wp2_with fail
      go_ret
      exact ⟨rfl, HB6.out⟩
  · obtain ⟨a', rfl⟩ : ∃ a' : Nat, a = (a' : Int) := ⟨a.toNat, by omega⟩
    obtain ⟨m', rfl⟩ : ∃ m' : Nat, m = (m' : Int) := ⟨m.toNat, by omega⟩
    have a0 : ¬ ((a' : Int) < 0) := by omega
    have a1 : ¬ ((m' : Int) < 0) := by omega
    have HR1 := HRF.out w4 HB4.out a' m' (by omega) (by omega)
    have HP := part_any s a' m' (by have := HZ.out; omega) (by omega) (by omega)
    clear hbad ha hm
    go_wp2_with fail
    refine HR1.mono ?_
    rintro e w5 ⟨rfl, hb5⟩
    have HB5 : Hid (Below w.heap.size w w5) := HB4.out.trans (hb5.mono HB4.out.size)
    have k5 := k4.below hb5 k4.lt
    have HR2 := HRW.out w5 HB5.out
    have HP5 := HP w5
    have m5 : w5.cell? ⟨w.heap.size, 0, none⟩ = some (.string s) := (k5.cell 0).trans rfl
    clear HR1 hb5 m0 m1 k4 d0 d1 d2 d3 d4 HP
    go_wp2_with fail
    refine HP5.mono ?_
    rintro e w6 ⟨rfl, hw6⟩
    rw [hw6]
    clear hw6 w6 HP5
    go_wp2_with fail
    refine HR2.mono ?_
    rintro e w6 ⟨rfl, hb6⟩
    have HB6 : Hid (Below w.heap.size w w6) := HB5.out.trans (hb6.mono HB5.out.size)
    have m6 : w6.cell? ⟨w.heap.size, 0, none⟩ = some (.string s) := ((k5.below hb6 k5.lt).cell 0).trans rfl
    clear HR2 hb6 m5
    go_wp2_with fail
    go_ret
    exact ⟨rfl, HB6.out⟩
end
end Go.Proofs.YtcmihdjbeihjbaaGreat

namespace Go.Proofs.YtcmihdjbeihjbaaGreat
open Go Go.RowKit
set_option linter.unusedSimpArgs false
set_option linter.unusedVariables false
/-- a file among inodes that lie above the world w -/
structure BS (w V : World) (x mf ml mc : Nat) (cp : Option Addr) (top : Int) (H0 : Nat → Hd) (D0 : Nat → Nat → Nat → Nat) (n z st : Nat) (F : Nat → Nat) : Prop where
  now : Now V x mf ml mc cp top H0 D0 n z st F
  bel : Below w.heap.size w V
  gl : w.heap.size ≤ ml
  gf : w.heap.size ≤ mf
  by8 : ∀ p, p < z → F p < 256
/-- how great a file is behind a write -/
def wzN (z a n : Nat) : Nat := if n = 0 then z else max z (a + n)
section
variable {w V : World} {x mf ml mc : Nat} {cp : Option Addr} {top : Int} {H0 : Nat → Hd} {D0 : Nat → Nat → Nat → Nat} {n z st : Nat} {F : Nat → Nat}
theorem BS.le (h : BS w V x mf ml mc cp top H0 D0 n z st F) : z ≤ 1048576 := by
  obtain ⟨H, D, _, hf, _⟩ := h.now
  exact hf.le
theorem BS.below {V' : World} (h : BS w V x mf ml mc cp top H0 D0 n z st F) (hb : Below V.heap.size V V') : BS w V' x mf ml mc cp top H0 D0 n z st F := by
  obtain ⟨H, D, hI, hf, hm⟩ := h.now
  exact ⟨⟨H, D, hI.below hb, hf, hm⟩, h.bel.trans (hb.mono h.bel.size), h.gl, h.gf, h.by8⟩
theorem BS.congr {G : Nat → Nat} (h : BS w V x mf ml mc cp top H0 D0 n z st F) (hG : ∀ p, p < z → G p = F p) : BS w V x mf ml mc cp top H0 D0 n z st G := by
  obtain ⟨H, D, hI, hf, hm⟩ := h.now
  exact ⟨⟨H, D, hI, hf.congr hG, hm⟩, h.bel, h.gl, h.gf, fun p hp => by rw [hG p hp]; exact h.by8 p hp⟩
theorem BS.of_now {V' : World} {H D z' s'} {G : Nat → Nat} (h : BS w V x mf ml mc cp top H0 D0 n z st F) (hm : ∀ m, m ≠ n → H m = H0 m ∧ D m = D0 m) (hN : Now V' x mf ml mc cp top H D n z' s' G) (hT : Turns (fun z => z = ml ∨ z = mf) V V') (hG : ∀ p, p < z' → G p < 256) : BS w V' x mf ml mc cp top H0 D0 n z' s' G := by
  obtain ⟨H', D', h1, h2, h3⟩ := hN
  refine ⟨⟨H', D', h1, h2, fun m hm' => ⟨(h3 m hm').1.trans (hm m hm').1, (h3 m hm').2.trans (hm m hm').2⟩⟩, ?_, h.gl, h.gf, hG⟩
  have := h.gl
  have := h.gf
  exact h.bel.trans (hT.below h.bel.size (fun b hb => by rcases hb with rfl | rfl <;> assumption))
theorem BS.write (h : BS w V x mf ml mc cp top H0 D0 n z st F) (a : Nat) (s : ByteArray) (ha : a + s.size ≤ 1048576) (s' : Nat) : Calls Tryz.prog 7 #[.pointer (some ⟨x, 0, none⟩), .int .i64 (n : Int), .int .i64 (a : Int), .string s, .int .u64 ((s' : Nat) : Int)] V fun e w' => e = .returned (.tuple #[.int .i64 ((a + s.size : Nat) : Int), .int .i64 0]) ∧ BS w w' x mf ml mc cp top H0 D0 n (wzN z a s.size) (if s.size = 0 then st else s') (wrF F z s a) := by
  obtain ⟨H, D, hI, hf, hm⟩ := h.now
  by_cases h0 : s.size = 0
  · have e := empty_text h0
    subst e
    refine (hI.writeNone hf a s' (by omega)).mono ?_
    rintro e w' ⟨rfl, hb⟩
    refine ⟨rfl, ?_⟩
    have hb2 := h.below hb
    refine hb2.congr fun p hp => ?_
    unfold wrF
    rw [if_neg (fun c => absurd c.2 (by have : (⟨#[]⟩ : ByteArray).size = 0 := rfl; omega)), if_pos (by simpa [wzN] using hp)]
  · refine (hI.writeOk hf a s' s (by omega) ha).mono ?_
    rintro e w' ⟨rfl, hN, hT⟩
    refine ⟨rfl, ?_⟩
    rw [if_neg h0]
    unfold wzN
    rw [if_neg h0]
    exact h.of_now hm hN hT fun p _ => wrF_lt h.by8 _ _ _
end
theorem zeros_none (n : Int) (h : n ≤ 0) (w : World) : Calls Tryz.prog 59 #[.int .i64 n] w fun e w' => e = .returned (.string ⟨#[]⟩) ∧ Below w.heap.size w w' := by
  go_enter Tryz.func59, Tryz.ntmps59
  go_wp2_with fail
  go_ret
  exact ⟨rfl, Below.refl _ _⟩
theorem fl_made1 (v : Value) (n : Nat) : madeCells #[v] n = va n fun _ => v := by
  refine va_ext (size_madeCells _ _) fun i hi => ?_
  unfold madeCells
  simp [hi, Nat.mod_one]
theorem make_zeros (n : Nat) (hn : n ≤ 140737488355328) (w : World) : (Instr.makeSlice 142 (.int .i64 (n : Int)) (.int .i64 (n : Int))).run Tryz.prog w = .ok (.slice (some ⟨w.heap.size, 0, none⟩) n n) (w.alloc (.cells (va n (iv .u8 fun _ => 0)) 5)) := by
  obtain ⟨i0, hi, hz0, hz1, hz2⟩ := info_parts infoB8
  have := run_make (P := Tryz.prog) w 142 5 i0 (.int .u8 0) Tryz.underlying142 hi hz0 .i64 .i64 (n : Int) (n : Int) (by omega) (Int.le_refl _) (by rw [hz2]; omega) (by omega)
  rw [hz1] at this
  simp only [Int.toNat_natCast, Value.cells, fl_made1, Nat.mul_one] at this
  exact this
set_option maxRecDepth 100000 in
theorem zeros_some (n : Nat) (h : 1 ≤ n) (hn : n ≤ 140737488355328) (w : World) : Calls Tryz.prog 59 #[.int .i64 (n : Int)] w fun e w' => e = .returned (.string (strN (fun _ => 0) n)) ∧ Below w.heap.size w w' := by
  have t1 : ¬ ((n : Int) ≤ 0) := by omega
  have hmk := make_zeros n hn w
  have b0 := Blk.new w 5 (va n (iv .u8 fun _ => 0))
  have hb := below_new1 w (Obj.cells (va n (iv IntKind.u8 fun _ => 0)) 5)
  have hc := run_bytes_text (P := Tryz.prog) (w.alloc (Obj.cells (va n (iv IntKind.u8 fun _ => 0)) 5)) 142 5 9 Tryz.underlying142 Tryz.underlying5 Tryz.underlying9 b0 0 n n (by omega)
  clear b0 h
  go_enter Tryz.func59, Tryz.ntmps59
  go_wp2_with fail
  go_ret
  exact ⟨rfl, hb⟩
end Go.Proofs.YtcmihdjbeihjbaaGreat

namespace Go.Proofs.YtcmihdjbeihjbaaGreat
open Go Go.RowKit
set_option linter.unusedSimpArgs false
set_option linter.unusedVariables false
theorem fl_build_at {P : Program} {ops : Array Oper} {rest : List Oper} {o : Oper} {a : Act} {w : World} {Q : Exit → Act → World → Prop} (hw : Region.wanted o (yielded ops a.tmps) = true) (t : TypeId) (parts : Array (Nat × Operand)) (ho : o.op = .build t parts) (vals : List (Nat × Value))
    (hv : (parts.map fun (i, x) => (i, a.eval x)).toList = vals) (cells : Array Value) (hf : P.built t vals = some cells) (h : wpList P ops Q rest (a.put o.dst (.agg cells)) w) : wpList P ops Q (o :: rest) a w :=
  wpList_step fun K hK => by
    rw [if_pos hw]
    subst hv
    refine wp_build t parts ho (by rw [hf]; rfl) ?_
    rw [hf]
    exact hK _ _ h
def acC (kd a m : Int) (s : ByteArray) (t : Nat) : Array Value := #[.int .i64 kd, .int .i64 a, .int .i64 m, .string s, .int .u64 ((t : Nat) : Int)]
theorem ac_cs {w : World} {b T : Nat} {kd a m : Int} {s : ByteArray} {t : Nat} (H : Blk w b T (acC kd a m s t)) : w.cell? ⟨b, 1, none⟩ = some (.int .i64 a) ∧ w.cell? ⟨b, 2, none⟩ = some (.int .i64 m) ∧ w.cell? ⟨b, 3, none⟩ = some (.string s) ∧ w.cell? ⟨b, 4, none⟩ = some (.int .u64 ((t : Nat) : Int)) := ⟨(H.cell 1).trans rfl, (H.cell 2).trans rfl, (H.cell 3).trans rfl, (H.cell 4).trans rfl⟩
end Go.Proofs.YtcmihdjbeihjbaaGreat

namespace Go.Proofs.YtcmihdjbeihjbaaGreat
open Go Go.RowKit
set_option linter.unusedSimpArgs false
set_option linter.unusedVariables false
section
variable {w V : World} {x mf ml mc : Nat} {cp : Option Addr} {top : Int} {H0 : Nat → Hd} {D0 : Nat → Nat → Nat → Nat} {n z st : Nat} {F : Nat → Nat}
theorem BS.text {z' s' : Nat} {G : Nat → Nat} (h : BS w V x mf ml mc cp top H0 D0 n z' s' G) : BS w V x mf ml mc cp top H0 D0 n (strN G z').size s' (tbyte (strN G z')) := by
  rw [strN_size]
  exact h.congr fun p hp => strN_at G z' p hp (h.by8 p hp)
theorem BS.writeT (h : BS w V x mf ml mc cp top H0 D0 n z st F) (a : Nat) (s : ByteArray) (ha : a + s.size ≤ 1048576) (s' : Nat) : Calls Tryz.prog 7 #[.pointer (some ⟨x, 0, none⟩), .int .i64 (n : Int), .int .i64 (a : Int), .string s, .int .u64 ((s' : Nat) : Int)] V fun e w' => e = .returned (.tuple #[.int .i64 ((a + s.size : Nat) : Int), .int .i64 0]) ∧ BS w w' x mf ml mc cp top H0 D0 n (wzN z a s.size) (if s.size = 0 then st else s') (wrF F z s a) ∧ Turns (fun z => z = ml ∨ z = mf) V w' := by
  obtain ⟨H, D, hI, hf, hm⟩ := h.now
  by_cases h0 : s.size = 0
  · have e := empty_text h0
    subst e
    refine (hI.writeNone hf a s' (by omega)).mono ?_
    rintro e w' ⟨rfl, hb⟩
    refine ⟨rfl, ?_, Turns.bel hb⟩
    have hb2 := h.below hb
    refine hb2.congr fun p hp => ?_
    unfold wrF
    rw [if_neg (fun c => absurd c.2 (by have : (⟨#[]⟩ : ByteArray).size = 0 := rfl; omega)), if_pos (by simpa [wzN] using hp)]
  · refine (hI.writeOk hf a s' s (by omega) ha).mono ?_
    rintro e w' ⟨rfl, hN, hT⟩
    refine ⟨rfl, ?_, hT⟩
    rw [if_neg h0]
    unfold wzN
    rw [if_neg h0]
    exact h.of_now hm hN hT fun p _ => wrF_lt h.by8 _ _ _
end
/-- a deed's answer, error, text and stamp behind it, of a file's text and stamp -/
structure Dn where
  ans : Int
  err : Int
  s : ByteArray
  st : Nat
def dnF (s : ByteArray) (st : Nat) (k : Nat) (a m : Int) (t : ByteArray) (t' : Nat) : Dn :=
  if k = 3 then (if 1048576 < s.size + t.size then ⟨0, 160, s, st⟩ else ⟨(s.size : Int), 0, strN (wrF (tbyte s) s.size t s.size) (wzN s.size s.size t.size), if t.size = 0 then st else t'⟩)
  else if k = 4 then (if a < 0 ∨ 1048576 < a then ⟨0, if a < 0 then 1 else 160, s, st⟩ else ⟨0, 0, strN (fzF (tbyte s) s.size) a.toNat, t'⟩)
  else if k = 5 then (if a < 0 ∨ m < 0 then ⟨0, 1, s, st⟩ else ⟨0, 0, strN (wrF (tbyte s) s.size (strN (fun _ => 0) (thN s.size a.toNat m.toNat)) a.toNat) s.size, if thN s.size a.toNat m.toNat = 0 then st else t'⟩)
  else (if a < 0 ∨ 1048576 < a + (t.size : Int) then ⟨0, if a < 0 then 1 else 160, s, st⟩ else ⟨((a.toNat + t.size : Nat) : Int), 0, strN (wrF (tbyte s) s.size t a.toNat) (wzN s.size a.toNat t.size), if t.size = 0 then st else t'⟩)
/-- which deed -/
def kdN (kd : Int) : Nat := ((kd.tmod 8 + 8).tmod 8).toNat
theorem kd_is (kd : Int) : (kd.tmod 8 + 8).tmod 8 = (kdN kd : Int) ∧ kdN kd < 8 := by
  unfold kdN
  have h1 := Int.tmod_lt_of_pos kd (show (0 : Int) < 8 by decide)
  have h2 := Int.lt_tmod_of_pos kd (show (0 : Int) < 8 by decide)
  have h3 : (kd.tmod 8 + 8).tmod 8 = (kd.tmod 8 + 8) % 8 := Int.tmod_eq_emod_of_nonneg (by omega)
  rw [h3]
  omega
section
variable {w V : World} {x mf ml mc : Nat} {cp : Option Addr} {top : Int} {H0 : Nat → Hd} {D0 : Nat → Nat → Nat → Nat} {n st : Nat}
end
end Go.Proofs.YtcmihdjbeihjbaaGreat

namespace Go.Proofs.YtcmihdjbeihjbaaGreat
open Go Go.RowKit
set_option linter.unusedSimpArgs false
set_option linter.unusedVariables false
theorem cat_size (s t : ByteArray) : (s ++ t).size = s.size + t.size := by simp
theorem cat_byte (s t : ByteArray) (j : Nat) (hj : j < s.size + t.size) : tbyte (s ++ t) j = if j < s.size then tbyte s j else tbyte t (j - s.size) := by
  unfold tbyte
  have h1 : (s ++ t).data.toList = s.data.toList ++ t.data.toList := by simp
  have hs : s.data.toList.length = s.size := Array.length_toList
  rw [h1, List.getD_eq_getElem?_getD, List.getElem?_append]
  by_cases c : j < s.size
  · rw [if_pos c, if_pos (by omega), List.getD_eq_getElem?_getD]
  · rw [if_neg c, if_neg (by omega), List.getD_eq_getElem?_getD, hs]
theorem wr_none (s t : ByteArray) (a : Nat) (ht : t.size = 0) : strN (wrF (tbyte s) s.size t a) (wzN s.size a t.size) = s := by
  have h : wzN s.size a t.size = s.size := by unfold wzN; rw [if_pos ht]
  rw [h, strN_congr (g := tbyte s) fun j hj => by unfold wrF; rw [if_neg (by omega), if_pos hj]]
  exact strN_text s
/-- a text and zeros behind it -/
def zpT (s : ByteArray) (k : Nat) : ByteArray := s ++ strN (fun _ => 0) k
theorem zp_size (s : ByteArray) (k : Nat) : (zpT s k).size = s.size + k := by unfold zpT; rw [cat_size, strN_size]
theorem zp_byte (s : ByteArray) (k j : Nat) (hj : j < s.size + k) : tbyte (zpT s k) j = fzF (tbyte s) s.size j := by
  unfold zpT fzF
  rw [cat_byte _ _ _ (by rw [strN_size]; exact hj)]
  by_cases c : j < s.size
  · rw [if_pos c, if_pos c]
  · rw [if_neg c, if_neg c, strN_at (fun _ => 0) _ _ (by omega) (by decide)]
theorem wr_text (s t : ByteArray) (a : Nat) (ht : t.size ≠ 0) : (zpT s (a + t.size - s.size)).extract 0 a ++ t ++ (zpT s (a + t.size - s.size)).extract (a + t.size) (zpT s (a + t.size - s.size)).size = strN (wrF (tbyte s) s.size t a) (wzN s.size a t.size) := by
  have hS : (zpT s (a + t.size - s.size)).size = max s.size (a + t.size) := by rw [zp_size]; omega
  have h : wzN s.size a t.size = max s.size (a + t.size) := by unfold wzN; rw [if_neg ht]
  have h1 := extract_size (zpT s (a + t.size - s.size)) 0 a (by omega)
  have h2 := extract_size (zpT s (a + t.size - s.size)) (a + t.size) (zpT s (a + t.size - s.size)).size (Nat.le_refl _)
  rw [h]
  refine text_ext (by rw [cat_size, cat_size, h1, h2, strN_size]; omega) fun j hj => ?_
  rw [cat_size, cat_size, h1, h2] at hj
  rw [strN_at _ _ _ (by omega) (wrF_lt (fun p _ => tbyte_lt _ _) _ _ _), cat_byte _ _ _ (by rw [cat_size, h1, h2]; omega), cat_size, h1]
  unfold wrF
  by_cases c : j < a + t.size
  · rw [if_pos (by omega), cat_byte _ _ _ (by rw [h1]; omega), h1]
    by_cases c2 : j < a
    · rw [if_pos (by omega), if_neg (by omega), tbyte_extract _ _ _ _ (by omega) (by omega), zp_byte _ _ _ (by omega), Nat.zero_add]
      rfl
    · rw [if_neg (by omega), if_pos (by omega)]
      congr 1
  · rw [if_neg (by omega), if_neg (by omega), tbyte_extract _ _ _ _ (Nat.le_refl _) (by omega), zp_byte _ _ _ (by omega), show a + t.size + (j - (a - 0 + t.size)) = j by omega]
    rfl
end Go.Proofs.YtcmihdjbeihjbaaGreat

namespace Go.Proofs.YtcmihdjbeihjbaaGreat
open Go Go.RowKit
set_option linter.unusedSimpArgs false
set_option linter.unusedVariables false
theorem res_ttc {P : Program} {fn : Func} {p u v : Tmp} {ty : TypeId} (h : fn.results = #[.tmp u, .tmp v, .cell p ty]) (tmps : Array Value) (w : World) (g : Nat) (t : TypeId) (cs : Array Value) (fr : Nat × Nat) (d : TypeDesc)
    (hp : tmps.getD p undef = .pointer (some ⟨g, 0, none⟩)) (hg : w.heap[g]? = some (.cells cs t fr))
    (hu : P.underlying ty = some d) (hd : (match d with | .struct _ | .array _ _ => true | _ => false) = true) (hi : (P.info? ty).map (·.size) = some cs.size) :
    (results fn tmps).run P w = .ok (.tuple #[tmps.getD u undef, tmps.getD v undef, .agg cs]) w := by
  have hp' : tmps[p]?.getD undef = .pointer (some ⟨g, 0, none⟩) := by simpa using hp
  simp [results, h, hp', asAddr, run_loadVar_row w g t ty cs fr d hg hu hd hi]
theorem sizeMd : (Tryz.prog.info? 32).map (·.size) = some 2 := by kernel_rfl
theorem zero_md (w : World) : (zeroValue 32).run Tryz.prog w = .ok (.agg #[.string ⟨#[]⟩, .int .u64 0]) w := fl_zero (by kernel_rfl) w
theorem built_md (s : ByteArray) (t : Nat) : Tryz.prog.built 32 [(0, .string s), (1, .int .u64 ((t : Nat) : Int))] = some (mdC s t) := by kernel_rfl
theorem md_all (s : ByteArray) (t : Nat) : (mdC s t).all (·.oneCell') = true := by simp [mdC, Value.oneCell']
theorem md_cs {w : World} {b T : Nat} {s : ByteArray} {t : Nat} (H : Blk w b T (mdC s t)) : w.cell? ⟨b, 0, none⟩ = some (.string s) ∧ w.cell? ⟨b, 1, none⟩ = some (.int .u64 ((t : Nat) : Int)) ∧ w.frozen? ⟨b, 0, none⟩ = false ∧ w.frozen? ⟨b, 1, none⟩ = false := ⟨(H.cell 0).trans rfl, (H.cell 1).trans rfl, H.frozen 0, H.frozen 1⟩
/-- and what is told -/
def DE (V : World) (R : Dn) (W : World) : Prop := Blk W (V.heap.size + 1 + 1) 32 (mdC R.s R.st) ∧ Below V.heap.size V W
theorem put_md {V W : World} {s0 : ByteArray} {t0 : Nat} (h : Blk W (V.heap.size + 1 + 1) 32 (mdC s0 t0)) (hb : Below V.heap.size V W) (s : ByteArray) (t : Nat) : Blk ((W.setCell ⟨V.heap.size + 1 + 1, 0, none⟩ (.string s)).setCell ⟨V.heap.size + 1 + 1, 1, none⟩ (.int .u64 ((t : Nat) : Int))).drew (V.heap.size + 1 + 1) 32 (mdC s t) ∧ Below V.heap.size V ((W.setCell ⟨V.heap.size + 1 + 1, 0, none⟩ (.string s)).setCell ⟨V.heap.size + 1 + 1, 1, none⟩ (.int .u64 ((t : Nat) : Int))).drew := ⟨((h.put 0 _).put 1 _).drew, ((hb.setCell (p := ⟨V.heap.size + 1 + 1, 0, none⟩) (by show _ ≤ V.heap.size + 1 + 1; omega) _).setCell (p := ⟨V.heap.size + 1 + 1, 1, none⟩) (by show _ ≤ V.heap.size + 1 + 1; omega) _).drew⟩
theorem zeros_any (d : Int) (k : Nat) (hk : k = d.toNat) (hd : d ≤ 140737488355328) (w : World) : Calls Tryz.prog 59 #[.int .i64 d] w fun e w' => e = .returned (.string (strN (fun _ => 0) k)) ∧ Below w.heap.size w w' := by
  by_cases h : d ≤ 0
  · have : k = 0 := by omega
    subst this
    exact zeros_none d h w
  · have := zeros_some k (by omega) (by omega) w
    rw [show (k : Int) = d by omega] at this
    exact this
end Go.Proofs.YtcmihdjbeihjbaaGreat
