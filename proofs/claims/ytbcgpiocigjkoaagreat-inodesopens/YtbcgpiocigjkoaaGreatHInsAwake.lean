/- Inodes as they change: Get of an inode in use; the statements' own stand, and their test that inodes are awake. -/
import Derived.Test.YtbcgpiocigjkoaaGreatHGrKit
import Derived.Test.YtbcgpiocigjkoaaGreatHGrNew
import Derived.Handy
import Derived.Test.YtbcgpiocigjkoaaGreatHCaLru

namespace Go.Proofs.YtbcgpiocigjkoaaGreat
open Go Go.RowKit
set_option linter.unusedSimpArgs false
set_option linter.unusedVariables false
/-- a table that may be opened -/
def mayOpen (h : Int) (R : Rf) (high : Int) : Prop := (0 ≤ high ∧ high ≤ 4096) ∧ h = hL 4 high ∧ (decide (R = rf0) = decide (high = 0)) ∧ rOk R = true
theorem ti_c0 {w : World} {b t : Nat} {h : Int} {R : Rf} (H : Blk w b t (trC h R)) : w.cell? ⟨b, 0, none⟩ = some (.int .i64 h) := H.cv (n := 34) (by decide)
theorem wpList_build7 {P : Program} {ops : Array Oper} {rest : List Oper} {o : Oper} {a : Act} {w : World} {Q : Exit → Act → World → Prop} (hg : o.guard = none) (t : TypeId) (x0 x1 x2 x3 x4 x5 x6 : Operand) (ho : o.op = .build t #[(0, x0), (1, x1), (2, x2), (3, x3), (4, x4), (5, x5), (6, x6)]) (v0 v1 v2 v3 v4 v5 v6 : Value) (h0 : a.eval x0 = v0) (h1 : a.eval x1 = v1) (h2 : a.eval x2 = v2) (h3 : a.eval x3 = v3) (h4 : a.eval x4 = v4) (h5 : a.eval x5 = v5) (h6 : a.eval x6 = v6)
    (cells : Array Value) (hf : P.built t [(0, v0), (1, v1), (2, v2), (3, v3), (4, v4), (5, v5), (6, v6)] = some cells) (h : wpList P ops Q rest (a.put o.dst (.agg cells)) w) : wpList P ops Q (o :: rest) a w := by
  refine wpList_buildTo hg t _ ho o.dst rfl cells ?_ h
  have e : (Array.map (fun (x : Nat × Operand) => match x with | (i, x) => (i, a.eval x)) #[(0, x0), (1, x1), (2, x2), (3, x3), (4, x4), (5, x5), (6, x6)]).toList = [(0, v0), (1, v1), (2, v2), (3, v3), (4, v4), (5, v5), (6, v6)] := by simp [h0, h1, h2, h3, h4, h5, h6]
  rw [e]
  exact hf
section
variable {cp : Option Addr} {h : Int} {R : Rf} {high : Int}
set_option maxRecDepth 100000 in
set_option maxHeartbeats 4000000 in
theorem open_no (hR : R.1 < 4294967296) (hD : okD R.2) (hh : -9223372036854775808 ≤ high ∧ high ≤ 9223372036854775807) (hn : ¬ mayOpen h R high) (w : World) : Calls Tryz.prog 7 #[.pointer cp, .agg (trC h R), .int .i64 high] w fun e w' => e = .returned (.tuple #[.pointer none, .int .i64 1]) ∧ Below w.heap.size w w' := by
  have HT := table_any high hh
  have hb1 : Below w.heap.size w (w.alloc (.cells (trC h R) 28)) := below_new1 _ _
  have t1 : Blk (w.alloc (.cells (trC h R) 28)) w.heap.size 28 (trC h R) := Blk.new _ _ _
  have c0 := ti_c0 t1
  have HR1 : Hid ((w.alloc (.cells (trC h R) 28)).rangeAt w.heap.size 1 ((List.range 33).map (rfF R.1 R.2))) := tr_range t1
  have HNo : Hid (∀ w, Calls Tryz.prog 31 #[.agg (rfC R)] w fun e w' => e = .returned (.bool (decide (R = rf0))) ∧ Below w.heap.size w w') := none_any R
  by_cases hg : 0 ≤ high ∧ high ≤ 4096
  · have HTT : Hid (∀ w : World, Calls Tryz.prog 30 #[.int .i64 high] w fun e w' => e = .returned (.tuple #[.int .i64 (hL 4 high), .int .i64 0]) ∧ w' = w) := fun w => by
      have := HT w
      rw [if_pos hg] at this
      exact this
    clear HT
    by_cases he : h = hL 4 high
    · rw [← he] at HTT
      obtain ⟨bz, hbz⟩ : ∃ bz, decide (R = rf0) = bz := ⟨_, rfl⟩
      rw [hbz] at HNo
      by_cases hz : bz = decide (high = 0)
      · have hok : ¬ trOk h R := fun hk => hn ⟨hg, he, hbz.trans hz, hk.1⟩
        have HG : Hid (∀ w, Calls Tryz.prog 32 #[.pointer cp, .agg (trC h R)] w fun x w' => x = .returned (.tuple #[.pointer none, .int .i64 1]) ∧ Below w.heap.size w w') := fun w => new_no h R hR hD hok cp w
        clear hn hok hR hD he hg hh hbz
        by_cases h0 : high = 0
        · subst h0
          rw [decide_eq_true rfl] at hz
          subst hz
          go_enter Tryz.func7, Tryz.ntmps7
          go_wp2_with fail
          generalize (w.alloc (.cells (trC h R) 28)) = w1 at *
          refine (HTT.out _).mono ?_
          rintro e w2 ⟨rfl, hw2⟩
          subst hw2
          go_wp2_with (first
            | (refine wpList_load_blkI (by rfl) 26 _ (by rfl) (w.heap.size) (1) 33 (rfF R.1 R.2) (by rfl) _ (by exact HR1.out) Tryz.underlying26 rfl tsizeRef ?_; simp only [Act.put, List.setIfInBounds_toArray, List.set_cons_zero, List.set_cons_succ])
            | fail)
          refine (HNo.out _).mono ?_
          rintro e w3 ⟨rfl, hb3⟩
          have t3 := t1.below hb3 t1.lt
          have hb13 := hb1.trans (hb3.mono hb1.size)
          clear hb3 t1 hb1 HNo HTT HR1 c0
          go_wp2_with (first
            | (refine wpList_load_rowg (by rfl) 28 _ (by rfl) (w.heap.size) (by rfl) 28 (trC h R) (0, 0) _ (by exact t3) Tryz.underlying28 (by rfl) (sizeTr.trans (by rw [trC_size])) ?_; simp only [Act.put, List.setIfInBounds_toArray, List.set_cons_zero, List.set_cons_succ])
            | fail)
          refine (HG.out _).mono ?_
          rintro e w4 ⟨rfl, hb4⟩
          have hb14 := hb13.trans (hb4.mono hb13.size)
          clear hb4 hb13 t3 HG
          go_wp2_with fail
          go_ret2
          exact ⟨rfl, hb14⟩
        · have hq0 : (high == 0) = false := by simp [h0]
          rw [decide_eq_false h0] at hz
          subst hz
          go_enter Tryz.func7, Tryz.ntmps7
          go_wp2_with fail
          generalize (w.alloc (.cells (trC h R) 28)) = w1 at *
          refine (HTT.out _).mono ?_
          rintro e w2 ⟨rfl, hw2⟩
          subst hw2
          go_wp2_with (first
            | (refine wpList_load_blkI (by rfl) 26 _ (by rfl) (w.heap.size) (1) 33 (rfF R.1 R.2) (by rfl) _ (by exact HR1.out) Tryz.underlying26 rfl tsizeRef ?_; simp only [Act.put, List.setIfInBounds_toArray, List.set_cons_zero, List.set_cons_succ])
            | fail)
          refine (HNo.out _).mono ?_
          rintro e w3 ⟨rfl, hb3⟩
          have t3 := t1.below hb3 t1.lt
          have hb13 := hb1.trans (hb3.mono hb1.size)
          clear hb3 t1 hb1 HNo HTT HR1 c0
          go_wp2_with (first
            | (refine wpList_load_rowg (by rfl) 28 _ (by rfl) (w.heap.size) (by rfl) 28 (trC h R) (0, 0) _ (by exact t3) Tryz.underlying28 (by rfl) (sizeTr.trans (by rw [trC_size])) ?_; simp only [Act.put, List.setIfInBounds_toArray, List.set_cons_zero, List.set_cons_succ])
            | fail)
          refine (HG.out _).mono ?_
          rintro e w4 ⟨rfl, hb4⟩
          have hb14 := hb13.trans (hb4.mono hb13.size)
          clear hb4 hb13 t3 HG
          go_wp2_with fail
          go_ret2
          exact ⟨rfl, hb14⟩
      · clear hn hR hD he hg hh hbz
        by_cases h0 : high = 0
        · subst h0
          rw [decide_eq_true rfl] at hz
          obtain rfl : bz = false := by simpa using hz
          clear hz
          go_enter Tryz.func7, Tryz.ntmps7
          go_wp2_with fail
          generalize (w.alloc (.cells (trC h R) 28)) = w1 at *
          refine (HTT.out _).mono ?_
          rintro e w2 ⟨rfl, hw2⟩
          subst hw2
          go_wp2_with (first
            | (refine wpList_load_blkI (by rfl) 26 _ (by rfl) (w.heap.size) (1) 33 (rfF R.1 R.2) (by rfl) _ (by exact HR1.out) Tryz.underlying26 rfl tsizeRef ?_; simp only [Act.put, List.setIfInBounds_toArray, List.set_cons_zero, List.set_cons_succ])
            | fail)
          refine (HNo.out _).mono ?_
          rintro e w3 ⟨rfl, hb3⟩
          have t3 := t1.below hb3 t1.lt
          have hb13 := hb1.trans (hb3.mono hb1.size)
          clear hb3 t1 hb1 HNo HTT HR1 c0
          go_wp2_with fail
          go_ret2
          exact ⟨rfl, hb13⟩
        · have hq0 : (high == 0) = false := by simp [h0]
          rw [decide_eq_false h0] at hz
          obtain rfl : bz = true := by simpa using hz
          clear hz
          go_enter Tryz.func7, Tryz.ntmps7
          go_wp2_with fail
          generalize (w.alloc (.cells (trC h R) 28)) = w1 at *
          refine (HTT.out _).mono ?_
          rintro e w2 ⟨rfl, hw2⟩
          subst hw2
          go_wp2_with (first
            | (refine wpList_load_blkI (by rfl) 26 _ (by rfl) (w.heap.size) (1) 33 (rfF R.1 R.2) (by rfl) _ (by exact HR1.out) Tryz.underlying26 rfl tsizeRef ?_; simp only [Act.put, List.setIfInBounds_toArray, List.set_cons_zero, List.set_cons_succ])
            | fail)
          refine (HNo.out _).mono ?_
          rintro e w3 ⟨rfl, hb3⟩
          have t3 := t1.below hb3 t1.lt
          have hb13 := hb1.trans (hb3.mono hb1.size)
          clear hb3 t1 hb1 HNo HTT HR1 c0
          go_wp2_with fail
          go_ret2
          exact ⟨rfl, hb13⟩
    · clear hn hR hD hg hh
      generalize hL 4 high = hv at *
      go_enter Tryz.func7, Tryz.ntmps7
      go_wp2_with fail
      generalize (w.alloc (.cells (trC h R) 28)) = w1 at *
      refine (HTT.out _).mono ?_
      rintro e w2 ⟨rfl, hw2⟩
      subst hw2
      go_wp2_with fail
      go_ret2
      exact ⟨rfl, hb1⟩
  · have HTT : Hid (∀ w : World, Calls Tryz.prog 30 #[.int .i64 high] w fun e w' => e = .returned (.tuple #[.int .i64 0, .int .i64 141]) ∧ w' = w) := fun w => by
      have := HT w
      rw [if_neg hg] at this
      exact this
    clear HT hn hR hD hg hh
    go_enter Tryz.func7, Tryz.ntmps7
    go_wp2_with fail
    generalize (w.alloc (.cells (trC h R) 28)) = w1 at *
    refine (HTT.out _).mono ?_
    rintro e w2 ⟨rfl, hw2⟩
    subst hw2
    go_wp2_with fail
    go_ret2
    exact ⟨rfl, hb1⟩
set_option maxRecDepth 100000 in
set_option maxHeartbeats 4000000 in
theorem open_ok (hR : R.1 < 4294967296) (hD : okD R.2) (hh : -9223372036854775808 ≤ high ∧ high ≤ 9223372036854775807) (hm : mayOpen h R high) (w : World) : Calls Tryz.prog 7 #[.pointer cp, .agg (trC h R), .int .i64 high] w fun e w' => ∃ x mf ml mc, e = .returned (.tuple #[.pointer (some ⟨x, 0, none⟩), .int .i64 0]) ∧ (w.heap.size ≤ x ∧ w.heap.size ≤ mf ∧ w.heap.size ≤ ml ∧ w.heap.size ≤ mc ∧ x ≠ mf) ∧ Blk w' x 113 (ixC cp h R high high mf ml mc) ∧ MapIs pkV ftV w' mf [] ∧ Below w.heap.size w w' := by
  have HT := table_any high hh
  have hb1 : Below w.heap.size w (w.alloc (.cells (trC h R) 28)) := below_new1 _ _
  have t1 : Blk (w.alloc (.cells (trC h R) 28)) w.heap.size 28 (trC h R) := Blk.new _ _ _
  have c0 := ti_c0 t1
  have HR1 : Hid ((w.alloc (.cells (trC h R) 28)).rangeAt w.heap.size 1 ((List.range 33).map (rfF R.1 R.2))) := tr_range t1
  have HNo : Hid (∀ w, Calls Tryz.prog 31 #[.agg (rfC R)] w fun e w' => e = .returned (.bool (decide (R = rf0))) ∧ Below w.heap.size w w') := none_any R
  obtain ⟨hg, he, hz, hr⟩ := hm
  have HTT : Hid (∀ w : World, Calls Tryz.prog 30 #[.int .i64 high] w fun e w' => e = .returned (.tuple #[.int .i64 (hL 4 high), .int .i64 0]) ∧ w' = w) := fun w => by
    have := HT w
    rw [if_pos hg] at this
    exact this
  clear HT
  rw [← he] at HTT
  have hok : trOk h R := ⟨hr, by rw [he]; exact hL_lt 4 high⟩
  obtain ⟨nh, hnh⟩ : ∃ nh : Nat, h = (nh : Int) := ⟨h.toNat, by have := hok.2.1; omega⟩
  have HG : Hid (∀ w, Calls Tryz.prog 32 #[.pointer cp, .agg (trC h R)] w fun x w' => ∃ g, x = .returned (.tuple #[.pointer (some ⟨g, 0, none⟩), .int .i64 0]) ∧ Below w.heap.size w w') := fun w => (new_ok nh (4 ^ nh) rfl h hnh R hR hD hok cp w).mono fun e w' ⟨g, m, h1, _, _, _, _, h2⟩ => ⟨g, h1, h2⟩
  obtain ⟨bz, hbz⟩ : ∃ bz, decide (R = rf0) = bz := ⟨_, rfl⟩
  rw [hbz] at HNo hz
  clear hok hR hD he hg hh hbz hnh hr
  by_cases h0 : high = 0
  · subst h0
    rw [decide_eq_true rfl] at hz
    subst hz
    go_enter Tryz.func7, Tryz.ntmps7
    go_wp2_with fail
    generalize (w.alloc (.cells (trC h R) 28)) = w1 at *
    refine (HTT.out _).mono ?_
    rintro e w2 ⟨rfl, hw2⟩
    subst hw2
    go_wp2_with (first
      | (refine wpList_load_blkI (by rfl) 26 _ (by rfl) (w.heap.size) (1) 33 (rfF R.1 R.2) (by rfl) _ (by exact HR1.out) Tryz.underlying26 rfl tsizeRef ?_; simp only [Act.put, List.setIfInBounds_toArray, List.set_cons_zero, List.set_cons_succ])
      | fail)
    refine (HNo.out _).mono ?_
    rintro e w3 ⟨rfl, hb3⟩
    have t3 := t1.below hb3 t1.lt
    have hb13 := hb1.trans (hb3.mono hb1.size)
    clear hb3 t1 hb1 HNo HTT HR1 c0
    go_wp2_with (first
      | (refine wpList_load_rowg (by rfl) 28 _ (by rfl) (w.heap.size) (by rfl) 28 (trC h R) (0, 0) _ (by exact t3) Tryz.underlying28 (by rfl) (sizeTr.trans (by rw [trC_size])) ?_; simp only [Act.put, List.setIfInBounds_toArray, List.set_cons_zero, List.set_cons_succ])
      | fail)
    refine (HG.out _).mono ?_
    rintro e w4 ⟨g4, rfl, hb4⟩
    have hb14 := hb13.trans (hb4.mono hb13.size)
    have t4 := t3.below hb4 t3.lt
    clear hb4 hb13 t3 HG
    have hmm := @run_makeMap Tryz.prog
    have hbt := built_ix cp h R 0 0 w4.heap.size (w4.heap.size + 1) (w4.heap.size + 1 + 1)
    go_wp2_with (first
      | (refine wpList_load_rowg (by rfl) 28 _ (by rfl) (w.heap.size) (by rfl) 28 (trC h R) (0, 0) _ (by exact t4) Tryz.underlying28 (by rfl) (sizeTr.trans (by rw [trC_size])) ?_; simp only [Act.put, List.setIfInBounds_toArray, List.set_cons_zero, List.set_cons_succ])
      | (refine wpList_build7 (by rfl) 113 _ _ _ _ _ _ _ (by rfl) _ _ _ _ _ _ _ (by rfl) (by rfl) (by rfl) (by rfl) (by rfl) (by rfl) (by rfl) (ixC cp h R 0 0 w4.heap.size (w4.heap.size + 1) (w4.heap.size + 1 + 1)) (by exact hbt) ?_; simp only [Act.put, List.setIfInBounds_toArray, List.set_cons_zero, List.set_cons_succ])
      | fail)
    refine bodyPost_ret (results_tmp2 Tryz.results7 _ _ _) rfl ?_
    have hx5 := Blk.new (((w4.alloc (.map #[] 0)).alloc (.map #[] 0)).alloc (.map #[] 0)) 113 (ixC cp h R 0 0 w4.heap.size (w4.heap.size + 1) (w4.heap.size + 1 + 1))
    rw [show (((w4.alloc (.map #[] 0)).alloc (.map #[] 0)).alloc (.map #[] 0)).heap.size = w4.heap.size + 1 + 1 + 1 by simp] at hx5
    have hs := hb14.size
    have hb1 : Below (w4.heap.size + 1) (w4.alloc (.map #[] 0)) (w4.alloc (.map #[] 0)) := Below.refl _ _
    have hb5 : Below (w4.heap.size + 1) (w4.alloc (.map #[] 0)) ((((w4.alloc (.map #[] 0)).alloc (.map #[] 0)).alloc (.map #[] 0)).alloc (.cells (ixC cp h R 0 0 w4.heap.size (w4.heap.size + 1) (w4.heap.size + 1 + 1)) 113)) := ((hb1.alloc (by simp) _).alloc (by simp) _).alloc (by simp) _
    have hm0 : MapIs pkV ftV (w4.alloc (.map #[] 0)) w4.heap.size [] := ⟨#[], 0, heap_alloc_new _ _, rfl⟩
    exact ⟨_, _, _, _, rfl, ⟨by omega, by omega, by omega, by omega, by omega⟩, hx5, hm0.below hb5 (by omega), hb14.trans ((((((Below.refl _ _).alloc hs _).alloc (by simp; omega) _).alloc (by simp; omega) _).alloc (by simp; omega) _))⟩
  · have hq0 : (high == 0) = false := by simp [h0]
    rw [decide_eq_false h0] at hz
    subst hz
    go_enter Tryz.func7, Tryz.ntmps7
    go_wp2_with fail
    generalize (w.alloc (.cells (trC h R) 28)) = w1 at *
    refine (HTT.out _).mono ?_
    rintro e w2 ⟨rfl, hw2⟩
    subst hw2
    go_wp2_with (first
      | (refine wpList_load_blkI (by rfl) 26 _ (by rfl) (w.heap.size) (1) 33 (rfF R.1 R.2) (by rfl) _ (by exact HR1.out) Tryz.underlying26 rfl tsizeRef ?_; simp only [Act.put, List.setIfInBounds_toArray, List.set_cons_zero, List.set_cons_succ])
      | fail)
    refine (HNo.out _).mono ?_
    rintro e w3 ⟨rfl, hb3⟩
    have t3 := t1.below hb3 t1.lt
    have hb13 := hb1.trans (hb3.mono hb1.size)
    clear hb3 t1 hb1 HNo HTT HR1 c0
    go_wp2_with (first
      | (refine wpList_load_rowg (by rfl) 28 _ (by rfl) (w.heap.size) (by rfl) 28 (trC h R) (0, 0) _ (by exact t3) Tryz.underlying28 (by rfl) (sizeTr.trans (by rw [trC_size])) ?_; simp only [Act.put, List.setIfInBounds_toArray, List.set_cons_zero, List.set_cons_succ])
      | fail)
    refine (HG.out _).mono ?_
    rintro e w4 ⟨g4, rfl, hb4⟩
    have hb14 := hb13.trans (hb4.mono hb13.size)
    have t4 := t3.below hb4 t3.lt
    clear hb4 hb13 t3 HG
    have hmm := @run_makeMap Tryz.prog
    have hbt := built_ix cp h R high high w4.heap.size (w4.heap.size + 1) (w4.heap.size + 1 + 1)
    go_wp2_with (first
      | (refine wpList_load_rowg (by rfl) 28 _ (by rfl) (w.heap.size) (by rfl) 28 (trC h R) (0, 0) _ (by exact t4) Tryz.underlying28 (by rfl) (sizeTr.trans (by rw [trC_size])) ?_; simp only [Act.put, List.setIfInBounds_toArray, List.set_cons_zero, List.set_cons_succ])
      | (refine wpList_build7 (by rfl) 113 _ _ _ _ _ _ _ (by rfl) _ _ _ _ _ _ _ (by rfl) (by rfl) (by rfl) (by rfl) (by rfl) (by rfl) (by rfl) (ixC cp h R high high w4.heap.size (w4.heap.size + 1) (w4.heap.size + 1 + 1)) (by exact hbt) ?_; simp only [Act.put, List.setIfInBounds_toArray, List.set_cons_zero, List.set_cons_succ])
      | fail)
    refine bodyPost_ret (results_tmp2 Tryz.results7 _ _ _) rfl ?_
    have hx5 := Blk.new (((w4.alloc (.map #[] 0)).alloc (.map #[] 0)).alloc (.map #[] 0)) 113 (ixC cp h R high high w4.heap.size (w4.heap.size + 1) (w4.heap.size + 1 + 1))
    rw [show (((w4.alloc (.map #[] 0)).alloc (.map #[] 0)).alloc (.map #[] 0)).heap.size = w4.heap.size + 1 + 1 + 1 by simp] at hx5
    have hs := hb14.size
    have hb1 : Below (w4.heap.size + 1) (w4.alloc (.map #[] 0)) (w4.alloc (.map #[] 0)) := Below.refl _ _
    have hb5 : Below (w4.heap.size + 1) (w4.alloc (.map #[] 0)) ((((w4.alloc (.map #[] 0)).alloc (.map #[] 0)).alloc (.map #[] 0)).alloc (.cells (ixC cp h R high high w4.heap.size (w4.heap.size + 1) (w4.heap.size + 1 + 1)) 113)) := ((hb1.alloc (by simp) _).alloc (by simp) _).alloc (by simp) _
    have hm0 : MapIs pkV ftV (w4.alloc (.map #[] 0)) w4.heap.size [] := ⟨#[], 0, heap_alloc_new _ _, rfl⟩
    exact ⟨_, _, _, _, rfl, ⟨by omega, by omega, by omega, by omega, by omega⟩, hx5, hm0.below hb5 (by omega), hb14.trans ((((((Below.refl _ _).alloc hs _).alloc (by simp; omega) _).alloc (by simp; omega) _).alloc (by simp; omega) _))⟩
end
end Go.Proofs.YtbcgpiocigjkoaaGreat

namespace Go.Proofs.YtbcgpiocigjkoaaGreat
open Go Go.RowKit
set_option linter.unusedSimpArgs false
set_option linter.unusedVariables false
theorem rnew15_any (w : World) : Calls Tryz.prog 57 #[] w fun e w' => ∃ a b, e = .returned (.agg #[.map (some a), .map (some b)]) ∧ w.heap.size ≤ a ∧ w.heap.size ≤ b ∧ Below w.heap.size w w' := by
  have hmm := @run_makeMap Tryz.prog
  go_enter Tryz.func57, Tryz.ntmps57
  go_wp2_with fail
  refine bodyPost_ret (results_cell_row Tryz.results57 _ _ w.heap.size 71 #[.map (some (w.heap.size + 1)), .map (some (w.heap.size + 1 + 1))] (0, 0) _ rfl (((Blk.new _ _ _).alloc _).alloc _) Tryz.underlying71 rfl (by kernel_rfl)) rfl ?_
  exact ⟨_, _, rfl, by omega, by omega, (((Below.refl _ _).alloc (Nat.le_refl _) _).alloc (by simp) _).alloc (by simp; omega) _⟩
/-- a stand's cells -/
def stF (dp xp : Option Addr) (a b : Option Nat) (nx : Int) (room : Int) (lp : Option Addr) : Nat → Value := fun i => if i = 0 then .pointer dp else if i = 1 then .pointer xp else if i = 2 then .map a else if i = 3 then .map b else if i = 4 then .int .i64 nx else if i < 39 then trF 0 rf0 (i - 5) else if i = 39 then .int .i64 0 else if i = 40 then .slice none 0 0 else if i = 41 then .slice none 0 0 else if i = 42 then .int .i64 room else .pointer lp
def stC (dp xp : Option Addr) (a b : Option Nat) (nx : Int) (room : Int) (lp : Option Addr) : Array Value := va 44 (stF dp xp a b nx room lp)
theorem stC_size (dp xp : Option Addr) (a b : Option Nat) (nx : Int) (room : Int) (lp : Option Addr) : (stC dp xp a b nx room lp).size = 44 := va_size _ _
theorem stC_all (dp xp : Option Addr) (a b : Option Nat) (nx : Int) (room : Int) (lp : Option Addr) : (stC dp xp a b nx room lp).all (·.oneCell') = true := va_one fun i _ => by
  unfold stF
  split
  · rfl
  · split
    · rfl
    · split
      · rfl
      · split
        · rfl
        · split
          · rfl
          · split
            · unfold trF
              split
              · rfl
              · exact rfF_one _ _ _
            · split
              · rfl
              · split
                · rfl
                · split
                  · rfl
                  · split <;> rfl
theorem sizeSt : (Tryz.prog.info? 74).map (·.size) = some 44 := by kernel_rfl
theorem zero_st (w : World) : (zeroValue 74).run Tryz.prog w = .ok (.agg (stC none none none none 0 0 none)) w := zero_of (by kernel_rfl) w
theorem built_st (dp xp : Option Addr) (a b : Nat) (room : Int) (lp : Option Addr) : Tryz.prog.built 74 [(0, .pointer dp), (1, .pointer xp), (2, .agg #[.map (some a), .map (some b)]), (3, .int .i64 1), (5, .int .i64 room), (6, .pointer lp)] = some (stC dp xp (some a) (some b) 1 room lp) := by kernel_rfl
theorem st_c1 {w : World} {g : Nat} {dp xp : Option Addr} {a b : Option Nat} {nx room : Int} {lp : Option Addr} (H : Blk w g 74 (stC dp xp a b nx room lp)) : w.cell? ⟨g, 1, none⟩ = some (.pointer xp) := H.cv (n := 44) (by decide)
theorem wpList_build6s {P : Program} {ops : Array Oper} {rest : List Oper} {o : Oper} {a : Act} {w : World} {Q : Exit → Act → World → Prop} (hg : o.guard = none) (t : TypeId) (x0 x1 x2 x3 x5 x6 : Operand) (ho : o.op = .build t #[(0, x0), (1, x1), (2, x2), (3, x3), (5, x5), (6, x6)]) (v0 v1 v2 v3 v5 v6 : Value) (h0 : a.eval x0 = v0) (h1 : a.eval x1 = v1) (h2 : a.eval x2 = v2) (h3 : a.eval x3 = v3) (h5 : a.eval x5 = v5) (h6 : a.eval x6 = v6)
    (cells : Array Value) (hf : P.built t [(0, v0), (1, v1), (2, v2), (3, v3), (5, v5), (6, v6)] = some cells) (h : wpList P ops Q rest (a.put o.dst (.agg cells)) w) : wpList P ops Q (o :: rest) a w := by
  refine wpList_buildTo hg t _ ho o.dst rfl cells ?_ h
  have e : (Array.map (fun (x : Nat × Operand) => match x with | (i, x) => (i, a.eval x)) #[(0, x0), (1, x1), (2, x2), (3, x3), (5, x5), (6, x6)]).toList = [(0, v0), (1, v1), (2, v2), (3, v3), (5, v5), (6, v6)] := by simp [h0, h1, h2, h3, h5, h6]
  rw [e]
  exact hf
theorem may00 : mayOpen 0 rf0 0 := ⟨by decide, by decide, by simp, by decide⟩
/-- inodes on an empty disk: what they stand on does not matter here -/
def Begun (w w' : World) (x mf ml mc : Nat) : Prop := (w.heap.size ≤ x ∧ w.heap.size ≤ mf ∧ x ≠ mf) ∧ ∃ c, Blk w' x 113 (ixC (some ⟨c, 0, none⟩) 0 rf0 0 0 mf ml mc) ∧ MapIs pkV ftV w' mf []
set_option maxRecDepth 100000 in
set_option maxHeartbeats 4000000 in
theorem begun_0 (w : World) : Calls Tryz.prog 20 #[.int .i64 0, .pointer none] w fun e w' => ∃ d x a b mf ml mc, e = .returned (.tuple #[.agg (stC (some ⟨d, 0, none⟩) (some ⟨x, 0, none⟩) (some a) (some b) 1 0 none), .bool true]) ∧ Begun w w' x mf ml mc ∧ Below w.heap.size w w' := by
  have hz := zero_st
  have hbt := built_tr0
  have HN : Hid (∀ w : World, Calls Tryz.prog 5 #[.int .i64 6000] w fun e w' => ∃ g, e = .returned (.tuple #[.pointer (some ⟨g, 0, none⟩), .int .i64 0]) ∧ Below w.heap.size w w') := fun w => (diskNew_any 6000 (by decide) (by decide) w).mono fun e w' ⟨g, q, h1, _, _, h2⟩ => ⟨g, h1, h2⟩
  have HC : Hid (∀ (g : Nat) (w : World), Calls Tryz.prog 6 #[.pointer (some ⟨g, 0, none⟩), .pointer none, .int .i64 0] w fun e w' => ∃ c, e = .returned (.tuple #[.pointer (some ⟨c, 0, none⟩), .int .i64 0]) ∧ Below w.heap.size w w') := fun g w => (caNew_ok g none 0 (by decide) (by decide) w).mono fun e w' ⟨c, m, h1, _, _, _, h2⟩ => ⟨c, h1, h2⟩
  have HO : Hid (∀ (c : Nat) (w : World), Calls Tryz.prog 7 #[.pointer (some ⟨c, 0, none⟩), .agg (trC 0 rf0), .int .i64 0] w fun e w' => ∃ x mf ml mc, e = .returned (.tuple #[.pointer (some ⟨x, 0, none⟩), .int .i64 0]) ∧ (w.heap.size ≤ x ∧ w.heap.size ≤ mf ∧ x ≠ mf) ∧ Blk w' x 113 (ixC (some ⟨c, 0, none⟩) 0 rf0 0 0 mf ml mc) ∧ MapIs pkV ftV w' mf [] ∧ Below w.heap.size w w') := fun c w => (open_ok (by decide) okD_zero (by decide) may00 w).mono fun e w' ⟨x, mf, ml, mc, h1, h2, h3, h4, h5⟩ => ⟨x, mf, ml, mc, h1, ⟨h2.1, h2.2.1, h2.2.2.2.2⟩, h3, h4, h5⟩
  have HR := rnew15_any
  have hb1 : Below w.heap.size w (w.alloc (.cells (stC none none none none 0 0 none) 74)) := below_new1 _ _
  have r1 : Blk (w.alloc (.cells (stC none none none none 0 0 none) 74)) w.heap.size 74 (stC none none none none 0 0 none) := Blk.new _ _ _
  go_enter Tryz.func20, Tryz.ntmps20
  go_wp2_with fail
  generalize (w.alloc (.cells (stC none none none none 0 0 none) 74)) = w1 at *
  refine (HN.out _).mono ?_
  rintro e w2 ⟨d, rfl, hb2⟩
  have r2 := r1.below hb2 r1.lt
  have hb12 := hb1.trans (hb2.mono hb1.size)
  clear r1 hb1 hb2 HN
  go_wp2_with fail
  refine (HC.out _ _).mono ?_
  rintro e w3 ⟨c, rfl, hb3⟩
  have r3 := r2.below hb3 r2.lt
  have hb13 := hb12.trans (hb3.mono hb12.size)
  clear r2 hb12 hb3 HC
  go_wp2_with (first
    | (refine wpList_buildTo (by rfl) 28 #[] (by rfl) _ rfl (trC 0 rf0) (by exact hbt) ?_; simp only [Act.put, List.setIfInBounds_toArray, List.set_cons_zero, List.set_cons_succ])
    | fail)
  refine (HO.out _ _).mono ?_
  rintro e w4 ⟨x, mf, ml, mc, rfl, hbs, hx4, hm4, hb4⟩
  have r4 := r3.below hb4 r3.lt
  have hb14 := hb13.trans (hb4.mono hb13.size)
  have HX4 : Hid ((w.heap.size ≤ x ∧ w.heap.size ≤ mf ∧ x ≠ mf) ∧ Blk w4 x 113 (ixC (some ⟨c, 0, none⟩) 0 rf0 0 0 mf ml mc) ∧ MapIs pkV ftV w4 mf []) := ⟨⟨Nat.le_trans hb13.size hbs.1, Nat.le_trans hb13.size hbs.2.1, hbs.2.2⟩, hx4, hm4⟩
  have HWS : Hid (w.heap.size < w3.heap.size ∧ w3.heap.size ≤ x ∧ w3.heap.size ≤ mf) := ⟨r3.lt, hbs.1, hbs.2.1⟩
  clear r3 hb13 hb4 HO hx4 hm4 hbs hbt
  go_wp2_with fail
  refine (HR _).mono ?_
  rintro e w5 ⟨a, b, rfl, ha, hb, hb5⟩
  have r5 := r4.below hb5 r4.lt
  have hb15 := hb14.trans (hb5.mono hb14.size)
  have HX5 : Hid (Blk w5 x 113 (ixC (some ⟨c, 0, none⟩) 0 rf0 0 0 mf ml mc) ∧ MapIs pkV ftV w5 mf []) := ⟨HX4.out.2.1.below hb5 HX4.out.2.1.lt, HX4.out.2.2.below hb5 (mapLt HX4.out.2.2)⟩
  have hbs := built_st (some ⟨d, 0, none⟩) (some ⟨x, 0, none⟩) a b 0 none
  clear r4 hb14 hb5 HR ha hb
  go_wp2_with (first
    | (refine wpList_build6s (by rfl) 74 _ _ _ _ _ _ (by rfl) _ _ _ _ _ _ (by rfl) (by rfl) (by rfl) (by rfl) (by rfl) (by rfl) (stC (some ⟨d, 0, none⟩) (some ⟨x, 0, none⟩) (some a) (some b) 1 0 none) (by exact hbs) ?_; simp only [Act.put, List.setIfInBounds_toArray, List.set_cons_zero, List.set_cons_succ])
    | (refine wpList_store_row (by rfl) 74 _ _ (by rfl) (w.heap.size) (stC (some ⟨d, 0, none⟩) (some ⟨x, 0, none⟩) (some a) (some b) 1 0 none) (by rfl) (by rfl) 74 (_) (by exact r5) (sizeSt.trans (by rw [stC_size])) (by simp only [stC_size]) (stC_all _ _ _ _ _ _ _) ?_; simp only [Act.put, List.setIfInBounds_toArray, List.set_cons_zero, List.set_cons_succ])
    | fail)
  try simp only [Exit.inBlock, Exit.then]
  refine bodyPost_ret (results_row2 Tryz.results20 _ _ (w.heap.size) 74 (stC (some ⟨d, 0, none⟩) (some ⟨x, 0, none⟩) (some a) (some b) 1 0 none) (0, 0) _ rfl (r5.set _) Tryz.underlying74 rfl (sizeSt.trans (by rw [stC_size]))) rfl ?_
  have hbe : Below w.heap.size w (w5.setRow w.heap.size (stC (some ⟨d, 0, none⟩) (some ⟨x, 0, none⟩) (some a) (some b) 1 0 none)) := below_setRow hb15 (Nat.le_refl _) _
  refine ⟨d, x, a, b, mf, ml, mc, rfl, ⟨HX4.out.1, c, HX5.out.1.other _ (by have := HWS.out; omega), ?_⟩, hbe⟩
  have hml := mapLt HX5.out.2
  obtain ⟨es, clock, hg, he⟩ := HX5.out.2
  exact ⟨es, clock, (((Keeps.refl w.heap.size w5).setRow _).2 mf (by have := HWS.out; omega) hml).trans hg, he⟩
theorem hd_now {w : World} {b t : Nat} {y : Hd} (H : Blk w b t (hdC y)) : w.cell? ⟨b, 38, none⟩ = some (.int .i64 y.n) ∧ w.cell? ⟨b, 39, none⟩ = some (.int .i64 y.k) ∧ w.cell? ⟨b, 40, none⟩ = some (.int .i64 y.l) ∧ w.cell? ⟨b, 41, none⟩ = some (.int .i64 y.s) ∧ w.cell? ⟨b, 42, none⟩ = some (.int .u64 ((y.t : Nat) : Int)) :=
  ⟨H.cv (n := 45) (by decide), H.cv (n := 45) (by decide), H.cv (n := 45) (by decide), H.cv (n := 45) (by decide), H.cv (n := 45) (by decide)⟩
set_option maxRecDepth 100000 in
set_option maxHeartbeats 4000000 in
theorem get_ok {xv : Value} (n : Int) (y : Hd) (w : World) (HU : ∀ V, Below w.heap.size w V → Calls Tryz.prog 35 #[xv, .int .i64 n] V fun e w' => e = .returned (.tuple #[.agg (hdC y), .int .i64 0]) ∧ Below V.heap.size V w') : Calls Tryz.prog 15 #[xv, .int .i64 n] w fun e w' => e = .returned (.tuple #[.agg #[.int .i64 y.n, .int .i64 y.k, .int .i64 y.l, .int .i64 y.s, .int .u64 ((y.t : Nat) : Int)], .int .i64 0]) ∧ Below w.heap.size w w' := by
  have hz2 := zero_hd
  have hb1 : Below w.heap.size w (w.alloc (.cells #[.int .i64 0, .int .i64 0, .int .i64 0, .int .i64 0, .int .u64 0] 54)) := below_new1 _ _
  have r1 : Blk (w.alloc (.cells #[.int .i64 0, .int .i64 0, .int .i64 0, .int .i64 0, .int .u64 0] 54)) w.heap.size 54 #[.int .i64 0, .int .i64 0, .int .i64 0, .int .i64 0, .int .u64 0] := Blk.new _ _ _
  have HU1 := HU _ hb1
  clear HU
  go_enter Tryz.func15, Tryz.ntmps15
  go_wp2_with fail
  generalize (w.alloc (.cells #[.int .i64 0, .int .i64 0, .int .i64 0, .int .i64 0, .int .u64 0] 54)) = w1 at *
  refine HU1.mono ?_
  rintro e w2 ⟨rfl, hb2⟩
  have r2 := r1.below hb2 r1.lt
  have hb12 := hb1.trans (hb2.mono hb1.size)
  clear r1 hb1 hb2 HU1
  have q3 : Blk (w2.alloc (.cells (hdC hd00) 117)) w2.heap.size 117 (hdC hd00) := Blk.new _ _ _
  have q3' := q3.set (hdC y)
  obtain ⟨c38, c39, c40, c41, c42⟩ := hd_now q3'
  have hb23 : Below w2.heap.size w2 ((w2.alloc (.cells (hdC hd00) 117)).setRow w2.heap.size (hdC y)) := below_setRow (below_new1 _ _) (Nat.le_refl _) _
  have r3 := r2.below hb23 r2.lt
  have HB3 : Hid (Below w.heap.size w ((w2.alloc (.cells (hdC hd00) 117)).setRow w2.heap.size (hdC y))) := hb12.trans (hb23.mono hb12.size)
  clear r2 hb12 hb23 q3'
  have d0 : ((w2.alloc (.cells (hdC hd00) 117)).setRow w2.heap.size (hdC y)).cell? ⟨w.heap.size, 0, none⟩ = some (.int .i64 0) := (r3.cell 0).trans rfl
  have e0 : ((w2.alloc (.cells (hdC hd00) 117)).setRow w2.heap.size (hdC y)).frozen? ⟨w.heap.size, 0, none⟩ = false := r3.frozen 0
  have d1 : ((w2.alloc (.cells (hdC hd00) 117)).setRow w2.heap.size (hdC y)).cell? ⟨w.heap.size, 1, none⟩ = some (.int .i64 0) := (r3.cell 1).trans rfl
  have e1 : ((w2.alloc (.cells (hdC hd00) 117)).setRow w2.heap.size (hdC y)).frozen? ⟨w.heap.size, 1, none⟩ = false := r3.frozen 1
  have d2 : ((w2.alloc (.cells (hdC hd00) 117)).setRow w2.heap.size (hdC y)).cell? ⟨w.heap.size, 2, none⟩ = some (.int .i64 0) := (r3.cell 2).trans rfl
  have e2 : ((w2.alloc (.cells (hdC hd00) 117)).setRow w2.heap.size (hdC y)).frozen? ⟨w.heap.size, 2, none⟩ = false := r3.frozen 2
  have d3 : ((w2.alloc (.cells (hdC hd00) 117)).setRow w2.heap.size (hdC y)).cell? ⟨w.heap.size, 3, none⟩ = some (.int .i64 0) := (r3.cell 3).trans rfl
  have e3 : ((w2.alloc (.cells (hdC hd00) 117)).setRow w2.heap.size (hdC y)).frozen? ⟨w.heap.size, 3, none⟩ = false := r3.frozen 3
  have d4 : ((w2.alloc (.cells (hdC hd00) 117)).setRow w2.heap.size (hdC y)).cell? ⟨w.heap.size, 4, none⟩ = some (.int .u64 0) := (r3.cell 4).trans rfl
  have e4 : ((w2.alloc (.cells (hdC hd00) 117)).setRow w2.heap.size (hdC y)).frozen? ⟨w.heap.size, 4, none⟩ = false := r3.frozen 4
  have R4 : Hid (Blk (((((((w2.alloc (.cells (hdC hd00) 117)).setRow w2.heap.size (hdC y)).setCell ⟨w.heap.size, 0, none⟩ (.int .i64 y.n)).setCell ⟨w.heap.size, 1, none⟩ (.int .i64 y.k)).setCell ⟨w.heap.size, 2, none⟩ (.int .i64 y.l)).setCell ⟨w.heap.size, 3, none⟩ (.int .i64 y.s)).setCell ⟨w.heap.size, 4, none⟩ (.int .u64 ((y.t : Nat) : Int))) w.heap.size 54 #[.int .i64 y.n, .int .i64 y.k, .int .i64 y.l, .int .i64 y.s, .int .u64 ((y.t : Nat) : Int)]) := (((((r3.put 0 (.int .i64 y.n)).put 1 (.int .i64 y.k)).put 2 (.int .i64 y.l)).put 3 (.int .i64 y.s)).put 4 (.int .u64 ((y.t : Nat) : Int)))
  have HB4 : Hid (Below w.heap.size w (((((((w2.alloc (.cells (hdC hd00) 117)).setRow w2.heap.size (hdC y)).setCell ⟨w.heap.size, 0, none⟩ (.int .i64 y.n)).setCell ⟨w.heap.size, 1, none⟩ (.int .i64 y.k)).setCell ⟨w.heap.size, 2, none⟩ (.int .i64 y.l)).setCell ⟨w.heap.size, 3, none⟩ (.int .i64 y.s)).setCell ⟨w.heap.size, 4, none⟩ (.int .u64 ((y.t : Nat) : Int)))) := (((((HB3.out.setCell (Nat.le_refl _) _).setCell (Nat.le_refl _) _).setCell (Nat.le_refl _) _).setCell (Nat.le_refl _) _).setCell (Nat.le_refl _) _)
  clear r3 HB3
  go_wp2_with (first
    | (refine wpList_store_row (by rfl) 117 _ _ (by rfl) (w2.heap.size) (hdC y) (by rfl) (by rfl) 117 (hdC hd00) (by exact q3) (sizeHd.trans (by rw [hdC_size])) (by simp only [hdC_size]) (hdC_all _) ?_; simp only [Act.put, List.setIfInBounds_toArray, List.set_cons_zero, List.set_cons_succ])
    | fail)
  try simp only [Exit.inBlock, Exit.then]
  refine bodyPost_ret (results_row2 Tryz.results15 _ _ (w.heap.size) 54 #[.int .i64 y.n, .int .i64 y.k, .int .i64 y.l, .int .i64 y.s, .int .u64 ((y.t : Nat) : Int)] (0, 0) _ rfl R4.out Tryz.underlying54 rfl (by kernel_rfl)) rfl ?_
  exact ⟨rfl, HB4.out⟩
theorem eq_info1 (w : World) : (Op.equalIn 10000 54 (.agg #[.int .i64 1, .int .i64 1, .int .i64 1, .int .i64 0, .int .u64 7]) (.agg #[.int .i64 1, .int .i64 1, .int .i64 1, .int .i64 0, .int .u64 7])).run Tryz.prog w = .ok true w := by
  have h1 : ∀ (d : Nat) (x y : Int), (Op.equalIn (d + 1) 3 (.int .i64 x) (.int .i64 y)).run Tryz.prog w = .ok (x == y) w := fun d x y => by simp [Op.equalIn, run_underlying Tryz.underlying3]
  have h2 : ∀ (d : Nat) (x y : Int), (Op.equalIn (d + 1) 45 (.int .u64 x) (.int .u64 y)).run Tryz.prog w = .ok (x == y) w := fun d x y => by simp [Op.equalIn, run_underlying Tryz.underlying45]
  have hu : Tryz.prog.underlying 54 = some (.struct (Tryz.prog.fieldsOf 54)) := by kernel_rfl
  have hp : Tryz.prog.stoodInHeld 54 = false := by kernel_rfl
  have hf : (Tryz.prog.fieldsOf 54).toList.map (fun f => (f.name == "_", f.type, f.offset)) = [(false, 3, 0), (false, 3, 1), (false, 3, 2), (false, 3, 3), (false, 45, 4)] := by kernel_rfl
  have p0 : (part 3 #[.int .i64 1, .int .i64 1, .int .i64 1, .int .i64 0, .int .u64 7] 0).run Tryz.prog w = .ok (.int .i64 1) w := by simp [part, isAgg, run_underlying Tryz.underlying3]
  have p1 : (part 3 #[.int .i64 1, .int .i64 1, .int .i64 1, .int .i64 0, .int .u64 7] 1).run Tryz.prog w = .ok (.int .i64 1) w := by simp [part, isAgg, run_underlying Tryz.underlying3]
  have p2 : (part 3 #[.int .i64 1, .int .i64 1, .int .i64 1, .int .i64 0, .int .u64 7] 2).run Tryz.prog w = .ok (.int .i64 1) w := by simp [part, isAgg, run_underlying Tryz.underlying3]
  have p3 : (part 3 #[.int .i64 1, .int .i64 1, .int .i64 1, .int .i64 0, .int .u64 7] 3).run Tryz.prog w = .ok (.int .i64 0) w := by simp [part, isAgg, run_underlying Tryz.underlying3]
  have p4 : (part 45 #[.int .i64 1, .int .i64 1, .int .i64 1, .int .i64 0, .int .u64 7] 4).run Tryz.prog w = .ok (.int .u64 7) w := by simp [part, isAgg, run_underlying Tryz.underlying45]
  have := run_eq_five (d := 9999) hu hp hf p0 p0 p1 p1 p2 p2 p3 p3 p4 p4 (h1 9998 _ _) (h1 9998 _ _) (h1 9998 _ _) (h1 9998 _ _) (h2 9998 _ _)
  exact this
set_option maxRecDepth 100000 in
set_option maxHeartbeats 4000000 in
theorem awake15_any (w : World) : Calls Tryz.prog 11 #[] w fun e w' => e = .returned (.bool true) ∧ Below w.heap.size w w' := by
  have hz := zero_st
  have HBG := begun_0 w
  have hei := eq_info1
  go_enter Tryz.func11, Tryz.ntmps11
  go_wp2_with fail
  refine HBG.mono ?_
  rintro e w1 ⟨d, x, a, b, mf, ml, mc, rfl, hbg, hb1⟩
  obtain ⟨hge, c, hx1, hm1⟩ := hbg
  have q2 : Blk (w1.alloc (.cells (stC none none none none 0 0 none) 74)) w1.heap.size 74 (stC none none none none 0 0 none) := Blk.new _ _ _
  have q2' := q2.set (stC (some ⟨d, 0, none⟩) (some ⟨x, 0, none⟩) (some a) (some b) 1 0 none)
  have c1 := st_c1 q2'
  have hb12 : Below w1.heap.size w1 ((w1.alloc (.cells (stC none none none none 0 0 none) 74)).setRow w1.heap.size (stC (some ⟨d, 0, none⟩) (some ⟨x, 0, none⟩) (some a) (some b) 1 0 none)) := below_setRow (below_new1 _ _) (Nat.le_refl _) _
  have HX2 : Hid (Blk ((w1.alloc (.cells (stC none none none none 0 0 none) 74)).setRow w1.heap.size (stC (some ⟨d, 0, none⟩) (some ⟨x, 0, none⟩) (some a) (some b) 1 0 none)) x 113 (ixC (some ⟨c, 0, none⟩) 0 rf0 0 0 mf ml mc) ∧ MapIs pkV ftV ((w1.alloc (.cells (stC none none none none 0 0 none) 74)).setRow w1.heap.size (stC (some ⟨d, 0, none⟩) (some ⟨x, 0, none⟩) (some a) (some b) 1 0 none)) mf [] ∧ Below w.heap.size w ((w1.alloc (.cells (stC none none none none 0 0 none) 74)).setRow w1.heap.size (stC (some ⟨d, 0, none⟩) (some ⟨x, 0, none⟩) (some a) (some b) 1 0 none)) ∧ (w.heap.size ≤ x ∧ w.heap.size ≤ mf ∧ x ≠ mf) ∧ x < w1.heap.size ∧ mf < w1.heap.size) := ⟨hx1.below hb12 hx1.lt, hm1.below hb12 (mapLt hm1), hb1.trans (hb12.mono hb1.size), hge, hx1.lt, mapLt hm1⟩
  clear hb1 hb12 hx1 hm1 hge HBG
  go_wp2_with (first
    | (refine wpList_store_row (by rfl) 74 _ _ (by rfl) (w1.heap.size) (stC (some ⟨d, 0, none⟩) (some ⟨x, 0, none⟩) (some a) (some b) 1 0 none) (by rfl) (by rfl) 74 (stC none none none none 0 0 none) (by exact q2) (sizeSt.trans (by rw [stC_size])) (by simp only [stC_size]) (stC_all _ _ _ _ _ _ _) ?_; simp only [Act.put, List.setIfInBounds_toArray, List.set_cons_zero, List.set_cons_succ])
    | fail)
  clear q2
  generalize ((w1.alloc (.cells (stC none none none none 0 0 none) 74)).setRow w1.heap.size (stC (some ⟨d, 0, none⟩) (some ⟨x, 0, none⟩) (some a) (some b) 1 0 none)) = w2 at *
  have HMK := make_first (cp := some ⟨c, 0, none⟩) (h := 0) (R := rf0) (ml := ml) (mc := mc) 7 w2 HX2.out.2.2.2.1.2.2 HX2.out.1 HX2.out.2.1 rfl rfl
  refine HMK.mono ?_
  rintro e w3 ⟨rfl, hx3, hm3, hb3, hk3⟩
  have hge := HX2.out.2.2.2
  have hsz := HX2.out.2.2.1.size
  have q3 : Blk w3 w1.heap.size 74 (stC (some ⟨d, 0, none⟩) (some ⟨x, 0, none⟩) (some a) (some b) 1 0 none) := (hk3 _ q2'.lt (by omega) (by omega)).trans q2'
  have d1 := st_c1 q3
  have HB3 : Hid (Below w.heap.size w w3) := HX2.out.2.2.1.trans (hb3 _ hge.1.1 hge.1.2.1 hsz)
  have HG : Hid (Calls Tryz.prog 15 #[.pointer (some ⟨x, 0, none⟩), .int .i64 1] w3 fun e w' => e = .returned (.tuple #[.agg #[.int .i64 1, .int .i64 1, .int .i64 1, .int .i64 0, .int .u64 7], .int .i64 0]) ∧ Below w3.heap.size w3 w') := by
    refine get_ok 1 (hdN hd00 1 1 1 0 7) w3 fun V hV => ?_
    have := used_ok (x := x) 1 (by decide) (by decide) (ftU ft00 0 (hdN hd00 1 1 1 0 7)) (by decide) V fun U hU => ?_
    · exact this
    · have hVU := hV.trans (hU.mono hV.size)
      exact four_hit 0 _ U (hx3.below hVU hx3.lt) (hm3.below hVU (mapLt hm3)) rfl rfl
  clear hx3 hm3 hb3 hk3 HMK HX2 q2' c1 hge hsz q3
  go_wp2_with fail
  refine HG.out.mono ?_
  rintro e w4 ⟨rfl, hb4⟩
  have HB4 : Hid (Below w.heap.size w w4) := HB3.out.trans (hb4.mono HB3.out.size)
  clear HG hb4 HB3
  go_wp2_with fail
  go_ret
  exact ⟨rfl, HB4.out.alloc HB4.out.size _⟩
end Go.Proofs.YtbcgpiocigjkoaaGreat
