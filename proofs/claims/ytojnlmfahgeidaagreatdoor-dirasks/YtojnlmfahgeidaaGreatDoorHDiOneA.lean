/- The statements' own step on directories: one, over what stands in the memory. -/
import Derived.Test.YtojnlmfahgeidaaGreatDoorHInsDrop
import Derived.Lib.Walk
import Derived.Handy
import Derived.Test.YtojnlmfahgeidaaGreatDoorHInsCalls
import Derived.Deep.MidRow
import Derived.Test.YtojnlmfahgeidaaGreatDoorHDiLay
import Derived.Test.YtojnlmfahgeidaaGreatDoorHDiOne
import Derived.Test.YtojnlmfahgeidaaGreatDoorHDiFillK
import Derived.Test.YtojnlmfahgeidaaGreatDoorHDiFind
import Derived.Test.YtojnlmfahgeidaaGreatDoorHDiSort2
import Derived.Test.YtojnlmfahgeidaaGreatDoorHDiRRem

namespace Go.Proofs.YtojnlmfahgeidaaGreatDoor
open Go Go.RowKit
set_option linter.unusedSimpArgs false
set_option linter.unusedVariables false
theorem Turns.kept {V w' : World} {mf x : Nat} (h : Keeps mf V w') : Turns (fun z => z = x ∨ z = mf) V w' := ⟨h.1.os, h.1.tape, h.1.output, h.1.size, fun k hk hn => h.2 k (fun e => hn (.inr e)) hk⟩
section
variable {w w' : World} {x mf ml mc : Nat} {cp : Option Addr} {top : Int} {H : Nat → Hd} {D : Nat → Nat → Nat → Nat}
theorem IM.setTop (h : IM w x mf ml mc cp top H D) (t : Int) : IM (w.setCell ⟨x, 36, none⟩ (.int .i64 t)) x mf ml mc cp t H D := by
  obtain ⟨M, m1, m2⟩ := h.fm
  obtain ⟨M', l1, l2⟩ := h.lm
  obtain ⟨c, hc⟩ := h.cm
  have hx : Blk (w.setCell ⟨x, 36, none⟩ (.int .i64 t)) x 218 (ixC cp 0 rf0 0 t mf ml mc) := by
    have := h.ix.put 36 (.int .i64 t)
    rw [ix_top] at this
    exact this
  exact ⟨hx, ⟨M, m1.keep (Below.heap_setCell _ _ _ _ (Ne.symm h.ne.1)), m2⟩, ⟨M', l1.keep (Below.heap_setCell _ _ _ _ (Ne.symm h.ne.2.1)), l2⟩, ⟨c, (Below.heap_setCell _ _ _ _ (Ne.symm h.ne.2.2.1)).trans hc⟩, h.ne⟩
set_option maxRecDepth 100000 in
set_option maxHeartbeats 8000000 in
theorem IM.make (h : IM w x mf ml mc cp top H D) (n : Nat) (h1 : 1 ≤ n) (h2 : n ≤ 4096) (hk : (H n).k = 0) (hm : ∀ m, 1 ≤ m → m < n → (H m).k ≠ 0) (kd : Int) (hkd : kd = 1 ∨ kd = 2) (st : Nat) (ht0 : 0 ≤ top ∧ top ≤ 4096) : Calls Tryz.prog 49 #[.pointer (some ⟨x, 0, none⟩), .int .i64 kd, .int .u64 ((st : Nat) : Int)] w fun e w' => e = .returned (.tuple #[.int .i64 (n : Int), .int .i64 0]) ∧ IM w' x mf ml mc cp (max top (n : Int)) (hU H n (hdN (H n) (n : Int) kd 1 0 st)) D ∧ Turns (fun z => z = x ∨ z = mf) w w' := by
  have hz2 := zero_hd
  have HFR : Hid (Calls Tryz.prog 107 #[.pointer (some ⟨x, 0, none⟩)] w fun e w' => e = .returned (.tuple #[.int .i64 (n : Int), .agg (hdC (H n)), .int .i64 0]) ∧ Below w.heap.size w w') := h.free n h1 h2 hk hm
  have HI : Hid (IM w x mf ml mc cp top H D) := h
  have HN : Hid (1 ≤ n ∧ n ≤ 4096) := ⟨h1, h2⟩
  obtain ⟨T, hT⟩ : ∃ T, max top (n : Int) = T := ⟨_, rfl⟩
  rw [hT]
  have HT : Hid (max top (n : Int) = T) := hT
  clear h h1 h2 hk hm hT
  go_enter Tryz.func49, Tryz.ntmps49
  rcases hkd with rfl | rfl
  · skip
    have HPU : Hid (∀ V, IM V x mf ml mc cp top H D → Calls Tryz.prog 108 #[.pointer (some ⟨x, 0, none⟩), .int .i64 (n : Int), .agg (hdC (hdN (H n) (n : Int) 1 1 0 st))] V fun e w' => e = .returned (.tuple #[]) ∧ IM w' x mf ml mc cp top (hU H n (hdN (H n) (n : Int) 1 1 0 st)) D ∧ Keeps mf V w') := fun V hV => hV.put n HN.out.1 HN.out.2 _
    go_wp2_with fail
    refine HFR.out.mono ?_
    rintro e w2 ⟨rfl, hb2⟩
    have HX2 : Hid (IM w2 x mf ml mc cp top H D ∧ Below w.heap.size w w2) := ⟨HI.out.below hb2, hb2⟩
    have q3 : Blk (w2.alloc (.cells (hdC hd00) 222)) w2.heap.size 222 (hdC hd00) := Blk.new _ _ _
    have q3' := q3.set (hdC (H n))
    have HB3 : Hid (Below w2.heap.size w2 ((w2.alloc (.cells (hdC hd00) 222)).setRow w2.heap.size (hdC (H n)))) := below_setRow (below_new1 _ _) (Nat.le_refl _) _
    clear hb2 HFR
    go_upto_region 6 with (first
      | (refine wpList_store_row (by rfl) 222 _ _ (by rfl) (w2.heap.size) (hdC (H n)) (by rfl) (by rfl) 222 (hdC hd00) (by exact q3) (sizeHd.trans (by rw [hdC_size])) (by simp only [hdC_size]) (hdC_all _) ?_; simp only [Act.put, List.setIfInBounds_toArray, List.set_cons_zero, List.set_cons_succ])
      | fail)
    clear q3
    generalize ((w2.alloc (.cells (hdC hd00) 222)).setRow w2.heap.size (hdC (H n))) = w3 at *
    have c38 := hd_c38 q3'
    have f38 : w3.frozen? ⟨w2.heap.size, 38, none⟩ = false := q3'.frozen 38
    have c39 := hd_c39 q3'
    have f39 : w3.frozen? ⟨w2.heap.size, 39, none⟩ = false := q3'.frozen 39
    have c40 := hd_c40 q3'
    have f40 : w3.frozen? ⟨w2.heap.size, 40, none⟩ = false := q3'.frozen 40
    have c41 := hd_c41 q3'
    have f41 : w3.frozen? ⟨w2.heap.size, 41, none⟩ = false := q3'.frozen 41
    have c42 := hd_c42 q3'
    have f42 : w3.frozen? ⟨w2.heap.size, 42, none⟩ = false := q3'.frozen 42
    have q4 : Hid (Blk (((((w3.setCell ⟨w2.heap.size, 38, none⟩ (.int .i64 (n : Int))).setCell ⟨w2.heap.size, 39, none⟩ (.int .i64 1)).setCell ⟨w2.heap.size, 40, none⟩ (.int .i64 1)).setCell ⟨w2.heap.size, 41, none⟩ (.int .i64 0)).setCell ⟨w2.heap.size, 42, none⟩ (.int .u64 ((st : Nat) : Int))) w2.heap.size 222 (hdC (hdN (H n) (n : Int) 1 1 0 st))) := hd_putNow q3' (n : Int) 1 1 0 st
    have HX4 : Hid (IM (((((w3.setCell ⟨w2.heap.size, 38, none⟩ (.int .i64 (n : Int))).setCell ⟨w2.heap.size, 39, none⟩ (.int .i64 1)).setCell ⟨w2.heap.size, 40, none⟩ (.int .i64 1)).setCell ⟨w2.heap.size, 41, none⟩ (.int .i64 0)).setCell ⟨w2.heap.size, 42, none⟩ (.int .u64 ((st : Nat) : Int))) x mf ml mc cp top H D ∧ Below w.heap.size w (((((w3.setCell ⟨w2.heap.size, 38, none⟩ (.int .i64 (n : Int))).setCell ⟨w2.heap.size, 39, none⟩ (.int .i64 1)).setCell ⟨w2.heap.size, 40, none⟩ (.int .i64 1)).setCell ⟨w2.heap.size, 41, none⟩ (.int .i64 0)).setCell ⟨w2.heap.size, 42, none⟩ (.int .u64 ((st : Nat) : Int)))) := by
      have hb4 : Below w2.heap.size w2 (((((w3.setCell ⟨w2.heap.size, 38, none⟩ (.int .i64 (n : Int))).setCell ⟨w2.heap.size, 39, none⟩ (.int .i64 1)).setCell ⟨w2.heap.size, 40, none⟩ (.int .i64 1)).setCell ⟨w2.heap.size, 41, none⟩ (.int .i64 0)).setCell ⟨w2.heap.size, 42, none⟩ (.int .u64 ((st : Nat) : Int))) := below_setCells (Nat.le_refl _) [.int .i64 (n : Int), .int .i64 1, .int .i64 1, .int .i64 0, .int .u64 ((st : Nat) : Int)] 38 _ HB3.out
      exact ⟨HX2.out.1.below hb4, HX2.out.2.trans (hb4.mono HX2.out.2.size)⟩
    clear q3' HX2 HB3
    go_wp2_with (first
      | (refine wpList_load_rowg (by rfl) 222 _ (by rfl) (w2.heap.size) (by rfl) 222 (hdC (hdN (H n) (n : Int) 1 1 0 st)) (0, 0) _ (by exact q4.out) Tryz.underlying222 (by rfl) (sizeHd.trans (by rw [hdC_size])) ?_; simp only [Act.put, List.setIfInBounds_toArray, List.set_cons_zero, List.set_cons_succ])
      | fail)
    refine (HPU.out _ HX4.out.1).mono ?_
    rintro e w5 ⟨rfl, hI5, hk5⟩
    have x5 := hI5.ix
    have d36 := ix_c36 x5
    have e36 : w5.frozen? ⟨x, 36, none⟩ = false := x5.frozen 36
    have HE : Hid (∀ t : Int, IM (w5.setCell ⟨x, 36, none⟩ (.int .i64 t)) x mf ml mc cp t (hU H n (hdN (H n) (n : Int) 1 1 0 st)) D ∧ Turns (fun z => z = x ∨ z = mf) w (w5.setCell ⟨x, 36, none⟩ (.int .i64 t))) := fun t => ⟨hI5.setTop t, ((Turns.bel HX4.out.2).tr (Turns.kept hk5)).tr (Turns.cell w5 x 36 _ (.inl rfl))⟩
    clear hI5 hk5 x5 HX4 q4 HPU c38 c39 c40 c41 c42 f38 f39 f40 f41 f42
    go_wp2_with fail
    go_ret2
    exact ⟨rfl, by rw [← HT.out]; exact (HE.out _).1, (HE.out _).2⟩
  · skip
    have HPU : Hid (∀ V, IM V x mf ml mc cp top H D → Calls Tryz.prog 108 #[.pointer (some ⟨x, 0, none⟩), .int .i64 (n : Int), .agg (hdC (hdN (H n) (n : Int) 2 1 0 st))] V fun e w' => e = .returned (.tuple #[]) ∧ IM w' x mf ml mc cp top (hU H n (hdN (H n) (n : Int) 2 1 0 st)) D ∧ Keeps mf V w') := fun V hV => hV.put n HN.out.1 HN.out.2 _
    go_wp2_with fail
    refine HFR.out.mono ?_
    rintro e w2 ⟨rfl, hb2⟩
    have HX2 : Hid (IM w2 x mf ml mc cp top H D ∧ Below w.heap.size w w2) := ⟨HI.out.below hb2, hb2⟩
    have q3 : Blk (w2.alloc (.cells (hdC hd00) 222)) w2.heap.size 222 (hdC hd00) := Blk.new _ _ _
    have q3' := q3.set (hdC (H n))
    have HB3 : Hid (Below w2.heap.size w2 ((w2.alloc (.cells (hdC hd00) 222)).setRow w2.heap.size (hdC (H n)))) := below_setRow (below_new1 _ _) (Nat.le_refl _) _
    clear hb2 HFR
    go_upto_region 6 with (first
      | (refine wpList_store_row (by rfl) 222 _ _ (by rfl) (w2.heap.size) (hdC (H n)) (by rfl) (by rfl) 222 (hdC hd00) (by exact q3) (sizeHd.trans (by rw [hdC_size])) (by simp only [hdC_size]) (hdC_all _) ?_; simp only [Act.put, List.setIfInBounds_toArray, List.set_cons_zero, List.set_cons_succ])
      | fail)
    clear q3
    generalize ((w2.alloc (.cells (hdC hd00) 222)).setRow w2.heap.size (hdC (H n))) = w3 at *
    have c38 := hd_c38 q3'
    have f38 : w3.frozen? ⟨w2.heap.size, 38, none⟩ = false := q3'.frozen 38
    have c39 := hd_c39 q3'
    have f39 : w3.frozen? ⟨w2.heap.size, 39, none⟩ = false := q3'.frozen 39
    have c40 := hd_c40 q3'
    have f40 : w3.frozen? ⟨w2.heap.size, 40, none⟩ = false := q3'.frozen 40
    have c41 := hd_c41 q3'
    have f41 : w3.frozen? ⟨w2.heap.size, 41, none⟩ = false := q3'.frozen 41
    have c42 := hd_c42 q3'
    have f42 : w3.frozen? ⟨w2.heap.size, 42, none⟩ = false := q3'.frozen 42
    have q4 : Hid (Blk (((((w3.setCell ⟨w2.heap.size, 38, none⟩ (.int .i64 (n : Int))).setCell ⟨w2.heap.size, 39, none⟩ (.int .i64 2)).setCell ⟨w2.heap.size, 40, none⟩ (.int .i64 1)).setCell ⟨w2.heap.size, 41, none⟩ (.int .i64 0)).setCell ⟨w2.heap.size, 42, none⟩ (.int .u64 ((st : Nat) : Int))) w2.heap.size 222 (hdC (hdN (H n) (n : Int) 2 1 0 st))) := hd_putNow q3' (n : Int) 2 1 0 st
    have HX4 : Hid (IM (((((w3.setCell ⟨w2.heap.size, 38, none⟩ (.int .i64 (n : Int))).setCell ⟨w2.heap.size, 39, none⟩ (.int .i64 2)).setCell ⟨w2.heap.size, 40, none⟩ (.int .i64 1)).setCell ⟨w2.heap.size, 41, none⟩ (.int .i64 0)).setCell ⟨w2.heap.size, 42, none⟩ (.int .u64 ((st : Nat) : Int))) x mf ml mc cp top H D ∧ Below w.heap.size w (((((w3.setCell ⟨w2.heap.size, 38, none⟩ (.int .i64 (n : Int))).setCell ⟨w2.heap.size, 39, none⟩ (.int .i64 2)).setCell ⟨w2.heap.size, 40, none⟩ (.int .i64 1)).setCell ⟨w2.heap.size, 41, none⟩ (.int .i64 0)).setCell ⟨w2.heap.size, 42, none⟩ (.int .u64 ((st : Nat) : Int)))) := by
      have hb4 : Below w2.heap.size w2 (((((w3.setCell ⟨w2.heap.size, 38, none⟩ (.int .i64 (n : Int))).setCell ⟨w2.heap.size, 39, none⟩ (.int .i64 2)).setCell ⟨w2.heap.size, 40, none⟩ (.int .i64 1)).setCell ⟨w2.heap.size, 41, none⟩ (.int .i64 0)).setCell ⟨w2.heap.size, 42, none⟩ (.int .u64 ((st : Nat) : Int))) := below_setCells (Nat.le_refl _) [.int .i64 (n : Int), .int .i64 2, .int .i64 1, .int .i64 0, .int .u64 ((st : Nat) : Int)] 38 _ HB3.out
      exact ⟨HX2.out.1.below hb4, HX2.out.2.trans (hb4.mono HX2.out.2.size)⟩
    clear q3' HX2 HB3
    go_wp2_with (first
      | (refine wpList_load_rowg (by rfl) 222 _ (by rfl) (w2.heap.size) (by rfl) 222 (hdC (hdN (H n) (n : Int) 2 1 0 st)) (0, 0) _ (by exact q4.out) Tryz.underlying222 (by rfl) (sizeHd.trans (by rw [hdC_size])) ?_; simp only [Act.put, List.setIfInBounds_toArray, List.set_cons_zero, List.set_cons_succ])
      | fail)
    refine (HPU.out _ HX4.out.1).mono ?_
    rintro e w5 ⟨rfl, hI5, hk5⟩
    have x5 := hI5.ix
    have d36 := ix_c36 x5
    have e36 : w5.frozen? ⟨x, 36, none⟩ = false := x5.frozen 36
    have HE : Hid (∀ t : Int, IM (w5.setCell ⟨x, 36, none⟩ (.int .i64 t)) x mf ml mc cp t (hU H n (hdN (H n) (n : Int) 2 1 0 st)) D ∧ Turns (fun z => z = x ∨ z = mf) w (w5.setCell ⟨x, 36, none⟩ (.int .i64 t))) := fun t => ⟨hI5.setTop t, ((Turns.bel HX4.out.2).tr (Turns.kept hk5)).tr (Turns.cell w5 x 36 _ (.inl rfl))⟩
    clear hI5 hk5 x5 HX4 q4 HPU c38 c39 c40 c41 c42 f38 f39 f40 f41 f42
    go_wp2_with fail
    go_ret2
    exact ⟨rfl, by rw [← HT.out]; exact (HE.out _).1, (HE.out _).2⟩
end
end Go.Proofs.YtojnlmfahgeidaaGreatDoor

namespace Go.Proofs.YtojnlmfahgeidaaGreatDoor
open Go Go.RowKit
set_option linter.unusedSimpArgs false
set_option linter.unusedVariables false
theorem wrong_not (x : Nat) (n : Int) (hn : -9223372036854775808 ≤ n ∧ n ≤ 9223372036854775807) (h : ¬ (1 ≤ n ∧ n ≤ 4096)) (w : World) : Calls Tryz.prog 160 #[.pointer (some ⟨x, 0, none⟩), .int .i64 n] w fun e w' => e = .returned (.int .i64 141) ∧ w' = w := by
  have HP := place_any n hn w
  rw [if_neg h] at HP
  clear h
  go_enter Tryz.func160, Tryz.ntmps160
  go_wp2_with fail
  refine HP.mono ?_
  rintro e w1 ⟨rfl, rfl⟩
  go_wp2_with fail
  go_ret
  exact ⟨rfl, rfl⟩
set_option maxRecDepth 100000 in
set_option maxHeartbeats 4000000 in
theorem used_wrong (x : Nat) (n : Int) (hn : -9223372036854775808 ≤ n ∧ n ≤ 9223372036854775807) (h : ¬ (1 ≤ n ∧ n ≤ 4096)) (w : World) : Calls Tryz.prog 114 #[.pointer (some ⟨x, 0, none⟩), .int .i64 n] w fun e w' => e = .returned (.tuple #[.agg (hdC hd00), .int .i64 141]) ∧ Below w.heap.size w w' := by
  have hz2 := zero_hd
  have HWR : Hid (∀ w : World, Calls Tryz.prog 160 #[.pointer (some ⟨x, 0, none⟩), .int .i64 n] w fun e w' => e = .returned (.int .i64 141) ∧ w' = w) := wrong_not x n hn h
  clear h hn
  have hb1 : Below w.heap.size w (w.alloc (.cells (hdC hd00) 222)) := below_new1 _ _
  have r1 : Blk (w.alloc (.cells (hdC hd00) 222)) w.heap.size 222 (hdC hd00) := Blk.new _ _ _
  go_enter Tryz.func114, Tryz.ntmps114
  go_wp2_with fail
  generalize (w.alloc (.cells (hdC hd00) 222)) = w1 at *
  refine (HWR.out w1).mono ?_
  rintro e w2 ⟨rfl, hw2⟩
  subst hw2
  go_wp2_with (first
    | (refine wpList_buildTo (by rfl) 222 #[] (by rfl) _ rfl (hdC hd00) (by exact built_hd0) ?_; simp only [Act.put, List.setIfInBounds_toArray, List.set_cons_zero, List.set_cons_succ])
    | (refine wpList_store_row (by rfl) 222 _ _ (by rfl) (w.heap.size) (hdC hd00) (by rfl) (by rfl) 222 (hdC hd00) (by exact r1) (sizeHd.trans (by rw [hdC_size])) (by simp only [hdC_size]) (hdC_all _) ?_; simp only [Act.put, List.setIfInBounds_toArray, List.set_cons_zero, List.set_cons_succ])
    | fail)
  try simp only [Exit.inBlock, Exit.then]
  refine bodyPost_ret (results_row2 Tryz.results114 _ _ (w.heap.size) 222 (hdC hd00) (0, 0) _ rfl (r1.set _) Tryz.underlying222 rfl (sizeHd.trans (by rw [hdC_size]))) rfl ?_
  exact ⟨rfl, below_setRow hb1 (Nat.le_refl _) _⟩
section
variable {x : Nat}
set_option maxRecDepth 100000 in
set_option maxHeartbeats 4000000 in
theorem used_none (n : Int) (h1 : 1 ≤ n) (h2 : n ≤ 4096) (q : Nat → Hd) (hq : (q ((n - 1) % 4).toNat).k = 0) (w : World) (HF : ∀ V, Below w.heap.size w V → Calls Tryz.prog 153 #[.pointer (some ⟨x, 0, none⟩), .int .i64 ((n - 1) / 4)] V fun e w' => e = .returned (.tuple #[.agg (ftC q), .int .i64 0]) ∧ Below V.heap.size V w') : Calls Tryz.prog 114 #[.pointer (some ⟨x, 0, none⟩), .int .i64 n] w fun e w' => e = .returned (.tuple #[.agg (hdC hd00), .int .i64 151]) ∧ Below w.heap.size w w' := by
  have hz := zero_ft
  have hz2 := zero_hd
  have HWR := wrong_ok x n h1 h2
  have HPL : Hid (∀ V : World, Calls Tryz.prog 156 #[.int .i64 n] V fun e w' => e = .returned (.tuple #[.int .i64 ((n - 1) / 4), .int .i64 ((n - 1) % 4), .int .i64 0]) ∧ w' = V) := fun V => by
    have := place_any n ⟨by omega, by omega⟩ V
    rw [if_pos ⟨h1, h2⟩] at this
    exact this
  obtain ⟨pn, hpn, hp4⟩ : ∃ pn : Nat, (n - 1) % 4 = (pn : Int) ∧ pn < 4 := ⟨((n - 1) % 4).toNat, by omega, by omega⟩
  rw [hpn] at HPL hq
  have hpt : ((pn : Int)).toNat = pn := rfl
  rw [hpt] at hq
  have HWW : Hid (∀ w : World, Calls Tryz.prog 160 #[.pointer (some ⟨x, 0, none⟩), .int .i64 n] w fun e w' => e = .returned (.int .i64 0) ∧ w' = w) := HWR
  have HFF : Hid (∀ V, Below w.heap.size w V → Calls Tryz.prog 153 #[.pointer (some ⟨x, 0, none⟩), .int .i64 ((n - 1) / 4)] V fun e w' => e = .returned (.tuple #[.agg (ftC q), .int .i64 0]) ∧ Below V.heap.size V w') := HF
  have hb1 : Below w.heap.size w (w.alloc (.cells (hdC hd00) 222)) := below_new1 _ _
  have r1 : Blk (w.alloc (.cells (hdC hd00) 222)) w.heap.size 222 (hdC hd00) := Blk.new _ _ _
  have HIU : Hid (∀ w : World, Calls Tryz.prog 154 #[.agg (hdC (q pn))] w fun e w' => e = .returned (.bool false) ∧ Below w.heap.size w w') := fun w => by
    have := inUse_any (q pn) w
    rw [show ((q pn).k != 0) = false by simp [hq]] at this
    exact this
  have p0 : (0 : Int) ≤ (pn : Int) := by omega
  have p1 : (pn : Int) < 4 := by omega
  clear HF HWR hq hpn hpt h1 h2
  go_enter Tryz.func114, Tryz.ntmps114
  go_wp2_with fail
  have HF1 := HFF.out _ hb1
  generalize (w.alloc (.cells (hdC hd00) 222)) = w1 at *
  refine (HWW.out w1).mono ?_
  rintro e _ ⟨rfl, rfl⟩
  go_wp2_with fail
  refine (HPL.out _).mono ?_
  rintro e _ ⟨rfl, rfl⟩
  go_wp2_with fail
  refine HF1.mono ?_
  rintro e w2 ⟨rfl, hb2⟩
  have hb12 := hb1.trans (hb2.mono hb1.size)
  have r2 := r1.below hb2 r1.lt
  clear HF1 HFF hb2 hb1 r1 HWW HPL
  have f3 : Blk (w2.alloc (.cells (ftC ft00) 270)) w2.heap.size 270 (ftC ft00) := Blk.new _ _ _
  have f3' := f3.set (ftC q)
  have hb23 : Below w2.heap.size w2 ((w2.alloc (.cells (ftC ft00) 270)).setRow w2.heap.size (ftC q)) := below_setRow (below_new1 _ _) (Nat.le_refl _) _
  have r3 := r2.below hb23 r2.lt
  have HB3 : Hid (Below w.heap.size w ((w2.alloc (.cells (ftC ft00) 270)).setRow w2.heap.size (ftC q))) := hb12.trans (hb23.mono hb12.size)
  have HR3 : Hid (((w2.alloc (.cells (ftC ft00) 270)).setRow w2.heap.size (ftC q)).rangeAt w2.heap.size (pn * 45) ((List.range 45).map (hdF (q pn)))) := ft_range f3' pn hp4
  clear hb12 hb23 r2
  go_wp2_with (first
    | (refine wpList_store_row (by rfl) 270 _ _ (by rfl) (w2.heap.size) (ftC q) (by rfl) (by rfl) 270 (ftC ft00) (by exact f3) (sizeFt.trans (by rw [ftC_size])) (by simp only [ftC_size]) (ftC_all _) ?_; simp only [Act.put, List.setIfInBounds_toArray, List.set_cons_zero, List.set_cons_succ])
    | (refine wpList_load_blk (by rfl) 222 _ (by rfl) (w2.heap.size) (pn * 45) 45 (hdF (q pn)) (by rfl) _ (by exact HR3.out) Tryz.underlying222 rfl sizeHd ?_; simp only [Act.put, List.setIfInBounds_toArray, List.set_cons_zero, List.set_cons_succ])
    | fail)
  clear f3
  generalize ((w2.alloc (.cells (ftC ft00) 270)).setRow w2.heap.size (ftC q)) = w3 at *
  refine (HIU.out w3).mono ?_
  rintro e w4 ⟨rfl, hb4⟩
  have f4 := f3'.below hb4 f3'.lt
  have r4 := r3.below hb4 r3.lt
  have HR4 : Hid (w4.rangeAt w2.heap.size (pn * 45) ((List.range 45).map (hdF (q pn)))) := ft_range f4 pn hp4
  have HB4 : Hid (Below w.heap.size w w4) := HB3.out.trans (hb4.mono HB3.out.size)
  clear hb4 HB3 HR3 r3 f3' f4
  go_wp2_with (first
    | (refine wpList_buildTo (by rfl) 222 #[] (by rfl) _ rfl (hdC hd00) (by exact built_hd0) ?_; simp only [Act.put, List.setIfInBounds_toArray, List.set_cons_zero, List.set_cons_succ])
    | (refine wpList_store_row (by rfl) 222 _ _ (by rfl) (w.heap.size) (hdC hd00) (by rfl) (by rfl) 222 (hdC hd00) (by exact r4) (sizeHd.trans (by rw [hdC_size])) (by simp only [hdC_size]) (hdC_all _) ?_; simp only [Act.put, List.setIfInBounds_toArray, List.set_cons_zero, List.set_cons_succ])
    | fail)
  try simp only [Exit.inBlock, Exit.then]
  refine bodyPost_ret (results_row2 Tryz.results114 _ _ (w.heap.size) 222 (hdC hd00) (0, 0) _ rfl (r4.set _) Tryz.underlying222 rfl (sizeHd.trans (by rw [hdC_size]))) rfl ?_
  exact ⟨rfl, below_setRow HB4.out (Nat.le_refl _) _⟩
end
section
variable {w w' : World} {x mf ml mc : Nat} {cp : Option Addr} {top : Int} {H : Nat → Hd} {D : Nat → Nat → Nat → Nat}
theorem IM.usedNone (h : IM w x mf ml mc cp top H D) (n : Nat) (h1 : 1 ≤ n) (h2 : n ≤ 4096) (hk : (H n).k = 0) : Calls Tryz.prog 114 #[.pointer (some ⟨x, 0, none⟩), .int .i64 (n : Int)] w fun e w' => e = .returned (.tuple #[.agg (hdC hd00), .int .i64 151]) ∧ Below w.heap.size w w' := by
  refine used_none (x := x) (n : Int) (by omega) (by omega) (foH H ((n - 1) / 4)) (by rw [foH_at n h1]; exact hk) w fun V hV => ?_
  have := (h.below hV).four ((n - 1) / 4) (by omega)
  rw [show (((n - 1) / 4 : Nat) : Int) = ((n : Int) - 1) / 4 by omega] at this
  exact this
/-- what is told of a number that is no inode's, or of none in use -/
def noE (H : Nat → Hd) (n : Int) : Int := if 1 ≤ n ∧ n ≤ 4096 then (if (H n.toNat).k = 0 then 151 else 0) else 141
theorem IM.usedNot (h : IM w x mf ml mc cp top H D) (n : Int) (hn : -9223372036854775808 ≤ n ∧ n ≤ 9223372036854775807) (he : noE H n ≠ 0) : Calls Tryz.prog 114 #[.pointer (some ⟨x, 0, none⟩), .int .i64 n] w fun e w' => e = .returned (.tuple #[.agg (hdC hd00), .int .i64 (noE H n)]) ∧ Below w.heap.size w w' := by
  unfold noE at he ⊢
  by_cases hr : 1 ≤ n ∧ n ≤ 4096
  · rw [if_pos hr] at he ⊢
    by_cases hk : (H n.toNat).k = 0
    · rw [if_pos hk]
      have := h.usedNone n.toNat (by omega) (by omega) hk
      rw [show ((n.toNat : Nat) : Int) = n by omega] at this
      exact this
    · rw [if_neg hk] at he
      exact absurd rfl he
  · rw [if_neg hr]
    exact used_wrong x n hn hr w
theorem IM.getNot (h : IM w x mf ml mc cp top H D) (n : Int) (hn : -9223372036854775808 ≤ n ∧ n ≤ 9223372036854775807) (he : noE H n ≠ 0) : Calls Tryz.prog 56 #[.pointer (some ⟨x, 0, none⟩), .int .i64 n] w fun e w' => e = .returned (.tuple #[.agg #[.int .i64 0, .int .i64 0, .int .i64 0, .int .i64 0, .int .u64 0], .int .i64 (noE H n)]) ∧ Below w.heap.size w w' := get_any n (noE H n) hd00 w fun V hV => (h.below hV).usedNot n hn he
end
end Go.Proofs.YtojnlmfahgeidaaGreatDoor

namespace Go.Proofs.YtojnlmfahgeidaaGreatDoor
open Go Go.RowKit
set_option linter.unusedSimpArgs false
set_option linter.unusedVariables false
/-- two directories, a file, nothing else -/
structure Ino3 (H : Nat → Hd) : Prop where
  f3 : (H 3).k = 1
  up : ∀ m, 3 < m → m ≤ 4096 → (H m).k = 0
section
variable {w : World} {x mf ml mc : Nat} {cp : Option Addr} {top : Int} {H : Nat → Hd} {D : Nat → Nat → Nat → Nat}
theorem IM.dirRef (h : IM w x mf ml mc cp top H D) (h3 : Ino3 H) (a : Int) (hn : -9223372036854775808 ≤ a ∧ a ≤ 9223372036854775807) (ha : refD a ≠ 0) : Calls Tryz.prog 57 #[.pointer (some ⟨x, 0, none⟩), .int .i64 a] w fun e w' => e = .returned (.tuple #[.agg nf0, .int .i64 (refD a)]) ∧ Below w.heap.size w w' := by
  by_cases h0 : a < 1 ∨ 4096 < a
  · have e1 : refD a = 141 := by unfold refD; rw [if_pos h0]
    have e2 : noE H a = 141 := by unfold noE; rw [if_neg (by omega)]
    rw [e1]
    refine directory_err 0 0 0 0 141 0 (.inl (by decide)) 141 rfl fun V hV => ?_
    have := (h.below hV).getNot a hn (by rw [e2]; decide)
    rw [e2] at this
    exact this
  · by_cases ha3 : a = 3
    · subst ha3
      have e1 : refD 3 = 170 := by decide
      rw [e1]
      refine directory_err (H 3).n 1 (H 3).l (H 3).s 0 (H 3).t (.inr (by decide)) 170 rfl fun V hV => ?_
      have := (h.below hV).get 3 (by decide) (by decide) (by rw [h3.f3]; decide)
      rw [h3.f3] at this
      exact this
    · have hlt : 3 < a := by
        apply Classical.byContradiction
        intro hc
        exact ha (by unfold refD; rw [if_neg h0, if_neg ha3, if_neg hc])
      have e1 : refD a = 151 := by unfold refD; rw [if_neg h0, if_neg ha3, if_pos hlt]
      have e2 : noE H a = 151 := by
        unfold noE
        rw [if_pos (by omega), if_pos (h3.up a.toNat (by omega) (by omega))]
      rw [e1]
      refine directory_err 0 0 0 0 151 0 (.inl (by decide)) 151 rfl fun V hV => ?_
      have := (h.below hV).getNot a hn (by rw [e2]; decide)
      rw [e2] at this
      exact this
theorem IM.addRef (h : IM w x mf ml mc cp top H D) (h3 : Ino3 H) (a : Int) (hn : -9223372036854775808 ≤ a ∧ a ≤ 9223372036854775807) (ha : refD a ≠ 0) (i t : Int) (s : ByteArray) : Calls Tryz.prog 50 #[.pointer (some ⟨x, 0, none⟩), .int .i64 a, .agg #[.int .i64 i, .string s], .int .u64 t] w fun e w' => e = .returned (.int .i64 (refD a)) ∧ Below w.heap.size w w' :=
  add_err i t s (refD a) ha fun V hV => (h.below hV).dirRef h3 a hn ha
theorem IM.removeRef (h : IM w x mf ml mc cp top H D) (h3 : Ino3 H) (a : Int) (hn : -9223372036854775808 ≤ a ∧ a ≤ 9223372036854775807) (ha : refD a ≠ 0) (t : Int) (s : ByteArray) : Calls Tryz.prog 52 #[.pointer (some ⟨x, 0, none⟩), .int .i64 a, .string s, .int .u64 t] w fun e w' => e = .returned (.tuple #[.int .i64 0, .int .i64 (refD a)]) ∧ Below w.heap.size w w' :=
  remove_err s t (refD a) ha fun V hV => (h.below hV).dirRef h3 a hn ha
theorem IM.swapRef (h : IM w x mf ml mc cp top H D) (h3 : Ino3 H) (a : Int) (hn : -9223372036854775808 ≤ a ∧ a ≤ 9223372036854775807) (ha : refD a ≠ 0) (i t : Int) (s : ByteArray) : Calls Tryz.prog 54 #[.pointer (some ⟨x, 0, none⟩), .int .i64 a, .agg #[.int .i64 i, .string s], .int .u64 t] w fun e w' => e = .returned (.tuple #[.int .i64 0, .int .i64 (refD a)]) ∧ Below w.heap.size w w' :=
  swap_err i t s (refD a) ha fun V hV => (h.below hV).dirRef h3 a hn ha
end
/-- a number that is not refused is a directory -/
theorem refD_zero {a : Int} (h : refD a = 0) : a = 1 ∨ a = 2 := by
  unfold refD at h
  repeat' split at h
  all_goals first | omega | (exfalso; omega)
end Go.Proofs.YtojnlmfahgeidaaGreatDoor

namespace Go.Proofs.YtojnlmfahgeidaaGreatDoor
open Go Go.RowKit Go.Nam
set_option linter.unusedSimpArgs false
set_option linter.unusedVariables false
theorem IsLkC.at {W V : World} {a : Option Addr} {n : Nat} {N : Nat → Int} {S : Nat → ByteArray} (h : IsLkC W a n N S) (hz : W.heap.size ≤ V.heap.size) (hb : ∀ b o, a = some ⟨b, o, none⟩ → b < W.heap.size → V.heap[b]? = W.heap[b]?) : IsLkC V a n N S := fun i hi => by
  obtain ⟨b, o, h1, h2, h3, h4⟩ := h i hi
  have e := hb b o h1 h2
  exact ⟨b, o, h1, by omega, (World.cell?_of_block (w := W) e).trans h3, (World.cell?_of_block (w := W) e).trans h4⟩
theorem IsLkC.keepB {w V V' : World} {a : Option Addr} {n : Nat} {N N0 : Nat → Int} {S S0 : Nat → ByteArray} (h : IsLkC V a n N S) (h0 : IsLkC w a n N0 S0) (hb : Below w.heap.size V V') : IsLkC V' a n N S := fun i hi => by
  obtain ⟨b, o, h1, h2, h3, h4⟩ := h i hi
  obtain ⟨b', o', g1, g2, _⟩ := h0 i hi
  rw [h1] at g1
  injection g1 with g1
  injection g1 with g1 _ _
  subst g1
  have := hb.size
  exact ⟨b, o, h1, by omega, (hb.cell (p := ⟨b, o + i * 2, none⟩) g2).trans h3, (hb.cell (p := ⟨b, o + i * 2 + 1, none⟩) g2).trans h4⟩
theorem first_ex (S : Nat → ByteArray) (s : ByteArray) : ∀ k, ∃ p, FirstN S k p s
  | 0 => ⟨0, Nat.le_refl _, fun r hr => absurd hr (Nat.not_lt_zero _), fun h => absurd h (Nat.not_lt_zero _)⟩
  | k + 1 => by
    obtain ⟨p, h1, h2, h3⟩ := first_ex S s k
    by_cases hp : p < k
    · exact ⟨p, by omega, h2, fun _ => h3 hp⟩
    · have hpk : p = k := by omega
      subst hpk
      by_cases hs : S p = s
      · exact ⟨p, by omega, h2, fun _ => hs⟩
      · refine ⟨p + 1, Nat.le_refl _, fun r hr => ?_, fun h => absurd h (Nat.lt_irrefl _)⟩
        by_cases hr2 : r = p
        · subst hr2; exact hs
        · exact h2 r (by omega)
/-- two directories among inodes in the memory, and their lists as the document has them -/
structure PD (w : World) (B1 x mf ml mc : Nat) (cp : Option Addr) (A : Nat → Option Addr) (K C T : Nat → Nat) (N : Nat → Nat → Int) (S : Nat → Nat → ByteArray) : Prop where
  im : ∃ H D, IM w x mf ml mc cp 3 H D ∧ Ino3 H ∧ ∀ d, d = 1 ∨ d = 2 → Di H D d (K d) (T d) (N d) (S d)
  lt : x < B1 ∧ mf < B1 ∧ ml < B1 ∧ mc < B1
  sz : B1 ≤ w.heap.size
  ls : ∀ d, d = 1 ∨ d = 2 → IsLkC w (A d) (K d) (N d) (S d) ∧ (A d = none → K d = 0 ∧ C d = 0)
  hi : ∀ d b o k, d = 1 ∨ d = 2 → A d = some ⟨b, o, k⟩ → B1 ≤ b
section
variable {w w' : World} {B1 x mf ml mc : Nat} {cp : Option Addr} {A : Nat → Option Addr} {K C T : Nat → Nat} {N : Nat → Nat → Int} {S : Nat → Nat → ByteArray}
theorem PD.below (h : PD w B1 x mf ml mc cp A K C T N S) (hb : Below w.heap.size w w') : PD w' B1 x mf ml mc cp A K C T N S := by
  obtain ⟨H, D, h1, h2, h3⟩ := h.im
  exact ⟨⟨H, D, h1.below hb, h2, h3⟩, h.lt, Nat.le_trans h.sz hb.size, fun d hd => ⟨(h.ls d hd).1.below hb, (h.ls d hd).2⟩, h.hi⟩
theorem Ino3.oth {H H' : Nat → Hd} {D D' : Nat → Nat → Nat → Nat} {d : Nat} (h : Ino3 H) (ho : OthD H H' D D' d) (hd : d = 1 ∨ d = 2) : Ino3 H' :=
  ⟨by rw [(ho 3 (by omega)).1]; exact h.f3, fun m h1 h2 => by rw [(ho m (by omega)).1]; exact h.up m h1 h2⟩
/-- what stands behind a call that was let -/
def PQ (w : World) (x mf ml mc : Nat) (cp : Option Addr) (A : Nat → Option Addr) (K T : Nat → Nat) (N : Nat → Nat → Int) (S : Nat → Nat → ByteArray) (d k1 st : Nat) (N1 : Nat → Int) (S1 : Nat → ByteArray) (V : World) : Prop :=
  (∃ H D, IM V x mf ml mc cp 3 H D ∧ Ino3 H ∧ Di H D d k1 st N1 S1 ∧ ∀ d', d' = 1 ∨ d' = 2 → d' ≠ d → Di H D d' (K d') (T d') (N d') (S d')) ∧ w.heap.size ≤ V.heap.size ∧ ∀ d', d' = 1 ∨ d' = 2 → IsLkC V (A d') (K d') (N d') (S d')
theorem PD.pq_keep (h : PD w B1 x mf ml mc cp A K C T N S) (d k1 st : Nat) (N1 : Nat → Int) (S1 : Nat → ByteArray) (V V' : World) (hq : PQ w x mf ml mc cp A K T N S d k1 st N1 S1 V) (hb : Below w.heap.size V V') : PQ w x mf ml mc cp A K T N S d k1 st N1 S1 V' := by
  obtain ⟨⟨H, D, h1, h2, h3, h4⟩, h5, h6⟩ := hq
  have hl := h.lt
  have hs := h.sz
  exact ⟨⟨H, D, h1.belowB hb ⟨by omega, by omega, by omega, by omega⟩, h2, h3, h4⟩, Nat.le_trans h5 hb.size, fun d' hd' => (h6 d' hd').keepB (h.ls d' hd').1 hb⟩
/-- a call that was let makes it -/
theorem PD.pq_new (h : PD w B1 x mf ml mc cp A K C T N S) (d k1 st : Nat) (hd : d = 1 ∨ d = 2) (N1 : Nat → Int) (S1 : Nat → ByteArray) {H : Nat → Hd} {D : Nat → Nat → Nat → Nat} (h3 : Ino3 H) (hD : ∀ d, d = 1 ∨ d = 2 → Di H D d (K d) (T d) (N d) (S d)) {V V' : World} (hV : Below w.heap.size w V)
    (hq : ∃ H' D', IM V' x mf ml mc cp 3 H' D' ∧ Di H' D' d k1 st N1 S1 ∧ OthD H H' D D' d) (hT : Turns (fun z => z = ml ∨ z = mf) V V') : PQ w x mf ml mc cp A K T N S d k1 st N1 S1 V' := by
  obtain ⟨H', D', h1, h2, ho⟩ := hq
  have hl := h.lt
  have hs := h.sz
  refine ⟨⟨H', D', h1, h3.oth ho hd, h2, fun d' hd' hne => (hD d' hd').same (ho d' hne).1 (ho d' hne).2⟩, Nat.le_trans hV.size hT.size, fun d' hd' => ?_⟩
  refine ((h.ls d' hd').1.below hV).at hT.size fun b o hb hlt => hT.block b hlt fun hc => ?_
  have := h.hi d' b o none hd' hb
  omega
theorem PD.made (h : PD w B1 x mf ml mc cp A K C T N S) (d k1 st g5 c5 : Nat) (hd : d = 1 ∨ d = 2) (N1 : Nat → Int) (S1 : Nat → ByteArray) (hq : PQ w x mf ml mc cp A K T N S d k1 st N1 S1 w') (hR : IsLkC w' (some ⟨g5, 0, none⟩) k1 N1 S1) (hg : w.heap.size ≤ g5) :
    PD w' B1 x mf ml mc cp (fU A d (some ⟨g5, 0, none⟩)) (fU K d k1) (fU C d c5) (fU T d st) (fU N d N1) (fU S d S1) := by
  obtain ⟨⟨H, D, h1, h2, h3, h4⟩, h5, h6⟩ := hq
  have hs := h.sz
  refine ⟨⟨H, D, h1, h2, fun d' hd' => ?_⟩, h.lt, Nat.le_trans hs h5, fun d' hd' => ?_, fun d' b o k hd' he => ?_⟩
  · unfold fU
    by_cases e : d' = d
    · subst e
      rw [if_pos rfl, if_pos rfl, if_pos rfl, if_pos rfl]
      exact h3
    · rw [if_neg e, if_neg e, if_neg e, if_neg e]
      exact h4 d' hd' e
  · unfold fU
    by_cases e : d' = d
    · subst e
      rw [if_pos rfl, if_pos rfl, if_pos rfl, if_pos rfl]
      exact ⟨hR, fun hc => by cases hc⟩
    · rw [if_neg e, if_neg e, if_neg e, if_neg e, if_neg e]
      exact ⟨h6 d' hd', (h.ls d' hd').2⟩
  · unfold fU at he
    by_cases e : d' = d
    · rw [if_pos e] at he
      injection he with he
      injection he with he _ _
      omega
    · rw [if_neg e] at he
      exact h.hi d' b o k hd' he
/-- what one answers -/
def OneE (w : World) (B1 x mf ml mc : Nat) (cp : Option Addr) (e : Ending) (w' : World) : Prop := ∃ A K C T N S, e = .returned (.tuple #[.agg (sdC A K C T), .bool true]) ∧ PD w' B1 x mf ml mc cp A K C T N S ∧ Turns (fun z => z = ml ∨ z = mf) w w'
theorem PD.same (h : PD w B1 x mf ml mc cp A K C T N S) {e : Ending} (he : e = .returned (.tuple #[.agg (sdC A K C T), .bool true]) ∧ Below w.heap.size w w') : OneE w B1 x mf ml mc cp e w' := ⟨A, K, C, T, N, S, he.1, h.below he.2, Turns.of_below he.2⟩
theorem lkc_heap (k1 : Nat) (N1 : Nat → Int) (S1 : Nat → ByteArray) (V V' : World) (g : Nat) (h : IsLkC V (some ⟨g, 0, none⟩) k1 N1 S1) (e : V'.heap[g]? = V.heap[g]?) (hz : V.heap.size ≤ V'.heap.size) : IsLkC V' (some ⟨g, 0, none⟩) k1 N1 S1 :=
  h.at hz fun b o hb _ => by
    injection hb with hb
    injection hb with hb _ _
    subst hb
    exact e
theorem PD.oneAdd (h : PD w B1 x mf ml mc cp A K C T N S) (dr i : Int) (st : Nat) (s : ByteArray) (hdr : -9223372036854775808 ≤ dr ∧ dr ≤ 9223372036854775807) : Calls Tryz.prog 12 #[.pointer (some ⟨x, 0, none⟩), .agg (sdC A K C T), .agg (aeC 0 dr i s ((st : Nat) : Int))] w fun e w' => OneE w B1 x mf ml mc cp e w' := by
  obtain ⟨H, D, hI, h3, hD⟩ := h.im
  by_cases hz : refD dr = 0
  · obtain ⟨d, rfl, hd⟩ : ∃ d : Nat, dr = (d : Int) ∧ (d = 1 ∨ d = 2) := by
      rcases refD_zero hz with e | e
      · exact ⟨1, e, .inl rfl⟩
      · exact ⟨2, e, .inr rfl⟩
    have HR : ∀ V : World, Calls Tryz.prog 19 #[.int .i64 (d : Int)] V fun e w' => e = .returned (.int .i64 0) ∧ w' = V := fun V => by
      have := refused_any (d : Int) V
      rw [hz] at this
      exact this
    have hDd := hD d hd
    have hle := hDd.le
    obtain ⟨hL, hN⟩ := h.ls d hd
    obtain ⟨p, hp⟩ := first_ex (S d) s (K d)
    by_cases hb : encE i s ≠ 0 ∨ p < K d ∨ 16384 ≤ K d
    · obtain ⟨r, hr⟩ : ∃ r, r = if encE i s ≠ 0 then encE i s else if p < K d then (172 : Int) else 173 := ⟨_, rfl⟩
      have hr0 : r ≠ 0 := by
        rw [hr]
        split
        · assumption
        · split <;> decide
      refine (oneAdd_no d hd i st s w r hr0 HR (fun V hV => ?_) (fun V hV => radd17_no (A d) (K d) (C d) (by omega) (N d) (S d) i s p hp r hr hb V (hL.below hV))).mono fun e w' he => h.same he
      have hIV := hI.below hV
      by_cases h0 : encE i s = 0
      · rw [if_neg (by simp [h0])] at hr
        by_cases hpk : p < K d
        · rw [if_pos hpk] at hr
          rw [hr]
          exact hIV.addThere hDd i s h0 p hp hpk _
        · rw [if_neg hpk] at hr
          rw [hr]
          exact hIV.addFull hDd i s h0 p hp hpk (by rcases hb with hb | hb | hb; exact absurd h0 hb; exact absurd hb hpk; omega) _
      · rw [if_pos h0] at hr
        rw [hr]
        exact hIV.addEnc hDd i s h0 _
    · have h0 : encE i s = 0 := Classical.byContradiction fun hc => hb (.inl hc)
      have hpk : ¬ p < K d := fun hc => hb (.inr (.inl hc))
      have hk : K d < 16384 := by
        apply Classical.byContradiction
        intro hc
        exact hb (.inr (.inr (by omega)))
      refine (oneAdd_ok d hd i st s w (ml := ml) (mf := mf) (k1 := K d + 1) (PQ w x mf ml mc cp A K T N S d (K d + 1) st (upN (N d) (K d) i) (upS (S d) (K d) s)) (fun V V' hq hb => h.pq_keep _ _ _ _ _ V V' hq hb) ⟨by have := h.lt; have := h.sz; omega, by have := h.lt; have := h.sz; omega⟩ 0
        (fun W g => IsLkC W (some ⟨g, 0, none⟩) (K d + 1) (upN (N d) (K d) i) (upS (S d) (K d) s)) (lkc_heap _ _ _) HR (fun V hV => ?_) (fun V hq => ?_)).mono ?_
      · refine ((hI.below hV).addOk hDd hk i s h0 (fun r hr => hp.2.1 r (by have := hp.1; omega)) st).mono ?_
        rintro e w' ⟨rfl, hq, hT⟩
        exact ⟨rfl, h.pq_new d _ _ hd _ _ h3 hD hV hq hT, hT⟩
      · exact radd17_ok (A d) (K d) (C d) hk hN (N d) (S d) i s p hp hpk h0 V (hq.2.2 d hd)
      · rintro e w' ⟨g5, c5, rfl, hq, hR, hg, hT⟩
        exact ⟨_, _, _, _, _, _, rfl, h.made d _ _ _ _ hd _ _ hq hR hg, hT⟩
  · exact (oneAdd_ref dr i ((st : Nat) : Int) s w (refD dr) hz (refused_any dr) (fun V hV => (hI.below hV).addRef h3 dr hdr hz i _ s)).mono fun e w' he => h.same he
theorem PD.oneRemove (h : PD w B1 x mf ml mc cp A K C T N S) (dr i : Int) (st : Nat) (s : ByteArray) (hdr : -9223372036854775808 ≤ dr ∧ dr ≤ 9223372036854775807) : Calls Tryz.prog 12 #[.pointer (some ⟨x, 0, none⟩), .agg (sdC A K C T), .agg (aeC 1 dr i s ((st : Nat) : Int))] w fun e w' => OneE w B1 x mf ml mc cp e w' := by
  obtain ⟨H, D, hI, h3, hD⟩ := h.im
  by_cases hz : refD dr = 0
  · obtain ⟨d, rfl, hd⟩ : ∃ d : Nat, dr = (d : Int) ∧ (d = 1 ∨ d = 2) := by
      rcases refD_zero hz with e | e
      · exact ⟨1, e, .inl rfl⟩
      · exact ⟨2, e, .inr rfl⟩
    have HR : ∀ V : World, Calls Tryz.prog 19 #[.int .i64 (d : Int)] V fun e w' => e = .returned (.int .i64 0) ∧ w' = V := fun V => by
      have := refused_any (d : Int) V
      rw [hz] at this
      exact this
    have hDd := hD d hd
    have hle := hDd.le
    obtain ⟨hL, hN⟩ := h.ls d hd
    obtain ⟨p, hp⟩ := first_ex (S d) s (K d)
    by_cases hb : isName s.data.toList = true → ¬ p < K d
    · obtain ⟨r, hr⟩ : ∃ r, r = if isName s.data.toList = true then (171 : Int) else 130 := ⟨_, rfl⟩
      have hr0 : r ≠ 0 := by
        rw [hr]
        split <;> decide
      refine (oneRemove_no d hd i st s w r hr0 HR (fun V hV => (hI.below hV).removeNo hDd s p hp hb _ r hr) (fun V hV => ?_)).mono fun e w' he => h.same he
      refine (rremove17_no (A d) (K d) (C d) (by omega) (N d) (S d) s p hp hb r hr V (hL.below hV)).mono ?_
      rintro e w' ⟨rfl, rfl⟩
      exact ⟨rfl, Below.refl _ _⟩
    · obtain ⟨hnm, hpk⟩ : isName s.data.toList = true ∧ p < K d := by
        refine ⟨Classical.byContradiction fun hc => hb fun hc2 => absurd hc2 hc, Classical.byContradiction fun hc => hb fun _ => hc⟩
      obtain ⟨k, hk⟩ : ∃ k, K d = k + 1 := ⟨K d - 1, by omega⟩
      have hDk : Di H D d (k + 1) (T d) (N d) (S d) := by rw [← hk]; exact hDd
      have hpF : FirstN (S d) (k + 1) p s := by rw [← hk]; exact hp
      refine (oneRemove_ok d hd i st s w (ml := ml) (mf := mf) (k1 := k) (PQ w x mf ml mc cp A K T N S d k st (mvN (N d) k p) (mvS (S d) k p)) (fun V V' hq hb => h.pq_keep _ _ _ _ _ V V' hq hb) ⟨by have := h.lt; have := h.sz; omega, by have := h.lt; have := h.sz; omega⟩ (N d p)
        (fun W g => IsLkC W (some ⟨g, 0, none⟩) k (mvN (N d) k p) (mvS (S d) k p)) (lkc_heap _ _ _) HR (fun V hV => ?_) (fun V hq => ?_)).mono ?_
      · refine ((hI.below hV).removeOk hDk s hnm p (by omega) hpF st).mono ?_
        rintro e w' ⟨rfl, hq, hT⟩
        exact ⟨rfl, h.pq_new d _ _ hd _ _ h3 hD hV hq hT, hT⟩
      · have hLV := hq.2.2 d hd
        rw [hk] at hLV ⊢
        exact rremove17_ok (A d) k (C d) (by omega) (by rw [← hk]; exact hN) (N d) (S d) s p hpF (by omega) hnm V hLV
      · rintro e w' ⟨g5, c5, rfl, hq, hR, hg, hT⟩
        exact ⟨_, _, _, _, _, _, rfl, h.made d _ _ _ _ hd _ _ hq hR hg, hT⟩
  · exact (oneRemove_ref dr i ((st : Nat) : Int) s w (refD dr) hz (refused_any dr) (fun V hV => (hI.below hV).removeRef h3 dr hdr hz _ s)).mono fun e w' he => h.same he
theorem PD.oneSwap (h : PD w B1 x mf ml mc cp A K C T N S) (dr i : Int) (st : Nat) (s : ByteArray) (hdr : -9223372036854775808 ≤ dr ∧ dr ≤ 9223372036854775807) (kd : Int) (hk0 : kd ≠ 0) (hk1 : kd ≠ 1) : Calls Tryz.prog 12 #[.pointer (some ⟨x, 0, none⟩), .agg (sdC A K C T), .agg (aeC kd dr i s ((st : Nat) : Int))] w fun e w' => OneE w B1 x mf ml mc cp e w' := by
  obtain ⟨H, D, hI, h3, hD⟩ := h.im
  by_cases hz : refD dr = 0
  · obtain ⟨d, rfl, hd⟩ : ∃ d : Nat, dr = (d : Int) ∧ (d = 1 ∨ d = 2) := by
      rcases refD_zero hz with e | e
      · exact ⟨1, e, .inl rfl⟩
      · exact ⟨2, e, .inr rfl⟩
    have HR : ∀ V : World, Calls Tryz.prog 19 #[.int .i64 (d : Int)] V fun e w' => e = .returned (.int .i64 0) ∧ w' = V := fun V => by
      have := refused_any (d : Int) V
      rw [hz] at this
      exact this
    have hDd := hD d hd
    have hle := hDd.le
    obtain ⟨hL, hN⟩ := h.ls d hd
    obtain ⟨p, hp⟩ := first_ex (S d) s (K d)
    by_cases hb : encE i s ≠ 0 ∨ ¬ p < K d
    · obtain ⟨r, hr⟩ : ∃ r, r = if encE i s ≠ 0 then encE i s else (171 : Int) := ⟨_, rfl⟩
      have hr0 : r ≠ 0 := by
        rw [hr]
        split
        · assumption
        · decide
      refine (oneSwap_no d hd i st s kd hk0 hk1 w r hr0 HR (fun V hV => ?_) (fun V hV => rswap17_no (A d) (K d) (C d) (by omega) (N d) (S d) i s p hp r hr hb V (hL.below hV))).mono fun e w' he => h.same he
      have hIV := hI.below hV
      by_cases h0 : encE i s = 0
      · rw [if_neg (by simp [h0])] at hr
        rw [hr]
        exact hIV.swapMissing hDd i s h0 p hp (by rcases hb with hb | hb; exact absurd h0 hb; exact hb) _
      · rw [if_pos h0] at hr
        rw [hr]
        exact hIV.swapEnc hDd i s h0 _
    · have h0 : encE i s = 0 := Classical.byContradiction fun hc => hb (.inl hc)
      have hpk : p < K d := Classical.byContradiction fun hc => hb (.inr hc)
      refine (oneSwap_ok d hd i st s kd hk0 hk1 w (ml := ml) (mf := mf) (k1 := K d) (PQ w x mf ml mc cp A K T N S d (K d) st (upN (N d) p i) (S d)) (fun V V' hq hb => h.pq_keep _ _ _ _ _ V V' hq hb) ⟨by have := h.lt; have := h.sz; omega, by have := h.lt; have := h.sz; omega⟩ (N d p)
        (fun W g => IsLkC W (some ⟨g, 0, none⟩) (K d) (upN (N d) p i) (S d)) (lkc_heap _ _ _) HR (fun V hV => ?_) (fun V hq => ?_)).mono ?_
      · refine ((hI.below hV).swapOk hDd i s h0 p hp hpk st).mono ?_
        rintro e w' ⟨rfl, hq, hT⟩
        exact ⟨rfl, h.pq_new d _ _ hd _ _ h3 hD hV hq hT, hT⟩
      · exact rswap17_ok (A d) (K d) (C d) hle hN (N d) (S d) i s p hp hpk h0 V (hq.2.2 d hd)
      · rintro e w' ⟨g5, c5, rfl, hq, hR, hg, hT⟩
        exact ⟨_, _, _, _, _, _, rfl, h.made d _ _ _ _ hd _ _ hq hR hg, hT⟩
  · exact (oneSwap_ref dr i ((st : Nat) : Int) s kd hk0 hk1 w (refD dr) hz (refused_any dr) (fun V hV => (hI.below hV).swapRef h3 dr hdr hz i _ s)).mono fun e w' he => h.same he
/-- one, whatever is done -/
theorem PD.one (h : PD w B1 x mf ml mc cp A K C T N S) (kd dr i : Int) (st : Nat) (s : ByteArray) (hdr : -9223372036854775808 ≤ dr ∧ dr ≤ 9223372036854775807) : Calls Tryz.prog 12 #[.pointer (some ⟨x, 0, none⟩), .agg (sdC A K C T), .agg (aeC kd dr i s ((st : Nat) : Int))] w fun e w' => OneE w B1 x mf ml mc cp e w' := by
  by_cases h0 : kd = 0
  · subst h0; exact h.oneAdd dr i st s hdr
  · by_cases h1 : kd = 1
    · subst h1; exact h.oneRemove dr i st s hdr
    · exact h.oneSwap dr i st s hdr kd h0 h1
end
end Go.Proofs.YtojnlmfahgeidaaGreatDoor
