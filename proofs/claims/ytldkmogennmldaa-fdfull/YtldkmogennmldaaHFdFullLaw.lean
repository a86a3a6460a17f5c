/- FdFull: as many as may be, and one more. -/
import Derived.Test.YtldkmogennmldaaHFdAll
import Derived.Handy

namespace Go.Proofs.Ytldkmogennmldaa
open Go Go.RowKit
set_option linter.unusedSimpArgs false
set_option linter.unusedVariables false
theorem lwd_new : LwD (fun _ => ds0) 0 := ⟨by decide, fun j hj => absurd hj (Nat.not_lt_zero _), fun _ => rfl⟩
theorem may_lits : mayI 3 ∧ ¬ mayI 0 ∧ mayI 1 := by decide
set_option maxRecDepth 100000 in
set_option maxHeartbeats 8000000 in
theorem awake23_any (w : World) : Calls Try.prog 8 #[] w fun e w' => e = .returned (.bool true) ∧ Below w.heap.size w w' := by
  have HN := fnew_any w
  have hz := ds_zero
  have HC3 : Hid (∀ V : World, Calls Try.prog 9 #[.int .i64 3] V fun e w' => e = .returned (.int .i64 0) ∧ w' = V) := fun V => by
    have := fcheck_any 3 V
    rwa [if_pos may_lits.1] at this
  have HC0 : Hid (∀ V : World, Calls Try.prog 9 #[.int .i64 0] V fun e w' => e = .returned (.int .i64 232) ∧ w' = V) := fun V => by
    have := fcheck_any 0 V
    rwa [if_neg may_lits.2.1] at this
  go_enter Try.func8, Try.ntmps8
  go_wp2_with fail
  refine HN.mono ?_
  rintro e w1 ⟨b, rfl, hb0, hF, hb1⟩
  have HO := fopen_ok lwd_new 5 1 may_lits.2.2 (by decide) w1 hF
  have HB : Hid (w.heap.size ≤ b ∧ Below w.heap.size w w1) := ⟨hb0, hb1⟩
  rw [show lyN 0 = 0 from rfl, show lyE 0 = 0 from rfl] at HO
  clear hb0 hb1 hF HN
  go_wp2_with fail
  refine HO.mono ?_
  rintro e w2 ⟨rfl, hF2, ht2⟩
  have HF2 : Hid (FdB w2 b (lyD (fun _ => ds0) 0 ⟨5, 1, 0⟩) ∧ Below w.heap.size w w2) := ⟨hF2, HB.out.2.trans (ht2.below HB.out.2.size HB.out.1)⟩
  have HG : Calls Try.prog 20 #[.pointer (some ⟨b, 0, none⟩), .int .i64 0] w2 fun e w' => e = .returned (.tuple #[.agg (dsC ⟨5, 1, 0⟩), .int .i64 0]) ∧ Below w2.heap.size w2 w' := by
    have := fget_any 0 w2 hF2
    have ho : opn (lyD (fun _ => ds0) 0 ⟨5, 1, 0⟩) 0 := ⟨by decide, by decide, by decide⟩
    rw [(gt_yes ho).1, (gt_yes ho).2] at this
    exact this
  clear hF2 ht2 HO HB
  go_wp2_with fail
  refine HG.mono ?_
  rintro e w3 ⟨rfl, hb3⟩
  have u1 : Blk (w3.alloc (.cells (dsC ds0) 42)) w3.heap.size 42 (dsC ds0) := Blk.new _ _ _
  have u2 := u1.set (dsC ⟨5, 1, 0⟩)
  have hn3 : Below w3.heap.size w3 ((w3.alloc (.cells (dsC ds0) 42)).setRow w3.heap.size (dsC ⟨5, 1, 0⟩)) := below_setRow (below_new1 _ _) (Nat.le_refl _) _
  have c0 : ((w3.alloc (.cells (dsC ds0) 42)).setRow w3.heap.size (dsC ⟨5, 1, 0⟩)).cell? ⟨w3.heap.size, 0, none⟩ = some (.int .i64 5) := (u2.cell 0).trans rfl
  have HF4 : Hid (FdB ((w3.alloc (.cells (dsC ds0) 42)).setRow w3.heap.size (dsC ⟨5, 1, 0⟩)) b (lyD (fun _ => ds0) 0 ⟨5, 1, 0⟩) ∧ Below w.heap.size w ((w3.alloc (.cells (dsC ds0) 42)).setRow w3.heap.size (dsC ⟨5, 1, 0⟩))) := by
    have h1 := hb3.trans (hn3.mono hb3.size)
    exact ⟨HF2.out.1.below h1, HF2.out.2.trans (h1.mono HF2.out.2.size)⟩
  have hsx : (dsC ⟨5, 1, 0⟩).size = 3 := rfl
  have HLN := flen_any _ HF4.out.1
  have hln : (soL (opP (lyD (fun _ => ds0) 0 ⟨5, 1, 0⟩)) 64).length = 1 := by decide
  rw [hln] at HLN
  clear hb3 hn3 HG HF2 u2 hln
  generalize hD : dsC (⟨5, 1, 0⟩ : Dsc) = D5 at *
  go_wp2_with (first
    | (refine wpList_store_row (by rfl) 42 _ _ (by rfl) (w3.heap.size) D5 (by rfl) (by rfl) 42 (dsC ds0) (by exact u1) (ds_size.trans (by rw [hsx])) (by rw [hsx]; rfl) (by rw [← hD]; exact ds_all _) ?_; simp only [Act.put, List.setIfInBounds_toArray, List.set_cons_zero, List.set_cons_succ])
    | (go_at_call_of 9 (Value.int .i64 3); refine (HC3.out _).mono ?_; rintro e wc1 ⟨rfl, rfl⟩)
    | (go_at_call_of 9 (Value.int .i64 0); refine (HC0.out _).mono ?_; rintro e wc2 ⟨rfl, rfl⟩)
    | (go_at_call 18; refine HLN.mono ?_; rintro e wc3 ⟨rfl, hb9⟩)
    | fail)
  go_ret
  exact ⟨by first | rfl | simp, HF4.out.2.trans (hb9.mono HF4.out.2.size)⟩
end Go.Proofs.Ytldkmogennmldaa

namespace Go.Proofs.Ytldkmogennmldaa
open Go Go.RowKit
set_option linter.unusedSimpArgs false
set_option linter.unusedVariables false
/-- the first n are open -/
def fuO (f : Int) (n : Nat) : Nat → Dsc := fun j => if j < n then ⟨(j : Int) + 1, f, 0⟩ else ds0
theorem fuO_lwd (f : Int) (n : Nat) (hn : n ≤ 64) : LwD (fuO f n) n :=
  ⟨hn, fun j hj => by unfold fuO; rw [if_pos hj]; show (j : Int) + 1 ≠ 0; omega, fun _ => by unfold fuO; rw [if_neg (Nat.lt_irrefl _)]; rfl⟩
theorem fuO_next (f : Int) (n : Nat) (hn : n < 64) : lyD (fuO f n) n ⟨(n : Int) + 1, f, 0⟩ = fuO f (n + 1) := by
  unfold lyD
  rw [if_pos hn]
  funext j
  unfold upD fuO
  by_cases h : j = n
  · subst h
    rw [if_pos rfl, if_pos (Nat.lt_succ_self _)]
  · rw [if_neg h]
    by_cases h2 : j < n
    · rw [if_pos h2, if_pos (by omega)]
    · rw [if_neg h2, if_neg (by omega)]
theorem soL_all (P : Nat → Bool) : ∀ n, (∀ j, j < n → P j = true) → (soL P n).length = n
  | 0, _ => rfl
  | n + 1, h => by
    rw [soL, List.length_append, soL_all P n fun j hj => h j (by omega), if_pos (h n (by omega))]
    rfl
theorem fuO_full (f : Int) : (soL (opP (fuO f 64)) 64).length = 64 := soL_all (opP (fuO f 64)) 64 fun j hj => by
  unfold opP fuO
  rw [if_pos hj]
  have : (j : Int) + 1 ≠ 0 := by omega
  simpa using this
theorem fuO_three (f : Int) : (fuO f 64 (Int.toNat 3)).i ≠ 0 := by
  unfold fuO
  rw [if_pos (by decide)]
  show ((3 : Nat) : Int) + 1 ≠ 0
  decide
/-- behind one of all was closed -/
theorem fuO_shut (f : Int) (k : Nat) (hk : k < 64) : LwD (upD (fuO f 64) k ds0) k :=
  ⟨by omega, fun j hj => by unfold upD fuO; rw [if_neg (by omega), if_pos (by omega)]; show (j : Int) + 1 ≠ 0; omega, fun _ => by unfold upD; rw [if_pos rfl]; rfl⟩
set_option maxRecDepth 100000 in
set_option maxHeartbeats 16000000 in
theorem fdFullLaw (f d : Int) (hbf : -9223372036854775808 ≤ f ∧ f ≤ 9223372036854775807) (w : World) : Calls Try.prog 5 #[.int .i64 f, .int .i64 d] w fun e w' => e = .returned (.bool true) ∧ Below w.heap.size w w' := by
  have HA : Hid (∀ V : World, Calls Try.prog 8 #[] V fun e w' => e = .returned (.bool true) ∧ Below V.heap.size V w') := awake23_any
  have HM : Hid (∀ V : World, Calls Try.prog 7 #[.int .i64 f] V fun e w' => e = .returned (.bool (decide (mayI f))) ∧ w' = V) := rmay_any f hbf
  have HN := fnew_any w
  clear hbf
  go_enter Try.func5, Try.ntmps5
  go_wp2_with fail
  refine HN.mono ?_
  rintro e w1 ⟨b, rfl, hb0, hF, hb1⟩
  have HB : Hid (w.heap.size ≤ b ∧ Below w.heap.size w w1 ∧ FdB w1 b (fun _ => ds0)) := ⟨hb0, hb1, hF⟩
  clear hb0 hb1 hF HN
  go_wp2_with fail
  refine (HA.out _).mono ?_
  rintro e w2 ⟨rfl, hb2⟩
  have HB2 : Hid (w.heap.size ≤ b ∧ Below w.heap.size w w2 ∧ FdB w2 b (fun _ => ds0)) := ⟨HB.out.1, HB.out.2.1.trans (hb2.mono HB.out.2.1.size), HB.out.2.2.below hb2⟩
  clear hb2 HB HA
  have HM2 := HM.out w2
  by_cases hm : mayI f
  · rw [decide_eq_true hm] at HM2
    have HMY : Hid (mayI f) := hm
    clear hm HM
    go_wp2_with fail
    refine HM2.mono ?_
    rintro e w3 ⟨rfl, rfl⟩
    clear HM2
    go_wp2_with fail
    go_loopw [8] (fun v wr => Hid (∃ i : Nat, i ≤ 64 ∧ v = .int .i64 (i : Int) ∧ FdB wr b (fuO f i) ∧ Below w.heap.size w wr)) (fun v _ => 64 - (intOf v).toNat)
    case atStart => exact ⟨0, Nat.zero_le _, rfl, HB2.out.2.2, HB2.out.2.1⟩
    case round =>
      obtain ⟨i, hi, rfl, hF, hbw⟩ := Hid.out hrel
      clear hrel
      by_cases h64 : i < 64
      · have i1 : (i : Int) < 64 := by omega
        have HO := fopen_ok (fuO_lwd f i hi) ((i : Int) + 1) f HMY.out (by omega) wr hF
        rw [fuO_next f i h64, show lyN i = (i : Int) from if_pos h64, show lyE i = 0 from if_pos h64] at HO
        have HI : Hid (i < 64 ∧ Below w.heap.size w wr) := ⟨h64, hbw⟩
        clear hF hbw hi h64
        go_wp2_with fail
        refine HO.mono ?_
        rintro e w4 ⟨rfl, hF4, ht4⟩
        have H4 : Hid (FdB w4 b (fuO f (i + 1)) ∧ Below w.heap.size w w4) := ⟨hF4, HI.out.2.trans (ht4.below HI.out.2.size HB2.out.1)⟩
        clear hF4 ht4 HO
        go_wp2_with fail
        go_roundw
        case rel => exact ⟨i + 1, HI.out.1, by first | rfl | go_num | simp, H4.out.1, H4.out.2⟩
        case measure => have := HI.out; simp [intOf]; omega
      · obtain rfl : i = 64 := by omega
        have i1 : ¬ ((64 : Int) < 64) := by decide
        have HO : Calls Try.prog 14 #[.pointer (some ⟨b, 0, none⟩), .int .i64 9, .int .i64 f] wr fun e w' => e = .returned (.tuple #[.int .i64 0, .int .i64 230]) ∧ FdB w' b (fuO f 64) ∧ OneT b wr w' := fopen_ok (fuO_lwd f 64 (Nat.le_refl _)) 9 f HMY.out (by decide) wr hF
        have HW : Hid (Below w.heap.size w wr) := hbw
        clear hF hbw hi h64
        go_wp2_with fail
        refine HO.mono ?_
        rintro e w4 ⟨rfl, hF4, ht4⟩
        have H4 : Hid (FdB w4 b (fuO f 64) ∧ Below w.heap.size w w4) := ⟨hF4, HW.out.trans (ht4.below HW.out.size HB2.out.1)⟩
        have HD : Calls Try.prog 19 #[.pointer (some ⟨b, 0, none⟩), .int .i64 3] w4 fun e w' => e = .returned (.tuple #[.int .i64 0, .int .i64 230]) ∧ FdB w' b (fuO f 64) ∧ OneT b w4 w' := fdup_ok (fuO_lwd f 64 (Nat.le_refl _)) 3 ⟨by decide, by decide, fuO_three f⟩ w4 hF4
        clear hF4 ht4 HO HW
        go_wp2_with fail
        refine HD.mono ?_
        rintro e w5 ⟨rfl, hF5, ht5⟩
        have H5 : Hid (FdB w5 b (fuO f 64) ∧ Below w.heap.size w w5) := ⟨hF5, H4.out.2.trans (ht5.below H4.out.2.size HB2.out.1)⟩
        have HLN := flen_any w5 hF5
        rw [fuO_full f] at HLN
        clear hF5 ht5 HD H4
        go_wp2_with fail
        refine HLN.mono ?_
        rintro e w6 ⟨rfl, hb6⟩
        have H6 : Hid (FdB w6 b (fuO f 64) ∧ Below w.heap.size w w6) := ⟨H5.out.1.below hb6, H5.out.2.trans (hb6.mono H5.out.2.size)⟩
        clear hb6 HLN H5
        by_cases hd : 0 ≤ d ∧ d < 64
        · obtain ⟨k, rfl⟩ : ∃ k : Nat, d = (k : Int) := ⟨d.toNat, by omega⟩
          have hk : k < 64 := by omega
          have k1 : ¬ (k : Int) < 0 := by omega
          have k2 : ¬ 63 < (k : Int) := by omega
          have ho : opn (fuO f 64) (k : Int) := ⟨by omega, by omega, by unfold fuO; rw [if_pos (by simpa using hk)]; show ((Int.toNat (k : Int) : Nat) : Int) + 1 ≠ 0; omega⟩
          have HCL := fclose_yes (k : Int) w6 H6.out.1 ho
          rw [show (k : Int).toNat = k by omega] at HCL
          have HSH : Hid (LwD (upD (fuO f 64) k ds0) k ∧ k < 64) := ⟨fuO_shut f k hk, hk⟩
          clear ho hk hd
          go_wp2_with fail
          refine HCL.mono ?_
          rintro e w7 ⟨rfl, hF7, ht7⟩
          have H7 : Hid (Below w.heap.size w w7) := H6.out.2.trans (ht7.below H6.out.2.size HB2.out.1)
          have HO2 := fopen_ok HSH.out.1 9 f HMY.out (by decide) w7 hF7
          rw [show lyN k = (k : Int) from if_pos HSH.out.2, show lyE k = 0 from if_pos HSH.out.2] at HO2
          clear hF7 ht7 HCL H6
          go_wp2_with fail
          refine HO2.mono ?_
          rintro e w8 ⟨rfl, _, ht8⟩
          have H8 : Hid (Below w.heap.size w w8) := H7.out.trans (ht8.below H7.out.size HB2.out.1)
          have bk : ((k : Int) == (k : Int)) = true := by simp
          clear ht8 HO2 H7
          go_wp2_with fail
          go_ret
          exact ⟨by first | rfl | simp, H8.out⟩
        · have HCL : Calls Try.prog 15 #[.pointer (some ⟨b, 0, none⟩), .int .i64 d] w6 fun e w' => e = .returned (.int .i64 231) ∧ w' = w6 := fclose_gen _ d w6 (fof_no b (fuO f 64) d (fun q => hd ⟨q.1, q.2.1⟩) w6 H6.out.1)
          have hdd : d < 0 ∨ (¬ d < 0 ∧ 63 < d) := by omega
          clear hd
          rcases hdd with k1 | ⟨k1, k2⟩
          all_goals
            go_wp2_with fail
            refine HCL.mono ?_
            rintro e w7 ⟨rfl, rfl⟩
            go_wp2_with fail
            go_ret
            exact ⟨rfl, H6.out.2⟩
  · rw [decide_eq_false hm] at HM2
    have HO : Hid (∀ V : World, Calls Try.prog 14 #[.pointer (some ⟨b, 0, none⟩), .int .i64 1, .int .i64 f] V fun e w' => e = .returned (.tuple #[.int .i64 0, .int .i64 232]) ∧ w' = V) := fun V => fopen_bad1 _ 1 f hm V
    clear hm HM
    go_wp2_with fail
    refine HM2.mono ?_
    rintro e w3 ⟨rfl, rfl⟩
    go_wp2_with fail
    refine (HO.out _).mono ?_
    rintro e w4 ⟨rfl, rfl⟩
    go_wp2_with fail
    go_ret
    exact ⟨rfl, HB2.out.2.1⟩
end Go.Proofs.Ytldkmogennmldaa
