/- The document's lists of entries: Add, Remove, Swap. -/
import Derived.Test.YtojnlmfahgeidaaGreatDoorHInsDrop
import Derived.Lib.Walk
import Derived.Handy
import Derived.Test.YtojnlmfahgeidaaGreatDoorHNaBack
import Derived.Test.YtojnlmfahgeidaaGreatDoorHMathCount
import Derived.Test.YtojnlmfahgeidaaGreatDoorHFiMath
import Derived.Test.YtojnlmfahgeidaaGreatDoorHOrders
import Derived.Lib.Bytealg
import Derived.BigQuiet
import Derived.Deep.QuietTactic
import Derived.Test.YtojnlmfahgeidaaGreatDoorHBytes
import Derived.Deep.MidRow
import GoSem.Claim
import GoSem.ClaimJoined
import GoSem.ClaimMapViews
import Derived.JoinedTies
import Derived.KernelRfl
import Derived.RowKit
import Derived.WalkKit
import Derived.ProofKit
import Derived.OpenShut
import Derived.Carry
import Derived.Deep.Slices
import Derived.Lib.SmallJoins
import Derived.SizedLaws
import Derived.SliceStrings
import Derived.ChangeArms
import Derived.Laws.AppendOwnNone
import Derived.Test.YtojnlmfahgeidaaGreatDoorHNaDecode
import Derived.Deep.Cut

namespace Go.Proofs.YtojnlmfahgeidaaGreatDoor
open Go Go.RowKit
set_option linter.unusedSimpArgs false
set_option linter.unusedVariables false
theorem Turns.kept {V w' : World} {mf x : Nat} (h : Keeps mf V w') : Turns (fun z => z = x ∨ z = mf) V w' := ⟨h.1.os, h.1.tape, h.1.output, h.1.size, fun k hk hn => h.2 k (fun e => hn (.inr e)) hk⟩
section
variable {w w' : World} {x mf ml mc : Nat} {cp : Option Addr} {top : Int} {H : Nat → Hd} {D : Nat → Nat → Nat → Nat}
theorem IM.setTop (h : IM w x mf ml mc cp top H D) (t : Int) : IM (w.setCell ⟨x, 36, none⟩ (.int .i64 t)) x mf ml mc cp t H D := by
  obtain ⟨M, m1, m2⟩ := h.fm
  obtain ⟨M', l1, l2⟩ := h.lm
  obtain ⟨c, hc⟩ := h.cm
  have hx : Blk (w.setCell ⟨x, 36, none⟩ (.int .i64 t)) x 218 (ixC cp 0 rf0 0 t mf ml mc) := by
    have := h.ix.put 36 (.int .i64 t)
    rw [ix_top] at this
    exact this
  exact ⟨hx, ⟨M, m1.keep (Below.heap_setCell _ _ _ _ (Ne.symm h.ne.1)), m2⟩, ⟨M', l1.keep (Below.heap_setCell _ _ _ _ (Ne.symm h.ne.2.1)), l2⟩, ⟨c, (Below.heap_setCell _ _ _ _ (Ne.symm h.ne.2.2.1)).trans hc⟩, h.ne⟩
set_option maxRecDepth 100000 in
set_option maxHeartbeats 8000000 in
theorem IM.make (h : IM w x mf ml mc cp top H D) (n : Nat) (h1 : 1 ≤ n) (h2 : n ≤ 4096) (hk : (H n).k = 0) (hm : ∀ m, 1 ≤ m → m < n → (H m).k ≠ 0) (kd : Int) (hkd : kd = 1 ∨ kd = 2) (st : Nat) (ht0 : 0 ≤ top ∧ top ≤ 4096) : Calls Tryz.prog 49 #[.pointer (some ⟨x, 0, none⟩), .int .i64 kd, .int .u64 ((st : Nat) : Int)] w fun e w' => e = .returned (.tuple #[.int .i64 (n : Int), .int .i64 0]) ∧ IM w' x mf ml mc cp (max top (n : Int)) (hU H n (hdN (H n) (n : Int) kd 1 0 st)) D ∧ Turns (fun z => z = x ∨ z = mf) w w' := by
  have hz2 := zero_hd
  have HFR : Hid (Calls Tryz.prog 107 #[.pointer (some ⟨x, 0, none⟩)] w fun e w' => e = .returned (.tuple #[.int .i64 (n : Int), .agg (hdC (H n)), .int .i64 0]) ∧ Below w.heap.size w w') := h.free n h1 h2 hk hm
  have HI : Hid (IM w x mf ml mc cp top H D) := h
  have HN : Hid (1 ≤ n ∧ n ≤ 4096) := ⟨h1, h2⟩
  obtain ⟨T, hT⟩ : ∃ T, max top (n : Int) = T := ⟨_, rfl⟩
  rw [hT]
  have HT : Hid (max top (n : Int) = T) := hT
  clear h h1 h2 hk hm hT
  go_enter Tryz.func49, Tryz.ntmps49
  rcases hkd with rfl | rfl
  · skip
    have HPU : Hid (∀ V, IM V x mf ml mc cp top H D → Calls Tryz.prog 108 #[.pointer (some ⟨x, 0, none⟩), .int .i64 (n : Int), .agg (hdC (hdN (H n) (n : Int) 1 1 0 st))] V fun e w' => e = .returned (.tuple #[]) ∧ IM w' x mf ml mc cp top (hU H n (hdN (H n) (n : Int) 1 1 0 st)) D ∧ Keeps mf V w') := fun V hV => hV.put n HN.out.1 HN.out.2 _
    go_wp2_with fail
    refine HFR.out.mono ?_
    rintro e w2 ⟨rfl, hb2⟩
    have HX2 : Hid (IM w2 x mf ml mc cp top H D ∧ Below w.heap.size w w2) := ⟨HI.out.below hb2, hb2⟩
    have q3 : Blk (w2.alloc (.cells (hdC hd00) 222)) w2.heap.size 222 (hdC hd00) := Blk.new _ _ _
    have q3' := q3.set (hdC (H n))
    have HB3 : Hid (Below w2.heap.size w2 ((w2.alloc (.cells (hdC hd00) 222)).setRow w2.heap.size (hdC (H n)))) := below_setRow (below_new1 _ _) (Nat.le_refl _) _
    clear hb2 HFR
    go_upto_region 6 with (first
      | (refine wpList_store_row (by rfl) 222 _ _ (by rfl) (w2.heap.size) (hdC (H n)) (by rfl) (by rfl) 222 (hdC hd00) (by exact q3) (sizeHd.trans (by rw [hdC_size])) (by simp only [hdC_size]) (hdC_all _) ?_; simp only [Act.put, List.setIfInBounds_toArray, List.set_cons_zero, List.set_cons_succ])
      | fail)
    clear q3
    generalize ((w2.alloc (.cells (hdC hd00) 222)).setRow w2.heap.size (hdC (H n))) = w3 at *
    have c38 := hd_c38 q3'
    have f38 : w3.frozen? ⟨w2.heap.size, 38, none⟩ = false := q3'.frozen 38
    have c39 := hd_c39 q3'
    have f39 : w3.frozen? ⟨w2.heap.size, 39, none⟩ = false := q3'.frozen 39
    have c40 := hd_c40 q3'
    have f40 : w3.frozen? ⟨w2.heap.size, 40, none⟩ = false := q3'.frozen 40
    have c41 := hd_c41 q3'
    have f41 : w3.frozen? ⟨w2.heap.size, 41, none⟩ = false := q3'.frozen 41
    have c42 := hd_c42 q3'
    have f42 : w3.frozen? ⟨w2.heap.size, 42, none⟩ = false := q3'.frozen 42
    have q4 : Hid (Blk (((((w3.setCell ⟨w2.heap.size, 38, none⟩ (.int .i64 (n : Int))).setCell ⟨w2.heap.size, 39, none⟩ (.int .i64 1)).setCell ⟨w2.heap.size, 40, none⟩ (.int .i64 1)).setCell ⟨w2.heap.size, 41, none⟩ (.int .i64 0)).setCell ⟨w2.heap.size, 42, none⟩ (.int .u64 ((st : Nat) : Int))) w2.heap.size 222 (hdC (hdN (H n) (n : Int) 1 1 0 st))) := hd_putNow q3' (n : Int) 1 1 0 st
    have HX4 : Hid (IM (((((w3.setCell ⟨w2.heap.size, 38, none⟩ (.int .i64 (n : Int))).setCell ⟨w2.heap.size, 39, none⟩ (.int .i64 1)).setCell ⟨w2.heap.size, 40, none⟩ (.int .i64 1)).setCell ⟨w2.heap.size, 41, none⟩ (.int .i64 0)).setCell ⟨w2.heap.size, 42, none⟩ (.int .u64 ((st : Nat) : Int))) x mf ml mc cp top H D ∧ Below w.heap.size w (((((w3.setCell ⟨w2.heap.size, 38, none⟩ (.int .i64 (n : Int))).setCell ⟨w2.heap.size, 39, none⟩ (.int .i64 1)).setCell ⟨w2.heap.size, 40, none⟩ (.int .i64 1)).setCell ⟨w2.heap.size, 41, none⟩ (.int .i64 0)).setCell ⟨w2.heap.size, 42, none⟩ (.int .u64 ((st : Nat) : Int)))) := by
      have hb4 : Below w2.heap.size w2 (((((w3.setCell ⟨w2.heap.size, 38, none⟩ (.int .i64 (n : Int))).setCell ⟨w2.heap.size, 39, none⟩ (.int .i64 1)).setCell ⟨w2.heap.size, 40, none⟩ (.int .i64 1)).setCell ⟨w2.heap.size, 41, none⟩ (.int .i64 0)).setCell ⟨w2.heap.size, 42, none⟩ (.int .u64 ((st : Nat) : Int))) := below_setCells (Nat.le_refl _) [.int .i64 (n : Int), .int .i64 1, .int .i64 1, .int .i64 0, .int .u64 ((st : Nat) : Int)] 38 _ HB3.out
      exact ⟨HX2.out.1.below hb4, HX2.out.2.trans (hb4.mono HX2.out.2.size)⟩
    clear q3' HX2 HB3
    go_wp2_with (first
      | (refine wpList_load_rowg (by rfl) 222 _ (by rfl) (w2.heap.size) (by rfl) 222 (hdC (hdN (H n) (n : Int) 1 1 0 st)) (0, 0) _ (by exact q4.out) Tryz.underlying222 (by rfl) (sizeHd.trans (by rw [hdC_size])) ?_; simp only [Act.put, List.setIfInBounds_toArray, List.set_cons_zero, List.set_cons_succ])
      | fail)
    refine (HPU.out _ HX4.out.1).mono ?_
    rintro e w5 ⟨rfl, hI5, hk5⟩
    have x5 := hI5.ix
    have d36 := ix_c36 x5
    have e36 : w5.frozen? ⟨x, 36, none⟩ = false := x5.frozen 36
    have HE : Hid (∀ t : Int, IM (w5.setCell ⟨x, 36, none⟩ (.int .i64 t)) x mf ml mc cp t (hU H n (hdN (H n) (n : Int) 1 1 0 st)) D ∧ Turns (fun z => z = x ∨ z = mf) w (w5.setCell ⟨x, 36, none⟩ (.int .i64 t))) := fun t => ⟨hI5.setTop t, ((Turns.bel HX4.out.2).tr (Turns.kept hk5)).tr (Turns.cell w5 x 36 _ (.inl rfl))⟩
    clear hI5 hk5 x5 HX4 q4 HPU c38 c39 c40 c41 c42 f38 f39 f40 f41 f42
    go_wp2_with fail
    go_ret2
    exact ⟨rfl, by rw [← HT.out]; exact (HE.out _).1, (HE.out _).2⟩
  · skip
    have HPU : Hid (∀ V, IM V x mf ml mc cp top H D → Calls Tryz.prog 108 #[.pointer (some ⟨x, 0, none⟩), .int .i64 (n : Int), .agg (hdC (hdN (H n) (n : Int) 2 1 0 st))] V fun e w' => e = .returned (.tuple #[]) ∧ IM w' x mf ml mc cp top (hU H n (hdN (H n) (n : Int) 2 1 0 st)) D ∧ Keeps mf V w') := fun V hV => hV.put n HN.out.1 HN.out.2 _
    go_wp2_with fail
    refine HFR.out.mono ?_
    rintro e w2 ⟨rfl, hb2⟩
    have HX2 : Hid (IM w2 x mf ml mc cp top H D ∧ Below w.heap.size w w2) := ⟨HI.out.below hb2, hb2⟩
    have q3 : Blk (w2.alloc (.cells (hdC hd00) 222)) w2.heap.size 222 (hdC hd00) := Blk.new _ _ _
    have q3' := q3.set (hdC (H n))
    have HB3 : Hid (Below w2.heap.size w2 ((w2.alloc (.cells (hdC hd00) 222)).setRow w2.heap.size (hdC (H n)))) := below_setRow (below_new1 _ _) (Nat.le_refl _) _
    clear hb2 HFR
    go_upto_region 6 with (first
      | (refine wpList_store_row (by rfl) 222 _ _ (by rfl) (w2.heap.size) (hdC (H n)) (by rfl) (by rfl) 222 (hdC hd00) (by exact q3) (sizeHd.trans (by rw [hdC_size])) (by simp only [hdC_size]) (hdC_all _) ?_; simp only [Act.put, List.setIfInBounds_toArray, List.set_cons_zero, List.set_cons_succ])
      | fail)
    clear q3
    generalize ((w2.alloc (.cells (hdC hd00) 222)).setRow w2.heap.size (hdC (H n))) = w3 at *
    have c38 := hd_c38 q3'
    have f38 : w3.frozen? ⟨w2.heap.size, 38, none⟩ = false := q3'.frozen 38
    have c39 := hd_c39 q3'
    have f39 : w3.frozen? ⟨w2.heap.size, 39, none⟩ = false := q3'.frozen 39
    have c40 := hd_c40 q3'
    have f40 : w3.frozen? ⟨w2.heap.size, 40, none⟩ = false := q3'.frozen 40
    have c41 := hd_c41 q3'
    have f41 : w3.frozen? ⟨w2.heap.size, 41, none⟩ = false := q3'.frozen 41
    have c42 := hd_c42 q3'
    have f42 : w3.frozen? ⟨w2.heap.size, 42, none⟩ = false := q3'.frozen 42
    have q4 : Hid (Blk (((((w3.setCell ⟨w2.heap.size, 38, none⟩ (.int .i64 (n : Int))).setCell ⟨w2.heap.size, 39, none⟩ (.int .i64 2)).setCell ⟨w2.heap.size, 40, none⟩ (.int .i64 1)).setCell ⟨w2.heap.size, 41, none⟩ (.int .i64 0)).setCell ⟨w2.heap.size, 42, none⟩ (.int .u64 ((st : Nat) : Int))) w2.heap.size 222 (hdC (hdN (H n) (n : Int) 2 1 0 st))) := hd_putNow q3' (n : Int) 2 1 0 st
    have HX4 : Hid (IM (((((w3.setCell ⟨w2.heap.size, 38, none⟩ (.int .i64 (n : Int))).setCell ⟨w2.heap.size, 39, none⟩ (.int .i64 2)).setCell ⟨w2.heap.size, 40, none⟩ (.int .i64 1)).setCell ⟨w2.heap.size, 41, none⟩ (.int .i64 0)).setCell ⟨w2.heap.size, 42, none⟩ (.int .u64 ((st : Nat) : Int))) x mf ml mc cp top H D ∧ Below w.heap.size w (((((w3.setCell ⟨w2.heap.size, 38, none⟩ (.int .i64 (n : Int))).setCell ⟨w2.heap.size, 39, none⟩ (.int .i64 2)).setCell ⟨w2.heap.size, 40, none⟩ (.int .i64 1)).setCell ⟨w2.heap.size, 41, none⟩ (.int .i64 0)).setCell ⟨w2.heap.size, 42, none⟩ (.int .u64 ((st : Nat) : Int)))) := by
      have hb4 : Below w2.heap.size w2 (((((w3.setCell ⟨w2.heap.size, 38, none⟩ (.int .i64 (n : Int))).setCell ⟨w2.heap.size, 39, none⟩ (.int .i64 2)).setCell ⟨w2.heap.size, 40, none⟩ (.int .i64 1)).setCell ⟨w2.heap.size, 41, none⟩ (.int .i64 0)).setCell ⟨w2.heap.size, 42, none⟩ (.int .u64 ((st : Nat) : Int))) := below_setCells (Nat.le_refl _) [.int .i64 (n : Int), .int .i64 2, .int .i64 1, .int .i64 0, .int .u64 ((st : Nat) : Int)] 38 _ HB3.out
      exact ⟨HX2.out.1.below hb4, HX2.out.2.trans (hb4.mono HX2.out.2.size)⟩
    clear q3' HX2 HB3
    go_wp2_with (first
      | (refine wpList_load_rowg (by rfl) 222 _ (by rfl) (w2.heap.size) (by rfl) 222 (hdC (hdN (H n) (n : Int) 2 1 0 st)) (0, 0) _ (by exact q4.out) Tryz.underlying222 (by rfl) (sizeHd.trans (by rw [hdC_size])) ?_; simp only [Act.put, List.setIfInBounds_toArray, List.set_cons_zero, List.set_cons_succ])
      | fail)
    refine (HPU.out _ HX4.out.1).mono ?_
    rintro e w5 ⟨rfl, hI5, hk5⟩
    have x5 := hI5.ix
    have d36 := ix_c36 x5
    have e36 : w5.frozen? ⟨x, 36, none⟩ = false := x5.frozen 36
    have HE : Hid (∀ t : Int, IM (w5.setCell ⟨x, 36, none⟩ (.int .i64 t)) x mf ml mc cp t (hU H n (hdN (H n) (n : Int) 2 1 0 st)) D ∧ Turns (fun z => z = x ∨ z = mf) w (w5.setCell ⟨x, 36, none⟩ (.int .i64 t))) := fun t => ⟨hI5.setTop t, ((Turns.bel HX4.out.2).tr (Turns.kept hk5)).tr (Turns.cell w5 x 36 _ (.inl rfl))⟩
    clear hI5 hk5 x5 HX4 q4 HPU c38 c39 c40 c41 c42 f38 f39 f40 f41 f42
    go_wp2_with fail
    go_ret2
    exact ⟨rfl, by rw [← HT.out]; exact (HE.out _).1, (HE.out _).2⟩
end
end Go.Proofs.YtojnlmfahgeidaaGreatDoor

namespace Go.Proofs.YtojnlmfahgeidaaGreatDoor
set_option maxRecDepth 20000
open Go Go.RowKit
set_option linter.unusedVariables false
set_option linter.unusedSimpArgs false
/-- entries of a caller's slice -/
def IsLkC (W : World) (a : Option Addr) (n : Nat) (N : Nat → Int) (S : Nat → ByteArray) : Prop := ∀ i, i < n → ∃ b o, a = some ⟨b, o, none⟩ ∧ b < W.heap.size ∧ W.cell? ⟨b, o + i * 2, none⟩ = some (.int .i64 (N i)) ∧ W.cell? ⟨b, o + i * 2 + 1, none⟩ = some (.string (S i))
theorem IsLkC.below {W V : World} {a : Option Addr} {n : Nat} {N : Nat → Int} {S : Nat → ByteArray} (h : IsLkC W a n N S) (hb : Below W.heap.size W V) : IsLkC V a n N S := fun i hi => by
  obtain ⟨b, o, h1, h2, h3, h4⟩ := h i hi
  exact ⟨b, o, h1, Nat.lt_of_lt_of_le h2 hb.size, (hb.cell h2).trans h3, (hb.cell h2).trans h4⟩
end Go.Proofs.YtojnlmfahgeidaaGreatDoor

namespace Go.Proofs.YtojnlmfahgeidaaGreatDoor
open Go Go.RowKit
set_option linter.unusedSimpArgs false
set_option linter.unusedVariables false
set_option maxRecDepth 100000 in
set_option maxHeartbeats 4000000 in
/-- the document's Find: p is the first place with the name, or how many there are -/
theorem rfind17_any (a : Option Addr) (n c p : Nat) (hn : n ≤ 140737488351232) (N : Nat → Int) (S : Nat → ByteArray) (s : ByteArray) (hp : FirstN S n p s) (r0 r1 : Int) (h0 : r0 = if p < n then N p else 0) (h1 : r1 = if p < n then (p : Int) else -1) (w : World) (hI : IsLkC w a n N S) : Calls Tryz.prog 20 #[.slice a n c, .string s] w fun e w' => e = .returned (.tuple #[.int .i64 r0, .int .i64 r1]) ∧ w' = w := by
  have HP : Hid (FirstN S n p s ∧ (r0 = if p < n then N p else 0) ∧ (r1 = if p < n then (p : Int) else -1)) := ⟨hp, h0, h1⟩
  have HI : Hid (IsLkC w a n N S) := hI
  clear hp h0 h1 hI
  go_enter Tryz.func20, Tryz.ntmps20
  go_wp2_with fail
  go_loopw [6] (fun v wr => Hid (∃ i : Nat, i ≤ n ∧ i ≤ p ∧ v = .int .i64 (i : Int) ∧ wr = w)) (fun v _ => n - (intOf v).toNat)
  case atStart => exact ⟨0, Nat.zero_le _, Nat.zero_le _, rfl, rfl⟩
  case round =>
    obtain ⟨i, hi, hip, rfl, rfl⟩ := Hid.out hrel
    clear hrel
    by_cases hlt : i < n
    · have i0 : (0 : Int) ≤ (i : Int) := by omega
      have i1 : (i : Int) < (n : Int) := by omega
      obtain ⟨b, o, rfl, hb, c1, c2⟩ := HI.out i hlt
      by_cases hq : i = p
      · have e1 : ((S i).toList == s.toList) = true := eqT (by rw [hq]; exact HP.out.1.2.2 (by omega))
        have HR : Hid (r0 = N i ∧ r1 = (i : Int)) := by
          have h := HP.out
          rw [if_pos (show p < n by omega)] at h
          rw [if_pos (show p < n by omega)] at h
          rw [hq]
          exact h.2
        clear hq
        go_wp2_with fail
        go_ret2
        exact ⟨by rw [HR.out.1, HR.out.2]; rfl, rfl⟩
      · have e1 : ((S i).toList == s.toList) = false := neT (HP.out.1.2.1 i (by omega))
        have HL : Hid (i + 1 ≤ n ∧ i + 1 ≤ p) := ⟨by omega, by omega⟩
        clear hq
        go_wp2_with fail
        refine ⟨⟨i + 1, HL.out.1, HL.out.2, by simp, trivial⟩, ?_⟩
        simp only [intOf]
        have := HL.out.1
        omega
    · have i1 : ¬ ((i : Int) < (n : Int)) := by omega
      have HR : Hid (r0 = 0 ∧ r1 = -1) := by
        have h := HP.out
        have hpn : ¬ p < n := by omega
        rw [if_neg hpn] at h
        rw [if_neg hpn] at h
        exact h.2
      clear hlt
      go_wp2_with fail
      go_ret2
      exact ⟨by rw [HR.out.1, HR.out.2]; rfl, rfl⟩
end Go.Proofs.YtojnlmfahgeidaaGreatDoor

namespace Go.Proofs.YtojnlmfahgeidaaGreatDoor
open Go Go.RowKit

/-- the plan of a region's walk -/
inductive PlanW where
  | fin (takes : List Nat)
  | force (ts : List Nat) (i : Nat) (next : PlanW)
  | yield (ts : List Nat) (i : Nat) (next : PlanW)
  | fork (i j : Nat) (p q : PlanW)
def PlanW.len (tl : List Nat) : PlanW → Nat
  | .fin takes => takes.length + tl.length
  | .force ts _ p => ts.length + (1 + p.len tl)
  | .yield ts _ p => ts.length + (1 + p.len tl)
  | .fork _ _ p _ => p.len tl + 1
/-- the check -/
def PlanW.ok (ops : Array Oper) (tl : List Nat) : PlanW → Array Bool → Bool
  | .fin takes, listed => match takesB .any ops tl [] takes listed with
    | some l => tailB .any ops tl tl l
    | none => false
  | .force ts i p, listed => match takesB .any ops tl [] ts listed with
    | some l => forceW .any ops l i && !tl.contains i && p.ok ops tl (l.setIfInBounds i true)
    | none => false
  | .yield ts i p, listed => match takesB .any ops tl [] ts listed with
    | some l => yieldW .any ops l tl i && p.ok ops tl (l.setIfInBounds i true)
    | none => false
  | .fork i j p q, listed => Region.ready .any ops listed == [i, j] && (ops[i]?).isSome && (ops[j]?).isSome && !tl.contains i && !tl.contains j && p.len tl == q.len tl && p.ok ops tl (listed.setIfInBounds i true) && q.ok ops tl (listed.setIfInBounds j true)
def PlanW.whole (ops : Array Oper) (tl : List Nat) (p : PlanW) : Bool := p.len tl == ops.size && Region.noSelect ops && p.ok ops tl (Array.replicate ops.size false)
section
variable {P : Program} {ops : Array Oper} {Q : Exit → Act → World → Prop} {S : World → Prop}
/-- the walk -/
def wpPlanW (P : Program) (ops : Array Oper) (Q : Exit → Act → World → Prop) (S : World → Prop) (tl : List Nat) : PlanW → Act → World → Prop
  | .fin takes, a, w => wpList P ops (Strict Q) ((takes ++ tl).filterMap fun i => ops[i]?) a w
  | .force ts i p, a, w => wpList P ops (Strict fun _ a' w' => S w' ∧ wpPlanW P ops Q S tl p a' w') ((ts ++ [i]).filterMap fun i => ops[i]?) a w
  | .yield ts i p, a, w => wpList P ops (Strict fun _ a' w' => ∃ o v, ops[i]? = some o ∧ YieldsIf P ops S o v a' ∧ wpPlanW P ops Q S tl p (a'.put o.dst v) w') ((ts ++ []).filterMap fun i => ops[i]?) a w
  | .fork i j p q, a, w => wpList P ops (Strict fun _ a' w' => S w' ∧ wpPlanW P ops Q S tl p a' w') ([i].filterMap fun i => ops[i]?) a w ∧ wpList P ops (Strict fun _ a' w' => S w' ∧ wpPlanW P ops Q S tl q a' w') ([j].filterMap fun i => ops[i]?) a w
theorem planW_step (hs : Region.noSelect ops = true) (tl : List Nat) : ∀ (p : PlanW) (listed : Array Bool) (a : Act) (w : World), p.ok ops tl listed = true → S w →
      wpPlanW P ops Q S tl p a w → wpAnyW P .any ops (Strict Q) S (tl.contains ·) (p.len tl) listed a w
  | .fin takes, listed, a, w, hb, hS, h => by
    unfold PlanW.ok at hb
    split at hb
    · rename_i l2 hl2
      exact takesS_step hs tl tl.length Q takes listed l2 a w hl2 (fun a' w' _ h' => tailS_step tl l2 a' w' hb h') hS h
    · cases hb
  | .force ts i p, listed, a, w, hb, hS, h => by
    unfold PlanW.ok at hb
    split at hb
    · rename_i l2 hl2
      simp only [Bool.and_eq_true] at hb
      refine takesS_step hs [i] _ _ ts listed l2 a w hl2 (fun a' w' _ h' => ?_) hS h
      obtain ⟨o, ho⟩ := has_op' hb.1.1
      rw [Nat.add_comm 1]
      refine forceS_step hb.1.1 (wpOp_mono (fun a2 w2 h2 => ?_) (wpOp_strict (wpList_one ho h')))
      have h3 := h2.2
      exact ⟨fun _ => h3.1, planW_step hs tl p _ a2 w2 hb.2 h3.1 h3.2⟩
    · cases hb
  | .yield ts i p, listed, a, w, hb, hS, h => by
    unfold PlanW.ok at hb
    split at hb
    · rename_i l2 hl2
      simp only [Bool.and_eq_true] at hb
      refine takesS_step hs [] _ _ ts listed l2 a w hl2 (fun a' w' hS' h' => ?_) hS h
      obtain ⟨-, o, v, ho, hy, hn⟩ := h'
      have hc := hb.1
      unfold yieldW at hc
      rw [ho] at hc
      simp only [Bool.and_eq_true, Bool.not_eq_true'] at hc
      rw [Nat.add_comm 1]
      exact takeS_gen hs ho hc.1.1.1 hc.1.1.2 hc.1.2 hc.2 hy hS' (planW_step hs tl p _ _ w' hb.2 hS' hn)
    · cases hb
  | .fork i j p q, listed, a, w, hb, hS, h => by
    simp only [PlanW.ok, Bool.and_eq_true, beq_iff_eq] at hb
    obtain ⟨⟨⟨⟨⟨⟨⟨hr, hi⟩, hj⟩, _⟩, _⟩, hl⟩, hp⟩, hq⟩ := hb
    refine ⟨fun h0 => (by rw [h0] at hr; cases hr), fun x hx => ?_⟩
    rw [hr] at hx
    have hx2 : x = i ∨ x = j := by simpa using hx
    rcases hx2 with rfl | rfl
    · obtain ⟨o, ho⟩ := Option.isSome_iff_exists.1 hi
      refine wpOp_mono (fun a' w' h' => ?_) (wpOp_strict (wpList_one ho h.1))
      exact ⟨fun _ => h'.2.1, planW_step hs tl p _ a' w' hp h'.2.1 h'.2.2⟩
    · obtain ⟨o, ho⟩ := Option.isSome_iff_exists.1 hj
      refine wpOp_mono (fun a' w' h' => ?_) (wpOp_strict (wpList_one ho h.2))
      have := planW_step hs tl q _ a' w' hq h'.2.1 h'.2.2
      rw [← hl] at this
      exact ⟨fun _ => h'.2.1, this⟩
/-- THE LAW. -/
theorem wp_region_planW {id : Nat} {a : Act} {w : World} (S : World → Prop) (tl : List Nat) (p : PlanW) (hm : P.follows .mixedOrders = true) (hB : p.whole ops tl = true)
    (hS : S w.drew) (h : wpPlanW P ops Q S tl p a w.drew) : (Code.region id ops true).wp P Q a w := by
  unfold PlanW.whole at hB
  simp only [Bool.and_eq_true, beq_iff_eq] at hB
  refine Code.wp_mono Strict.imp (wp_region_any hm ?_)
  rw [← hB.1.1]
  exact wpAny_of_W _ _ _ _ (planW_step hB.1.2 tl p _ a _ (by rw [hB.1.1]; exact hB.2) hS h)
theorem planW_force {tl ts : List Nat} {i : Nat} {p : PlanW} {a : Act} {w : World}
    (h : wpList P ops (Strict fun _ a' w' => S w' ∧ wpPlanW P ops Q S tl p a' w') ((ts ++ [i]).filterMap fun i => ops[i]?) a w) : wpPlanW P ops Q S tl (.force ts i p) a w := h
theorem planW_yield {tl ts : List Nat} {i : Nat} {p : PlanW} {a : Act} {w : World}
    (h : wpList P ops (Strict fun _ a' w' => ∃ o v, ops[i]? = some o ∧ YieldsIf P ops S o v a' ∧ wpPlanW P ops Q S tl p (a'.put o.dst v) w') ((ts ++ []).filterMap fun i => ops[i]?) a w) : wpPlanW P ops Q S tl (.yield ts i p) a w := h
theorem planW_fork {tl : List Nat} {i j : Nat} {p q : PlanW} {a : Act} {w : World} (h1 : wpList P ops (Strict fun _ a' w' => S w' ∧ wpPlanW P ops Q S tl p a' w') ([i].filterMap fun i => ops[i]?) a w)
    (h2 : wpList P ops (Strict fun _ a' w' => S w' ∧ wpPlanW P ops Q S tl q a' w') ([j].filterMap fun i => ops[i]?) a w) : wpPlanW P ops Q S tl (.fork i j p q) a w := ⟨h1, h2⟩
theorem planW_fin {tl takes : List Nat} {a : Act} {w : World} (h : wpList P ops (Strict Q) ((takes ++ tl).filterMap fun i => ops[i]?) a w) : wpPlanW P ops Q S tl (.fin takes) a w := h
end
end Go.Proofs.YtojnlmfahgeidaaGreatDoor

namespace Go.Proofs.YtojnlmfahgeidaaGreatDoor
open Go Go.RowKit
set_option linter.unusedSimpArgs false
set_option linter.unusedVariables false
/-- a block of entries -/
def lbF (N : Nat → Int) (S : Nat → ByteArray) : Nat → Value := fun i => if i % 2 = 0 then .int .i64 (N (i / 2)) else .string (S (i / 2))
def lbC (tl : Array Value) (cap : Nat) (N : Nat → Int) (S : Nat → ByteArray) : Array Value := va (cap * 2) (lbF N S) ++ tl
section
variable {w : World} {g t cap : Nat} {N : Nat → Int} {S : Nat → ByteArray} {tl : Array Value}
theorem lb_at (h : Blk w g t (lbC tl cap N S)) (i : Nat) (hi : i < cap * 2) : w.cell? ⟨g, i, none⟩ = some (lbF N S i) := by
  rw [h.cell i]
  unfold lbC
  rw [Array.getElem?_append_left (by rw [va_size]; exact hi)]
  rw [Array.getElem?_eq_getElem (by rw [va_size]; exact hi)]
  simp [va]
theorem lb_c0 (h : Blk w g t (lbC tl cap N S)) (j : Nat) (hj : j < cap) : w.cell? ⟨g, j * 2, none⟩ = some (.int .i64 (N j)) := by
  have := lb_at h (j * 2) (by omega)
  unfold lbF at this
  rw [if_pos (by omega), show j * 2 / 2 = j by omega] at this
  exact this
theorem lb_c1 (h : Blk w g t (lbC tl cap N S)) (j : Nat) (hj : j < cap) : w.cell? ⟨g, j * 2 + 1, none⟩ = some (.string (S j)) := by
  have := lb_at h (j * 2 + 1) (by omega)
  unfold lbF at this
  rw [if_neg (by omega), show (j * 2 + 1) / 2 = j by omega] at this
  exact this
end
end Go.Proofs.YtojnlmfahgeidaaGreatDoor

namespace Go.Proofs.YtojnlmfahgeidaaGreatDoor
open Go Go.RowKit
set_option linter.unusedVariables false
/-- places changed about within [a, b) -/
def Pm (a b : Nat) (s : Nat → Nat) : Prop := (∀ p, ¬ (a ≤ p ∧ p < b) → s p = p) ∧ (∀ p, a ≤ p → p < b → a ≤ s p ∧ s p < b) ∧ ∀ p q, s p = s q → p = q
theorem Pm.refl (a b : Nat) : Pm a b id := ⟨fun _ _ => rfl, fun p h1 h2 => ⟨h1, h2⟩, fun _ _ h => h⟩
theorem Pm.wide {a b a2 b2 : Nat} {s : Nat → Nat} (h : Pm a b s) (h1 : a2 ≤ a) (h2 : b ≤ b2) : Pm a2 b2 s := by
  refine ⟨fun p hp => h.1 p (by omega), fun p k1 k2 => ?_, h.2.2⟩
  by_cases c : a ≤ p ∧ p < b
  · have := h.2.1 p c.1 c.2
    omega
  · rw [h.1 p c]
    exact ⟨k1, k2⟩
section
variable {α : Type} {L : α → α → Prop} {f : Nat → α}
/-- none is less than one before it -/
def So (L : α → α → Prop) (f : Nat → α) (a b : Nat) : Prop := ∀ p q, a ≤ p → p < q → q < b → ¬ L (f q) (f p)
/-- none of the second stretch is less than one of the first -/
def Cr (L : α → α → Prop) (f : Nat → α) (a m b : Nat) : Prop := ∀ p q, a ≤ p → p < m → m ≤ q → q < b → ¬ L (f q) (f p)
theorem So.sub {a b a2 b2 : Nat} (h : So L f a b) (h1 : a ≤ a2) (h2 : b2 ≤ b) : So L f a2 b2 := fun p q k1 k2 k3 => h p q (by omega) k2 (by omega)
theorem Cr.first {a m b : Nat} {s : Nat → Nat} (h : Cr L f a m b) (hs : Pm a m s) : Cr L (fun p => f (s p)) a m b := fun p q k1 k2 k3 k4 => by
  have := hs.2.1 p k1 k2
  show ¬ L (f (s q)) (f (s p))
  rw [hs.1 q (by omega)]
  exact h _ _ this.1 this.2 k3 k4
theorem So.apart {a b x y : Nat} {s : Nat → Nat} (h : So L f a b) (hs : Pm x y s) (hd : b ≤ x ∨ y ≤ a) : So L (fun p => f (s p)) a b := fun p q k1 k2 k3 => by
  show ¬ L (f (s q)) (f (s p))
  rw [hs.1 p (by omega), hs.1 q (by omega)]
  exact h p q k1 k2 k3
end
end Go.Proofs.YtojnlmfahgeidaaGreatDoor

namespace Go.Proofs.YtojnlmfahgeidaaGreatDoor
open Go Go.RowKit
set_option linter.unusedVariables false
set_option linter.unusedSimpArgs false
abbrev Lk := Int × ByteArray
/-- the cells of entries -/
def lkR : List Lk → List Value
  | [] => []
  | x :: l => .int .i64 x.1 :: .string x.2 :: lkR l
theorem lkR_len : ∀ l : List Lk, (lkR l).length = l.length * 2
  | [] => rfl
  | x :: l => by simp [lkR, lkR_len l]; omega
theorem lkR_app : ∀ l m : List Lk, lkR (l ++ m) = lkR l ++ lkR m
  | [], m => rfl
  | x :: l, m => by simp [lkR, lkR_app l m]
theorem lkR_mem : ∀ (l : List Lk) (u : Value), u ∈ lkR l → u.oneCell' = true
  | [], u, h => by simp [lkR] at h
  | x :: l, u, h => by
    simp only [lkR, List.mem_cons] at h
    rcases h with rfl | rfl | h
    · rfl
    · rfl
    · exact lkR_mem l u h
theorem lkR_take : ∀ (l : List Lk) (k : Nat), lkR (l.take k) = (lkR l).take (k * 2)
  | [], k => by simp [lkR]
  | x :: l, 0 => by simp [lkR]
  | x :: l, k + 1 => by rw [List.take_succ_cons, lkR, lkR, lkR_take l k, show (k + 1) * 2 = k * 2 + 1 + 1 from by omega]; rfl
theorem lkR_drop : ∀ (l : List Lk) (k : Nat), lkR (l.drop k) = (lkR l).drop (k * 2)
  | [], k => by simp [lkR]
  | x :: l, 0 => by simp
  | x :: l, k + 1 => by rw [List.drop_succ_cons, lkR, lkR_drop l k, show (k + 1) * 2 = k * 2 + 1 + 1 from by omega]; rfl
/-- the first n of N, S as a list -/
def liR (N : Nat → Int) (S : Nat → ByteArray) (n : Nat) : List Lk := (List.range n).map fun i => (N i, S i)
theorem liR_len (N : Nat → Int) (S : Nat → ByteArray) (n : Nat) : (liR N S n).length = n := by simp [liR]
theorem liR_cells (N : Nat → Int) (S : Nat → ByteArray) : ∀ n, lkR (liR N S n) = lkL N S n
  | 0 => rfl
  | n + 1 => by
    have ih := liR_cells N S n
    unfold liR at ih ⊢
    rw [List.range_succ, List.map_append, lkR_app, ih, lkL]
    rfl
/-- entries in the memory from a place on -/
def IsR (w : World) (b o : Nat) (M : List Lk) : Prop := ∀ j u, (lkR M)[j]? = some u → w.cell? ⟨b, o + j, none⟩ = some u
theorem IsR.take {w : World} {b o : Nat} {M : List Lk} (h : IsR w b o M) (k : Nat) : IsR w b o (M.take k) := fun j u hu => by
  rw [lkR_take, List.getElem?_take] at hu
  split at hu
  · exact h j u hu
  · cases hu
theorem IsR.drop {w : World} {b o : Nat} {M : List Lk} (h : IsR w b o M) (k : Nat) : IsR w b (o + k * 2) (M.drop k) := fun j u hu => by
  rw [lkR_drop, List.getElem?_drop] at hu
  rw [Nat.add_assoc]
  exact h _ u hu
theorem IsR.below {w w' : World} {b o B : Nat} {M : List Lk} (h : IsR w b o M) (hb : Below B w w') (hB : b < B) : IsR w' b o M := fun j u hu => (hb.cell (p := ⟨b, o + j, none⟩) hB).trans (h j u hu)
/-- append(own, entries...) -/
theorem wpList_append_lks {P : Program} {ops : Array Oper} {rest : List Oper} {o : Oper} {a : Act} {w : World} {Q : Exit → Act → World → Prop} (hgd : o.guard = none) (s x : Operand) (t : TypeId)
    (ho : o.op = .call { callee := .builtin .append, args := #[s, x], argTypes := #[t, t] }) (B : Nat) (e : TypeId) (i : TypeInfo) (z : Value) (ht : P.underlying t = some (.slice e)) (hi : P.info? e = some i) (hz : i.zero = some z) (hsize : i.size = 2) (hby : i.bytes = 24) (hzs : z.cells.size = 2)
    (v : Value) (A : List Lk) (k : Nat) (hk : k = A.length) (hs : a.eval s = v) (hown : w.ownsRow B e 2 v k (lkR A)) (b of m c : Nat) (M : List Lk) (hm : m = M.length) (hx : a.eval x = .slice (some ⟨b, of, none⟩) m c) (hA : IsR w b of M) (hn : (A.length + M.length) * 24 ≤ 140737488355328) (hbase : B ≤ w.heap.size)
    (h : ∀ v' w', w'.ownsRow B e 2 v' (k + m) (lkR (A ++ M)) → Below B w w' → w.grownBy w' v.ownBlock → wpList P ops Q rest (a.put o.dst v') w') : wpList P ops Q (o :: rest) a w := by
  have hv := hown.lt
  refine wpList_append_own _ hgd s x t ho B e i z 2 24 ht hi hz hsize hby hzs (by decide) v k (lkR A) hs hown ⟨b, of, none⟩ m c (lkR M) hx (by rw [lkR_len, hm]) (fun j u hu => ?_) (lkR_mem M) (by unfold maxLen; omega) (by omega) hbase fun v' w' h1 h2 _ => ?_
  · rw [Addr.add_mid]; exact hA j u hu
  · rw [← lkR_app] at h1
    exact h v' w' h1 ((Below.refl _ _).grown h2 hbase (fun k hk => (hv k hk).1)) h2
end Go.Proofs.YtojnlmfahgeidaaGreatDoor

namespace Go.Proofs.YtojnlmfahgeidaaGreatDoor
open Go.ChangeShapes Go.WideShapes Go.ChangeAt Go.RowKit Go.Joins
set_option linter.unusedVariables false
set_option linter.unusedSimpArgs false
theorem lkL_mem (N : Nat → Int) (S : Nat → ByteArray) : ∀ n u, u ∈ lkL N S n → u.oneCell' = true
  | 0, u, h => by simp [lkL] at h
  | n + 1, u, h => by
    rw [lkL, List.mem_append] at h
    rcases h with h | h
    · exact lkL_mem N S n u h
    · simp at h
      rcases h with rfl | rfl <;> rfl
theorem lkL_get (N : Nat → Int) (S : Nat → ByteArray) : ∀ n j u, (lkL N S n)[j]? = some u → ∃ i, i < n ∧ ((j = i * 2 ∧ u = .int .i64 (N i)) ∨ (j = i * 2 + 1 ∧ u = .string (S i)))
  | 0, j, u, h => by simp [lkL] at h
  | n + 1, j, u, h => by
    have hl := lkL_len N S n
    rw [lkL] at h
    by_cases hj : j < n * 2
    · rw [List.getElem?_append_left (by omega)] at h
      obtain ⟨i, hi, hh⟩ := lkL_get N S n j u h
      exact ⟨i, by omega, hh⟩
    · rw [List.getElem?_append_right (by omega), hl] at h
      have hlt : j - n * 2 < 2 := by have := (List.getElem?_eq_some_iff.1 h).1; simpa using this
      by_cases e : j = n * 2
      · rw [e, Nat.sub_self] at h
        simp at h
        exact ⟨n, by omega, Or.inl ⟨e, h.symm⟩⟩
      · have e2 : j = n * 2 + 1 := by omega
        rw [e2, show n * 2 + 1 - n * 2 = 1 from by omega] at h
        simp at h
        exact ⟨n, by omega, Or.inr ⟨e2, h.symm⟩⟩
end Go.Proofs.YtojnlmfahgeidaaGreatDoor

namespace Go.Proofs.YtojnlmfahgeidaaGreatDoor
open Go Go.RowKit
set_option linter.unusedSimpArgs false
set_option linter.unusedVariables false
set_option maxRecDepth 100000 in
set_option maxHeartbeats 4000000 in
/-- Add that fails: the list itself, and why -/
theorem radd17_no (a : Option Addr) (n c : Nat) (hn : n ≤ 140737488351232) (N : Nat → Int) (S : Nat → ByteArray) (i : Int) (s : ByteArray) (p : Nat) (hp : FirstN S n p s) (r : Int) (hr : r = if encE i s ≠ 0 then encE i s else if p < n then 172 else 173) (hb : encE i s ≠ 0 ∨ p < n ∨ 16384 ≤ n) (w : World) (hI : IsLkC w a n N S) : Calls Tryz.prog 51 #[.slice a n c, lkV i s] w fun e w' => e = .returned (.tuple #[.slice a n c, .int .i64 r]) ∧ Below w.heap.size w w' := by
  have HE : Hid (∀ w : World, Calls Tryz.prog 112 #[lkV i s] w fun e w' => e = .returned (.tuple #[.string (encT i s), .int .i64 (encE i s)]) ∧ Below w.heap.size w w') := rencode_any i s
  have HF : Hid (∀ W, Below w.heap.size w W → Calls Tryz.prog 20 #[.slice a n c, .string s] W fun e w' => e = .returned (.tuple #[.int .i64 (if p < n then N p else 0), .int .i64 (if p < n then (p : Int) else -1)]) ∧ w' = W) := fun W hW => rfind17_any a n c p hn N S s hp _ _ rfl rfl W (hI.below hW)
  have HR : Hid (r = if encE i s ≠ 0 then encE i s else if p < n then 172 else 173) := hr
  clear hr hI hp
  generalize encT i s = ET at *
  generalize encE i s = EE at *
  unfold lkV at *
  have b0 : Blk (w.alloc (.cells #[.int .i64 i, .string s] 58)) w.heap.size 58 #[.int .i64 i, .string s] := Blk.new _ _ _
  have HB0 : Hid (Below w.heap.size w (w.alloc (.cells #[.int .i64 i, .string s] 58))) := below_new1 _ _
  have c0 : (w.alloc (.cells #[.int .i64 i, .string s] 58)).cell? ⟨w.heap.size, 0, none⟩ = some (.int .i64 i) := (b0.cell 0).trans rfl
  have c1 : (w.alloc (.cells #[.int .i64 i, .string s] 58)).cell? ⟨w.heap.size, 1, none⟩ = some (.string s) := (b0.cell 1).trans rfl
  go_enter Tryz.func51, Tryz.ntmps51
  go_wp2_with fail
  generalize (w.alloc (.cells #[.int .i64 i, .string s] 58)) = w0 at *
  refine (HE.out _).mono ?_
  rintro e w1 ⟨rfl, hb1⟩
  have HB1 : Hid (Below w.heap.size w w1) := HB0.out.trans (hb1.mono HB0.out.size)
  have b1 := b0.below hb1 b0.lt
  clear c0 c1 hb1 b0 HB0 HE
  have c1 : w1.cell? ⟨w.heap.size, 1, none⟩ = some (.string s) := (b1.cell 1).trans rfl
  by_cases h0 : EE = 0
  · subst h0
    have HF1 := HF.out w1 HB1.out
    clear HF
    by_cases hq : p < n
    · have HR2 : Hid (r = 172) := by show r = 172; rw [HR.out, if_neg (by simp), if_pos hq]
      rw [if_pos hq, if_pos hq] at HF1
      have p0 : (0 : Int) ≤ (p : Int) := by omega
      generalize N p = NP at *
      clear HR hb b1
      go_wp2_with fail
      refine HF1.mono ?_
      rintro e w2 ⟨rfl, hw2⟩
      subst w2
      go_wp2_with fail
      go_ret2
      exact ⟨by rw [HR2.out]; rfl, HB1.out⟩
    · have HR2 : Hid (r = 173) := by show r = 173; rw [HR.out, if_neg (by simp), if_neg hq]
      rw [if_neg hq, if_neg hq] at HF1
      have hl : (16384 : Int) ≤ (n : Int) := by
        rcases hb with hb | hb | hb
        · exact absurd rfl hb
        · exact absurd hb hq
        · omega
      clear HR hb b1
      go_wp2_with fail
      refine HF1.mono ?_
      rintro e w2 ⟨rfl, hw2⟩
      subst w2
      go_wp2_with fail
      go_ret2
      exact ⟨by rw [HR2.out]; rfl, HB1.out⟩
  · have HR2 : Hid (r = EE) := by show r = EE; rw [HR.out, if_pos h0]
    clear HR hb b1 HF
    go_wp2_with fail
    go_ret2
    exact ⟨by rw [HR2.out]; rfl, HB1.out⟩
end Go.Proofs.YtojnlmfahgeidaaGreatDoor

namespace Go.Proofs.YtojnlmfahgeidaaGreatDoor
open Go Go.RowKit
set_option linter.unusedSimpArgs false
set_option linter.unusedVariables false
theorem sc_same (W : World) (p : Addr) (v u : Value) (h : W.cell? p = some u) : (W.setCell p v).cell? p = some v := by
  first | exact World.cell?_setCell_same _ _ _ h | exact World.cell?_setCell_same h | exact World.cell?_setCell_same (h := h) ..
theorem sc_other (W : World) (p q : Addr) (v : Value) (h : p ≠ q) : (W.setCell p v).cell? q = W.cell? q := by
  first | exact World.cell?_setCell_other _ _ _ _ h | exact World.cell?_setCell_other _ _ _ h | exact World.cell?_setCell_other (h := h) ..
theorem ad_ne {g o g' o' : Nat} (h : g ≠ g' ∨ o ≠ o') : (⟨g, o, none⟩ : Addr) ≠ ⟨g', o', none⟩ := by
  intro e
  injection e with e1 e2
  rcases h with h | h
  · exact h e1
  · exact h e2
theorem IsLk.put {W : World} {g m : Nat} {N : Nat → Int} {S : Nat → ByteArray} (h : IsLk W g m N S) (r : Nat) (hr : r < m) (i : Int) (s : ByteArray) : IsLk ((W.setCell ⟨g, r * 2, none⟩ (.int .i64 i)).setCell ⟨g, r * 2 + 1, none⟩ (.string s)) g m (upN N r i) (upS S r s) := fun j hj => by
  have a0 := (h j hj).1
  have a1 := (h j hj).2
  unfold upN upS
  by_cases c : j = r
  · subst c
    rw [if_pos rfl, if_pos rfl]
    refine ⟨?_, ?_⟩
    · rw [sc_other _ _ _ _ (ad_ne (.inr (by omega)))]
      exact sc_same _ _ _ _ a0
    · refine sc_same _ _ _ (.string (S j)) ?_
      rw [sc_other _ _ _ _ (ad_ne (.inr (by omega)))]
      exact a1
  · rw [if_neg c, if_neg c, sc_other _ _ _ _ (ad_ne (.inr (by omega))), sc_other _ _ _ _ (ad_ne (.inr (by omega))), sc_other _ _ _ _ (ad_ne (.inr (by omega))), sc_other _ _ _ _ (ad_ne (.inr (by omega)))]
    exact ⟨a0, a1⟩
theorem IsLk.same {W : World} {g m m' : Nat} {N N' : Nat → Int} {S S' : Nat → ByteArray} (h : IsLk W g m N S) (hm : m' ≤ m) (hN : ∀ p, p < m' → N p = N' p ∧ S p = S' p) : IsLk W g m' N' S' := fun j hj => by
  rw [← (hN j hj).1, ← (hN j hj).2]
  exact h j (by omega)
section
variable {w : World} {x mf ml mc : Nat} {cp : Option Addr} {top : Int} {H : Nat → Hd} {D : Nat → Nat → Nat → Nat} {n k st : Nat} {N : Nat → Int} {S : Nat → ByteArray}
end
end Go.Proofs.YtojnlmfahgeidaaGreatDoor

namespace Go.Proofs.YtojnlmfahgeidaaGreatDoor
open Go Go.RowKit
set_option linter.unusedSimpArgs false
set_option linter.unusedVariables false
theorem wpList_append_links2 {P : Program} {ops : Array Oper} {rest : List Oper} {o : Oper} {a : Act} {w : World} {Q : Exit → Act → World → Prop} (hgd : o.guard = none) (s x : Operand) (t : TypeId)
    (ho : o.op = .call { callee := .builtin .append, args := #[s, x], argTypes := #[t, t] }) (B : Nat) (e : TypeId) (i : TypeInfo) (z : Value) (ht : P.underlying t = some (.slice e)) (hi : P.info? e = some i) (hz : i.zero = some z) (hsize : i.size = 2) (hby : i.bytes = 24) (hzs : z.cells.size = 2)
    (v : Value) (hs : a.eval s = v) (hown : w.ownsRow B e 2 v 0 []) (a1 : Option Addr) (n c : Nat) (N : Nat → Int) (S : Nat → ByteArray) (hx : a.eval x = .slice a1 n c) (hA : IsLkC w a1 n N S) (hN : a1 = none → n = 0 ∧ c = 0) (hn : n * 24 ≤ 140737488355328) (hbase : B ≤ w.heap.size)
    (h : ∀ v' w', w'.ownsRow B e 2 v' n (lkL N S n) → Below B w w' → w.grownBy w' v.ownBlock → wpList P ops Q rest (a.put o.dst v') w') : wpList P ops Q (o :: rest) a w := by
  cases a1 with
  | none =>
    obtain ⟨rfl, rfl⟩ := hN rfl
    exact wpList_append_own_none hgd s x t ho B e i 2 ht hi v 0 [] hs hown hx (h v w hown (Below.refl _ _) ⟨rfl, rfl, rfl, Nat.le_refl _, fun _ _ _ => rfl⟩)
  | some ad =>
    have hv := hown.lt
    refine wpList_append_own _ hgd s x t ho B e i z 2 24 ht hi hz hsize hby hzs (by decide) v 0 [] hs hown ad n c (lkL N S n) hx (lkL_len N S n) (fun j u hu => ?_) (lkL_mem N S n) (by unfold maxLen; omega) (by omega) hbase fun v' w' h1 h2 _ => ?_
    · obtain ⟨k, hk, hh⟩ := lkL_get N S n j u hu
      obtain ⟨b, o2, e1, _, c0, c1⟩ := hA k hk
      injection e1 with e2
      subst e2
      rcases hh with ⟨rfl, rfl⟩ | ⟨rfl, rfl⟩
      · rw [Addr.add_mid]; exact c0
      · rw [Addr.add_mid, ← Nat.add_assoc]; exact c1
    · rw [List.nil_append, Nat.zero_add] at h1
      exact h v' w' h1 ((Below.refl _ _).grown h2 hbase (fun k hk => (hv k hk).1)) h2

theorem va_lbR (N : Nat → Int) (S : Nat → ByteArray) (n : Nat) : (va (n * 2) (lbF N S)).toList = lkL N S n := by
  apply List.ext_getElem?
  intro q
  by_cases h : q < n * 2
  · rw [Array.getElem?_toList, va_at _ h]
    unfold lbF
    have := dlk_at N S n (q / 2) (by omega)
    by_cases e : q % 2 = 0
    · rw [if_pos e, ← this.1]
      congr 1
      omega
    · rw [if_neg e, ← this.2]
      congr 1
      omega
  · rw [List.getElem?_eq_none (by rw [Array.length_toList, va_size]; omega), List.getElem?_eq_none (by rw [lkL_len]; omega)]
theorem own_lbR {w : World} {B t n cap g : Nat} {N : Nat → Int} {S : Nat → ByteArray} (h : w.ownsRow B t 2 (.slice (some ⟨g, 0, none⟩) n cap) n (lkL N S n)) : ∃ tl : Array Value, Blk w g t (lbC tl n N S) ∧ tl.size = (cap - n) * 2 ∧ n ≤ cap ∧ cap ≤ maxLen ∧ B ≤ g := by
  rcases h.2 with ⟨hv, _⟩ | ⟨g', cap', cur, hv, hB, hg, hn, hm, hs, ht⟩
  · cases hv
  · cases hv
    refine ⟨(cur.toList.drop (n * 2)).toArray, ?_, ?_, hn, hm, hB⟩
    · have e : lbC (cur.toList.drop (n * 2)).toArray n N S = cur := by
        apply Array.ext'
        unfold lbC
        rw [Array.toList_append, va_lbR, ← ht]
        simp
      rw [e]
      exact hg
    · simp
      rw [hs]
      omega

theorem lb_lkC {w : World} {g t n m : Nat} {N : Nat → Int} {S : Nat → ByteArray} {tl : Array Value} (h : Blk w g t (lbC tl n N S)) (hm : m ≤ n) : IsLkC w (some ⟨g, 0, none⟩) m N S := fun i hi => ⟨g, 0, rfl, h.lt, by rw [Nat.zero_add]; exact lb_c0 h i (by omega), by rw [Nat.zero_add]; exact lb_c1 h i (by omega)⟩
theorem own_lkC {w : World} {B t n cap g : Nat} {N : Nat → Int} {S : Nat → ByteArray} (h : w.ownsRow B t 2 (.slice (some ⟨g, 0, none⟩) n cap) n (lkL N S n)) : IsLkC w (some ⟨g, 0, none⟩) n N S := by
  obtain ⟨tl, h1, _⟩ := own_lbR h
  exact lb_lkC h1 (Nat.le_refl _)
theorem lkL_snoc (N : Nat → Int) (S : Nat → ByteArray) (n : Nat) (i : Int) (s : ByteArray) : lkR (liR N S n ++ [(i, s)]) = lkL (upN N n i) (upS S n s) (n + 1) := by
  rw [← liR_cells]
  congr 1
  unfold liR
  rw [List.range_succ, List.map_append]
  congr 1
  · refine List.map_congr_left fun q hq => ?_
    have := List.mem_range.1 hq
    unfold upN upS
    rw [if_neg (by omega), if_neg (by omega)]
  · simp [upN, upS]
end Go.Proofs.YtojnlmfahgeidaaGreatDoor
