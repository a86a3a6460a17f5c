/- The statement NodeBlocks: its walk. -/
import Derived.Test.YtdbcmdafgojnnaaHNdBlB
import Derived.Handy

namespace Go.Proofs.Ytdbcmdafgojnnaa
open Go Go.RowKit
set_option linter.unusedSimpArgs false
set_option linter.unusedVariables false

set_option maxRecDepth 100000 in
set_option maxHeartbeats 4000000 in
theorem nodeBlocks_c (l : Int) (K : Nat → Rf) (hK : ∀ i, i < 4 → okD (K i).2) (hN : ∀ i, i < 4 → (K i).1 < 4294967296) (r : Rf) (p : Nat) (hp : p < 4) (hO : rOk r = true) (w : World) :
    Calls Try.prog 5 #[.agg (ndC l K), .int .i64 (p : Int), .agg (rfC r)] w fun e w' => e = .returned (.bool true) ∧ Below w.heap.size w w' := by
  have hz := zero_node
  have hzr := zero_ref
  have hzb := zero_bk
  have hzc := zero_256
  have d0 : decide ((p : Int) < 0) = false := decide_eq_false (by omega)
  have d1 : decide (3 < (p : Int)) = false := decide_eq_false (by omega)
  have d2 : (0 : Int) ≤ (p : Int) := by omega
  have d3 : (p : Int) < 4 := by omega
  have HB : Hid (∀ w, Calls Try.prog 34 #[.agg (ndC l K)] w fun e w' => e = .returned (.tuple #[.agg (va 256 (iv .u8 (blkF l K))), .int .i64 (if ndOk l K then 0 else 1)]) ∧ Below w.heap.size w w') := block_any l K hK
  have HRB : Hid (∀ w, Calls Try.prog 35 #[.agg (ndC l K)] w fun e w' => e = .returned (.tuple #[.agg (va 256 (iv .u8 (blkF l K))), .int .i64 (if ndOk l K then 0 else 1)]) ∧ Below w.heap.size w w') := refBlock_any l K hK hN
  have HSW : Hid (∀ w, Calls Try.prog 37 #[.agg (ndC l K), .int .i64 (p : Int), .agg (rfC r)] w fun e w' => e = .returned (.tuple #[.agg (ndC l (kdSet K p r)), .int .i64 0]) ∧ Below w.heap.size w w') := fun w => by
    have := swap_in l K p hp r w
    rw [hO] at this
    exact this
  have HRR : Hid (∀ w, Calls Try.prog 33 #[.agg (rfC r)] w fun e w' => e = .returned (.bool true) ∧ Below w.heap.size w w') := fun w => by
    have := rright_any r w
    rw [hO] at this
    exact this
  have HKI : Hid (∀ w, Calls Try.prog 38 #[.agg (ndC l K)] w fun e w' => e = .returned (.int .i64 ((kcnt K 4 : Nat) : Int)) ∧ Below w.heap.size w w') := kids_any l K
  have HEM : Hid (∀ w, Calls Try.prog 39 #[.agg (ndC l K)] w fun e w' => e = .returned (.bool (decide (((kcnt K 4 : Nat) : Int) = 0))) ∧ Below w.heap.size w w') := empty_any l K
  have heF : ∀ W, (Op.equalIn 10000 60 (.agg (va 256 (iv .u8 (blkF l K)))) (.agg (va 256 (iv .u8 (blkF l K))))).run Try.prog W = .ok true W := fun W => by
    have := eq_bk 60 Try.underlying60 (blkF l K) (blkF l K) W
    rw [decide_eq_true (fun _ _ => rfl)] at this
    exact this
  have heM : ∀ W, (Op.equalIn 10000 83 (.agg (ndC l (kdSet K p r))) (.agg (ndC l (kdSet K p r)))).run Try.prog W = .ok true W := fun W => by
    have := eq_node l l (kdSet K p r) (kdSet K p r) W
    rw [decide_eq_true ⟨rfl, fun _ _ => rfl⟩] at this
    exact this
  generalize blkF l K = f at *
  generalize (if ndOk l K then (0 : Int) else 1) = y at *
  have a0 : Blk ((w.alloc (.cells (ndC l K) 83)).alloc (.cells (rfC r) 48)) w.heap.size 83 (ndC l K) := (Blk.new _ _ _).alloc _
  have a1 : Blk ((w.alloc (.cells (ndC l K) 83)).alloc (.cells (rfC r) 48)) (w.heap.size + 1) 48 (rfC r) := Blk.new1 _ _ _ _
  have hb0 : Below w.heap.size w ((w.alloc (.cells (ndC l K) 83)).alloc (.cells (rfC r) 48)) := below_new2 _ _ _
  have hs0 : ((w.alloc (.cells (ndC l K) 83)).alloc (.cells (rfC r) 48)).heap.size = w.heap.size + 2 := by simp
  go_enter Try.func5, Try.ntmps5
  go_wp2_with (first
    | (refine wpList_load_rowg (by rfl) 83 _ (by rfl) (w.heap.size) (by rfl) 83 (ndC l K) (0, 0) _ (by exact a0) Try.underlying83 (by rfl) (sizeNode.trans (by rw [ndC_size])) ?_; simp only [Act.put, List.setIfInBounds_toArray, List.set_cons_zero, List.set_cons_succ])
    | fail)
  generalize ((w.alloc (.cells (ndC l K) 83)).alloc (.cells (rfC r) 48)) = w0 at *
  refine (HB.out w0).mono ?_
  rintro e w1 ⟨rfl, hb1⟩
  have hs1 := hb1.size
  have c0 : Blk (w1.alloc (.cells (va 256 (iv .u8 fun _ => 0)) 60)) w1.heap.size 60 (va 256 (iv .u8 fun _ => 0)) := Blk.new _ _ _
  have bp := below_put (W := w1) (va 256 (iv .u8 fun _ => 0)) (va 256 (iv .u8 f)) 60
  have b0 : Blk ((w1.alloc (.cells (va 256 (iv .u8 fun _ => 0)) 60)).setRow w1.heap.size (va 256 (iv .u8 f))) w.heap.size 83 (ndC l K) := (a0.below hb1 (by omega)).below bp (by omega)
  have b1 : Blk ((w1.alloc (.cells (va 256 (iv .u8 fun _ => 0)) 60)).setRow w1.heap.size (va 256 (iv .u8 f))) (w.heap.size + 1) 48 (rfC r) := (a1.below hb1 (by omega)).below bp (by omega)
  have c1 : Blk ((w1.alloc (.cells (va 256 (iv .u8 fun _ => 0)) 60)).setRow w1.heap.size (va 256 (iv .u8 f))) w1.heap.size 60 (va 256 (iv .u8 f)) := c0.set _
  have hb2 : Below w.heap.size w ((w1.alloc (.cells (va 256 (iv .u8 fun _ => 0)) 60)).setRow w1.heap.size (va 256 (iv .u8 f))) := (hb0.trans (hb1.mono (by omega))).trans (bp.mono (by omega))
  have hs2 : ((w1.alloc (.cells (va 256 (iv .u8 fun _ => 0)) 60)).setRow w1.heap.size (va 256 (iv .u8 f))).heap.size = w1.heap.size + 1 := by simp
  clear a0 a1 hb0 hb1 HB bp
  go_wp2_with (first
    | (refine wpList_store_row (by rfl) 60 _ _ (by rfl) (w1.heap.size) (va 256 (iv .u8 (f))) (by rfl) (by rfl) 60 (_) (by exact c0) (sizeBk.trans (by rw [va_size])) (by simp only [va_size]) (iv_one _ _ _) ?_; simp only [Act.put, List.setIfInBounds_toArray, List.set_cons_zero, List.set_cons_succ])
    | (refine wpList_load_rowg (by rfl) 83 _ (by rfl) (w.heap.size) (by rfl) 83 (ndC l K) (0, 0) _ (by exact b0) Try.underlying83 (by rfl) (sizeNode.trans (by rw [ndC_size])) ?_; simp only [Act.put, List.setIfInBounds_toArray, List.set_cons_zero, List.set_cons_succ])
    | fail)
  clear c0
  generalize ((w1.alloc (.cells (va 256 (iv .u8 fun _ => 0)) 60)).setRow w1.heap.size (va 256 (iv .u8 f))) = w3 at *
  refine (ndGiven_any l K w3).mono ?_
  rintro e w4 ⟨rfl, hb3⟩
  have hs3 := hb3.size
  go_wp2_with fail
  refine (HRB.out w4).mono ?_
  rintro e w5 ⟨rfl, hb4⟩
  have hs4 := hb4.size
  have c0 : Blk (w5.alloc (.cells (va 256 (iv .u8 fun _ => 0)) 59)) w5.heap.size 59 (va 256 (iv .u8 fun _ => 0)) := Blk.new _ _ _
  have bp := below_put (W := w5) (va 256 (iv .u8 fun _ => 0)) (va 256 (iv .u8 f)) 59
  have bq : Below w3.heap.size w3 ((w5.alloc (.cells (va 256 (iv .u8 fun _ => 0)) 59)).setRow w5.heap.size (va 256 (iv .u8 f))) := (hb3.trans (hb4.mono (by omega))).trans (bp.mono (by omega))
  have HS : Hid (NB w w1.heap.size w5.heap.size l K r f ((w5.alloc (.cells (va 256 (iv .u8 fun _ => 0)) 59)).setRow w5.heap.size (va 256 (iv .u8 f)))) := ⟨b0.below bq (by omega), b1.below bq (by omega), c1.below bq (by omega), c0.set _, hb2.trans (bq.mono (by omega))⟩
  have hs7 : ((w5.alloc (.cells (va 256 (iv .u8 fun _ => 0)) 59)).setRow w5.heap.size (va 256 (iv .u8 f))).heap.size = w5.heap.size + 1 := by simp
  clear b0 b1 c1 hb2 hb3 hb4 HRB bp bq
  go_wp2_with (first
    | (refine wpList_store_row (by rfl) 59 _ _ (by rfl) (w5.heap.size) (va 256 (iv .u8 (f))) (by rfl) (by rfl) 59 (_) (by exact c0) (ndSize256.trans (by rw [va_size])) (by simp only [va_size]) (iv_one _ _ _) ?_; simp only [Act.put, List.setIfInBounds_toArray, List.set_cons_zero, List.set_cons_succ])
    | fail)
  clear c0
  generalize ((w5.alloc (.cells (va 256 (iv .u8 fun _ => 0)) 59)).setRow w5.heap.size (va 256 (iv .u8 f))) = w7 at *
  go_loopw [11, 12] (fun n i wr => ∃ k : Nat, k ≤ 4 ∧ n = .int .i64 ((kcnt K k : Nat) : Int) ∧ i = .int .i64 (k : Int) ∧ wr = w7) (fun _ i _ => 4 - (intOf i).toNat)
  case atStart => exact ⟨0, by omega, rfl, rfl, rfl⟩
  case round =>
    obtain ⟨k, hk, rfl, rfl, rfl⟩ := hrel
    by_cases hlt : k < 4
    · have k1 : (k : Int) < 4 := by omega
      have HKD : Hid (wr.rangeAt w.heap.size (1 + k * 33) ((List.range 33).map (rfF (K k).1 (K k).2))) := nd_mid l K k hlt HS.out.1
      have heq : ∀ W, (Op.equalIn 10000 48 (.agg (va 33 (rfF (K k).1 (K k).2))) (.agg (rfC rf0))).run Try.prog W = .ok (decide (K k = rf0)) W := eq_ref 9997 (K k) rf0
      have HC : Hid (kcnt K (k + 1) = kcnt K k + if K k = rf0 then 0 else 1) := rfl
      have hc := kcnt_le K k
      generalize kcnt K k = n at *
      by_cases h0 : K k = rf0
      · rw [if_pos h0] at HC
        rw [decide_eq_true h0] at heq
        clear h0
        go_wp2_with (first
          | (refine wpList_load_blk (by rfl) 48 _ (by rfl) (w.heap.size) (1 + k * 33) 33 (rfF (K k).1 (K k).2) (by rfl) _ (by exact HKD.out) Try.underlying48 rfl slSizeRef ?_; simp only [Act.put, List.setIfInBounds_toArray, List.set_cons_zero, List.set_cons_succ])
          | fail)
        refine ⟨⟨k + 1, by omega, by rw [HC.out]; simp, by simp⟩, ?_⟩
        simp [intOf]
        try omega
      · rw [if_neg h0] at HC
        rw [decide_eq_false h0] at heq
        clear h0
        go_wp2_with (first
          | (refine wpList_load_blk (by rfl) 48 _ (by rfl) (w.heap.size) (1 + k * 33) 33 (rfF (K k).1 (K k).2) (by rfl) _ (by exact HKD.out) Try.underlying48 rfl slSizeRef ?_; simp only [Act.put, List.setIfInBounds_toArray, List.set_cons_zero, List.set_cons_succ])
          | fail)
        refine ⟨⟨k + 1, by omega, by rw [HC.out]; simp, by simp⟩, ?_⟩
        simp [intOf]
        try omega
    · have e : k = 4 := by omega
      subst e
      have k4 : ¬ (((4 : Nat) : Int) < 4) := by omega
      have k0 := HS.out
      clear HS
      generalize kcnt K 4 = n at *
      obtain ⟨bz, hz1, hz3⟩ : ∃ bz : Bool, decide ((n : Int) = 0) = bz ∧ ((n : Int) == 0) = bz := ⟨decide ((n : Int) = 0), rfl, rfl⟩
      rw [hz1] at HEM
      go_wp2_with (first
        | (refine wpList_load_rowg (by rfl) 83 _ (by rfl) (w.heap.size) (by rfl) 83 (ndC l K) (0, 0) _ (by exact k0.1) Try.underlying83 (by rfl) (sizeNode.trans (by rw [ndC_size])) ?_; simp only [Act.put, List.setIfInBounds_toArray, List.set_cons_zero, List.set_cons_succ])
        | (refine wpList_load_rowg (by rfl) 48 _ (by rfl) (w.heap.size + 1) (by rfl) 48 (rfC r) (0, 0) _ (by exact k0.2.1) Try.underlying48 (by rfl) (slSizeRef.trans (by rw [rfC_size])) ?_; simp only [Act.put, List.setIfInBounds_toArray, List.set_cons_zero, List.set_cons_succ])
        | fail)
      refine (HSW.out wr).mono ?_
      rintro e w8 ⟨rfl, hv0⟩
      have k1 : NB w w1.heap.size w5.heap.size l K r f ((w8.alloc (.cells (ndC 0 fun _ => rf0) 83)).setRow w8.heap.size (ndC l (kdSet K p r))) := (k0.below hv0).below (below_put _ _ _)
      have m1 : Blk ((w8.alloc (.cells (ndC 0 fun _ => rf0) 83)).setRow w8.heap.size (ndC l (kdSet K p r))) w8.heap.size 83 (ndC l (kdSet K p r)) := (Blk.new _ _ _).set _
      have c0 : Blk (w8.alloc (.cells (ndC 0 fun _ => rf0) 83)) w8.heap.size 83 (ndC 0 fun _ => rf0) := Blk.new _ _ _
      clear hv0 k0 HSW
      go_wp2_with (first
        | (refine wpList_store_row (by rfl) 83 _ _ (by rfl) (w8.heap.size) (ndC l (kdSet K p r)) (by rfl) (by rfl) 83 (_) (by exact c0) (sizeNode.trans (by rw [ndC_size])) (by simp only [ndC_size]) (ndC_all _ _) ?_; simp only [Act.put, List.setIfInBounds_toArray, List.set_cons_zero, List.set_cons_succ])
        | fail)
      clear c0
      generalize ((w8.alloc (.cells (ndC 0 fun _ => rf0) 83)).setRow w8.heap.size (ndC l (kdSet K p r))) = w9 at *
      refine (awake7_any w9).mono ?_
      rintro e v0 ⟨rfl, hv⟩
      have k2 := k1.below hv
      have m2 := m1.below hv m1.lt
      clear hv k1 m1
      go_wp2_with (first
        | (refine wpList_load_rowg (by rfl) 60 _ (by rfl) (w1.heap.size) (by rfl) 60 (va 256 (iv .u8 (f))) (0, 0) _ (by exact k2.2.2.1) Try.underlying60 (by rfl) (sizeBk.trans (by rw [va_size])) ?_; simp only [Act.put, List.setIfInBounds_toArray, List.set_cons_zero, List.set_cons_succ])
        | (refine wpList_load_rowg (by rfl) 59 _ (by rfl) (w5.heap.size) (by rfl) 59 (va 256 (iv .u8 (f))) (0, 0) _ (by exact k2.2.2.2.1) Try.underlying59 (by rfl) (ndSize256.trans (by rw [va_size])) ?_; simp only [Act.put, List.setIfInBounds_toArray, List.set_cons_zero, List.set_cons_succ])
        | (refine wpList_load_rowg (by rfl) 83 _ (by rfl) (w.heap.size) (by rfl) 83 (ndC l K) (0, 0) _ (by exact k2.1) Try.underlying83 (by rfl) (sizeNode.trans (by rw [ndC_size])) ?_; simp only [Act.put, List.setIfInBounds_toArray, List.set_cons_zero, List.set_cons_succ])
        | fail)
      refine (HKI.out v0).mono ?_
      rintro e v1 ⟨rfl, hv⟩
      have k3 := k2.below hv
      have m3 := m2.below hv m2.lt
      clear hv k2 m2 HKI
      go_wp2_with (first
        | (refine wpList_load_rowg (by rfl) 83 _ (by rfl) (w.heap.size) (by rfl) 83 (ndC l K) (0, 0) _ (by exact k3.1) Try.underlying83 (by rfl) (sizeNode.trans (by rw [ndC_size])) ?_; simp only [Act.put, List.setIfInBounds_toArray, List.set_cons_zero, List.set_cons_succ])
        | fail)
      refine (HEM.out v1).mono ?_
      rintro e v2 ⟨rfl, hv⟩
      have k4' := k3.below hv
      have m4 := m3.below hv m3.lt
      clear hv k3 m3 HEM
      go_wp2_with (first
        | (refine wpList_load_rowg (by rfl) 48 _ (by rfl) (w.heap.size + 1) (by rfl) 48 (rfC r) (0, 0) _ (by exact k4'.2.1) Try.underlying48 (by rfl) (slSizeRef.trans (by rw [rfC_size])) ?_; simp only [Act.put, List.setIfInBounds_toArray, List.set_cons_zero, List.set_cons_succ])
        | fail)
      refine (refRef_any r v2).mono ?_
      rintro e v3 ⟨rfl, hv⟩
      have k5 := k4'.below hv
      have m5 := m4.below hv m4.lt
      clear hv k4' m4
      go_wp2_with fail
      refine (HRR.out v3).mono ?_
      rintro e v4 ⟨rfl, hv⟩
      have k6 := k5.below hv
      have m6 := m5.below hv m5.lt
      clear hv k5 m5 HRR
      have z0 : Blk (v4.alloc (.cells (ndC 0 fun _ => rf0) 83)) v4.heap.size 83 (ndC 0 fun _ => rf0) := Blk.new _ _ _
      have z1 : Blk ((v4.alloc (.cells (ndC 0 fun _ => rf0) 83)).setRow v4.heap.size (ndC l K)) v4.heap.size 83 (va 133 (ndF l K)) := z0.set _
      have k7 : NB w w1.heap.size w5.heap.size l K r f ((v4.alloc (.cells (ndC 0 fun _ => rf0) 83)).setRow v4.heap.size (ndC l K)) := k6.below (below_put _ _ _)
      have m7 : Blk ((v4.alloc (.cells (ndC 0 fun _ => rf0) 83)).setRow v4.heap.size (ndC l K)) w8.heap.size 83 (ndC l (kdSet K p r)) := m6.below (below_put _ _ _) m6.lt
      have bz : Below v4.heap.size v4 (((v4.alloc (.cells (ndC 0 fun _ => rf0) 83)).setRow v4.heap.size (ndC l K)).setCells v4.heap.size (1 + p * 33) (rfC r).toList) := below_setCells (Nat.le_refl _) _ _ _ (below_put _ _ _)
      have k8 : NB w w1.heap.size w5.heap.size l K r f (((v4.alloc (.cells (ndC 0 fun _ => rf0) 83)).setRow v4.heap.size (ndC l K)).setCells v4.heap.size (1 + p * 33) (rfC r).toList) := k6.below bz
      have m8 : Blk (((v4.alloc (.cells (ndC 0 fun _ => rf0) 83)).setRow v4.heap.size (ndC l K)).setCells v4.heap.size (1 + p * 33) (rfC r).toList) w8.heap.size 83 (ndC l (kdSet K p r)) := m6.below bz m6.lt
      have z8 : Blk (((v4.alloc (.cells (ndC 0 fun _ => rf0) 83)).setRow v4.heap.size (ndC l K)).setCells v4.heap.size (1 + p * 33) (rfC r).toList) v4.heap.size 83 (ndC l (kdSet K p r)) := by
        have := z1.cells_put (rfC r).toList (1 + p * 33)
        rw [nd_over l K p r hp] at this
        exact this
      go_wp2_with (first
        | (refine wpList_load_rowg (by rfl) 83 _ (by rfl) (w.heap.size) (by rfl) 83 (ndC l K) (0, 0) _ (by exact k6.1) Try.underlying83 (by rfl) (sizeNode.trans (by rw [ndC_size])) ?_; simp only [Act.put, List.setIfInBounds_toArray, List.set_cons_zero, List.set_cons_succ])
        | (refine wpList_store_row (by rfl) 83 _ _ (by rfl) (v4.heap.size) (ndC l K) (by rfl) (by rfl) 83 (_) (by exact z0) (sizeNode.trans (by rw [ndC_size])) (by simp only [ndC_size]) (ndC_all _ _) ?_; simp only [Act.put, List.setIfInBounds_toArray, List.set_cons_zero, List.set_cons_succ])
        | (refine wpList_load_rowg (by rfl) 48 _ (by rfl) (w.heap.size + 1) (by rfl) 48 (rfC r) (0, 0) _ (by exact k7.2.1) Try.underlying48 (by rfl) (slSizeRef.trans (by rw [rfC_size])) ?_; simp only [Act.put, List.setIfInBounds_toArray, List.set_cons_zero, List.set_cons_succ])
        | (refine wpList_store_mid (by rfl) 48 _ _ (by rfl) (v4.heap.size) (1 + p * 33) (rfC r) (by rfl) (by rfl) (by exact z1.there (1 + p * 33) _ (by rw [rfC_size, va_size]; omega)) (slSizeRef.trans (by rw [rfC_size])) (rfC_all _) ?_; simp only [Act.put, List.setIfInBounds_toArray, List.set_cons_zero, List.set_cons_succ])
        | (refine wpList_load_rowg (by rfl) 83 _ (by rfl) (w8.heap.size) (by rfl) 83 (ndC l (kdSet K p r)) (0, 0) _ (by exact m8) Try.underlying83 (by rfl) (sizeNode.trans (by rw [ndC_size])) ?_; simp only [Act.put, List.setIfInBounds_toArray, List.set_cons_zero, List.set_cons_succ])
        | (refine wpList_load_rowg (by rfl) 83 _ (by rfl) (v4.heap.size) (by rfl) 83 (ndC l (kdSet K p r)) (0, 0) _ (by exact z8) Try.underlying83 (by rfl) (sizeNode.trans (by rw [ndC_size])) ?_; simp only [Act.put, List.setIfInBounds_toArray, List.set_cons_zero, List.set_cons_succ])
        | fail)
      go_ret
      exact ⟨rfl, k8.2.2.2.2⟩
end Go.Proofs.Ytdbcmdafgojnnaa

namespace Go.Proofs.Ytdbcmdafgojnnaa
open Go Go.RowKit
set_option linter.unusedSimpArgs false
set_option linter.unusedVariables false

theorem nodeBlocksLaw (l : Int) (K : Nat → Rf) (hK : ∀ i, i < 4 → okD (K i).2) (hN : ∀ i, i < 4 → (K i).1 < 4294967296) (i : Int) (r : Rf) (w : World) :
    Calls Try.prog 5 #[.agg (ndC l K), .int .i64 i, .agg (rfC r)] w fun e w' => e = .returned (.bool true) ∧ Below w.heap.size w w' := by
  by_cases h0 : i < 0
  · exact nodeBlocks_a1 l K hK hN r i h0 w
  · by_cases h3 : 3 < i
    · exact nodeBlocks_a2 l K hK hN r i h3 w
    · obtain ⟨p, rfl⟩ : ∃ p : Nat, i = (p : Int) := ⟨i.toNat, by omega⟩
      cases hO : rOk r
      · exact nodeBlocks_b l K hK hN r p (by omega) hO w
      · exact nodeBlocks_c l K hK hN r p (by omega) hO w
end Go.Proofs.Ytdbcmdafgojnnaa
