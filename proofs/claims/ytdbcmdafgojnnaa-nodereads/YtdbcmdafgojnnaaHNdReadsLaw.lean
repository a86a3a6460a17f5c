/- The statement NodeReads: its walk. -/
import Derived.Test.YtdbcmdafgojnnaaHNdReadsKit
import Derived.Handy
import Derived.Test.YtdbcmdafgojnnaaHNdRdn3

namespace Go.Proofs.Ytdbcmdafgojnnaa
open Go Go.RowKit
set_option linter.unusedSimpArgs false
set_option linter.unusedVariables false

set_option maxRecDepth 100000 in
set_option maxHeartbeats 4000000 in
theorem nodeReads_s (f : Nat → Nat) (hf : ∀ i, f i < 256) (l : Int) (K : Nat → Rf) (hK : ∀ i, i < 4 → okD (K i).2) (hN : ∀ i, i < 4 → (K i).1 < 4294967296) (p : Nat) (hp : p < 256) (hO : ndOk l K = true) (w : World) :
    Calls Try.prog 6 #[.agg (va 256 (iv .u8 f)), .agg (ndC l K), .int .i64 (p : Int)] w fun e w' => e = .returned (.bool true) ∧ Below w.heap.size w w' := by
  have hz := zero_node
  have hzn := zero_rnode
  have hzc := zero_256
  have d0 : decide (0 ≤ (p : Int)) = true := decide_eq_true (by omega)
  have d1 : decide ((p : Int) < 256) = true := decide_eq_true (by omega)
  have d2 : (0 : Int) ≤ (p : Int) := by omega
  have d3 : (p : Int) < 256 := by omega
  have HRB : Hid (∀ w, Calls Try.prog 35 #[.agg (ndC l K)] w fun e w' => e = .returned (.tuple #[.agg (va 256 (iv .u8 (blkF l K))), .int .i64 (if ndOk l K then 0 else 1)]) ∧ Below w.heap.size w w') := refBlock_any l K hK hN
  have hcl : ∀ j, blkF l K j < 256 := fun j => by
    unfold blkF
    cases hO2 : ndOk l K
    · exact Nat.zero_lt_succ _
    · have := ndOk_level hO2
      exact nodeB_lt _ (by omega) K hK j
  rw [hO] at HRB
  simp only [Bool.false_eq_true, if_false, if_true] at HRB
  generalize blkF l K = c at *
  obtain ⟨ib, hib, hzb0, hzb1, hzb2⟩ := info_parts infoBk
  have a0 : Blk ((w.alloc (.cells (va 256 (iv .u8 f)) 60)).alloc (.cells (ndC l K) 83)) w.heap.size 60 (va 256 (iv .u8 f)) := (Blk.new _ _ _).alloc _
  have a1 : Blk ((w.alloc (.cells (va 256 (iv .u8 f)) 60)).alloc (.cells (ndC l K) 83)) (w.heap.size + 1) 83 (ndC l K) := Blk.new1 _ _ _ _
  have hb0 : Below w.heap.size w ((w.alloc (.cells (va 256 (iv .u8 f)) 60)).alloc (.cells (ndC l K) 83)) := below_new2 _ _ _
  have hs0 : ((w.alloc (.cells (va 256 (iv .u8 f)) 60)).alloc (.cells (ndC l K) 83)).heap.size = w.heap.size + 2 := by simp
  go_enter Try.func6, Try.ntmps6
  go_wp2_with (first
    | (refine wpList_load_rowg (by rfl) 83 _ (by rfl) (w.heap.size + 1) (by rfl) 83 (ndC l K) (0, 0) _ (by exact a1) Try.underlying83 (by rfl) (sizeNode.trans (by rw [ndC_size])) ?_; simp only [Act.put, List.setIfInBounds_toArray, List.set_cons_zero, List.set_cons_succ])
    | fail)
  generalize ((w.alloc (.cells (va 256 (iv .u8 f)) 60)).alloc (.cells (ndC l K) 83)) = w0 at *
  refine (ndGiven_any l K w0).mono ?_
  rintro e w1 ⟨rfl, hb1⟩
  have hs1 := hb1.size
  go_wp2_with fail
  refine (HRB.out w1).mono ?_
  rintro e w2 ⟨rfl, hb2⟩
  have hs2 := hb2.size
  have c0 : Blk (w2.alloc (.cells (va 256 (iv .u8 fun _ => 0)) 59)) w2.heap.size 59 (va 256 (iv .u8 fun _ => 0)) := Blk.new _ _ _
  have bp : Below w2.heap.size w2 ((w2.alloc (.cells (va 256 (iv .u8 fun _ => 0)) 59)).setRow w2.heap.size (va 256 (iv .u8 c))) := below_setRow (below_new1 _ _) (Nat.le_refl _) _
  have bq : Below w0.heap.size w0 ((w2.alloc (.cells (va 256 (iv .u8 fun _ => 0)) 59)).setRow w2.heap.size (va 256 (iv .u8 c))) := (hb1.trans (hb2.mono (by omega))).trans (bp.mono (by omega))
  have b0 : Blk ((w2.alloc (.cells (va 256 (iv .u8 fun _ => 0)) 59)).setRow w2.heap.size (va 256 (iv .u8 c))) w.heap.size 60 (va 256 (iv .u8 f)) := a0.below bq (by omega)
  have c1 : Blk ((w2.alloc (.cells (va 256 (iv .u8 fun _ => 0)) 59)).setRow w2.heap.size (va 256 (iv .u8 c))) w2.heap.size 59 (va 256 (iv .u8 c)) := c0.set _
  have hb3 : Below w.heap.size w ((w2.alloc (.cells (va 256 (iv .u8 fun _ => 0)) 59)).setRow w2.heap.size (va 256 (iv .u8 c))) := hb0.trans (bq.mono (by omega))
  have hs3 : ((w2.alloc (.cells (va 256 (iv .u8 fun _ => 0)) 59)).setRow w2.heap.size (va 256 (iv .u8 c))).heap.size = w2.heap.size + 1 := by simp
  clear a0 a1 hb0 hb1 hb2 HRB bp bq
  have x1 : ((w2.alloc (.cells (va 256 (iv .u8 fun _ => 0)) 59)).setRow w2.heap.size (va 256 (iv .u8 c))).cell? ⟨w2.heap.size, p, none⟩ = some (.int .u8 ((c p : Nat) : Int)) := c1.cv hp
  have f1 : ((w2.alloc (.cells (va 256 (iv .u8 fun _ => 0)) 59)).setRow w2.heap.size (va 256 (iv .u8 c))).frozen? ⟨w2.heap.size, p, none⟩ = false := c1.frozen p
  have f2 : (w2.alloc (.cells (va 256 (iv .u8 fun _ => 0)) 59)).frozen? ⟨w2.heap.size, p, none⟩ = false := c0.frozen p
  have hcp := hcl p
  have e5 : (((c p + 1) % 256 : Nat) : Int) = (((c p : Nat) : Int) + 1) % 256 := by omega
  have b1 : Blk (((w2.alloc (.cells (va 256 (iv .u8 fun _ => 0)) 59)).setRow w2.heap.size (va 256 (iv .u8 c))).setCell ⟨w2.heap.size, p, none⟩ (.int .u8 ((((c p : Nat) : Int) + 1) % 256))) w.heap.size 60 (va 256 (iv .u8 f)) := b0.put_other _ _ (by omega)
  have c2 : Blk (((w2.alloc (.cells (va 256 (iv .u8 fun _ => 0)) 59)).setRow w2.heap.size (va 256 (iv .u8 c))).setCell ⟨w2.heap.size, p, none⟩ (.int .u8 ((((c p : Nat) : Int) + 1) % 256))) w2.heap.size 59 (va 256 (iv .u8 (spoil c p))) := by
    have := c1.put p (.int .u8 ((((c p : Nat) : Int) + 1) % 256))
    rw [va_set, ← e5] at this
    rw [← e5]
    have e : va 256 (upd (iv .u8 c) p (.int .u8 (((c p + 1) % 256 : Nat) : Int))) = va 256 (iv .u8 (spoil c p)) := va_congr fun j hj => by
      unfold upd iv spoil
      by_cases h : j = p
      · rw [if_pos h, if_pos h]
      · rw [if_neg h, if_neg h]
    rw [e] at this
    exact this
  have hb4 : Below w.heap.size w (((w2.alloc (.cells (va 256 (iv .u8 fun _ => 0)) 59)).setRow w2.heap.size (va 256 (iv .u8 c))).setCell ⟨w2.heap.size, p, none⟩ (.int .u8 ((((c p : Nat) : Int) + 1) % 256))) := hb3.setCell (by show w.heap.size ≤ w2.heap.size; omega) _
  have hs4 : (((w2.alloc (.cells (va 256 (iv .u8 fun _ => 0)) 59)).setRow w2.heap.size (va 256 (iv .u8 c))).setCell ⟨w2.heap.size, p, none⟩ (.int .u8 ((((c p : Nat) : Int) + 1) % 256))).heap.size = w2.heap.size + 1 := by rw [World.size_setCell]; exact hs3
  have hCl : ∀ j, spoil c p j < 256 := fun j => by
    unfold spoil
    split
    · exact Nat.mod_lt _ (by decide)
    · exact hcl j
  have zz : Blk ((((w2.alloc (.cells (va 256 (iv .u8 fun _ => 0)) 59)).setRow w2.heap.size (va 256 (iv .u8 c))).setCell ⟨w2.heap.size, p, none⟩ (.int .u8 ((((c p : Nat) : Int) + 1) % 256))).alloc (.cells (va 256 (iv .u8 f) ++ va 256 (iv .u8 (spoil c p))) 60)) (w2.heap.size + 1) 60 (va 256 (iv .u8 f) ++ va 256 (iv .u8 (spoil c p))) := by
    have := Blk.new (((w2.alloc (.cells (va 256 (iv .u8 fun _ => 0)) 59)).setRow w2.heap.size (va 256 (iv .u8 c))).setCell ⟨w2.heap.size, p, none⟩ (.int .u8 ((((c p : Nat) : Int) + 1) % 256))) 60 (va 256 (iv .u8 f) ++ va 256 (iv .u8 (spoil c p)))
    rwa [hs4] at this
  have hbL : Below w.heap.size w ((((w2.alloc (.cells (va 256 (iv .u8 fun _ => 0)) 59)).setRow w2.heap.size (va 256 (iv .u8 c))).setCell ⟨w2.heap.size, p, none⟩ (.int .u8 ((((c p : Nat) : Int) + 1) % 256))).alloc (.cells (va 256 (iv .u8 f) ++ va 256 (iv .u8 (spoil c p))) 60)) := hb4.alloc (by rw [hs4]; omega) _
  have hsL : ((((w2.alloc (.cells (va 256 (iv .u8 fun _ => 0)) 59)).setRow w2.heap.size (va 256 (iv .u8 c))).setCell ⟨w2.heap.size, p, none⟩ (.int .u8 ((((c p : Nat) : Int) + 1) % 256))).alloc (.cells (va 256 (iv .u8 f) ++ va 256 (iv .u8 (spoil c p))) 60)).heap.size = w2.heap.size + 2 := by rw [World.size_alloc, hs4]
  have hTl : ∀ k j, twoF f (spoil c p) k j < 256 := fun k j => by
    unfold twoF
    split
    · exact hf j
    · exact hCl j
  go_wp2_with (first
    | (refine wpList_store_row (by rfl) 59 _ _ (by rfl) (w2.heap.size) (va 256 (iv .u8 (c))) (by rfl) (by rfl) 59 (_) (by exact c0) (ndSize256.trans (by rw [va_size])) (by simp only [va_size]) (iv_one _ _ _) ?_; simp only [Act.put, List.setIfInBounds_toArray, List.set_cons_zero, List.set_cons_succ])
    | (refine wpList_load_rowg (by rfl) 60 _ (by rfl) (w.heap.size) (by rfl) 60 (va 256 (iv .u8 (f))) (0, 0) _ (by exact b1) Try.underlying60 (by rfl) (sizeBk.trans (by rw [va_size])) ?_; simp only [Act.put, List.setIfInBounds_toArray, List.set_cons_zero, List.set_cons_succ])
    | (refine wpList_load_rowg (by rfl) 59 _ (by rfl) (w2.heap.size) (by rfl) 59 (va 256 (iv .u8 (spoil c p))) (0, 0) _ (by exact c2) Try.underlying59 (by rfl) (ndSize256.trans (by rw [va_size])) ?_; simp only [Act.put, List.setIfInBounds_toArray, List.set_cons_zero, List.set_cons_succ])
    | (refine nd_buildTwo (by rfl) 96 60 _ _ (by rfl) (va 256 (iv .u8 f)) (va 256 (iv .u8 (spoil c p))) (by rfl) (by rfl) ib (.agg (va 256 (iv .u8 fun _ => 0))) 256 Try.underlying96 hib hzb0 hzb1 (va_size _ _) (va_size _ _) (by decide) (by decide) ?_; simp only [Act.put, List.setIfInBounds_toArray, List.set_cons_zero, List.set_cons_succ])
    | fail)
  try rw [hs4]
  clear c0 b0 c1 hb3 hs3 x1 f1 f2 e5 hcp b1 c2 hb4 hs4
  generalize ((((w2.alloc (.cells (va 256 (iv .u8 fun _ => 0)) 59)).setRow w2.heap.size (va 256 (iv .u8 c))).setCell ⟨w2.heap.size, p, none⟩ (.int .u8 ((((c p : Nat) : Int) + 1) % 256))).alloc (.cells (va 256 (iv .u8 f) ++ va 256 (iv .u8 (spoil c p))) 60)) = wL at *
  go_loopw [10] (fun i wr => ∃ k : Nat, k ≤ 2 ∧ i = .int .i64 (k : Int) ∧ Below wL.heap.size wL wr) (fun i _ => 2 - (intOf i).toNat)
  case atStart => exact ⟨0, by omega, rfl, Below.refl _ _⟩
  case round =>
    obtain ⟨k, hk, rfl, hbx⟩ := hrel
    by_cases hlt : k < 2
    · have q1 : (k : Int) < 2 := by omega
      have q0 : (0 : Int) ≤ (k : Int) := by omega
      have hsx := hbx.size
      have HKR : Hid (wr.rangeAt (w2.heap.size + 1) (k * 256) ((List.range 256).map (iv .u8 (twoF f (spoil c p) k)))) := range_below (two_range f (spoil c p) zz k hlt) hbx (by omega)
      have HRD : Hid (∀ w, Calls Try.prog 40 #[.agg (va 256 (iv .u8 (twoF f (spoil c p) k)))] w fun e w' => e = .returned (.tuple #[.agg (ndC (rdL (twoF f (spoil c p) k)) (rdK (twoF f (spoil c p) k))), .int .i64 (if rdOk (twoF f (spoil c p) k) then 0 else 70)]) ∧ Below w.heap.size w w') := fun w => by
        have := read_any (twoF f (spoil c p) k) (hTl k) w
        rw [rd_cells] at this
        exact this
      have HRR : Hid (∀ w, Calls Try.prog 41 #[.agg (va 256 (iv .u8 (twoF f (spoil c p) k)))] w fun e w' => e = .returned (.tuple #[.agg (ndC (rdL (twoF f (spoil c p) k)) (rdK (twoF f (spoil c p) k))), .int .i64 (if rdOk (twoF f (spoil c p) k) then 0 else 70)]) ∧ Below w.heap.size w w') := fun w => by
        have := refRead_any (twoF f (spoil c p) k) (hTl k) w
        rw [rd_cells] at this
        exact this
      generalize (if rdOk (twoF f (spoil c p) k) then (0 : Int) else 70) = y2 at *
      generalize rdL (twoF f (spoil c p) k) = nl at *
      generalize rdK (twoF f (spoil c p) k) = nK at *
      have HGV : Hid (∀ w, Calls Try.prog 36 #[.agg (va 133 (ndF nl nK))] w fun e w' => e = .returned (.agg (va 133 (ndF nl nK))) ∧ Below w.heap.size w w') := ndGiven_any nl nK
      have heN : ∀ W, (Op.equalIn 10000 89 (.agg (va 133 (ndF nl nK))) (.agg (va 133 (ndF nl nK)))).run Try.prog W = .ok true W := fun W => by
        have := eq_rnode nl nl nK nK W
        rw [decide_eq_true ⟨rfl, fun _ _ => rfl⟩] at this
        exact this
      go_wp2_with (first
        | (refine wpList_load_blk (by rfl) 60 _ (by rfl) (w2.heap.size + 1) (k * 256) 256 (iv .u8 (twoF f (spoil c p) k)) (by rfl) _ (by exact HKR.out) Try.underlying60 rfl sizeBk ?_; simp only [Act.put, List.setIfInBounds_toArray, List.set_cons_zero, List.set_cons_succ])
        | fail)
      refine (HRD.out wr).mono ?_
      rintro e w5 ⟨rfl, hb5⟩
      have hs5 := hb5.size
      have c5 : Blk (w5.alloc (.cells (ndC 0 fun _ => rf0) 83)) w5.heap.size 83 (ndC 0 fun _ => rf0) := Blk.new _ _ _
      have d5 : Blk ((w5.alloc (.cells (ndC 0 fun _ => rf0) 83)).setRow w5.heap.size (ndC nl nK)) w5.heap.size 83 (va 133 (ndF nl nK)) := c5.set _
      have bp : Below w5.heap.size w5 ((w5.alloc (.cells (ndC 0 fun _ => rf0) 83)).setRow w5.heap.size (ndC nl nK)) := below_setRow (below_new1 _ _) (Nat.le_refl _) _
      have hb6 : Below wL.heap.size wL ((w5.alloc (.cells (ndC 0 fun _ => rf0) 83)).setRow w5.heap.size (ndC nl nK)) := hbx.trans ((hb5.trans (bp.mono (by omega))).mono (by omega))
      have hs6 : ((w5.alloc (.cells (ndC 0 fun _ => rf0) 83)).setRow w5.heap.size (ndC nl nK)).heap.size = w5.heap.size + 1 := by simp
      have HKR2 : Hid (((w5.alloc (.cells (ndC 0 fun _ => rf0) 83)).setRow w5.heap.size (ndC nl nK)).rangeAt (w2.heap.size + 1) (k * 256) ((List.range 256).map (iv .u8 (twoF f (spoil c p) k)))) := range_below (two_range f (spoil c p) zz k hlt) hb6 (by omega)
      clear HKR HRD bp hb5
      go_wp2_with (first
        | (refine wpList_store_row (by rfl) 83 _ _ (by rfl) (w5.heap.size) (ndC nl nK) (by rfl) (by rfl) 83 (_) (by exact c5) (sizeNode.trans (by rw [ndC_size])) (by simp only [ndC_size]) (ndC_all _ _) ?_; simp only [Act.put, List.setIfInBounds_toArray, List.set_cons_zero, List.set_cons_succ])
        | (refine wpList_load_blk (by rfl) 60 _ (by rfl) (w2.heap.size + 1) (k * 256) 256 (iv .u8 (twoF f (spoil c p) k)) (by rfl) _ (by exact HKR2.out) Try.underlying60 rfl sizeBk ?_; simp only [Act.put, List.setIfInBounds_toArray, List.set_cons_zero, List.set_cons_succ])
        | fail)
      clear c5 HKR2
      generalize ((w5.alloc (.cells (ndC 0 fun _ => rf0) 83)).setRow w5.heap.size (ndC nl nK)) = w6 at *
      refine (HRR.out w6).mono ?_
      rintro e w7 ⟨rfl, hb7⟩
      have hs7 := hb7.size
      have c7 : Blk (w7.alloc (.cells (ndC 0 fun _ => rf0) 89)) w7.heap.size 89 (ndC 0 fun _ => rf0) := Blk.new _ _ _
      have bp : Below w7.heap.size w7 ((w7.alloc (.cells (ndC 0 fun _ => rf0) 89)).setRow w7.heap.size (ndC nl nK)) := below_setRow (below_new1 _ _) (Nat.le_refl _) _
      have bq : Below w6.heap.size w6 ((w7.alloc (.cells (ndC 0 fun _ => rf0) 89)).setRow w7.heap.size (ndC nl nK)) := hb7.trans (bp.mono (by omega))
      have k0 : Blk ((w7.alloc (.cells (ndC 0 fun _ => rf0) 89)).setRow w7.heap.size (ndC nl nK)).drew w5.heap.size 83 (va 133 (ndF nl nK)) ∧ Blk ((w7.alloc (.cells (ndC 0 fun _ => rf0) 89)).setRow w7.heap.size (ndC nl nK)).drew w7.heap.size 89 (va 133 (ndF nl nK)) ∧ Below wL.heap.size wL ((w7.alloc (.cells (ndC 0 fun _ => rf0) 89)).setRow w7.heap.size (ndC nl nK)).drew := ⟨(d5.below bq (by omega)).drew, (c7.set _).drew, (hb6.trans (bq.mono (by omega))).drew⟩
      clear HRR bp bq hb7 d5 hb6
      go_wp2_with (first
        | (refine wpList_store_row (by rfl) 89 _ _ (by rfl) (w7.heap.size) (ndC nl nK) (by rfl) (by rfl) 89 (_) (by exact c7) (sizeRnode.trans (by rw [ndC_size])) (by simp only [ndC_size]) (ndC_all _ _) ?_; simp only [Act.put, List.setIfInBounds_toArray, List.set_cons_zero, List.set_cons_succ])
        | fail)
      clear c7
      generalize ((w7.alloc (.cells (ndC 0 fun _ => rf0) 89)).setRow w7.heap.size (ndC nl nK)) = w8 at *
      refine wp_region_partsS (fun W => Blk W w5.heap.size 83 (va 133 (ndF nl nK)) ∧ Blk W w7.heap.size 89 (va 133 (ndF nl nK)) ∧ Below wL.heap.size wL W) [([], 0, true), ([], 2, true), ([], 1, false), ([], 3, false), ([4, 5, 6], 7, false)] [] [8] (by kernel_rfl) (by kernel_rfl) k0 (partsI_yield ?_)
      simp only [List.cons_append, List.nil_append, List.append_nil, List.filterMap_cons, List.filterMap_nil, List.getElem?_toArray, List.getElem?_cons_zero, List.getElem?_cons_succ]
      go_wp2_with fail
      refine ⟨rfl, _, .agg (va 133 (ndF nl nK)), rfl, kyields_load (by rfl) 83 _ (by rfl) (w5.heap.size) 133 (ndF nl nK) (by rfl) _ 83 (fun W hW => hW.1) Try.underlying83 rfl sizeNode, partsI_yield ?_⟩
      simp only [Act.put, List.setIfInBounds_toArray, List.set_cons_zero, List.set_cons_succ]
      simp only [List.cons_append, List.nil_append, List.append_nil, List.filterMap_cons, List.filterMap_nil, List.getElem?_toArray, List.getElem?_cons_zero, List.getElem?_cons_succ]
      go_wp2_with fail
      refine ⟨rfl, _, .agg (va 133 (ndF nl nK)), rfl, kyields_load (by rfl) 89 _ (by rfl) (w7.heap.size) 133 (ndF nl nK) (by rfl) _ 89 (fun W hW => hW.2.1) Try.underlying89 rfl sizeRnode, partsI_force ?_⟩
      simp only [Act.put, List.setIfInBounds_toArray, List.set_cons_zero, List.set_cons_succ]
      simp only [List.cons_append, List.nil_append, List.append_nil, List.filterMap_cons, List.filterMap_nil, List.getElem?_toArray, List.getElem?_cons_zero, List.getElem?_cons_succ]
      go_wp2_with fail
      refine (HGV.out _).mono ?_
      rintro e v0 ⟨rfl, hv0⟩
      have k1 : Blk v0 w5.heap.size 83 (va 133 (ndF nl nK)) ∧ Blk v0 w7.heap.size 89 (va 133 (ndF nl nK)) ∧ Below wL.heap.size wL v0 := ⟨k0.1.below hv0 k0.1.lt, k0.2.1.below hv0 k0.2.1.lt, k0.2.2.trans (hv0.mono k0.2.2.size)⟩
      clear hv0 k0
      go_wp2_with fail
      refine ⟨rfl, k1, partsI_force ?_⟩
      simp only [List.cons_append, List.nil_append, List.append_nil, List.filterMap_cons, List.filterMap_nil, List.getElem?_toArray, List.getElem?_cons_zero, List.getElem?_cons_succ]
      go_wp2_with fail
      refine ⟨rfl, k1, partsI_force ?_⟩
      simp only [List.cons_append, List.nil_append, List.append_nil, List.filterMap_cons, List.filterMap_nil, List.getElem?_toArray, List.getElem?_cons_zero, List.getElem?_cons_succ]
      go_wp2_with fail
      refine ⟨rfl, k1, partsI_last ?_⟩
      simp only [List.cons_append, List.nil_append, List.append_nil, List.filterMap_cons, List.filterMap_nil, List.getElem?_toArray, List.getElem?_cons_zero, List.getElem?_cons_succ]
      go_wp2_with fail
      refine ⟨rfl, ?_⟩
      go_wp2_with fail
      refine ⟨⟨k + 1, by omega, by simp, k1.2.2⟩, ?_⟩
      simp [intOf]
      try omega
    · have q4 : ¬ (k : Int) < 2 := by omega
      go_wp2_with fail
      refine (awake7_any wr).mono ?_
      rintro e v9 ⟨rfl, hv⟩
      have hsx := hbx.size
      have hbf : Below w.heap.size w v9 := (hbL.trans (hbx.mono (by omega))).trans (hv.mono (by omega))
      go_wp2_with fail
      go_ret
      exact ⟨rfl, hbf⟩
end Go.Proofs.Ytdbcmdafgojnnaa

namespace Go.Proofs.Ytdbcmdafgojnnaa
open Go Go.RowKit
set_option linter.unusedSimpArgs false
set_option linter.unusedVariables false

theorem nodeReadsLaw (f : Nat → Nat) (hf : ∀ i, f i < 256) (l : Int) (K : Nat → Rf) (hK : ∀ i, i < 4 → okD (K i).2) (hN : ∀ i, i < 4 → (K i).1 < 4294967296) (i : Int) (w : World) :
    Calls Try.prog 6 #[bkV f, .agg (ndC l K), .int .i64 i] w fun e w' => e = .returned (.bool true) ∧ Below w.heap.size w w' := by
  by_cases h0 : i < 0
  · exact nodeReads_n1 f hf l K hK hN i h0 w
  · by_cases h3 : 256 ≤ i
    · exact nodeReads_n2 f hf l K hK hN i h3 w
    · obtain ⟨p, rfl⟩ : ∃ p : Nat, i = (p : Int) := ⟨i.toNat, by omega⟩
      cases hO : ndOk l K
      · exact nodeReads_n3 f hf l K hK hN p (by omega) hO w
      · exact nodeReads_s f hf l K hK hN p (by omega) hO w
end Go.Proofs.Ytdbcmdafgojnnaa
