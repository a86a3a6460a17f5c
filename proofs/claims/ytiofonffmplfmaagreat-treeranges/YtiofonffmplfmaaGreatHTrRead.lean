/- Trees: trees and positions in the memory; root, beneath; a node that is read through a cache. -/
import Derived.Test.YtiofonffmplfmaaGreatHNdRefDec
import Derived.Handy
import Derived.Test.YtiofonffmplfmaaGreatHNdBlock
import Derived.Test.YtiofonffmplfmaaGreatHNdAwake
import Derived.Deep.DeepCutAuto
import Derived.Deep.Cut

namespace Go.Proofs.YtiofonffmplfmaaGreat
theorem sgLHTrRead : (∀ (α : Type) (a : α) (l r : List α), (a :: l) ++ r = a :: (l ++ r)) ∧ (∀ (α : Type) (l : List α), [] ++ l = l) ∧ (∀ (α : Type) (l : List α), l ++ [] = l) ∧ (∀ (α β : Type) (f : α → Option β) (a : α) (l : List α), (a :: l).filterMap f = match f a with | none => l.filterMap f | some b => b :: l.filterMap f) ∧ (∀ (α β : Type) (f : α → Option β), [].filterMap f = []) ∧ (∀ (α : Type) (l : List α) (i : Nat), l.toArray[i]? = l[i]?) ∧ (∀ (α : Type) (a : α) (l : List α), (a :: l)[0]? = some a) ∧ (∀ (α : Type) (a : α) (l : List α) (i : Nat), (a :: l)[i + 1]? = l[i]?) :=
  ⟨fun _ _ _ _ => List.cons_append, fun _ _ => List.nil_append _, fun _ _ => List.append_nil _, fun _ _ _ _ _ => List.filterMap_cons, fun _ _ _ => List.filterMap_nil, fun _ _ _ => List.getElem?_toArray, fun _ _ _ => List.getElem?_cons_zero, fun _ _ _ _ => List.getElem?_cons_succ⟩
theorem sgPHTrRead : (∀ (α : Type) (l : List α) (i : Nat) (a : α), l.toArray.setIfInBounds i a = (l.set i a).toArray) ∧ (∀ (α : Type) (a b : α) (l : List α), (a :: l).set 0 b = b :: l) ∧ (∀ (α : Type) (a b : α) (l : List α) (i : Nat), (a :: l).set (i + 1) b = a :: l.set i b) :=
  ⟨fun _ _ _ _ => List.setIfInBounds_toArray _ _ _, fun _ _ _ _ => List.set_cons_zero, fun _ _ _ _ _ => List.set_cons_succ⟩
end Go.Proofs.YtiofonffmplfmaaGreat
namespace Go.Proofs.YtiofonffmplfmaaGreat
open Go Go.RowKit
set_option linter.unusedSimpArgs false
set_option linter.unusedVariables false

theorem decK_lt (f : Nat → Nat) (i : Nat) : (decK f i).1 < 4294967296 := by
  unfold decK
  split
  · exact at4_lt _ _
  · decide
/-- a block with a reference that is not right is no node's -/
theorem rdOk_bad (f : Nat → Nat) (hf : ∀ i, f i < 256) (k : Nat) (hk : k < 4) (h : rOk (rawK f k) = false) : rdOk f = false := by
  cases hr : rdOk f
  · rfl
  · unfold rdOk at hr
    rw [Bool.and_eq_true, decide_eq_true_eq] at hr
    have h2 : bkSame f (nodeB (f 4) (decK f)) := fun i hi => (hr.2 i hi).symm
    have h3 := rawK_of (f 4) (hf 4) (decK f) (fun i _ => decK_ok f i) (fun i _ => decK_lt f i) f h2 k hk
    have h4 : decK f k = rf0 := by
      unfold decK
      rw [h]
      rfl
    rw [h3, h4] at h
    revert h
    decide
set_option maxRecDepth 100000 in
set_option maxHeartbeats 4000000 in
theorem refRead_by (f : Nat → Nat) (hf : ∀ i, f i < 256) (X : Array Value) (Y : Int) (HXY : Hid ((X, Y) = if rdOk f then (ndC ((f 4 : Nat) : Int) (decK f), (0 : Int)) else (ndC 0 fun _ => rf0, 70))) (w : World) : Calls Tryz.prog 77 #[bkV f] w fun e w' => e = .returned (.tuple #[.agg X, .int .i64 Y]) ∧ Below w.heap.size w w' := by
  unfold bkV
  have hz := zero_rnode
  have hzb := zero_256
  have hzr := zero_rref
  have r0 : Blk ((w.alloc (.cells (va 256 (iv .u8 f)) 49)).alloc (.cells (ndC 0 fun _ => rf0) 160)) w.heap.size 49 (va 256 (iv .u8 f)) := (Blk.new _ _ _).alloc _
  have x0 : ((w.alloc (.cells (va 256 (iv .u8 f)) 49)).alloc (.cells (ndC 0 fun _ => rf0) 160)).cell? ⟨w.heap.size, 4, none⟩ = some (.int .u8 ((f 4 : Nat) : Int)) := r0.cv (by decide)
  have HBT : Hid (Tryz.prog.built 160 [(0, .int .i64 ((f 4 : Nat) : Int))] = some (ndC ((f 4 : Nat) : Int) fun _ => rf0)) := built_rnode1 _
  have f4 := hf 4
  have e4 : ((f 4 : Nat) : Int) % 18446744073709551616 = ((f 4 : Nat) : Int) := by omega
  have b0 : Blk (((w.alloc (.cells (va 256 (iv .u8 f)) 49)).alloc (.cells (ndC 0 fun _ => rf0) 160)).alloc (.cells (ndC 0 fun _ => rf0) 160)) (w.heap.size + 2) 160 (ndC 0 fun _ => rf0) := Blk.new2 _ _ _ _ _
  have a4 : Blk ((((w.alloc (.cells (va 256 (iv .u8 f)) 49)).alloc (.cells (ndC 0 fun _ => rf0) 160)).alloc (.cells (ndC 0 fun _ => rf0) 160)).setRow (w.heap.size + 2) (ndC ((f 4 : Nat) : Int) fun _ => rf0)) w.heap.size 49 (va 256 (iv .u8 f)) := (r0.alloc _).other _ (by omega)
  have q4 : Blk ((((w.alloc (.cells (va 256 (iv .u8 f)) 49)).alloc (.cells (ndC 0 fun _ => rf0) 160)).alloc (.cells (ndC 0 fun _ => rf0) 160)).setRow (w.heap.size + 2) (ndC ((f 4 : Nat) : Int) fun _ => rf0)) (w.heap.size + 1) 160 (ndC 0 fun _ => rf0) := ((Blk.new1 _ _ _ _).alloc _).other _ (by omega)
  have b4 : Blk ((((w.alloc (.cells (va 256 (iv .u8 f)) 49)).alloc (.cells (ndC 0 fun _ => rf0) 160)).alloc (.cells (ndC 0 fun _ => rf0) 160)).setRow (w.heap.size + 2) (ndC ((f 4 : Nat) : Int) fun _ => rf0)) (w.heap.size + 2) 160 (va 133 (ndF ((f 4 : Nat) : Int) fun _ => rf0)) := b0.set _
  have hb4 : Below w.heap.size w ((((w.alloc (.cells (va 256 (iv .u8 f)) 49)).alloc (.cells (ndC 0 fun _ => rf0) 160)).alloc (.cells (ndC 0 fun _ => rf0) 160)).setRow (w.heap.size + 2) (ndC ((f 4 : Nat) : Int) fun _ => rf0)) := below_setRow (below_new3 _ _ _ _) (by omega) _
  have hs4 : ((((w.alloc (.cells (va 256 (iv .u8 f)) 49)).alloc (.cells (ndC 0 fun _ => rf0) 160)).alloc (.cells (ndC 0 fun _ => rf0) 160)).setRow (w.heap.size + 2) (ndC ((f 4 : Nat) : Int) fun _ => rf0)).heap.size = w.heap.size + 3 := by simp
  clear r0
  go_enter Tryz.func77, Tryz.ntmps77
  go_wp2_with (first
    | (refine nd_build1 (by rfl) 160 _ (by rfl) (.int .i64 ((f 4 : Nat) : Int)) (by rfl) (ndC ((f 4 : Nat) : Int) fun _ => rf0) (by exact HBT.out) ?_; simp only [Act.put, sgPHTrRead])
    | (refine wpList_store_row (by rfl) 160 _ _ (by rfl) (w.heap.size + 2) (ndC ((f 4 : Nat) : Int) fun _ => rf0) (by rfl) (by rfl) 160 (_) (by exact b0) (sizeRnode.trans (by rw [ndC_size])) (by simp only [ndC_size]) (ndC_all _ _) ?_; simp only [Act.put, sgPHTrRead])
    | fail)
  clear b0 x0 HBT
  generalize ((((w.alloc (.cells (va 256 (iv .u8 f)) 49)).alloc (.cells (ndC 0 fun _ => rf0) 160)).alloc (.cells (ndC 0 fun _ => rf0) 160)).setRow (w.heap.size + 2) (ndC ((f 4 : Nat) : Int) fun _ => rf0)) = w4 at *
  go_loopw [5] (fun i wr => ∃ k : Nat, k ≤ 4 ∧ i = .int .i64 (k : Int) ∧ Blk wr w.heap.size 49 (va 256 (iv .u8 f)) ∧ Blk wr (w.heap.size + 1) 160 (ndC 0 fun _ => rf0) ∧ Blk wr (w.heap.size + 2) 160 (va 133 (ndF ((f 4 : Nat) : Int) (upK f k))) ∧ Below w.heap.size w wr ∧ w.heap.size + 3 ≤ wr.heap.size) (fun i _ => 4 - (intOf i).toNat)
  case atStart => exact ⟨0, by omega, rfl, a4, q4, b4, hb4, by omega⟩
  case round =>
    clear a4 q4 b4 hb4 hs4
    obtain ⟨k, hk, rfl, p0, p1, p2, hb, hs⟩ := hrel
    by_cases hlt : k < 4
    · have k1 : (k : Int) < 4 := by omega
      have HD : Hid (∀ w, Calls Tryz.prog 90 #[.string (strN f 256), .int .i64 (8 + 36 * (k : Int))] w fun e w' => e = .returned (.tuple #[.agg (rfC (decK f k)), .bool (rOk (rawK f k))]) ∧ Below w.heap.size w w') := fun w => by
        have hz : (strN f 256).size = 256 := strN_size _ _
        rw [show (8 + 36 * (k : Int)) = ((8 + 36 * k : Nat) : Int) by omega]
        exact refDecR_good (strN f 256) (8 + 36 * k) (by rw [hz]; unfold maxLen; decide) (by rw [hz]; omega) w
      have HU : Hid (va 133 (over (ndF ((f 4 : Nat) : Int) (upK f k)) (1 + k * 33) (rfC (decK f k)).toList) = va 133 (ndF ((f 4 : Nat) : Int) (upK f (k + 1)))) := by
        show _ = _
        rw [nd_over _ _ k _ hlt, upK_step]
      have HBD : Hid (rOk (rawK f k) = false → rdOk f = false) := rdOk_bad f hf k hlt
      have hc := run_bytes_text (P := Tryz.prog) wr 165 5 9 Tryz.underlying165 Tryz.underlying5 Tryz.underlying9 p0 0 256 256 (by omega)
      have hx : strN (fun j => f (0 + j)) 256 = strN f 256 := strN_congr fun j _ => by rw [Nat.zero_add]
      rw [hx] at hc
      clear hx
      generalize strN f 256 = t at *
      generalize rOk (rawK f k) = b at *
      have HRS : (rfC (decK f k)).size = 33 := rfC_size _
      have HRA : Hid ((rfC (decK f k)).all (·.oneCell') = true) := rfC_all _
      generalize rfC (decK f k) = rc at *
      go_wp2_with fail
      refine (HD.out wr).mono ?_
      rintro e w5 ⟨rfl, hb5⟩
      have hs5 := hb5.size
      have c0 : Blk (w5.alloc (.cells (rfC rf0) 31)) w5.heap.size 31 (rfC rf0) := Blk.new _ _ _
      have bp : Below w5.heap.size w5 ((w5.alloc (.cells (rfC rf0) 31)).setRow w5.heap.size rc) := below_setRow (below_new1 _ _) (Nat.le_refl _) _
      have bq : Below wr.heap.size wr ((w5.alloc (.cells (rfC rf0) 31)).setRow w5.heap.size rc) := hb5.trans (bp.mono (by omega))
      have d0 : Blk ((w5.alloc (.cells (rfC rf0) 31)).setRow w5.heap.size rc) w.heap.size 49 (va 256 (iv .u8 f)) := p0.below bq (by omega)
      have d1 : Blk ((w5.alloc (.cells (rfC rf0) 31)).setRow w5.heap.size rc) (w.heap.size + 1) 160 (ndC 0 fun _ => rf0) := p1.below bq (by omega)
      have d2 : Blk ((w5.alloc (.cells (rfC rf0) 31)).setRow w5.heap.size rc) (w.heap.size + 2) 160 (va 133 (ndF ((f 4 : Nat) : Int) (upK f k))) := p2.below bq (by omega)
      have d3 : Blk ((w5.alloc (.cells (rfC rf0) 31)).setRow w5.heap.size rc) w5.heap.size 31 rc := c0.set _
      have hb6 : Below w.heap.size w ((w5.alloc (.cells (rfC rf0) 31)).setRow w5.heap.size rc) := hb.trans (bq.mono (by omega))
      have hs6 : ((w5.alloc (.cells (rfC rf0) 31)).setRow w5.heap.size rc).heap.size = w5.heap.size + 1 := by simp
      clear p0 p1 p2 hb hb5 HD hc bp bq
      cases b
      · have hxy := HXY.out
        rw [HBD.out (by first | rfl | trivial)] at hxy
        injection hxy with hx hy
        clear HXY HBD HU
        go_wp2_with (first
          | (refine wpList_store_row (by rfl) 31 _ _ (by rfl) (w5.heap.size) (rc) (by rfl) (by rfl) 31 (rfC rf0) (by exact c0) (sizeRref.trans (by rw [HRS])) (by rw [HRS, rfC_size]) (HRA.out) ?_; simp only [Act.put, sgPHTrRead])
          | (refine wpList_store_row (by rfl) 160 _ _ (by rfl) (w.heap.size + 1) (ndC 0 fun _ => rf0) (by rfl) (by rfl) 160 (_) (by exact d1) (sizeRnode.trans (by rw [ndC_size])) (by simp only [ndC_size]) (ndC_all _ _) ?_; simp only [Act.put, sgPHTrRead])
          | fail)
        try simp only [Exit.inBlock, Exit.then]
        refine bodyPost_ret (results_row2 Tryz.results77 _ _ (w.heap.size + 1) 160 (ndC 0 fun _ => rf0) (0, 0) _ rfl (d1.set _) Tryz.underlying160 rfl (sizeRnode.trans (by rw [ndC_size]))) rfl ?_
        subst hx hy
        exact ⟨rfl, below_setRow hb6 (by omega) _⟩
      · go_wp2_with (first
          | (refine wpList_store_row (by rfl) 31 _ _ (by rfl) (w5.heap.size) (rc) (by rfl) (by rfl) 31 (rfC rf0) (by exact c0) (sizeRref.trans (by rw [HRS])) (by rw [HRS, rfC_size]) (HRA.out) ?_; simp only [Act.put, sgPHTrRead])
          | (refine wpList_load_rowg (by rfl) 31 _ (by rfl) (w5.heap.size) (by rfl) 31 (rc) (0, 0) _ (by exact d3) Tryz.underlying31 (by rfl) (sizeRref.trans (by rw [HRS])) ?_; simp only [Act.put, sgPHTrRead])
          | (refine wpList_store_mid (by rfl) 31 _ _ (by rfl) (w.heap.size + 2) (1 + k * 33) rc (by rfl) (by rfl) (by exact d2.there (1 + k * 33) _ (by rw [HRS, va_size]; omega)) (sizeRref.trans (by rw [HRS])) (HRA.out) ?_; simp only [Act.put, sgPHTrRead])
          | fail)
        generalize ((w5.alloc (.cells (rfC rf0) 31)).setRow w5.heap.size rc) = w6 at *
        have g0 : Blk (w6.setCells (w.heap.size + 2) (1 + k * 33) rc.toList) w.heap.size 49 (va 256 (iv .u8 f)) := d0.cells_other (by omega) _ _ _
        have g1 : Blk (w6.setCells (w.heap.size + 2) (1 + k * 33) rc.toList) (w.heap.size + 1) 160 (ndC 0 fun _ => rf0) := d1.cells_other (by omega) _ _ _
        have g2 : Blk (w6.setCells (w.heap.size + 2) (1 + k * 33) rc.toList) (w.heap.size + 2) 160 (va 133 (ndF ((f 4 : Nat) : Int) (upK f (k + 1)))) := by
          rw [← HU.out]
          exact d2.cells_put _ _ _
        have hb7 : Below w.heap.size w (w6.setCells (w.heap.size + 2) (1 + k * 33) rc.toList) := below_setCells (by omega) _ _ _ hb6
        have hs7 : (w6.setCells (w.heap.size + 2) (1 + k * 33) rc.toList).heap.size = w6.heap.size := size_setCells _ _ _
        clear d0 d1 d2 d3 c0 hb6
        generalize (w6.setCells (w.heap.size + 2) (1 + k * 33) rc.toList) = w7 at *
        try go_wp2_with fail
        refine ⟨⟨k + 1, by omega, by simp, g0, g1, g2, hb7, by omega⟩, ?_⟩
        simp [intOf]
        try omega
    · have e : k = 4 := by omega
      subst e
      have HK : Hid (va 133 (ndF ((f 4 : Nat) : Int) (upK f 4)) = ndC ((f 4 : Nat) : Int) (decK f)) := nd_congr fun i hi => by
        unfold upK
        rw [if_pos hi]
      have c3 : Blk wr (w.heap.size + 2) 160 (ndC ((f 4 : Nat) : Int) (decK f)) := by
        rw [← HK.out]
        exact p2
      have k4 : ¬ (((4 : Nat) : Int) < 4) := by omega
      clear p2 HK
      have HB : Hid (∀ w, Calls Tryz.prog 64 #[.agg (ndC ((f 4 : Nat) : Int) (decK f))] w fun e w' => e = .returned (.tuple #[.agg (va 256 (iv .u8 (blkF ((f 4 : Nat) : Int) (decK f)))), .int .i64 (if ndOk ((f 4 : Nat) : Int) (decK f) then 0 else 1)]) ∧ Below w.heap.size w w') := refBlock_any _ _ (fun i _ => decK_ok f i) fun i _ => decK_lt f i
      have HQ : Hid (∀ W, (Op.equalIn 10000 49 (.agg (va 256 (iv .u8 (blkF ((f 4 : Nat) : Int) (decK f))))) (.agg (va 256 (iv .u8 f)))).run Tryz.prog W = .ok (decide (bkSame (blkF ((f 4 : Nat) : Int) (decK f)) f)) W) := eq_bk 49 Tryz.underlying49 _ _
      have HG : Hid (ndOk ((f 4 : Nat) : Int) (decK f) = true → blkF ((f 4 : Nat) : Int) (decK f) = nodeB (f 4) (decK f)) := fun h => by
        unfold blkF
        rw [h]
        rfl
      have HRO : Hid (rdOk f = (ndOk ((f 4 : Nat) : Int) (decK f) && decide (bkSame (nodeB (f 4) (decK f)) f))) := rfl
      generalize blkF ((f 4 : Nat) : Int) (decK f) = bf at *
      generalize hok : ndOk ((f 4 : Nat) : Int) (decK f) = ok at *
      obtain ⟨nc, hnc⟩ : ∃ nc, nc = ndC ((f 4 : Nat) : Int) (decK f) := ⟨_, rfl⟩
      have HNS : nc.size = 133 := by rw [hnc]; exact ndC_size _ _
      have HNA : Hid (nc.all (·.oneCell') = true) := by rw [hnc]; exact ndC_all _ _
      rw [← hnc] at c3 HB HXY
      clear hnc hok
      go_wp2_with (first
        | (refine wpList_load_rowg (by rfl) 160 _ (by rfl) (w.heap.size + 2) (by rfl) 160 (nc) (0, 0) _ (by exact c3) Tryz.underlying160 (by rfl) (sizeRnode.trans (by rw [HNS])) ?_; simp only [Act.put, sgPHTrRead])
        | fail)
      refine (HB.out wr).mono ?_
      rintro e w5 ⟨rfl, hb5⟩
      have hs5 := hb5.size
      have bp : Below w5.heap.size w5 ((w5.alloc (.cells (va 256 (iv .u8 fun _ => 0)) 49)).setRow w5.heap.size (va 256 (iv .u8 bf))) := below_setRow (below_new1 _ _) (Nat.le_refl _) _
      have bq : Below wr.heap.size wr ((w5.alloc (.cells (va 256 (iv .u8 fun _ => 0)) 49)).setRow w5.heap.size (va 256 (iv .u8 bf))) := hb5.trans (bp.mono (by omega))
      have d3 : Blk (w5.alloc (.cells (va 256 (iv .u8 fun _ => 0)) 49)) w5.heap.size 49 (va 256 (iv .u8 fun _ => 0)) := Blk.new _ _ _
      have g0 : Blk ((w5.alloc (.cells (va 256 (iv .u8 fun _ => 0)) 49)).setRow w5.heap.size (va 256 (iv .u8 bf))) w.heap.size 49 (va 256 (iv .u8 f)) := p0.below bq (by omega)
      have g1 : Blk ((w5.alloc (.cells (va 256 (iv .u8 fun _ => 0)) 49)).setRow w5.heap.size (va 256 (iv .u8 bf))) (w.heap.size + 1) 160 (ndC 0 fun _ => rf0) := p1.below bq (by omega)
      have g2 : Blk ((w5.alloc (.cells (va 256 (iv .u8 fun _ => 0)) 49)).setRow w5.heap.size (va 256 (iv .u8 bf))) (w.heap.size + 2) 160 nc := c3.below bq (by omega)
      have g3 : Blk ((w5.alloc (.cells (va 256 (iv .u8 fun _ => 0)) 49)).setRow w5.heap.size (va 256 (iv .u8 bf))) w5.heap.size 49 (va 256 (iv .u8 bf)) := d3.set _
      have hb7 : Below w.heap.size w ((w5.alloc (.cells (va 256 (iv .u8 fun _ => 0)) 49)).setRow w5.heap.size (va 256 (iv .u8 bf))) := hb.trans (bq.mono (by omega))
      clear p0 p1 c3 hb hb5 HB bp bq
      cases ok
      · have hxy := HXY.out
        rw [HRO.out] at hxy
        injection hxy with hx hy
        clear HXY HRO HG HQ
        go_wp2_with (first
          | (refine wpList_store_row (by rfl) 49 _ _ (by rfl) (w5.heap.size) (va 256 (iv .u8 (bf))) (by rfl) (by rfl) 49 (_) (by exact d3) (ndSize256.trans (by rw [va_size])) (by simp only [va_size]) (iv_one _ _ _) ?_; simp only [Act.put, sgPHTrRead])
          | (refine wpList_store_row (by rfl) 160 _ _ (by rfl) (w.heap.size + 1) (ndC 0 fun _ => rf0) (by rfl) (by rfl) 160 (_) (by exact g1) (sizeRnode.trans (by rw [ndC_size])) (by simp only [ndC_size]) (ndC_all _ _) ?_; simp only [Act.put, sgPHTrRead])
          | fail)
        try simp only [Exit.inBlock, Exit.then]
        refine bodyPost_ret (results_row2 Tryz.results77 _ _ (w.heap.size + 1) 160 (ndC 0 fun _ => rf0) (0, 0) _ rfl (g1.set _) Tryz.underlying160 rfl (sizeRnode.trans (by rw [ndC_size]))) rfl ?_
        subst hx hy
        exact ⟨rfl, below_setRow hb7 (by omega) _⟩
      · have hbf := HG.out rfl
        have hxy := HXY.out
        rw [HRO.out, Bool.true_and, ← hbf] at hxy
        have heq := HQ.out
        generalize decide (bkSame bf f) = c at *
        clear HXY HRO HG HQ hbf
        cases c
        · injection hxy with hx hy
          go_wp2_with (first
            | (refine wpList_store_row (by rfl) 49 _ _ (by rfl) (w5.heap.size) (va 256 (iv .u8 (bf))) (by rfl) (by rfl) 49 (_) (by exact d3) (ndSize256.trans (by rw [va_size])) (by simp only [va_size]) (iv_one _ _ _) ?_; simp only [Act.put, sgPHTrRead])
            | (refine wpList_load_rowg (by rfl) 49 _ (by rfl) (w5.heap.size) (by rfl) 49 (va 256 (iv .u8 (bf))) (0, 0) _ (by exact g3) Tryz.underlying49 (by rfl) (ndSize256.trans (by rw [va_size])) ?_; simp only [Act.put, sgPHTrRead])
            | (refine wpList_load_rowg (by rfl) 49 _ (by rfl) (w.heap.size) (by rfl) 49 (va 256 (iv .u8 (f))) (0, 0) _ (by exact g0) Tryz.underlying49 (by rfl) (ndSize256.trans (by rw [va_size])) ?_; simp only [Act.put, sgPHTrRead])
            | (refine wpList_store_row (by rfl) 160 _ _ (by rfl) (w.heap.size + 1) (ndC 0 fun _ => rf0) (by rfl) (by rfl) 160 (_) (by exact g1) (sizeRnode.trans (by rw [ndC_size])) (by simp only [ndC_size]) (ndC_all _ _) ?_; simp only [Act.put, sgPHTrRead])
            | fail)
          try simp only [Exit.inBlock, Exit.then]
          refine bodyPost_ret (results_row2 Tryz.results77 _ _ (w.heap.size + 1) 160 (ndC 0 fun _ => rf0) (0, 0) _ rfl (g1.set _) Tryz.underlying160 rfl (sizeRnode.trans (by rw [ndC_size]))) rfl ?_
          subst hx hy
          exact ⟨rfl, below_setRow hb7 (by omega) _⟩
        · injection hxy with hx hy
          go_wp2_with (first
            | (refine wpList_store_row (by rfl) 49 _ _ (by rfl) (w5.heap.size) (va 256 (iv .u8 (bf))) (by rfl) (by rfl) 49 (_) (by exact d3) (ndSize256.trans (by rw [va_size])) (by simp only [va_size]) (iv_one _ _ _) ?_; simp only [Act.put, sgPHTrRead])
            | (refine wpList_load_rowg (by rfl) 49 _ (by rfl) (w5.heap.size) (by rfl) 49 (va 256 (iv .u8 (bf))) (0, 0) _ (by exact g3) Tryz.underlying49 (by rfl) (ndSize256.trans (by rw [va_size])) ?_; simp only [Act.put, sgPHTrRead])
            | (refine wpList_load_rowg (by rfl) 49 _ (by rfl) (w.heap.size) (by rfl) 49 (va 256 (iv .u8 (f))) (0, 0) _ (by exact g0) Tryz.underlying49 (by rfl) (ndSize256.trans (by rw [va_size])) ?_; simp only [Act.put, sgPHTrRead])
            | (refine wpList_load_rowg (by rfl) 160 _ (by rfl) (w.heap.size + 2) (by rfl) 160 (nc) (0, 0) _ (by exact g2) Tryz.underlying160 (by rfl) (sizeRnode.trans (by rw [HNS])) ?_; simp only [Act.put, sgPHTrRead])
            | (refine wpList_store_row (by rfl) 160 _ _ (by rfl) (w.heap.size + 1) (nc) (by rfl) (by rfl) 160 _ (by exact g1) (sizeRnode.trans (by rw [HNS])) (by rw [HNS, ndC_size]) (HNA.out) ?_; simp only [Act.put, sgPHTrRead])
            | fail)
          try simp only [Exit.inBlock, Exit.then]
          refine bodyPost_ret (results_row2 Tryz.results77 _ _ (w.heap.size + 1) 160 (nc) (0, 0) _ rfl (g1.set _) Tryz.underlying160 rfl (sizeRnode.trans (by rw [HNS]))) rfl ?_
          subst hx hy
          exact ⟨rfl, below_setRow hb7 (by omega) _⟩
theorem refRead_any (f : Nat → Nat) (hf : ∀ i, f i < 256) (w : World) : Calls Tryz.prog 77 #[bkV f] w fun e w' => e = .returned (.tuple #[.agg (if rdOk f then ndC ((f 4 : Nat) : Int) (decK f) else ndC 0 fun _ => rf0), .int .i64 (if rdOk f then 0 else 70)]) ∧ Below w.heap.size w w' := by
  refine refRead_by f hf _ _ ?_ w
  show (_, _) = _
  cases rdOk f
  · rfl
  · rfl
end Go.Proofs.YtiofonffmplfmaaGreat

namespace Go.Proofs.YtiofonffmplfmaaGreat
open Go Go.RowKit
set_option linter.unusedSimpArgs false
set_option linter.unusedVariables false

/-- a tree's cells -/
def trF (h : Int) (R : Rf) : Nat → Value := fun i => if i = 0 then .int .i64 h else rfF R.1 R.2 (i - 1)
def trC (h : Int) (R : Rf) : Array Value := va 34 (trF h R)
/-- a position's cells -/
def poF (l p : Int) (R : Rf) : Nat → Value := fun i => if i = 0 then .int .i64 l else if i = 1 then .int .i64 p else rfF R.1 R.2 (i - 2)
def poC (l p : Int) (R : Rf) : Array Value := va 35 (poF l p R)
theorem trC_size (h : Int) (R : Rf) : (trC h R).size = 34 := va_size _ _
theorem poC_size (l p : Int) (R : Rf) : (poC l p R).size = 35 := va_size _ _
theorem trC_all (h : Int) (R : Rf) : (trC h R).all (·.oneCell') = true := va_one fun i _ => by
  unfold trF
  split
  · rfl
  · exact rfF_one _ _ _
theorem poC_all (l p : Int) (R : Rf) : (poC l p R).all (·.oneCell') = true := va_one fun i _ => by
  unfold poF
  split
  · rfl
  · split
    · rfl
    · exact rfF_one _ _ _
theorem sizeTr : (Tryz.prog.info? 45).map (·.size) = some 34 := by kernel_rfl
theorem sizePo : (Tryz.prog.info? 73).map (·.size) = some 35 := by kernel_rfl
theorem tsizeRef : (Tryz.prog.info? 43).map (·.size) = some 33 := by kernel_rfl
theorem zero_po (w : World) : (zeroValue 73).run Tryz.prog w = .ok (.agg (poC 0 0 rf0)) w := zero_of (by kernel_rfl) w
theorem built_po2 (l : Int) (R : Rf) : Tryz.prog.built 73 [(0, .int .i64 l), (2, .agg (rfC R))] = some (poC l 0 R) := by kernel_rfl
theorem built_po3 (l p : Int) (R : Rf) : Tryz.prog.built 73 [(0, .int .i64 l), (1, .int .i64 p), (2, .agg (rfC R))] = some (poC l p R) := by kernel_rfl
theorem tr_range {w : World} {b t : Nat} {h : Int} {R : Rf} (H : Blk w b t (trC h R)) : w.rangeAt b 1 ((List.range 33).map (rfF R.1 R.2)) := by
  have := Blk.range (n := 34) (f := trF h R) H 1 33 (by decide)
  rw [show ((List.range 33).map fun j => trF h R (1 + j)) = (List.range 33).map (rfF R.1 R.2) from List.map_congr_left fun j hj => ?_] at this
  · exact this
  · unfold trF
    rw [if_neg (by omega), show 1 + j - 1 = j by omega]
theorem po_range {w : World} {b t : Nat} {l p : Int} {R : Rf} (H : Blk w b t (poC l p R)) : w.rangeAt b 2 ((List.range 33).map (rfF R.1 R.2)) := by
  have := Blk.range (n := 35) (f := poF l p R) H 2 33 (by decide)
  rw [show ((List.range 33).map fun j => poF l p R (2 + j)) = (List.range 33).map (rfF R.1 R.2) from List.map_congr_left fun j hj => ?_] at this
  · exact this
  · unfold poF
    rw [if_neg (by omega), if_neg (by omega), show 2 + j - 2 = j by omega]
theorem nd_range {w : World} {b t : Nat} {l : Int} {K : Nat → Rf} (H : Blk w b t (ndC l K)) (i : Nat) (hi : i < 4) : w.rangeAt b (1 + i * 33) ((List.range 33).map (rfF (K i).1 (K i).2)) := by
  have := Blk.range (n := 133) (f := ndF l K) H (1 + i * 33) 33 (by omega)
  rw [show ((List.range 33).map fun j => ndF l K (1 + i * 33 + j)) = (List.range 33).map (rfF (K i).1 (K i).2) from List.map_congr_left fun j hj => ?_] at this
  · exact this
  · have hj := List.mem_range.1 hj
    unfold ndF kdF
    rw [if_neg (by omega), show (1 + i * 33 + j - 1) / 33 = i by omega, show (1 + i * 33 + j - 1) % 33 = j by omega]
theorem tr_build2 {P : Program} {ops : Array Oper} {rest : List Oper} {o : Oper} {a : Act} {w : World} {Q : Exit → Act → World → Prop} (hg : o.guard = none) (t : TypeId) (i j : Nat) (x y : Operand) (ho : o.op = .build t #[(i, x), (j, y)]) (vx vy : Value) (hx : a.eval x = vx) (hy : a.eval y = vy)
    (cells : Array Value) (hf : P.built t [(i, vx), (j, vy)] = some cells) (h : wpList P ops Q rest (a.put o.dst (.agg cells)) w) : wpList P ops Q (o :: rest) a w := by
  refine wpList_buildTo hg t _ ho o.dst rfl cells ?_ h
  have e : (Array.map (fun (x : Nat × Operand) => match x with | (i, x) => (i, a.eval x)) #[(i, x), (j, y)]).toList = [(i, vx), (j, vy)] := by simp [hx, hy]
  rw [e]
  exact hf
theorem tr_build3 {P : Program} {ops : Array Oper} {rest : List Oper} {o : Oper} {a : Act} {w : World} {Q : Exit → Act → World → Prop} (hg : o.guard = none) (t : TypeId) (i j k : Nat) (x y z : Operand) (ho : o.op = .build t #[(i, x), (j, y), (k, z)]) (vx vy vz : Value) (hx : a.eval x = vx) (hy : a.eval y = vy) (hz : a.eval z = vz)
    (cells : Array Value) (hf : P.built t [(i, vx), (j, vy), (k, vz)] = some cells) (h : wpList P ops Q rest (a.put o.dst (.agg cells)) w) : wpList P ops Q (o :: rest) a w := by
  refine wpList_buildTo hg t _ ho o.dst rfl cells ?_ h
  have e : (Array.map (fun (x : Nat × Operand) => match x with | (i, x) => (i, a.eval x)) #[(i, x), (j, y), (k, z)]).toList = [(i, vx), (j, vy), (k, vz)] := by simp [hx, hy, hz]
  rw [e]
  exact hf
set_option maxRecDepth 100000 in
set_option maxHeartbeats 4000000 in
theorem root_any (h : Int) (R : Rf) (w : World) : Calls Tryz.prog 29 #[.agg (trC h R)] w fun x w' => x = .returned (.agg (poC h 0 R)) ∧ Below w.heap.size w w' := by
  have hz := zero_po
  have hb1 : Below w.heap.size w ((w.alloc (.cells (trC h R) 45)).alloc (.cells (poC 0 0 rf0) 73)) := below_new2 _ _ _
  have t1 : Blk ((w.alloc (.cells (trC h R) 45)).alloc (.cells (poC 0 0 rf0) 73)) w.heap.size 45 (trC h R) := (Blk.new _ _ _).alloc _
  have p1 : Blk ((w.alloc (.cells (trC h R) 45)).alloc (.cells (poC 0 0 rf0) 73)) (w.heap.size + 1) 73 (poC 0 0 rf0) := Blk.new1 _ _ _ _
  have z1 : ((w.alloc (.cells (trC h R) 45)).alloc (.cells (poC 0 0 rf0) 73)).cell? ⟨w.heap.size, 0, none⟩ = some (.int .i64 h) := (t1.cell 0).trans (va_at (trF h R) (by decide))
  have HR : Hid (((w.alloc (.cells (trC h R) 45)).alloc (.cells (poC 0 0 rf0) 73)).rangeAt w.heap.size 1 ((List.range 33).map (rfF R.1 R.2))) := tr_range t1
  have HB : Hid (Tryz.prog.built 73 [(0, .int .i64 h), (2, .agg (rfC R))] = some (poC h 0 R)) := built_po2 h R
  go_enter Tryz.func29, Tryz.ntmps29
  go_wp2_with (first
    | (refine wpList_load_blk (by rfl) 43 _ (by rfl) (w.heap.size) (1) 33 (rfF R.1 R.2) (by rfl) _ (by exact HR.out) Tryz.underlying43 rfl tsizeRef ?_; simp only [Act.put, sgPHTrRead])
    | (refine tr_build2 (by rfl) 73 0 2 _ _ (by rfl) (.int .i64 h) (.agg (rfC R)) (by rfl) (by rfl) (poC h 0 R) (by exact HB.out) ?_; simp only [Act.put, sgPHTrRead])
    | (refine wpList_store_row (by rfl) 73 _ _ (by rfl) (w.heap.size + 1) (poC h 0 R) (by rfl) (by rfl) 73 (_) (by exact p1) (sizePo.trans (by rw [poC_size])) (by simp only [poC_size]) (poC_all _ _ _) ?_; simp only [Act.put, sgPHTrRead])
    | fail)
  try simp only [Exit.inBlock, Exit.then]
  refine bodyPost_ret (results_cell_row Tryz.results29 _ _ (w.heap.size + 1) 73 (poC h 0 R) (0, 0) _ rfl (p1.set _) Tryz.underlying73 rfl (sizePo.trans (by rw [poC_size]))) rfl ?_
  exact ⟨rfl, below_setRow hb1 (by omega) _⟩
set_option maxRecDepth 100000 in
set_option maxHeartbeats 4000000 in
theorem beneath_any (l p n : Int) (R : Rf) (K : Nat → Rf) (i : Nat) (hi : i < 4) (hl : -1000 ≤ l ∧ l ≤ 1000) (hp : 0 ≤ p ∧ p ≤ 1099511627776) (w : World) : Calls Tryz.prog 52 #[.agg (poC l p R), .agg (ndC n K), .int .i64 (i : Int)] w fun x w' => x = .returned (.agg (poC (l - 1) (p * 4 + (i : Int)) (K i))) ∧ Below w.heap.size w w' := by
  have hz := zero_po
  have hb1 : Below w.heap.size w (((w.alloc (.cells (poC l p R) 73)).alloc (.cells (ndC n K) 142)).alloc (.cells (poC 0 0 rf0) 73)) := below_new3 _ _ _ _
  have t1 : Blk (((w.alloc (.cells (poC l p R) 73)).alloc (.cells (ndC n K) 142)).alloc (.cells (poC 0 0 rf0) 73)) w.heap.size 73 (poC l p R) := ((Blk.new _ _ _).alloc _).alloc _
  have n1 : Blk (((w.alloc (.cells (poC l p R) 73)).alloc (.cells (ndC n K) 142)).alloc (.cells (poC 0 0 rf0) 73)) (w.heap.size + 1) 142 (ndC n K) := (Blk.new1 _ _ _ _).alloc _
  have p1 : Blk (((w.alloc (.cells (poC l p R) 73)).alloc (.cells (ndC n K) 142)).alloc (.cells (poC 0 0 rf0) 73)) (w.heap.size + 2) 73 (poC 0 0 rf0) := Blk.new2 _ _ _ _ _
  have HB : Hid (Tryz.prog.built 73 [(0, .int .i64 (l - 1)), (1, .int .i64 (p * 4 + (i : Int))), (2, .agg (rfC (K i)))] = some (poC (l - 1) (p * 4 + (i : Int)) (K i))) := built_po3 _ _ _
  have hS : Blk (((w.alloc (.cells (poC l p R) 73)).alloc (.cells (ndC n K) 142)).alloc (.cells (poC 0 0 rf0) 73)).drew w.heap.size 73 (poC l p R) ∧ Blk (((w.alloc (.cells (poC l p R) 73)).alloc (.cells (ndC n K) 142)).alloc (.cells (poC 0 0 rf0) 73)).drew (w.heap.size + 1) 142 (ndC n K) := ⟨t1, n1⟩
  have HRN : Hid ((((w.alloc (.cells (poC l p R) 73)).alloc (.cells (ndC n K) 142)).alloc (.cells (poC 0 0 rf0) 73)).drew.rangeAt (w.heap.size + 1) (1 + i * 33) ((List.range 33).map (rfF (K i).1 (K i).2))) := nd_range hS.2 i hi
  obtain ⟨hl1, hl2⟩ := hl
  obtain ⟨hp1, hp2⟩ := hp
  have hi1 : (i : Int) < 4 := by omega
  have hi0 : (0 : Int) ≤ (i : Int) := by omega
  go_enter Tryz.func52, Tryz.ntmps52
  go_wp2_with fail
  refine wp_region_partsS (fun W => Blk W w.heap.size 73 (poC l p R) ∧ Blk W (w.heap.size + 1) 142 (ndC n K)) [([6, 8], 0, true), ([], 1, true), ([], 2, true), ([], 3, true), ([], 4, true), ([], 5, true), ([], 7, true), ([], 9, false), ([10], 11, true), ([], 12, false)] [] [13] (by kernel_rfl) (by kernel_rfl) hS (partsI_yield ?_)
  simp only [sgLHTrRead]
  go_wp2_with fail
  refine ⟨rfl, _, .pointer (some ⟨w.heap.size, 0, none⟩), rfl, Or.inl ⟨by rfl, fun W hW => by go_simp⟩, partsI_yield ?_⟩
  simp only [Act.put, sgPHTrRead]
  simp only [sgLHTrRead]
  go_wp2_with fail
  refine ⟨rfl, _, .int .i64 l, rfl, Or.inl ⟨by rfl, fun W hW => by have hW1 : W.cell? ⟨w.heap.size, 0, none⟩ = some (.int .i64 l) := (hW.1.cell 0).trans (va_at _ (by decide)); go_simp⟩, partsI_yield ?_⟩
  simp only [Act.put, sgPHTrRead]
  simp only [sgLHTrRead]
  go_wp2_with fail
  refine ⟨rfl, _, .int .i64 (l - 1), rfl, Or.inl ⟨by rfl, fun W hW => by go_simp; rw [IntKind.wrap_i64]; omega⟩, partsI_yield ?_⟩
  simp only [Act.put, sgPHTrRead]
  simp only [sgLHTrRead]
  go_wp2_with fail
  refine ⟨rfl, _, .pointer (some ⟨w.heap.size, 1, none⟩), rfl, Or.inl ⟨by rfl, fun W hW => by go_simp⟩, partsI_yield ?_⟩
  simp only [Act.put, sgPHTrRead]
  simp only [sgLHTrRead]
  go_wp2_with fail
  refine ⟨rfl, _, .int .i64 p, rfl, Or.inl ⟨by rfl, fun W hW => by have hW1 : W.cell? ⟨w.heap.size, 1, none⟩ = some (.int .i64 p) := (hW.1.cell 1).trans (va_at _ (by decide)); go_simp⟩, partsI_yield ?_⟩
  simp only [Act.put, sgPHTrRead]
  simp only [sgLHTrRead]
  go_wp2_with fail
  refine ⟨rfl, _, .int .i64 (p * 4), rfl, Or.inl ⟨by rfl, fun W hW => by go_simp; rw [IntKind.wrap_i64]; omega⟩, partsI_yield ?_⟩
  simp only [Act.put, sgPHTrRead]
  simp only [sgLHTrRead]
  go_wp2_with fail
  refine ⟨rfl, _, .int .i64 (p * 4 + (i : Int)), rfl, Or.inl ⟨by rfl, fun W hW => by go_simp; rw [IntKind.wrap_i64]; omega⟩, partsI_force ?_⟩
  simp only [Act.put, sgPHTrRead]
  simp only [sgLHTrRead]
  go_wp2_with fail
  refine ⟨rfl, hS, partsI_yield ?_⟩
  simp only [sgLHTrRead]
  go_wp2_with fail
  refine ⟨rfl, _, .agg (rfC (K i)), rfl, kyields_load_at (by rfl) 43 _ (by rfl) (w.heap.size + 1) (1 + i * 33) 33 (rfF (K i).1 (K i).2) (by rfl) _ (fun W hW => nd_range hW.2 i hi) Tryz.underlying43 rfl tsizeRef, partsI_force ?_⟩
  simp only [Act.put, sgPHTrRead]
  simp only [sgLHTrRead]
  refine tr_build3 (by rfl) 73 0 1 2 _ _ _ (by rfl) (.int .i64 (l - 1)) (.int .i64 (p * 4 + (i : Int))) (.agg (rfC (K i))) (by rfl) (by rfl) (by rfl) (poC (l - 1) (p * 4 + (i : Int)) (K i)) (by exact HB.out) ?_
  simp only [Act.put, sgPHTrRead]
  go_wp2_with fail
  refine ⟨rfl, hS, partsI_last ?_⟩
  simp only [sgLHTrRead]
  refine wpList_store_row (by rfl) 73 _ _ (by rfl) (w.heap.size + 2) (poC (l - 1) (p * 4 + (i : Int)) (K i)) (by rfl) (by rfl) 73 _ p1.drew (sizePo.trans (by rw [poC_size])) (by simp only [poC_size]) (poC_all _ _ _) ?_
  simp only [Act.put, sgPHTrRead]
  go_wp2_with fail
  refine ⟨rfl, ?_⟩
  go_wp2_with fail
  try simp only [Exit.inBlock, Exit.then]
  refine bodyPost_ret (results_cell_row Tryz.results52 _ _ (w.heap.size + 2) 73 (poC (l - 1) (p * 4 + (i : Int)) (K i)) (0, 0) _ rfl (p1.drew.set _) Tryz.underlying73 rfl (sizePo.trans (by rw [poC_size]))) rfl ?_
  exact ⟨rfl, below_setRow hb1.drew (by omega) _⟩
end Go.Proofs.YtiofonffmplfmaaGreat
