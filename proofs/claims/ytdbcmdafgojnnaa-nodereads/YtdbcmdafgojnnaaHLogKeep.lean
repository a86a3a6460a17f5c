/- What a digest asked of one log leaves alone: another log, lists of entries, other blocks. -/
import Derived.Test.YtdbcmdafgojnnaaHNdBlock
import Derived.Handy
import Derived.Test.YtdbcmdafgojnnaaHBlkTxt
import Derived.Test.YtdbcmdafgojnnaaHBlkKit
import Derived.Test.YtdbcmdafgojnnaaHTurnsMix
import Derived.Maps.AppendAt
import Derived.Deep.RegionLaw
import Derived.WalkSmall
import Derived.Deep.Heap
import Derived.Shelf.SlMaps.Clone

namespace Go.Proofs.Ytdbcmdafgojnnaa
open Go Go.RowKit
set_option linter.unusedSimpArgs false
set_option linter.unusedVariables false

theorem nd_build_at {P : Program} {ops : Array Oper} {rest : List Oper} {o : Oper} {a : Act} {w : World} {Q : Exit → Act → World → Prop} (hw : Region.wanted o (yielded ops a.tmps) = true) (t : TypeId) (parts : Array (Nat × Operand)) (ho : o.op = .build t parts) (vals : List (Nat × Value))
    (hv : (parts.map fun (i, x) => (i, a.eval x)).toList = vals) (cells : Array Value) (hf : P.built t vals = some cells) (h : wpList P ops Q rest (a.put o.dst (.agg cells)) w) : wpList P ops Q (o :: rest) a w :=
  wpList_step fun K hK => by
    rw [if_pos hw]
    subst hv
    refine wp_build t parts ho (by rw [hf]; rfl) ?_
    rw [hf]
    exact hK _ _ h
/-- the references that stand in a block; those that are right -/
def rawK (f : Nat → Nat) : Nat → Rf := fun i => decR (strN f 256) (8 + 36 * i)
def decK (f : Nat → Nat) : Nat → Rf := fun i => if rOk (rawK f i) then rawK f i else rf0
theorem decK_ok (f : Nat → Nat) (i : Nat) : okD (decK f i).2 := by
  unfold decK
  split
  · exact decR_ok _ _
  · exact okD_zero
/-- a reference laid into a node -/
def kdSet (K : Nat → Rf) (i : Nat) (r : Rf) : Nat → Rf := fun j => if j = i then r else K j
theorem nd_over (l : Int) (K : Nat → Rf) (i : Nat) (r : Rf) (hi : i < 4) : va 133 (over (ndF l K) (1 + i * 33) (rfC r).toList) = va 133 (ndF l (kdSet K i r)) := va_congr fun j hj => by
  have hl : (rfC r).toList.length = 33 := by rw [Array.length_toList, rfC_size]
  unfold over
  rw [hl]
  by_cases h : 1 + i * 33 ≤ j ∧ j < 1 + i * 33 + 33
  · rw [if_pos h]
    obtain ⟨d, rfl⟩ : ∃ d, j = 1 + i * 33 + d := ⟨j - (1 + i * 33), by omega⟩
    rw [show 1 + i * 33 + d - (1 + i * 33) = d by omega, ndF_at l _ i d (by omega)]
    have e : kdSet K i r i = r := by
      unfold kdSet
      rw [if_pos rfl]
    rw [e]
    have := va_at (rfF r.1 r.2) (show d < 33 by omega)
    unfold rfC
    rw [List.getD_eq_getElem?_getD, Array.getElem?_toList, this]
    rfl
  · rw [if_neg h]
    unfold ndF kdF
    by_cases h0 : j = 0
    · rw [if_pos h0, if_pos h0]
    · have e : kdSet K i r ((j - 1) / 33) = K ((j - 1) / 33) := by
        unfold kdSet
        rw [if_neg (by omega)]
      rw [if_neg h0, if_neg h0, e]
/-- the first k references taken -/
def upK (f : Nat → Nat) (k : Nat) : Nat → Rf := fun i => if i < k then decK f i else rf0
theorem upK_step (f : Nat → Nat) (k : Nat) : kdSet (upK f k) k (decK f k) = upK f (k + 1) := by
  funext j
  unfold kdSet upK
  by_cases h : j = k
  · subst h
    rw [if_pos rfl, if_pos (by omega)]
  · rw [if_neg h]
    by_cases h2 : j < k
    · rw [if_pos h2, if_pos (by omega)]
    · rw [if_neg h2, if_neg (by omega)]
/-- is a block just a node's? -/
def rdOk (f : Nat → Nat) : Bool := ndOk ((f 4 : Nat) : Int) (decK f) && decide (bkSame (nodeB (f 4) (decK f)) f)
set_option maxRecDepth 100000 in
set_option maxHeartbeats 4000000 in
theorem read_by (f : Nat → Nat) (hf : ∀ i, f i < 256) (X : Array Value) (Y : Int) (HXY : Hid ((X, Y) = if rdOk f then (ndC ((f 4 : Nat) : Int) (decK f), (0 : Int)) else (ndC 0 fun _ => rf0, 70))) (w : World) : Calls Try.prog 40 #[bkV f] w fun e w' => e = .returned (.tuple #[.agg X, .int .i64 Y]) ∧ Below w.heap.size w w' := by
  have HT : Hid (∀ w, Calls Try.prog 63 #[.agg (va 256 (iv .u8 f))] w fun e w' => e = .returned (.string (strN f 256)) ∧ Below w.heap.size w w') := textOf_any f
  unfold bkV
  have hz := zero_node
  have hzb := zero_bk
  have r0 : Blk ((w.alloc (.cells (va 256 (iv .u8 f)) 60)).alloc (.cells (ndC 0 fun _ => rf0) 83)) w.heap.size 60 (va 256 (iv .u8 f)) := (Blk.new _ _ _).alloc _
  have r1 : Blk ((w.alloc (.cells (va 256 (iv .u8 f)) 60)).alloc (.cells (ndC 0 fun _ => rf0) 83)) (w.heap.size + 1) 83 (ndC 0 fun _ => rf0) := Blk.new1 _ _ _ _
  have hb : Below w.heap.size w ((w.alloc (.cells (va 256 (iv .u8 f)) 60)).alloc (.cells (ndC 0 fun _ => rf0) 83)) := below_new2 _ _ _
  have hsz : ((w.alloc (.cells (va 256 (iv .u8 f)) 60)).alloc (.cells (ndC 0 fun _ => rf0) 83)).heap.size = w.heap.size + 2 := by simp
  go_enter Try.func40, Try.ntmps40
  go_wp2_with (first
    | (refine wpList_load_rowg (by rfl) 60 _ (by rfl) (w.heap.size) (by rfl) 60 (va 256 (iv .u8 (f))) (0, 0) _ (by exact r0) Try.underlying60 (by rfl) (sizeBk.trans (by rw [va_size])) ?_; simp only [Act.put, List.setIfInBounds_toArray, List.set_cons_zero, List.set_cons_succ])
    | fail)
  generalize ((w.alloc (.cells (va 256 (iv .u8 f)) 60)).alloc (.cells (ndC 0 fun _ => rf0) 83)) = w0 at *
  refine (HT.out w0).mono ?_
  rintro e w1 ⟨rfl, hb1⟩
  have hs1 := hb1.size
  have a0 : Blk w1 w.heap.size 60 (va 256 (iv .u8 f)) := r0.below hb1 (by omega)
  have a1 : Blk w1 (w.heap.size + 1) 83 (ndC 0 fun _ => rf0) := r1.below hb1 (by omega)
  have hb2 : Below w.heap.size w w1 := hb.trans (hb1.mono (by omega))
  have x0 : w1.cell? ⟨w.heap.size, 4, none⟩ = some (.int .u8 ((f 4 : Nat) : Int)) := a0.cv (by decide)
  have hbt : Try.prog.built 83 [(0, .int .i64 ((f 4 : Nat) : Int))] = some (ndC ((f 4 : Nat) : Int) fun _ => rf0) := built_node1 _
  have HBT : Hid (Try.prog.built 83 [(0, .int .i64 ((f 4 : Nat) : Int))] = some (ndC ((f 4 : Nat) : Int) fun _ => rf0)) := hbt
  have f4 := hf 4
  have e4 : ((f 4 : Nat) : Int) % 18446744073709551616 = ((f 4 : Nat) : Int) := by omega
  clear r0 r1 hb hb1 HT hbt
  have b2 : Blk (w1.alloc (.cells (ndC 0 fun _ => rf0) 83)) w1.heap.size 83 (ndC 0 fun _ => rf0) := Blk.new _ _ _
  go_wp2_with (first
    | (refine nd_build_at (by rfl) 83 _ (by rfl) ([(0, .int .i64 ((f 4 : Nat) : Int))]) (by rfl) (ndC ((f 4 : Nat) : Int) fun _ => rf0) (by exact HBT.out) ?_; simp only [Act.put, List.setIfInBounds_toArray, List.set_cons_zero, List.set_cons_succ])
    | (refine wpList_store_row (by rfl) 83 _ _ (by rfl) (w1.heap.size) (ndC ((f 4 : Nat) : Int) fun _ => rf0) (by rfl) (by rfl) 83 (_) (by exact b2) (sizeNode.trans (by rw [ndC_size])) (by simp only [ndC_size]) (ndC_all _ _) ?_; simp only [Act.put, List.setIfInBounds_toArray, List.set_cons_zero, List.set_cons_succ])
    | fail)
  have c0 : Blk ((w1.alloc (.cells (ndC 0 fun _ => rf0) 83)).setRow w1.heap.size (ndC ((f 4 : Nat) : Int) fun _ => rf0)) w.heap.size 60 (va 256 (iv .u8 f)) := (a0.alloc _).other _ (by omega)
  have c1 : Blk ((w1.alloc (.cells (ndC 0 fun _ => rf0) 83)).setRow w1.heap.size (ndC ((f 4 : Nat) : Int) fun _ => rf0)) (w.heap.size + 1) 83 (ndC 0 fun _ => rf0) := (a1.alloc _).other _ (by omega)
  have c2 : Blk ((w1.alloc (.cells (ndC 0 fun _ => rf0) 83)).setRow w1.heap.size (ndC ((f 4 : Nat) : Int) fun _ => rf0)) w1.heap.size 83 (va 133 (ndF ((f 4 : Nat) : Int) fun _ => rf0)) := b2.set _
  have hb3 : Below w.heap.size w ((w1.alloc (.cells (ndC 0 fun _ => rf0) 83)).setRow w1.heap.size (ndC ((f 4 : Nat) : Int) fun _ => rf0)) := below_setRow (hb2.alloc (by omega) _) (by omega) _
  have hs4 : ((w1.alloc (.cells (ndC 0 fun _ => rf0) 83)).setRow w1.heap.size (ndC ((f 4 : Nat) : Int) fun _ => rf0)).heap.size = w1.heap.size + 1 := by simp
  clear a0 a1 hb2 x0 HBT b2
  generalize ((w1.alloc (.cells (ndC 0 fun _ => rf0) 83)).setRow w1.heap.size (ndC ((f 4 : Nat) : Int) fun _ => rf0)) = w4 at *
  clear h
  go_loopw [15] (fun i wr => ∃ k : Nat, k ≤ 4 ∧ i = .int .i64 (k : Int) ∧ Blk wr w.heap.size 60 (va 256 (iv .u8 f)) ∧ Blk wr (w.heap.size + 1) 83 (ndC 0 fun _ => rf0) ∧ Blk wr w1.heap.size 83 (va 133 (ndF ((f 4 : Nat) : Int) (upK f k))) ∧ Below w.heap.size w wr ∧ w1.heap.size + 1 ≤ wr.heap.size) (fun i _ => 4 - (intOf i).toNat)
  case atStart => exact ⟨0, by omega, rfl, c0, c1, c2, hb3, by omega⟩
  case round =>
    clear c0 c1 c2 hb3 hs4
    obtain ⟨k, hk, rfl, c0, c1, c2, hb, hs⟩ := hrel
    by_cases hlt : k < 4
    · have k1 : (k : Int) < 4 := by omega
      have HD : Hid (∀ w, Calls Try.prog 24 #[.string (strN f 256), .int .i64 (8 + 36 * (k : Int))] w fun e w' => e = .returned (.tuple #[.agg (rfC (decK f k)), .bool (rOk (rawK f k))]) ∧ Below w.heap.size w w') := fun w => by
        have hz : (strN f 256).size = 256 := strN_size _ _
        rw [show (8 + 36 * (k : Int)) = ((8 + 36 * k : Nat) : Int) by omega]
        exact decodeR_good (strN f 256) (8 + 36 * k) (by rw [hz]; unfold maxLen; decide) (by rw [hz]; omega) w
      have HU : Hid (va 133 (over (ndF ((f 4 : Nat) : Int) (upK f k)) (1 + k * 33) (rfC (decK f k)).toList) = va 133 (ndF ((f 4 : Nat) : Int) (upK f (k + 1)))) := by
        show _ = _
        rw [nd_over _ _ k _ hlt, upK_step]
      have e8 : (8 : Int) + (k : Int) * 36 = 8 + 36 * (k : Int) := by omega
      generalize strN f 256 = t at *
      generalize rOk (rawK f k) = b at *
      have HRS : (rfC (decK f k)).size = 33 := rfC_size _
      have HRA : Hid ((rfC (decK f k)).all (·.oneCell') = true) := rfC_all _
      generalize rfC (decK f k) = rc at *
      go_wp2_with fail
      refine (HD.out wr).mono ?_
      rintro e w5 ⟨rfl, hb5⟩
      have hs5 := hb5.size
      have d0 : Blk w5 w.heap.size 60 (va 256 (iv .u8 f)) := c0.below hb5 (by omega)
      have d1 : Blk w5 (w.heap.size + 1) 83 (ndC 0 fun _ => rf0) := c1.below hb5 (by omega)
      have d2 : Blk w5 w1.heap.size 83 (va 133 (ndF ((f 4 : Nat) : Int) (upK f k))) := c2.below hb5 (by omega)
      have hb6 : Below w.heap.size w w5 := hb.trans (hb5.mono (by omega))
      clear c0 c1 c2 hb hb5 HD
      go_wp2_with (first
        | (refine wpList_store_mid (by rfl) 48 _ _ (by rfl) (w1.heap.size) (1 + k * 33) rc (by rfl) (by rfl) (by exact d2.there (1 + k * 33) _ (by rw [HRS, va_size]; omega)) (slSizeRef.trans (by rw [HRS])) (HRA.out) ?_; simp only [Act.put, List.setIfInBounds_toArray, List.set_cons_zero, List.set_cons_succ])
        | fail)
      have g0 : Blk (w5.setCells w1.heap.size (1 + k * 33) rc.toList) w.heap.size 60 (va 256 (iv .u8 f)) := d0.cells_other (by omega) _ _ _
      have g1 : Blk (w5.setCells w1.heap.size (1 + k * 33) rc.toList) (w.heap.size + 1) 83 (ndC 0 fun _ => rf0) := d1.cells_other (by omega) _ _ _
      have g2 : Blk (w5.setCells w1.heap.size (1 + k * 33) rc.toList) w1.heap.size 83 (va 133 (ndF ((f 4 : Nat) : Int) (upK f (k + 1)))) := by
        rw [← HU.out]
        exact d2.cells_put _ _ _
      have hb7 : Below w.heap.size w (w5.setCells w1.heap.size (1 + k * 33) rc.toList) := below_setCells (by omega) _ _ _ hb6
      have hs7 : (w5.setCells w1.heap.size (1 + k * 33) rc.toList).heap.size = w5.heap.size := size_setCells _ _ _
      clear d0 d1 d2 hb6
      generalize (w5.setCells w1.heap.size (1 + k * 33) rc.toList) = w6 at *
      go_wp2_with fail
      go_roundw
      case rel => exact ⟨k + 1, by omega, by simp, g0, g1, g2, hb7, by omega⟩
      case measure => simp [intOf]; omega
    · have e : k = 4 := by omega
      subst e
      have HK : Hid (va 133 (ndF ((f 4 : Nat) : Int) (upK f 4)) = ndC ((f 4 : Nat) : Int) (decK f)) := nd_congr fun i hi => by
        unfold upK
        rw [if_pos hi]
      have c3 : Blk wr w1.heap.size 83 (ndC ((f 4 : Nat) : Int) (decK f)) := by
        rw [← HK.out]
        exact c2
      clear c2 HK
      have HB : Hid (∀ w, Calls Try.prog 34 #[.agg (ndC ((f 4 : Nat) : Int) (decK f))] w fun e w' => e = .returned (.tuple #[.agg (va 256 (iv .u8 (blkF ((f 4 : Nat) : Int) (decK f)))), .int .i64 (if ndOk ((f 4 : Nat) : Int) (decK f) then 0 else 1)]) ∧ Below w.heap.size w w') := block_any _ _ fun i _ => decK_ok f i
      have HQ : Hid (∀ W, (Op.equalIn 10000 60 (.agg (va 256 (iv .u8 (blkF ((f 4 : Nat) : Int) (decK f))))) (.agg (va 256 (iv .u8 f)))).run Try.prog W = .ok (decide (bkSame (blkF ((f 4 : Nat) : Int) (decK f)) f)) W) := eq_bk 60 Try.underlying60 _ _
      have HG : Hid (ndOk ((f 4 : Nat) : Int) (decK f) = true → blkF ((f 4 : Nat) : Int) (decK f) = nodeB (f 4) (decK f)) := fun h => by
        unfold blkF
        rw [h]
        rfl
      have HRO : Hid (rdOk f = (ndOk ((f 4 : Nat) : Int) (decK f) && decide (bkSame (nodeB (f 4) (decK f)) f))) := rfl
      generalize blkF ((f 4 : Nat) : Int) (decK f) = bf at *
      generalize hok : ndOk ((f 4 : Nat) : Int) (decK f) = ok at *
      obtain ⟨nc, hnc⟩ : ∃ nc, nc = ndC ((f 4 : Nat) : Int) (decK f) := ⟨_, rfl⟩
      have HNS : nc.size = 133 := by rw [hnc]; exact ndC_size _ _
      have HNA : Hid (nc.all (·.oneCell') = true) := by rw [hnc]; exact ndC_all _ _
      rw [← hnc] at c3 HB HXY
      clear hnc hok
      go_wp2_with (first
        | (refine wpList_load_rowg (by rfl) 83 _ (by rfl) (w1.heap.size) (by rfl) 83 (nc) (0, 0) _ (by exact c3) Try.underlying83 (by rfl) (sizeNode.trans (by rw [HNS])) ?_; simp only [Act.put, List.setIfInBounds_toArray, List.set_cons_zero, List.set_cons_succ])
        | fail)
      refine (HB.out wr).mono ?_
      rintro e w5 ⟨rfl, hb5⟩
      have hs5 := hb5.size
      have d0 : Blk (w5.alloc (.cells (va 256 (iv .u8 fun _ => 0)) 60)) w.heap.size 60 (va 256 (iv .u8 f)) := (c0.below hb5 (by omega)).alloc _
      have d1 : Blk (w5.alloc (.cells (va 256 (iv .u8 fun _ => 0)) 60)) (w.heap.size + 1) 83 (ndC 0 fun _ => rf0) := (c1.below hb5 (by omega)).alloc _
      have d2 : Blk (w5.alloc (.cells (va 256 (iv .u8 fun _ => 0)) 60)) w1.heap.size 83 nc := (c3.below hb5 (by omega)).alloc _
      have d3 : Blk (w5.alloc (.cells (va 256 (iv .u8 fun _ => 0)) 60)) w5.heap.size 60 (va 256 (iv .u8 fun _ => 0)) := Blk.new _ _ _
      have hb6 : Below w.heap.size w (w5.alloc (.cells (va 256 (iv .u8 fun _ => 0)) 60)) := (hb.trans (hb5.mono (by omega))).alloc (by omega) _
      clear c0 c1 c3 hb hb5 HB
      cases ok
      · have hxy := HXY.out
        rw [HRO.out] at hxy
        injection hxy with hx hy
        clear HXY HRO HG HQ
        go_wp2_with (first
          | (refine wpList_store_row (by rfl) 60 _ _ (by rfl) (w5.heap.size) (va 256 (iv .u8 (bf))) (by rfl) (by rfl) 60 (_) (by exact d3) (sizeBk.trans (by rw [va_size])) (by simp only [va_size]) (iv_one _ _ _) ?_; simp only [Act.put, List.setIfInBounds_toArray, List.set_cons_zero, List.set_cons_succ])
          | (refine wpList_store_row (by rfl) 83 _ _ (by rfl) (w.heap.size + 1) (ndC 0 fun _ => rf0) (by rfl) (by rfl) 83 _ (by exact d1.other _ (by omega)) (sizeNode.trans (by rw [ndC_size])) (by simp only [ndC_size]) (ndC_all _ _) ?_; simp only [Act.put, List.setIfInBounds_toArray, List.set_cons_zero, List.set_cons_succ])
          | fail)
        try simp only [Exit.inBlock, Exit.then]
        refine bodyPost_ret (results_row2 Try.results40 _ _ (w.heap.size + 1) 83 (ndC 0 fun _ => rf0) (0, 0) _ rfl ((d1.other _ (by omega)).set _) Try.underlying83 rfl (sizeNode.trans (by rw [ndC_size]))) rfl ?_
        subst hx hy
        exact ⟨rfl, below_setRow (below_setRow hb6 (by omega) _) (by omega) _⟩
      · have hbf := HG.out rfl
        have hxy := HXY.out
        rw [HRO.out, Bool.true_and, ← hbf] at hxy
        have heq := HQ.out
        generalize decide (bkSame bf f) = c at *
        clear HXY HRO HG HQ hbf
        have g0 : Blk ((w5.alloc (.cells (va 256 (iv .u8 fun _ => 0)) 60)).setRow w5.heap.size (va 256 (iv .u8 bf))) w.heap.size 60 (va 256 (iv .u8 f)) := d0.other _ (by omega)
        have g1 : Blk ((w5.alloc (.cells (va 256 (iv .u8 fun _ => 0)) 60)).setRow w5.heap.size (va 256 (iv .u8 bf))) (w.heap.size + 1) 83 (ndC 0 fun _ => rf0) := d1.other _ (by omega)
        have g2 : Blk ((w5.alloc (.cells (va 256 (iv .u8 fun _ => 0)) 60)).setRow w5.heap.size (va 256 (iv .u8 bf))) w1.heap.size 83 nc := d2.other _ (by omega)
        have g3 : Blk ((w5.alloc (.cells (va 256 (iv .u8 fun _ => 0)) 60)).setRow w5.heap.size (va 256 (iv .u8 bf))) w5.heap.size 60 (va 256 (iv .u8 bf)) := d3.set _
        have hb7 : Below w.heap.size w ((w5.alloc (.cells (va 256 (iv .u8 fun _ => 0)) 60)).setRow w5.heap.size (va 256 (iv .u8 bf))) := below_setRow hb6 (by omega) _
        cases c
        · injection hxy with hx hy
          go_wp2_with (first
            | (refine wpList_store_row (by rfl) 60 _ _ (by rfl) (w5.heap.size) (va 256 (iv .u8 (bf))) (by rfl) (by rfl) 60 (_) (by exact d3) (sizeBk.trans (by rw [va_size])) (by simp only [va_size]) (iv_one _ _ _) ?_; simp only [Act.put, List.setIfInBounds_toArray, List.set_cons_zero, List.set_cons_succ])
            | (refine wpList_load_rowg (by rfl) 60 _ (by rfl) (w5.heap.size) (by rfl) 60 (va 256 (iv .u8 (bf))) (0, 0) _ (by exact g3) Try.underlying60 (by rfl) (sizeBk.trans (by rw [va_size])) ?_; simp only [Act.put, List.setIfInBounds_toArray, List.set_cons_zero, List.set_cons_succ])
            | (refine wpList_load_rowg (by rfl) 60 _ (by rfl) (w.heap.size) (by rfl) 60 (va 256 (iv .u8 (f))) (0, 0) _ (by exact g0) Try.underlying60 (by rfl) (sizeBk.trans (by rw [va_size])) ?_; simp only [Act.put, List.setIfInBounds_toArray, List.set_cons_zero, List.set_cons_succ])
            | (refine wpList_store_row (by rfl) 83 _ _ (by rfl) (w.heap.size + 1) (ndC 0 fun _ => rf0) (by rfl) (by rfl) 83 (_) (by exact g1) (sizeNode.trans (by rw [ndC_size])) (by simp only [ndC_size]) (ndC_all _ _) ?_; simp only [Act.put, List.setIfInBounds_toArray, List.set_cons_zero, List.set_cons_succ])
            | fail)
          try simp only [Exit.inBlock, Exit.then]
          refine bodyPost_ret (results_row2 Try.results40 _ _ (w.heap.size + 1) 83 (ndC 0 fun _ => rf0) (0, 0) _ rfl (g1.set _) Try.underlying83 rfl (sizeNode.trans (by rw [ndC_size]))) rfl ?_
          subst hx hy
          exact ⟨rfl, below_setRow hb7 (by omega) _⟩
        · injection hxy with hx hy
          go_wp2_with (first
            | (refine wpList_store_row (by rfl) 60 _ _ (by rfl) (w5.heap.size) (va 256 (iv .u8 (bf))) (by rfl) (by rfl) 60 (_) (by exact d3) (sizeBk.trans (by rw [va_size])) (by simp only [va_size]) (iv_one _ _ _) ?_; simp only [Act.put, List.setIfInBounds_toArray, List.set_cons_zero, List.set_cons_succ])
            | (refine wpList_load_rowg (by rfl) 60 _ (by rfl) (w5.heap.size) (by rfl) 60 (va 256 (iv .u8 (bf))) (0, 0) _ (by exact g3) Try.underlying60 (by rfl) (sizeBk.trans (by rw [va_size])) ?_; simp only [Act.put, List.setIfInBounds_toArray, List.set_cons_zero, List.set_cons_succ])
            | (refine wpList_load_rowg (by rfl) 60 _ (by rfl) (w.heap.size) (by rfl) 60 (va 256 (iv .u8 (f))) (0, 0) _ (by exact g0) Try.underlying60 (by rfl) (sizeBk.trans (by rw [va_size])) ?_; simp only [Act.put, List.setIfInBounds_toArray, List.set_cons_zero, List.set_cons_succ])
            | (refine wpList_load_rowg (by rfl) 83 _ (by rfl) (w1.heap.size) (by rfl) 83 (nc) (0, 0) _ (by exact g2) Try.underlying83 (by rfl) (sizeNode.trans (by rw [HNS])) ?_; simp only [Act.put, List.setIfInBounds_toArray, List.set_cons_zero, List.set_cons_succ])
            | (refine wpList_store_row (by rfl) 83 _ _ (by rfl) (w.heap.size + 1) (nc) (by rfl) (by rfl) 83 _ (by exact g1) (sizeNode.trans (by rw [HNS])) (by rw [HNS, ndC_size]) (HNA.out) ?_; simp only [Act.put, List.setIfInBounds_toArray, List.set_cons_zero, List.set_cons_succ])
            | fail)
          try simp only [Exit.inBlock, Exit.then]
          refine bodyPost_ret (results_row2 Try.results40 _ _ (w.heap.size + 1) 83 (nc) (0, 0) _ rfl (g1.set _) Try.underlying83 rfl (sizeNode.trans (by rw [HNS]))) rfl ?_
          subst hx hy
          exact ⟨rfl, below_setRow hb7 (by omega) _⟩
theorem read_any (f : Nat → Nat) (hf : ∀ i, f i < 256) (w : World) : Calls Try.prog 40 #[bkV f] w fun e w' => e = .returned (.tuple #[.agg (if rdOk f then ndC ((f 4 : Nat) : Int) (decK f) else ndC 0 fun _ => rf0), .int .i64 (if rdOk f then 0 else 70)]) ∧ Below w.heap.size w w' := by
  refine read_by f hf _ _ ?_ w
  show (_, _) = _
  cases rdOk f
  · rfl
  · rfl
end Go.Proofs.Ytdbcmdafgojnnaa

namespace Go.Proofs.Ytdbcmdafgojnnaa
open Go Go.RowKit
set_option linter.unusedSimpArgs false
set_option linter.unusedVariables false

/-- a block, as a plain thing -/
def blkD (f : Nat → Nat) : Vector Nat 256 := Vector.ofFn fun i : Fin 256 => f i.1
def vF (d : Vector Nat 256) : Nat → Nat := fun i => (d[i]?).getD 0
def bK (d : Vector Nat 256) : Value := .agg (va 256 (iv .u8 (vF d)))
theorem vF_blkD (f : Nat → Nat) : va 256 (iv .u8 (vF (blkD f))) = va 256 (iv .u8 f) := va_congr fun i hi => by
  unfold iv vF blkD
  congr 2
  simp [hi]
theorem bK_blkD (f : Nat → Nat) : bK (blkD f) = .agg (va 256 (iv .u8 f)) := by
  unfold bK
  rw [vF_blkD]
theorem vF_inj {a b : Vector Nat 256} (h : bkSame (vF a) (vF b)) : a = b := by
  apply Vector.ext
  intro i hi
  have := h i hi
  unfold vF at this
  simpa [hi] using this
theorem blkD_same (f g : Nat → Nat) : blkD f = blkD g ↔ bkSame f g := by
  constructor
  · intro h i hi
    have := congrArg (fun d : Vector Nat 256 => vF d i) h
    simp only [vF, blkD] at this
    simpa [hi] using this
  · intro h
    refine vF_inj fun i hi => ?_
    simp only [vF, blkD]
    simpa [hi] using h i hi
theorem chk_blk (d : Nat) (e : Bool) (f : Nat → Nat) (w : World) : (Instr.checkKey e (d + 1 + 1) 60 (.agg (va 256 (iv .u8 f)))).run Try.prog w = .ok () w := by
  have hc := size_u8 w
  have h1 : ∀ x : Int, (Instr.checkKey e (d + 1) 5 (.int .u8 x)).run Try.prog w = .ok () w := fun x => by simp [Instr.checkKey, run_underlying Try.underlying5]
  have p1 : ∀ i, i < 256 → (part 5 (va 256 (iv .u8 f)) (i * 1)).run Try.prog w = .ok (.int .u8 ((f i : Nat) : Int)) w := fun i hi => by
    have := va_at (iv .u8 f) hi
    simp [part, isAgg, run_underlying Try.underlying5, this]
    rfl
  generalize va 256 (iv .u8 f) = cs at *
  rw [Instr.checkKey]
  simp only [Sem.run_bind, run_underlying Try.underlying60, Result.andThen_ok]
  have key : ∀ l : List Nat, (∀ i ∈ l, i < 256) → Sem.run Try.prog (forIn l PUnit.unit fun i __s => do
      let __do_lift ← sizeOf 5
      let __do_lift ← part 5 cs (i * __do_lift)
      Instr.checkKey e (d + 1) 5 __do_lift
      pure (ForInStep.yield PUnit.unit)) w = .ok PUnit.unit w := by
    intro l
    induction l with
    | nil => intro _; simp
    | cons i l ih =>
      intro h
      simp only [List.forIn_cons, Sem.run_bind, hc, Result.andThen_ok, p1 i (h i (by simp)), h1, Sem.run_pure]
      exact ih fun j hj => h j (by simp [hj])
  simp only [Std.Legacy.Range.forIn_eq_forIn_range']
  rw [key _ (fun i hi => by simpa using hi)]
  rfl
set_option maxRecDepth 100000 in
theorem blk_key : KeyOf Try.prog 60 bK where
  desc := ⟨_, Try.underlying60, (fun k h => by cases h), (fun h => by cases h), (fun h => by cases h)⟩
  eq a b w := by
    have := eq_bk 60 Try.underlying60 (vF a) (vF b) w
    refine Eq.trans this ?_
    congr 1
    by_cases h : a = b
    · subst h
      rw [decide_eq_true (fun _ _ => rfl), decide_eq_true rfl]
    · rw [decide_eq_false h, decide_eq_false fun q => h (vF_inj q)]
  chk e a w := chk_blk 9998 e (vF a) w
end Go.Proofs.Ytdbcmdafgojnnaa

namespace Go.Proofs.Ytdbcmdafgojnnaa
open Go Go.RowKit
set_option linter.unusedVariables false
set_option linter.unusedSimpArgs false

section
variable {α : Type} [DecidableEq α]
/-- no like one stands ahead of place i -/
def isNew (D : Nat → α) (i : Nat) : Bool := (List.range i).all fun x => decide (D x ≠ D i)
theorem isNew_iff (D : Nat → α) (i : Nat) : isNew D i = true ↔ ∀ x, x < i → D x ≠ D i := by
  unfold isNew
  simp [List.all_eq_true]
/-- the first places, in their order -/
def firstsOf (D : Nat → α) (k : Nat) : List Nat := (List.range k).filter (isNew D)
/-- the places below k that are like place i -/
def grpOf (D : Nat → α) (k i : Nat) : List Nat := (List.range k).filter fun x => decide (D x = D i)
theorem firstsOf_succ (D : Nat → α) (k : Nat) : firstsOf D (k + 1) = if isNew D k then firstsOf D k ++ [k] else firstsOf D k := by
  unfold firstsOf
  rw [List.range_succ, List.filter_append]
  by_cases h : isNew D k = true
  · simp [h]
  · simp [h]
theorem grpOf_succ (D : Nat → α) (k i : Nat) : grpOf D (k + 1) i = if D k = D i then grpOf D k i ++ [k] else grpOf D k i := by
  unfold grpOf
  rw [List.range_succ, List.filter_append]
  by_cases h : D k = D i
  · simp [h]
  · simp [h]
theorem firstsOf_mem (D : Nat → α) (k i : Nat) : i ∈ firstsOf D k ↔ i < k ∧ ∀ x, x < i → D x ≠ D i := by
  unfold firstsOf
  rw [List.mem_filter, List.mem_range, isNew_iff]
theorem firstsOf_inj (D : Nat → α) (k : Nat) {i j : Nat} (hi : i ∈ firstsOf D k) (hj : j ∈ firstsOf D k) (h : D i = D j) : i = j := by
  rw [firstsOf_mem] at hi hj
  rcases Nat.lt_trichotomy i j with q | q | q
  · exact absurd h (hj.2 i q)
  · exact q
  · exact absurd h.symm (hi.2 j q)
theorem firstsOf_nodup (D : Nat → α) (k : Nat) : (firstsOf D k).Nodup := List.Pairwise.filter _ List.nodup_range
/-- each place has its first one -/
theorem firstsOf_has (D : Nat → α) (k x : Nat) (hx : x < k) : ∃ i ∈ firstsOf D k, D i = D x := by
  induction x using Nat.strongRecOn with
  | ind x ih =>
    by_cases h : ∀ y, y < x → D y ≠ D x
    · exact ⟨x, (firstsOf_mem D k x).2 ⟨hx, h⟩, rfl⟩
    · simp only [Classical.not_forall, not_imp, ne_eq, Classical.not_not] at h
      obtain ⟨y, hy, he⟩ := h
      obtain ⟨i, hi, hd⟩ := ih y hy (by omega)
      exact ⟨i, hi, hd.trans he⟩
theorem grpOf_new (D : Nat → α) (k : Nat) (h : isNew D k = true) : grpOf D k k = [] := by
  unfold grpOf
  rw [List.filter_eq_nil_iff]
  intro x hx
  rw [List.mem_range] at hx
  simpa using (isNew_iff D k).1 h x hx
/-- all groups -/
def grpsOf (D : Nat → α) (k : Nat) : List (List Nat) := (firstsOf D k).map (grpOf D k)
theorem grpsOf_new (D : Nat → α) (k : Nat) (h : isNew D k = true) : grpsOf D (k + 1) = grpsOf D k ++ [[k]] := by
  unfold grpsOf
  rw [firstsOf_succ, if_pos h, List.map_append]
  congr 1
  · refine List.map_congr_left fun i hi => ?_
    rw [grpOf_succ, if_neg]
    intro q
    have := (firstsOf_mem D k i).1 hi
    exact (isNew_iff D k).1 h i this.1 q.symm
  · simp [grpOf_succ, grpOf_new D k h]
theorem grpsOf_old (D : Nat → α) (k j : Nat) (h : isNew D k = false) (hj : j < (firstsOf D k).length) (hd : D ((firstsOf D k).getD j 0) = D k) : grpsOf D (k + 1) = (grpsOf D k).set j ((grpsOf D k).getD j [] ++ [k]) := by
  unfold grpsOf
  rw [firstsOf_succ, if_neg (by simp [h])]
  apply List.ext_getElem?
  intro n
  have hgj : (firstsOf D k).getD j 0 = (firstsOf D k)[j] := by simp [List.getD, hj]
  rw [hgj] at hd
  rw [List.getElem?_map]
  by_cases hn : n < (firstsOf D k).length
  · rw [List.getElem?_eq_getElem hn]
    simp only [Option.map_some]
    rw [grpOf_succ]
    by_cases e : n = j
    · subst e
      rw [if_pos hd.symm]
      simp [List.getElem?_set, hn, List.getD]
    · rw [if_neg]
      · rw [List.getElem?_set_ne (by omega), List.getElem?_map, List.getElem?_eq_getElem hn]
        rfl
      · intro q
        have := firstsOf_inj D k (List.getElem_mem hn) (List.getElem_mem hj) (q.symm.trans hd.symm)
        exact e ((List.getElem_inj (firstsOf_nodup D k)).1 this)
  · rw [List.getElem?_eq_none (by omega), List.getElem?_eq_none (by simp; omega)]
    rfl
end
end Go.Proofs.Ytdbcmdafgojnnaa

namespace Go.Proofs.Ytdbcmdafgojnnaa
open Go.RowKit
set_option linter.unusedSimpArgs false
set_option linter.unusedVariables false

/-- what a log may change: its own block, its map, its row -/
def LogKeeps (g r : Nat) (v : Value) (w w' : World) : Prop :=
  w'.os = w.os ∧ w'.tape = w.tape ∧ w'.output = w.output ∧ w.heap.size ≤ w'.heap.size ∧ ∀ k, k < w.heap.size → k ≠ g → k ≠ r → v.ownBlock ≠ some k → w'.heap[k]? = w.heap[k]?

theorem own_ne {w : World} {B e size n g t : Nat} {v : Value} {xs : List Value} {cs : Array Value} (h : w.ownsRow B e size v n xs) (hb : Blk w g t cs) (hne : e ≠ t) : v.ownBlock ≠ some g := fun hq => by
  rcases h.2 with ⟨rfl, _⟩ | ⟨b, cap, cur, rfl, _, hg, _⟩
  · simp [Value.ownBlock] at hq
  · simp [Value.ownBlock] at hq
    subst hq
    unfold Blk at hb
    rw [hb] at hg
    simp at hg
    exact hne hg.2.symm
theorem own_map {w : World} {B e size n r clock : Nat} {v : Value} {xs : List Value} {es : Array MapEntry} (h : w.ownsRow B e size v n xs) (hb : w.heap[r]? = some (.map es clock)) : v.ownBlock ≠ some r := fun hq => by
  rcases h.2 with ⟨rfl, _⟩ | ⟨b, cap, cur, rfl, _, hg, _⟩
  · simp [Value.ownBlock] at hq
  · simp [Value.ownBlock] at hq
    subst hq
    rw [hb] at hg
    cases hg
theorem own_block {w w' : World} {B e size n : Nat} {v : Value} {xs : List Value} (h : w.ownsRow B e size v n xs) (hk : ∀ k, v.ownBlock = some k → w'.heap[k]? = w.heap[k]?) : w'.ownsRow B e size v n xs := by
  refine ⟨h.1, ?_⟩
  rcases h.2 with hn | ⟨g, cap, cur, rfl, hg, hgg, rest⟩
  · exact .inl hn
  · exact .inr ⟨g, cap, cur, rfl, hg, (hk g rfl).trans hgg, rest⟩
theorem step_append_own {P : Program} {ops : Array Oper} {o : Oper} {a : Act} {w : World} {K : Act → World → Prop} {Q : Exit → Act → World → Prop} {F : Prop} (hgd : o.guard = none) (s x : Operand) (t : TypeId)
    (ho : o.op = .call { callee := .builtin .append, args := #[s, x], argTypes := #[t, t] })
    (base : Nat) (e : TypeId) (i : TypeInfo) (z : Value) (size bytes : Nat) (ht : P.underlying t = some (.slice e)) (hi : P.info? e = some i) (hz : i.zero = some z)
    (hsize : i.size = size) (hby : i.bytes = bytes) (hzs : z.cells.size = size) (hsz : 0 < size)
    (v : Value) (n : Nat) (xs : List Value) (hs : a.eval s = v) (hown : w.ownsRow base e size v n xs)
    (ad : Addr) (m c : Nat) (news : List Value) (hx : a.eval x = .slice (some ad) m c) (hl : news.length = m * size) (hnews : ∀ j u, news[j]? = some u → w.cell? (ad.add j) = some u) (h1 : ∀ u ∈ news, u.oneCell' = true)
    (h63 : n + m ≤ maxLen) (hbytes : (n + m) * bytes ≤ 140737488355328) (hbase : base ≤ w.heap.size)
    (h : ∀ v' w', w'.ownsRow base e size v' (n + m) (xs ++ news) → w.grownBy w' v.ownBlock → (v'.ownBlock = v.ownBlock ∨ v'.ownBlock = some w.heap.size) → K (a.put o.dst v') w') :
    if Region.wanted o (yielded ops a.tmps) = true then Oper.wp P o a w K Q else F := by
  have hw : Region.wanted o (yielded ops a.tmps) = true := by simp [Region.wanted, hgd]
  rw [if_pos hw]
  obtain ⟨v', w', hr, g1, g2, g3, g4⟩ := run_append_own_at (P := P) w base t o.type e i z size bytes ht hi hz hsize hby hzs hsz v n xs hown ad m c news hl hnews h1 h63 hbytes hbase
  unfold Oper.wp
  simp [execOp, ho, resolve, invoke, builtin, hs, hx, hr, Result.andThen]
  exact h v' w' g1 g2 g4

end Go.Proofs.Ytdbcmdafgojnnaa

namespace Go.Proofs.Ytdbcmdafgojnnaa
open Go.RowKit
set_option linter.unusedSimpArgs false
set_option linter.unusedVariables false

theorem find_sum (e : Nat × ByteArray) : ∀ E : List (Nat × ByteArray), isIn e E = true → lookS e E = sumOf e
  | [], h => by cases h
  | x :: E, h => by
    unfold isIn lookS at *
    simp only [List.map_cons, findIn] at h ⊢
    by_cases q : e = x
    · subst q
      simp
    · simp only [q, if_false] at h ⊢
      exact find_sum e E h

end Go.Proofs.Ytdbcmdafgojnnaa

namespace Go.Proofs.Ytdbcmdafgojnnaa
open Go.RowKit
set_option linter.unusedSimpArgs false
set_option linter.unusedVariables false

theorem entCells_one (E : List (Nat × ByteArray)) : ∀ u ∈ entCells E, u.oneCell' = true := fun u hu => by
  unfold entCells at hu
  obtain ⟨e, _, he⟩ := List.mem_flatMap.1 hu
  simp at he
  rcases he with rfl | rfl <;> rfl
end Go.Proofs.Ytdbcmdafgojnnaa

namespace Go.Proofs.Ytdbcmdafgojnnaa
open Go.RowKit
set_option linter.unusedSimpArgs false
set_option linter.unusedVariables false

theorem entCells_at (E : List (Nat × ByteArray)) : ∀ i, i < E.length → (entCells E)[2 * i]? = some (.int .u8 (((E.getD i (0, ByteArray.empty)).1 : Nat) : Int)) ∧ (entCells E)[2 * i + 1]? = some (.string (E.getD i (0, ByteArray.empty)).2) := by
  induction E with
  | nil => intro i hi; simp at hi
  | cons e E ih =>
    intro i hi
    cases i with
    | zero => simp [entCells]
    | succ i =>
      have := ih i (by simp at hi; omega)
      unfold entCells at this ⊢
      simp only [List.flatMap_cons, List.getD_cons_succ]
      rw [show 2 * (i + 1) = 2 * i + 2 from by omega]
      simpa using this

end Go.Proofs.Ytdbcmdafgojnnaa

namespace Go.Proofs.Ytdbcmdafgojnnaa
open Go.RowKit
set_option linter.unusedSimpArgs false
set_option linter.unusedVariables false

/-- the digests of a list of entries -/
def digAt (E : List (Nat × ByteArray)) (i : Nat) : Vector Nat 32 := dg (E.getD i (0, ByteArray.empty))
theorem isIn_mem (e : Nat × ByteArray) : ∀ E : List (Nat × ByteArray), isIn e E = true ↔ e ∈ E := by
  intro E
  induction E with
  | nil => simp [isIn, findIn]
  | cons x E ih =>
    unfold isIn at ih ⊢
    simp only [List.map_cons, findIn]
    by_cases h : e = x
    · subst h
      simp
    · simp [h, ih]
theorem isIn_at (E : List (Nat × ByteArray)) (i : Nat) (h : i < E.length) : isIn (E.getD i (0, ByteArray.empty)) E = true := by
  rw [isIn_mem]
  simp [List.getD, h]

end Go.Proofs.Ytdbcmdafgojnnaa

namespace Go.Proofs.Ytdbcmdafgojnnaa
open Go Go.RowKit

section
variable {ops : Array Oper}

/-- every order from here on has so many steps -/
def treeOk (ops : Array Oper) : Nat → Array Bool → Bool
  | 0, listed => (Region.ready .any ops listed).isEmpty
  | n + 1, listed => !(Region.ready .any ops listed).isEmpty && (Region.ready .any ops listed).all fun i => (ops[i]?).isSome && treeOk ops n (listed.setIfInBounds i true)
/-- the check of the whole region -/
def treeB (ops : Array Oper) (lows : List Tmp) (takes : List Nat) : Bool :=
  decide (takes.length ≤ ops.size) && Region.noSelect ops && (lows.all fun x => ops.all fun o => o.dst != some x) &&
    match takesB .any ops [] lows takes (Array.replicate ops.size false) with
    | some l => treeOk ops (ops.size - takes.length) l
    | none => false
def listedOf (n : Nat) (takes : List Nat) : Array Bool := takes.foldl (fun l i => l.setIfInBounds i true) (Array.replicate n false)
theorem takesB_listed {md : Region.Mode} {Wl : List Nat} {lows : List Tmp} : ∀ (ts : List Nat) (l l2 : Array Bool), takesB md ops Wl lows ts l = some l2 → l2 = ts.foldl (fun l i => l.setIfInBounds i true) l
  | [], l, l2, h => by simp only [takesB, Option.some.injEq] at h; exact h.symm
  | i :: ts, l, l2, h => by
    unfold takesB at h
    split at h
    · exact takesB_listed ts _ l2 h
    · cases h
end
section
variable {P : Program} {ops : Array Oper} {Q : Exit → Act → World → Prop} {B : Nat} {w0 : World} {lows : List Tmp}
/-- S is kept behind every step of the walk that is left -/
def wpTreeS (P : Program) (ops : Array Oper) (Q : Exit → Act → World → Prop) (S : World → Prop) : Nat → Array Bool → Act → World → Prop
  | 0, _, a, w => Strict Q .normal a w
  | n + 1, listed, a, w => ∀ i ∈ Region.ready .any ops listed, wpList P ops (Strict fun _ a' w' => S w' ∧ wpTreeS P ops Q S n (listed.setIfInBounds i true) a' w') ([i].filterMap fun i => ops[i]?) a w
theorem treeS_any {S : World → Prop} : ∀ (n : Nat) (listed : Array Bool) (a : Act) (w : World), treeOk ops n listed = true → wpTreeS P ops Q S n listed a w → wpAnyW P .any ops (Strict Q) S (([] : List Nat).contains ·) n listed a w
  | 0, listed, a, w, hb, h => ⟨by simpa [treeOk] using hb, h⟩
  | n + 1, listed, a, w, hb, h => by
    simp only [treeOk, Bool.and_eq_true, Bool.not_eq_true', List.all_eq_true] at hb
    refine ⟨fun h0 => (by rw [h0] at hb; exact absurd hb.1 (by simp)), fun i hi => ?_⟩
    obtain ⟨h1, h2⟩ := hb.2 i hi
    obtain ⟨o, ho⟩ := Option.isSome_iff_exists.1 h1
    refine wpOp_mono (fun a' w' h' => ?_) (wpOp_strict (wpList_one ho (h i hi)))
    exact ⟨fun _ => h'.2.1, treeS_any n _ a' w' h2 h'.2.2⟩
/-- THE LAW. -/
theorem wp_region_tree {id : Nat} {a : Act} {w : World} (lows : List Tmp) (takes : List Nat) (B : Nat) (hm : P.follows .mixedOrders = true) (hB : treeB ops lows takes = true)
    (hl : Lows lows B w a)
    (h : wpList P ops (Strict fun _ a' w' => wpTreeS P ops Q (Below B w) (ops.size - takes.length) (listedOf ops.size takes) a' w') ((takes ++ []).filterMap fun i => ops[i]?) a w.drew) :
    (Code.region id ops true).wp P Q a w := by
  unfold treeB at hB
  simp only [Bool.and_eq_true, decide_eq_true_eq] at hB
  obtain ⟨⟨⟨hlen, hs⟩, hlow⟩, hrest⟩ := hB
  have hd : ∀ x ∈ lows, ∀ (j : Nat) (o : Oper), ops[j]? = some o → o.dst ≠ some x := fun x hx j o ho => by
    have h1 := List.all_eq_true.1 hlow x hx
    have h2 := Array.all_eq_true_iff_forall_mem.1 h1 o (Array.mem_of_getElem? ho)
    simpa using h2
  split at hrest
  · rename_i l hl2
    have he := takesB_listed takes _ l hl2
    refine Code.wp_mono Strict.imp (wp_region_any hm ?_)
    have e : ops.size = takes.length + (ops.size - takes.length) := by omega
    rw [e]
    refine wpAny_of_W (S := Below B w) (W := (([] : List Nat).contains ·)) _ _ _ _ (takes_step hs hd [] _ _ takes _ l a _ (by rw [← e]; exact hl2) (fun a' w' hl' _ h' => ?_) hl (Below.refl B w).drew h)
    have h2 := h'.2
    unfold listedOf at h2
    rw [← he] at h2
    exact treeS_any _ l a' w' hrest h2
  · cases hrest
theorem treeS_step {S : World → Prop} {n : Nat} {listed : Array Bool} {a : Act} {w : World} (l : List Nat) (hr : (Region.ready .any ops listed == l) = true)
    (h : ∀ i ∈ l, wpList P ops (Strict fun _ a' w' => S w' ∧ wpTreeS P ops Q S n (listed.setIfInBounds i true) a' w') ([i].filterMap fun i => ops[i]?) a w) : wpTreeS P ops Q S (n + 1) listed a w := by
  unfold wpTreeS
  rw [eq_of_beq hr]
  exact h
theorem treeS_one {S : World → Prop} {n : Nat} {listed : Array Bool} {a : Act} {w : World} (i : Nat) (hr : (Region.ready .any ops listed == [i]) = true)
    (h : wpList P ops (Strict fun _ a' w' => S w' ∧ wpTreeS P ops Q S n (listed.setIfInBounds i true) a' w') ([i].filterMap fun i => ops[i]?) a w) : wpTreeS P ops Q S (n + 1) listed a w :=
  treeS_step [i] hr fun j hj => by
    have : j = i := by simpa using hj
    subst this
    exact h
theorem treeS_two {S : World → Prop} {n : Nat} {listed : Array Bool} {a : Act} {w : World} (i j : Nat) (hr : (Region.ready .any ops listed == [i, j]) = true)
    (h : wpList P ops (Strict fun _ a' w' => S w' ∧ wpTreeS P ops Q S n (listed.setIfInBounds i true) a' w') ([i].filterMap fun i => ops[i]?) a w)
    (h2 : wpList P ops (Strict fun _ a' w' => S w' ∧ wpTreeS P ops Q S n (listed.setIfInBounds j true) a' w') ([j].filterMap fun i => ops[i]?) a w) : wpTreeS P ops Q S (n + 1) listed a w :=
  treeS_step [i, j] hr fun k hk => by
    have : k = i ∨ k = j := by simpa using hk
    rcases this with rfl | rfl
    · exact h
    · exact h2
theorem treeS_last {S : World → Prop} {listed : Array Bool} {a : Act} {w : World} (h : Strict Q .normal a w) : wpTreeS P ops Q S 0 listed a w := h
end
end Go.Proofs.Ytdbcmdafgojnnaa

namespace Go.Proofs.Ytdbcmdafgojnnaa
open Go.RowKit
set_option linter.unusedSimpArgs false
set_option linter.unusedVariables false

/-- an entry put behind the others, if it is new -/
def putE (E : List (Nat × ByteArray)) (e : Nat × ByteArray) : List (Nat × ByteArray) := if isIn e E then E else E ++ [e]
theorem notIn_all {E : List (Nat × ByteArray)} {e : Nat × ByteArray} (h : ∀ j, j < E.length → E.getD j (0, ByteArray.empty) ≠ e) : isIn e E = false := by
  cases hq : isIn e E with
  | false => rfl
  | true =>
    rw [isIn_mem] at hq
    obtain ⟨j, hj, he⟩ := List.getElem_of_mem hq
    exact absurd (by simp [List.getD, hj, he]) (h j hj)

end Go.Proofs.Ytdbcmdafgojnnaa

namespace Go.Proofs.Ytdbcmdafgojnnaa
open Go.RowKit
set_option linter.unusedSimpArgs false
set_option linter.unusedVariables false

theorem infoDig : (Try.prog.info? 33).map (fun i => (i.zero, i.size, i.bytes)) = some (some (.agg (va 32 (iv .u8 fun _ => 0))), 32, 32) := by kernel_rfl
theorem sizeDig : (Try.prog.info? 33).map (·.size) = some 32 := by kernel_rfl
/-- the cells of a digest, and of a row of them -/
def digL (d : Vector Nat 32) : List Value := (List.range 32).map (iv .u8 (dF d))
def sumCells (D : Nat → Vector Nat 32) (k : Nat) : List Value := (List.range k).flatMap fun j => digL (D j)
theorem digL_length (d : Vector Nat 32) : (digL d).length = 32 := by simp [digL]
theorem digL_one (d : Vector Nat 32) : ∀ u ∈ digL d, u.oneCell' = true := fun u hu => by
  unfold digL at hu
  obtain ⟨i, _, rfl⟩ := List.mem_map.1 hu
  rfl
theorem sumCells_succ (D : Nat → Vector Nat 32) (k : Nat) : sumCells D (k + 1) = sumCells D k ++ digL (D k) := by
  unfold sumCells
  rw [List.range_succ, List.flatMap_append]
  simp
theorem sumCells_length (D : Nat → Vector Nat 32) (k : Nat) : (sumCells D k).length = k * 32 := by
  induction k with
  | zero => simp [sumCells]
  | succ k ih => rw [sumCells_succ, List.length_append, ih, digL_length]; omega
theorem sumCells_at (D : Nat → Vector Nat 32) : ∀ (k i j : Nat), i < k → j < 32 → (sumCells D k)[i * 32 + j]? = some (iv .u8 (dF (D i)) j)
  | 0, i, j, hi, hj => by omega
  | k + 1, i, j, hi, hj => by
    rw [sumCells_succ]
    by_cases h : i < k
    · rw [List.getElem?_append_left (by rw [sumCells_length]; omega)]
      exact sumCells_at D k i j h hj
    · obtain rfl : i = k := by omega
      rw [List.getElem?_append_right (by rw [sumCells_length]; omega), sumCells_length, show i * 32 + j - i * 32 = j from by omega]
      simp [digL, hj]
theorem own_range {w : World} {B b k cap : Nat} {D : Nat → Vector Nat 32} (h : w.ownsRow B 33 32 (.slice (some ⟨b, 0, none⟩) k cap) k (sumCells D k)) (i : Nat) (hi : i < k) : w.rangeAt b (i * 32) ((List.range 32).map (iv .u8 (dF (D i)))) := fun j v hv => by
  have hj : j < 32 := by
    have := (List.getElem?_eq_some_iff.1 hv).1
    simpa using this
  rw [h.cellAt (i * 32 + j) (by omega), sumCells_at D k i j hi hj, ← hv]
  simp [hj]
theorem own_slice {w : World} {B e size k : Nat} {v : Value} {xs : List Value} (h : w.ownsRow B e size v k xs) (h0 : 0 < k) : ∃ b cap, v = .slice (some ⟨b, 0, none⟩) k cap ∧ B ≤ b ∧ b < w.heap.size := by
  rcases h.2 with ⟨_, h2⟩ | ⟨b, cap, cur, h1, h2, h3, _⟩
  · omega
  · exact ⟨b, cap, h1, h2, (Array.getElem?_eq_some_iff.1 h3).1⟩

theorem build_dig (f : Nat → Nat) : Array.foldl (fun (cs : Array Value) (x : Value × Nat) => cs.setIfInBounds x.snd x.fst) #[Value.int .u8 0, Value.int .u8 0, Value.int .u8 0, Value.int .u8 0, Value.int .u8 0, Value.int .u8 0, Value.int .u8 0, Value.int .u8 0, Value.int .u8 0, Value.int .u8 0, Value.int .u8 0, Value.int .u8 0, Value.int .u8 0, Value.int .u8 0, Value.int .u8 0, Value.int .u8 0, Value.int .u8 0, Value.int .u8 0, Value.int .u8 0, Value.int .u8 0, Value.int .u8 0, Value.int .u8 0, Value.int .u8 0, Value.int .u8 0, Value.int .u8 0, Value.int .u8 0, Value.int .u8 0, Value.int .u8 0, Value.int .u8 0, Value.int .u8 0, Value.int .u8 0, Value.int .u8 0] (va 32 (iv .u8 f)).zipIdx 0 (va 32 (iv .u8 f)).size = va 32 (iv .u8 f) := by kernel_rfl

end Go.Proofs.Ytdbcmdafgojnnaa

namespace Go.Proofs.Ytdbcmdafgojnnaa
open Go.RowKit
set_option linter.unusedSimpArgs false
set_option linter.unusedVariables false

theorem own_own {w : World} {B B' e e' size size' n n' k : Nat} {v v' : Value} {xs xs' : List Value} (h : w.ownsRow B e size v n xs) (h' : w.ownsRow B' e' size' v' n' xs') (hne : e ≠ e') (hk : v.ownBlock = some k) : v'.ownBlock ≠ some k := fun hk' => by
  rcases h.2 with ⟨rfl, _⟩ | ⟨b, cap, cur, rfl, _, hg, _⟩
  · simp [Value.ownBlock] at hk
  · rcases h'.2 with ⟨rfl, _⟩ | ⟨b', cap', cur', rfl, _, hg', _⟩
    · simp [Value.ownBlock] at hk'
    · simp [Value.ownBlock] at hk hk'
      subst hk
      subst hk'
      rw [hg] at hg'
      simp at hg'
      exact hne hg'.2
/-- two logs that share no memory -/
def Apart2 (g r : Nat) (v : Value) (g' r' : Nat) (v' : Value) : Prop := g' ≠ g ∧ r' ≠ r ∧ ∀ k, v'.ownBlock = some k → v.ownBlock ≠ some k
/-- all of a log lies from B on -/
def LogFrom (B g r : Nat) (v : Value) : Prop := B ≤ g ∧ B ≤ r ∧ ∀ k, v.ownBlock = some k → B ≤ k
theorem map_blk {w : World} {r g t : Nat} {cs : Array Value} {es : Array MapEntry} {cl : Nat} (hg : w.heap[r]? = some (.map es cl)) (hB : Blk w g t cs) : r ≠ g := fun q => by
  subst q
  unfold Blk at hB
  rw [hB] at hg
  cases hg
section
variable {w w' : World} {g r : Nat} {v : Value} {E : List (Nat × ByteArray)}
theorem LogKeeps.below {B : Nat} (hk : LogKeeps g r v w w') (hf : LogFrom B g r v) (hB : B ≤ w.heap.size) : Below B w w' :=
  ⟨hk.1, hk.2.1, hk.2.2.1, hk.2.2.2.1, fun k hkB => hk.2.2.2.2 k (by omega) (by have := hf.1; omega) (by have := hf.2.1; omega) (fun q => by have := hf.2.2 k q; omega)⟩
theorem LogKeeps.of_below (hb : Below w.heap.size w w') : LogKeeps g r v w w' := ⟨hb.os, hb.tape, hb.output, hb.size, fun k h1 _ _ _ => hb.block k h1⟩
end
theorem Apart2.symm {g r : Nat} {v : Value} {g' r' : Nat} {v' : Value} (h : Apart2 g r v g' r' v') : Apart2 g' r' v' g r v := ⟨h.1.symm, h.2.1.symm, fun k h1 h2 => h.2.2 k h2 h1⟩
theorem LogFrom.grow {w : World} {B g r : Nat} {v u : Value} (h : LogFrom B g r v) (hB : B ≤ w.heap.size) (hu : u.ownBlock = v.ownBlock ∨ ∃ k, u.ownBlock = some k ∧ w.heap.size ≤ k) : LogFrom B g r u :=
  ⟨h.1, h.2.1, fun k h1 => by
    rcases hu with q | ⟨k', q, hk'⟩
    · rw [q] at h1
      exact h.2.2 k h1
    · rw [q] at h1
      injection h1 with h1
      omega⟩
/-- entries as they may be -/
def OkE (E : List (Nat × ByteArray)) : Prop := ∀ i, i < E.length → (E.getD i (0, ByteArray.empty)).1 < 256 ∧ (E.getD i (0, ByteArray.empty)).2.size ≤ 140737488351232
theorem okE_nil : OkE [] := fun i hi => absurd hi (by simp)
theorem okE_put {E : List (Nat × ByteArray)} {e : Nat × ByteArray} (h : OkE E) (h1 : e.1 < 256) (h2 : e.2.size ≤ 140737488351232) : OkE (putE E e) := by
  unfold putE
  split
  · exact h
  · intro i hi
    by_cases hl : i < E.length
    · have := h i hl
      simpa [List.getD, List.getElem?_append_left hl] using this
    · have : i = E.length := by simp at hi; omega
      subst this
      simpa [List.getD] using ⟨h1, h2⟩
theorem len_put (E : List (Nat × ByteArray)) (e : Nat × ByteArray) : (putE E e).length ≤ E.length + 1 := by
  unfold putE
  split <;> simp
end Go.Proofs.Ytdbcmdafgojnnaa
