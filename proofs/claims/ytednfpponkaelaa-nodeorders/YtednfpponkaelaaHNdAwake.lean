/- What is laid is read: a node's block is its own; the statements' awake. -/
import Derived.Test.YtednfpponkaelaaHNdBlock
import Derived.Handy

namespace Go.Proofs.Ytednfpponkaelaa
open Go Go.RowKit
set_option linter.unusedSimpArgs false
set_option linter.unusedVariables false

theorem nd_build_at {P : Program} {ops : Array Oper} {rest : List Oper} {o : Oper} {a : Act} {w : World} {Q : Exit → Act → World → Prop} (hw : Region.wanted o (yielded ops a.tmps) = true) (t : TypeId) (parts : Array (Nat × Operand)) (ho : o.op = .build t parts) (vals : List (Nat × Value))
    (hv : (parts.map fun (i, x) => (i, a.eval x)).toList = vals) (cells : Array Value) (hf : P.built t vals = some cells) (h : wpList P ops Q rest (a.put o.dst (.agg cells)) w) : wpList P ops Q (o :: rest) a w :=
  wpList_step fun K hK => by
    rw [if_pos hw]
    subst hv
    refine wp_build t parts ho (by rw [hf]; rfl) ?_
    rw [hf]
    exact hK _ _ h
/-- the references that stand in a block; those that are right -/
def rawK (f : Nat → Nat) : Nat → Rf := fun i => decR (strN f 256) (8 + 36 * i)
def decK (f : Nat → Nat) : Nat → Rf := fun i => if rOk (rawK f i) then rawK f i else rf0
theorem decK_ok (f : Nat → Nat) (i : Nat) : okD (decK f i).2 := by
  unfold decK
  split
  · exact decR_ok _ _
  · exact okD_zero
/-- a reference laid into a node -/
def kdSet (K : Nat → Rf) (i : Nat) (r : Rf) : Nat → Rf := fun j => if j = i then r else K j
theorem nd_over (l : Int) (K : Nat → Rf) (i : Nat) (r : Rf) (hi : i < 4) : va 133 (over (ndF l K) (1 + i * 33) (rfC r).toList) = va 133 (ndF l (kdSet K i r)) := va_congr fun j hj => by
  have hl : (rfC r).toList.length = 33 := by rw [Array.length_toList, rfC_size]
  unfold over
  rw [hl]
  by_cases h : 1 + i * 33 ≤ j ∧ j < 1 + i * 33 + 33
  · rw [if_pos h]
    obtain ⟨d, rfl⟩ : ∃ d, j = 1 + i * 33 + d := ⟨j - (1 + i * 33), by omega⟩
    rw [show 1 + i * 33 + d - (1 + i * 33) = d by omega, ndF_at l _ i d (by omega)]
    have e : kdSet K i r i = r := by
      unfold kdSet
      rw [if_pos rfl]
    rw [e]
    have := va_at (rfF r.1 r.2) (show d < 33 by omega)
    unfold rfC
    rw [List.getD_eq_getElem?_getD, Array.getElem?_toList, this]
    rfl
  · rw [if_neg h]
    unfold ndF kdF
    by_cases h0 : j = 0
    · rw [if_pos h0, if_pos h0]
    · have e : kdSet K i r ((j - 1) / 33) = K ((j - 1) / 33) := by
        unfold kdSet
        rw [if_neg (by omega)]
      rw [if_neg h0, if_neg h0, e]
/-- the first k references taken -/
def upK (f : Nat → Nat) (k : Nat) : Nat → Rf := fun i => if i < k then decK f i else rf0
theorem upK_step (f : Nat → Nat) (k : Nat) : kdSet (upK f k) k (decK f k) = upK f (k + 1) := by
  funext j
  unfold kdSet upK
  by_cases h : j = k
  · subst h
    rw [if_pos rfl, if_pos (by omega)]
  · rw [if_neg h]
    by_cases h2 : j < k
    · rw [if_pos h2, if_pos (by omega)]
    · rw [if_neg h2, if_neg (by omega)]
/-- is a block just a node's? -/
def rdOk (f : Nat → Nat) : Bool := ndOk ((f 4 : Nat) : Int) (decK f) && decide (bkSame (nodeB (f 4) (decK f)) f)
set_option maxRecDepth 100000 in
set_option maxHeartbeats 4000000 in
theorem read_by (f : Nat → Nat) (hf : ∀ i, f i < 256) (X : Array Value) (Y : Int) (HXY : Hid ((X, Y) = if rdOk f then (ndC ((f 4 : Nat) : Int) (decK f), (0 : Int)) else (ndC 0 fun _ => rf0, 70))) (w : World) : Calls Try.prog 16 #[bkV f] w fun e w' => e = .returned (.tuple #[.agg X, .int .i64 Y]) ∧ Below w.heap.size w w' := by
  have HT : Hid (∀ w, Calls Try.prog 25 #[.agg (va 256 (iv .u8 f))] w fun e w' => e = .returned (.string (strN f 256)) ∧ Below w.heap.size w w') := textOf_any f
  unfold bkV
  have hz := zero_node
  have hzb := zero_bk
  have r0 : Blk ((w.alloc (.cells (va 256 (iv .u8 f)) 49)).alloc (.cells (ndC 0 fun _ => rf0) 47)) w.heap.size 49 (va 256 (iv .u8 f)) := (Blk.new _ _ _).alloc _
  have r1 : Blk ((w.alloc (.cells (va 256 (iv .u8 f)) 49)).alloc (.cells (ndC 0 fun _ => rf0) 47)) (w.heap.size + 1) 47 (ndC 0 fun _ => rf0) := Blk.new1 _ _ _ _
  have hb : Below w.heap.size w ((w.alloc (.cells (va 256 (iv .u8 f)) 49)).alloc (.cells (ndC 0 fun _ => rf0) 47)) := below_new2 _ _ _
  have hsz : ((w.alloc (.cells (va 256 (iv .u8 f)) 49)).alloc (.cells (ndC 0 fun _ => rf0) 47)).heap.size = w.heap.size + 2 := by simp
  go_enter Try.func16, Try.ntmps16
  go_wp2_with (first
    | (refine wpList_load_rowg (by rfl) 49 _ (by rfl) (w.heap.size) (by rfl) 49 (va 256 (iv .u8 (f))) (0, 0) _ (by exact r0) Try.underlying49 (by rfl) (sizeBk.trans (by rw [va_size])) ?_; simp only [Act.put, List.setIfInBounds_toArray, List.set_cons_zero, List.set_cons_succ])
    | fail)
  generalize ((w.alloc (.cells (va 256 (iv .u8 f)) 49)).alloc (.cells (ndC 0 fun _ => rf0) 47)) = w0 at *
  refine (HT.out w0).mono ?_
  rintro e w1 ⟨rfl, hb1⟩
  have hs1 := hb1.size
  have a0 : Blk w1 w.heap.size 49 (va 256 (iv .u8 f)) := r0.below hb1 (by omega)
  have a1 : Blk w1 (w.heap.size + 1) 47 (ndC 0 fun _ => rf0) := r1.below hb1 (by omega)
  have hb2 : Below w.heap.size w w1 := hb.trans (hb1.mono (by omega))
  have x0 : w1.cell? ⟨w.heap.size, 4, none⟩ = some (.int .u8 ((f 4 : Nat) : Int)) := a0.cv (by decide)
  have hbt : Try.prog.built 47 [(0, .int .i64 ((f 4 : Nat) : Int))] = some (ndC ((f 4 : Nat) : Int) fun _ => rf0) := built_node1 _
  have HBT : Hid (Try.prog.built 47 [(0, .int .i64 ((f 4 : Nat) : Int))] = some (ndC ((f 4 : Nat) : Int) fun _ => rf0)) := hbt
  have f4 := hf 4
  have e4 : ((f 4 : Nat) : Int) % 18446744073709551616 = ((f 4 : Nat) : Int) := by omega
  clear r0 r1 hb hb1 HT hbt
  have b2 : Blk (w1.alloc (.cells (ndC 0 fun _ => rf0) 47)) w1.heap.size 47 (ndC 0 fun _ => rf0) := Blk.new _ _ _
  go_wp2_with (first
    | (refine nd_build_at (by rfl) 47 _ (by rfl) ([(0, .int .i64 ((f 4 : Nat) : Int))]) (by rfl) (ndC ((f 4 : Nat) : Int) fun _ => rf0) (by exact HBT.out) ?_; simp only [Act.put, List.setIfInBounds_toArray, List.set_cons_zero, List.set_cons_succ])
    | (refine wpList_store_row (by rfl) 47 _ _ (by rfl) (w1.heap.size) (ndC ((f 4 : Nat) : Int) fun _ => rf0) (by rfl) (by rfl) 47 (_) (by exact b2) (sizeNode.trans (by rw [ndC_size])) (by simp only [ndC_size]) (ndC_all _ _) ?_; simp only [Act.put, List.setIfInBounds_toArray, List.set_cons_zero, List.set_cons_succ])
    | fail)
  have c0 : Blk ((w1.alloc (.cells (ndC 0 fun _ => rf0) 47)).setRow w1.heap.size (ndC ((f 4 : Nat) : Int) fun _ => rf0)) w.heap.size 49 (va 256 (iv .u8 f)) := (a0.alloc _).other _ (by omega)
  have c1 : Blk ((w1.alloc (.cells (ndC 0 fun _ => rf0) 47)).setRow w1.heap.size (ndC ((f 4 : Nat) : Int) fun _ => rf0)) (w.heap.size + 1) 47 (ndC 0 fun _ => rf0) := (a1.alloc _).other _ (by omega)
  have c2 : Blk ((w1.alloc (.cells (ndC 0 fun _ => rf0) 47)).setRow w1.heap.size (ndC ((f 4 : Nat) : Int) fun _ => rf0)) w1.heap.size 47 (va 133 (ndF ((f 4 : Nat) : Int) fun _ => rf0)) := b2.set _
  have hb3 : Below w.heap.size w ((w1.alloc (.cells (ndC 0 fun _ => rf0) 47)).setRow w1.heap.size (ndC ((f 4 : Nat) : Int) fun _ => rf0)) := below_setRow (hb2.alloc (by omega) _) (by omega) _
  have hs4 : ((w1.alloc (.cells (ndC 0 fun _ => rf0) 47)).setRow w1.heap.size (ndC ((f 4 : Nat) : Int) fun _ => rf0)).heap.size = w1.heap.size + 1 := by simp
  clear a0 a1 hb2 x0 HBT b2
  generalize ((w1.alloc (.cells (ndC 0 fun _ => rf0) 47)).setRow w1.heap.size (ndC ((f 4 : Nat) : Int) fun _ => rf0)) = w4 at *
  clear h
  go_loopw [15] (fun i wr => ∃ k : Nat, k ≤ 4 ∧ i = .int .i64 (k : Int) ∧ Blk wr w.heap.size 49 (va 256 (iv .u8 f)) ∧ Blk wr (w.heap.size + 1) 47 (ndC 0 fun _ => rf0) ∧ Blk wr w1.heap.size 47 (va 133 (ndF ((f 4 : Nat) : Int) (upK f k))) ∧ Below w.heap.size w wr ∧ w1.heap.size + 1 ≤ wr.heap.size) (fun i _ => 4 - (intOf i).toNat)
  case atStart => exact ⟨0, by omega, rfl, c0, c1, c2, hb3, by omega⟩
  case round =>
    clear c0 c1 c2 hb3 hs4
    obtain ⟨k, hk, rfl, c0, c1, c2, hb, hs⟩ := hrel
    by_cases hlt : k < 4
    · have k1 : (k : Int) < 4 := by omega
      have HD : Hid (∀ w, Calls Try.prog 26 #[.string (strN f 256), .int .i64 (8 + 36 * (k : Int))] w fun e w' => e = .returned (.tuple #[.agg (rfC (decK f k)), .bool (rOk (rawK f k))]) ∧ Below w.heap.size w w') := fun w => by
        have hz : (strN f 256).size = 256 := strN_size _ _
        rw [show (8 + 36 * (k : Int)) = ((8 + 36 * k : Nat) : Int) by omega]
        exact decodeR_good (strN f 256) (8 + 36 * k) (by rw [hz]; unfold maxLen; decide) (by rw [hz]; omega) w
      have HU : Hid (va 133 (over (ndF ((f 4 : Nat) : Int) (upK f k)) (1 + k * 33) (rfC (decK f k)).toList) = va 133 (ndF ((f 4 : Nat) : Int) (upK f (k + 1)))) := by
        show _ = _
        rw [nd_over _ _ k _ hlt, upK_step]
      have e8 : (8 : Int) + (k : Int) * 36 = 8 + 36 * (k : Int) := by omega
      generalize strN f 256 = t at *
      generalize rOk (rawK f k) = b at *
      have HRS : (rfC (decK f k)).size = 33 := rfC_size _
      have HRA : Hid ((rfC (decK f k)).all (·.oneCell') = true) := rfC_all _
      generalize rfC (decK f k) = rc at *
      go_wp2_with fail
      refine (HD.out wr).mono ?_
      rintro e w5 ⟨rfl, hb5⟩
      have hs5 := hb5.size
      have d0 : Blk w5 w.heap.size 49 (va 256 (iv .u8 f)) := c0.below hb5 (by omega)
      have d1 : Blk w5 (w.heap.size + 1) 47 (ndC 0 fun _ => rf0) := c1.below hb5 (by omega)
      have d2 : Blk w5 w1.heap.size 47 (va 133 (ndF ((f 4 : Nat) : Int) (upK f k))) := c2.below hb5 (by omega)
      have hb6 : Below w.heap.size w w5 := hb.trans (hb5.mono (by omega))
      clear c0 c1 c2 hb hb5 HD
      go_wp2_with (first
        | (refine wpList_store_mid (by rfl) 31 _ _ (by rfl) (w1.heap.size) (1 + k * 33) rc (by rfl) (by rfl) (by exact d2.there (1 + k * 33) _ (by rw [HRS, va_size]; omega)) (slSizeRef.trans (by rw [HRS])) (HRA.out) ?_; simp only [Act.put, List.setIfInBounds_toArray, List.set_cons_zero, List.set_cons_succ])
        | fail)
      have g0 : Blk (w5.setCells w1.heap.size (1 + k * 33) rc.toList) w.heap.size 49 (va 256 (iv .u8 f)) := d0.cells_other (by omega) _ _ _
      have g1 : Blk (w5.setCells w1.heap.size (1 + k * 33) rc.toList) (w.heap.size + 1) 47 (ndC 0 fun _ => rf0) := d1.cells_other (by omega) _ _ _
      have g2 : Blk (w5.setCells w1.heap.size (1 + k * 33) rc.toList) w1.heap.size 47 (va 133 (ndF ((f 4 : Nat) : Int) (upK f (k + 1)))) := by
        rw [← HU.out]
        exact d2.cells_put _ _ _
      have hb7 : Below w.heap.size w (w5.setCells w1.heap.size (1 + k * 33) rc.toList) := below_setCells (by omega) _ _ _ hb6
      have hs7 : (w5.setCells w1.heap.size (1 + k * 33) rc.toList).heap.size = w5.heap.size := size_setCells _ _ _
      clear d0 d1 d2 hb6
      generalize (w5.setCells w1.heap.size (1 + k * 33) rc.toList) = w6 at *
      go_wp2_with fail
      go_roundw
      case rel => exact ⟨k + 1, by omega, by simp, g0, g1, g2, hb7, by omega⟩
      case measure => simp [intOf]; omega
    · have e : k = 4 := by omega
      subst e
      have HK : Hid (va 133 (ndF ((f 4 : Nat) : Int) (upK f 4)) = ndC ((f 4 : Nat) : Int) (decK f)) := nd_congr fun i hi => by
        unfold upK
        rw [if_pos hi]
      have c3 : Blk wr w1.heap.size 47 (ndC ((f 4 : Nat) : Int) (decK f)) := by
        rw [← HK.out]
        exact c2
      clear c2 HK
      have HB : Hid (∀ w, Calls Try.prog 15 #[.agg (ndC ((f 4 : Nat) : Int) (decK f))] w fun e w' => e = .returned (.tuple #[.agg (va 256 (iv .u8 (blkF ((f 4 : Nat) : Int) (decK f)))), .int .i64 (if ndOk ((f 4 : Nat) : Int) (decK f) then 0 else 1)]) ∧ Below w.heap.size w w') := block_any _ _ fun i _ => decK_ok f i
      have HQ : Hid (∀ W, (Op.equalIn 10000 49 (.agg (va 256 (iv .u8 (blkF ((f 4 : Nat) : Int) (decK f))))) (.agg (va 256 (iv .u8 f)))).run Try.prog W = .ok (decide (bkSame (blkF ((f 4 : Nat) : Int) (decK f)) f)) W) := eq_bk 49 Try.underlying49 _ _
      have HG : Hid (ndOk ((f 4 : Nat) : Int) (decK f) = true → blkF ((f 4 : Nat) : Int) (decK f) = nodeB (f 4) (decK f)) := fun h => by
        unfold blkF
        rw [h]
        rfl
      have HRO : Hid (rdOk f = (ndOk ((f 4 : Nat) : Int) (decK f) && decide (bkSame (nodeB (f 4) (decK f)) f))) := rfl
      generalize blkF ((f 4 : Nat) : Int) (decK f) = bf at *
      generalize hok : ndOk ((f 4 : Nat) : Int) (decK f) = ok at *
      obtain ⟨nc, hnc⟩ : ∃ nc, nc = ndC ((f 4 : Nat) : Int) (decK f) := ⟨_, rfl⟩
      have HNS : nc.size = 133 := by rw [hnc]; exact ndC_size _ _
      have HNA : Hid (nc.all (·.oneCell') = true) := by rw [hnc]; exact ndC_all _ _
      rw [← hnc] at c3 HB HXY
      clear hnc hok
      go_wp2_with (first
        | (refine wpList_load_rowg (by rfl) 47 _ (by rfl) (w1.heap.size) (by rfl) 47 (nc) (0, 0) _ (by exact c3) Try.underlying47 (by rfl) (sizeNode.trans (by rw [HNS])) ?_; simp only [Act.put, List.setIfInBounds_toArray, List.set_cons_zero, List.set_cons_succ])
        | fail)
      refine (HB.out wr).mono ?_
      rintro e w5 ⟨rfl, hb5⟩
      have hs5 := hb5.size
      have d0 : Blk (w5.alloc (.cells (va 256 (iv .u8 fun _ => 0)) 49)) w.heap.size 49 (va 256 (iv .u8 f)) := (c0.below hb5 (by omega)).alloc _
      have d1 : Blk (w5.alloc (.cells (va 256 (iv .u8 fun _ => 0)) 49)) (w.heap.size + 1) 47 (ndC 0 fun _ => rf0) := (c1.below hb5 (by omega)).alloc _
      have d2 : Blk (w5.alloc (.cells (va 256 (iv .u8 fun _ => 0)) 49)) w1.heap.size 47 nc := (c3.below hb5 (by omega)).alloc _
      have d3 : Blk (w5.alloc (.cells (va 256 (iv .u8 fun _ => 0)) 49)) w5.heap.size 49 (va 256 (iv .u8 fun _ => 0)) := Blk.new _ _ _
      have hb6 : Below w.heap.size w (w5.alloc (.cells (va 256 (iv .u8 fun _ => 0)) 49)) := (hb.trans (hb5.mono (by omega))).alloc (by omega) _
      clear c0 c1 c3 hb hb5 HB
      cases ok
      · have hxy := HXY.out
        rw [HRO.out] at hxy
        injection hxy with hx hy
        clear HXY HRO HG HQ
        go_wp2_with (first
          | (refine wpList_store_row (by rfl) 49 _ _ (by rfl) (w5.heap.size) (va 256 (iv .u8 (bf))) (by rfl) (by rfl) 49 (_) (by exact d3) (sizeBk.trans (by rw [va_size])) (by simp only [va_size]) (iv_one _ _ _) ?_; simp only [Act.put, List.setIfInBounds_toArray, List.set_cons_zero, List.set_cons_succ])
          | (refine wpList_store_row (by rfl) 47 _ _ (by rfl) (w.heap.size + 1) (ndC 0 fun _ => rf0) (by rfl) (by rfl) 47 _ (by exact d1.other _ (by omega)) (sizeNode.trans (by rw [ndC_size])) (by simp only [ndC_size]) (ndC_all _ _) ?_; simp only [Act.put, List.setIfInBounds_toArray, List.set_cons_zero, List.set_cons_succ])
          | fail)
        try simp only [Exit.inBlock, Exit.then]
        refine bodyPost_ret (results_row2 Try.results16 _ _ (w.heap.size + 1) 47 (ndC 0 fun _ => rf0) (0, 0) _ rfl ((d1.other _ (by omega)).set _) Try.underlying47 rfl (sizeNode.trans (by rw [ndC_size]))) rfl ?_
        subst hx hy
        exact ⟨rfl, below_setRow (below_setRow hb6 (by omega) _) (by omega) _⟩
      · have hbf := HG.out rfl
        have hxy := HXY.out
        rw [HRO.out, Bool.true_and, ← hbf] at hxy
        have heq := HQ.out
        generalize decide (bkSame bf f) = c at *
        clear HXY HRO HG HQ hbf
        have g0 : Blk ((w5.alloc (.cells (va 256 (iv .u8 fun _ => 0)) 49)).setRow w5.heap.size (va 256 (iv .u8 bf))) w.heap.size 49 (va 256 (iv .u8 f)) := d0.other _ (by omega)
        have g1 : Blk ((w5.alloc (.cells (va 256 (iv .u8 fun _ => 0)) 49)).setRow w5.heap.size (va 256 (iv .u8 bf))) (w.heap.size + 1) 47 (ndC 0 fun _ => rf0) := d1.other _ (by omega)
        have g2 : Blk ((w5.alloc (.cells (va 256 (iv .u8 fun _ => 0)) 49)).setRow w5.heap.size (va 256 (iv .u8 bf))) w1.heap.size 47 nc := d2.other _ (by omega)
        have g3 : Blk ((w5.alloc (.cells (va 256 (iv .u8 fun _ => 0)) 49)).setRow w5.heap.size (va 256 (iv .u8 bf))) w5.heap.size 49 (va 256 (iv .u8 bf)) := d3.set _
        have hb7 : Below w.heap.size w ((w5.alloc (.cells (va 256 (iv .u8 fun _ => 0)) 49)).setRow w5.heap.size (va 256 (iv .u8 bf))) := below_setRow hb6 (by omega) _
        cases c
        · injection hxy with hx hy
          go_wp2_with (first
            | (refine wpList_store_row (by rfl) 49 _ _ (by rfl) (w5.heap.size) (va 256 (iv .u8 (bf))) (by rfl) (by rfl) 49 (_) (by exact d3) (sizeBk.trans (by rw [va_size])) (by simp only [va_size]) (iv_one _ _ _) ?_; simp only [Act.put, List.setIfInBounds_toArray, List.set_cons_zero, List.set_cons_succ])
            | (refine wpList_load_rowg (by rfl) 49 _ (by rfl) (w5.heap.size) (by rfl) 49 (va 256 (iv .u8 (bf))) (0, 0) _ (by exact g3) Try.underlying49 (by rfl) (sizeBk.trans (by rw [va_size])) ?_; simp only [Act.put, List.setIfInBounds_toArray, List.set_cons_zero, List.set_cons_succ])
            | (refine wpList_load_rowg (by rfl) 49 _ (by rfl) (w.heap.size) (by rfl) 49 (va 256 (iv .u8 (f))) (0, 0) _ (by exact g0) Try.underlying49 (by rfl) (sizeBk.trans (by rw [va_size])) ?_; simp only [Act.put, List.setIfInBounds_toArray, List.set_cons_zero, List.set_cons_succ])
            | (refine wpList_store_row (by rfl) 47 _ _ (by rfl) (w.heap.size + 1) (ndC 0 fun _ => rf0) (by rfl) (by rfl) 47 (_) (by exact g1) (sizeNode.trans (by rw [ndC_size])) (by simp only [ndC_size]) (ndC_all _ _) ?_; simp only [Act.put, List.setIfInBounds_toArray, List.set_cons_zero, List.set_cons_succ])
            | fail)
          try simp only [Exit.inBlock, Exit.then]
          refine bodyPost_ret (results_row2 Try.results16 _ _ (w.heap.size + 1) 47 (ndC 0 fun _ => rf0) (0, 0) _ rfl (g1.set _) Try.underlying47 rfl (sizeNode.trans (by rw [ndC_size]))) rfl ?_
          subst hx hy
          exact ⟨rfl, below_setRow hb7 (by omega) _⟩
        · injection hxy with hx hy
          go_wp2_with (first
            | (refine wpList_store_row (by rfl) 49 _ _ (by rfl) (w5.heap.size) (va 256 (iv .u8 (bf))) (by rfl) (by rfl) 49 (_) (by exact d3) (sizeBk.trans (by rw [va_size])) (by simp only [va_size]) (iv_one _ _ _) ?_; simp only [Act.put, List.setIfInBounds_toArray, List.set_cons_zero, List.set_cons_succ])
            | (refine wpList_load_rowg (by rfl) 49 _ (by rfl) (w5.heap.size) (by rfl) 49 (va 256 (iv .u8 (bf))) (0, 0) _ (by exact g3) Try.underlying49 (by rfl) (sizeBk.trans (by rw [va_size])) ?_; simp only [Act.put, List.setIfInBounds_toArray, List.set_cons_zero, List.set_cons_succ])
            | (refine wpList_load_rowg (by rfl) 49 _ (by rfl) (w.heap.size) (by rfl) 49 (va 256 (iv .u8 (f))) (0, 0) _ (by exact g0) Try.underlying49 (by rfl) (sizeBk.trans (by rw [va_size])) ?_; simp only [Act.put, List.setIfInBounds_toArray, List.set_cons_zero, List.set_cons_succ])
            | (refine wpList_load_rowg (by rfl) 47 _ (by rfl) (w1.heap.size) (by rfl) 47 (nc) (0, 0) _ (by exact g2) Try.underlying47 (by rfl) (sizeNode.trans (by rw [HNS])) ?_; simp only [Act.put, List.setIfInBounds_toArray, List.set_cons_zero, List.set_cons_succ])
            | (refine wpList_store_row (by rfl) 47 _ _ (by rfl) (w.heap.size + 1) (nc) (by rfl) (by rfl) 47 _ (by exact g1) (sizeNode.trans (by rw [HNS])) (by rw [HNS, ndC_size]) (HNA.out) ?_; simp only [Act.put, List.setIfInBounds_toArray, List.set_cons_zero, List.set_cons_succ])
            | fail)
          try simp only [Exit.inBlock, Exit.then]
          refine bodyPost_ret (results_row2 Try.results16 _ _ (w.heap.size + 1) 47 (nc) (0, 0) _ rfl (g1.set _) Try.underlying47 rfl (sizeNode.trans (by rw [HNS]))) rfl ?_
          subst hx hy
          exact ⟨rfl, below_setRow hb7 (by omega) _⟩
theorem read_any (f : Nat → Nat) (hf : ∀ i, f i < 256) (w : World) : Calls Try.prog 16 #[bkV f] w fun e w' => e = .returned (.tuple #[.agg (if rdOk f then ndC ((f 4 : Nat) : Int) (decK f) else ndC 0 fun _ => rf0), .int .i64 (if rdOk f then 0 else 70)]) ∧ Below w.heap.size w w' := by
  refine read_by f hf _ _ ?_ w
  show (_, _) = _
  cases rdOk f
  · rfl
  · rfl
end Go.Proofs.Ytednfpponkaelaa

namespace Go.Proofs.Ytednfpponkaelaa
open Go Go.RowKit
set_option linter.unusedSimpArgs false
set_option linter.unusedVariables false

theorem nd_build1 {P : Program} {ops : Array Oper} {rest : List Oper} {o : Oper} {a : Act} {w : World} {Q : Exit → Act → World → Prop} (hg : o.guard = none) (t : TypeId) (x : Operand) (ho : o.op = .build t #[(0, x)]) (vx : Value) (hx : a.eval x = vx)
    (cells : Array Value) (hf : P.built t [(0, vx)] = some cells) (h : wpList P ops Q rest (a.put o.dst (.agg cells)) w) : wpList P ops Q (o :: rest) a w := by
  refine wpList_buildTo hg t _ ho o.dst rfl cells ?_ h
  have e : (Array.map (fun (x : Nat × Operand) => match x with | (i, x) => (i, a.eval x)) #[(0, x)]).toList = [(0, vx)] := by simp [hx]
  rw [e]
  exact hf
theorem le4_dig (n : Nat) (h : n < 4294967296) : le4 (dig n 0) (dig n 1) (dig n 2) (dig n 3) = n := by
  unfold le4 dig
  simp
  omega
/-- what Encode lays, Decode takes -/
theorem decR_of (s : ByteArray) (a : Nat) (r : Rf) (hr : r.1 < 4294967296) (h : ∀ j, j < 36 → tbyte s (a + j) = encR r j) : decR s a = r := by
  obtain ⟨n, d⟩ := r
  unfold decR at4
  have e : ∀ j, j < 4 → tbyte s (a + j) = dig n j := fun j hj => by
    rw [h j (by omega)]
    unfold encR
    rw [if_pos hj]
  have e0 : tbyte s a = dig n 0 := e 0 (by decide)
  rw [e0, e 1 (by decide), e 2 (by decide), e 3 (by decide), le4_dig n hr]
  have e2 : (sumD fun i => tbyte s (a + 4 + i)) = d := dF_inj fun i hi => by
    rw [dF_sumD _ i hi]
    have := h (4 + i) (by omega)
    rw [show a + (4 + i) = a + 4 + i by omega] at this
    rw [this]
    unfold encR
    rw [if_neg (by omega), show 4 + i - 4 = i by omega]
  rw [e2]
theorem rawK_of (l : Nat) (hl : l < 256) (K : Nat → Rf) (hK : ∀ i, i < 4 → okD (K i).2) (hn : ∀ i, i < 4 → (K i).1 < 4294967296) (f : Nat → Nat) (hf : bkSame f (nodeB l K)) (i : Nat) (hi : i < 4) : rawK f i = K i := by
  unfold rawK
  refine decR_of _ _ _ (hn i hi) fun j hj => ?_
  have hb := hf (8 + 36 * i + j) (by omega)
  rw [strN_at f 256 _ (by omega) (by rw [hb]; exact nodeB_lt l hl K hK _), hb, nodeB_kid l K i j hi hj]
theorem nodeB_congr {l : Nat} {K K' : Nat → Rf} (h : ∀ i, i < 4 → K i = K' i) : nodeB l K = nodeB l K' := by
  funext j
  unfold nodeB
  by_cases h1 : j < 8
  · rw [if_pos h1, if_pos h1]
  · rw [if_neg h1, if_neg h1]
    by_cases h2 : j < 152
    · rw [if_pos h2, if_pos h2, h _ (by omega)]
    · rw [if_neg h2, if_neg h2]
theorem ndOk_right {l : Int} {K : Nat → Rf} (h : ndOk l K = true) (i : Nat) (hi : i < 4) : rOk (K i) = true := by
  unfold ndOk at h
  rw [Bool.and_eq_true, List.all_eq_true] at h
  exact h.2 i (by simpa using hi)
theorem ndOk_level {l : Int} {K : Nat → Rf} (h : ndOk l K = true) : 1 ≤ l ∧ l ≤ 6 := by
  unfold ndOk at h
  rw [Bool.and_eq_true, Bool.and_eq_true, decide_eq_true_eq, decide_eq_true_eq] at h
  exact h.1
theorem ndOk_congr {l : Int} {K K' : Nat → Rf} (h : ∀ i, i < 4 → K i = K' i) : ndOk l K = ndOk l K' := by
  unfold ndOk
  congr 1
  rw [Bool.eq_iff_iff, List.all_eq_true, List.all_eq_true]
  constructor
  · intro q i hi
    rw [← h i (by simpa using hi)]
    exact q i hi
  · intro q i hi
    rw [h i (by simpa using hi)]
    exact q i hi
theorem decK_of (l : Nat) (K : Nat → Rf) (hl : ndOk l K = true) (hK : ∀ i, i < 4 → okD (K i).2) (hn : ∀ i, i < 4 → (K i).1 < 4294967296) (f : Nat → Nat) (hf : bkSame f (nodeB l K)) (i : Nat) (hi : i < 4) : decK f i = K i := by
  have h6 := ndOk_level hl
  unfold decK
  rw [rawK_of l (by omega) K hK hn f hf i hi, ndOk_right hl i hi, if_pos rfl]
theorem rdOk_of (l : Nat) (K : Nat → Rf) (hl : ndOk l K = true) (hK : ∀ i, i < 4 → okD (K i).2) (hn : ∀ i, i < 4 → (K i).1 < 4294967296) (f : Nat → Nat) (hf : bkSame f (nodeB l K)) : rdOk f = true := by
  have hd := decK_of l K hl hK hn f hf
  have h4 : f 4 = l := by
    rw [hf 4 (by decide)]
    rfl
  unfold rdOk
  rw [h4, ndOk_congr hd, hl, Bool.true_and, decide_eq_true_eq, nodeB_congr hd]
  exact fun i hi => (hf i hi).symm
/-- the node of awake -/
def K5 : Nat → Rf := fun i => if i = 0 then (5, Vector.replicate 32 0) else rf0
theorem built_r5 : Try.prog.built 31 [(0, .int .u32 5)] = some (rfC (5, Vector.replicate 32 0)) := by kernel_rfl
theorem built_k5 : Try.prog.built 45 [(0, .agg (rfC (5, Vector.replicate 32 0)))] = some (kdC K5) := by kernel_rfl
theorem built_n5 : Try.prog.built 47 [(0, .int .i64 2), (1, .agg (kdC K5))] = some (ndC 2 K5) := by kernel_rfl
theorem K5_ok (i : Nat) (hi : i < 4) : okD (K5 i).2 := by
  unfold K5
  split
  · exact okD_zero
  · exact okD_zero
theorem K5_lt (i : Nat) (hi : i < 4) : (K5 i).1 < 4294967296 := by
  unfold K5
  split
  · decide
  · decide
theorem ndOk5 : ndOk 2 K5 = true := by decide
set_option maxRecDepth 100000 in
set_option maxHeartbeats 4000000 in
theorem awake7_any (w : World) : Calls Try.prog 9 #[] w fun e w' => e = .returned (.bool true) ∧ Below w.heap.size w w' := by
  have hz := zero_node
  have hzb := zero_bk
  have hzr := zero_ref
  have HB : Hid (∀ w, Calls Try.prog 15 #[.agg (ndC 2 K5)] w fun e w' => e = .returned (.tuple #[.agg (va 256 (iv .u8 (nodeB 2 K5))), .int .i64 0]) ∧ Below w.heap.size w w') := fun w => by
    have := block_any 2 K5 K5_ok w
    unfold blkF at this
    rw [ndOk5] at this
    exact this
  have HR : Hid (∀ w, Calls Try.prog 16 #[.agg (va 256 (iv .u8 (nodeB 2 K5)))] w fun e w' => e = .returned (.tuple #[.agg (ndC 2 K5), .int .i64 0]) ∧ Below w.heap.size w w') := fun w => by
    have := read_any (nodeB 2 K5) (nodeB_lt 2 (by decide) K5 K5_ok) w
    have hf : bkSame (nodeB 2 K5) (nodeB 2 K5) := fun i _ => rfl
    rw [rdOk_of 2 K5 ndOk5 K5_ok K5_lt _ hf] at this
    have e : ndC ((nodeB 2 K5 4 : Nat) : Int) (decK (nodeB 2 K5)) = ndC 2 K5 := nd_congr (decK_of 2 K5 ndOk5 K5_ok K5_lt _ hf)
    rw [e] at this
    exact this
  have HQ : ∀ W, (Op.equalIn 10000 47 (.agg (ndC 2 K5)) (.agg (ndC 2 K5))).run Try.prog W = .ok true W := fun W => by
    rw [eq_node 2 2 K5 K5 W, decide_eq_true ⟨rfl, fun _ _ => rfl⟩]
  have HN0 : Hid (∀ w, Calls Try.prog 17 #[.agg (rfC rf0)] w fun e w' => e = .returned (.bool true) ∧ Below w.heap.size w w') := fun w => by
    have := none_any rf0 w
    rwa [decide_eq_true rfl] at this
  have HN1 : Hid (∀ w, Calls Try.prog 17 #[.agg ((rfC rf0).setIfInBounds 0 (.int .u32 1))] w fun e w' => e = .returned (.bool false) ∧ Below w.heap.size w w') := fun w => by
    have := none_any (1, Vector.replicate 32 0) w
    have e1 : (rfC rf0).setIfInBounds 0 (.int .u32 1) = rfC (1, Vector.replicate 32 0) := by kernel_rfl
    rw [e1]
    rwa [decide_eq_false (fun h => by injection h with h1 h2; cases h1)] at this
  have hns : (ndC 2 K5).size = 133 := ndC_size _ _
  have HNA : Hid ((ndC 2 K5).all (·.oneCell') = true) := ndC_all _ _
  have HB5 : Hid (Try.prog.built 31 [(0, .int .u32 5)] = some (rfC (5, Vector.replicate 32 0))) := built_r5
  have HBK : Hid (Try.prog.built 45 [(0, .agg (rfC (5, Vector.replicate 32 0)))] = some (kdC K5)) := built_k5
  have HBN : Hid (Try.prog.built 47 [(0, .int .i64 2), (1, .agg (kdC K5))] = some (ndC 2 K5)) := built_n5
  generalize ndC 2 K5 = nc at *
  generalize kdC K5 = kc at *
  generalize nodeB 2 K5 = bf at *
  generalize rfC (5, Vector.replicate 32 0) = r5 at *
  have a0 : Blk (w.alloc (.cells (ndC 0 fun _ => rf0) 47)) w.heap.size 47 (ndC 0 fun _ => rf0) := Blk.new _ _ _
  have hb : Below w.heap.size w (w.alloc (.cells (ndC 0 fun _ => rf0) 47)) := below_new1 _ _
  go_enter Try.func9, Try.ntmps9
  go_wp2_with (first
    | (refine nd_build1 (by rfl) 31 _ (by rfl) (.int .u32 5) (by rfl) (r5) (by exact HB5.out) ?_; simp only [Act.put, List.setIfInBounds_toArray, List.set_cons_zero, List.set_cons_succ])
    | (refine nd_build1 (by rfl) 45 _ (by rfl) (.agg r5) (by rfl) (kc) (by exact HBK.out) ?_; simp only [Act.put, List.setIfInBounds_toArray, List.set_cons_zero, List.set_cons_succ])
    | (refine nd_build2 (by rfl) 47 _ _ (by rfl) (.int .i64 2) (.agg kc) (by rfl) (by rfl) (nc) (by exact HBN.out) ?_; simp only [Act.put, List.setIfInBounds_toArray, List.set_cons_zero, List.set_cons_succ])
    | (refine wpList_store_row (by rfl) 47 _ _ (by rfl) (w.heap.size) (nc) (by rfl) (by rfl) 47 _ (by exact a0) (sizeNode.trans (by rw [hns])) (by rw [hns, ndC_size]) (HNA.out) ?_; simp only [Act.put, List.setIfInBounds_toArray, List.set_cons_zero, List.set_cons_succ])
    | (refine wpList_load_rowg (by rfl) 47 _ (by rfl) (w.heap.size) (by rfl) 47 (nc) (0, 0) _ (by exact a0.set _) Try.underlying47 (by rfl) (sizeNode.trans (by rw [hns])) ?_; simp only [Act.put, List.setIfInBounds_toArray, List.set_cons_zero, List.set_cons_succ])
    | fail)
  have a1 : Blk ((w.alloc (.cells (ndC 0 fun _ => rf0) 47)).setRow w.heap.size nc) w.heap.size 47 nc := a0.set _
  have hb1 : Below w.heap.size w ((w.alloc (.cells (ndC 0 fun _ => rf0) 47)).setRow w.heap.size nc) := below_setRow hb (Nat.le_refl _) _
  have hs1 : ((w.alloc (.cells (ndC 0 fun _ => rf0) 47)).setRow w.heap.size nc).heap.size = w.heap.size + 1 := by simp
  clear a0 hb HB5 HBK HBN
  generalize ((w.alloc (.cells (ndC 0 fun _ => rf0) 47)).setRow w.heap.size nc) = w1 at *
  refine (HB.out w1).mono ?_
  rintro e w2 ⟨rfl, hb2⟩
  have hs2 := hb2.size
  have b0 : Blk (w2.alloc (.cells (va 256 (iv .u8 fun _ => 0)) 49)) w2.heap.size 49 (va 256 (iv .u8 fun _ => 0)) := Blk.new _ _ _
  have a2 : Blk ((w2.alloc (.cells (va 256 (iv .u8 fun _ => 0)) 49)).setRow w2.heap.size (va 256 (iv .u8 bf))) w.heap.size 47 nc := ((a1.below hb2 (by omega)).alloc _).other _ (by omega)
  have b1 : Blk ((w2.alloc (.cells (va 256 (iv .u8 fun _ => 0)) 49)).setRow w2.heap.size (va 256 (iv .u8 bf))) w2.heap.size 49 (va 256 (iv .u8 bf)) := b0.set _
  have hb3 : Below w.heap.size w ((w2.alloc (.cells (va 256 (iv .u8 fun _ => 0)) 49)).setRow w2.heap.size (va 256 (iv .u8 bf))) := below_setRow ((hb1.trans (hb2.mono (by omega))).alloc (by omega) _) (by omega) _
  have hs3 : ((w2.alloc (.cells (va 256 (iv .u8 fun _ => 0)) 49)).setRow w2.heap.size (va 256 (iv .u8 bf))).heap.size = w2.heap.size + 1 := by simp
  clear a1 hb1 hb2 HB
  go_wp2_with (first
    | (refine wpList_store_row (by rfl) 49 _ _ (by rfl) (w2.heap.size) (va 256 (iv .u8 (bf))) (by rfl) (by rfl) 49 (_) (by exact b0) (sizeBk.trans (by rw [va_size])) (by simp only [va_size]) (iv_one _ _ _) ?_; simp only [Act.put, List.setIfInBounds_toArray, List.set_cons_zero, List.set_cons_succ])
    | (refine wpList_load_rowg (by rfl) 49 _ (by rfl) (w2.heap.size) (by rfl) 49 (va 256 (iv .u8 (bf))) (0, 0) _ (by exact b1) Try.underlying49 (by rfl) (sizeBk.trans (by rw [va_size])) ?_; simp only [Act.put, List.setIfInBounds_toArray, List.set_cons_zero, List.set_cons_succ])
    | fail)
  clear b0
  generalize ((w2.alloc (.cells (va 256 (iv .u8 fun _ => 0)) 49)).setRow w2.heap.size (va 256 (iv .u8 bf))) = w3 at *
  refine (HR.out w3).mono ?_
  rintro e w4 ⟨rfl, hb4⟩
  have hs4 := hb4.size
  have d0 : Blk (w4.alloc (.cells (ndC 0 fun _ => rf0) 47)) w4.heap.size 47 (ndC 0 fun _ => rf0) := Blk.new _ _ _
  have a3 : Blk ((w4.alloc (.cells (ndC 0 fun _ => rf0) 47)).setRow w4.heap.size nc) w.heap.size 47 nc := ((a2.below hb4 (by omega)).alloc _).other _ (by omega)
  have d1 : Blk ((w4.alloc (.cells (ndC 0 fun _ => rf0) 47)).setRow w4.heap.size nc) w4.heap.size 47 nc := d0.set _
  have hb5 : Below w.heap.size w ((w4.alloc (.cells (ndC 0 fun _ => rf0) 47)).setRow w4.heap.size nc) := below_setRow ((hb3.trans (hb4.mono (by omega))).alloc (by omega) _) (by omega) _
  have hs5 : ((w4.alloc (.cells (ndC 0 fun _ => rf0) 47)).setRow w4.heap.size nc).heap.size = w4.heap.size + 1 := by simp
  clear a2 b1 hb3 hb4 HR
  go_wp2_with (first
    | (refine wpList_store_row (by rfl) 47 _ _ (by rfl) (w4.heap.size) (nc) (by rfl) (by rfl) 47 _ (by exact d0) (sizeNode.trans (by rw [hns])) (by rw [hns, ndC_size]) (HNA.out) ?_; simp only [Act.put, List.setIfInBounds_toArray, List.set_cons_zero, List.set_cons_succ])
    | (refine wpList_load_rowg (by rfl) 47 _ (by rfl) (w4.heap.size) (by rfl) 47 (nc) (0, 0) _ (by exact d1) Try.underlying47 (by rfl) (sizeNode.trans (by rw [hns])) ?_; simp only [Act.put, List.setIfInBounds_toArray, List.set_cons_zero, List.set_cons_succ])
    | (refine wpList_load_rowg (by rfl) 47 _ (by rfl) (w.heap.size) (by rfl) 47 (nc) (0, 0) _ (by exact a3) Try.underlying47 (by rfl) (sizeNode.trans (by rw [hns])) ?_; simp only [Act.put, List.setIfInBounds_toArray, List.set_cons_zero, List.set_cons_succ])
    | fail)
  generalize ((w4.alloc (.cells (ndC 0 fun _ => rf0) 47)).setRow w4.heap.size nc) = w5 at *
  refine (HN0.out w5).mono ?_
  rintro e w6 ⟨rfl, hb6⟩
  have hs6 := hb6.size
  have hb7 : Below w.heap.size w w6 := hb5.trans (hb6.mono (by omega))
  clear hb5 hb6 a3 d1
  go_wp2_with fail
  refine (HN1.out w6).mono ?_
  rintro e w7 ⟨rfl, hb8⟩
  have hb9 : Below w.heap.size w w7 := hb7.trans (hb8.mono (by omega))
  clear hb7 hb8
  go_wp2_with fail
  go_ret
  exact ⟨rfl, hb9⟩
end Go.Proofs.Ytednfpponkaelaa
