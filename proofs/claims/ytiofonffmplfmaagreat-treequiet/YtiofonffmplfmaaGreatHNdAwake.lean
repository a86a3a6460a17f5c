/- What is laid is read: a node's block is its own; the statements' awake. -/
import Derived.Test.YtiofonffmplfmaaGreatHNdBlock
import Derived.Handy
import Derived.Test.YtiofonffmplfmaaGreatHSegsTree
import Derived.Test.YtiofonffmplfmaaGreatHDkFns

namespace Go.Proofs.YtiofonffmplfmaaGreat
theorem sgLHNdAwake : (∀ (α : Type) (a : α) (l r : List α), (a :: l) ++ r = a :: (l ++ r)) ∧ (∀ (α : Type) (l : List α), [] ++ l = l) ∧ (∀ (α : Type) (l : List α), l ++ [] = l) ∧ (∀ (α β : Type) (f : α → Option β) (a : α) (l : List α), (a :: l).filterMap f = match f a with | none => l.filterMap f | some b => b :: l.filterMap f) ∧ (∀ (α β : Type) (f : α → Option β), [].filterMap f = []) ∧ (∀ (α : Type) (l : List α) (i : Nat), l.toArray[i]? = l[i]?) ∧ (∀ (α : Type) (a : α) (l : List α), (a :: l)[0]? = some a) ∧ (∀ (α : Type) (a : α) (l : List α) (i : Nat), (a :: l)[i + 1]? = l[i]?) :=
  ⟨fun _ _ _ _ => List.cons_append, fun _ _ => List.nil_append _, fun _ _ => List.append_nil _, fun _ _ _ _ _ => List.filterMap_cons, fun _ _ _ => List.filterMap_nil, fun _ _ _ => List.getElem?_toArray, fun _ _ _ => List.getElem?_cons_zero, fun _ _ _ _ => List.getElem?_cons_succ⟩
theorem sgPHNdAwake : (∀ (α : Type) (l : List α) (i : Nat) (a : α), l.toArray.setIfInBounds i a = (l.set i a).toArray) ∧ (∀ (α : Type) (a b : α) (l : List α), (a :: l).set 0 b = b :: l) ∧ (∀ (α : Type) (a b : α) (l : List α) (i : Nat), (a :: l).set (i + 1) b = a :: l.set i b) :=
  ⟨fun _ _ _ _ => List.setIfInBounds_toArray _ _ _, fun _ _ _ _ => List.set_cons_zero, fun _ _ _ _ _ => List.set_cons_succ⟩
end Go.Proofs.YtiofonffmplfmaaGreat
namespace Go.Proofs.YtiofonffmplfmaaGreat
open Go Go.RowKit
set_option linter.unusedSimpArgs false
set_option linter.unusedVariables false

theorem nd_build_at {P : Program} {ops : Array Oper} {rest : List Oper} {o : Oper} {a : Act} {w : World} {Q : Exit → Act → World → Prop} (hw : Region.wanted o (yielded ops a.tmps) = true) (t : TypeId) (parts : Array (Nat × Operand)) (ho : o.op = .build t parts) (vals : List (Nat × Value))
    (hv : (parts.map fun (i, x) => (i, a.eval x)).toList = vals) (cells : Array Value) (hf : P.built t vals = some cells) (h : wpList P ops Q rest (a.put o.dst (.agg cells)) w) : wpList P ops Q (o :: rest) a w :=
  wpList_step fun K hK => by
    rw [if_pos hw]
    subst hv
    refine wp_build t parts ho (by rw [hf]; rfl) ?_
    rw [hf]
    exact hK _ _ h
/-- the references that stand in a block; those that are right -/
def rawK (f : Nat → Nat) : Nat → Rf := fun i => decR (strN f 256) (8 + 36 * i)
def decK (f : Nat → Nat) : Nat → Rf := fun i => if rOk (rawK f i) then rawK f i else rf0
theorem decK_ok (f : Nat → Nat) (i : Nat) : okD (decK f i).2 := by
  unfold decK
  split
  · exact decR_ok _ _
  · exact okD_zero
/-- a reference laid into a node -/
def kdSet (K : Nat → Rf) (i : Nat) (r : Rf) : Nat → Rf := fun j => if j = i then r else K j
theorem nd_over (l : Int) (K : Nat → Rf) (i : Nat) (r : Rf) (hi : i < 4) : va 133 (over (ndF l K) (1 + i * 33) (rfC r).toList) = va 133 (ndF l (kdSet K i r)) := va_congr fun j hj => by
  have hl : (rfC r).toList.length = 33 := by rw [Array.length_toList, rfC_size]
  unfold over
  rw [hl]
  by_cases h : 1 + i * 33 ≤ j ∧ j < 1 + i * 33 + 33
  · rw [if_pos h]
    obtain ⟨d, rfl⟩ : ∃ d, j = 1 + i * 33 + d := ⟨j - (1 + i * 33), by omega⟩
    rw [show 1 + i * 33 + d - (1 + i * 33) = d by omega, ndF_at l _ i d (by omega)]
    have e : kdSet K i r i = r := by
      unfold kdSet
      rw [if_pos rfl]
    rw [e]
    have := va_at (rfF r.1 r.2) (show d < 33 by omega)
    unfold rfC
    rw [List.getD_eq_getElem?_getD, Array.getElem?_toList, this]
    rfl
  · rw [if_neg h]
    unfold ndF kdF
    by_cases h0 : j = 0
    · rw [if_pos h0, if_pos h0]
    · have e : kdSet K i r ((j - 1) / 33) = K ((j - 1) / 33) := by
        unfold kdSet
        rw [if_neg (by omega)]
      rw [if_neg h0, if_neg h0, e]
/-- the first k references taken -/
def upK (f : Nat → Nat) (k : Nat) : Nat → Rf := fun i => if i < k then decK f i else rf0
theorem upK_step (f : Nat → Nat) (k : Nat) : kdSet (upK f k) k (decK f k) = upK f (k + 1) := by
  funext j
  unfold kdSet upK
  by_cases h : j = k
  · subst h
    rw [if_pos rfl, if_pos (by omega)]
  · rw [if_neg h]
    by_cases h2 : j < k
    · rw [if_pos h2, if_pos (by omega)]
    · rw [if_neg h2, if_neg (by omega)]
/-- is a block just a node's? -/
def rdOk (f : Nat → Nat) : Bool := ndOk ((f 4 : Nat) : Int) (decK f) && decide (bkSame (nodeB (f 4) (decK f)) f)
set_option maxRecDepth 100000 in
set_option maxHeartbeats 4000000 in
theorem read_by (f : Nat → Nat) (hf : ∀ i, f i < 256) (X : Array Value) (Y : Int) (HXY : Hid ((X, Y) = if rdOk f then (ndC ((f 4 : Nat) : Int) (decK f), (0 : Int)) else (ndC 0 fun _ => rf0, 70))) (w : World) : Calls Tryz.prog 69 #[bkV f] w fun e w' => e = .returned (.tuple #[.agg X, .int .i64 Y]) ∧ Below w.heap.size w w' := by
  have HT : Hid (∀ w, Calls Tryz.prog 84 #[.agg (va 256 (iv .u8 f))] w fun e w' => e = .returned (.string (strN f 256)) ∧ Below w.heap.size w w') := textOf_any f
  unfold bkV
  have hz := zero_node
  have hzb := zero_bk
  have r0 : Blk ((w.alloc (.cells (va 256 (iv .u8 f)) 52)).alloc (.cells (ndC 0 fun _ => rf0) 142)) w.heap.size 52 (va 256 (iv .u8 f)) := (Blk.new _ _ _).alloc _
  have r1 : Blk ((w.alloc (.cells (va 256 (iv .u8 f)) 52)).alloc (.cells (ndC 0 fun _ => rf0) 142)) (w.heap.size + 1) 142 (ndC 0 fun _ => rf0) := Blk.new1 _ _ _ _
  have hb : Below w.heap.size w ((w.alloc (.cells (va 256 (iv .u8 f)) 52)).alloc (.cells (ndC 0 fun _ => rf0) 142)) := below_new2 _ _ _
  have hsz : ((w.alloc (.cells (va 256 (iv .u8 f)) 52)).alloc (.cells (ndC 0 fun _ => rf0) 142)).heap.size = w.heap.size + 2 := by simp
  go_enter Tryz.func69, Tryz.ntmps69
  go_wp2_with (first
    | (refine wpList_load_rowg (by rfl) 52 _ (by rfl) (w.heap.size) (by rfl) 52 (va 256 (iv .u8 (f))) (0, 0) _ (by exact r0) Tryz.underlying52 (by rfl) (sizeBk.trans (by rw [va_size])) ?_; simp only [Act.put, sgPHNdAwake])
    | fail)
  generalize ((w.alloc (.cells (va 256 (iv .u8 f)) 52)).alloc (.cells (ndC 0 fun _ => rf0) 142)) = w0 at *
  refine (HT.out w0).mono ?_
  rintro e w1 ⟨rfl, hb1⟩
  have hs1 := hb1.size
  have a0 : Blk w1 w.heap.size 52 (va 256 (iv .u8 f)) := r0.below hb1 (by omega)
  have a1 : Blk w1 (w.heap.size + 1) 142 (ndC 0 fun _ => rf0) := r1.below hb1 (by omega)
  have hb2 : Below w.heap.size w w1 := hb.trans (hb1.mono (by omega))
  have x0 : w1.cell? ⟨w.heap.size, 4, none⟩ = some (.int .u8 ((f 4 : Nat) : Int)) := a0.cv (by decide)
  have hbt : Tryz.prog.built 142 [(0, .int .i64 ((f 4 : Nat) : Int))] = some (ndC ((f 4 : Nat) : Int) fun _ => rf0) := built_node1 _
  have HBT : Hid (Tryz.prog.built 142 [(0, .int .i64 ((f 4 : Nat) : Int))] = some (ndC ((f 4 : Nat) : Int) fun _ => rf0)) := hbt
  have f4 := hf 4
  have e4 : ((f 4 : Nat) : Int) % 18446744073709551616 = ((f 4 : Nat) : Int) := by omega
  clear r0 r1 hb hb1 HT hbt
  have b2 : Blk (w1.alloc (.cells (ndC 0 fun _ => rf0) 142)) w1.heap.size 142 (ndC 0 fun _ => rf0) := Blk.new _ _ _
  go_wp2_with (first
    | (refine nd_build_at (by rfl) 142 _ (by rfl) ([(0, .int .i64 ((f 4 : Nat) : Int))]) (by rfl) (ndC ((f 4 : Nat) : Int) fun _ => rf0) (by exact HBT.out) ?_; simp only [Act.put, sgPHNdAwake])
    | (refine wpList_store_row (by rfl) 142 _ _ (by rfl) (w1.heap.size) (ndC ((f 4 : Nat) : Int) fun _ => rf0) (by rfl) (by rfl) 142 (_) (by exact b2) (sizeNode.trans (by rw [ndC_size])) (by simp only [ndC_size]) (ndC_all _ _) ?_; simp only [Act.put, sgPHNdAwake])
    | fail)
  have c0 : Blk ((w1.alloc (.cells (ndC 0 fun _ => rf0) 142)).setRow w1.heap.size (ndC ((f 4 : Nat) : Int) fun _ => rf0)) w.heap.size 52 (va 256 (iv .u8 f)) := (a0.alloc _).other _ (by omega)
  have c1 : Blk ((w1.alloc (.cells (ndC 0 fun _ => rf0) 142)).setRow w1.heap.size (ndC ((f 4 : Nat) : Int) fun _ => rf0)) (w.heap.size + 1) 142 (ndC 0 fun _ => rf0) := (a1.alloc _).other _ (by omega)
  have c2 : Blk ((w1.alloc (.cells (ndC 0 fun _ => rf0) 142)).setRow w1.heap.size (ndC ((f 4 : Nat) : Int) fun _ => rf0)) w1.heap.size 142 (va 133 (ndF ((f 4 : Nat) : Int) fun _ => rf0)) := b2.set _
  have hb3 : Below w.heap.size w ((w1.alloc (.cells (ndC 0 fun _ => rf0) 142)).setRow w1.heap.size (ndC ((f 4 : Nat) : Int) fun _ => rf0)) := below_setRow (hb2.alloc (by omega) _) (by omega) _
  have hs4 : ((w1.alloc (.cells (ndC 0 fun _ => rf0) 142)).setRow w1.heap.size (ndC ((f 4 : Nat) : Int) fun _ => rf0)).heap.size = w1.heap.size + 1 := by simp
  clear a0 a1 hb2 x0 HBT b2
  generalize ((w1.alloc (.cells (ndC 0 fun _ => rf0) 142)).setRow w1.heap.size (ndC ((f 4 : Nat) : Int) fun _ => rf0)) = w4 at *
  clear h
  go_loopw [15] (fun i wr => ∃ k : Nat, k ≤ 4 ∧ i = .int .i64 (k : Int) ∧ Blk wr w.heap.size 52 (va 256 (iv .u8 f)) ∧ Blk wr (w.heap.size + 1) 142 (ndC 0 fun _ => rf0) ∧ Blk wr w1.heap.size 142 (va 133 (ndF ((f 4 : Nat) : Int) (upK f k))) ∧ Below w.heap.size w wr ∧ w1.heap.size + 1 ≤ wr.heap.size) (fun i _ => 4 - (intOf i).toNat)
  case atStart => exact ⟨0, by omega, rfl, c0, c1, c2, hb3, by omega⟩
  case round =>
    clear c0 c1 c2 hb3 hs4
    obtain ⟨k, hk, rfl, c0, c1, c2, hb, hs⟩ := hrel
    by_cases hlt : k < 4
    · have k1 : (k : Int) < 4 := by omega
      have HD : Hid (∀ w, Calls Tryz.prog 48 #[.string (strN f 256), .int .i64 (8 + 36 * (k : Int))] w fun e w' => e = .returned (.tuple #[.agg (rfC (decK f k)), .bool (rOk (rawK f k))]) ∧ Below w.heap.size w w') := fun w => by
        have hz : (strN f 256).size = 256 := strN_size _ _
        rw [show (8 + 36 * (k : Int)) = ((8 + 36 * k : Nat) : Int) by omega]
        exact decodeR_good (strN f 256) (8 + 36 * k) (by rw [hz]; unfold maxLen; decide) (by rw [hz]; omega) w
      have HU : Hid (va 133 (over (ndF ((f 4 : Nat) : Int) (upK f k)) (1 + k * 33) (rfC (decK f k)).toList) = va 133 (ndF ((f 4 : Nat) : Int) (upK f (k + 1)))) := by
        show _ = _
        rw [nd_over _ _ k _ hlt, upK_step]
      have e8 : (8 : Int) + (k : Int) * 36 = 8 + 36 * (k : Int) := by omega
      generalize strN f 256 = t at *
      generalize rOk (rawK f k) = b at *
      have HRS : (rfC (decK f k)).size = 33 := rfC_size _
      have HRA : Hid ((rfC (decK f k)).all (·.oneCell') = true) := rfC_all _
      generalize rfC (decK f k) = rc at *
      go_wp2_with fail
      refine (HD.out wr).mono ?_
      rintro e w5 ⟨rfl, hb5⟩
      have hs5 := hb5.size
      have d0 : Blk w5 w.heap.size 52 (va 256 (iv .u8 f)) := c0.below hb5 (by omega)
      have d1 : Blk w5 (w.heap.size + 1) 142 (ndC 0 fun _ => rf0) := c1.below hb5 (by omega)
      have d2 : Blk w5 w1.heap.size 142 (va 133 (ndF ((f 4 : Nat) : Int) (upK f k))) := c2.below hb5 (by omega)
      have hb6 : Below w.heap.size w w5 := hb.trans (hb5.mono (by omega))
      clear c0 c1 c2 hb hb5 HD
      go_wp2_with (first
        | (refine wpList_store_mid (by rfl) 43 _ _ (by rfl) (w1.heap.size) (1 + k * 33) rc (by rfl) (by rfl) (by exact d2.there (1 + k * 33) _ (by rw [HRS, va_size]; omega)) (slSizeRef.trans (by rw [HRS])) (HRA.out) ?_; simp only [Act.put, sgPHNdAwake])
        | fail)
      have g0 : Blk (w5.setCells w1.heap.size (1 + k * 33) rc.toList) w.heap.size 52 (va 256 (iv .u8 f)) := d0.cells_other (by omega) _ _ _
      have g1 : Blk (w5.setCells w1.heap.size (1 + k * 33) rc.toList) (w.heap.size + 1) 142 (ndC 0 fun _ => rf0) := d1.cells_other (by omega) _ _ _
      have g2 : Blk (w5.setCells w1.heap.size (1 + k * 33) rc.toList) w1.heap.size 142 (va 133 (ndF ((f 4 : Nat) : Int) (upK f (k + 1)))) := by
        rw [← HU.out]
        exact d2.cells_put _ _ _
      have hb7 : Below w.heap.size w (w5.setCells w1.heap.size (1 + k * 33) rc.toList) := below_setCells (by omega) _ _ _ hb6
      have hs7 : (w5.setCells w1.heap.size (1 + k * 33) rc.toList).heap.size = w5.heap.size := size_setCells _ _ _
      clear d0 d1 d2 hb6
      generalize (w5.setCells w1.heap.size (1 + k * 33) rc.toList) = w6 at *
      go_wp2_with fail
      go_roundw
      case rel => exact ⟨k + 1, by omega, by simp, g0, g1, g2, hb7, by omega⟩
      case measure => simp [intOf]; omega
    · have e : k = 4 := by omega
      subst e
      have HK : Hid (va 133 (ndF ((f 4 : Nat) : Int) (upK f 4)) = ndC ((f 4 : Nat) : Int) (decK f)) := nd_congr fun i hi => by
        unfold upK
        rw [if_pos hi]
      have c3 : Blk wr w1.heap.size 142 (ndC ((f 4 : Nat) : Int) (decK f)) := by
        rw [← HK.out]
        exact c2
      clear c2 HK
      have HB : Hid (∀ w, Calls Tryz.prog 85 #[.agg (ndC ((f 4 : Nat) : Int) (decK f))] w fun e w' => e = .returned (.tuple #[.agg (va 256 (iv .u8 (blkF ((f 4 : Nat) : Int) (decK f)))), .int .i64 (if ndOk ((f 4 : Nat) : Int) (decK f) then 0 else 1)]) ∧ Below w.heap.size w w') := block_any _ _ fun i _ => decK_ok f i
      have HQ : Hid (∀ W, (Op.equalIn 10000 52 (.agg (va 256 (iv .u8 (blkF ((f 4 : Nat) : Int) (decK f))))) (.agg (va 256 (iv .u8 f)))).run Tryz.prog W = .ok (decide (bkSame (blkF ((f 4 : Nat) : Int) (decK f)) f)) W) := eq_bk 52 Tryz.underlying52 _ _
      have HG : Hid (ndOk ((f 4 : Nat) : Int) (decK f) = true → blkF ((f 4 : Nat) : Int) (decK f) = nodeB (f 4) (decK f)) := fun h => by
        unfold blkF
        rw [h]
        rfl
      have HRO : Hid (rdOk f = (ndOk ((f 4 : Nat) : Int) (decK f) && decide (bkSame (nodeB (f 4) (decK f)) f))) := rfl
      generalize blkF ((f 4 : Nat) : Int) (decK f) = bf at *
      generalize hok : ndOk ((f 4 : Nat) : Int) (decK f) = ok at *
      obtain ⟨nc, hnc⟩ : ∃ nc, nc = ndC ((f 4 : Nat) : Int) (decK f) := ⟨_, rfl⟩
      have HNS : nc.size = 133 := by rw [hnc]; exact ndC_size _ _
      have HNA : Hid (nc.all (·.oneCell') = true) := by rw [hnc]; exact ndC_all _ _
      rw [← hnc] at c3 HB HXY
      clear hnc hok
      go_wp2_with (first
        | (refine wpList_load_rowg (by rfl) 142 _ (by rfl) (w1.heap.size) (by rfl) 142 (nc) (0, 0) _ (by exact c3) Tryz.underlying142 (by rfl) (sizeNode.trans (by rw [HNS])) ?_; simp only [Act.put, sgPHNdAwake])
        | fail)
      refine (HB.out wr).mono ?_
      rintro e w5 ⟨rfl, hb5⟩
      have hs5 := hb5.size
      have d0 : Blk (w5.alloc (.cells (va 256 (iv .u8 fun _ => 0)) 52)) w.heap.size 52 (va 256 (iv .u8 f)) := (c0.below hb5 (by omega)).alloc _
      have d1 : Blk (w5.alloc (.cells (va 256 (iv .u8 fun _ => 0)) 52)) (w.heap.size + 1) 142 (ndC 0 fun _ => rf0) := (c1.below hb5 (by omega)).alloc _
      have d2 : Blk (w5.alloc (.cells (va 256 (iv .u8 fun _ => 0)) 52)) w1.heap.size 142 nc := (c3.below hb5 (by omega)).alloc _
      have d3 : Blk (w5.alloc (.cells (va 256 (iv .u8 fun _ => 0)) 52)) w5.heap.size 52 (va 256 (iv .u8 fun _ => 0)) := Blk.new _ _ _
      have hb6 : Below w.heap.size w (w5.alloc (.cells (va 256 (iv .u8 fun _ => 0)) 52)) := (hb.trans (hb5.mono (by omega))).alloc (by omega) _
      clear c0 c1 c3 hb hb5 HB
      cases ok
      · have hxy := HXY.out
        rw [HRO.out] at hxy
        injection hxy with hx hy
        clear HXY HRO HG HQ
        go_wp2_with (first
          | (refine wpList_store_row (by rfl) 52 _ _ (by rfl) (w5.heap.size) (va 256 (iv .u8 (bf))) (by rfl) (by rfl) 52 (_) (by exact d3) (sizeBk.trans (by rw [va_size])) (by simp only [va_size]) (iv_one _ _ _) ?_; simp only [Act.put, sgPHNdAwake])
          | (refine wpList_store_row (by rfl) 142 _ _ (by rfl) (w.heap.size + 1) (ndC 0 fun _ => rf0) (by rfl) (by rfl) 142 _ (by exact d1.other _ (by omega)) (sizeNode.trans (by rw [ndC_size])) (by simp only [ndC_size]) (ndC_all _ _) ?_; simp only [Act.put, sgPHNdAwake])
          | fail)
        try simp only [Exit.inBlock, Exit.then]
        refine bodyPost_ret (results_row2 Tryz.results69 _ _ (w.heap.size + 1) 142 (ndC 0 fun _ => rf0) (0, 0) _ rfl ((d1.other _ (by omega)).set _) Tryz.underlying142 rfl (sizeNode.trans (by rw [ndC_size]))) rfl ?_
        subst hx hy
        exact ⟨rfl, below_setRow (below_setRow hb6 (by omega) _) (by omega) _⟩
      · have hbf := HG.out rfl
        have hxy := HXY.out
        rw [HRO.out, Bool.true_and, ← hbf] at hxy
        have heq := HQ.out
        generalize decide (bkSame bf f) = c at *
        clear HXY HRO HG HQ hbf
        have g0 : Blk ((w5.alloc (.cells (va 256 (iv .u8 fun _ => 0)) 52)).setRow w5.heap.size (va 256 (iv .u8 bf))) w.heap.size 52 (va 256 (iv .u8 f)) := d0.other _ (by omega)
        have g1 : Blk ((w5.alloc (.cells (va 256 (iv .u8 fun _ => 0)) 52)).setRow w5.heap.size (va 256 (iv .u8 bf))) (w.heap.size + 1) 142 (ndC 0 fun _ => rf0) := d1.other _ (by omega)
        have g2 : Blk ((w5.alloc (.cells (va 256 (iv .u8 fun _ => 0)) 52)).setRow w5.heap.size (va 256 (iv .u8 bf))) w1.heap.size 142 nc := d2.other _ (by omega)
        have g3 : Blk ((w5.alloc (.cells (va 256 (iv .u8 fun _ => 0)) 52)).setRow w5.heap.size (va 256 (iv .u8 bf))) w5.heap.size 52 (va 256 (iv .u8 bf)) := d3.set _
        have hb7 : Below w.heap.size w ((w5.alloc (.cells (va 256 (iv .u8 fun _ => 0)) 52)).setRow w5.heap.size (va 256 (iv .u8 bf))) := below_setRow hb6 (by omega) _
        cases c
        · injection hxy with hx hy
          go_wp2_with (first
            | (refine wpList_store_row (by rfl) 52 _ _ (by rfl) (w5.heap.size) (va 256 (iv .u8 (bf))) (by rfl) (by rfl) 52 (_) (by exact d3) (sizeBk.trans (by rw [va_size])) (by simp only [va_size]) (iv_one _ _ _) ?_; simp only [Act.put, sgPHNdAwake])
            | (refine wpList_load_rowg (by rfl) 52 _ (by rfl) (w5.heap.size) (by rfl) 52 (va 256 (iv .u8 (bf))) (0, 0) _ (by exact g3) Tryz.underlying52 (by rfl) (sizeBk.trans (by rw [va_size])) ?_; simp only [Act.put, sgPHNdAwake])
            | (refine wpList_load_rowg (by rfl) 52 _ (by rfl) (w.heap.size) (by rfl) 52 (va 256 (iv .u8 (f))) (0, 0) _ (by exact g0) Tryz.underlying52 (by rfl) (sizeBk.trans (by rw [va_size])) ?_; simp only [Act.put, sgPHNdAwake])
            | (refine wpList_store_row (by rfl) 142 _ _ (by rfl) (w.heap.size + 1) (ndC 0 fun _ => rf0) (by rfl) (by rfl) 142 (_) (by exact g1) (sizeNode.trans (by rw [ndC_size])) (by simp only [ndC_size]) (ndC_all _ _) ?_; simp only [Act.put, sgPHNdAwake])
            | fail)
          try simp only [Exit.inBlock, Exit.then]
          refine bodyPost_ret (results_row2 Tryz.results69 _ _ (w.heap.size + 1) 142 (ndC 0 fun _ => rf0) (0, 0) _ rfl (g1.set _) Tryz.underlying142 rfl (sizeNode.trans (by rw [ndC_size]))) rfl ?_
          subst hx hy
          exact ⟨rfl, below_setRow hb7 (by omega) _⟩
        · injection hxy with hx hy
          go_wp2_with (first
            | (refine wpList_store_row (by rfl) 52 _ _ (by rfl) (w5.heap.size) (va 256 (iv .u8 (bf))) (by rfl) (by rfl) 52 (_) (by exact d3) (sizeBk.trans (by rw [va_size])) (by simp only [va_size]) (iv_one _ _ _) ?_; simp only [Act.put, sgPHNdAwake])
            | (refine wpList_load_rowg (by rfl) 52 _ (by rfl) (w5.heap.size) (by rfl) 52 (va 256 (iv .u8 (bf))) (0, 0) _ (by exact g3) Tryz.underlying52 (by rfl) (sizeBk.trans (by rw [va_size])) ?_; simp only [Act.put, sgPHNdAwake])
            | (refine wpList_load_rowg (by rfl) 52 _ (by rfl) (w.heap.size) (by rfl) 52 (va 256 (iv .u8 (f))) (0, 0) _ (by exact g0) Tryz.underlying52 (by rfl) (sizeBk.trans (by rw [va_size])) ?_; simp only [Act.put, sgPHNdAwake])
            | (refine wpList_load_rowg (by rfl) 142 _ (by rfl) (w1.heap.size) (by rfl) 142 (nc) (0, 0) _ (by exact g2) Tryz.underlying142 (by rfl) (sizeNode.trans (by rw [HNS])) ?_; simp only [Act.put, sgPHNdAwake])
            | (refine wpList_store_row (by rfl) 142 _ _ (by rfl) (w.heap.size + 1) (nc) (by rfl) (by rfl) 142 _ (by exact g1) (sizeNode.trans (by rw [HNS])) (by rw [HNS, ndC_size]) (HNA.out) ?_; simp only [Act.put, sgPHNdAwake])
            | fail)
          try simp only [Exit.inBlock, Exit.then]
          refine bodyPost_ret (results_row2 Tryz.results69 _ _ (w.heap.size + 1) 142 (nc) (0, 0) _ rfl (g1.set _) Tryz.underlying142 rfl (sizeNode.trans (by rw [HNS]))) rfl ?_
          subst hx hy
          exact ⟨rfl, below_setRow hb7 (by omega) _⟩
theorem read_any (f : Nat → Nat) (hf : ∀ i, f i < 256) (w : World) : Calls Tryz.prog 69 #[bkV f] w fun e w' => e = .returned (.tuple #[.agg (if rdOk f then ndC ((f 4 : Nat) : Int) (decK f) else ndC 0 fun _ => rf0), .int .i64 (if rdOk f then 0 else 70)]) ∧ Below w.heap.size w w' := by
  refine read_by f hf _ _ ?_ w
  show (_, _) = _
  cases rdOk f
  · rfl
  · rfl
end Go.Proofs.YtiofonffmplfmaaGreat

namespace Go.Proofs.YtiofonffmplfmaaGreat
open Go Go.RowKit
set_option linter.unusedSimpArgs false
set_option linter.unusedVariables false

set_option maxRecDepth 100000 in
set_option maxHeartbeats 4000000 in
theorem rnone_any (r : Rf) (w : World) : Calls Tryz.prog 35 #[.agg (rfC r)] w fun e w' => e = .returned (.bool (decide (r = rf0))) ∧ Below w.heap.size w w' := by
  have r0 : Blk (w.alloc (.cells (rfC r) 31)) w.heap.size 31 (rfC r) := Blk.new _ _ _
  have hb : Below w.heap.size w (w.alloc (.cells (rfC r) 31)) := below_new1 _ _
  have hz := zero_rref
  have hq : ∀ W, (Op.equalIn 10000 31 (.agg (rfC r)) (.agg (rfC rf0))).run Tryz.prog W = .ok (decide (r = rf0)) W := eq_rref 9997 r rf0
  obtain ⟨b, hbd⟩ : ∃ b, b = decide (r = rf0) := ⟨_, rfl⟩
  rw [← hbd] at hq ⊢
  clear hbd
  go_enter Tryz.func35, Tryz.ntmps35
  go_wp2_with (first
    | (refine wpList_load_rowg (by rfl) 31 _ (by rfl) (w.heap.size) (by rfl) 31 (rfC r) (0, 0) _ (by exact r0) Tryz.underlying31 (by rfl) (sizeRref.trans (by rw [rfC_size])) ?_; simp only [Act.put, sgPHNdAwake])
    | fail)
  go_ret
  exact ⟨rfl, hb⟩
set_option maxRecDepth 100000 in
set_option maxHeartbeats 4000000 in
theorem rright_any (r : Rf) (w : World) : Calls Tryz.prog 33 #[.agg (rfC r)] w fun e w' => e = .returned (.bool (rOk r)) ∧ Below w.heap.size w w' := by
  have r0 : Blk (w.alloc (.cells (rfC r) 31)) w.heap.size 31 (rfC r) := Blk.new _ _ _
  have hb : Below w.heap.size w (w.alloc (.cells (rfC r) 31)) := below_new1 _ _
  have hsz : (w.alloc (.cells (rfC r) 31)).heap.size = w.heap.size + 1 := by simp
  have hn : Hid (∀ w, Calls Tryz.prog 35 #[.agg (rfC r)] w fun e w' => e = .returned (.bool (decide (r = rf0))) ∧ Below w.heap.size w w') := rnone_any r
  have hx : (w.alloc (.cells (rfC r) 31)).cell? ⟨w.heap.size, 0, none⟩ = some (.int .u32 (r.1 : Int)) := by
    rw [r0.cell]
    exact va_at (rfF r.1 r.2) (by decide)
  have HO : Hid (rOk r = (decide (r = rf0) || decide (r.1 ≠ 0))) := rfl
  obtain ⟨b, hbd⟩ : ∃ b, b = decide (r = rf0) := ⟨_, rfl⟩
  obtain ⟨n, hnd⟩ : ∃ n, n = r.1 := ⟨_, rfl⟩
  rw [← hbd] at hn HO
  rw [← hnd] at hx HO
  clear hbd hnd
  go_enter Tryz.func33, Tryz.ntmps33
  go_wp2_with (first
    | (refine wpList_load_rowg (by rfl) 31 _ (by rfl) (w.heap.size) (by rfl) 31 (rfC r) (0, 0) _ (by exact r0) Tryz.underlying31 (by rfl) (sizeRref.trans (by rw [rfC_size])) ?_; simp only [Act.put, sgPHNdAwake])
    | fail)
  generalize (w.alloc (.cells (rfC r) 31)) = w1 at *
  refine (hn.out w1).mono ?_
  rintro e w2 ⟨rfl, hb2⟩
  have r2 : Blk w2 w.heap.size 31 (rfC r) := r0.below hb2 (by omega)
  have hx2 : w2.cell? ⟨w.heap.size, 0, none⟩ = some (.int .u32 (n : Int)) := by
    rw [← hx, r2.cell, r0.cell]
  have hb3 : Below w.heap.size w w2 := hb.trans (hb2.mono (by omega))
  clear hn hx r0 hb hb2 r2
  cases b
  · go_wp2_with fail
    go_ret
    refine ⟨?_, hb3⟩
    rw [HO.out]
    by_cases h0 : n = 0
    · subst h0
      rfl
    · have : ¬ (n : Int) = 0 := by omega
      simp [h0, this]
  · go_wp2_with fail
    go_ret
    refine ⟨?_, hb3⟩
    rw [HO.out]
    rfl
theorem built_refC (a : Nat) (d : Vector Nat 32) : Tryz.prog.built 43 [(0, .int .u32 (a : Int)), (1, .agg (va 32 (iv .u8 (dF d))))] = some (rfC (a, d)) := built_refD a d
theorem digs_byL (n : Nat) : (digs n 4).map (Value.int .u8) = byL (dig n) 4 := by
  unfold digs byL dig
  rw [List.map_map]
  rfl
theorem encR_cells (r : Rf) : byL (encR r) 36 = byL (dig r.1) 4 ++ byL (dF r.2) 32 := by
  rw [show (36 : Nat) = 4 + 32 from rfl, byL_add]
  have h1 : byL (encR r) 4 = byL (dig r.1) 4 := byL_congr fun j hj => by unfold encR; rw [if_pos hj]
  have h2 : byL (fun j => encR r (4 + j)) 32 = byL (dF r.2) 32 := byL_congr fun j hj => by unfold encR; rw [if_neg (by omega), show 4 + j - 4 = j by omega]
  rw [h1, h2]
theorem rf_mid (r : Rf) {w : World} {b t : Nat} (h : Blk w b t (va 33 (rfF r.1 r.2))) : ∀ j u, (byL (dF r.2) 32)[j]? = some u → w.cell? ((⟨b, 1, none⟩ : Addr).add j) = some u := fun j u hu => by
  have hj : j < 32 := by
    rcases Nat.lt_or_ge j 32 with h1 | h1
    · exact h1
    · rw [List.getElem?_eq_none (by rw [byL_length]; exact h1)] at hu
      cases hu
  rw [byL_at _ _ _ hj] at hu
  injection hu with hu
  subst hu
  rw [Addr.add_mid, h.cell, va_at (rfF r.1 r.2) (by omega)]
  unfold rfF
  rw [if_neg (by omega), show 1 + j - 1 = j by omega]
set_option maxRecDepth 100000 in
set_option maxHeartbeats 4000000 in
theorem refEncR_any (r : Rf) (hn : r.1 < 4294967296) (w : World) : Calls Tryz.prog 81 #[.agg (rfC r)] w fun e w' => ∃ g c, e = .returned (.slice (some ⟨g, 0, none⟩) 36 c) ∧ w'.ownsRow (w.heap.size + 1) 5 1 (.slice (some ⟨g, 0, none⟩) 36 c) 36 (byL (encR r) 36) ∧ Below w.heap.size w w' := by
  obtain ⟨i0, hi, hz0, hz1, hz2⟩ := info_parts infoU8k
  have r0 : Blk (w.alloc (.cells (rfC r) 31)) w.heap.size 31 (va 33 (rfF r.1 r.2)) := Blk.new _ _ _
  have hb : Below w.heap.size w (w.alloc (.cells (rfC r) 31)) := below_new1 _ _
  have hsz : (w.alloc (.cells (rfC r) 31)).heap.size = w.heap.size + 1 := by simp
  have HBY : Hid (∀ w, Calls Tryz.prog 91 #[.int .u64 (r.1 : Int), .int .i64 4] w fun e w' => ∃ v, e = .returned v ∧ w'.ownsRow w.heap.size 5 1 v 4 (byL (dig r.1) 4) ∧ Below w.heap.size w w') := fun w => by
    have := refBytes_own r.1 4 (by decide) (by omega) w
    rw [digs_byL] at this
    exact this
  have e1 : IntKind.u64.wrap (r.1 : Int) = (r.1 : Int) := by
    show (r.1 : Int) % 18446744073709551616 = _
    omega
  go_enter Tryz.func81, Tryz.ntmps81
  go_wp2_with fail
  generalize (w.alloc (.cells (rfC r) 31)) = w1 at *
  have r2 : Blk w1.drew w.heap.size 31 (va 33 (rfF r.1 r.2)) := r0.drew
  have hb2 : Below w.heap.size w w1.drew := hb.drew
  have hs2 : w1.drew.heap.size = w.heap.size + 1 := hsz
  have x0 : w1.drew.cell? ⟨w.heap.size, 0, none⟩ = some (.int .u32 (r.1 : Int)) := by
    rw [r2.cell]
    exact va_at (rfF r.1 r.2) (by decide)
  clear r0 hb
  refine wp_region_partsS (fun W => W.cell? ⟨w.heap.size, 0, none⟩ = some (.int .u32 (r.1 : Int))) [([], 0, true), ([], 1, true), ([], 2, true), ([], 4, true), ([], 5, true), ([], 3, false)] [] [6, 7] (by kernel_rfl) (by kernel_rfl) x0 (partsI_yield ?_)
  simp only [sgLHNdAwake]
  go_wp2_with fail
  refine ⟨rfl, _, .pointer (some ⟨w.heap.size, 0, none⟩), rfl, Or.inl ⟨by rfl, fun W hW => by go_simp⟩, partsI_yield ?_⟩
  simp only [Act.put, sgPHNdAwake]
  simp only [sgLHNdAwake]
  go_wp2_with fail
  refine ⟨rfl, _, .int .u32 (r.1 : Int), rfl, Or.inl ⟨by rfl, fun W hW => by have hW1 : W.cell? ⟨w.heap.size, 0, none⟩ = some (.int .u32 (r.1 : Int)) := hW; go_simp⟩, partsI_yield ?_⟩
  simp only [Act.put, sgPHNdAwake]
  simp only [sgLHNdAwake]
  go_wp2_with fail
  refine ⟨rfl, _, .int .u64 (r.1 : Int), rfl, Or.inl ⟨by rfl, fun W hW => by go_simp⟩, partsI_yield ?_⟩
  simp only [Act.put, sgPHNdAwake]
  simp only [sgLHNdAwake]
  go_wp2_with fail
  refine ⟨rfl, _, .pointer (some ⟨w.heap.size, 1, none⟩), rfl, Or.inl ⟨by rfl, fun W hW => by go_simp⟩, partsI_yield ?_⟩
  simp only [Act.put, sgPHNdAwake]
  simp only [sgLHNdAwake]
  go_wp2_with fail
  refine ⟨rfl, _, .slice (some ⟨w.heap.size, 1, none⟩) 32 32, rfl, Or.inl ⟨by rfl, fun W hW => by go_simp⟩, partsI_force ?_⟩
  simp only [Act.put, sgPHNdAwake]
  simp only [sgLHNdAwake]
  go_wp2_with fail
  refine (HBY.out _).mono ?_
  rintro e w3 ⟨v3, rfl, ho3, hb3⟩
  have r3 : Blk w3 w.heap.size 31 (va 33 (rfF r.1 r.2)) := r2.below hb3 (by omega)
  have x3 : w3.cell? ⟨w.heap.size, 0, none⟩ = some (.int .u32 (r.1 : Int)) := by
    rw [r3.cell]
    exact va_at (rfF r.1 r.2) (by decide)
  have HO3 : Hid (w3.ownsRow (w.heap.size + 1) 5 1 v3 4 (byL (dig r.1) 4)) := kown_mono ho3 (by omega)
  have hs3 := hb3.size
  have hb4 : Below w.heap.size w w3 := hb2.trans (hb3.mono (by omega))
  clear ho3 hb3 r2 hb2 HBY x0
  go_wp2_with fail
  refine ⟨rfl, x3, partsI_last ?_⟩
  simp only [sgLHNdAwake]
  have HC : Hid (∀ j u, (byL (dF r.2) 32)[j]? = some u → w3.cell? ((⟨w.heap.size, 1, none⟩ : Addr).add j) = some u) := rf_mid r r3
  have HL : Hid (∀ k, v3.ownBlock = some k → (w.heap.size + 1) ≤ k) := fun k hk => (HO3.out.lt k hk).1
  clear r3 x3
  refine wpList_append_own_at rfl _ _ 165 rfl (w.heap.size + 1) 5 i0 (.int .u8 0) 1 1 Tryz.underlying165 hi hz0 hz1 hz2 rfl (by decide) _ _ _ rfl HO3.out ⟨w.heap.size, 1, none⟩ 32 32 (byL (dF r.2) 32) rfl (by rw [byL_length]) HC.out (mem_iv_one _ _ _) (by unfold maxLen; omega) (by omega) (by omega) ?_
  intro v5 w5 ho5 hg5 _
  have hb5 : Below w.heap.size w w5 := hb4.grown hg5 (by omega) (fun k hk => by have := HL.out k hk; omega)
  rw [← encR_cells r] at ho5
  obtain ⟨g5, cap5, hv5, _, _⟩ := kown_form ho5 (by omega)
  subst hv5
  have HO5 : Hid (w5.ownsRow (w.heap.size + 1) 5 1 (.slice (some ⟨g5, 0, none⟩) 36 cap5) 36 (byL (encR r) 36)) := ho5
  clear ho5 hg5 HO3
  simp only [Act.put, sgPHNdAwake]
  go_wp2_with fail
  refine ⟨rfl, ?_⟩
  go_wp2_with fail
  go_ret
  exact ⟨_, _, rfl, HO5.out, hb5⟩
end Go.Proofs.YtiofonffmplfmaaGreat

namespace Go.Proofs.YtiofonffmplfmaaGreat
open Go Go.RowKit
set_option linter.unusedSimpArgs false
set_option linter.unusedVariables false

theorem le4_dig (n : Nat) (h : n < 4294967296) : le4 (dig n 0) (dig n 1) (dig n 2) (dig n 3) = n := by
  unfold le4 dig
  simp
  omega
/-- what Encode lays, Decode takes -/
theorem decR_of (s : ByteArray) (a : Nat) (r : Rf) (hr : r.1 < 4294967296) (h : ∀ j, j < 36 → tbyte s (a + j) = encR r j) : decR s a = r := by
  obtain ⟨n, d⟩ := r
  unfold decR at4
  have e : ∀ j, j < 4 → tbyte s (a + j) = dig n j := fun j hj => by
    rw [h j (by omega)]
    unfold encR
    rw [if_pos hj]
  have e0 : tbyte s a = dig n 0 := e 0 (by decide)
  rw [e0, e 1 (by decide), e 2 (by decide), e 3 (by decide), le4_dig n hr]
  have e2 : (sumD fun i => tbyte s (a + 4 + i)) = d := dF_inj fun i hi => by
    rw [dF_sumD _ i hi]
    have := h (4 + i) (by omega)
    rw [show a + (4 + i) = a + 4 + i by omega] at this
    rw [this]
    unfold encR
    rw [if_neg (by omega), show 4 + i - 4 = i by omega]
  rw [e2]
theorem rawK_of (l : Nat) (hl : l < 256) (K : Nat → Rf) (hK : ∀ i, i < 4 → okD (K i).2) (hn : ∀ i, i < 4 → (K i).1 < 4294967296) (f : Nat → Nat) (hf : bkSame f (nodeB l K)) (i : Nat) (hi : i < 4) : rawK f i = K i := by
  unfold rawK
  refine decR_of _ _ _ (hn i hi) fun j hj => ?_
  have hb := hf (8 + 36 * i + j) (by omega)
  rw [strN_at f 256 _ (by omega) (by rw [hb]; exact nodeB_lt l hl K hK _), hb, nodeB_kid l K i j hi hj]
theorem nodeB_congr {l : Nat} {K K' : Nat → Rf} (h : ∀ i, i < 4 → K i = K' i) : nodeB l K = nodeB l K' := by
  funext j
  unfold nodeB
  by_cases h1 : j < 8
  · rw [if_pos h1, if_pos h1]
  · rw [if_neg h1, if_neg h1]
    by_cases h2 : j < 152
    · rw [if_pos h2, if_pos h2, h _ (by omega)]
    · rw [if_neg h2, if_neg h2]
theorem ndOk_right {l : Int} {K : Nat → Rf} (h : ndOk l K = true) (i : Nat) (hi : i < 4) : rOk (K i) = true := by
  unfold ndOk at h
  rw [Bool.and_eq_true, List.all_eq_true] at h
  exact h.2 i (by simpa using hi)
theorem ndOk_level {l : Int} {K : Nat → Rf} (h : ndOk l K = true) : 1 ≤ l ∧ l ≤ 6 := by
  unfold ndOk at h
  rw [Bool.and_eq_true, Bool.and_eq_true, decide_eq_true_eq, decide_eq_true_eq] at h
  exact h.1
theorem ndOk_congr {l : Int} {K K' : Nat → Rf} (h : ∀ i, i < 4 → K i = K' i) : ndOk l K = ndOk l K' := by
  unfold ndOk
  congr 1
  rw [Bool.eq_iff_iff, List.all_eq_true, List.all_eq_true]
  constructor
  · intro q i hi
    rw [← h i (by simpa using hi)]
    exact q i hi
  · intro q i hi
    rw [h i (by simpa using hi)]
    exact q i hi
theorem decK_of (l : Nat) (K : Nat → Rf) (hl : ndOk l K = true) (hK : ∀ i, i < 4 → okD (K i).2) (hn : ∀ i, i < 4 → (K i).1 < 4294967296) (f : Nat → Nat) (hf : bkSame f (nodeB l K)) (i : Nat) (hi : i < 4) : decK f i = K i := by
  have h6 := ndOk_level hl
  unfold decK
  rw [rawK_of l (by omega) K hK hn f hf i hi, ndOk_right hl i hi, if_pos rfl]
theorem rdOk_of (l : Nat) (K : Nat → Rf) (hl : ndOk l K = true) (hK : ∀ i, i < 4 → okD (K i).2) (hn : ∀ i, i < 4 → (K i).1 < 4294967296) (f : Nat → Nat) (hf : bkSame f (nodeB l K)) : rdOk f = true := by
  have hd := decK_of l K hl hK hn f hf
  have h4 : f 4 = l := by
    rw [hf 4 (by decide)]
    rfl
  unfold rdOk
  rw [h4, ndOk_congr hd, hl, Bool.true_and, decide_eq_true_eq, nodeB_congr hd]
  exact fun i hi => (hf i hi).symm
end Go.Proofs.YtiofonffmplfmaaGreat
