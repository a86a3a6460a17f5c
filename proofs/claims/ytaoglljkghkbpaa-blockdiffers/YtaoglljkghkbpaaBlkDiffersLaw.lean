/- The statement BlockDiffers, if what it calls returns what it does. -/
import Derived.Test.YtaoglljkghkbpaaBlkGroups
import Derived.Test.YtaoglljkghkbpaaBlkDiff
import Derived.Test.YtaoglljkghkbpaaBlkTake
import Derived.Test.YtaoglljkghkbpaaBlkCut
import Derived.BigQuiet
import Derived.Deep.QuietTactic
import Derived.Handy
namespace Go.Proofs.Ytaoglljkghkbpaa
open Go.RowKit
set_option linter.unusedSimpArgs false
set_option linter.unusedVariables false

theorem dfst_neg (f g : Nat → Nat) : ∀ k, (dfst f g k < 0 ↔ dcnt f g k = 0) ∧ -1 ≤ dfst f g k ∧ dfst f g k ≤ k
  | 0 => by simp [dfst, dcnt]
  | k + 1 => by
    have ih := dfst_neg f g k
    have e1 : dfst f g (k + 1) = if f k = g k then dfst f g k else if dcnt f g k = 0 then (k : Int) else dfst f g k := rfl
    have e2 : dcnt f g (k + 1) = dcnt f g k + (if f k = g k then 0 else 1) := rfl
    rw [e1, e2]
    by_cases h : f k = g k
    · rw [if_pos h, if_pos h, Nat.add_zero]
      refine ⟨ih.1, ih.2.1, ?_⟩
      have := ih.2.2
      omega
    · rw [if_neg h, if_neg h]
      by_cases h0 : dcnt f g k = 0
      · rw [if_pos h0]
        omega
      · rw [if_neg h0]
        have h1 := ih.1
        have h2 := ih.2
        refine ⟨⟨fun q => absurd (h1.1 q) h0, fun q => absurd q (by omega)⟩, h2.1, by omega⟩
theorem wpList_load_blkg {P : Program} {ops : Array Oper} {rest : List Oper} {op : Oper} {a : Act} {w : World} {Q : Exit → Act → World → Prop} (hw : Region.wanted op (yielded ops a.tmps) = true) (ty : TypeId) (x : Operand) (ho : op.op = .load ty x)
    (b o n : Nat) (f : Nat → Value) (hx : a.eval x = .pointer (some ⟨b, o, none⟩)) (d : TypeDesc) (hc : w.rangeAt b o ((List.range n).map f))
    (hu : P.underlying ty = some d) (hd : d.isRow = true) (hi : (P.info? ty).map (·.size) = some n)
    (h : wpList P ops Q rest (a.put op.dst (.agg (va n f))) w) : wpList P ops Q (op :: rest) a w :=
  wpList_step fun K hK => by
    rw [if_pos hw]
    exact wp_load_mid ty x ho b o hx _ d hc hu hd (hi.trans (by simp)) (hK _ _ h)
theorem IsBlks.range {w : World} {b o n : Nat} {L : Nat → Nat → Nat} (h : IsBlks w (some ⟨b, o, none⟩) n L) (i : Nat) (hi : i < n) : b < w.heap.size ∧ w.rangeAt b (o + i * 256) ((List.range 256).map (iv .u8 (L i))) := by
  obtain ⟨b', o', e, h1, h2⟩ := h i hi
  injection e with e
  injection e with e1 e2
  subst e1 e2
  exact ⟨h1, h2⟩
theorem eq_blkD (x y : Nat → Nat) (w : World) : (Op.equalIn 10000 23 (.agg (va 256 (iv .u8 x))) (.agg (va 256 (iv .u8 y)))).run Try.prog w = .ok (decide (blkD x = blkD y)) w := by
  rw [show decide (blkD x = blkD y) = decide (bkSame x y) from decide_eq_decide.2 (blkD_same x y)]
  exact eq_bk 23 Try.underlying23 x y w
section
variable {α : Type} [DecidableEq α]
def knownB (D : Nat → α) (i x : Nat) : Bool := (List.range x).any fun y => decide (D y = D i)
theorem knownB_zero (D : Nat → α) (i : Nat) : knownB D i 0 = false := rfl
theorem knownB_succ (D : Nat → α) (i x : Nat) : knownB D i (x + 1) = (knownB D i x || decide (D x = D i)) := by
  unfold knownB
  rw [List.range_succ, List.any_append]
  simp
theorem knownB_new (D : Nat → α) (i : Nat) : knownB D i i = !isNew D i := by
  unfold knownB isNew
  rw [List.all_eq_not_any_not]
  simp
theorem filter_prefix (p : Nat → Bool) (k : Nat) : ∀ d, ∃ r, (List.range (k + d)).filter p = (List.range k).filter p ++ r
  | 0 => ⟨[], by simp⟩
  | d + 1 => by
    obtain ⟨r, hr⟩ := filter_prefix p k d
    refine ⟨r ++ [k + d].filter p, ?_⟩
    rw [← Nat.add_assoc, List.range_succ, List.filter_append, hr, List.append_assoc]
theorem at_filter (p : Nat → Bool) (j n : Nat) (hj : j < n) (hp : p j = true) : ((List.range j).filter p).length < ((List.range n).filter p).length ∧ ((List.range n).filter p).getD ((List.range j).filter p).length 0 = j := by
  obtain ⟨r, hr⟩ := filter_prefix p (j + 1) (n - (j + 1))
  rw [show j + 1 + (n - (j + 1)) = n by omega, List.range_succ, List.filter_append] at hr
  rw [hr]
  have e : [j].filter p = [j] := by simp [hp]
  rw [e]
  constructor
  · simp
  · simp [List.getD]
theorem grps_at (D : Nat → α) (n i : Nat) (hi : i < n) (hnew : isNew D i = true) : (firstsOf D i).length < (grpsOf D n).length ∧ (grpsOf D n).getD (firstsOf D i).length [] = grpOf D n i := by
  obtain ⟨h1, h2⟩ := at_filter (isNew D) i n hi hnew
  have h1' : (firstsOf D i).length < (firstsOf D n).length := h1
  refine ⟨by simpa [grpsOf] using h1', ?_⟩
  unfold grpsOf
  rw [List.getD_eq_getElem?_getD, List.getElem?_map, List.getElem?_eq_getElem h1']
  simp only [Option.map_some, Option.getD_some]
  congr 1
  have h2' : (firstsOf D n).getD (firstsOf D i).length 0 = i := h2
  rw [List.getD_eq_getElem?_getD, List.getElem?_eq_getElem h1'] at h2'
  exact h2'
theorem grp_at (D : Nat → α) (n i j : Nat) (hj : j < n) (h : D j = D i) : (grpOf D j i).length < (grpOf D n i).length ∧ (grpOf D n i).getD (grpOf D j i).length 0 = j := at_filter _ j n hj (by simp [h])
end

set_option maxRecDepth 100000 in
set_option maxHeartbeats 16000000 in
theorem blockDiffersLaw (f g : Nat → Nat) (a2 : Option Addr) (n c : Nat) (hn : n * 256 ≤ 140737488351232) (hnc : n ≤ c) (hc9 : c ≤ 9223372036854775807) (L : Nat → Nat → Nat) (w : World) (h : IsBlks w a2 n L) :
    Calls Try.prog 6 #[bkV f, bkV g, .slice a2 n c] w fun e w' => e = .returned (.bool true) ∧ Below w.heap.size w w' := by
  have hA : Hid (∀ w : World, Calls Try.prog 9 #[] w fun e w' => e = .returned (.bool true) ∧ Below w.heap.size w w') := fun w => awake4_any w
  have hDf : Hid (∀ w : World, Calls Try.prog 28 #[.agg (va 256 (iv .u8 f)), .agg (va 256 (iv .u8 g))] w fun e w' => e = .returned (.tuple #[.int .i64 (dfst f g 256), .int .i64 (dcnt f g 256 : Int)]) ∧ Below w.heap.size w w') := fun w => differ_any f g w
  obtain ⟨D, hD⟩ : ∃ D : Nat → Vector Nat 256, D = fun i => blkD (L i) := ⟨_, rfl⟩
  have hGr : Hid (∀ w : World, IsBlks w a2 n L → Calls Try.prog 29 #[.slice a2 n c] w fun x w' => ∃ q cq ss, x = .returned (.slice q (grpsOf D n).length cq) ∧ GrpAt w' w.heap.size (.slice q (grpsOf D n).length cq) (grpsOf D n) ss ∧ Below w.heap.size w w') := fun w h => (groups_any a2 n c hn L w h).mono (by
    rintro x w' ⟨v, rfl, ss, hg, hb⟩
    rw [← hD] at hg
    obtain ⟨q, cq, rfl⟩ := kown_slice hg.row
    exact ⟨q, cq, ss, rfl, hg, hb⟩)
  have HEQ : Hid (∀ (x y : Nat) (w : World), (Op.equalIn 10000 23 (.agg (va 256 (iv .u8 (L x)))) (.agg (va 256 (iv .u8 (L y))))).run Try.prog w = .ok (decide (D x = D y)) w) := fun x y w => by
    have hx : D x = blkD (L x) := by rw [hD]
    have hy : D y = blkD (L y) := by rw [hD]
    rw [hx, hy]
    exact eq_blkD (L x) (L y) w
  have HI : Hid (IsBlks w a2 n L) := h
  clear h hD
  unfold bkV
  have hz := zero_bk
  have b0 : Blk ((w.alloc (Obj.cells (va 256 (iv IntKind.u8 f)) 23)).alloc (Obj.cells (va 256 (iv IntKind.u8 g)) 23)) w.heap.size 23 (va 256 (iv .u8 f)) := (Blk.new _ _ _).alloc _
  have b1 := Blk.new1 w (Obj.cells (va 256 (iv IntKind.u8 f)) 23) 23 (va 256 (iv IntKind.u8 g))
  have hb := below_new2 w (Obj.cells (va 256 (iv IntKind.u8 f)) 23) (Obj.cells (va 256 (iv IntKind.u8 g)) 23)
  go_enter Try.func6, Try.ntmps6
  go_wp2_with fail
  generalize (w.alloc (Obj.cells (va 256 (iv IntKind.u8 f)) 23)).alloc (Obj.cells (va 256 (iv IntKind.u8 g)) 23) = W at *
  refine (hA.out _).mono ?_
  rintro e w1 ⟨rfl, hh⟩
  have c0 := b0.below hh b0.lt
  have c1 := b1.below hh b1.lt
  have hb1 : Below w.heap.size w w1 := hb.trans (hh.mono hb.size)
  clear b0 b1 hb hh hA
  go_wp2_with fail
  go_loopw [7, 8, 22] (fun a m i wr => ∃ k : Nat, k ≤ 256 ∧ i = .int .i64 k ∧ a = .int .i64 (dfst f g k) ∧ m = .int .i64 (dcnt f g k : Int) ∧ Blk wr w.heap.size 23 (va 256 (iv .u8 f)) ∧ Blk wr (w.heap.size + 1) 23 (va 256 (iv .u8 g)) ∧ Below w.heap.size w wr) (fun _ _ i _ => 256 - (intOf i).toNat)
  case atStart => exact ⟨0, by omega, rfl, rfl, rfl, c0, c1, hb1⟩
  case round =>
    clear c0 c1 hb1
    obtain ⟨k, hk, rfl, rfl, rfl, b0, b1, hb⟩ := hrel
    by_cases hlt : k < 256
    · have k0 : (0 : Int) ≤ (k : Int) := by omega
      have k1 : (k : Int) < 256 := by omega
      have c0 := b0.cv (i := k) hlt
      have c1 := b1.cv (i := k) hlt
      unfold iv at c0 c1
      have hle := dcnt_le f g k
      have hng := dfst_neg f g k
      have HDC : Hid (dcnt f g (k + 1) = dcnt f g k + (if f k = g k then 0 else 1)) := rfl
      have HF : Hid (dfst f g (k + 1) = if f k = g k then dfst f g k else if dcnt f g k = 0 then (k : Int) else dfst f g k) := rfl
      generalize dcnt f g k = cn at *
      generalize dfst f g k = p at *
      obtain ⟨hng1, hng2⟩ := hng
      have HNG : Hid (p < 0 ↔ cn = 0) := hng1
      clear hng1
      by_cases he : f k = g k
      · rw [if_pos he] at HDC HF
        rw [← he] at c1
        clear he
        go_wp2_with fail
        go_quiet (fail)
        go_wp2_with fail
        refine ⟨⟨k + 1, by omega, by simp, by rw [HF.out], by rw [HDC.out]; rfl, b0, b1, kbelow_drewN hb _⟩, ?_⟩
        simp [intOf]
        omega
      · rw [if_neg he] at HDC HF
        have he' : ¬ ((f k : Nat) : Int) = ((g k : Nat) : Int) := by omega
        by_cases h0 : cn = 0
        · rw [if_pos h0] at HF
          have hp : p < 0 := HNG.out.2 h0
          subst h0
          go_wp2_with fail
          go_quiet (fail)
          go_wp2_with fail
          refine ⟨⟨k + 1, by omega, by simp, by rw [HF.out], by rw [HDC.out]; simp, b0, b1, kbelow_drewN hb _⟩, ?_⟩
          simp [intOf]
          omega
        · rw [if_neg h0] at HF
          have hp : ¬ p < 0 := fun q => h0 (HNG.out.1 q)
          go_wp2_with fail
          go_quiet (fail)
          go_wp2_with fail
          refine ⟨⟨k + 1, by omega, by simp, by rw [HF.out], by rw [HDC.out]; simp, b0, b1, kbelow_drewN hb _⟩, ?_⟩
          simp [intOf]
          omega
    · obtain rfl : k = 256 := by omega
      go_wp2_with (first
        | (refine wpList_load_row (by rfl) 23 _ (by rfl) (w.heap.size) (by rfl) 23 (va 256 (iv .u8 f)) (0, 0) _ b0 Try.underlying23 (by rfl) (sizeBk.trans (by rw [va_size])) ?_; simp only [Act.put, List.setIfInBounds_toArray, List.set_cons_zero, List.set_cons_succ])
        | (refine wpList_load_row (by rfl) 23 _ (by rfl) (w.heap.size + 1) (by rfl) 23 (va 256 (iv .u8 g)) (0, 0) _ b1 Try.underlying23 (by rfl) (sizeBk.trans (by rw [va_size])) ?_; simp only [Act.put, List.setIfInBounds_toArray, List.set_cons_zero, List.set_cons_succ])
        | fail)
      refine (hDf.out _).mono ?_
      rintro e w3 ⟨rfl, hh⟩
      have hb3 : Below w.heap.size w w3 := hb.trans (hh.mono hb.size)
      clear b0 b1 hb hh hDf
      generalize dfst f g 256 = pp at *
      generalize dcnt f g 256 = mm at *
      go_wp2_with fail
      refine (hGr.out _ (HI.out.below hb3)).mono ?_
      rintro e w4 ⟨q, cq, ss, rfl, hG, hh⟩
      have hb4 : Below w.heap.size w w4 := hb3.trans (hh.mono hb3.size)
      have HB3 : Hid (w.heap.size ≤ w3.heap.size) := hb3.size
      clear hb3 hh hGr
      go_wp2_with fail
      as_aux_lemma =>
        go_loopw [13, 56] (fun t i wr => ∃ k : Nat, k ≤ n ∧ i = .int .i64 k ∧ t = .int .i64 ((firstsOf D k).length : Int) ∧ GrpAt wr w3.heap.size (.slice q (grpsOf D n).length cq) (grpsOf D n) ss ∧ Below w.heap.size w wr) (fun _ i _ => n - (intOf i).toNat)
        case atStart => exact ⟨0, Nat.zero_le _, rfl, rfl, hG, hb4⟩
        case round =>
          clear hG hb4
          obtain ⟨k, hk, rfl, rfl, hG, hb⟩ := hrel
          have hfl : (firstsOf D k).length ≤ k := by
            unfold firstsOf
            exact Nat.le_trans (List.length_filter_le _ _) (by simp)
          by_cases hlt : k < n
          · obtain ⟨b, o, rfl, hbl, hr⟩ := HI.out k hlt
            have k0 : (0 : Int) ≤ (k : Int) := by omega
            have k1 : (k : Int) < (n : Int) := by omega
            have k2 : (k : Int) ≤ (c : Int) := by omega
            have k3 : ¬ c = 0 := by omega
            clear hr hbl
            go_wp2_with fail
            go_loopw [15, 63] (fun t x wr => ∃ y : Nat, y ≤ k ∧ x = .int .i64 y ∧ t = .bool (knownB D k y) ∧ GrpAt wr w3.heap.size (.slice q (grpsOf D n).length cq) (grpsOf D n) ss ∧ Below w.heap.size w wr) (fun _ x _ => k - (intOf x).toNat)
            case atStart => exact ⟨0, Nat.zero_le _, rfl, by rw [knownB_zero], hG, hb⟩
            case round =>
              clear hG hb
              obtain ⟨y, hy, rfl, rfl, hG, hb⟩ := hrel
              by_cases hyk : y < k
              · obtain ⟨hbl, hr⟩ := HI.out.range y (by omega)
                obtain ⟨_, hrk⟩ := HI.out.range k hlt
                have HR : Hid (wr.rangeAt b (o + y * 256) ((List.range 256).map (iv .u8 (L y)))) := range_below hr hb hbl
                have HRK : Hid (wr.rangeAt b (o + k * 256) ((List.range 256).map (iv .u8 (L k)))) := range_below hrk hb hbl
                have hbl2 : b < wr.heap.size := Nat.lt_of_lt_of_le hbl hb.size
                have y0 : (0 : Int) ≤ (y : Int) := by omega
                have y1 : (y : Int) < (k : Int) := by omega
                have hsz := hb.size
                have c1 := Blk.new wr 23 (va 256 (iv .u8 fun _ => 0))
                have c2 := c1.set (va 256 (iv .u8 (L y)))
                have hbB : Below wr.heap.size wr ((wr.alloc (Obj.cells (va 256 (iv IntKind.u8 fun _ => 0)) 23)).setRow wr.heap.size (va 256 (iv .u8 (L y)))) := below_setRow (below_new1 wr _) (Nat.le_refl _) _
                have hG5 := hG.below hbB
                have hb5 : Below w.heap.size w ((wr.alloc (Obj.cells (va 256 (iv IntKind.u8 fun _ => 0)) 23)).setRow wr.heap.size (va 256 (iv .u8 (L y)))) := hb.trans (hbB.mono hsz)
                have HRK5 : Hid (((wr.alloc (Obj.cells (va 256 (iv IntKind.u8 fun _ => 0)) 23)).setRow wr.heap.size (va 256 (iv .u8 (L y)))).rangeAt b (o + k * 256) ((List.range 256).map (iv .u8 (L k)))) := range_below HRK.out hbB hbl2
                have hbl5 : b < ((wr.alloc (Obj.cells (va 256 (iv IntKind.u8 fun _ => 0)) 23)).setRow wr.heap.size (va 256 (iv .u8 (L y)))).heap.size := Nat.lt_of_lt_of_le hbl2 hbB.size
                have HKS : Hid (knownB D k (y + 1) = (knownB D k y || decide (D y = D k))) := knownB_succ D k y
                have hq := HEQ.out y k
                clear hr hrk hbl hG hb hbB HRK
                cases hkb : knownB D k y with
                | true =>
                  go_wp2_with (first
                    | (refine wpList_load_blk (by rfl) 23 _ (by rfl) b (o + y * 256) 256 (iv .u8 (L y)) (by rfl) _ HR.out Try.underlying23 rfl sizeBk ?_; simp only [Act.put, List.setIfInBounds_toArray, List.set_cons_zero, List.set_cons_succ])
                    | (refine wpList_store_row (by rfl) 23 _ _ (by rfl) (wr.heap.size) (va 256 (iv .u8 (L y))) (by rfl) (by rfl) 23 _ c1 (sizeBk.trans (by rw [va_size])) (by simp only [va_size]) (iv_one _ _ _) ?_; simp only [Act.put, List.setIfInBounds_toArray, List.set_cons_zero, List.set_cons_succ])
                    | fail)
                  go_quiet (fail)
                  go_wp2_with fail
                  refine ⟨⟨y + 1, by omega, by simp, by rw [HKS.out, hkb]; rfl, hG5.below (kbelow_drewN (Below.refl _ _) _), kbelow_drewN hb5 _⟩, ?_⟩
                  simp [intOf]
                  omega
                | false =>
                  go_wp2_with (first
                    | (refine wpList_load_blk (by rfl) 23 _ (by rfl) b (o + y * 256) 256 (iv .u8 (L y)) (by rfl) _ HR.out Try.underlying23 rfl sizeBk ?_; simp only [Act.put, List.setIfInBounds_toArray, List.set_cons_zero, List.set_cons_succ])
                    | (refine wpList_store_row (by rfl) 23 _ _ (by rfl) (wr.heap.size) (va 256 (iv .u8 (L y))) (by rfl) (by rfl) 23 _ c1 (sizeBk.trans (by rw [va_size])) (by simp only [va_size]) (iv_one _ _ _) ?_; simp only [Act.put, List.setIfInBounds_toArray, List.set_cons_zero, List.set_cons_succ])
                    | fail)
                  generalize (wr.alloc (Obj.cells (va 256 (iv IntKind.u8 fun _ => 0)) 23)).setRow wr.heap.size (va 256 (iv .u8 (L y))) = w5 at *
                  generalize hdd : decide (D y = D k) = dd at *
                  refine wp_region_partsI [] [([0, 1, 3, 4, 5], 2, true), ([], 6, false), ([], 7, false)] [8, 9] [] (w5.heap.size) (by kernel_rfl) (by kernel_rfl) (fun _ hx => nomatch hx) (partsI_yield ?_)
                  simp only [List.cons_append, List.nil_append, List.append_nil, List.filterMap_cons, List.filterMap_nil, List.getElem?_toArray, List.getElem?_cons_zero, List.getElem?_cons_succ]
                  have hS : Below (w5.heap.size) w5 w5.drew := (Below.refl _ _).drew
                  go_wp2_with fail
                  refine ⟨rfl, _, .agg (va 256 (iv .u8 (L y))), rfl, kyields_load (by rfl) 23 _ (by rfl) (wr.heap.size) 256 (iv .u8 (L y)) (by rfl) _ 23 (fun W hW => c2.below hW c2.lt) Try.underlying23 rfl sizeBk, partsI_force ?_⟩
                  simp only [Act.put, List.setIfInBounds_toArray, List.set_cons_zero, List.set_cons_succ]
                  simp only [List.cons_append, List.nil_append, List.append_nil, List.filterMap_cons, List.filterMap_nil, List.getElem?_toArray, List.getElem?_cons_zero, List.getElem?_cons_succ]
                  refine wpList_load_blkg (by rfl) 23 _ (by rfl) (b) (o + k * 256) 256 (iv .u8 (L k)) (by rfl) _ (range_below HRK5.out hS hbl5) Try.underlying23 rfl sizeBk ?_
                  simp only [Act.put, List.setIfInBounds_toArray, List.set_cons_zero, List.set_cons_succ]
                  go_wp2_with fail
                  refine ⟨rfl, hS, partsI_force ?_⟩
                  simp only [List.cons_append, List.nil_append, List.append_nil, List.filterMap_cons, List.filterMap_nil, List.getElem?_toArray, List.getElem?_cons_zero, List.getElem?_cons_succ]
                  go_wp2_with fail
                  refine ⟨rfl, hS, partsI_last ?_⟩
                  simp only [List.cons_append, List.nil_append, List.append_nil, List.filterMap_cons, List.filterMap_nil, List.getElem?_toArray, List.getElem?_cons_zero, List.getElem?_cons_succ]
                  go_wp2_with fail
                  refine ⟨rfl, ?_⟩
                  go_wp2_with fail
                  refine ⟨⟨y + 1, by omega, by simp, by rw [HKS.out, hkb]; rfl, hG5.below hS, hb5.trans (hS.mono hb5.size)⟩, ?_⟩
                  simp [intOf]
                  omega
              · obtain rfl : y = k := by omega
                rw [knownB_new]
                cases hnw : isNew D y with
                | false =>
                  have HFS : Hid (firstsOf D (y + 1) = firstsOf D y) := by
                    show _ = _
                    rw [firstsOf_succ, if_neg (by simp [hnw])]
                  go_wp2_with fail
                  refine ⟨⟨y + 1, by omega, by simp, by rw [HFS.out], hG, hb⟩, ?_⟩
                  simp [intOf]
                  omega
                | true =>
                  have HFS : Hid ((firstsOf D (y + 1)).length = (firstsOf D y).length + 1) := by
                    show _ = _
                    rw [firstsOf_succ, if_pos hnw]
                    simp
                  obtain ⟨hkk, hgrp⟩ := grps_at D n y hlt hnw
                  have HZ : Hid (grpOf D y y = []) := grpOf_new D y hnw
                  generalize (firstsOf D y).length = kk at *
                  have t1 : ¬ ((grpsOf D n).length : Int) ≤ (kk : Int) := by omega
                  have HGRP : Hid ((grpsOf D n).getD kk [] = grpOf D n y) := hgrp
                  clear hgrp
                  go_wp2_with fail
                  go_loopw [18, 19] (fun m j wr => ∃ z : Nat, y ≤ z ∧ z ≤ n ∧ j = .int .i64 z ∧ m = .int .i64 ((grpOf D z y).length : Int) ∧ GrpAt wr w3.heap.size (.slice q (grpsOf D n).length cq) (grpsOf D n) ss ∧ Below w.heap.size w wr) (fun _ j _ => n - (intOf j).toNat)
                  case atStart => exact ⟨y, Nat.le_refl _, by omega, rfl, by rw [HZ.out]; rfl, hG, hb⟩
                  case round =>
                    clear hG hb
                    obtain ⟨z, hyz, hzn, rfl, rfl, hG, hb⟩ := hrel
                    have hml : (grpOf D z y).length ≤ z := by
                      unfold grpOf
                      exact Nat.le_trans (List.length_filter_le _ _) (by simp)
                    obtain ⟨gq, cq', hv, hgq, _⟩ := kown_form hG.row (show 0 < (grpsOf D n).length by omega)
                    injection hv with hv1 _ hv2
                    subst hv1 hv2
                    have hE := hG.each kk hkk
                    rw [HGRP.out] at hE
                    have hpos := (grp_at D n y y hlt rfl).1
                    have hLn : (grpOf D n y).length ≤ n := by
                      unfold grpOf
                      exact Nat.le_trans (List.length_filter_le _ _) (by simp)
                    obtain ⟨gi, ci, hSe, _, _⟩ := kown_form hE (show 0 < (grpOf D n y).length by omega)
                    have hsl := hG.len
                    have cG : wr.cell? ⟨gq, kk, none⟩ = some (.slice (some ⟨gi, 0, none⟩) (grpOf D n y).length ci) := by
                      rw [hG.row.cellAt (g := gq) kk (by omega), ← hSe]
                      simp [List.getD, hsl, hkk]
                    rw [hSe] at hE
                    have kk0 : (0 : Int) ≤ (kk : Int) := by omega
                    have kk1 : (kk : Int) < ((grpsOf D n).length : Int) := by omega
                    have HG : Hid (GrpAt wr w3.heap.size (.slice (some ⟨gq, 0, none⟩) (grpsOf D n).length cq) (grpsOf D n) ss) := hG
                    clear hG hSe hpos
                    by_cases hzl : z < n
                    · obtain ⟨hbl, hr⟩ := HI.out.range z hzl
                      obtain ⟨_, hrk⟩ := HI.out.range y hlt
                      have R1 : Hid (wr.rangeAt b (o + z * 256) ((List.range 256).map (iv .u8 (L z)))) := range_below hr hb hbl
                      have R2 : Hid (wr.rangeAt b (o + y * 256) ((List.range 256).map (iv .u8 (L y)))) := range_below hrk hb hbl
                      have hbl2 : b < wr.heap.size := Nat.lt_of_lt_of_le hbl hb.size
                      have z0 : (0 : Int) ≤ (z : Int) := by omega
                      have z1 : (z : Int) < (n : Int) := by omega
                      have hq := HEQ.out z y
                      have HGS : Hid (grpOf D (z + 1) y = if D z = D y then grpOf D z y ++ [z] else grpOf D z y) := grpOf_succ D z y
                      clear hr hrk hbl
                      by_cases hdz : D z = D y
                      · obtain ⟨hm1, hm2⟩ := grp_at D n y z hzl hdz
                        rw [decide_eq_true hdz] at hq
                        rw [if_pos hdz] at HGS
                        have cI : wr.cell? ⟨gi, (grpOf D z y).length, none⟩ = some (.int .i64 (z : Int)) := by
                          rw [hE.cellAt (g := gi) _ (by omega)]
                          unfold intL
                          rw [List.getElem?_map, List.getElem?_eq_getElem hm1]
                          rw [List.getD_eq_getElem?_getD, List.getElem?_eq_getElem hm1] at hm2
                          simp only [Option.getD_some] at hm2
                          simp [hm2]
                        have HGL : Hid ((grpOf D (z + 1) y).length = (grpOf D z y).length + 1) := by
                          show _ = _
                          rw [HGS.out]
                          simp
                        generalize (grpOf D z y).length = m at *
                        generalize (grpOf D n y).length = len at *
                        have m0 : (0 : Int) ≤ (m : Int) := by omega
                        have m1 : (m : Int) < (len : Int) := by omega
                        have m2 : ¬ (len : Int) ≤ (m : Int) := by omega
                        clear hdz hm2 hE HGS
                        go_wp2_with fail
                        refine wp_region_partsI [] [([0, 1, 2, 4, 5, 6], 3, true), ([], 7, false), ([], 8, false)] [] [] (wr.heap.size) (by kernel_rfl) (by kernel_rfl) (fun _ hx => nomatch hx) (partsI_yield ?_)
                        simp only [List.cons_append, List.nil_append, List.append_nil, List.filterMap_cons, List.filterMap_nil, List.getElem?_toArray, List.getElem?_cons_zero, List.getElem?_cons_succ]
                        have hS : Below (wr.heap.size) wr wr.drew := (Below.refl _ _).drew
                        go_wp2_with fail
                        refine ⟨rfl, _, .agg (va 256 (iv .u8 (L z))), rfl, yieldsIf_load_mid (by rfl) 23 _ (by rfl) (b) (o + z * 256) (by rfl) ((List.range 256).map (iv .u8 (L z))) _ (fun W hW => range_below R1.out hW hbl2) Try.underlying23 rfl (sizeBk.trans (by simp)), partsI_force ?_⟩
                        simp only [Act.put, List.setIfInBounds_toArray, List.set_cons_zero, List.set_cons_succ]
                        simp only [List.cons_append, List.nil_append, List.append_nil, List.filterMap_cons, List.filterMap_nil, List.getElem?_toArray, List.getElem?_cons_zero, List.getElem?_cons_succ]
                        refine wpList_load_blk (by rfl) 23 _ (by rfl) (b) (o + y * 256) 256 (iv .u8 (L y)) (by rfl) _ (range_below R2.out hS hbl2) Try.underlying23 rfl sizeBk ?_
                        simp only [Act.put, List.setIfInBounds_toArray, List.set_cons_zero, List.set_cons_succ]
                        go_wp2_with fail
                        refine ⟨rfl, hS, partsI_force ?_⟩
                        simp only [List.cons_append, List.nil_append, List.append_nil, List.filterMap_cons, List.filterMap_nil, List.getElem?_toArray, List.getElem?_cons_zero, List.getElem?_cons_succ]
                        go_wp2_with fail
                        refine ⟨rfl, hS, partsI_last ?_⟩
                        simp only [List.cons_append, List.nil_append, List.append_nil, List.filterMap_cons, List.filterMap_nil, List.getElem?_toArray, List.getElem?_cons_zero, List.getElem?_cons_succ]
                        refine ⟨rfl, ?_⟩
                        go_wp2_with fail
                        refine ⟨⟨z + 1, by omega, by omega, by simp, by rw [HGL.out]; simp, HG.out.below hS, hb.trans (hS.mono hb.size)⟩, ?_⟩
                        simp [intOf]
                        omega
                      · rw [decide_eq_false hdz] at hq
                        rw [if_neg hdz] at HGS
                        have HGL : Hid ((grpOf D (z + 1) y).length = (grpOf D z y).length) := by
                          show _ = _
                          rw [HGS.out]
                        generalize (grpOf D z y).length = m at *
                        clear hdz hE HGS
                        go_wp2_with fail
                        refine wp_region_partsI [] [([0, 1, 2, 4, 5, 6], 3, true), ([], 7, false), ([], 8, false)] [] [] (wr.heap.size) (by kernel_rfl) (by kernel_rfl) (fun _ hx => nomatch hx) (partsI_yield ?_)
                        simp only [List.cons_append, List.nil_append, List.append_nil, List.filterMap_cons, List.filterMap_nil, List.getElem?_toArray, List.getElem?_cons_zero, List.getElem?_cons_succ]
                        have hS : Below (wr.heap.size) wr wr.drew := (Below.refl _ _).drew
                        go_wp2_with fail
                        refine ⟨rfl, _, .agg (va 256 (iv .u8 (L z))), rfl, yieldsIf_load_mid (by rfl) 23 _ (by rfl) (b) (o + z * 256) (by rfl) ((List.range 256).map (iv .u8 (L z))) _ (fun W hW => range_below R1.out hW hbl2) Try.underlying23 rfl (sizeBk.trans (by simp)), partsI_force ?_⟩
                        simp only [Act.put, List.setIfInBounds_toArray, List.set_cons_zero, List.set_cons_succ]
                        simp only [List.cons_append, List.nil_append, List.append_nil, List.filterMap_cons, List.filterMap_nil, List.getElem?_toArray, List.getElem?_cons_zero, List.getElem?_cons_succ]
                        refine wpList_load_blk (by rfl) 23 _ (by rfl) (b) (o + y * 256) 256 (iv .u8 (L y)) (by rfl) _ (range_below R2.out hS hbl2) Try.underlying23 rfl sizeBk ?_
                        simp only [Act.put, List.setIfInBounds_toArray, List.set_cons_zero, List.set_cons_succ]
                        go_wp2_with fail
                        refine ⟨rfl, hS, partsI_force ?_⟩
                        simp only [List.cons_append, List.nil_append, List.append_nil, List.filterMap_cons, List.filterMap_nil, List.getElem?_toArray, List.getElem?_cons_zero, List.getElem?_cons_succ]
                        go_wp2_with fail
                        refine ⟨rfl, hS, partsI_last ?_⟩
                        simp only [List.cons_append, List.nil_append, List.append_nil, List.filterMap_cons, List.filterMap_nil, List.getElem?_toArray, List.getElem?_cons_zero, List.getElem?_cons_succ]
                        refine ⟨rfl, ?_⟩
                        go_wp2_with fail
                        refine ⟨⟨z + 1, by omega, by omega, by simp, by rw [HGL.out], HG.out.below hS, hb.trans (hS.mono hb.size)⟩, ?_⟩
                        simp [intOf]
                        omega
                    · obtain rfl : z = n := by omega
                      generalize (grpOf D z y).length = m at *
                      clear hE
                      go_wp2_with fail
                      refine ⟨⟨y + 1, by omega, by simp, by rw [HFS.out]; simp, HG.out, hb⟩, ?_⟩
                      simp [intOf]
                      omega
          · obtain rfl : k = n := by omega
            have hle : (grpsOf D k).length = (firstsOf D k).length := by simp [grpsOf]
            rw [← hle] at hfl ⊢
            go_wp2_with fail
            go_ret
            exact ⟨rfl, hb⟩
end Go.Proofs.Ytaoglljkghkbpaa
