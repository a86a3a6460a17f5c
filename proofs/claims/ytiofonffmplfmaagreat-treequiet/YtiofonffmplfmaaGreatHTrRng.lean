/- Trees: what Range hands to walk. -/
import Derived.Test.YtiofonffmplfmaaGreatHLvLay
import Derived.Test.YtiofonffmplfmaaGreatHTrMeet
import Derived.Test.YtiofonffmplfmaaGreatHTrRngM
import Derived.Test.YtiofonffmplfmaaGreatHJMap
import Derived.Test.YtiofonffmplfmaaGreatHLogNil
import Derived.Handy

namespace Go.Proofs.YtiofonffmplfmaaGreat
theorem sgLHTrRng : (∀ (α : Type) (a : α) (l r : List α), (a :: l) ++ r = a :: (l ++ r)) ∧ (∀ (α : Type) (l : List α), [] ++ l = l) ∧ (∀ (α : Type) (l : List α), l ++ [] = l) ∧ (∀ (α β : Type) (f : α → Option β) (a : α) (l : List α), (a :: l).filterMap f = match f a with | none => l.filterMap f | some b => b :: l.filterMap f) ∧ (∀ (α β : Type) (f : α → Option β), [].filterMap f = []) ∧ (∀ (α : Type) (l : List α) (i : Nat), l.toArray[i]? = l[i]?) ∧ (∀ (α : Type) (a : α) (l : List α), (a :: l)[0]? = some a) ∧ (∀ (α : Type) (a : α) (l : List α) (i : Nat), (a :: l)[i + 1]? = l[i]?) :=
  ⟨fun _ _ _ _ => List.cons_append, fun _ _ => List.nil_append _, fun _ _ => List.append_nil _, fun _ _ _ _ _ => List.filterMap_cons, fun _ _ _ => List.filterMap_nil, fun _ _ _ => List.getElem?_toArray, fun _ _ _ => List.getElem?_cons_zero, fun _ _ _ _ => List.getElem?_cons_succ⟩
theorem sgPHTrRng : (∀ (α : Type) (l : List α) (i : Nat) (a : α), l.toArray.setIfInBounds i a = (l.set i a).toArray) ∧ (∀ (α : Type) (a b : α) (l : List α), (a :: l).set 0 b = b :: l) ∧ (∀ (α : Type) (a b : α) (l : List α) (i : Nat), (a :: l).set (i + 1) b = a :: l.set i b) :=
  ⟨fun _ _ _ _ => List.setIfInBounds_toArray _ _ _, fun _ _ _ _ => List.set_cons_zero, fun _ _ _ _ _ => List.set_cons_succ⟩
end Go.Proofs.YtiofonffmplfmaaGreat
namespace Go.Proofs.YtiofonffmplfmaaGreat
open Go Go.RowKit
set_option linter.unusedSimpArgs false
set_option linter.unusedVariables false

/-- did one of these come from beneath the position? -/
def anyP (c p : Nat) (done : List Int) : Bool := done.any fun x => decide (x / (c : Int) = (p : Int))
theorem anyP_snoc (c p : Nat) (done : List Int) (x : Int) : anyP c p (done ++ [x]) = (anyP c p done || decide (x / (c : Int) = (p : Int))) := by simp [anyP]
/-- how many blocks lay adds at most -/
def layN : Nat → Nat
  | 0 => 1
  | l + 1 => 4 * layN l + 1
theorem eq_rkd (K K' : Nat → Rf) (w : World) : (Op.equalIn 10000 149 (.agg (kdC K)) (.agg (kdC K'))).run Tryz.prog w = .ok ((List.range 4).all fun i => decide (K i = K' i)) w := by
  obtain ⟨ir, hir⟩ : ∃ i, Tryz.prog.info? 31 = some i := by
    have hsr := rsizeRef
    cases hq : Tryz.prog.info? 31 with
    | none => simp [hq] at hsr
    | some i => exact ⟨i, rfl⟩
  have hcr : Tryz.prog.cellsOf 31 = 33 := by kernel_rfl
  rw [show (10000 : Nat) = 9999 + 1 from rfl, run_equalIn_array w 9999 (kdC K) (kdC K') Tryz.underlying149 hir, hcr]
  refine run_items_any 9999 33 (fun i => .agg (rfC (K i))) (fun i => .agg (rfC (K' i))) _ _ _ _ fun i hi => ?_
  have hi4 : i < 4 := by simpa using hi
  exact ⟨part_agg _ 33 _ Tryz.underlying31 rfl rsizeRef _ _ _ (kd_extract K i hi4) w, part_agg _ 33 _ Tryz.underlying31 rfl rsizeRef _ _ _ (kd_extract K' i hi4) w, eq_rref 9996 _ _ w⟩
theorem arr_mem {cs : Array Value} (h : cs.all (·.oneCell') = true) : ∀ v ∈ cs.toList, v.oneCell' = true := fun v hv => by
  rw [← Array.all_toList] at h
  exact List.all_eq_true.1 h v hv
theorem nd_first (h l : Int) (K : Nat → Rf) : (ndC h K).toList.set 0 (.int .i64 l) = (ndC l K).toList := by
  unfold ndC
  refine List.ext_getElem? fun i => ?_
  rw [List.getElem?_set, Array.getElem?_toList, Array.getElem?_toList]
  by_cases hi : i < 133
  · rw [va_at _ hi, va_at _ hi]
    by_cases h0 : 0 = i
    · subst h0
      rw [if_pos rfl, if_pos (by rw [Array.length_toList, va_size]; omega)]
      rfl
    · rw [if_neg h0]
      unfold ndF
      rw [if_neg (fun e => h0 e.symm), if_neg (fun e => h0 e.symm)]
  · rw [if_neg (by omega), Array.getElem?_eq_none (by rw [va_size]; omega), Array.getElem?_eq_none (by rw [va_size]; omega)]
theorem heap_cells_ne {g k : Nat} (hk : k ≠ g) : ∀ (vs : List Value) (o : Nat) (w : World), (w.setCells g o vs).heap[k]? = w.heap[k]?
  | [], _, _ => rfl
  | v :: vs, o, w => by
    rw [World.setCells, heap_cells_ne hk vs (o + 1)]
    exact Below.heap_setCell w ⟨g, o, none⟩ v k hk
theorem wrap64_at (n : Int) (h : -9223372036854775808 ≤ n ∧ n ≤ 9223372036854775807) : wrap64 n = n := by unfold wrap64; omega
theorem blk_apart {w : World} {b g t u : Nat} {cs ds : Array Value} (hb : Blk w b t cs) (hg : Blk w g u ds) (h : t ≠ u) : b ≠ g := fun e => by
  subst e
  have h1 := (show w.heap[b]? = _ from hb).symm.trans (show w.heap[b]? = _ from hg)
  injection h1 with h1
  injection h1 with h1 h2
  exact h h2
theorem img_keep {w w' : World} {B n : Nat} {v : Value} {X : Nat → Nat} (h : Img w B v n X) (hk : ∀ b cs, Blk w b 49 cs → w'.heap[b]? = w.heap[b]?) : Img w' B v n X := by
  refine ⟨⟨h.1.1, ?_⟩, h.2⟩
  rcases h.1.2 with hn | ⟨b, cap, cur, rfl, hb, hbb, rest⟩
  · exact .inl hn
  · exact .inr ⟨b, cap, cur, rfl, hb, (hk b cur hbb).trans hbb, rest⟩
set_option maxRecDepth 100000 in
set_option maxHeartbeats 8000000 in
theorem lay9_step {B l m : Nat} {L : List (Int × (Nat → Nat))} (hl : l + 1 ≤ 6) (hL : LvOk L)
    (ih : ∀ (p n : Nat) (v : Value) (X : Nat → Nat) (w : World), (p + 1) * 4 ^ l ≤ 4096 → n + layN l ≤ 8193 → B ≤ w.heap.size → JM lfV w m L → Img w B v n X → Calls Tryz.prog 41 #[v, .int .i64 (l : Int), .int .i64 (p : Int), .map (some m)] w fun e w' => LayR w B n (layN l) X l p L e w')
    (p n : Nat) (v : Value) (X : Nat → Nat) (w : World) (hp : (p + 1) * 4 ^ (l + 1) ≤ 4096) (hn : n + layN (l + 1) ≤ 8193) (hBw : B ≤ w.heap.size) (hm : JM lfV w m L) (hI : Img w B v n X) : Calls Tryz.prog 41 #[v, .int .i64 ((l : Int) + 1), .int .i64 (p : Int), .map (some m)] w fun e w' => LayR w B n (layN (l + 1)) X (l + 1) p L e w' := by
  have hzr := zero_rref
  have hzk := rzero_kd
  have hzn := zero_rnode
  have hzb := zero_256
  have hb1 : Below w.heap.size w (w.alloc (.cells (rfC rf0) 31)) := below_new1 w _
  have r1 : Blk (w.alloc (.cells (rfC rf0) 31)) w.heap.size 31 (rfC rf0) := Blk.new w _ _
  have HM1 : Hid (JM lfV (w.alloc (.cells (rfC rf0) 31)) m L) := hm.below hb1 hm.lt
  have HI1 : Hid (Img (w.alloc (.cells (rfC rf0) 31)) B v n X) := hI.below hb1
  have HS1 : Hid ((w.alloc (.cells (rfC rf0) 31)).heap.size = w.heap.size + 1) := by show _ = _; simp
  have HBW : Hid (B ≤ w.heap.size) := hBw
  have HML : Hid (m < w.heap.size) := hm.lt
  obtain ⟨ib, cap, rfl, _, _, _⟩ := own_some hI.1 hI.2.2
  have HN1 : Hid (1 ≤ n) := hI.2.2
  have hl0 : ((l : Int) + 1 == 0) = false := by
    rw [beq_eq_false_iff_ne]
    omega
  obtain ⟨c, hc⟩ : ∃ c, 4 ^ (l + 1) = c := ⟨_, rfl⟩
  have hc1 : 1 ≤ c := hc ▸ pow4_pos (l + 1)
  have hc2 : c ≤ 4096 := hc ▸ pow4_le (l + 1) hl
  have HCap : Hid (∀ w, Calls Tryz.prog 11 #[.int .i64 ((l : Int) + 1)] w fun e w' => e = .returned (.int .i64 (c : Int)) ∧ w = w') := fun w => refCap_any (l + 1) c hl hc w
  have HLK : Hid (LvOk L) := hL
  clear hI hm hBw
  go_enter Tryz.func41, Tryz.ntmps41
  go_upto_region 4 with fail
  generalize (w.alloc (.cells (rfC rf0) 31)) = w1 at *
  go_wp2_with (first | (at_range; refine wpList_range_J (by rfl) _ 78 (by rfl) 3 _ Tryz.underlying78 m L (by rfl) (by exact HM1.out) ?_; intro V1 hit hbw hsz; simp only [Act.put, sgPHTrRng]) | fail)
  have HIT0 : Hid (ItJ lfV V1 w1.heap.size m L []) := hit
  have HI2 : Hid (Img V1 B (.slice (some ⟨ib, 0, none⟩) n cap) n X) := HI1.out.below hbw
  have HB2 : Hid (Below w.heap.size w V1) := hb1.trans (hbw.mono hb1.size)
  have r2 := r1.below hbw r1.lt
  have HR2 : Hid (Blk V1 w.heap.size 31 (rfC rf0)) := r2
  clear hit hbw hb1 r1 r2 HM1 HI1
  generalize hS1 : w1.heap.size = s1 at *
  have hs1 : s1 = w.heap.size + 1 := HS1.out
  have HS2 : Hid (s1 = w.heap.size + 1) := hs1
  clear hS1 HS1 hs1
  go_loopw [10] (fun v10 wr => Hid (∃ done : List Int, v10 = .bool (anyP c p done) ∧ ItJ lfV wr s1 m L done ∧ Img wr B (.slice (some ⟨ib, 0, none⟩) n cap) n X ∧ Blk wr w.heap.size 31 (rfC rf0) ∧ Below w.heap.size w wr)) (fun _ wr => L.length - itN wr s1)
  case atStart => exact ⟨[], rfl, HIT0.out, HI2.out, HR2.out, HB2.out⟩
  case round =>
    clear HIT0 HI2 HR2 HB2
    obtain ⟨U0, rfl⟩ : ∃ u, u = wr := ⟨_, rfl⟩
    obtain ⟨done, rfl, hit, himg, hr, hb⟩ := Hid.out hrel
    have HIT : Hid (ItJ lfV U0 s1 m L done) := hit
    have HIM : Hid (Img U0 B (.slice (some ⟨ib, 0, none⟩) n cap) n X) := himg
    have HR : Hid (Blk U0 w.heap.size 31 (rfC rf0)) := hr
    have HB : Hid (Below w.heap.size w U0) := hb
    have hne : s1 ≠ m := by have h1 := HS2.out; have h2 := HML.out; omega
    clear hrel hit himg hr hb
    obtain ⟨bb, hbb⟩ : ∃ bb, bb = anyP c p done := ⟨_, rfl⟩
    have HBB : Hid (bb = anyP c p done) := hbb
    rw [← hbb]
    clear hbb
    go_upto_region 5 with fail
    refine wp_region_list ?_
    refine wpList_next_J (by rfl) _ (by rfl) s1 m L done (by rfl) (by exact HIT.out) hne (fun hall => ?_) (fun x xv W2 hxl hxd hit2 hk2 hen => ?_)
    · have HNO : Hid (bb = false → ∀ q, q < 4 ^ (l + 1) → ∀ j, j < 256 → gJ L ((p * 4 ^ (l + 1) + q : Nat) : Int) j = 0) := fun hb0 q hq j _ => by
        rw [gJ_none (fun hin => ?_)]
        have hd := hall _ hin
        rw [HBB.out] at hb0
        unfold anyP at hb0
        have := List.any_eq_false.1 hb0 _ hd
        simp only [decide_eq_true_eq] at this
        rw [hc] at hq this
        apply this
        rw [Int.ofNat_ediv_ofNat]
        congr 1
        rw [Nat.mul_comm, Nat.mul_add_div hc1, Nat.div_eq_of_lt hq, Nat.add_zero]
      clear hall
      have hr := HR.out
      have hst0 := Blk.store (P := Tryz.prog) hr (rfC rf0) (by simp only [rfC_size]) (arr_mem (rfC_all _))
      have HJ : Hid (JM lfV U0 m L) := HIT.out.map
      have q0 : Blk (U0.alloc (.cells (ndC 0 fun _ => rf0) 160)) U0.heap.size 160 (ndC 0 fun _ => rf0) := Blk.new _ _ _
      have q1 : Blk ((U0.alloc (.cells (ndC 0 fun _ => rf0) 160)).setRow U0.heap.size (ndC ((l : Int) + 1) fun _ => rf0)) U0.heap.size 160 (ndC ((l : Int) + 1) fun _ => rf0) := q0.set _
      have hbq : Below U0.heap.size U0 ((U0.alloc (.cells (ndC 0 fun _ => rf0) 160)).setRow U0.heap.size (ndC ((l : Int) + 1) fun _ => rf0)) := below_setRow (below_new1 _ _) (Nat.le_refl _) _
      have HQ1 : Hid (Blk ((U0.alloc (.cells (ndC 0 fun _ => rf0) 160)).setRow U0.heap.size (ndC ((l : Int) + 1) fun _ => rf0)) U0.heap.size 160 (ndC ((l : Int) + 1) fun _ => rf0)) := q1
      have HJ1 : Hid (JM lfV ((U0.alloc (.cells (ndC 0 fun _ => rf0) 160)).setRow U0.heap.size (ndC ((l : Int) + 1) fun _ => rf0)) m L) := HJ.out.below hbq HJ.out.lt
      have HI3 : Hid (Img ((U0.alloc (.cells (ndC 0 fun _ => rf0) 160)).setRow U0.heap.size (ndC ((l : Int) + 1) fun _ => rf0)) B (.slice (some ⟨ib, 0, none⟩) n cap) n X) := HIM.out.below hbq
      have HB3 : Hid (Below w.heap.size w ((U0.alloc (.cells (ndC 0 fun _ => rf0) 160)).setRow U0.heap.size (ndC ((l : Int) + 1) fun _ => rf0))) := HB.out.trans (hbq.mono HB.out.size)
      have HR3 : Hid (Blk ((U0.alloc (.cells (ndC 0 fun _ => rf0) 160)).setRow U0.heap.size (ndC ((l : Int) + 1) fun _ => rf0)) w.heap.size 31 (rfC rf0)) := HR.out.below hbq HR.out.lt
      have HNB : Hid (w.heap.size < U0.heap.size) := HR.out.lt
      clear hbq q1
      have hst : (storeCells ⟨U0.heap.size, 0, none⟩ ((ndC 0 fun _ => rf0).toList.set 0 (.int .i64 ((l : Int) + 1)))).run Tryz.prog (U0.alloc (.cells (ndC 0 fun _ => rf0) 160)) = .ok () ((U0.alloc (.cells (ndC 0 fun _ => rf0) 160)).setRow U0.heap.size (ndC ((l : Int) + 1) fun _ => rf0)) := by
        have e : (ndC 0 fun _ => rf0).toList.set 0 (.int .i64 ((l : Int) + 1)) = (ndC ((l : Int) + 1) fun _ => rf0).toList := nd_first _ _ _
        rw [e]
        exact Blk.store (P := Tryz.prog) q0 _ (by simp only [ndC_size]) (arr_mem (ndC_all _ _))
      go_upto_if 41 with fail
      cases bb
      · have hbt : false = false := rfl
        have HZ : Hid (∀ q, q < 4 ^ (l + 1) → ∀ j, j < 256 → gJ L ((p * 4 ^ (l + 1) + q : Nat) : Int) j = 0) := HNO.out hbt
        go_wp2_with fail
        try simp only [Exit.inBlock, Exit.then]
        refine bodyPost_ret (results_tmp_row Tryz.results41 _ _ (w.heap.size) 31 (rfC rf0) _ rfl (hr.set _) Tryz.underlying31 rfl (rsizeRef.trans (by rw [rfC_size]))) rfl ?_
        exact ⟨_, n, X, rf0, rfl, ⟨img_setAny HIM.out.1 hr, HIM.out.2⟩, ⟨Nat.le_refl _, Nat.le_add_right _ _, fun x _ => rfl⟩, ⟨by decide, okD_zero⟩, Has.none HZ.out, below_setRow HB.out (Nat.le_refl _) _⟩
      · clear HNO HBB HIT HIM HR HB HJ hr hst0
        go_upto_region 11 with fail
        clear q0 hst
        generalize ((U0.alloc (.cells (ndC 0 fun _ => rf0) 160)).setRow U0.heap.size (ndC ((l : Int) + 1) fun _ => rf0)) = w3 at *
        generalize U0.heap.size = nb at *
        go_wp2_with fail
        go_loopw [0, 13] (fun v0 v13 wr => Hid (∃ (k n' vb vc : Nat) (X' : Nat → Nat) (K : Nat → Rf), k ≤ 4 ∧ v13 = .int .i64 (k : Int) ∧ v0 = .slice (some ⟨vb, 0, none⟩) n' vc ∧ Img wr B (.slice (some ⟨vb, 0, none⟩) n' vc) n' X' ∧ (n ≤ n' ∧ n' ≤ n + k * layN l ∧ ∀ x, x < n * 256 → X' x = X x) ∧ (∀ i, i < 4 → (K i).1 < 4294967296 ∧ okD (K i).2) ∧ (∀ i, k ≤ i → K i = rf0) ∧ (∀ i, i < k → Has X' n' l (K i) fun q => gJ L (((4 * p + i) * 4 ^ l + q : Nat) : Int)) ∧ Blk wr nb 160 (ndC ((l : Int) + 1) K) ∧ Blk wr w.heap.size 31 (rfC rf0) ∧ JM lfV wr m L ∧ Below w.heap.size w wr)) (fun _ v13 _ => 4 - (intOf v13).toNat)
        case atStart => exact ⟨0, n, ib, cap, X, fun _ => rf0, by omega, rfl, rfl, HI3.out, ⟨Nat.le_refl _, Nat.le_add_right _ _, fun x _ => rfl⟩, fun i _ => ⟨(show rf0.1 < 4294967296 by decide), okD_zero⟩, fun i _ => rfl, fun i hi => absurd hi (by omega), HQ1.out, HR3.out, HJ1.out, HB3.out⟩
        case round =>
          clear HI3 HQ1 HR3 HJ1 HB3
          obtain ⟨U1, rfl⟩ : ∃ u, u = wr := ⟨_, rfl⟩
          obtain ⟨k, n1, vb, vc, X1, K, hk, rfl, rfl, himg, hext, hK, hK0, hHas, hnd, hr, hj, hb⟩ := Hid.out hrel
          have HIM : Hid (Img U1 B (.slice (some ⟨vb, 0, none⟩) n1 vc) n1 X1) := himg
          have HEX : Hid (n ≤ n1 ∧ n1 ≤ n + k * layN l ∧ ∀ x, x < n * 256 → X1 x = X x) := hext
          have HKK : Hid (∀ i, i < 4 → (K i).1 < 4294967296 ∧ okD (K i).2) := hK
          have HK0 : Hid (∀ i, k ≤ i → K i = rf0) := hK0
          have HHS : Hid (∀ i, i < k → Has X1 n1 l (K i) fun q => gJ L (((4 * p + i) * 4 ^ l + q : Nat) : Int)) := hHas
          have HND : Hid (Blk U1 nb 160 (ndC ((l : Int) + 1) K)) := hnd
          have HR : Hid (Blk U1 w.heap.size 31 (rfC rf0)) := hr
          have HJ : Hid (JM lfV U1 m L) := hj
          have HB : Hid (Below w.heap.size w U1) := hb
          clear hrel himg hext hK hK0 hHas hnd hr hj hb
          by_cases hlt : k < 4
          · have k1 : (k : Int) < 4 := by omega
            have hp4 : p + 1 ≤ 4096 := Nat.le_trans (Nat.le_mul_of_pos_right _ (pow4_pos (l + 1))) hp
            have HIH : Hid (Calls Tryz.prog 41 #[.slice (some ⟨vb, 0, none⟩) n1 vc, .int .i64 (l : Int), .int .i64 (wrap64 (wrap64 (4 * (p : Int)) + (k : Int))), .map (some m)] U1 fun e w' => LayR U1 B n1 (layN l) X1 l (4 * p + k) L e w') := by
              have := ih (4 * p + k) n1 (.slice (some ⟨vb, 0, none⟩) n1 vc) X1 U1 ?_ ?_ (Nat.le_trans HBW.out HB.out.size) HJ.out HIM.out
              · rw [wrap64_at (4 * (p : Int)) (by omega), wrap64_at (4 * (p : Int) + (k : Int)) (by omega)]
                rw [show ((4 * p + k : Nat) : Int) = 4 * (p : Int) + (k : Int) by omega] at this
                exact this
              · rw [Nat.pow_succ, Nat.mul_comm (4 ^ l) 4, ← Nat.mul_assoc] at hp
                exact Nat.le_trans (Nat.mul_le_mul_right _ (by omega)) hp
              · have h1 := HEX.out.2.1
                have h2 : k * layN l ≤ 3 * layN l := Nat.mul_le_mul_right _ (by omega)
                unfold layN at hn
                omega
            clear ih hp4
            go_wp2_with fail
            refine HIH.out.mono ?_
            rintro e w5 ⟨v5, n2, X2, r2, rfl, h1, h2, h3, h4, hb5⟩
            obtain ⟨vb2, vc2, rfl, _, _, _⟩ := own_some h1.1 h1.2.2
            have HNW : Hid (nb < U1.heap.size) := HND.out.lt
            have d2 : Blk w5 nb 160 (va 133 (ndF ((l : Int) + 1) K)) := HND.out.below hb5 HND.out.lt
            have HI5 : Hid (Img (w5.setCells nb (1 + k * 33) (rfC r2).toList) B (.slice (some ⟨vb2, 0, none⟩) n2 vc2) n2 X2) := img_keep h1 fun b cs hbk => heap_cells_ne (blk_apart hbk d2 (by decide)) _ _ _
            have HE5 : Hid (n ≤ n2 ∧ n2 ≤ n + (k + 1) * layN l ∧ ∀ x, x < n * 256 → X2 x = X x) := by
              have q1 := HEX.out
              refine ⟨Nat.le_trans q1.1 h2.1, ?_, fun x hx => (h2.2.2 x (by omega)).trans (q1.2.2 x hx)⟩
              have e1 : (k + 1) * layN l = k * layN l + layN l := Nat.succ_mul _ _
              omega
            have HK5 : Hid (∀ i, i < 4 → (kdSet K k r2 i).1 < 4294967296 ∧ okD (kdSet K k r2 i).2) := fun i hi => by
              unfold kdSet
              split
              · exact h3
              · exact HKK.out i hi
            have HZ5 : Hid (∀ i, k + 1 ≤ i → kdSet K k r2 i = rf0) := fun i hi => by
              unfold kdSet
              rw [if_neg (by omega)]
              exact HK0.out i (by omega)
            have HH5 : Hid (∀ i, i < k + 1 → Has X2 n2 l (kdSet K k r2 i) fun q => gJ L (((4 * p + i) * 4 ^ l + q : Nat) : Int)) := fun i hi => by
              unfold kdSet
              by_cases e : i = k
              · rw [if_pos e, e]
                exact h4
              · rw [if_neg e]
                exact (HHS.out i (by omega)).ext h2.2.2 h2.1
            have HD5 : Hid (Blk (w5.setCells nb (1 + k * 33) (rfC r2).toList) nb 160 (ndC ((l : Int) + 1) (kdSet K k r2))) := by
              unfold ndC
              rw [← nd_over ((l : Int) + 1) K k r2 hlt]
              exact d2.cells_put _ _ _
            have HR5 : Hid (Blk (w5.setCells nb (1 + k * 33) (rfC r2).toList) w.heap.size 31 (rfC rf0)) := (HR.out.below hb5 HR.out.lt).cells_other (by have := HNB.out; omega) _ _ _
            have HJ5 : Hid (JM lfV (w5.setCells nb (1 + k * 33) (rfC r2).toList) m L) := (HJ.out.below hb5 HJ.out.lt).keep (heap_cells_ne (by have := HNB.out; have := HML.out; omega) _ _ _)
            have HB5 : Hid (Below w.heap.size w (w5.setCells nb (1 + k * 33) (rfC r2).toList)) := below_setCells (by have := HNB.out; omega) _ _ _ (HB.out.trans (hb5.mono HB.out.size))
            clear h1 h2 h3 h4 hb5 HIM HEX HKK HK0 HHS HND HR HJ HB HIH
            go_wp2_with (first
              | (refine wpList_store_mid (by rfl) 31 _ _ (by rfl) (nb) (1 + k * 33) (rfC r2) (by rfl) (by rfl) (by exact d2.there (1 + k * 33) _ (by rw [rfC_size, va_size]; omega)) (rsizeRef.trans (by rw [rfC_size])) (rfC_all _) ?_; simp only [Act.put, sgPHTrRng])
              | fail)
            clear d2
            generalize (w5.setCells nb (1 + k * 33) (rfC r2).toList) = w6 at *
            go_wp2_with fail
            go_roundw
            case rel => exact ⟨k + 1, n2, vb2, vc2, X2, kdSet K k r2, by omega, by simp, rfl, HI5.out, HE5.out, HK5.out, HZ5.out, HH5.out, HD5.out, HR5.out, HJ5.out, HB5.out⟩
            case measure => simp [intOf]; omega
          · have e : k = 4 := by omega
            subst e
            clear ih hlt
            have HG : Hid (∀ i, i < 4 → Has X1 n1 l (K i) fun q => gJ L ((p * 4 ^ (l + 1) + (i * 4 ^ l + q) : Nat) : Int)) := fun i hi => by
              have := HHS.out i hi
              have e : ∀ q, (4 * p + i) * 4 ^ l + q = p * 4 ^ (l + 1) + (i * 4 ^ l + q) := fun q => by
                rw [Nat.pow_succ, Nat.add_mul, Nat.mul_comm 4 p, Nat.mul_assoc p 4, Nat.mul_comm 4 (4 ^ l), Nat.add_assoc]
              simp only [e] at this
              exact this
            have HRG : Hid (U1.rangeAt nb 1 ((List.range 132).map (kdF K))) := nd_kids HND.out
            have HEQ : ∀ W, (Op.equalIn 10000 149 (.agg (va 132 (kdF K))) (.agg (kdC fun _ => rf0))).run Tryz.prog W = .ok ((List.range 4).all fun i => decide (K i = rf0)) W := fun W => eq_rkd K (fun _ => rf0) W
            obtain ⟨bz, hbz⟩ : ∃ bz, ((List.range 4).all fun i => decide (K i = rf0)) = bz := ⟨_, rfl⟩
            rw [hbz] at HEQ
            have HBZ : Hid (((List.range 4).all fun i => decide (K i = rf0)) = bz) := hbz
            have HN4 : Hid (n ≤ n1 ∧ n1 + 1 ≤ n + layN (l + 1) ∧ n1 ≤ 8192) := by
              have q1 := HEX.out
              have e1 : layN (l + 1) = 4 * layN l + 1 := rfl
              refine ⟨q1.1, by omega, by omega⟩
            clear hbz HK0 HHS
            go_upto_if 68 with (first
              | (refine wpList_load_blk (by rfl) 149 _ (by rfl) (nb) (1) 132 (kdF K) (by rfl) _ (by exact HRG.out) Tryz.underlying149 rfl rsizeKd ?_; simp only [Act.put, sgPHTrRng])
              | fail)
            have hr := HR.out
            cases bz
            · clear HRG HEQ hr HBZ
              have HLD : Hid (∀ W : World, Blk W nb 160 (ndC ((l : Int) + 1) K) → True) := fun _ _ => trivial
              have hnd := HND.out
              have HBk : Hid (∀ w, Calls Tryz.prog 64 #[.agg (ndC ((l : Int) + 1) K)] w fun e w' => e = .returned (.tuple #[.agg (va 256 (iv .u8 (nodeB (l + 1) K))), .int .i64 0]) ∧ Below w.heap.size w w') := fun w => by
                have h1 := refBlock_any ((l : Int) + 1) K (fun i hi => (HKK.out i hi).2) (fun i hi => (HKK.out i hi).1) w
                have h2 : ndOk ((l : Int) + 1) K = true := ndOk_has hl HG.out
                unfold blkF at h1
                rw [h2, if_pos rfl, if_pos rfl] at h1
                exact h1
              have HNB4 : Hid (∀ j, nodeB (l + 1) K j < 256) := fun j => nodeB_lt (l + 1) (by omega) K (fun i hi => (HKK.out i hi).2) j
              clear HLD
              go_wp2_with (first
                | (refine wpList_load_rowg (by rfl) 160 _ (by rfl) (nb) (by rfl) 160 (ndC ((l : Int) + 1) K) (0, 0) _ (by exact hnd) Tryz.underlying160 (by rfl) (rsizeNd.trans (by rw [ndC_size])) ?_; simp only [Act.put, sgPHTrRng])
                | fail)
              refine (HBk.out U1).mono ?_
              rintro e w5 ⟨rfl, hb5⟩
              have HND5 : Hid (∀ X' n' r, PutR X1 n1 (nodeB (l + 1) K) X' n' r → Has X' n' (l + 1) r (fun q => gJ L ((p * 4 ^ (l + 1) + q : Nat) : Int))) := fun X' n' r hp => Has.node HIM.out.2.2 hl (fun i hi => (HKK.out i hi).2) (fun i hi => (HKK.out i hi).1) HG.out hp
              generalize nodeB (l + 1) K = f at *
              have q0 : Blk (w5.alloc (.cells (va 256 (iv .u8 fun _ => 0)) 49)) w5.heap.size 49 (va 256 (iv .u8 fun _ => 0)) := Blk.new _ _ _
              have q1 : Blk ((w5.alloc (.cells (va 256 (iv .u8 fun _ => 0)) 49)).setRow w5.heap.size (va 256 (iv .u8 f))) w5.heap.size 49 (va 256 (iv .u8 f)) := q0.set _
              have hbq : Below w5.heap.size w5 ((w5.alloc (.cells (va 256 (iv .u8 fun _ => 0)) 49)).setRow w5.heap.size (va 256 (iv .u8 f))) := below_setRow (below_new1 _ _) (Nat.le_refl _) _
              have hb6 := hb5.trans (hbq.mono hb5.size)
              have HI6 : Hid (Img ((w5.alloc (.cells (va 256 (iv .u8 fun _ => 0)) 49)).setRow w5.heap.size (va 256 (iv .u8 f))) B (.slice (some ⟨vb, 0, none⟩) n1 vc) n1 X1) := HIM.out.below hb6
              have HR6 : Hid (Blk ((w5.alloc (.cells (va 256 (iv .u8 fun _ => 0)) 49)).setRow w5.heap.size (va 256 (iv .u8 f))) w.heap.size 31 (rfC rf0)) := HR.out.below hb6 HR.out.lt
              have HB6 : Hid (Below w.heap.size w ((w5.alloc (.cells (va 256 (iv .u8 fun _ => 0)) 49)).setRow w5.heap.size (va 256 (iv .u8 f)))) := HB.out.trans (hb6.mono HB.out.size)
              clear hb5 hbq hb6 HIM HR HB HBk HKK HG HJ hnd HND
              go_wp2_with (first
                | (refine wpList_store_row (by rfl) 49 _ _ (by rfl) (w5.heap.size) (va 256 (iv .u8 f)) (by rfl) (by rfl) 49 (va 256 (iv .u8 fun _ => 0)) (by exact q0) (rsizeBk.trans (by rw [va_size])) (by simp only [va_size]) (iv_one _ _ _) ?_; simp only [Act.put, sgPHTrRng])
                | (refine wpList_load_rowg (by rfl) 49 _ (by rfl) (w5.heap.size) (by rfl) 49 (va 256 (iv .u8 f)) (0, 0) _ (by exact q1) Tryz.underlying49 (by rfl) (rsizeBk.trans (by rw [va_size])) ?_; simp only [Act.put, sgPHTrRng])
                | fail)
              clear q0 q1
              generalize ((w5.alloc (.cells (va 256 (iv .u8 fun _ => 0)) 49)).setRow w5.heap.size (va 256 (iv .u8 f))) = w6 at *
              refine (put9_any f HNB4.out HN4.out.2.2 w6 (Nat.le_trans HBW.out HB6.out.size) HI6.out).mono ?_
              rintro e w7 ⟨v7, n7, X7, r7, rfl, h1, h2, h3, h4, hb7⟩
              obtain ⟨vb7, vc7, rfl, _, _, _⟩ := own_some h1.1 h1.2.2
              have hr := HR6.out.below hb7 HR6.out.lt
              have hst := Blk.store (P := Tryz.prog) hr (rfC r7) (by simp only [rfC_size]) (arr_mem (rfC_all _))
              have hvs := rfC_size r7
              have HI7 : Hid (Img (w7.setRow w.heap.size (rfC r7)) B (.slice (some ⟨vb7, 0, none⟩) n7 vc7) n7 X7) := ⟨img_setAny h1.1 hr, h1.2⟩
              have HB7 : Hid (Below w.heap.size w (w7.setRow w.heap.size (rfC r7))) := below_setRow (HB6.out.trans (hb7.mono HB6.out.size)) (Nat.le_refl _) _
              have HP7 : Hid (PutR X1 n1 f X7 n7 r7 ∧ r7.1 < 4294967296 ∧ okD r7.2) := ⟨h2, h3, h4⟩
              clear h1 h2 h3 h4 hb7 HI6 HR6 HB6
              go_wp2_with fail
              try simp only [Exit.inBlock, Exit.then]
              refine bodyPost_ret (results_tmp_row Tryz.results41 _ _ (w.heap.size) 31 (rfC r7) _ rfl (hr.set _) Tryz.underlying31 rfl (rsizeRef.trans (by rw [rfC_size]))) rfl ?_
              have hx := putR_ext HP7.out.1
              exact ⟨_, n7, X7, r7, rfl, HI7.out, ⟨Nat.le_trans HN4.out.1 hx.1, by have := HN4.out.2.1; omega, fun x hx2 => (hx.2.2 x (by have := HN4.out.1; omega)).trans (HEX.out.2.2 x hx2)⟩, HP7.out.2, HND5.out _ _ _ HP7.out.1, HB7.out⟩
            · have hst := Blk.store (P := Tryz.prog) hr (rfC rf0) (by simp only [rfC_size]) (arr_mem (rfC_all _))
              have HAL : Hid (∀ i, i < 4 → K i = rf0) := fun i hi => by
                have := List.all_eq_true.1 HBZ.out i (List.mem_range.2 hi)
                simpa using this
              have HZ : Hid (∀ q, q < 4 ^ (l + 1) → ∀ j, j < 256 → gJ L ((p * 4 ^ (l + 1) + q : Nat) : Int) j = 0) := fun q hq j hj => by
                have hpos : 0 < 4 ^ l := Nat.pow_pos (by decide)
                have hdiv : q / 4 ^ l < 4 := Nat.div_lt_of_lt_mul (by rw [Nat.pow_succ] at hq; omega)
                have h1 := HG.out (q / 4 ^ l) hdiv
                rw [HAL.out _ hdiv] at h1
                have h2 := h1.zero (q % 4 ^ l) (Nat.mod_lt _ hpos) j hj
                have e : q / 4 ^ l * 4 ^ l + q % 4 ^ l = q := by
                  have := Nat.div_add_mod q (4 ^ l)
                  rw [Nat.mul_comm] at this
                  exact this
                simp only [e] at h2
                exact h2
              clear HRG HEQ
              go_wp2_with fail
              try simp only [Exit.inBlock, Exit.then]
              refine bodyPost_ret (results_tmp_row Tryz.results41 _ _ (w.heap.size) 31 (rfC rf0) _ rfl (hr.set _) Tryz.underlying31 rfl (rsizeRef.trans (by rw [rfC_size]))) rfl ?_
              exact ⟨_, n1, X1, rf0, rfl, ⟨img_setAny HIM.out.1 hr, HIM.out.2⟩, ⟨HN4.out.1, by have := HN4.out.2.1; omega, HEX.out.2.2⟩, ⟨by decide, okD_zero⟩, Has.none HZ.out, below_setRow HB.out (Nat.le_refl _) _⟩
    · have hx0 : 0 ≤ x ∧ x ≤ 9223372036854775807 := HLK.out.key _ hxl
      obtain ⟨xn, rfl⟩ := Int.eq_ofNat_of_zero_le hx0.1
      have hcz : ((c : Nat) : Int) ≠ 0 := by omega
      have hqd : (xn : Int) / (c : Int) = ((xn / c : Nat) : Int) := (Int.ofNat_ediv_ofNat (a := xn) (b := c))
      have hq1 : xn / c ≤ xn := Nat.div_le_self _ _
      have hwq : wrap64 ((xn : Int) / (c : Int)) = (xn : Int) / (c : Int) := by
        rw [hqd]
        clear hqd
        generalize xn / c = z at *
        exact wrap64_at _ (by have := hx0.2; omega)
      have HIT2 : Hid (ItJ lfV W2 s1 m L (done ++ [(xn : Int)])) := hit2
      have HM2 : Hid (L.length - itN W2 s1 < L.length - itN U0 s1) := by
        have h1 := hit2.num
        have h2 := HIT.out.num
        have h3 := hit2.le
        rw [List.length_append] at h1 h3
        simp at h1 h3
        show _ < _
        omega
      have HI2 : Hid (Img W2 B (.slice (some ⟨ib, 0, none⟩) n cap) n X) := img_keep HIM.out fun b cs hbk => hk2.block b hbk.lt fun e => by
        subst e
        have h1 := HIT.out
        obtain ⟨_, _, _, _, _, h2, _⟩ := h1
        have h3 := h2.symm.trans (show U0.heap[b]? = _ from hbk)
        cases h3
      have HR2 : Hid (Blk W2 w.heap.size 31 (rfC rf0)) := (hk2.block _ HR.out.lt (by have := HS2.out; omega)).trans HR.out
      have HB2 : Hid (Below w.heap.size w W2) := HB.out.trans (hk2.below (B := w.heap.size) HB.out.size fun b e => by have := HS2.out; omega)
      clear hit2 hk2 hxl hxd hx0 hqd hq1 HIT HIM HR HB
      cases bb
      · go_wp2_with fail
        refine (HCap.out _).mono ?_
        rintro e w3 ⟨rfl, rfl⟩
        go_wp2_with fail
        go_roundw
        case rel => exact ⟨done ++ [(xn : Int)], by rw [anyP_snoc, ← HBB.out, Bool.false_or] <;> (congr 1 <;> (rw [Bool.eq_iff_iff] <;> simp)), HIT2.out, HI2.out, HR2.out, HB2.out⟩
        case measure => exact HM2.out
      · go_wp2_with fail
        go_roundw
        case rel => exact ⟨done ++ [(xn : Int)], by rw [anyP_snoc, ← HBB.out] <;> rfl, HIT2.out, HI2.out, HR2.out, HB2.out⟩
        case measure => exact HM2.out
/-- lay, at every level -/
theorem lay9_any {B m : Nat} {L : List (Int × (Nat → Nat))} (hL : LvOk L) : ∀ (l : Nat), l ≤ 6 → ∀ (p n : Nat) (v : Value) (X : Nat → Nat) (w : World), (p + 1) * 4 ^ l ≤ 4096 → n + layN l ≤ 8193 → B ≤ w.heap.size → JM lfV w m L → Img w B v n X → Calls Tryz.prog 41 #[v, .int .i64 (l : Int), .int .i64 (p : Int), .map (some m)] w fun e w' => LayR w B n (layN l) X l p L e w'
  | 0, _, p, n, v, X, w, _, hn, hB, hm, hI => lay9_zero hL p (by unfold layN at hn; omega) w hB hm hI
  | l + 1, hl, p, n, v, X, w, hp, hn, hB, hm, hI => lay9_step hl hL (fun p n v X w => lay9_any hL l (by omega) p n v X w) p n v X w hp hn hB hm hI
end Go.Proofs.YtiofonffmplfmaaGreat

namespace Go.Proofs.YtiofonffmplfmaaGreat
open Go Go.RowKit
set_option linter.unusedSimpArgs false
set_option linter.unusedVariables false
set_option maxRecDepth 100000 in
set_option maxHeartbeats 8000000 in
theorem covers_any (n pn : Nat) (R : Rf) (f m : Nat) (hn : n ≤ 6) (hp : (pn + 1) * 4 ^ n ≤ 4096) (hf : f + m ≤ 4096) (w : World) : Calls Tryz.prog 31 #[.agg (poC (n : Int) (pn : Int) R), .int .i64 (f : Int), .int .i64 (m : Int)] w fun e w' => e = .returned (.bool (decide (covR f m n (pn : Int)))) ∧ Below w.heap.size w w' := by
  have hb1 : Below w.heap.size w (w.alloc (.cells (poC (n : Int) (pn : Int) R) 73)) := below_new1 _ _
  have t1 : Blk (w.alloc (.cells (poC (n : Int) (pn : Int) R) 73)) w.heap.size 73 (poC (n : Int) (pn : Int) R) := Blk.new _ _ _
  have h4 := pow4_pos n
  have hpn : pn + 1 ≤ 4096 := by
    have := Nat.mul_le_mul_left (pn + 1) h4
    omega
  obtain ⟨a, ha⟩ : ∃ a, pn * 4 ^ n = a := ⟨_, rfl⟩
  obtain ⟨b, hb⟩ : ∃ b, (pn + 1) * 4 ^ n = b := ⟨_, rfl⟩
  have hab : a < b := by
    rw [Nat.succ_mul] at hb
    omega
  have HF1 : Hid (∀ w, Calls Tryz.prog 47 #[.int .i64 (n : Int), .int .i64 (pn : Int)] w fun e w' => e = .returned (.int .i64 (a : Int)) ∧ w = w') := fun w => firstLeaf_any n pn a hn ha (by omega) w
  have HF2 : Hid (∀ w, Calls Tryz.prog 47 #[.int .i64 (n : Int), .int .i64 ((pn : Int) + 1)] w fun e w' => e = .returned (.int .i64 (b : Int)) ∧ w = w') := fun w => firstLeaf_any n (pn + 1) b hn hb (by omega) w
  have HCV : Hid (covR f m n (pn : Int) ↔ max (a : Int) (f : Int) < min (b : Int) ((f : Int) + (m : Int))) := by
    show _ ↔ _
    unfold covR
    have e1 : (pn : Int) * ((4 ^ n : Nat) : Int) = (a : Int) := by rw [← ha]; push_cast; rfl
    have e2 : ((pn : Int) + 1) * ((4 ^ n : Nat) : Int) = (b : Int) := by rw [← hb]; push_cast; rfl
    rw [e1, e2]
  have hS : Blk (w.alloc (.cells (poC (n : Int) (pn : Int) R) 73)).drew w.heap.size 73 (poC (n : Int) (pn : Int) R) := t1
  have HB1 : Hid (Below w.heap.size w (w.alloc (.cells (poC (n : Int) (pn : Int) R) 73)).drew) := hb1.drew
  rw [hb] at hp
  clear hb1 t1 ha hb h4
  go_enter Tryz.func31, Tryz.ntmps31
  go_upto_region 1 with fail
  generalize (w.alloc (.cells (poC (n : Int) (pn : Int) R) 73)) = w1 at *
  refine wp_region_partsS (fun W => Blk W w.heap.size 73 (poC (n : Int) (pn : Int) R)) [([], 0, true), ([], 1, true), ([], 2, true), ([], 3, true), ([], 5, true), ([], 6, true), ([], 7, true), ([], 8, true), ([], 9, true), ([], 4, false), ([], 10, false)] [11, 12] [] (by kernel_rfl) (by kernel_rfl) hS (partsI_yield ?_)
  simp only [sgLHTrRng]
  go_wp2_with fail
  refine ⟨rfl, _, .pointer (some ⟨w.heap.size, 0, none⟩), rfl, Or.inl ⟨by rfl, fun W hW => by go_simp⟩, partsI_yield ?_⟩
  simp only [Act.put, sgPHTrRng]
  simp only [sgLHTrRng]
  go_wp2_with fail
  refine ⟨rfl, _, .int .i64 (n : Int), rfl, Or.inl ⟨by rfl, fun W hW => by have c1 : W.cell? ⟨w.heap.size, 0, none⟩ = some (.int .i64 (n : Int)) := (hW.cell 0).trans (va_at (poF (n : Int) (pn : Int) R) (by decide)); go_simp⟩, partsI_yield ?_⟩
  simp only [Act.put, sgPHTrRng]
  simp only [sgLHTrRng]
  go_wp2_with fail
  refine ⟨rfl, _, .pointer (some ⟨w.heap.size, 1, none⟩), rfl, Or.inl ⟨by rfl, fun W hW => by go_simp⟩, partsI_yield ?_⟩
  simp only [Act.put, sgPHTrRng]
  simp only [sgLHTrRng]
  go_wp2_with fail
  refine ⟨rfl, _, .int .i64 (pn : Int), rfl, Or.inl ⟨by rfl, fun W hW => by have c1 : W.cell? ⟨w.heap.size, 1, none⟩ = some (.int .i64 (pn : Int)) := (hW.cell 1).trans (va_at (poF (n : Int) (pn : Int) R) (by decide)); go_simp⟩, partsI_yield ?_⟩
  simp only [Act.put, sgPHTrRng]
  simp only [sgLHTrRng]
  go_wp2_with fail
  refine ⟨rfl, _, .pointer (some ⟨w.heap.size, 0, none⟩), rfl, Or.inl ⟨by rfl, fun W hW => by go_simp⟩, partsI_yield ?_⟩
  simp only [Act.put, sgPHTrRng]
  simp only [sgLHTrRng]
  go_wp2_with fail
  refine ⟨rfl, _, .int .i64 (n : Int), rfl, Or.inl ⟨by rfl, fun W hW => by have c1 : W.cell? ⟨w.heap.size, 0, none⟩ = some (.int .i64 (n : Int)) := (hW.cell 0).trans (va_at (poF (n : Int) (pn : Int) R) (by decide)); go_simp⟩, partsI_yield ?_⟩
  simp only [Act.put, sgPHTrRng]
  simp only [sgLHTrRng]
  go_wp2_with fail
  refine ⟨rfl, _, .pointer (some ⟨w.heap.size, 1, none⟩), rfl, Or.inl ⟨by rfl, fun W hW => by go_simp⟩, partsI_yield ?_⟩
  simp only [Act.put, sgPHTrRng]
  simp only [sgLHTrRng]
  go_wp2_with fail
  refine ⟨rfl, _, .int .i64 (pn : Int), rfl, Or.inl ⟨by rfl, fun W hW => by have c1 : W.cell? ⟨w.heap.size, 1, none⟩ = some (.int .i64 (pn : Int)) := (hW.cell 1).trans (va_at (poF (n : Int) (pn : Int) R) (by decide)); go_simp⟩, partsI_yield ?_⟩
  simp only [Act.put, sgPHTrRng]
  simp only [sgLHTrRng]
  go_wp2_with fail
  refine ⟨rfl, _, .int .i64 ((pn : Int) + 1), rfl, Or.inl ⟨by rfl, fun W hW => by go_simp; rw [IntKind.wrap_i64]; omega⟩, partsI_force ?_⟩
  simp only [Act.put, sgPHTrRng]
  simp only [sgLHTrRng]
  go_wp2_with fail
  refine (HF1.out _).mono ?_
  rintro e w2 ⟨rfl, rfl⟩
  go_wp2_with fail
  refine ⟨rfl, hS, partsI_force ?_⟩
  simp only [sgLHTrRng]
  go_wp2_with fail
  refine (HF2.out _).mono ?_
  rintro e w2 ⟨rfl, rfl⟩
  go_wp2_with fail
  refine ⟨rfl, hS, partsI_last ?_⟩
  simp only [sgLHTrRng]
  go_wp2_with fail
  refine ⟨rfl, ?_⟩
  have hsum : wrap64 ((f : Int) + (m : Int)) = (f : Int) + (m : Int) := wrap64_at _ (by omega)
  go_wp2_with fail
  all_goals
    go_ret
    refine ⟨?_, HB1.out⟩
    refine congrArg (fun x => Ending.returned (.bool x)) ?_
    rw [Bool.eq_iff_iff]
    simp only [decide_eq_true_eq]
    rw [HCV.out, Int.max_def, Int.min_def]
    try simp only [true_iff]
    (repeat (any_goals split)) <;> omega
end Go.Proofs.YtiofonffmplfmaaGreat
