/- Maps with integers as keys, told by a list in the order of their coming: looked up, stored into, gone over in any order. -/
import Derived.Test.YtjhabngibbmpbaaGreatHTrNode
import Derived.Handy
import Derived.Test.YtjhabngibbmpbaaGreatHCaGet
import Derived.Maps.RangeWalk
import Derived.Maps.Own

namespace Go.Proofs.YtjhabngibbmpbaaGreat
open Go Go.RowKit
set_option linter.unusedSimpArgs false
set_option linter.unusedVariables false

/-- what is wrong with the node of a position, if something is -/
def nodE (F : Nat → Nat) (N : Nat) (l : Int) (k : Rf) : Int := if gotE F N k = 0 then (if rdOk (gotF F N k) = true ∧ ((gotF F N k 4 : Nat) : Int) = l then 0 else 70) else 2
theorem gotE_two (F : Nat → Nat) (N : Nat) (k : Rf) : gotE F N k = 0 ∨ gotE F N k = 2 := by
  unfold gotE
  split
  · exact .inl rfl
  · exact .inr rfl
/-- where a way leads to, and what is wrong on it -/
def folR (F : Nat → Nat) (N : Nat) : Int → Rf → List Nat → Rf × Int
  | _, R, [] => (R, 0)
  | h, R, p :: ps => if R = rf0 then (rf0, 0) else if nodE F N h R = 0 then folR F N (h - 1) (decK (gotF F N R) p) ps else (rf0, nodE F N h R)
theorem folR_none (F : Nat → Nat) (N : Nat) (h : Int) (ps : List Nat) : folR F N h rf0 ps = (rf0, 0) := by
  cases ps with
  | nil => rfl
  | cons p ps => simp [folR]
section
variable {B g N c m room i : Nat} {F : Nat → Nat} {U : Nat → Prop}
theorem readNode_td (l p : Int) (k : Rf) (hk : k.1 < 4294967296) (hi : i < 68719476736) (hF : ∀ a, F a < 256) (e : Int) (he : nodE F N l k = e) (w : World) (H : TD w B g N F c m room i U) : Calls Tryz.prog 73 #[.pointer (some ⟨c, 0, none⟩), .agg (poC l p k)] w fun x w' => x = .returned (.tuple #[.agg (va 256 (iv .u8 (if e = 0 then gotF F N k else fun _ => 0))), .agg (if e = 0 then ndC l (decK (gotF F N k)) else ndC 0 fun _ => rf0), .int .i64 e]) ∧ TDStep w w' B g N F c m room (i + 1) U := by
  subst he
  rcases gotE_two F N k with h0 | h2
  · cases hr : rdOk (gotF F N k) with
    | false =>
      have h1 : nodE F N l k = 70 := by
        unfold nodE
        rw [if_pos h0, if_neg (by rw [hr]; simp)]
      rw [h1]
      exact readNode_bad l p k hk hi hF _ rfl h0 hr w H
    | true =>
      by_cases hl : ((gotF F N k 4 : Nat) : Int) = l
      · have h1 : nodE F N l k = 0 := by
          unfold nodE
          rw [if_pos h0, if_pos ⟨hr, hl⟩]
        rw [h1]
        exact readNode_ok l p k hk hi hF _ rfl h0 hr hl w H
      · have h1 : nodE F N l k = 70 := by
          unfold nodE
          rw [if_pos h0, if_neg (fun u => hl u.2)]
        rw [h1]
        exact readNode_lvl l p k hk hi hF _ rfl h0 hr hl w H
  · have h1 : nodE F N l k = 2 := by
      unfold nodE
      rw [if_neg (by rw [h2]; decide)]
    rw [h1]
    exact readNode_got l p k hk hi hF _ rfl h2 w H
theorem meet_none (f : Nat → Nat) (w : World) : Calls Tryz.prog 49 #[.agg (va 256 (iv .u8 f))] w fun x w' => x = .returned (.tuple #[]) ∧ Below w.heap.size w w' := by
  have hb1 : Below w.heap.size w (w.alloc (.cells (va 256 (iv .u8 f)) 38)) := below_new1 _ _
  go_enter Tryz.func49, Tryz.ntmps49
  go_wp2_with fail
  try simp only [Exit.inBlock, Exit.then]
  first
    | refine bodyPost_end (results_none Tryz.results49 _ _ _) rfl ?_
    | refine bodyPost_ret (results_none Tryz.results49 _ _ _) rfl ?_
  exact ⟨rfl, hb1⟩
set_option maxRecDepth 100000 in
set_option maxHeartbeats 4000000 in
theorem follow_td (h : Int) (hh : 0 ≤ h ∧ h ≤ 6) (R : Rf) (hR : R.1 < 4294967296) (hF : ∀ a, F a < 256) (ps : List Nat) (hps : ∀ p ∈ ps, p < 4) (hn : ps.length ≤ 6) (hi : i < 34359738368) (wb cap : Nat) (w : World) (H : TD w B g N F c m room i U) (hw : w.rangeAt wb 0 (ps.map fun (p : Nat) => Value.int .i64 (p : Int))) (hwb : wb < w.heap.size) (hwU : ¬ U wb) :
    Calls Tryz.prog 43 #[.pointer (some ⟨c, 0, none⟩), .agg (trC h R), .slice (some ⟨wb, 0, none⟩) ps.length cap, .func (.func 49) #[] #[]] w fun x w' => x = .returned (.tuple #[.agg (rfC (folR F N h R ps).1), .int .i64 (folR F N h R ps).2]) ∧ TDStep w w' B g N F c m room (i + 6) U := by
  have hz := zero_ref
  have hzp := zero_po
  have hzb := zero_bk
  have hzn := zero_node
  have hb1 : Below w.heap.size w ((w.alloc (.cells (trC h R) 46)).alloc (.cells (rfC rf0) 44)) := below_new2 _ _ _
  have t1 : Blk ((w.alloc (.cells (trC h R) 46)).alloc (.cells (rfC rf0) 44)) w.heap.size 46 (trC h R) := (Blk.new _ _ _).alloc _
  have r1 : Blk ((w.alloc (.cells (trC h R) 46)).alloc (.cells (rfC rf0) 44)) (w.heap.size + 1) 44 (rfC rf0) := Blk.new1 _ _ _ _
  have HT1 : Hid (TD ((w.alloc (.cells (trC h R) 46)).alloc (.cells (rfC rf0) 44)) B g N F c m room i U) := H.below hb1
  have HUL : Hid (∀ x, U x → x < w.heap.size) := fun x hx => (H.lt x hx).2
  have HM1 : Hid (Turns U w ((w.alloc (.cells (trC h R) 46)).alloc (.cells (rfC rf0) 44))) := .of_below hb1
  have HWY : Hid (((w.alloc (.cells (trC h R) 46)).alloc (.cells (rfC rf0) 44)).rangeAt wb 0 (ps.map fun (p : Nat) => Value.int .i64 (p : Int))) := fun j v hv => by
    rw [← hw j v hv]
    simp only [World.cell?, hb1.block wb hwb]
  have HWB : Hid (wb < w.heap.size ∧ ¬ U wb) := ⟨hwb, hwU⟩
  clear H hw hwb hwU
  go_enter Tryz.func43, Tryz.ntmps43
  go_wp2_with (first
    | (refine wpList_load_rowg (by rfl) 46 _ (by rfl) (w.heap.size) (by rfl) 46 (trC h R) (0, 0) _ (by exact t1) Tryz.underlying46 (by rfl) (sizeTr.trans (by rw [trC_size])) ?_; simp only [Act.put, List.setIfInBounds_toArray, List.set_cons_zero, List.set_cons_succ])
    | fail)
  generalize ((w.alloc (.cells (trC h R) 46)).alloc (.cells (rfC rf0) 44)) = w1 at *
  refine (root_any h R w1).mono ?_
  rintro x w2 ⟨rfl, hb2⟩
  have q0 := Blk.new w2 75 (poC 0 0 rf0)
  have q3 := q0.set (poC h 0 R)
  have hb3 : Below w2.heap.size w2 ((w2.alloc (.cells (poC 0 0 rf0) 75)).setRow w2.heap.size (poC h 0 R)) := below_setRow (below_new1 _ _) (Nat.le_refl _) _
  have hb13 : Below w1.heap.size w1 ((w2.alloc (.cells (poC 0 0 rf0) 75)).setRow w2.heap.size (poC h 0 R)) := hb2.trans (hb3.mono hb2.size)
  have r3 := r1.below hb13 r1.lt
  have HT3 : Hid (TD ((w2.alloc (.cells (poC 0 0 rf0) 75)).setRow w2.heap.size (poC h 0 R)) B g N F c m room i U) := HT1.out.below hb13
  have HM3 : Hid (Turns U w ((w2.alloc (.cells (poC 0 0 rf0) 75)).setRow w2.heap.size (poC h 0 R))) := HM1.out.trans (Turns.of_below (S := U) hb13) fun x hx => .inl hx
  have HWY3 : Hid (((w2.alloc (.cells (poC 0 0 rf0) 75)).setRow w2.heap.size (poC h 0 R)).rangeAt wb 0 (ps.map fun (p : Nat) => Value.int .i64 (p : Int))) := fun j v hv => by
    rw [← HWY.out j v hv]
    simp only [World.cell?, hb13.block wb (Nat.lt_of_lt_of_le HWB.out.1 HM1.out.size)]
  have HPB : Hid (w.heap.size + 2 ≤ w2.heap.size) := Nat.le_trans r1.lt hb2.size
  clear hb2 hb3 hb13 hb1 t1 r1 HT1 HM1 HWY
  go_wp2_with (first
    | (refine wpList_store_row (by rfl) 75 _ _ (by rfl) (w2.heap.size) (poC h 0 R) (by rfl) (by rfl) 75 (_) (by exact q0) (sizePo.trans (by rw [poC_size])) (by simp only [poC_size]) (poC_all _ _ _) ?_; simp only [Act.put, List.setIfInBounds_toArray, List.set_cons_zero, List.set_cons_succ])
    | fail)
  clear q0
  generalize ((w2.alloc (.cells (poC 0 0 rf0) 75)).setRow w2.heap.size (poC h 0 R)) = w3 at *
  generalize w2.heap.size = pb at *
  obtain ⟨n, hnl⟩ : ∃ n, ps.length = n := ⟨_, rfl⟩
  rw [hnl] at hn ⊢
  go_loopw [20] (fun t wr => ∃ (j : Nat) (pl : Int) (R' : Rf) (V : Nat → Prop), j ≤ n ∧ t = .int .i64 (j : Int) ∧ 0 ≤ pl ∧ pl + 1 ≤ ((4 ^ j : Nat) : Int) ∧ R'.1 < 4294967296 ∧ folR F N (h - (j : Int)) R' (ps.drop j) = folR F N h R ps ∧ Blk wr pb 75 (poC (h - (j : Int)) pl R') ∧ Blk wr (w.heap.size + 1) 44 (rfC rf0) ∧ TD wr B g N F c m room (i + j) V ∧ Turns U w wr ∧ (∀ x, V x → U x ∨ (w.heap.size + 2 ≤ x ∧ x ≠ pb)) ∧ wr.rangeAt wb 0 (ps.map fun (p : Nat) => Value.int .i64 (p : Int))) (fun t _ => n - (intOf t).toNat)
  case atStart =>
    exact ⟨0, 0, R, U, Nat.zero_le _, rfl, by omega, by simp, hR, by simp, by simpa using q3, r3, HT3.out, HM3.out, fun x hx => .inl hx, HWY3.out⟩
  case round =>
    clear q3 r3 HT3 HM3 HWY3
    obtain ⟨j, pl, R', V, hj, rfl, hp0, hp1, hR', hfo, kp, kr, htd, htn, hV, hwy⟩ := hrel
    have HT : Hid (TD wr B g N F c m room (i + j) V) := htd
    have HN : Hid (Turns U w wr) := htn
    have HV : Hid (∀ x, V x → U x ∨ (w.heap.size + 2 ≤ x ∧ x ≠ pb)) := hV
    have HY : Hid (wr.rangeAt wb 0 (ps.map fun (p : Nat) => Value.int .i64 (p : Int))) := hwy
    have HRP : Hid (wr.rangeAt pb 2 ((List.range 33).map (rfF R'.1 R'.2))) := po_range kp
    have HFO : Hid (folR F N (h - (j : Int)) R' (ps.drop j) = folR F N h R ps) := hfo
    have h4 : 4 ^ j ≤ 4096 := pow4_le j (by omega)
    clear htd htn hV hwy hfo
    by_cases hlt : j < n
    · obtain ⟨p, hp⟩ : ∃ p, ps[j]? = some p := ⟨_, List.getElem?_eq_getElem (by omega)⟩
      have hp4 : p < 4 := hps p (List.mem_of_getElem? hp)
      have HDR : Hid (ps.drop j = p :: ps.drop (j + 1)) := (List.drop_eq_getElem?_toList_append).trans (by rw [hp]; rfl)
      have cw : wr.cell? ⟨wb, j, none⟩ = some (.int .i64 (p : Int)) := by
        have := HY.out j (.int .i64 (p : Int)) (by simp [hp])
        simpa using this
      have j0 : (0 : Int) ≤ (j : Int) := by omega
      have j1 : (j : Int) < (n : Int) := by omega
      have hlr : (w.heap.size + 1) ≠ pb := by
        have := HPB.out
        omega
      have HVL : Hid (∀ x, V x → x ≠ w.heap.size + 1 ∧ x ≠ pb ∧ x ≠ wb) := fun x hx => by
        have h1 := HPB.out
        have h2 := HWB.out
        rcases HV.out x hx with u | u
        · have h3 := HUL.out _ u
          refine ⟨by omega, by omega, fun e => h2.2 (e ▸ u)⟩
        · omega
      by_cases hR0 : R' = rf0
      · subst hR0
        have hNn : Hid (∀ w, Calls Tryz.prog 45 #[.agg (rfC rf0)] w fun e w' => e = .returned (.bool true) ∧ Below w.heap.size w w') := fun w => by
          have := none_any rf0 w
          rw [decide_eq_true rfl] at this
          exact this
        have HAN : Hid (folR F N h R ps = (rf0, 0)) := HFO.out.symm.trans (folR_none _ _ _ _)
        go_wp2_with (first
          | (refine wpList_load_blk (by rfl) 44 _ (by rfl) (pb) (2) 33 (rfF rf0.1 rf0.2) (by rfl) _ (by exact HRP.out) Tryz.underlying44 rfl tsizeRef ?_; simp only [Act.put, List.setIfInBounds_toArray, List.set_cons_zero, List.set_cons_succ])
          | fail)
        refine (hNn.out wr).mono ?_
        rintro x w4 ⟨rfl, hb4⟩
        have kr4 := kr.below hb4 kr.lt
        have HT4 : Hid (TD w4 B g N F c m room (i + j) V) := HT.out.below hb4
        have HN4 : Hid (Turns U w w4) := HN.out.trans (Turns.of_below (S := U) hb4) fun x hx => .inl hx
        have hjn : i + j ≤ i + 6 := by omega
        have HJN : Hid (i + j ≤ i + 6) := hjn
        clear hb4 kr kp cw HT HN hjn
        go_wp2_with (first
          | (refine wpList_store_row (by rfl) 44 _ _ (by rfl) (w.heap.size + 1) (rfC rf0) (by rfl) (by rfl) 44 (_) (by exact kr4) (tsizeRef.trans (by rw [rfC_size])) (by simp only [rfC_size]) (rfC_all _) ?_; simp only [Act.put, List.setIfInBounds_toArray, List.set_cons_zero, List.set_cons_succ])
          | fail)
        try simp only [Exit.inBlock, Exit.then]
        refine bodyPost_ret (results_row2 Tryz.results43 _ _ (w.heap.size + 1) 44 (rfC rf0) (0, 0) _ rfl (kr4.set _) Tryz.underlying44 rfl (tsizeRef.trans (by rw [rfC_size]))) rfl ?_
        rw [HAN.out]
        refine ⟨rfl, V, (HT4.out.mono HJN.out).kept (by simp) fun z hz => setRow_other _ _ z _ (HVL.out z hz).1, HN4.out.laid (by omega) _, fun z hz => ?_⟩
        rcases HV.out z hz with u | u
        · exact .inl u
        · exact .inr (by omega)
      · have hNn : Hid (∀ w, Calls Tryz.prog 45 #[.agg (rfC R')] w fun e w' => e = .returned (.bool false) ∧ Below w.heap.size w w') := fun w => by
          have := none_any R' w
          rw [decide_eq_false hR0] at this
          exact this
        go_wp2_with (first
          | (refine wpList_load_blk (by rfl) 44 _ (by rfl) (pb) (2) 33 (rfF R'.1 R'.2) (by rfl) _ (by exact HRP.out) Tryz.underlying44 rfl tsizeRef ?_; simp only [Act.put, List.setIfInBounds_toArray, List.set_cons_zero, List.set_cons_succ])
          | fail)
        refine (hNn.out wr).mono ?_
        rintro x w4 ⟨rfl, hb4⟩
        have kr4 := kr.below hb4 kr.lt
        have kp4 := kp.below hb4 kp.lt
        have HT4 : Hid (TD w4 B g N F c m room (i + j) V) := HT.out.below hb4
        have HN4 : Hid (Turns U w w4) := HN.out.trans (Turns.of_below (S := U) hb4) fun x hx => .inl hx
        have HY4 : Hid (w4.rangeAt wb 0 (ps.map fun (p : Nat) => Value.int .i64 (p : Int))) := fun a b hab => by
          rw [← HY.out a b hab]
          simp only [World.cell?, hb4.block wb (Nat.lt_of_lt_of_le HWB.out.1 HN.out.size)]
        clear hb4 kr kp cw HT HN HY HRP hNn
        obtain ⟨er, her⟩ : ∃ er, nodE F N (h - (j : Int)) R' = er := ⟨_, rfl⟩
        have HRN : Hid (∀ w : World, TD w B g N F c m room (i + j) V → Calls Tryz.prog 73 #[.pointer (some ⟨c, 0, none⟩), .agg (poC (h - (j : Int)) pl R')] w fun x w' => x = .returned (.tuple #[.agg (va 256 (iv .u8 (if er = 0 then gotF F N R' else fun _ => 0))), .agg (if er = 0 then ndC (h - (j : Int)) (decK (gotF F N R')) else ndC 0 fun _ => rf0), .int .i64 er]) ∧ TDStep w w' B g N F c m room (i + j + 1) V) := fun w h1 => readNode_td _ _ _ hR' (by omega) hF er her w h1
        go_wp2_with (first
          | (refine wpList_load_rowg (by rfl) 75 _ (by rfl) (pb) (by rfl) 75 (poC (h - (j : Int)) pl R') (0, 0) _ (by exact kp4) Tryz.underlying75 (by rfl) (sizePo.trans (by rw [poC_size])) ?_; simp only [Act.put, List.setIfInBounds_toArray, List.set_cons_zero, List.set_cons_succ])
          | fail)
        refine (HRN.out w4 HT4.out).mono ?_
        rintro x w5 ⟨rfl, V5, ht5, hm5, hv5⟩
        have kr5 := hm5.blk kr4 fun z => (HVL.out _ z).1 rfl
        have kp5 := hm5.blk kp4 fun z => (HVL.out _ z).2.1 rfl
        have HT5 : Hid (TD w5 B g N F c m room (i + j + 1) V5) := ht5
        have HN5 : Hid (Turns U w w5) := HN4.out.trans hm5 fun x hx => by
          rcases HV.out x hx with u | u
          · exact .inl u
          · exact .inr (by omega)
        have HV5 : Hid (∀ x, V5 x → U x ∨ (w.heap.size + 2 ≤ x ∧ x ≠ pb)) := fun x hx => by
          rcases hv5 x hx with u | u
          · exact HV.out x u
          · have := kp4.lt
            have := HPB.out
            exact .inr (by omega)
        have HY5 : Hid (w5.rangeAt wb 0 (ps.map fun (p : Nat) => Value.int .i64 (p : Int))) := fun a b hab => by
          rw [← HY4.out a b hab]
          simp only [World.cell?, hm5.block wb (Nat.lt_of_lt_of_le HWB.out.1 HN4.out.size) fun z => (HVL.out _ z).2.2 rfl]
        clear ht5 hm5 hv5 kr4 kp4 HT4 HN4 HY4 HRN HVL
        by_cases he0 : er = 0
        · subst he0
          have HFN : Hid (folR F N (h - (j : Int) - 1) (decK (gotF F N R') p) (ps.drop (j + 1)) = folR F N h R ps) := by
            show _ = _
            rw [← HFO.out, HDR.out]
            simp only [folR, if_neg hR0, if_pos her]
          simp only [if_true]
          have HDL : Hid ((decK (gotF F N R') p).1 < 4294967296) := decK_lt _ _
          clear her HFO
          generalize gotF F N R' = f at *
          have q0 : Blk ((w5.alloc (.cells (va 256 (iv .u8 fun _ => 0)) 38)).alloc (.cells (ndC 0 fun _ => rf0) 157)) w5.heap.size 38 (va 256 (iv .u8 fun _ => 0)) := (Blk.new _ _ _).alloc _
          have y0 : Blk ((w5.alloc (.cells (va 256 (iv .u8 fun _ => 0)) 38)).alloc (.cells (ndC 0 fun _ => rf0) 157)) (w5.heap.size + 1) 157 (ndC 0 fun _ => rf0) := Blk.new1 _ _ _ _
          have y1 := y0.other (va 256 (iv .u8 f)) (show w5.heap.size + 1 ≠ w5.heap.size by omega)
          have x7 : Blk ((((w5.alloc (.cells (va 256 (iv .u8 fun _ => 0)) 38)).alloc (.cells (ndC 0 fun _ => rf0) 157)).setRow w5.heap.size (va 256 (iv .u8 f))).setRow (w5.heap.size + 1) (ndC (h - (j : Int)) (decK f))) w5.heap.size 38 (va 256 (iv .u8 f)) := (q0.set _).other _ (by omega)
          have y7 : Blk ((((w5.alloc (.cells (va 256 (iv .u8 fun _ => 0)) 38)).alloc (.cells (ndC 0 fun _ => rf0) 157)).setRow w5.heap.size (va 256 (iv .u8 f))).setRow (w5.heap.size + 1) (ndC (h - (j : Int)) (decK f))) (w5.heap.size + 1) 157 (ndC (h - (j : Int)) (decK f)) := y1.set _
          have hb7 : Below w5.heap.size w5 ((((w5.alloc (.cells (va 256 (iv .u8 fun _ => 0)) 38)).alloc (.cells (ndC 0 fun _ => rf0) 157)).setRow w5.heap.size (va 256 (iv .u8 f))).setRow (w5.heap.size + 1) (ndC (h - (j : Int)) (decK f))) := below_setRow (below_setRow (below_new2 _ _ _) (Nat.le_refl _) _) (by omega) _
          have kr7 := kr5.below hb7 kr5.lt
          have kp7 := kp5.below hb7 kp5.lt
          have HT7 : Hid (TD ((((w5.alloc (.cells (va 256 (iv .u8 fun _ => 0)) 38)).alloc (.cells (ndC 0 fun _ => rf0) 157)).setRow w5.heap.size (va 256 (iv .u8 f))).setRow (w5.heap.size + 1) (ndC (h - (j : Int)) (decK f))) B g N F c m room (i + j + 1) V5) := HT5.out.below hb7
          have HN7 : Hid (Turns U w ((((w5.alloc (.cells (va 256 (iv .u8 fun _ => 0)) 38)).alloc (.cells (ndC 0 fun _ => rf0) 157)).setRow w5.heap.size (va 256 (iv .u8 f))).setRow (w5.heap.size + 1) (ndC (h - (j : Int)) (decK f)))) := HN5.out.trans (Turns.of_below (S := U) hb7) fun x hx => .inl hx
          have HY7 : Hid (((((w5.alloc (.cells (va 256 (iv .u8 fun _ => 0)) 38)).alloc (.cells (ndC 0 fun _ => rf0) 157)).setRow w5.heap.size (va 256 (iv .u8 f))).setRow (w5.heap.size + 1) (ndC (h - (j : Int)) (decK f))).rangeAt wb 0 (ps.map fun (p : Nat) => Value.int .i64 (p : Int))) := fun a b hab => by
            rw [← HY5.out a b hab]
            simp only [World.cell?, hb7.block wb (Nat.lt_of_lt_of_le HWB.out.1 HN5.out.size)]
          clear hb7 kr5 kp5 HT5 HN5 HY5
          go_wp2_with (first
            | (refine wpList_store_row (by rfl) 38 _ _ (by rfl) (w5.heap.size) (va 256 (iv .u8 f)) (by rfl) (by rfl) 38 _ q0 (sizeBk.trans (by rw [va_size])) (by simp only [va_size]) (iv_one _ _ _) ?_; simp only [Act.put, List.setIfInBounds_toArray, List.set_cons_zero, List.set_cons_succ])
            | (refine wpList_store_row (by rfl) 157 _ _ (by rfl) (w5.heap.size + 1) (ndC (h - (j : Int)) (decK f)) (by rfl) (by rfl) 157 (_) (by exact y1) (tsizeNd.trans (by rw [ndC_size])) (by simp only [ndC_size]) (ndC_all _ _) ?_; simp only [Act.put, List.setIfInBounds_toArray, List.set_cons_zero, List.set_cons_succ])
            | (refine wpList_load_row (by rfl) 38 _ (by rfl) (w5.heap.size) (by rfl) 38 (va 256 (iv .u8 f)) (0, 0) _ x7 Tryz.underlying38 (by rfl) (sizeBk.trans (by rw [va_size])) ?_; simp only [Act.put, List.setIfInBounds_toArray, List.set_cons_zero, List.set_cons_succ])
            | fail)
          clear q0 y0 y1 x7
          generalize ((((w5.alloc (.cells (va 256 (iv .u8 fun _ => 0)) 38)).alloc (.cells (ndC 0 fun _ => rf0) 157)).setRow w5.heap.size (va 256 (iv .u8 f))).setRow (w5.heap.size + 1) (ndC (h - (j : Int)) (decK f))) = w7 at *
          generalize w5.heap.size + 1 = yb at *
          refine (meet_none f w7).mono ?_
          rintro x w8 ⟨rfl, hb8⟩
          have kr8 := kr7.below hb8 kr7.lt
          have kp8 := kp7.below hb8 kp7.lt
          have y8 := y7.below hb8 y7.lt
          have HT8 : Hid (TD w8 B g N F c m room (i + j + 1) V5) := HT7.out.below hb8
          have HN8 : Hid (Turns U w w8) := HN7.out.trans (Turns.of_below (S := U) hb8) fun x hx => .inl hx
          have HY8 : Hid (w8.rangeAt wb 0 (ps.map fun (p : Nat) => Value.int .i64 (p : Int))) := fun a b hab => by
            rw [← HY7.out a b hab]
            simp only [World.cell?, hb8.block wb (Nat.lt_of_lt_of_le HWB.out.1 HN7.out.size)]
          clear hb8 kr7 kp7 y7 HT7 HN7 HY7
          go_wp2_with (first
            | (refine wpList_load_rowg (by rfl) 75 _ (by rfl) (pb) (by rfl) 75 (poC (h - (j : Int)) pl R') (0, 0) _ (by exact kp8) Tryz.underlying75 (by rfl) (sizePo.trans (by rw [poC_size])) ?_; simp only [Act.put, List.setIfInBounds_toArray, List.set_cons_zero, List.set_cons_succ])
            | (refine wpList_load_rowg (by rfl) 157 _ (by rfl) (yb) (by rfl) 157 (ndC (h - (j : Int)) (decK f)) (0, 0) _ (by exact y8) Tryz.underlying157 (by rfl) (tsizeNd.trans (by rw [ndC_size])) ?_; simp only [Act.put, List.setIfInBounds_toArray, List.set_cons_zero, List.set_cons_succ])
            | fail)
          refine (beneath_any (h - (j : Int)) pl (h - (j : Int)) R' (decK f) p hp4 (by omega) (by omega) w8).mono ?_
          rintro x w9 ⟨rfl, hb9⟩
          have kr9 := kr8.below hb9 kr8.lt
          have kp9 := kp8.below hb9 kp8.lt
          have HT9 : Hid (TD w9 B g N F c m room (i + j + 1) V5) := HT8.out.below hb9
          have HN9 : Hid (Turns U w w9) := HN8.out.trans (Turns.of_below (S := U) hb9) fun x hx => .inl hx
          have HY9 : Hid (w9.rangeAt wb 0 (ps.map fun (p : Nat) => Value.int .i64 (p : Int))) := fun a b hab => by
            rw [← HY8.out a b hab]
            simp only [World.cell?, hb9.block wb (Nat.lt_of_lt_of_le HWB.out.1 HN8.out.size)]
          clear hb9 kr8 kp8 y8 HT8 HN8 HY8
          go_wp2_with (first
            | (refine wpList_store_row (by rfl) 75 _ _ (by rfl) (pb) (poC (h - (j : Int) - 1) (pl * 4 + (p : Int)) (decK f p)) (by rfl) (by rfl) 75 (_) (by exact kp9) (sizePo.trans (by rw [poC_size])) (by simp only [poC_size]) (poC_all _ _ _) ?_; simp only [Act.put, List.setIfInBounds_toArray, List.set_cons_zero, List.set_cons_succ])
            | fail)
          have hpw : pb ≠ wb := by
            have h1 := HPB.out
            have h2 := HWB.out
            omega
          refine ⟨⟨j + 1, pl * 4 + (p : Int), decK f p, V5, hlt, rfl, by omega, ?_, HDL.out, ?_, ?_, kr9.other _ hlr, ?_, HN9.out.laid (by have := HPB.out; omega) _, HV5.out, fun a b hab => ?_⟩, ?_⟩
          · rw [Nat.pow_succ]
            generalize 4 ^ j = z4 at *
            push_cast
            omega
          · rw [← HFN.out, show h - ((j + 1 : Nat) : Int) = h - (j : Int) - 1 by omega]
          · rw [show h - ((j + 1 : Nat) : Int) = h - (j : Int) - 1 by omega]
            exact kp9.set _
          · refine HT9.out.kept (by simp) fun z hz => setRow_other _ _ z _ ?_
            rcases HV5.out z hz with u | u
            · have h1 := HUL.out _ u
              have h2 := HPB.out
              omega
            · exact u.2
          · rw [← HY9.out a b hab]
            simp only [World.cell?, setRow_other w9 pb wb _ hpw.symm]
          · simp only [intOf]
            omega
        · have HAN : Hid (folR F N h R ps = (rf0, er)) := by
            show _ = _
            rw [← HFO.out, HDR.out]
            simp only [folR, if_neg hR0, her, if_neg he0]
          have hne : ¬ er = 0 := he0
          have hne2 : (er != 0) = true := by simp [he0]
          have hne3 : decide (er = 0) = false := decide_eq_false he0
          simp only [if_neg he0]
          clear her HFO
          have q0 : Blk ((w5.alloc (.cells (va 256 (iv .u8 fun _ => 0)) 38)).alloc (.cells (ndC 0 fun _ => rf0) 157)) w5.heap.size 38 (va 256 (iv .u8 fun _ => 0)) := (Blk.new _ _ _).alloc _
          have y0 : Blk ((w5.alloc (.cells (va 256 (iv .u8 fun _ => 0)) 38)).alloc (.cells (ndC 0 fun _ => rf0) 157)) (w5.heap.size + 1) 157 (ndC 0 fun _ => rf0) := Blk.new1 _ _ _ _
          have y1 := y0.other (va 256 (iv .u8 fun _ => 0)) (show w5.heap.size + 1 ≠ w5.heap.size by omega)
          have x7 : Blk ((((w5.alloc (.cells (va 256 (iv .u8 fun _ => 0)) 38)).alloc (.cells (ndC 0 fun _ => rf0) 157)).setRow w5.heap.size (va 256 (iv .u8 fun _ => 0))).setRow (w5.heap.size + 1) (ndC 0 fun _ => rf0)) w5.heap.size 38 (va 256 (iv .u8 fun _ => 0)) := (q0.set _).other _ (by omega)
          have y7 : Blk ((((w5.alloc (.cells (va 256 (iv .u8 fun _ => 0)) 38)).alloc (.cells (ndC 0 fun _ => rf0) 157)).setRow w5.heap.size (va 256 (iv .u8 fun _ => 0))).setRow (w5.heap.size + 1) (ndC 0 fun _ => rf0)) (w5.heap.size + 1) 157 (ndC 0 fun _ => rf0) := y1.set _
          have hb7 : Below w5.heap.size w5 ((((w5.alloc (.cells (va 256 (iv .u8 fun _ => 0)) 38)).alloc (.cells (ndC 0 fun _ => rf0) 157)).setRow w5.heap.size (va 256 (iv .u8 fun _ => 0))).setRow (w5.heap.size + 1) (ndC 0 fun _ => rf0)) := below_setRow (below_setRow (below_new2 _ _ _) (Nat.le_refl _) _) (by omega) _
          have kr7 := kr5.below hb7 kr5.lt
          have kp7 := kp5.below hb7 kp5.lt
          have HT7 : Hid (TD ((((w5.alloc (.cells (va 256 (iv .u8 fun _ => 0)) 38)).alloc (.cells (ndC 0 fun _ => rf0) 157)).setRow w5.heap.size (va 256 (iv .u8 fun _ => 0))).setRow (w5.heap.size + 1) (ndC 0 fun _ => rf0)) B g N F c m room (i + j + 1) V5) := HT5.out.below hb7
          have HN7 : Hid (Turns U w ((((w5.alloc (.cells (va 256 (iv .u8 fun _ => 0)) 38)).alloc (.cells (ndC 0 fun _ => rf0) 157)).setRow w5.heap.size (va 256 (iv .u8 fun _ => 0))).setRow (w5.heap.size + 1) (ndC 0 fun _ => rf0))) := HN5.out.trans (Turns.of_below (S := U) hb7) fun x hx => .inl hx
          have HY7 : Hid (((((w5.alloc (.cells (va 256 (iv .u8 fun _ => 0)) 38)).alloc (.cells (ndC 0 fun _ => rf0) 157)).setRow w5.heap.size (va 256 (iv .u8 fun _ => 0))).setRow (w5.heap.size + 1) (ndC 0 fun _ => rf0)).rangeAt wb 0 (ps.map fun (p : Nat) => Value.int .i64 (p : Int))) := fun a b hab => by
            rw [← HY5.out a b hab]
            simp only [World.cell?, hb7.block wb (Nat.lt_of_lt_of_le HWB.out.1 HN5.out.size)]
          clear hb7 kr5 kp5 HT5 HN5 HY5
          go_wp2_with (first
            | (refine wpList_store_row (by rfl) 38 _ _ (by rfl) (w5.heap.size) (va 256 (iv .u8 (fun _ => 0))) (by rfl) (by rfl) 38 _ q0 (sizeBk.trans (by rw [va_size])) (by simp only [va_size]) (iv_one _ _ _) ?_; simp only [Act.put, List.setIfInBounds_toArray, List.set_cons_zero, List.set_cons_succ])
            | (refine wpList_store_row (by rfl) 157 _ _ (by rfl) (w5.heap.size + 1) (ndC 0 fun _ => rf0) (by rfl) (by rfl) 157 (_) (by exact y1) (tsizeNd.trans (by rw [ndC_size])) (by simp only [ndC_size]) (ndC_all _ _) ?_; simp only [Act.put, List.setIfInBounds_toArray, List.set_cons_zero, List.set_cons_succ])
            | (refine wpList_store_row (by rfl) 44 _ _ (by rfl) (w.heap.size + 1) (rfC rf0) (by rfl) (by rfl) 44 (_) (by exact kr7) (tsizeRef.trans (by rw [rfC_size])) (by simp only [rfC_size]) (rfC_all _) ?_; simp only [Act.put, List.setIfInBounds_toArray, List.set_cons_zero, List.set_cons_succ])
            | fail)
          try simp only [Exit.inBlock, Exit.then]
          refine bodyPost_ret (results_row2 Tryz.results43 _ _ (w.heap.size + 1) 44 (rfC rf0) (0, 0) _ rfl (kr7.set _) Tryz.underlying44 rfl (tsizeRef.trans (by rw [rfC_size]))) rfl ?_
          rw [HAN.out]
          refine ⟨rfl, V5, (HT7.out.mono (by omega)).kept (by simp) fun z hz => setRow_other _ _ z _ ?_, HN7.out.laid (by omega) _, fun z hz => ?_⟩
          · have h2 := HPB.out
            rcases HV5.out z hz with u | u
            · have h1 := HUL.out _ u
              omega
            · omega
          · rcases HV5.out z hz with u | u
            · exact .inl u
            · exact .inr (by omega)
    · have hjn : j = n := by omega
      subst hjn
      have HAN : Hid (folR F N h R ps = (R', 0)) := by
        show _ = _
        rw [← HFO.out, ← hnl, List.drop_length]
        rfl
      go_wp2_with (first
        | (refine wpList_load_blk (by rfl) 44 _ (by rfl) (pb) (2) 33 (rfF R'.1 R'.2) (by rfl) _ (by exact HRP.out) Tryz.underlying44 rfl tsizeRef ?_; simp only [Act.put, List.setIfInBounds_toArray, List.set_cons_zero, List.set_cons_succ])
        | (refine wpList_store_row (by rfl) 44 _ _ (by rfl) (w.heap.size + 1) (rfC R') (by rfl) (by rfl) 44 (_) (by exact kr) (tsizeRef.trans (by rw [rfC_size])) (by simp only [rfC_size]) (rfC_all _) ?_; simp only [Act.put, List.setIfInBounds_toArray, List.set_cons_zero, List.set_cons_succ])
        | fail)
      try simp only [Exit.inBlock, Exit.then]
      refine bodyPost_ret (results_row2 Tryz.results43 _ _ (w.heap.size + 1) 44 (rfC R') (0, 0) _ rfl (kr.set _) Tryz.underlying44 rfl (tsizeRef.trans (by rw [rfC_size]))) rfl ?_
      rw [HAN.out]
      refine ⟨rfl, V, (HT.out.mono (by omega)).kept (by simp) fun z hz => setRow_other _ _ z _ ?_, HN.out.laid (by omega) _, fun z hz => ?_⟩
      · have h2 := HPB.out
        rcases HV.out z hz with u | u
        · have h1 := HUL.out _ u
          omega
        · omega
      · rcases HV.out z hz with u | u
        · exact .inl u
        · exact .inr (by omega)
end
end Go.Proofs.YtjhabngibbmpbaaGreat

namespace Go.Proofs.YtjhabngibbmpbaaGreat
open Go Go.RowKit
set_option linter.unusedSimpArgs false
set_option linter.unusedVariables false

def jK (a : Int) : Value := .int .i64 a
section
variable {β : Type} {P : Program} {V : β → Value}
theorem findNow_intV (a : Int) : ∀ (l : List (Int × β)) (es : List MapEntry) (i : Nat), es.map (fun e => (e.key, e.val)) = l.map (fun p => (jK p.1, V p.2)) →
    (findIn a l = none → Instr.findNow (.int .i64) (jK a) es i = some none) ∧ (∀ v, findIn a l = some v → ∃ j, Instr.findNow (.int .i64) (jK a) es i = some (some (i + j, V v)) ∧ l[j]? = some (a, v) ∧ ∀ m, m < j → ∀ p, l[m]? = some p → p.1 ≠ a)
  | [], es, i, h => by
    have : es = [] := by cases es with
      | nil => rfl
      | cons e es => simp at h
    subst this
    exact ⟨fun _ => by simp [Instr.findNow], fun v hv => by cases hv⟩
  | p :: l, [], i, h => by simp at h
  | p :: l, e :: es, i, h => by
    simp only [List.map_cons, List.cons.injEq, Prod.mk.injEq] at h
    obtain ⟨⟨h1, h2⟩, h3⟩ := h
    obtain ⟨ih1, ih2⟩ := findNow_intV a l es (i + 1) h3
    have hs : Instr.sameNow (.int .i64) (jK a) e.key = some (a == p.1) := by
      rw [h1]
      simp [Instr.sameNow, jK]
    by_cases hq : a = p.1
    · refine ⟨fun hn => ?_, fun v hv => ⟨0, ?_, ?_, fun m hm => by omega⟩⟩
      · unfold findIn at hn
        rw [if_pos hq] at hn
        cases hn
      · unfold findIn at hv
        rw [if_pos hq] at hv
        cases hv
        have hb : (a == p.1) = true := by simpa using hq
        simp [Instr.findNow, hs, hb, h2]
      · unfold findIn at hv
        rw [if_pos hq] at hv
        cases hv
        simp [hq]
    · have hb : (a == p.1) = false := by simpa using hq
      refine ⟨fun hn => ?_, fun v hv => ?_⟩
      · unfold findIn at hn
        rw [if_neg hq] at hn
        simp [Instr.findNow, hs, hb, ih1 hn]
      · unfold findIn at hv
        rw [if_neg hq] at hv
        obtain ⟨j, g1, g2, g3⟩ := ih2 v hv
        refine ⟨j + 1, ?_, by simpa using g2, fun m hm q hq2 => ?_⟩
        · simp [Instr.findNow, hs, hb, g1]
          omega
        · cases m with
          | zero =>
            simp at hq2
            rw [← hq2]
            exact Ne.symm hq
          | succ m => exact g3 m (by omega) q (by simpa using hq2)
theorem find_setV (a b : Int) (v : β) : ∀ (l : List (Int × β)) (j : Nat) (u : β), l[j]? = some (a, u) → (∀ m, m < j → ∀ p, l[m]? = some p → p.1 ≠ a) → findIn b (l.set j (a, v)) = if b = a then some v else findIn b l
  | [], j, u, h, _ => by simp at h
  | p :: l, 0, u, h, _ => by
    simp at h
    subst h
    simp only [List.set_cons_zero, findIn]
    by_cases hb : b = a
    · simp [hb]
    · simp [hb]
  | p :: l, j + 1, u, h, h2 => by
    have hp : p.1 ≠ a := h2 0 (by omega) p (by simp)
    have ih := find_setV a b v l j u (by simpa using h) fun m hm q hq => h2 (m + 1) (by omega) q (by simpa using hq)
    simp only [List.set_cons_succ, findIn, ih]
    by_cases hb : b = p.1
    · rw [if_pos hb, if_pos hb, if_neg (by rw [hb]; exact hp)]
    · rw [if_neg hb, if_neg hb]
theorem chk_intP {kt : TypeId} (hk : P.underlying kt = some (.int .i64)) (e : Bool) (x : Int) (w : World) : (Instr.checkKey e 10000 kt (.int .i64 x)).run P w = .ok () w := by
  rw [show (10000 : Nat) = 9999 + 1 from rfl, Instr.checkKey]
  simp [run_underlying hk]
/-- a look-up -/
theorem intMap_look {mt kt et : TypeId} {z : Value} (hm : P.underlying mt = some (.map kt et)) (hk : P.underlying kt = some (.int .i64)) (hz : ∀ w, (zeroValue et).run P w = .ok z w) {w : World} {r : Nat} {l : List (Int × β)} (h : MapIs jK V w r l) (a : Int) (ok : Bool) :
    (Instr.lookup mt (.map (some r)) (.int .i64 a) ok).run P w = .ok (if ok then .tuple #[((findIn a l).map V).getD z, .bool (findIn a l).isSome] else ((findIn a l).map V).getD z) w := by
  obtain ⟨es, cl, hg, he⟩ := h
  obtain ⟨g1, g2⟩ := findNow_intV a l es.toList 0 he
  have hgo : (getObj r).run P w = .ok (.map es cl) w := by simp [getObj, Sem.run, hg]
  cases hf : findIn a l with
  | none =>
    have hq : (Instr.findKey kt (.int .i64 a) es.toList).run P w = .ok none w := by
      have := g1 hf
      unfold jK at this
      simp [Instr.findKey, run_underlying hk, this]
    cases ok <;> simp [Instr.lookup, run_underlying hm, hgo, chk_intP hk, hq, hz]
  | some v =>
    obtain ⟨j, g3, _⟩ := g2 v hf
    have hq : (Instr.findKey kt (.int .i64 a) es.toList).run P w = .ok (some (0 + j, V v)) w := by
      unfold jK at g3
      simp [Instr.findKey, run_underlying hk, g3]
    cases ok <;> simp [Instr.lookup, run_underlying hm, hgo, chk_intP hk, hq]
end
end Go.Proofs.YtjhabngibbmpbaaGreat

namespace Go.Proofs.YtjhabngibbmpbaaGreat
open Go Go.RowKit
open Go.ChangeMaps (setBlock)
set_option linter.unusedSimpArgs false
set_option linter.unusedVariables false

section
variable {β : Type} {P : Program} (V : β → Value)
/-- the entries say the list; each key once -/
def EsJ (es : Array MapEntry) (clock : Nat) (l : List (Int × β)) : Prop := es.toList.map (fun e => (e.key, e.val)) = l.map (fun p => (jK p.1, V p.2)) ∧ (es.toList.map (·.born)).Nodup ∧ (∀ x ∈ es.toList, x.born < clock) ∧ (l.map (·.1)).Nodup
/-- block m is that map -/
def JM (w : World) (m : Nat) (l : List (Int × β)) : Prop := ∃ es clock, w.heap[m]? = some (.map es clock) ∧ EsJ V es clock l
variable {V}
theorem JM.lt {w : World} {m : Nat} {l : List (Int × β)} (h : JM V w m l) : m < w.heap.size := by
  obtain ⟨es, cl, hg, _⟩ := h
  exact (Array.getElem?_eq_some_iff.1 hg).1
theorem JM.keep {w w' : World} {m : Nat} {l : List (Int × β)} (h : JM V w m l) (hb : w'.heap[m]? = w.heap[m]?) : JM V w' m l := by
  obtain ⟨es, cl, hg, h2⟩ := h
  exact ⟨es, cl, hb.trans hg, h2⟩
theorem JM.below {w w' : World} {m B : Nat} {l : List (Int × β)} (h : JM V w m l) (hb : Below B w w') (hm : m < B) : JM V w' m l := h.keep (hb.block m hm)
theorem JM.new {w : World} {m : Nat} {k : Nat} (h : w.heap[m]? = some (.map #[] k)) : JM V w m [] := ⟨#[], k, h, rfl, List.nodup_nil, (fun x hx => by simp at hx), List.nodup_nil⟩
theorem JM.is {w : World} {m : Nat} {l : List (Int × β)} (h : JM V w m l) : MapIs jK V w m l := by
  obtain ⟨es, cl, hg, he, _⟩ := h
  exact ⟨es, cl, hg, he⟩
theorem JM.nd {w : World} {m : Nat} {l : List (Int × β)} (h : JM V w m l) : (l.map (·.1)).Nodup := by
  obtain ⟨es, cl, hg, he⟩ := h
  exact he.2.2.2
theorem findJ_none {a : Int} : ∀ {l : List (Int × β)}, findIn a l = none → a ∉ l.map (·.1)
  | [], _ => by simp
  | p :: l, h => by
    unfold findIn at h
    by_cases hq : a = p.1
    · rw [if_pos hq] at h
      cases h
    · rw [if_neg hq] at h
      simp only [List.map_cons, List.mem_cons, not_or]
      exact ⟨hq, findJ_none h⟩
/-- a key stored -/
theorem JM.put {mt kt et : TypeId} (hm : P.underlying mt = some (.map kt et)) (hk : P.underlying kt = some (.int .i64)) {w : World} {m : Nat} {l : List (Int × β)} (h : JM V w m l) (a : Int) (v : β) :
    ∃ w' l', (Instr.mapUpdate mt (.map (some m)) (.int .i64 a) (V v)).run P w = .ok () w' ∧ JM V w' m l' ∧ (∀ b, findIn b l' = if b = a then some v else findIn b l) ∧ Turns (fun z => z = m) w w' := by
  obtain ⟨es, cl, hg, he, hb, hc, hn⟩ := h
  obtain ⟨g1, g2⟩ := findNow_intV (V := V) a l es.toList 0 he
  have hgo : (getObj m).run P w = .ok (.map es cl) w := by simp [getObj, Sem.run, hg]
  have hso : ∀ o, (setObj m o).run P w = .ok () { w with heap := w.heap.setIfInBounds m o } := fun o => by simp [setObj, Sem.run, hg]
  have hr : m < w.heap.size := (Array.getElem?_eq_some_iff.1 hg).1
  have hT : ∀ o, Turns (fun z => z = m) w { w with heap := w.heap.setIfInBounds m o } := fun o => ⟨rfl, rfl, rfl, by simp, fun b hb hn => by simp [Array.getElem?_setIfInBounds, Ne.symm hn]⟩
  cases hf : findIn a l with
  | none =>
    have hq : (Instr.findKey kt (.int .i64 a) es.toList).run P w = .ok none w := by
      have := g1 hf
      unfold jK at this
      simp [Instr.findKey, run_underlying hk, this]
    refine ⟨{ w with heap := w.heap.setIfInBounds m (.map (es.push { key := jK a, val := V v, born := cl }) (cl + 1)) }, l ++ [(a, v)], ?_, ⟨es.push { key := jK a, val := V v, born := cl }, cl + 1, by simp [hr], by simp [he], ?_, ?_, ?_⟩, fun b => ?_, hT _⟩
    · simp [Instr.mapUpdate, run_underlying hm, hgo, chk_intP hk, hq, hso, jK]
    · rw [Array.toList_push, List.map_append, List.nodup_append]
      refine ⟨hb, by simp, fun x hx y hy e => ?_⟩
      obtain ⟨z, hz, rfl⟩ := List.mem_map.1 hx
      have := hc z hz
      simp at hy
      omega
    · intro x hx
      rw [Array.toList_push, List.mem_append] at hx
      rcases hx with hx | hx
      · have := hc x hx; omega
      · simp at hx; subst hx; simp
    · rw [List.map_append, List.nodup_append]
      refine ⟨hn, by simp, fun x hx y hy e => ?_⟩
      simp at hy
      subst hy
      subst e
      exact findJ_none hf hx
    · show findIn b (l ++ [(a, v)]) = if b = a then some v else findIn b l
      rw [findIn_append]
      by_cases hb : b = a
      · subst hb
        simp [hf, findIn]
      · rw [if_neg hb]
        simp [findIn, hb]
  | some u =>
    obtain ⟨j, g3, g4, g5⟩ := g2 u hf
    have hq : (Instr.findKey kt (.int .i64 a) es.toList).run P w = .ok (some (j, V u)) w := by
      unfold jK at g3
      rw [Nat.zero_add] at g3
      simp [Instr.findKey, run_underlying hk, g3]
    have hel : es.size = l.length := by
      have := congrArg List.length he
      simpa using this
    have hjl : j < l.length := (List.getElem?_eq_some_iff.1 g4).1
    have hkey : ((Option.map (fun x => x.key) es[j]?).getD (Value.int .i64 a)) = .int .i64 a := by
      have h2 := congrArg (fun z => (z[j]?).map Prod.fst) he
      simp only [List.getElem?_map, g4, Option.map_some] at h2
      rw [Array.getElem?_toList] at h2
      cases hq : es[j]? with
      | none => rw [hq] at h2; simp at h2
      | some e =>
        rw [hq] at h2
        simp at h2
        simp [h2, jK]
    have hst : (Instr.keyThatStays (.int .i64 a) (.int .i64 a)).run P w = .ok (.int .i64 a) w := by
      have hb : Instr.sameBits 10000 (Value.int .i64 a) (Value.int .i64 a) = true := by
        rw [show (10000 : Nat) = 9999 + 1 from rfl, Instr.sameBits]
        simp
      simp [Instr.keyThatStays, hb]
    have hbr : (es.modify j fun e => { key := .int .i64 a, val := V v, born := e.born }).toList.map (·.born) = es.toList.map (·.born) := by
      apply List.ext_getElem?
      intro i
      simp only [List.getElem?_map, Array.getElem?_toList, Array.getElem?_modify]
      by_cases hij : j = i
      · subst hij
        rw [if_pos rfl]
        cases es[j]? <;> rfl
      · rw [if_neg hij]
    refine ⟨{ w with heap := w.heap.setIfInBounds m (.map (es.modify j fun e => { key := .int .i64 a, val := V v, born := e.born }) cl) }, l.set j (a, v), ?_, ⟨es.modify j fun e => { key := .int .i64 a, val := V v, born := e.born }, cl, by simp [hr], ?_, by rw [hbr]; exact hb, ?_, ?_⟩, fun b => find_setV a b v l j u g4 g5, hT _⟩
    · simp only [Instr.mapUpdate, run_underlying hm, Sem.run_bind, hgo, chk_intP hk, hq, Result.andThen_ok, hkey, hst, hso]
    · apply List.ext_getElem?
      intro i
      have h2 := congrArg (fun z => z[i]?) he
      simp only [List.getElem?_map, Array.getElem?_toList] at h2 ⊢
      rw [Array.getElem?_modify, List.getElem?_set]
      by_cases hij : j = i
      · subst hij
        rw [if_pos rfl, if_pos rfl, if_pos hjl]
        rw [Array.getElem?_eq_getElem (by omega)]
        simp [jK]
      · rw [if_neg hij, if_neg hij]
        exact h2
    · intro x hx
      have : x.born ∈ (es.modify j fun e => { key := .int .i64 a, val := V v, born := e.born }).toList.map (·.born) := List.mem_map.2 ⟨x, hx, rfl⟩
      rw [hbr] at this
      obtain ⟨y, hy, e⟩ := List.mem_map.1 this
      rw [← e]
      exact hc y hy
    · have e1 : (l.set j (a, v)).map (·.1) = l.map (·.1) := by
        apply List.ext_getElem?
        intro i
        simp only [List.getElem?_map, List.getElem?_set]
        by_cases hij : j = i
        · subst hij
          rw [if_pos rfl, if_pos hjl, g4]
          rfl
        · rw [if_neg hij]
      rw [e1]
      exact hn
/-- block r goes over the map in block b; these keys have come -/
def ItJ (V : β → Value) (w : World) (r b : Nat) (l : List (Int × β)) (done : List Int) : Prop := ∃ es clock since seen c0, w.heap[r]? = some (.mapIter (some b) since seen c0) ∧ w.heap[b]? = some (.map es clock) ∧ EsJ V es since l ∧ since ≤ c0 ∧ since ≤ clock ∧ done.Nodup ∧ (∀ e ∈ es.toList, ∀ x, e.key = jK x → (seen.contains e.born = true ↔ x ∈ done)) ∧ (∀ x ∈ done, x ∈ l.map (·.1)) ∧ seen.size = done.length
/-- how many have come, by the iterator alone -/
def itN (w : World) (r : Nat) : Nat := match w.heap[r]? with
  | some (.mapIter _ _ seen _) => seen.size
  | _ => 0
theorem ItJ.keep {w w' : World} {r b : Nat} {l : List (Int × β)} {done : List Int} (h : ItJ V w r b l done) (hr : w'.heap[r]? = w.heap[r]?) (hb : w'.heap[b]? = w.heap[b]?) : ItJ V w' r b l done := by
  obtain ⟨es, c, s, sn, c0, h1, h2, rest⟩ := h
  exact ⟨es, c, s, sn, c0, hr.trans h1, hb.trans h2, rest⟩
theorem ItJ.lt {w : World} {r b : Nat} {l : List (Int × β)} {done : List Int} (h : ItJ V w r b l done) : r < w.heap.size ∧ b < w.heap.size := by
  obtain ⟨es, c, s, sn, c0, h1, h2, rest⟩ := h
  exact ⟨(Array.getElem?_eq_some_iff.1 h1).1, (Array.getElem?_eq_some_iff.1 h2).1⟩
theorem ItJ.le {w : World} {r b : Nat} {l : List (Int × β)} {done : List Int} (h : ItJ V w r b l done) : done.length ≤ l.length := by
  obtain ⟨es, c, s, sn, c0, h1, h2, h3, h4, h5, h6, h7, h8, _⟩ := h
  have := h6.length_le_of_subset (l₂ := l.map (·.1)) fun x hx => h8 x hx
  simpa using this
theorem ItJ.num {w : World} {r b : Nat} {l : List (Int × β)} {done : List Int} (h : ItJ V w r b l done) : itN w r = done.length := by
  obtain ⟨es, c, s, sn, c0, h1, h2, h3, h4, h5, h6, h7, h8, h9⟩ := h
  unfold itN
  rw [h1]
  exact h9
theorem ItJ.sub {w : World} {r b : Nat} {l : List (Int × β)} {done : List Int} (h : ItJ V w r b l done) : ∀ x ∈ done, x ∈ l.map (·.1) := by
  obtain ⟨es, c, s, sn, c0, h1, h2, h3, h4, h5, h6, h7, h8, h9⟩ := h
  exact h8
theorem ItJ.map {w : World} {r b : Nat} {l : List (Int × β)} {done : List Int} (h : ItJ V w r b l done) : JM V w b l := by
  obtain ⟨es, c, s, sn, c0, h1, h2, h3, h4, h5, _⟩ := h
  exact ⟨es, c, h2, h3.1, h3.2.1, (fun x hx => Nat.lt_of_lt_of_le (h3.2.2.1 x hx) h5), h3.2.2.2⟩
theorem jK_inj {a b : Int} (h : jK a = jK b) : a = b := by
  unfold jK at h
  injection h
theorem ej_mem {es : Array MapEntry} {c : Nat} {l : List (Int × β)} (h : EsJ V es c l) {e : MapEntry} (he : e ∈ es.toList) : ∃ x v, (x, v) ∈ l ∧ e.key = jK x ∧ e.val = V v := by
  have : (e.key, e.val) ∈ es.toList.map (fun e => (e.key, e.val)) := List.mem_map.2 ⟨e, he, rfl⟩
  rw [h.1] at this
  obtain ⟨x, hx, hq⟩ := List.mem_map.1 this
  simp only [Prod.mk.injEq] at hq
  exact ⟨x.1, x.2, hx, hq.1.symm, hq.2.symm⟩
theorem ej_of {es : Array MapEntry} {c : Nat} {l : List (Int × β)} (h : EsJ V es c l) {x : Int} (hx : x ∈ l.map (·.1)) : ∃ e ∈ es.toList, e.key = jK x := by
  obtain ⟨p, hp, rfl⟩ := List.mem_map.1 hx
  have : (jK p.1, V p.2) ∈ l.map (fun a => (jK a.1, V a.2)) := List.mem_map.2 ⟨p, hp, rfl⟩
  rw [← h.1] at this
  obtain ⟨e, he, hq⟩ := List.mem_map.1 this
  simp only [Prod.mk.injEq] at hq
  exact ⟨e, he, hq.1⟩
theorem ej_one {es : Array MapEntry} {c : Nat} {l : List (Int × β)} (h : EsJ V es c l) {e f : MapEntry} (he : e ∈ es.toList) (hf : f ∈ es.toList) (hk : e.key = f.key) : e = f := by
  have hnd : (es.toList.map (fun e => e.key)).Nodup := by
    have h1 : es.toList.map (fun e => e.key) = (l.map (·.1)).map jK := by
      have := congrArg (List.map Prod.fst) h.1
      rw [List.map_map, List.map_map] at this
      rw [List.map_map]
      exact this
    rw [h1, List.Nodup, List.pairwise_map]
    exact h.2.2.2.imp fun hne e => hne (jK_inj e)
  obtain ⟨i, hi, rfl⟩ := List.getElem_of_mem he
  obtain ⟨j, hj, rfl⟩ := List.getElem_of_mem hf
  have : i = j := by
    refine (List.getElem_inj (h₀ := by simpa using hi) (h₁ := by simpa using hj) hnd).1 ?_
    simpa using hk
  subst this
  rfl
theorem findJ_of {a : Int} {v : β} : ∀ {l : List (Int × β)}, (l.map (·.1)).Nodup → (a, v) ∈ l → findIn a l = some v
  | [], _, h => by simp at h
  | p :: l, hn, h => by
    simp only [List.map_cons, List.nodup_cons] at hn
    unfold findIn
    rcases List.mem_cons.1 h with h | h
    · rw [if_pos (by rw [← h])]
      rw [← h]
    · rw [if_neg, findJ_of hn.2 h]
      intro e
      exact hn.1 (e ▸ List.mem_map.2 ⟨_, h, rfl⟩)
section
variable {ops : Array Oper} {rest : List Oper} {o : Oper} {a : Act} {w : World} {Q : Exit → Act → World → Prop}
theorem wpList_range_J (hg : o.guard = none) (m : Operand) (t : TypeId) (hop : o.op = Op.range t m) (kt et : TypeId) (ht : P.underlying t = some (.map kt et)) (b : Nat) (l : List (Int × β)) (hm : a.eval m = .map (some b)) (h : JM V w b l)
    (hK : ∀ w', ItJ V w' w.heap.size b l [] → Below w.heap.size w w' → w'.heap.size = w.heap.size + 1 → wpList P ops Q rest (a.put o.dst (.pointer (some ⟨w.heap.size, 0, none⟩))) w') : wpList P ops Q (o :: rest) a w := by
  obtain ⟨es, clock, h1, h2⟩ := h
  have hb : b < w.heap.size := (Array.getElem?_eq_some_iff.1 h1).1
  refine wpList_plain hg fun K' hK' => ?_
  have hrun := run_range_map (P := P) w t kt et b es clock ht h1
  unfold Oper.wp
  simp [execOp, hop, hm, hrun, Result.andThen]
  refine hK' _ _ (hK _ ⟨es, clock, clock, #[], clock, ?_, ?_, h2, Nat.le_refl _, Nat.le_refl _, List.nodup_nil, fun e he x hx => by simp, (fun x hx => by simp at hx), rfl⟩ ((Below.refl _ w).alloc (Nat.le_refl _) _) (by simp))
  · exact heap_alloc_new _ _
  · rw [heap_alloc_old _ _ hb]; exact h1
theorem wpList_next_J (hg : o.guard = none) (it : Operand) (hop : o.op = Op.next it false) (r b : Nat) (l : List (Int × β)) (done : List Int) (hit : a.eval it = .pointer (some ⟨r, 0, none⟩)) (h : ItJ V w r b l done) (hrb : r ≠ b)
    (hDone : (∀ x ∈ l.map (·.1), x ∈ done) → wpList P ops Q rest (a.put o.dst (.tuple #[.bool false])) w)
    (hMore : ∀ (x : Int) (v : β) (w' : World), (x, v) ∈ l → x ∉ done → ItJ V w' r b l (done ++ [x]) → Turns (fun z => z = r) w w' → (Instr.entry (.pointer (some ⟨r, 0, none⟩))).run P w' = .ok (.tuple #[.int .i64 x, V v]) w' → wpList P ops Q rest (a.put o.dst (.tuple #[.bool true, .int .i64 x, V v])) w') :
    wpList P ops Q (o :: rest) a w := by
  obtain ⟨es, clock, since, seen, c0, h1, h2, h3, h4, h5, h6, h7, h8, h9⟩ := h
  refine wpList_plain hg fun K' hK' => ?_
  unfold Oper.wp
  rcases run_next_at (P := P) w o.type r b since c0 seen es clock h1 h2 h3.2.2.1 h4 with ⟨g0, hrun⟩ | ⟨e, he, w1, hw1, hrun⟩
  · simp [execOp, hop, hit, hrun, Result.andThen]
    refine hK' _ _ (hDone fun x hx => ?_)
    obtain ⟨e, he, hek⟩ := ej_of h3 hx
    exact (h7 e he x hek).1 (all_seen es seen g0 e he)
  · obtain ⟨hem, hes⟩ := mem_left he
    obtain ⟨x, v, hxl, hxk, hxv⟩ := ej_mem h3 hem
    have hxd : x ∉ done := fun hd => by
      have := (h7 e hem x hxk).2 hd
      rw [this] at hes
      cases hes
    rw [hxk, hxv] at hrun
    have hr : r < w.heap.size := (Array.getElem?_eq_some_iff.1 h1).1
    have hh : w1.heap = w.heap := by rcases hw1 with rfl | rfl <;> rfl
    have e1 : (setBlock w1 r (.mapIter (some b) since (seen.push e.born) clock)).heap[r]? = some (.mapIter (some b) since (seen.push e.born) clock) := by simp [setBlock, hh, hr]
    have e2 : ∀ k, k ≠ r → (setBlock w1 r (.mapIter (some b) since (seen.push e.born) clock)).heap[k]? = w.heap[k]? := fun k hk => by simp [setBlock, hh, Array.getElem?_setIfInBounds, Ne.symm hk]
    have hen := run_entry_at (P := P) (setBlock w1 r (.mapIter (some b) since (seen.push e.born) clock)) r b since seen es clock e e1 ((e2 b (Ne.symm hrb)).trans h2) hem h3.2.1
    rw [hxk, hxv] at hen
    unfold jK at hrun hen
    simp [execOp, hop, hit, hrun, Result.andThen]
    refine hK' _ _ (hMore x v _ hxl hxd ⟨es, clock, since, seen.push e.born, clock, e1, (e2 b (Ne.symm hrb)).trans h2, h3, h5, h5, ?_, ?_, ?_, by simp [h9]⟩ ⟨?_, ?_, ?_, ?_, fun k hk hn => e2 k hn⟩ hen)
    · rw [List.nodup_append]
      exact ⟨h6, by simp, fun y hy z hz q => by simp at hz; subst hz; subst q; exact hxd hy⟩
    · intro f hf y hy
      rw [contains_push, Bool.or_eq_true, List.mem_append, List.mem_singleton, h7 f hf y hy]
      refine or_congr Iff.rfl ⟨fun q => ?_, fun q => ?_⟩
      · have := born_inj h3.2.1 hf hem (beq_iff_eq.1 q)
        subst this
        rw [hxk] at hy
        exact (jK_inj hy).symm
      · subst q
        rw [ej_one h3 hf hem (by rw [hy, hxk])]
        exact beq_self_eq_true _
    · intro y hy
      rw [List.mem_append, List.mem_singleton] at hy
      rcases hy with hy | rfl
      · exact h8 y hy
      · exact List.mem_map.2 ⟨_, hxl, rfl⟩
    · rcases hw1 with rfl | rfl <;> rfl
    · rcases hw1 with rfl | rfl <;> rfl
    · rcases hw1 with rfl | rfl <;> rfl
    · simp [setBlock, hh]
end
end
end Go.Proofs.YtjhabngibbmpbaaGreat
