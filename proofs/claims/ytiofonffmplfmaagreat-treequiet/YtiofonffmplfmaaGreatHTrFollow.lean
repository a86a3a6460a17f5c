/- Trees: a way that is followed through a cache on a quiet disk. -/
import Derived.Test.YtiofonffmplfmaaGreatHTrNode
import Derived.Handy

namespace Go.Proofs.YtiofonffmplfmaaGreat
open Go Go.RowKit
set_option linter.unusedSimpArgs false
set_option linter.unusedVariables false

/-- what is wrong with the node of a position, if something is -/
def nodE (F : Nat → Nat) (N : Nat) (l : Int) (k : Rf) : Int := if gotE F N k = 0 then (if rdOk (gotF F N k) = true ∧ ((gotF F N k 4 : Nat) : Int) = l then 0 else 70) else 2
theorem gotE_two (F : Nat → Nat) (N : Nat) (k : Rf) : gotE F N k = 0 ∨ gotE F N k = 2 := by
  unfold gotE
  split
  · exact .inl rfl
  · exact .inr rfl
/-- where a way leads to, and what is wrong on it -/
def folR (F : Nat → Nat) (N : Nat) : Int → Rf → List Nat → Rf × Int
  | _, R, [] => (R, 0)
  | h, R, p :: ps => if R = rf0 then (rf0, 0) else if nodE F N h R = 0 then folR F N (h - 1) (decK (gotF F N R) p) ps else (rf0, nodE F N h R)
theorem folR_none (F : Nat → Nat) (N : Nat) (h : Int) (ps : List Nat) : folR F N h rf0 ps = (rf0, 0) := by
  cases ps with
  | nil => rfl
  | cons p ps => simp [folR]
section
variable {B g N c m room i : Nat} {F : Nat → Nat} {U : Nat → Prop}
theorem readNode_td (l p : Int) (k : Rf) (hk : k.1 < 4294967296) (hi : i < 68719476736) (hF : ∀ a, F a < 256) (e : Int) (he : nodE F N l k = e) (w : World) (H : TD w B g N F c m room i U) : Calls Tryz.prog 51 #[.pointer (some ⟨c, 0, none⟩), .agg (poC l p k)] w fun x w' => x = .returned (.tuple #[.agg (va 256 (iv .u8 (if e = 0 then gotF F N k else fun _ => 0))), .agg (if e = 0 then ndC l (decK (gotF F N k)) else ndC 0 fun _ => rf0), .int .i64 e]) ∧ TDStep w w' B g N F c m room (i + 1) U := by
  subst he
  rcases gotE_two F N k with h0 | h2
  · cases hr : rdOk (gotF F N k) with
    | false =>
      have h1 : nodE F N l k = 70 := by
        unfold nodE
        rw [if_pos h0, if_neg (by rw [hr]; simp)]
      rw [h1]
      exact readNode_bad l p k hk hi hF _ rfl h0 hr w H
    | true =>
      by_cases hl : ((gotF F N k 4 : Nat) : Int) = l
      · have h1 : nodE F N l k = 0 := by
          unfold nodE
          rw [if_pos h0, if_pos ⟨hr, hl⟩]
        rw [h1]
        exact readNode_ok l p k hk hi hF _ rfl h0 hr hl w H
      · have h1 : nodE F N l k = 70 := by
          unfold nodE
          rw [if_pos h0, if_neg (fun u => hl u.2)]
        rw [h1]
        exact readNode_lvl l p k hk hi hF _ rfl h0 hr hl w H
  · have h1 : nodE F N l k = 2 := by
      unfold nodE
      rw [if_neg (by rw [h2]; decide)]
    rw [h1]
    exact readNode_got l p k hk hi hF _ rfl h2 w H
theorem meet_none (f : Nat → Nat) (w : World) : Calls Tryz.prog 60 #[.agg (va 256 (iv .u8 f))] w fun x w' => x = .returned (.tuple #[]) ∧ Below w.heap.size w w' := by
  have hb1 : Below w.heap.size w (w.alloc (.cells (va 256 (iv .u8 f)) 52)) := below_new1 _ _
  go_enter Tryz.func60, Tryz.ntmps60
  go_wp2_with fail
  try simp only [Exit.inBlock, Exit.then]
  first
    | refine bodyPost_end (results_none Tryz.results60 _ _ _) rfl ?_
    | refine bodyPost_ret (results_none Tryz.results60 _ _ _) rfl ?_
  exact ⟨rfl, hb1⟩
set_option maxRecDepth 100000 in
set_option maxHeartbeats 4000000 in
theorem follow_td (h : Int) (hh : 0 ≤ h ∧ h ≤ 6) (R : Rf) (hR : R.1 < 4294967296) (hF : ∀ a, F a < 256) (ps : List Nat) (hps : ∀ p ∈ ps, p < 4) (hn : ps.length ≤ 6) (hi : i < 34359738368) (wb cap : Nat) (w : World) (H : TD w B g N F c m room i U) (hw : w.rangeAt wb 0 (ps.map fun (p : Nat) => Value.int .i64 (p : Int))) (hwb : wb < w.heap.size) (hwU : ¬ U wb) :
    Calls Tryz.prog 59 #[.pointer (some ⟨c, 0, none⟩), .agg (trC h R), .slice (some ⟨wb, 0, none⟩) ps.length cap, .func (.func 60) #[] #[]] w fun x w' => x = .returned (.tuple #[.agg (rfC (folR F N h R ps).1), .int .i64 (folR F N h R ps).2]) ∧ TDStep w w' B g N F c m room (i + 6) U := by
  have hz := zero_ref
  have hzp := zero_po
  have hzb := zero_bk
  have hzn := zero_node
  have hb1 : Below w.heap.size w ((w.alloc (.cells (trC h R) 45)).alloc (.cells (rfC rf0) 43)) := below_new2 _ _ _
  have t1 : Blk ((w.alloc (.cells (trC h R) 45)).alloc (.cells (rfC rf0) 43)) w.heap.size 45 (trC h R) := (Blk.new _ _ _).alloc _
  have r1 : Blk ((w.alloc (.cells (trC h R) 45)).alloc (.cells (rfC rf0) 43)) (w.heap.size + 1) 43 (rfC rf0) := Blk.new1 _ _ _ _
  have HT1 : Hid (TD ((w.alloc (.cells (trC h R) 45)).alloc (.cells (rfC rf0) 43)) B g N F c m room i U) := H.below hb1
  have HUL : Hid (∀ x, U x → x < w.heap.size) := fun x hx => (H.lt x hx).2
  have HM1 : Hid (Turns U w ((w.alloc (.cells (trC h R) 45)).alloc (.cells (rfC rf0) 43))) := .of_below hb1
  have HWY : Hid (((w.alloc (.cells (trC h R) 45)).alloc (.cells (rfC rf0) 43)).rangeAt wb 0 (ps.map fun (p : Nat) => Value.int .i64 (p : Int))) := fun j v hv => by
    rw [← hw j v hv]
    simp only [World.cell?, hb1.block wb hwb]
  have HWB : Hid (wb < w.heap.size ∧ ¬ U wb) := ⟨hwb, hwU⟩
  clear H hw hwb hwU
  go_enter Tryz.func59, Tryz.ntmps59
  go_wp2_with (first
    | (refine wpList_load_rowg (by rfl) 45 _ (by rfl) (w.heap.size) (by rfl) 45 (trC h R) (0, 0) _ (by exact t1) Tryz.underlying45 (by rfl) (sizeTr.trans (by rw [trC_size])) ?_; simp only [Act.put, List.setIfInBounds_toArray, List.set_cons_zero, List.set_cons_succ])
    | fail)
  generalize ((w.alloc (.cells (trC h R) 45)).alloc (.cells (rfC rf0) 43)) = w1 at *
  refine (root_any h R w1).mono ?_
  rintro x w2 ⟨rfl, hb2⟩
  have q0 := Blk.new w2 73 (poC 0 0 rf0)
  have q3 := q0.set (poC h 0 R)
  have hb3 : Below w2.heap.size w2 ((w2.alloc (.cells (poC 0 0 rf0) 73)).setRow w2.heap.size (poC h 0 R)) := below_setRow (below_new1 _ _) (Nat.le_refl _) _
  have hb13 : Below w1.heap.size w1 ((w2.alloc (.cells (poC 0 0 rf0) 73)).setRow w2.heap.size (poC h 0 R)) := hb2.trans (hb3.mono hb2.size)
  have r3 := r1.below hb13 r1.lt
  have HT3 : Hid (TD ((w2.alloc (.cells (poC 0 0 rf0) 73)).setRow w2.heap.size (poC h 0 R)) B g N F c m room i U) := HT1.out.below hb13
  have HM3 : Hid (Turns U w ((w2.alloc (.cells (poC 0 0 rf0) 73)).setRow w2.heap.size (poC h 0 R))) := HM1.out.trans (Turns.of_below (S := U) hb13) fun x hx => .inl hx
  have HWY3 : Hid (((w2.alloc (.cells (poC 0 0 rf0) 73)).setRow w2.heap.size (poC h 0 R)).rangeAt wb 0 (ps.map fun (p : Nat) => Value.int .i64 (p : Int))) := fun j v hv => by
    rw [← HWY.out j v hv]
    simp only [World.cell?, hb13.block wb (Nat.lt_of_lt_of_le HWB.out.1 HM1.out.size)]
  have HPB : Hid (w.heap.size + 2 ≤ w2.heap.size) := Nat.le_trans r1.lt hb2.size
  clear hb2 hb3 hb13 hb1 t1 r1 HT1 HM1 HWY
  go_wp2_with (first
    | (refine wpList_store_row (by rfl) 73 _ _ (by rfl) (w2.heap.size) (poC h 0 R) (by rfl) (by rfl) 73 (_) (by exact q0) (sizePo.trans (by rw [poC_size])) (by simp only [poC_size]) (poC_all _ _ _) ?_; simp only [Act.put, List.setIfInBounds_toArray, List.set_cons_zero, List.set_cons_succ])
    | fail)
  clear q0
  generalize ((w2.alloc (.cells (poC 0 0 rf0) 73)).setRow w2.heap.size (poC h 0 R)) = w3 at *
  generalize w2.heap.size = pb at *
  obtain ⟨n, hnl⟩ : ∃ n, ps.length = n := ⟨_, rfl⟩
  rw [hnl] at hn ⊢
  go_loopw [20] (fun t wr => ∃ (j : Nat) (pl : Int) (R' : Rf) (V : Nat → Prop), j ≤ n ∧ t = .int .i64 (j : Int) ∧ 0 ≤ pl ∧ pl + 1 ≤ ((4 ^ j : Nat) : Int) ∧ R'.1 < 4294967296 ∧ folR F N (h - (j : Int)) R' (ps.drop j) = folR F N h R ps ∧ Blk wr pb 73 (poC (h - (j : Int)) pl R') ∧ Blk wr (w.heap.size + 1) 43 (rfC rf0) ∧ TD wr B g N F c m room (i + j) V ∧ Turns U w wr ∧ (∀ x, V x → U x ∨ (w.heap.size + 2 ≤ x ∧ x ≠ pb)) ∧ wr.rangeAt wb 0 (ps.map fun (p : Nat) => Value.int .i64 (p : Int))) (fun t _ => n - (intOf t).toNat)
  case atStart =>
    exact ⟨0, 0, R, U, Nat.zero_le _, rfl, by omega, by simp, hR, by simp, by simpa using q3, r3, HT3.out, HM3.out, fun x hx => .inl hx, HWY3.out⟩
  case round =>
    clear q3 r3 HT3 HM3 HWY3
    obtain ⟨j, pl, R', V, hj, rfl, hp0, hp1, hR', hfo, kp, kr, htd, htn, hV, hwy⟩ := hrel
    have HT : Hid (TD wr B g N F c m room (i + j) V) := htd
    have HN : Hid (Turns U w wr) := htn
    have HV : Hid (∀ x, V x → U x ∨ (w.heap.size + 2 ≤ x ∧ x ≠ pb)) := hV
    have HY : Hid (wr.rangeAt wb 0 (ps.map fun (p : Nat) => Value.int .i64 (p : Int))) := hwy
    have HRP : Hid (wr.rangeAt pb 2 ((List.range 33).map (rfF R'.1 R'.2))) := po_range kp
    have HFO : Hid (folR F N (h - (j : Int)) R' (ps.drop j) = folR F N h R ps) := hfo
    have h4 : 4 ^ j ≤ 4096 := pow4_le j (by omega)
    clear htd htn hV hwy hfo
    by_cases hlt : j < n
    · obtain ⟨p, hp⟩ : ∃ p, ps[j]? = some p := ⟨_, List.getElem?_eq_getElem (by omega)⟩
      have hp4 : p < 4 := hps p (List.mem_of_getElem? hp)
      have HDR : Hid (ps.drop j = p :: ps.drop (j + 1)) := (List.drop_eq_getElem?_toList_append).trans (by rw [hp]; rfl)
      have cw : wr.cell? ⟨wb, j, none⟩ = some (.int .i64 (p : Int)) := by
        have := HY.out j (.int .i64 (p : Int)) (by simp [hp])
        simpa using this
      have j0 : (0 : Int) ≤ (j : Int) := by omega
      have j1 : (j : Int) < (n : Int) := by omega
      have hlr : (w.heap.size + 1) ≠ pb := by
        have := HPB.out
        omega
      have HVL : Hid (∀ x, V x → x ≠ w.heap.size + 1 ∧ x ≠ pb ∧ x ≠ wb) := fun x hx => by
        have h1 := HPB.out
        have h2 := HWB.out
        rcases HV.out x hx with u | u
        · have h3 := HUL.out _ u
          refine ⟨by omega, by omega, fun e => h2.2 (e ▸ u)⟩
        · omega
      by_cases hR0 : R' = rf0
      · subst hR0
        have hNn : Hid (∀ w, Calls Tryz.prog 50 #[.agg (rfC rf0)] w fun e w' => e = .returned (.bool true) ∧ Below w.heap.size w w') := fun w => by
          have := none_any rf0 w
          rw [decide_eq_true rfl] at this
          exact this
        have HAN : Hid (folR F N h R ps = (rf0, 0)) := HFO.out.symm.trans (folR_none _ _ _ _)
        go_wp2_with (first
          | (refine wpList_load_blk (by rfl) 43 _ (by rfl) (pb) (2) 33 (rfF rf0.1 rf0.2) (by rfl) _ (by exact HRP.out) Tryz.underlying43 rfl tsizeRef ?_; simp only [Act.put, List.setIfInBounds_toArray, List.set_cons_zero, List.set_cons_succ])
          | fail)
        refine (hNn.out wr).mono ?_
        rintro x w4 ⟨rfl, hb4⟩
        have kr4 := kr.below hb4 kr.lt
        have HT4 : Hid (TD w4 B g N F c m room (i + j) V) := HT.out.below hb4
        have HN4 : Hid (Turns U w w4) := HN.out.trans (Turns.of_below (S := U) hb4) fun x hx => .inl hx
        have hjn : i + j ≤ i + 6 := by omega
        have HJN : Hid (i + j ≤ i + 6) := hjn
        clear hb4 kr kp cw HT HN hjn
        go_wp2_with (first
          | (refine wpList_store_row (by rfl) 43 _ _ (by rfl) (w.heap.size + 1) (rfC rf0) (by rfl) (by rfl) 43 (_) (by exact kr4) (tsizeRef.trans (by rw [rfC_size])) (by simp only [rfC_size]) (rfC_all _) ?_; simp only [Act.put, List.setIfInBounds_toArray, List.set_cons_zero, List.set_cons_succ])
          | fail)
        try simp only [Exit.inBlock, Exit.then]
        refine bodyPost_ret (results_row2 Tryz.results59 _ _ (w.heap.size + 1) 43 (rfC rf0) (0, 0) _ rfl (kr4.set _) Tryz.underlying43 rfl (tsizeRef.trans (by rw [rfC_size]))) rfl ?_
        rw [HAN.out]
        refine ⟨rfl, V, (HT4.out.mono HJN.out).kept (by simp) fun z hz => setRow_other _ _ z _ (HVL.out z hz).1, HN4.out.laid (by omega) _, fun z hz => ?_⟩
        rcases HV.out z hz with u | u
        · exact .inl u
        · exact .inr (by omega)
      · have hNn : Hid (∀ w, Calls Tryz.prog 50 #[.agg (rfC R')] w fun e w' => e = .returned (.bool false) ∧ Below w.heap.size w w') := fun w => by
          have := none_any R' w
          rw [decide_eq_false hR0] at this
          exact this
        go_wp2_with (first
          | (refine wpList_load_blk (by rfl) 43 _ (by rfl) (pb) (2) 33 (rfF R'.1 R'.2) (by rfl) _ (by exact HRP.out) Tryz.underlying43 rfl tsizeRef ?_; simp only [Act.put, List.setIfInBounds_toArray, List.set_cons_zero, List.set_cons_succ])
          | fail)
        refine (hNn.out wr).mono ?_
        rintro x w4 ⟨rfl, hb4⟩
        have kr4 := kr.below hb4 kr.lt
        have kp4 := kp.below hb4 kp.lt
        have HT4 : Hid (TD w4 B g N F c m room (i + j) V) := HT.out.below hb4
        have HN4 : Hid (Turns U w w4) := HN.out.trans (Turns.of_below (S := U) hb4) fun x hx => .inl hx
        have HY4 : Hid (w4.rangeAt wb 0 (ps.map fun (p : Nat) => Value.int .i64 (p : Int))) := fun a b hab => by
          rw [← HY.out a b hab]
          simp only [World.cell?, hb4.block wb (Nat.lt_of_lt_of_le HWB.out.1 HN.out.size)]
        clear hb4 kr kp cw HT HN HY HRP hNn
        obtain ⟨er, her⟩ : ∃ er, nodE F N (h - (j : Int)) R' = er := ⟨_, rfl⟩
        have HRN : Hid (∀ w : World, TD w B g N F c m room (i + j) V → Calls Tryz.prog 51 #[.pointer (some ⟨c, 0, none⟩), .agg (poC (h - (j : Int)) pl R')] w fun x w' => x = .returned (.tuple #[.agg (va 256 (iv .u8 (if er = 0 then gotF F N R' else fun _ => 0))), .agg (if er = 0 then ndC (h - (j : Int)) (decK (gotF F N R')) else ndC 0 fun _ => rf0), .int .i64 er]) ∧ TDStep w w' B g N F c m room (i + j + 1) V) := fun w h1 => readNode_td _ _ _ hR' (by omega) hF er her w h1
        go_wp2_with (first
          | (refine wpList_load_rowg (by rfl) 73 _ (by rfl) (pb) (by rfl) 73 (poC (h - (j : Int)) pl R') (0, 0) _ (by exact kp4) Tryz.underlying73 (by rfl) (sizePo.trans (by rw [poC_size])) ?_; simp only [Act.put, List.setIfInBounds_toArray, List.set_cons_zero, List.set_cons_succ])
          | fail)
        refine (HRN.out w4 HT4.out).mono ?_
        rintro x w5 ⟨rfl, V5, ht5, hm5, hv5⟩
        have kr5 := hm5.blk kr4 fun z => (HVL.out _ z).1 rfl
        have kp5 := hm5.blk kp4 fun z => (HVL.out _ z).2.1 rfl
        have HT5 : Hid (TD w5 B g N F c m room (i + j + 1) V5) := ht5
        have HN5 : Hid (Turns U w w5) := HN4.out.trans hm5 fun x hx => by
          rcases HV.out x hx with u | u
          · exact .inl u
          · exact .inr (by omega)
        have HV5 : Hid (∀ x, V5 x → U x ∨ (w.heap.size + 2 ≤ x ∧ x ≠ pb)) := fun x hx => by
          rcases hv5 x hx with u | u
          · exact HV.out x u
          · have := kp4.lt
            have := HPB.out
            exact .inr (by omega)
        have HY5 : Hid (w5.rangeAt wb 0 (ps.map fun (p : Nat) => Value.int .i64 (p : Int))) := fun a b hab => by
          rw [← HY4.out a b hab]
          simp only [World.cell?, hm5.block wb (Nat.lt_of_lt_of_le HWB.out.1 HN4.out.size) fun z => (HVL.out _ z).2.2 rfl]
        clear ht5 hm5 hv5 kr4 kp4 HT4 HN4 HY4 HRN HVL
        by_cases he0 : er = 0
        · subst he0
          have HFN : Hid (folR F N (h - (j : Int) - 1) (decK (gotF F N R') p) (ps.drop (j + 1)) = folR F N h R ps) := by
            show _ = _
            rw [← HFO.out, HDR.out]
            simp only [folR, if_neg hR0, if_pos her]
          simp only [if_true]
          have HDL : Hid ((decK (gotF F N R') p).1 < 4294967296) := decK_lt _ _
          clear her HFO
          generalize gotF F N R' = f at *
          have q0 : Blk ((w5.alloc (.cells (va 256 (iv .u8 fun _ => 0)) 52)).alloc (.cells (ndC 0 fun _ => rf0) 142)) w5.heap.size 52 (va 256 (iv .u8 fun _ => 0)) := (Blk.new _ _ _).alloc _
          have y0 : Blk ((w5.alloc (.cells (va 256 (iv .u8 fun _ => 0)) 52)).alloc (.cells (ndC 0 fun _ => rf0) 142)) (w5.heap.size + 1) 142 (ndC 0 fun _ => rf0) := Blk.new1 _ _ _ _
          have y1 := y0.other (va 256 (iv .u8 f)) (show w5.heap.size + 1 ≠ w5.heap.size by omega)
          have x7 : Blk ((((w5.alloc (.cells (va 256 (iv .u8 fun _ => 0)) 52)).alloc (.cells (ndC 0 fun _ => rf0) 142)).setRow w5.heap.size (va 256 (iv .u8 f))).setRow (w5.heap.size + 1) (ndC (h - (j : Int)) (decK f))) w5.heap.size 52 (va 256 (iv .u8 f)) := (q0.set _).other _ (by omega)
          have y7 : Blk ((((w5.alloc (.cells (va 256 (iv .u8 fun _ => 0)) 52)).alloc (.cells (ndC 0 fun _ => rf0) 142)).setRow w5.heap.size (va 256 (iv .u8 f))).setRow (w5.heap.size + 1) (ndC (h - (j : Int)) (decK f))) (w5.heap.size + 1) 142 (ndC (h - (j : Int)) (decK f)) := y1.set _
          have hb7 : Below w5.heap.size w5 ((((w5.alloc (.cells (va 256 (iv .u8 fun _ => 0)) 52)).alloc (.cells (ndC 0 fun _ => rf0) 142)).setRow w5.heap.size (va 256 (iv .u8 f))).setRow (w5.heap.size + 1) (ndC (h - (j : Int)) (decK f))) := below_setRow (below_setRow (below_new2 _ _ _) (Nat.le_refl _) _) (by omega) _
          have kr7 := kr5.below hb7 kr5.lt
          have kp7 := kp5.below hb7 kp5.lt
          have HT7 : Hid (TD ((((w5.alloc (.cells (va 256 (iv .u8 fun _ => 0)) 52)).alloc (.cells (ndC 0 fun _ => rf0) 142)).setRow w5.heap.size (va 256 (iv .u8 f))).setRow (w5.heap.size + 1) (ndC (h - (j : Int)) (decK f))) B g N F c m room (i + j + 1) V5) := HT5.out.below hb7
          have HN7 : Hid (Turns U w ((((w5.alloc (.cells (va 256 (iv .u8 fun _ => 0)) 52)).alloc (.cells (ndC 0 fun _ => rf0) 142)).setRow w5.heap.size (va 256 (iv .u8 f))).setRow (w5.heap.size + 1) (ndC (h - (j : Int)) (decK f)))) := HN5.out.trans (Turns.of_below (S := U) hb7) fun x hx => .inl hx
          have HY7 : Hid (((((w5.alloc (.cells (va 256 (iv .u8 fun _ => 0)) 52)).alloc (.cells (ndC 0 fun _ => rf0) 142)).setRow w5.heap.size (va 256 (iv .u8 f))).setRow (w5.heap.size + 1) (ndC (h - (j : Int)) (decK f))).rangeAt wb 0 (ps.map fun (p : Nat) => Value.int .i64 (p : Int))) := fun a b hab => by
            rw [← HY5.out a b hab]
            simp only [World.cell?, hb7.block wb (Nat.lt_of_lt_of_le HWB.out.1 HN5.out.size)]
          clear hb7 kr5 kp5 HT5 HN5 HY5
          go_wp2_with (first
            | (refine wpList_store_row (by rfl) 52 _ _ (by rfl) (w5.heap.size) (va 256 (iv .u8 f)) (by rfl) (by rfl) 52 _ q0 (sizeBk.trans (by rw [va_size])) (by simp only [va_size]) (iv_one _ _ _) ?_; simp only [Act.put, List.setIfInBounds_toArray, List.set_cons_zero, List.set_cons_succ])
            | (refine wpList_store_row (by rfl) 142 _ _ (by rfl) (w5.heap.size + 1) (ndC (h - (j : Int)) (decK f)) (by rfl) (by rfl) 142 (_) (by exact y1) (tsizeNd.trans (by rw [ndC_size])) (by simp only [ndC_size]) (ndC_all _ _) ?_; simp only [Act.put, List.setIfInBounds_toArray, List.set_cons_zero, List.set_cons_succ])
            | (refine wpList_load_row (by rfl) 52 _ (by rfl) (w5.heap.size) (by rfl) 52 (va 256 (iv .u8 f)) (0, 0) _ x7 Tryz.underlying52 (by rfl) (sizeBk.trans (by rw [va_size])) ?_; simp only [Act.put, List.setIfInBounds_toArray, List.set_cons_zero, List.set_cons_succ])
            | fail)
          clear q0 y0 y1 x7
          generalize ((((w5.alloc (.cells (va 256 (iv .u8 fun _ => 0)) 52)).alloc (.cells (ndC 0 fun _ => rf0) 142)).setRow w5.heap.size (va 256 (iv .u8 f))).setRow (w5.heap.size + 1) (ndC (h - (j : Int)) (decK f))) = w7 at *
          generalize w5.heap.size + 1 = yb at *
          refine (meet_none f w7).mono ?_
          rintro x w8 ⟨rfl, hb8⟩
          have kr8 := kr7.below hb8 kr7.lt
          have kp8 := kp7.below hb8 kp7.lt
          have y8 := y7.below hb8 y7.lt
          have HT8 : Hid (TD w8 B g N F c m room (i + j + 1) V5) := HT7.out.below hb8
          have HN8 : Hid (Turns U w w8) := HN7.out.trans (Turns.of_below (S := U) hb8) fun x hx => .inl hx
          have HY8 : Hid (w8.rangeAt wb 0 (ps.map fun (p : Nat) => Value.int .i64 (p : Int))) := fun a b hab => by
            rw [← HY7.out a b hab]
            simp only [World.cell?, hb8.block wb (Nat.lt_of_lt_of_le HWB.out.1 HN7.out.size)]
          clear hb8 kr7 kp7 y7 HT7 HN7 HY7
          go_wp2_with (first
            | (refine wpList_load_rowg (by rfl) 73 _ (by rfl) (pb) (by rfl) 73 (poC (h - (j : Int)) pl R') (0, 0) _ (by exact kp8) Tryz.underlying73 (by rfl) (sizePo.trans (by rw [poC_size])) ?_; simp only [Act.put, List.setIfInBounds_toArray, List.set_cons_zero, List.set_cons_succ])
            | (refine wpList_load_rowg (by rfl) 142 _ (by rfl) (yb) (by rfl) 142 (ndC (h - (j : Int)) (decK f)) (0, 0) _ (by exact y8) Tryz.underlying142 (by rfl) (tsizeNd.trans (by rw [ndC_size])) ?_; simp only [Act.put, List.setIfInBounds_toArray, List.set_cons_zero, List.set_cons_succ])
            | fail)
          refine (beneath_any (h - (j : Int)) pl (h - (j : Int)) R' (decK f) p hp4 (by omega) (by omega) w8).mono ?_
          rintro x w9 ⟨rfl, hb9⟩
          have kr9 := kr8.below hb9 kr8.lt
          have kp9 := kp8.below hb9 kp8.lt
          have HT9 : Hid (TD w9 B g N F c m room (i + j + 1) V5) := HT8.out.below hb9
          have HN9 : Hid (Turns U w w9) := HN8.out.trans (Turns.of_below (S := U) hb9) fun x hx => .inl hx
          have HY9 : Hid (w9.rangeAt wb 0 (ps.map fun (p : Nat) => Value.int .i64 (p : Int))) := fun a b hab => by
            rw [← HY8.out a b hab]
            simp only [World.cell?, hb9.block wb (Nat.lt_of_lt_of_le HWB.out.1 HN8.out.size)]
          clear hb9 kr8 kp8 y8 HT8 HN8 HY8
          go_wp2_with (first
            | (refine wpList_store_row (by rfl) 73 _ _ (by rfl) (pb) (poC (h - (j : Int) - 1) (pl * 4 + (p : Int)) (decK f p)) (by rfl) (by rfl) 73 (_) (by exact kp9) (sizePo.trans (by rw [poC_size])) (by simp only [poC_size]) (poC_all _ _ _) ?_; simp only [Act.put, List.setIfInBounds_toArray, List.set_cons_zero, List.set_cons_succ])
            | fail)
          have hpw : pb ≠ wb := by
            have h1 := HPB.out
            have h2 := HWB.out
            omega
          refine ⟨⟨j + 1, pl * 4 + (p : Int), decK f p, V5, hlt, rfl, by omega, ?_, HDL.out, ?_, ?_, kr9.other _ hlr, ?_, HN9.out.laid (by have := HPB.out; omega) _, HV5.out, fun a b hab => ?_⟩, ?_⟩
          · rw [Nat.pow_succ]
            generalize 4 ^ j = z4 at *
            push_cast
            omega
          · rw [← HFN.out, show h - ((j + 1 : Nat) : Int) = h - (j : Int) - 1 by omega]
          · rw [show h - ((j + 1 : Nat) : Int) = h - (j : Int) - 1 by omega]
            exact kp9.set _
          · refine HT9.out.kept (by simp) fun z hz => setRow_other _ _ z _ ?_
            rcases HV5.out z hz with u | u
            · have h1 := HUL.out _ u
              have h2 := HPB.out
              omega
            · exact u.2
          · rw [← HY9.out a b hab]
            simp only [World.cell?, setRow_other w9 pb wb _ hpw.symm]
          · simp only [intOf]
            omega
        · have HAN : Hid (folR F N h R ps = (rf0, er)) := by
            show _ = _
            rw [← HFO.out, HDR.out]
            simp only [folR, if_neg hR0, her, if_neg he0]
          have hne : ¬ er = 0 := he0
          have hne2 : (er != 0) = true := by simp [he0]
          have hne3 : decide (er = 0) = false := decide_eq_false he0
          simp only [if_neg he0]
          clear her HFO
          have q0 : Blk ((w5.alloc (.cells (va 256 (iv .u8 fun _ => 0)) 52)).alloc (.cells (ndC 0 fun _ => rf0) 142)) w5.heap.size 52 (va 256 (iv .u8 fun _ => 0)) := (Blk.new _ _ _).alloc _
          have y0 : Blk ((w5.alloc (.cells (va 256 (iv .u8 fun _ => 0)) 52)).alloc (.cells (ndC 0 fun _ => rf0) 142)) (w5.heap.size + 1) 142 (ndC 0 fun _ => rf0) := Blk.new1 _ _ _ _
          have y1 := y0.other (va 256 (iv .u8 fun _ => 0)) (show w5.heap.size + 1 ≠ w5.heap.size by omega)
          have x7 : Blk ((((w5.alloc (.cells (va 256 (iv .u8 fun _ => 0)) 52)).alloc (.cells (ndC 0 fun _ => rf0) 142)).setRow w5.heap.size (va 256 (iv .u8 fun _ => 0))).setRow (w5.heap.size + 1) (ndC 0 fun _ => rf0)) w5.heap.size 52 (va 256 (iv .u8 fun _ => 0)) := (q0.set _).other _ (by omega)
          have y7 : Blk ((((w5.alloc (.cells (va 256 (iv .u8 fun _ => 0)) 52)).alloc (.cells (ndC 0 fun _ => rf0) 142)).setRow w5.heap.size (va 256 (iv .u8 fun _ => 0))).setRow (w5.heap.size + 1) (ndC 0 fun _ => rf0)) (w5.heap.size + 1) 142 (ndC 0 fun _ => rf0) := y1.set _
          have hb7 : Below w5.heap.size w5 ((((w5.alloc (.cells (va 256 (iv .u8 fun _ => 0)) 52)).alloc (.cells (ndC 0 fun _ => rf0) 142)).setRow w5.heap.size (va 256 (iv .u8 fun _ => 0))).setRow (w5.heap.size + 1) (ndC 0 fun _ => rf0)) := below_setRow (below_setRow (below_new2 _ _ _) (Nat.le_refl _) _) (by omega) _
          have kr7 := kr5.below hb7 kr5.lt
          have kp7 := kp5.below hb7 kp5.lt
          have HT7 : Hid (TD ((((w5.alloc (.cells (va 256 (iv .u8 fun _ => 0)) 52)).alloc (.cells (ndC 0 fun _ => rf0) 142)).setRow w5.heap.size (va 256 (iv .u8 fun _ => 0))).setRow (w5.heap.size + 1) (ndC 0 fun _ => rf0)) B g N F c m room (i + j + 1) V5) := HT5.out.below hb7
          have HN7 : Hid (Turns U w ((((w5.alloc (.cells (va 256 (iv .u8 fun _ => 0)) 52)).alloc (.cells (ndC 0 fun _ => rf0) 142)).setRow w5.heap.size (va 256 (iv .u8 fun _ => 0))).setRow (w5.heap.size + 1) (ndC 0 fun _ => rf0))) := HN5.out.trans (Turns.of_below (S := U) hb7) fun x hx => .inl hx
          have HY7 : Hid (((((w5.alloc (.cells (va 256 (iv .u8 fun _ => 0)) 52)).alloc (.cells (ndC 0 fun _ => rf0) 142)).setRow w5.heap.size (va 256 (iv .u8 fun _ => 0))).setRow (w5.heap.size + 1) (ndC 0 fun _ => rf0)).rangeAt wb 0 (ps.map fun (p : Nat) => Value.int .i64 (p : Int))) := fun a b hab => by
            rw [← HY5.out a b hab]
            simp only [World.cell?, hb7.block wb (Nat.lt_of_lt_of_le HWB.out.1 HN5.out.size)]
          clear hb7 kr5 kp5 HT5 HN5 HY5
          go_wp2_with (first
            | (refine wpList_store_row (by rfl) 52 _ _ (by rfl) (w5.heap.size) (va 256 (iv .u8 (fun _ => 0))) (by rfl) (by rfl) 52 _ q0 (sizeBk.trans (by rw [va_size])) (by simp only [va_size]) (iv_one _ _ _) ?_; simp only [Act.put, List.setIfInBounds_toArray, List.set_cons_zero, List.set_cons_succ])
            | (refine wpList_store_row (by rfl) 142 _ _ (by rfl) (w5.heap.size + 1) (ndC 0 fun _ => rf0) (by rfl) (by rfl) 142 (_) (by exact y1) (tsizeNd.trans (by rw [ndC_size])) (by simp only [ndC_size]) (ndC_all _ _) ?_; simp only [Act.put, List.setIfInBounds_toArray, List.set_cons_zero, List.set_cons_succ])
            | (refine wpList_store_row (by rfl) 43 _ _ (by rfl) (w.heap.size + 1) (rfC rf0) (by rfl) (by rfl) 43 (_) (by exact kr7) (tsizeRef.trans (by rw [rfC_size])) (by simp only [rfC_size]) (rfC_all _) ?_; simp only [Act.put, List.setIfInBounds_toArray, List.set_cons_zero, List.set_cons_succ])
            | fail)
          try simp only [Exit.inBlock, Exit.then]
          refine bodyPost_ret (results_row2 Tryz.results59 _ _ (w.heap.size + 1) 43 (rfC rf0) (0, 0) _ rfl (kr7.set _) Tryz.underlying43 rfl (tsizeRef.trans (by rw [rfC_size]))) rfl ?_
          rw [HAN.out]
          refine ⟨rfl, V5, (HT7.out.mono (by omega)).kept (by simp) fun z hz => setRow_other _ _ z _ ?_, HN7.out.laid (by omega) _, fun z hz => ?_⟩
          · have h2 := HPB.out
            rcases HV5.out z hz with u | u
            · have h1 := HUL.out _ u
              omega
            · omega
          · rcases HV5.out z hz with u | u
            · exact .inl u
            · exact .inr (by omega)
    · have hjn : j = n := by omega
      subst hjn
      have HAN : Hid (folR F N h R ps = (R', 0)) := by
        show _ = _
        rw [← HFO.out, ← hnl, List.drop_length]
        rfl
      go_wp2_with (first
        | (refine wpList_load_blk (by rfl) 43 _ (by rfl) (pb) (2) 33 (rfF R'.1 R'.2) (by rfl) _ (by exact HRP.out) Tryz.underlying43 rfl tsizeRef ?_; simp only [Act.put, List.setIfInBounds_toArray, List.set_cons_zero, List.set_cons_succ])
        | (refine wpList_store_row (by rfl) 43 _ _ (by rfl) (w.heap.size + 1) (rfC R') (by rfl) (by rfl) 43 (_) (by exact kr) (tsizeRef.trans (by rw [rfC_size])) (by simp only [rfC_size]) (rfC_all _) ?_; simp only [Act.put, List.setIfInBounds_toArray, List.set_cons_zero, List.set_cons_succ])
        | fail)
      try simp only [Exit.inBlock, Exit.then]
      refine bodyPost_ret (results_row2 Tryz.results59 _ _ (w.heap.size + 1) 43 (rfC R') (0, 0) _ rfl (kr.set _) Tryz.underlying43 rfl (tsizeRef.trans (by rw [rfC_size]))) rfl ?_
      rw [HAN.out]
      refine ⟨rfl, V, (HT.out.mono (by omega)).kept (by simp) fun z hz => setRow_other _ _ z _ ?_, HN.out.laid (by omega) _, fun z hz => ?_⟩
      · have h2 := HPB.out
        rcases HV.out z hz with u | u
        · have h1 := HUL.out _ u
          omega
        · omega
      · rcases HV.out z hz with u | u
        · exact .inl u
        · exact .inr (by omega)
end
end Go.Proofs.YtiofonffmplfmaaGreat
