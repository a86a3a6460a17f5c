/- Trees: Each, whatever function is handed to it. -/
import Derived.Test.YtjhabngibbmpbaaGreatHTrWalk2
import Derived.Handy

namespace Go.Proofs.YtjhabngibbmpbaaGreat
open Go Go.RowKit
set_option linter.unusedSimpArgs false
set_option linter.unusedVariables false
/-- what is asked of a function that is handed to Each: dn tells the state behind and the answer -/
structure DK {σ α : Type} (fn : Nat) (caps : Array Value) (ft : α → Nat → Prop) (Q : σ → α → World → Prop) (cnt : σ → Nat) (dn : σ → Nat → Int → Rf → σ × Bool) : Prop where
  call : ∀ (s : σ) (z : α) (V : World) (l : Nat) (p : Int) (R : Rf), l ≤ 6 → 0 ≤ p → (p + 1) * ((4 ^ l : Nat) : Int) ≤ 4096 → R.1 < 4294967296 → cnt s < 34359738000 → Q s z V → Calls Tryz.prog fn (#[.agg (poC (l : Int) p R)] ++ caps) V fun e w' => e = .returned (.bool (dn s l p R).2) ∧ ∃ z', Q (dn s l p R).1 z' w' ∧ Turns (ft z) V w' ∧ (∀ b, ft z' b → ft z b ∨ V.heap.size ≤ b) ∧ cnt (dn s l p R).1 ≤ cnt s + 1
  keep : ∀ s z V V' (T : Nat → Prop), Q s z V → Turns T V V' → (∀ b, T b → ¬ ft z b) → Q s z V'
  lt : ∀ s z V b, Q s z V → ft z b → b < V.heap.size
/-- Each's own state: is it still on? -/
def ftE {α : Type} (ft : α → Nat → Prop) (tb db : Nat) (z : α) (b : Nat) : Prop := b = tb ∨ b = db ∨ ft z b
def QE {σ α : Type} (fn : Nat) (caps : Array Value) (ft : α → Nat → Prop) (Q : σ → α → World → Prop) (tb db : Nat) (s : Bool × σ) (z : α) (V : World) : Prop := Blk V tb 4 #[.bool s.1] ∧ Blk V db 80 #[.func (.func fn) #[] caps] ∧ Q s.2 z V ∧ ¬ ft z tb ∧ ¬ ft z db ∧ tb ≠ db
def stE {σ : Type} (dn : σ → Nat → Int → Rf → σ × Bool) (s : Bool × σ) (l : Nat) (p : Int) (R : Rf) : (Bool × σ) × Bool × Int := if s.1 = true then (((dn s.2 l p R).2, (dn s.2 l p R).1), (dn s.2 l p R).2, 0) else (s, false, 0)
section
variable {σ α : Type} {B g N c m room i : Nat} {F : Nat → Nat} {U : Nat → Prop} {ft : α → Nat → Prop} {Q : σ → α → World → Prop} {cnt : σ → Nat} {fn : Nat} {caps : Array Value} {dn : σ → Nat → Int → Rf → σ × Bool}
theorem QE.keep {s : Bool × σ} {z : α} {V W : World} {T : Nat → Prop} {tb db : Nat} (hk : ∀ s z V V' (T : Nat → Prop), Q s z V → Turns T V V' → (∀ b, T b → ¬ ft z b) → Q s z V') (h : QE fn caps ft Q tb db s z V) (ht : Turns T V W) (hT : ∀ b, T b → ¬ ftE ft tb db z b) : QE fn caps ft Q tb db s z W :=
  ⟨ht.blk h.1 (fun q => hT _ q (.inl rfl)), ht.blk h.2.1 (fun q => hT _ q (.inr (.inl rfl))), hk _ _ V W T h.2.2.1 ht fun b q q2 => hT b q (.inr (.inr q2)), h.2.2.2⟩
set_option maxRecDepth 100000 in
set_option maxHeartbeats 8000000 in
theorem each1_off {tb db : Nat} (s : σ) (l p : Int) (R : Rf) (V : World) (h1 : Blk V tb 4 #[.bool false]) : Calls Tryz.prog 60 #[.agg (poC l p R), .pointer (some ⟨tb, 0, none⟩), .pointer (some ⟨db, 0, none⟩)] V fun e w' => e = .returned (.tuple #[.bool false, .int .i64 0]) ∧ Turns (fun b => b = tb) V w' ∧ Blk w' tb 4 #[.bool false] := by
  have hb1 : Below V.heap.size V (V.alloc (.cells (poC l p R) 75)) := below_new1 _ _
  have b1 : Blk (V.alloc (.cells (poC l p R) 75)) tb 4 #[.bool false] := h1.alloc _
  have c1 : (V.alloc (.cells (poC l p R) 75)).cell? ⟨tb, 0, none⟩ = some (.bool false) := (b1.cell 0).trans rfl
  have f1 := b1.frozen 0
  have HB : Hid (Below V.heap.size V (V.alloc (.cells (poC l p R) 75)) ∧ Blk (V.alloc (.cells (poC l p R) 75)) tb 4 #[.bool false]) := ⟨hb1, b1⟩
  have c2 : ((V.alloc (.cells (poC l p R) 75)).setCell ⟨tb, 0, none⟩ (.bool false)).cell? ⟨tb, 0, none⟩ = some (.bool false) := ((gs_setc b1 (.bool false)).cell 0).trans rfl
  clear hb1 h1
  go_enter Tryz.func60, Tryz.ntmps60
  go_wp2_with fail
  go_ret2
  exact ⟨rfl, (Turns.of_below HB.out.1).trans (gs_cell (S := fun b => b = tb) _ tb 0 _ rfl) fun b q => .inl q, gs_setc HB.out.2 _⟩
set_option maxRecDepth 100000 in
set_option maxHeartbeats 8000000 in
theorem each1_on (ef : ∀ args w, (callFunc fn args).run Tryz.prog w = .ok (.enter fn args) w) {tb db : Nat} {o : Bool} {P2 : World → World → Prop} (l p : Int) (R : Rf) (V : World) (h1 : Blk V tb 4 #[.bool true]) (h2 : Blk V db 80 #[.func (.func fn) #[] caps]) (hC : ∀ W, Below V.heap.size V W → Calls Tryz.prog fn (#[.agg (poC l p R)] ++ caps) W fun e w' => e = .returned (.bool o) ∧ P2 W w' ∧ Blk w' tb 4 #[.bool true]) : Calls Tryz.prog 60 #[.agg (poC l p R), .pointer (some ⟨tb, 0, none⟩), .pointer (some ⟨db, 0, none⟩)] V fun e w' => e = .returned (.tuple #[.bool o, .int .i64 0]) ∧ ∃ W w2, Below V.heap.size V W ∧ P2 W w2 ∧ w' = w2.setCell ⟨tb, 0, none⟩ (.bool o) ∧ Blk w2 tb 4 #[.bool true] := by
  have hb1 : Below V.heap.size V (V.alloc (.cells (poC l p R) 75)) := below_new1 _ _
  have b1 : Blk (V.alloc (.cells (poC l p R) 75)) tb 4 #[.bool true] := h1.alloc _
  have b2 : Blk (V.alloc (.cells (poC l p R) 75)) db 80 #[.func (.func fn) #[] caps] := h2.alloc _
  have t1 : Blk (V.alloc (.cells (poC l p R) 75)) V.heap.size 75 (poC l p R) := Blk.new _ _ _
  have c1 : (V.alloc (.cells (poC l p R) 75)).cell? ⟨tb, 0, none⟩ = some (.bool true) := (b1.cell 0).trans rfl
  have c2 : (V.alloc (.cells (poC l p R) 75)).cell? ⟨db, 0, none⟩ = some (.func (.func fn) #[] caps) := (b2.cell 0).trans rfl
  have HB : Hid (Below V.heap.size V (V.alloc (.cells (poC l p R) 75))) := hb1
  have HCl : Hid (∀ W, Below V.heap.size V W → Calls Tryz.prog fn (#[.agg (poC l p R)] ++ caps) W fun e w' => e = .returned (.bool o) ∧ P2 W w' ∧ Blk w' tb 4 #[.bool true]) := hC
  clear hb1 h1 h2 b1 b2 hC
  go_enter Tryz.func60, Tryz.ntmps60
  go_wp2_with (first
    | (refine wpList_load_rowg (by rfl) 75 _ (by rfl) (V.heap.size) (by rfl) 75 (poC l p R) (0, 0) _ (by exact t1) Tryz.underlying75 (by rfl) (sizePo.trans (by rw [poC_size])) ?_; simp only [Act.put, List.setIfInBounds_toArray, List.set_cons_zero, List.set_cons_succ])
    | fail)
  refine (HCl.out _ HB.out).mono ?_
  rintro x w2 ⟨rfl, hp2, b2⟩
  have HP : Hid (P2 (V.alloc (.cells (poC l p R) 75)) w2 ∧ Blk w2 tb 4 #[.bool true]) := ⟨hp2, b2⟩
  have f2 := b2.frozen 0
  have k2 := (b2.cell 0).trans rfl
  have k3 : (w2.setCell ⟨tb, 0, none⟩ (.bool o)).cell? ⟨tb, 0, none⟩ = some (.bool o) := ((gs_setc b2 (.bool o)).cell 0).trans rfl
  clear hp2 b2 c1 c2 t1
  go_wp2_with fail
  go_ret2
  exact ⟨rfl, _, w2, HB.out, HP.out.1, rfl, HP.out.2⟩
/-- Each$1 is what walk asks for -/
theorem each1_wk (ef : ∀ args w, (callFunc fn args).run Tryz.prog w = .ok (.enter fn args) w) (HD : DK fn caps ft Q cnt dn) (tb db : Nat) : WK 60 #[.pointer (some ⟨tb, 0, none⟩), .pointer (some ⟨db, 0, none⟩)] B g N F c m room (ftE ft tb db) (QE fn caps ft Q tb db) (fun s => cnt s.2) (stE dn) where
  keep := fun s z V V' T hq ht hT => hq.keep HD.keep ht hT
  call := fun s z V i U l p R hl hp0 hp1 hR hR0 hi H => by
    obtain ⟨o, s⟩ := s
    obtain ⟨q1, q2, q3, q4, q5, q6⟩ := H.q
    cases o with
    | false =>
      refine (each1_off s l p R V q1).mono ?_
      rintro e w' ⟨rfl, ht, hb⟩
      refine ⟨rfl, U, z, ?_, ht.mono fun b q => .inr (.inl q), fun b q => .inl q⟩
      refine ⟨(H.td.kept ht.size fun x hx => ht.block x (H.td.lt x hx).2 fun q => H.ap tb (.inl rfl) (q ▸ hx)).mono (Nat.le_succ _), ⟨hb, ht.blk q2 (fun q => q6 q.symm), HD.keep s z V w' _ q3 ht fun b q => q ▸ q4, q4, q5, q6⟩, H.ap, Nat.le_succ_of_le H.cn, fun b q => Nat.lt_of_lt_of_le (H.lt b q) ht.size⟩
    | true =>
      obtain ⟨s', o', hdn⟩ : ∃ s' o', dn s l p R = (s', o') := ⟨_, _, rfl⟩
      refine (each1_on ef (o := o') (P2 := fun W w' => ∃ z', Q s' z' w' ∧ Turns (ft z) W w' ∧ (∀ b, ft z' b → ft z b ∨ W.heap.size ≤ b) ∧ cnt s' ≤ cnt s + 1) l p R V q1 q2 fun W hW => ?_).mono ?_
      · have h3 : Q s z W := HD.keep s z V W (fun _ => False) q3 (.of_below hW) fun b q => q.elim
        have := HD.call s z W l p R hl hp0 hp1 hR (Nat.lt_of_le_of_lt H.cn hi) h3
        rw [hdn] at this
        exact this.mono fun e w' ⟨e1, e0, e2, e3, e4, e5⟩ => ⟨e1, ⟨e0, e2, e3, e4, e5⟩, e3.blk (q1.below hW q1.lt) q4⟩
      · rintro e w' ⟨rfl, W, w2, hW, ⟨z', h1, h2, h3, h4⟩, rfl, hb⟩
        have htw : Turns (ft z) V w2 := (Turns.of_below (S := ft z) hW).trans h2 fun b q => .inl q
        have htc : Turns (fun b => b = tb) w2 (w2.setCell ⟨tb, 0, none⟩ (.bool o')) := gs_cell _ tb 0 _ rfl
        have hsub : ∀ b, ft z' b → ft z b ∨ V.heap.size ≤ b := fun b q => (h3 b q).imp id fun u => Nat.le_trans hW.size u
        have nt : ¬ ft z' tb := fun q => (hsub _ q).elim q4 fun u => by have := q1.lt; omega
        have nd : ¬ ft z' db := fun q => (hsub _ q).elim q5 fun u => by have := q2.lt; omega
        have hst : stE dn (true, s) l p R = ((o', s'), o', 0) := by
          unfold stE
          simp only [if_true, hdn]
        rw [hst]
        refine ⟨rfl, U, z', ⟨?_, ⟨gs_setc hb _, htc.blk (htw.blk q2 q5) (fun q => q6 q.symm), HD.keep s' z' _ _ _ h1 htc fun b q => q ▸ nt, nt, nd, q6⟩, fun b q => ?_, by have := H.cn; show cnt s' ≤ i + 1; simp only at this; omega, fun b q => ?_⟩, ?_, fun b q => ?_⟩
        · refine ((H.td.kept htw.size fun x hx => htw.block x (H.td.lt x hx).2 fun q => H.ap x (.inr (.inr q)) hx).kept htc.size fun x hx => htc.block x (Nat.lt_of_lt_of_le (H.td.lt x hx).2 htw.size) fun q => H.ap tb (.inl rfl) (q ▸ hx)).mono (Nat.le_succ _)
        · rcases q with q | q | q
          · exact H.ap b (.inl q)
          · exact H.ap b (.inr (.inl q))
          · rcases hsub b q with u | u
            · exact H.ap b (.inr (.inr u))
            · intro hu
              have := (H.td.lt b hu).2
              omega
        · rcases q with q | q | q
          · rw [q]
            exact Nat.lt_of_lt_of_le q1.lt (Nat.le_trans htw.size htc.size)
          · rw [q]
            exact Nat.lt_of_lt_of_le q2.lt (Nat.le_trans htw.size htc.size)
          · exact Nat.lt_of_lt_of_le (HD.lt s' z' _ b h1 q) htc.size
        · refine (htw.mono fun b q => .inr (.inr (.inr q))).trans htc fun b q => .inl (.inr (.inl q))
        · rcases q with q | q | q | q
          · exact .inl (.inl q)
          · exact .inl (.inr (.inl q))
          · exact .inl (.inr (.inr (.inl q)))
          · exact (hsub b q).imp (fun u => .inr (.inr (.inr u))) id
/-- what Each does to a state -/
def eachR (F : Nat → Nat) (N : Nat) (dn : σ → Nat → Int → Rf → σ × Bool) (h : Int) (R : Rf) (s : σ) : (Bool × σ) × Int := if trOk h R then wlkR F N (stE dn) h.toNat (true, s) 0 R else ((true, s), 1)
set_option maxRecDepth 100000 in
theorem each1_ef : ∀ args w, (callFunc 60 args).run Tryz.prog w = .ok (.enter 60 args) w := fun args w => rfl
set_option maxRecDepth 100000 in
set_option maxHeartbeats 8000000 in
theorem each9_any (ef : ∀ args w, (callFunc fn args).run Tryz.prog w = .ok (.enter fn args) w) (HD : DK fn caps ft Q cnt dn) (h : Int) (R : Rf) (hR : R.1 < 4294967296) (hD : okD R.2) (hF : ∀ a, F a < 256) (s : σ) (z : α) (hi : i < 34359700000) (w : World) (H : WS B g N F c m room ft Q cnt w i U s z) : Calls Tryz.prog 28 #[.pointer (some ⟨c, 0, none⟩), .agg (trC h R), .func (.func fn) #[] caps] w fun e w' => e = .returned (.int .i64 (eachR F N dn h R s).2) ∧ WSt B g N F c m room ft Q cnt w w' (i + 10922) U z (eachR F N dn h R s).1.2 := by
  have hb1 : Below w.heap.size w ((w.alloc (.cells (trC h R) 46)).alloc (.cells #[.func (.func fn) #[] caps] 80)) := below_new2 _ _ _
  have t1 : Blk ((w.alloc (.cells (trC h R) 46)).alloc (.cells #[.func (.func fn) #[] caps] 80)) w.heap.size 46 (trC h R) := (Blk.new _ _ _).alloc _
  have d1 : Blk ((w.alloc (.cells (trC h R) 46)).alloc (.cells #[.func (.func fn) #[] caps] 80)) (w.heap.size + 1) 80 #[.func (.func fn) #[] caps] := Blk.new1 _ _ _ _
  have HB1 : Hid (Below w.heap.size w ((w.alloc (.cells (trC h R) 46)).alloc (.cells #[.func (.func fn) #[] caps] 80))) := hb1
  have hfe : ∀ w, (binOp BinOp.eql 80 (.func (.func fn) #[] caps) .nilFunc).run Tryz.prog w = .ok (.bool false) w := fun w => by first | rfl | simp [binOp, go_sem]
  have HH : Hid (R.1 < 4294967296 ∧ okD R.2 ∧ (∀ a, F a < 256) ∧ i < 34359700000 ∧ WS B g N F c m room ft Q cnt w i U s z) := ⟨hR, hD, hF, hi, H⟩
  have HDK : Hid (DK fn caps ft Q cnt dn) := HD
  have HEF : Hid (∀ args w, (callFunc fn args).run Tryz.prog w = .ok (.enter fn args) w) := ef
  clear hb1 H hR hD hF hi HD ef
  go_enter Tryz.func28, Tryz.ntmps28
  go_wp2_with (first
    | (refine wpList_load_rowg (by rfl) 46 _ (by rfl) (w.heap.size) (by rfl) 46 (trC h R) (0, 0) _ (by exact t1) Tryz.underlying46 (by rfl) (sizeTr.trans (by rw [trC_size])) ?_; simp only [Act.put, List.setIfInBounds_toArray, List.set_cons_zero, List.set_cons_succ])
    | fail)
  generalize ((w.alloc (.cells (trC h R) 46)).alloc (.cells #[.func (.func fn) #[] caps] 80)) = w1 at *
  refine (tright_any h R HH.out.1 HH.out.2.1 w1).mono ?_
  rintro x w2 ⟨rfl, hb2⟩
  have hb12 : Below w.heap.size w w2 := HB1.out.trans (hb2.mono HB1.out.size)
  have HB2 : Hid (Below w.heap.size w w2) := hb12
  have t2 := t1.below hb2 t1.lt
  have d2 := d1.below hb2 d1.lt
  have e2 : w2.cell? ⟨w.heap.size + 1, 0, none⟩ = some (.func (.func fn) #[] caps) := (d2.cell 0).trans rfl
  clear hb2 hb12 t1 d1 HB1
  by_cases hok : trOk h R
  · rw [decide_eq_true hok]
    have HR : Hid (eachR F N dn h R s = wlkR F N (stE dn) h.toNat (true, s) 0 R) := if_pos hok
    have HIN : Hid (0 ≤ h ∧ h ≤ 6) := ⟨hok.2.1, hok.2.2⟩
    have hb3 : Below w2.heap.size w2 (w2.alloc (.cells #[.bool true] 4)) := below_new1 _ _
    have HB3 : Hid (Below w.heap.size w (w2.alloc (.cells #[.bool true] 4))) := HB2.out.trans (hb3.mono HB2.out.size)
    have t3 := t2.below hb3 t2.lt
    have HD3 : Hid (Blk (w2.alloc (.cells #[.bool true] 4)) (w.heap.size + 1) 80 #[.func (.func fn) #[] caps]) := d2.below hb3 d2.lt
    have HO3 : Hid (Blk (w2.alloc (.cells #[.bool true] 4)) w2.heap.size 4 #[.bool true]) := Blk.new _ _ _
    have HTB : Hid (w.heap.size + 1 < w2.heap.size) := d2.lt
    clear hok hb3 HB2 t2 d2
    go_wp2_with (first
      | (refine wpList_load_rowg (by rfl) 46 _ (by rfl) (w.heap.size) (by rfl) 46 (trC h R) (0, 0) _ (by exact t3) Tryz.underlying46 (by rfl) (sizeTr.trans (by rw [trC_size])) ?_; simp only [Act.put, List.setIfInBounds_toArray, List.set_cons_zero, List.set_cons_succ])
      | fail)
    clear e2
    generalize (w2.alloc (.cells #[.bool true] 4)) = w3 at *
    generalize w2.heap.size = tb at *
    refine (root_any h R w3).mono ?_
    rintro x w4 ⟨rfl, hb4⟩
    have HB4 : Hid (Below w.heap.size w w4) := HB3.out.trans (hb4.mono HB3.out.size)
    have hd4 := HD3.out.below hb4 HD3.out.lt
    have ho4 := HO3.out.below hb4 HO3.out.lt
    have HW4 : Hid (WS B g N F c m room (ftE ft tb (w.heap.size + 1)) (QE fn caps ft Q tb (w.heap.size + 1)) (fun s => cnt s.2) w4 i U (true, s) z) := by
      have h0 := HH.out.2.2.2.2
      have h4 := h0.below HDK.out.keep HB4.out
      have htb := HTB.out
      refine ⟨h4.td, ⟨ho4, hd4, h4.q, fun q => by have := h0.lt _ q; omega, fun q => by have := h0.lt _ q; omega, by omega⟩, fun b q => ?_, h4.cn, fun b q => ?_⟩
      · rcases q with q | q | q
        · intro u
          have := (h0.td.lt b u).2
          omega
        · intro u
          have := (h0.td.lt b u).2
          omega
        · exact h4.ap b q
      · rcases q with q | q | q
        · rw [q]; exact ho4.lt
        · rw [q]; exact hd4.lt
        · exact h4.lt b q
    clear hb4 hd4 ho4 HD3 HO3 HB3 t3
    obtain ⟨n, rfl⟩ := Int.eq_ofNat_of_zero_le HIN.out.1
    have HWK : Hid (Calls Tryz.prog 52 #[.pointer (some ⟨c, 0, none⟩), .agg (poC (n : Int) 0 R), .func (.func 60) #[] #[.pointer (some ⟨tb, 0, none⟩), .pointer (some ⟨w.heap.size + 1, 0, none⟩)]] w4 fun e w' => e = .returned (.int .i64 (wlkR F N (stE dn) n (true, s) 0 R).2) ∧ WSt B g N F c m room (ftE ft tb (w.heap.size + 1)) (QE fn caps ft Q tb (w.heap.size + 1)) (fun s => cnt s.2) w4 w' (i + pN n) U z (wlkR F N (stE dn) n (true, s) 0 R).1) := walk_any (B := B) (g := g) (N := N) (c := c) (m := m) (room := room) each1_ef HH.out.2.2.1 (each1_wk (B := B) (g := g) (N := N) (F := F) (c := c) (m := m) (room := room) HEF.out HDK.out tb (w.heap.size + 1)) n (by have := HIN.out.2; omega) (true, s) z 0 R i U w4 (Int.le_refl _) (by
      have := pow4_le n (by have := HIN.out.2; omega)
      simp only [Int.zero_add, Int.one_mul]
      omega) HH.out.1 (by have := pN_le (n := n) (by have := HIN.out.2; omega); have := HH.out; omega) HW4.out
    go_wp2_with fail
    refine HWK.out.mono ?_
    rintro x w5 ⟨rfl, U5, z5, hs5, ht5, hf5⟩
    have HE : Hid (WSt B g N F c m room ft Q cnt w w5 (i + 10922) U z (wlkR F N (stE dn) n (true, s) 0 R).1.2) := by
      have hp := pN_le (n := n) (by have := HIN.out.2; omega)
      have htb := HTB.out
      obtain ⟨q1, q2, q3, q4, q5, q6⟩ := hs5.q
      refine ⟨U5, z5, ⟨hs5.td.mono (by omega), q3, fun b q => hs5.ap b (.inr (.inr q)), Nat.le_trans hs5.cn (by omega), fun b q => hs5.lt b (.inr (.inr q))⟩, ?_, fun b q => ?_⟩
      · refine (Turns.of_below (S := fun b => U b ∨ ft z b) HB4.out).trans ht5 fun b q => ?_
        rcases q with q | q | q | q
        · exact .inl (.inl q)
        · exact .inr (by omega)
        · exact .inr (by omega)
        · exact .inl (.inr q)
      · have hz := HB4.out.size
        rcases hf5 b (q.imp id fun u => .inr (.inr u)) with u | u
        · rcases u with q | q | q | q
          · exact .inl (.inl q)
          · exact .inr (by omega)
          · exact .inr (by omega)
          · exact .inl (.inr q)
        · exact .inr (by omega)
    clear hs5 ht5 hf5
    go_wp2_with fail
    go_ret
    rw [HR.out, Int.toNat_natCast]
    exact ⟨rfl, HE.out⟩
  · rw [decide_eq_false hok]
    have HR : Hid (eachR F N dn h R s = ((true, s), 1)) := if_neg hok
    go_wp2_with fail
    go_ret
    rw [HR.out]
    exact ⟨rfl, .of ((HH.out.2.2.2.2.below HDK.out.keep HB2.out).mono (by omega)) HB2.out⟩
end
end Go.Proofs.YtjhabngibbmpbaaGreat
