/- As the law for a region in parts, and an operation may be taken ahead that is shown to yield its value in every world whose memory below B is as it was. No program in it. -/
import Derived.Test.YtiofonffmplfmaaGreatHDigText
import Derived.Deep.RegionLaw
import Derived.Handy
import Derived.Below

namespace Go.Proofs.YtiofonffmplfmaaGreat
open Go.RowKit
set_option linter.unusedSimpArgs false
set_option linter.unusedVariables false

theorem sizeByte : (Tryz.prog.info? 5).map (·.size) = some 1 := by kernel_rfl
theorem sizeSum : (Tryz.prog.info? 41).map (·.size) = some 32 := by kernel_rfl
theorem size4 : (Tryz.prog.info? 166).map (·.size) = some 4 := by kernel_rfl
theorem sum_at (c : Nat → Nat) (k j : Nat) (hj : j < 4) : sumN c (4 * k + j) = dig (c k) j := by
  unfold sumN
  rw [show (4 * k + j) / 4 = k from by omega, show (4 * k + j) % 4 = j from by omega]

set_option maxHeartbeats 4000000 in
theorem sum_any (c : Nat → Nat) (w : World) :
    Calls Tryz.prog 120 #[.agg (va 8 (iv .u32 c))] w fun e w' => e = .returned (.agg (va 32 (iv .u8 (sumN c)))) ∧ Below w.heap.size w w' := by
  go_enter Tryz.func120, Tryz.ntmps120
  go_wp2_with fail
  go_loopw [6] (fun i wr => ∃ k : Nat, k ≤ 8 ∧ i = .int .i64 k ∧ Blk wr w.heap.size 237 (va 8 (iv .u32 c)) ∧ Blk wr (w.heap.size + 1) 41 (va 32 (iv .u8 fun _ => 0)) ∧ Blk wr (w.heap.size + 2) 41 (va 32 (iv .u8 (fupN (4 * k) (sumN c) fun _ => 0))) ∧ Below w.heap.size w wr) (fun i _ => 8 - (intOf i).toNat)
  case atStart =>
    refine ⟨0, by omega, rfl, ?_, ?_, ?_, ?_⟩
    · exact ((Blk.new w _ _).alloc _).alloc _
    · have e : (w.alloc (.cells (va 8 (iv .u32 c)) 237)).heap.size = w.heap.size + 1 := by simp
      rw [← e]
      exact (Blk.new _ _ (va 32 (iv .u8 fun _ => 0))).alloc _
    · have e : ((w.alloc (.cells (va 8 (iv .u32 c)) 237)).alloc (.cells (va 32 (iv .u8 fun _ => 0)) 41)).heap.size = w.heap.size + 2 := by simp
      rw [← e, fup_zero]
      exact Blk.new _ _ (va 32 (iv .u8 fun _ => 0))
    · exact (((Below.refl _ _).alloc (Nat.le_refl _) _).alloc (by simp) _).alloc (by simp; omega) _
  case round =>
    obtain ⟨k, hk, rfl, h0, h1, h2, hb⟩ := hrel
    by_cases hlt : k < 8
    · have i0 : (0 : Int) ≤ (k : Int) := by omega
      have i1 : (k : Int) < 8 := by omega
      have i2 : decide ((k : Int) < 8) = true := decide_eq_true i1
      have hB : Hid (∀ w : World, Calls Tryz.prog 68 #[.int .u32 ((c k : Nat) : Int)] w fun e w' => e = .returned (.agg (va 4 (iv .u8 (dig (c k))))) ∧ Below w.heap.size w w') := fun w => bytes32_va (c k) w
      have ck : wr.cell? ⟨w.heap.size, k, none⟩ = some (.int .u32 ((c k : Nat) : Int)) := h0.cv hlt
      have HS : Hid (∀ j, j < 4 → sumN c (4 * k + j) = dig (c k) j) := fun j hj => sum_at c k j hj
      generalize c k = x at *
      go_wp2_with fail
      refine (hB.out _).mono ?_
      rintro e w1 ⟨rfl, hb1⟩
      have k0 := h0.below hb1 h0.lt
      have k1 := h1.below hb1 h1.lt
      have k2 := h2.below hb1 h2.lt
      have kb : Below w.heap.size w w1 := hb.trans (hb1.mono hb.size)
      clear h0 h1 h2 hb hb1 ck hB
      have n0 : Blk (w1.alloc (.cells #[.int .u8 0, .int .u8 0, .int .u8 0, .int .u8 0] 166)) w1.heap.size 166 (va 4 (iv .u8 fun _ => 0)) := Blk.new _ _ _
      obtain ⟨q, hq⟩ : ∃ q : Nat, q = 4 * k := ⟨_, rfl⟩
      have hq1 : q ≤ 28 := by omega
      have wk : IntKind.i64.wrap ((k : Int) * 4) = (q : Int) := by
        rw [IntKind.wrap_i64, hq]
        omega
      have q0 : (0 : Int) ≤ (q : Int) := by omega
      have q1 : (q : Int) ≤ 32 := by omega
      have q2 : ¬ 32 = q := by omega
      have HQ : Hid (q = 4 * k) := hq
      have l2 := k2.lt
      rw [← hq] at k2
      clear hq
      go_wp2_with (first
        | (refine wpList_store_row (by rfl) 166 _ _ (by rfl) w1.heap.size (va 4 (iv .u8 (dig x))) (by rfl) (by rfl) 166 _ n0 (size4.trans (by rw [va_size])) (by rw [va_size, va_size]) (iv_one _ _ _) ?_; simp only [Act.put, List.setIfInBounds_toArray, List.set_cons_zero, List.set_cons_succ])
        | fail)
      have m0 := n0.set (va 4 (iv .u8 (dig x)))
      have j0 := (k0.alloc (.cells #[.int .u8 0, .int .u8 0, .int .u8 0, .int .u8 0] 166)).other (va 4 (iv .u8 (dig x))) (g := w1.heap.size) (by omega)
      have j1 := (k1.alloc (.cells #[.int .u8 0, .int .u8 0, .int .u8 0, .int .u8 0] 166)).other (va 4 (iv .u8 (dig x))) (g := w1.heap.size) (by omega)
      have j2 := (k2.alloc (.cells #[.int .u8 0, .int .u8 0, .int .u8 0, .int .u8 0] 166)).other (va 4 (iv .u8 (dig x))) (g := w1.heap.size) (by omega)
      have jb : Below w.heap.size w ((w1.alloc (.cells #[.int .u8 0, .int .u8 0, .int .u8 0, .int .u8 0] 166)).setRow w1.heap.size (va 4 (iv .u8 (dig x)))) := below_setRow (kb.alloc (by omega) _) (by omega) _
      clear k0 k1 k2 kb n0
      generalize (w1.alloc (.cells #[.int .u8 0, .int .u8 0, .int .u8 0, .int .u8 0] 166)).setRow w1.heap.size (va 4 (iv .u8 (dig x))) = w2 at *
      obtain ⟨cs, hcs⟩ : ∃ cs : List Value, cs = (List.range 4).map fun j => Value.int .u8 ((dig x j : Nat) : Int) := ⟨_, rfl⟩
      obtain ⟨cu, hcu⟩ : ∃ cu : List Value, cu = (List.range 32).map (iv .u8 (fupN q (sumN c) fun _ => 0)) := ⟨_, rfl⟩
      have s1 : Hid (cs.length = Nat.min 4 (32 - q)) := by
        show _ = _
        rw [hcs, show Nat.min 4 (32 - q) = 4 from Nat.min_eq_left (by omega)]
        simp
      have hr := m0.range 0 4 (by omega)
      have s2 : Hid (∀ j v, cs[j]? = some v → w2.drew.cell? ((⟨w1.heap.size, 0, none⟩ : Addr).add j) = some v) := fun j v hv => by
        rw [Addr.add_mid]
        refine hr j v ?_
        rw [← hv, hcs]
        simp [iv]
      have s3 : Hid (∀ v ∈ cs, v.oneCell' = true) := by
        show ∀ v ∈ cs, v.oneCell' = true
        rw [hcs]
        exact mem_iv_one _ _ _
      have s4 : Hid ((splice cu q cs).toArray = va 32 (iv .u8 (fupN (4 * (k + 1)) (sumN c) fun _ => 0))) := by
        show _ = _
        have e : cs = (List.range 4).map fun j => Value.int .u8 ((sumN c (q + j) : Nat) : Int) := by
          rw [hcs]
          refine List.map_congr_left fun j hj => ?_
          rw [HQ.out, HS.out j (List.mem_range.1 hj)]
        rw [e, hcu, splice_va 32 q 4 _ _ (by omega), over_fup, HQ.out, show 4 * (k + 1) = 4 * k + 4 from by omega]
      have s5 : Hid (q + cs.length ≤ cu.length) := by
        show _ ≤ _
        rw [hcs, hcu]
        simp
        omega
      have s6 : Hid (w2.drew.heap[w.heap.size + 2]? = some (.cells cu.toArray 41 (0, 0))) := by
        show _ = _
        rw [hcu]
        exact j2
      clear hcs hcu hr j2
      go_wp2_with fail
      go_region_law (refine step_copy_splice rfl (.tmp 15) (.tmp 16) 165 165 rfl 5 Tryz.underlying165 sizeByte (some ⟨w.heap.size + 2, q, none⟩) (some ⟨w1.heap.size, 0, none⟩) (32 - q) (32 - q) 4 4 (by simp [Act.eval, Act.put]) (by simp [Act.eval, Act.put]) (w.heap.size + 2) q cu 41 s6.out cs s1.out (fun _ => ⟨rfl, _, rfl, s2.out⟩) s5.out s3.out (w.heap.size + 2) w2.drew (Below.refl _ _) (Nat.le_refl _) ?_; intro w4 hg4 hb4)
      have p2 : Blk w4 (w.heap.size + 2) 41 (va 32 (iv .u8 (fupN (4 * (k + 1)) (sumN c) fun _ => 0))) := by
        have := hg4.out
        rw [s4.out] at this
        exact this
      have p0 := j0.drew.below hb4 (by omega)
      have p1 := j1.drew.below hb4 (by omega)
      have pb : Below w.heap.size w w4 := jb.drew.trans (hb4.mono (by omega))
      clear s1 s2 s3 s4 s5 s6 hg4 hb4 j0 j1 jb m0
      go_wp2_with fail
      go_roundw
      case rel => exact ⟨k + 1, by omega, by go_num, p0, p1, p2, pb⟩
      case measure => simp [intOf]; omega
    · obtain rfl : k = 8 := by omega
      rw [fup_all _ 32 (4 * 8) _ _ (Nat.le_refl _)] at h2
      go_wp2_with (first
        | (refine wpList_load_row (by rfl) 41 _ (by rfl) (w.heap.size + 2) (by rfl) 41 (va 32 (iv .u8 (sumN c))) (0, 0) _ h2 Tryz.underlying41 (by rfl) (sizeSum.trans (by rw [va_size])) ?_; simp only [Act.put, List.setIfInBounds_toArray, List.set_cons_zero, List.set_cons_succ])
        | (refine wpList_store_row (by rfl) 41 _ _ (by rfl) (w.heap.size + 1) (va 32 (iv .u8 (sumN c))) (by rfl) (by rfl) 41 _ h1 (sizeSum.trans (by rw [va_size])) (by rw [va_size, va_size]) (iv_one _ _ _) ?_; simp only [Act.put, List.setIfInBounds_toArray, List.set_cons_zero, List.set_cons_succ])
        | fail)
      try simp only [Exit.inBlock, Exit.then]
      refine bodyPost_ret (results_cell_row Tryz.results120 _ _ (w.heap.size + 1) 41 (va 32 (iv .u8 (sumN c))) (0, 0) _ rfl (h1.set _) Tryz.underlying41 rfl (sizeSum.trans (by rw [va_size]))) rfl ?_
      exact ⟨rfl, below_setRow hb (by omega) _⟩
end Go.Proofs.YtiofonffmplfmaaGreat

namespace Go.Proofs.YtiofonffmplfmaaGreat
open Go Go.RowKit

section
variable {P : Program} {ops : Array Oper} {Q : Exit → Act → World → Prop} {md : Region.Mode} {S : World → Prop} {W : Nat → Bool}

/-- whatever order is picked, and S holds behind every operation outside W -/
def wpAnyW (P : Program) (md : Region.Mode) (ops : Array Oper) (Q : Exit → Act → World → Prop) (S : World → Prop) (W : Nat → Bool) : Nat → Array Bool → Act → World → Prop
  | 0, listed, a, w => Region.ready md ops listed = [] ∧ Q .normal a w
  | fuel + 1, listed, a, w =>
    (Region.ready md ops listed = [] → Q .normal a w) ∧
    ∀ i ∈ Region.ready md ops listed, wpOp P ops Q i (fun a' w' => (W i = false → S w') ∧ wpAnyW P md ops Q S W fuel (listed.setIfInBounds i true) a' w') a w

theorem wpAny_of_W : ∀ (fuel : Nat) (listed : Array Bool) (a : Act) (w : World), wpAnyW P md ops Q S W fuel listed a w → wpAny P md ops Q fuel listed a w
  | 0, _, _, _, h => h
  | fuel + 1, _, _, _, h => ⟨h.1, fun i hi => wpOp_mono (fun a' w' h' => wpAny_of_W fuel _ a' w' h'.2) (h.2 i hi)⟩

theorem wpAnyW_take {i : Nat} {oi : Oper} {v : Value} (hi : ops[i]? = some oi) (hsel : ∀ (j : Nat) (o : Oper) cs b, ops[j]? = some o → o.op ≠ .select cs b) (wt : Nat → Bool)
    (hQ : ∀ c a w, Q (.panic c) (a.put oi.dst v) w → Q (.panic c) a w)
    (hB : ∀ j oj, ops[j]? = some oj → wt j = true → j ≠ i → ∃ e ∈ oj.after, Region.binds md e = true ∧ wt e.on = true) (hW : ∀ j oj, ops[j]? = some oj → W j = true → wt j = true) (hWi : W i = false) :
    ∀ (fuel : Nat) (listed : Array Bool) (a : Act) (w : World),
      (∀ j oj, ops[j]? = some oj → j ≠ i → listed.getD j true = false → (∀ e ∈ oj.after, Region.binds md e = true → e.on ≠ i) → oi.apart ops oj = true) →
      (∀ j, wt j = true → listed.getD j true = false) →
      i ∈ Region.ready md ops listed → YieldsIf P ops S oi v a → S w →
      wpAnyW P md ops Q S W fuel (listed.setIfInBounds i true) (a.put oi.dst v) w → wpAnyW P md ops Q S W (fuel + 1) listed a w := by
  intro fuel
  induction fuel with
  | zero =>
    intro listed a w _ _ hr hy hS H
    refine ⟨fun h => (by rw [h] at hr; cases hr), fun j hj => ?_⟩
    by_cases hji : j = i
    · subst hji; exact hy.wpOp hi hS ⟨fun _ => hS, H⟩
    · have := ready_mono hj hji
      rw [H.1] at this
      cases this
  | succ fuel ih =>
    intro listed a w hfree hC hr hy hS H
    refine ⟨fun h => (by rw [h] at hr; cases hr), fun j hj => ?_⟩
    by_cases hji : j = i
    · subst hji; exact hy.wpOp hi hS ⟨fun _ => hS, H⟩
    · have h1 := H.2 j (ready_mono hj hji)
      obtain ⟨hjun, oj, hoj, hall⟩ := mem_ready.1 hj
      have hpend : ∀ k, listed.getD k true = false → listed.getD k false = true → False := fun k h0 h1 => by
        rcases Nat.lt_or_ge k listed.size with h' | h'
        · simp [h'] at h0 h1; rw [h0] at h1; cases h1
        · simp [Array.getElem?_eq_none h'] at h1
      have hnot : ∀ e ∈ oj.after, Region.binds md e = true → e.on ≠ i := fun e he hb heq => by
        have h1 := hall e he hb
        rw [heq] at h1
        exact hpend i (mem_ready.1 hr).1 h1
      have hwt : wt j = false := by
        cases hq : wt j with
        | false => rfl
        | true =>
          obtain ⟨e, he, hb, hw⟩ := hB j oj hoj hq hji
          exact (hpend e.on (hC _ hw) (hall e he hb)).elim
      have hWj : W j = false := by
        cases hq : W j with
        | false => rfl
        | true => rw [hW j oj hoj hq] at hwt; cases hwt
      have h2 := wpOp_putIf hoj (hfree j oj hoj hji hjun hnot) (fun cs b => hsel i oi cs b hi) (fun cs b => hsel j oj cs b hoj) hQ hy h1
      refine wpOp_mono (fun a' w' h4 => ?_) h2
      obtain ⟨hy', hS', hK⟩ := h4
      refine ⟨hS', ih (listed.setIfInBounds j true) a' w' (fun k ok hk hki hu hno => hfree k ok hk hki ?_ hno) (fun k hk => ?_) (ready_mono hr (Ne.symm hji)) hy' (hS' hWj) ?_⟩
      · by_cases hjk : j = k
        · subst hjk; exact hjun
        · rw [getD_set_ne true hjk] at hu; exact hu
      · rw [getD_set_ne true (fun e => by subst e; rw [hwt] at hk; cases hk)]; exact hC k hk
      · rw [Array.setIfInBounds_comm _ _ hji]
        exact hK

theorem wpOp_strict {Q' : Exit → Act → World → Prop} {i : Nat} {K : Act → World → Prop} {a : Act} {w : World} (h : wpOp P ops (Strict Q) i K a w) : wpOp P ops (Strict Q') i K a w := by
  unfold wpOp at *
  split
  · rename_i hn; simp only [hn] at h; exact h
  · rename_i o ho
    simp only [ho] at h
    split
    · rename_i hw
      simp only [hw, if_true] at h
      rcases h with h | ⟨_, h⟩
      · refine .inl ?_
        unfold Oper.wp at *
        generalize (execOp a.eval o).run P w = r at *
        cases r with
        | ok n w' =>
          cases n <;> simp only [Oper.upon] at h ⊢ <;> first
            | exact h
            | exact Calls.mono h (fun e w'' he => by
                cases e with
                | returned v => exact he
                | panicked c => exact absurd he.1 (by intro e; cases e)
                | outgrown => exact absurd he Strict.noOut)
        | halt x w' => cases x <;> simp only [Oper.upon, Strict] at h ⊢ <;> first | exact h.elim | exact absurd h.1 (by intro e; cases e)
      · exact absurd h Strict.noOut
    · rename_i hw; simp only [hw] at h; exact h

/-- a slot that no operation of the region writes keeps its value -/
theorem wpOp_keeps {i : Nat} {x : Tmp} (hx : ∀ (j : Nat) (o : Oper), ops[j]? = some o → o.dst ≠ some x) {K : Act → World → Prop} {a : Act} {w : World} (h : wpOp P ops Q i K a w) :
    wpOp P ops Q i (fun a' w' => a'.eval (.tmp x) = a.eval (.tmp x) ∧ K a' w') a w := by
  unfold wpOp at *
  split
  · rename_i hn; simp only [hn] at h; exact ⟨rfl, h⟩
  · rename_i o ho
    simp only [ho] at h
    have keep : ∀ (b : Act) (v : Value), (b.put o.dst v).eval (.tmp x) = b.eval (.tmp x) := fun b v =>
      Act.eval_put (fun d hd => by intro e; cases e; exact hx i o ho hd)
    split
    · rename_i hw
      simp only [hw, if_true] at h
      refine h.imp (fun h => ?_) id
      unfold Oper.wp at *
      generalize (execOp a.eval o).run P w = r at *
      cases r with
      | ok n w' =>
        cases n <;> simp only [Oper.upon] at h ⊢
        case value u => exact ⟨keep _ _, h⟩
        case skip => exact ⟨keep _ _, h⟩
        case defer d => exact ⟨keep _ _, h⟩
        case enter f args =>
          exact Calls.mono h (fun e w'' he => by
            cases e with
            | returned v => exact ⟨keep _ _, he⟩
            | panicked c => exact he
            | outgrown => exact he)
        case row row args => exact Rows.mono h (fun u w'' he => ⟨keep _ _, he⟩)
      | halt y w' => cases y <;> simp only [Oper.upon] at h ⊢ <;> exact h
    · rename_i hw; simp only [hw] at h; exact ⟨keep _ _, h⟩

/-- old memory: a row of cells below B -/
def Low (B : Nat) (w0 : World) (v : Value) : Prop := ∃ p cs t fr, v = .pointer (some p) ∧ p.block < B ∧ w0.heap[p.block]? = some (.cells cs t fr)

theorem load_low {B : Nat} {w0 w w' : World} {p : Addr} (hp : p.block < B) (hc : ∃ cs t fr, w0.heap[p.block]? = some (.cells cs t fr)) (hw : Below B w0 w) (hw' : Below B w0 w') {v : Value} {w1 : World}
    (h : (load p).run P w = .ok v w1) : (load p).run P w' = .ok v w' := by
  have e1 := hw.cell (p := p) hp
  have e2 := hw'.cell (p := p) hp
  obtain ⟨cs, t, fr, hc⟩ := hc
  simp only [load, Sem.run] at h ⊢
  rw [e1] at h
  rw [e2]
  cases hq : w0.cell? p with
  | some u => rw [hq] at h; simp only at h ⊢; cases h; rfl
  | none =>
    rw [hq] at h
    simp only [World.farLoad, hw.block _ hp, hc] at h
    cases h
theorem cells_low {B : Nat} {w0 w w' : World} (p : Addr) (hp : p.block < B) (hc : ∃ cs t fr, w0.heap[p.block]? = some (.cells cs t fr)) (hw : Below B w0 w) (hw' : Below B w0 w') :
    ∀ (n i : Nat) (acc r : Array Value) (w1 : World), (loadCellsFrom p i n acc).run P w = .ok r w1 → (loadCellsFrom p i n acc).run P w' = .ok r w'
  | 0, i, acc, r, w1, h => by
    simp only [loadCellsFrom, Sem.run_pure] at h ⊢; cases h; rfl
  | n + 1, i, acc, r, w1, h => by
    have hb : (p.add i).block = p.block := by unfold Addr.add; split <;> rfl
    simp only [loadCellsFrom, Sem.run_bind] at h ⊢
    cases hs : (load (p.add i)).run P w with
    | ok v w2 =>
      have := rds_load (P := P) (p.add i) _ _ _ hs
      subst this
      rw [hs] at h
      rw [load_low (P := P) (by rw [hb]; exact hp) (by rw [hb]; exact hc) hw hw' hs]
      simp only [Result.andThen_ok] at h ⊢
      exact cells_low p hp hc hw hw' n (i + 1) _ r w1 h
    | halt y w2 => rw [hs] at h; simp [Result.andThen] at h
theorem loadAt_low {B : Nat} {w0 w w' : World} {x : Value} (hx : Low B w0 x) (hw : Below B w0 w) (hw' : Below B w0 w') (t : TypeId) {v : Value} {w1 : World}
    (h : (Instr.loadAt t x).run P w = .ok v w1) : (Instr.loadAt t x).run P w' = .ok v w' := by
  obtain ⟨p, cs, t', fr, rfl, hp, hc⟩ := hx
  have hc' : ∃ cs t fr, w0.heap[p.block]? = some (.cells cs t fr) := ⟨cs, t', fr, hc⟩
  simp only [Instr.loadAt, Instr.sureAddr, Sem.run_bind, Sem.run_pure, Result.andThen_ok, loadVar] at h ⊢
  have hag : Pur P (isAgg t) := by
    unfold isAgg
    refine (pur_underlying t).bind fun d => ?_
    split <;> exact pur_pure _
  cases hs : (isAgg t).run P w with
  | ok b w2 =>
    obtain ⟨rfl, h2⟩ := hag _ _ _ hs
    rw [hs] at h
    rw [h2 w']
    simp only [Result.andThen_ok] at h ⊢
    cases b with
    | true =>
      simp only [if_true, Sem.run_bind] at h ⊢
      cases hz : (sizeOf t).run P w2 with
      | ok n w3 =>
        obtain ⟨rfl, h3⟩ := pur_sizeOf t _ _ _ hz
        rw [hz] at h
        rw [h3 w']
        simp only [Result.andThen_ok] at h ⊢
        cases hl : (loadCells p n).run P w3 with
        | ok r w4 =>
          rw [hl] at h
          rw [show (loadCells p n).run P w' = .ok r w' from cells_low p hp hc' hw hw' n 0 #[] r w4 hl]
          simp only [Result.andThen_ok, Sem.run_pure] at h ⊢
          cases h; rfl
        | halt y w4 => rw [hl] at h; simp [Result.andThen] at h
      | halt y w3 => rw [hz] at h; simp [Result.andThen] at h
    | false =>
      simp only [Bool.false_eq_true, if_false] at h ⊢
      exact load_low hp hc' hw hw' h
  | halt y w2 => rw [hs] at h; simp [Result.andThen] at h

/-- more operations that yield in whatever world -/
def kindV (o : Oper) : Bool := kindW o || match o.op with
  | .assign _ => true
  | .pick .. => true
  | .unOp .not _ _ => true
  | _ => false
theorem kindV_run {o : Oper} (h : kindV o = true) (ρ : Operand → Value) : Pur P (execOp ρ o) ∧ ∀ w n w', (execOp ρ o).run P w = .ok n w' → ∃ v, n = .value v := by
  unfold kindV at h
  rw [Bool.or_eq_true] at h
  rcases h with h | h
  · exact kindW_run h ρ
  · split at h <;> rename_i hop
    · unfold execOp; simp only [hop]
      exact ⟨pur_pure _, fun w n w' e => by rw [Sem.run_pure] at e; cases e; exact ⟨_, rfl⟩⟩
    · unfold execOp; simp only [hop]
      refine ⟨Pur.bind ?_ fun b => pur_pure _, fun w n w' e => ?_⟩
      · unfold asBool; split
        · exact pur_pure _
        · exact pur_halt _
      · rw [Sem.run_bind] at e
        cases hs : (asBool (ρ _)).run P w with
        | ok x w1 => rw [hs] at e; simp only [Result.andThen_ok, Sem.run_pure] at e; cases e; exact ⟨_, rfl⟩
        | halt x w1 => rw [hs] at e; simp [Result.andThen] at e
    · unfold execOp; simp only [hop]
      refine ⟨Pur.bind ?_ fun b => pur_pure _, fun w n w' e => ?_⟩
      · unfold Op.unary
        split <;> first | exact pur_pure _ | exact pur_halt _ | (rename_i hq; cases hq)
      · rw [Sem.run_bind] at e
        cases hs : (Op.unary .not (ρ _)).run P w with
        | ok x w1 => rw [hs] at e; simp only [Result.andThen_ok, Sem.run_pure] at e; cases e; exact ⟨_, rfl⟩
        | halt x w1 => rw [hs] at e; simp [Result.andThen] at e
    · cases h
/-- a load through a slot of old memory -/
def lowLoad (ops : Array Oper) (lows : List Tmp) (o : Oper) : Bool := match o.op with
  | .load _ (.tmp x) => lows.contains x && ops.all fun o' => o'.dst != some x
  | _ => false
theorem lowLoad_run {o : Oper} {lows : List Tmp} (h : lowLoad ops lows o = true) : ∃ t x, o.op = .load t (.tmp x) ∧ x ∈ lows := by
  unfold lowLoad at h
  split at h
  · rename_i t x hop
    simp only [Bool.and_eq_true, List.contains_eq_mem, decide_eq_true_eq] at h
    exact ⟨t, x, hop, h.1⟩
  · cases h

/-- the check of one operation that is taken ahead -/
def waitW (md : Region.Mode) (ops : Array Oper) (listed : Array Bool) (i : Nat) (W : List Nat) (wt : Array Bool) : Bool :=
  (List.range ops.size).all fun j => match ops[j]? with
    | some o => if wt.getD j false then (j == i || o.after.any fun e => Region.binds md e && wt.getD e.on false && decide (e.on < ops.size)) && !listed.getD j true else !W.contains j
    | none => true
def yieldW (md : Region.Mode) (ops : Array Oper) (listed : Array Bool) (W : List Nat) (i : Nat) : Bool :=
  match ops[i]? with
  | some _ => (Region.ready md ops listed).contains i && Region.free md ops listed i && !W.contains i && waitW md ops listed i W (waitArr md ops listed i)
  | none => false
def takeW (md : Region.Mode) (ops : Array Oper) (listed : Array Bool) (W : List Nat) (lows : List Tmp) (i : Nat) : Bool :=
  match ops[i]? with
  | some o => (Region.ready md ops listed).contains i && Region.free md ops listed i && !W.contains i && (kindV o || lowLoad ops lows o) && waitW md ops listed i W (waitArr md ops listed i)
  | none => false
def forceW (md : Region.Mode) (ops : Array Oper) (listed : Array Bool) (i : Nat) : Bool := Region.ready md ops listed == [i] && (ops[i]?).isSome
/-- operations that are taken ahead, one behind the other -/
def takesB (md : Region.Mode) (ops : Array Oper) (W : List Nat) (lows : List Tmp) : List Nat → Array Bool → Option (Array Bool)
  | [], listed => some listed
  | i :: rest, listed => if takeW md ops listed W lows i then takesB md ops W lows rest (listed.setIfInBounds i true) else none
/-- operations of the tail, one behind the other -/
def tailB (md : Region.Mode) (ops : Array Oper) (W : List Nat) : List Nat → Array Bool → Bool
  | [], listed => (Region.ready md ops listed).isEmpty
  | i :: rest, listed => forceW md ops listed i && W.contains i && tailB md ops W rest (listed.setIfInBounds i true)
/-- the parts: those that are taken ahead, and one that is forced, or one of which it is shown that it yields its value in whatever world -/
def partsB (md : Region.Mode) (ops : Array Oper) (W : List Nat) (lows : List Tmp) : List (List Nat × Nat × Bool) → List Nat → List Nat → Array Bool → Bool
  | [], takes, tail, listed => match takesB md ops W lows takes listed with
    | some l => tailB md ops W tail l
    | none => false
  | p :: rest, takes, tail, listed => match takesB md ops W lows p.1 listed with
    | some l => (if p.2.2 then yieldW md ops l W p.2.1 else forceW md ops l p.2.1 && !W.contains p.2.1) && partsB md ops W lows rest takes tail (l.setIfInBounds p.2.1 true)
    | none => false

def lenOf : List (List Nat × Nat × Bool) → Nat → Nat
  | [], n => n
  | p :: rest, n => p.1.length + (1 + lenOf rest n)

variable {B : Nat} {w0 : World} {lows : List Tmp} {Wl : List Nat}

/-- the slots of old memory -/
def Lows (lows : List Tmp) (B : Nat) (w0 : World) (a : Act) : Prop := ∀ x ∈ lows, Low B w0 (a.eval (.tmp x))

theorem take_gen {i fuel : Nat} {o : Oper} {v : Value} {listed : Array Bool} {a : Act} {w : World} (hs : Region.noSelect ops = true) (hi : ops[i]? = some o) (hr : (Region.ready md ops listed).contains i = true)
    (hf : Region.free md ops listed i = true) (hWi : Wl.contains i = false) (hwait : waitW md ops listed i Wl (waitArr md ops listed i) = true) (hy : YieldsIf P ops (Below B w0) o v a) (hS : Below B w0 w)
    (hK : wpAnyW P md ops (Strict Q) (Below B w0) (Wl.contains ·) fuel (listed.setIfInBounds i true) (a.put o.dst v) w) :
    wpAnyW P md ops (Strict Q) (Below B w0) (Wl.contains ·) (fuel + 1) listed a w := by
  generalize hwt : waitArr md ops listed i = arr at hwait
  unfold waitW at hwait
  rw [List.all_eq_true] at hwait
  have hall : ∀ j oj, ops[j]? = some oj → (if arr.getD j false then (j == i || oj.after.any fun e => Region.binds md e && arr.getD e.on false && decide (e.on < ops.size)) && !listed.getD j true else !Wl.contains j) = true := fun j oj hj => by
    have h1 := hwait j (List.mem_range.2 (Array.getElem?_eq_some_iff.1 hj).1)
    rw [hj] at h1; exact h1
  have hin : ∀ j, decide (j < ops.size) = true → ∃ oj, ops[j]? = some oj := fun j hj => ⟨_, Array.getElem?_eq_getElem (of_decide_eq_true hj)⟩
  refine wpAnyW_take hi (Region.noSelect_spec hs) (fun j => arr.getD j false && decide (j < ops.size)) (v := v) (strict_frame _ _) ?_ ?_ hWi fuel listed a w (Region.free_spec hi hf) ?_ (by simpa using hr) hy hS hK
  · intro j oj hj hw hne
    simp only [Bool.and_eq_true] at hw
    have h1 := hall j oj hj
    rw [if_pos hw.1] at h1
    simp only [Bool.and_eq_true, Bool.or_eq_true, beq_iff_eq, hne, false_or] at h1
    obtain ⟨e, he, hb⟩ := Array.any_eq_true'.1 h1.1
    simp only [Bool.and_eq_true] at hb
    exact ⟨e, he, hb.1.1, by simp only [Bool.and_eq_true]; exact ⟨hb.1.2, hb.2⟩⟩
  · intro j oj hj hw
    have hlt : decide (j < ops.size) = true := decide_eq_true (Array.getElem?_eq_some_iff.1 hj).1
    have h1 := hall j oj hj
    cases hq : arr.getD j false with
    | true => rw [hlt]; rfl
    | false => rw [if_neg (by rw [hq]; decide), hw] at h1; cases h1
  · intro j hw
    simp only [Bool.and_eq_true] at hw
    obtain ⟨oj, hj⟩ := hin j hw.2
    have h1 := hall j oj hj
    rw [if_pos hw.1] at h1
    simp only [Bool.and_eq_true, Bool.not_eq_true'] at h1
    exact h1.2

theorem takeW_step {i fuel : Nat} {listed : Array Bool} {a : Act} {w : World} (hs : Region.noSelect ops = true) (hb : takeW md ops listed Wl lows i = true) (hl : Lows lows B w0 a) (hS : Below B w0 w)
    (h : wpOp P ops (Strict Q) i (fun a' w' => Lows lows B w0 a' → Below B w0 w' → wpAnyW P md ops (Strict Q) (Below B w0) (Wl.contains ·) fuel (listed.setIfInBounds i true) a' w') a w)
    (hd : ∀ x ∈ lows, ∀ (j : Nat) (o : Oper), ops[j]? = some o → o.dst ≠ some x) :
    wpAnyW P md ops (Strict Q) (Below B w0) (Wl.contains ·) (fuel + 1) listed a w := by
  unfold takeW at hb
  cases hi : ops[i]? with
  | none => rw [hi] at hb; cases hb
  | some o =>
    rw [hi] at hb
    simp only [Bool.and_eq_true, Bool.or_eq_true, Bool.not_eq_true'] at hb
    obtain ⟨⟨⟨⟨hr, hf⟩, hWi⟩, hk⟩, hwait⟩ := hb
    have hlow : ∀ v, Lows lows B w0 (a.put o.dst v) := fun v x hx => by
      rw [Act.eval_put (fun d hd' => by intro e; cases e; exact hd x hx i o hi hd')]
      exact hl x hx
    have key : ∃ v, wpAnyW P md ops (Strict Q) (Below B w0) (Wl.contains ·) fuel (listed.setIfInBounds i true) (a.put o.dst v) w ∧ YieldsIf P ops (Below B w0) o v a := by
      unfold wpOp at h
      simp only [hi] at h
      by_cases hw : Region.wanted o (yielded ops a.tmps) = true
      · simp only [hw, if_true] at h
        rcases h with h | ⟨_, h⟩
        · unfold Oper.wp at h
          have hrun : ∃ v, (execOp a.eval o).run P w = .ok (.value v) w ∧ ∀ w', Below B w0 w' → (execOp a.eval o).run P w' = .ok (.value v) w' := by
            cases hsr : (execOp a.eval o).run P w with
            | ok n w1 =>
              rcases hk with hk | hk
              · obtain ⟨hp, hv⟩ := kindV_run (P := P) hk a.eval
                obtain ⟨v, rfl⟩ := hv _ _ _ hsr
                obtain ⟨rfl, h2⟩ := hp _ _ _ hsr
                exact ⟨v, rfl, fun w' _ => h2 w'⟩
              · obtain ⟨t, x, hop, hx⟩ := lowLoad_run hk
                have hlx := hl x hx
                have hex : ∀ u, (execOp a.eval o).run P u = ((Instr.loadAt t (a.eval (.tmp x))).run P u).andThen fun v u' => .ok (.value v) u' := fun u => by
                  unfold execOp; simp only [hop, Sem.run_bind, Sem.run_pure]
                rw [hex] at hsr
                cases hq : (Instr.loadAt t (a.eval (.tmp x))).run P w with
                | ok v w2 =>
                  have hsame := rds_loadAt (P := P) t (a.eval (.tmp x)) _ _ _ hq
                  subst hsame
                  rw [hq] at hsr
                  simp only [Result.andThen_ok] at hsr
                  cases hsr
                  exact ⟨v, rfl, fun w' hw' => by rw [hex, loadAt_low hlx hS hw' t hq]; rfl⟩
                | halt y w2 => rw [hq] at hsr; simp [Result.andThen] at hsr
            | halt y w1 =>
              rw [hsr] at h
              cases y <;> simp only [Oper.upon, Strict] at h <;> first | exact absurd h.1 (by intro e; cases e) | exact h.elim
          obtain ⟨v, h1, h2⟩ := hrun
          rw [h1, Oper.upon_value] at h
          exact ⟨v, h (hlow v) hS, .inl ⟨hw, h2⟩⟩
        · exact absurd h Strict.noOut
      · rw [Bool.not_eq_true] at hw
        simp only [hw, Bool.false_eq_true, if_false] at h
        exact ⟨undef, h (hlow _) hS, .inr ⟨hw, rfl⟩⟩
    obtain ⟨v, hK, hy⟩ := key
    exact take_gen hs hi hr hf hWi hwait hy hS hK

theorem forceW_step {i fuel : Nat} {listed : Array Bool} {a : Act} {w : World} (hb : forceW md ops listed i = true)
    (h : wpOp P ops (Strict Q) i (fun a' w' => (Wl.contains i = false → Below B w0 w') ∧ wpAnyW P md ops (Strict Q) (Below B w0) (Wl.contains ·) fuel (listed.setIfInBounds i true) a' w') a w) :
    wpAnyW P md ops (Strict Q) (Below B w0) (Wl.contains ·) (fuel + 1) listed a w := by
  unfold forceW at hb
  simp only [Bool.and_eq_true, beq_iff_eq] at hb
  refine ⟨fun h0 => absurd (hb.1.symm.trans h0) (by simp), ?_⟩
  rw [hb.1]
  intro j hj
  have : j = i := by simpa using hj
  subst this; exact h

theorem wpList_one {o : Oper} {rest : List Nat} {i : Nat} (hi : ops[i]? = some o) {a : Act} {w : World} (h : wpList P ops Q ((i :: rest).filterMap fun i => ops[i]?) a w) :
    wpOp P ops Q i (fun a' w' => wpList P ops Q (rest.filterMap fun i => ops[i]?) a' w') a w := by
  rw [List.filterMap_cons_some hi] at h
  unfold wpOp
  simp only [hi]
  unfold wpList at h
  split at h
  · rename_i hw; simp only [hw, if_true]; exact h
  · rename_i hw; simp only [hw]; exact h

theorem lows_put (hd : ∀ x ∈ lows, ∀ (j : Nat) (o : Oper), ops[j]? = some o → o.dst ≠ some x) {i : Nat} {K : Act → World → Prop} {a : Act} {w : World} (hl : Lows lows B w0 a) (h : wpOp P ops Q i K a w) :
    wpOp P ops Q i (fun a' w' => Lows lows B w0 a' ∧ K a' w') a w := by
  have key : ∀ l : List Tmp, (∀ x ∈ l, x ∈ lows) → wpOp P ops Q i (fun a' w' => (∀ x ∈ l, a'.eval (.tmp x) = a.eval (.tmp x)) ∧ K a' w') a w := by
    intro l
    induction l with
    | nil => intro _; exact wpOp_mono (fun a' w' h' => ⟨fun x hx => (by cases hx), h'⟩) h
    | cons y l ih =>
      intro hsub
      refine wpOp_mono (fun a' w' h' => ?_) (wpOp_keeps (x := y) (hd y (hsub y (by simp))) (ih fun x hx => hsub x (by simp [hx])))
      obtain ⟨h1, h2, h3⟩ := h'
      refine ⟨fun x hx => ?_, h3⟩
      rcases List.mem_cons.1 hx with rfl | hx
      · exact h1
      · exact h2 x hx
  refine wpOp_mono (fun a' w' h' => ⟨fun x hx => ?_, h'.2⟩) (key lows fun _ h => h)
  rw [h'.1 x hx]; exact hl x hx

theorem has_op {i : Nat} {listed : Array Bool} (hc : takeW md ops listed Wl lows i = true) : ∃ o, ops[i]? = some o := by
  unfold takeW at hc
  cases hq : ops[i]? with
  | none => rw [hq] at hc; cases hc
  | some o => exact ⟨o, rfl⟩
theorem has_op' {i : Nat} {listed : Array Bool} (hc : forceW md ops listed i = true) : ∃ o, ops[i]? = some o := by
  unfold forceW at hc
  rw [Bool.and_eq_true] at hc
  exact Option.isSome_iff_exists.1 hc.2

theorem takes_step (hs : Region.noSelect ops = true) (hd : ∀ x ∈ lows, ∀ (j : Nat) (o : Oper), ops[j]? = some o → o.dst ≠ some x) (more : List Nat) (fuel : Nat) (Q' : Exit → Act → World → Prop) :
    ∀ (ts : List Nat) (listed l2 : Array Bool) (a : Act) (w : World), takesB md ops Wl lows ts listed = some l2 →
      (∀ a' w', Lows lows B w0 a' → Below B w0 w' → wpList P ops (Strict Q') (more.filterMap fun i => ops[i]?) a' w' → wpAnyW P md ops (Strict Q) (Below B w0) (Wl.contains ·) fuel l2 a' w') →
      Lows lows B w0 a → Below B w0 w → wpList P ops (Strict Q') ((ts ++ more).filterMap fun i => ops[i]?) a w →
      wpAnyW P md ops (Strict Q) (Below B w0) (Wl.contains ·) (ts.length + fuel) listed a w := by
  intro ts
  induction ts with
  | nil =>
    intro listed l2 a w hb hn hl hS h
    simp only [takesB, Option.some.injEq] at hb
    subst hb
    rw [List.length_nil, Nat.zero_add]
    exact hn a w hl hS h
  | cons i rest ih =>
    intro listed l2 a w hb hn hl hS h
    unfold takesB at hb
    split at hb
    · rename_i hc
      have hlen : (i :: rest).length + fuel = (rest.length + fuel) + 1 := by simp only [List.length_cons]; omega
      rw [hlen]
      obtain ⟨o, ho⟩ := has_op hc
      refine takeW_step hs hc hl hS (wpOp_mono (fun a' w' h' h1 h2 => ?_) (wpOp_strict (wpList_one ho h))) hd
      exact ih _ l2 a' w' hb hn h1 h2 h'
    · cases hb

theorem tail_step : ∀ (ts : List Nat) (listed : Array Bool) (a : Act) (w : World), tailB md ops Wl ts listed = true → wpList P ops (Strict Q) (ts.filterMap fun i => ops[i]?) a w →
    wpAnyW P md ops (Strict Q) (Below B w0) (Wl.contains ·) ts.length listed a w
  | [], listed, a, w, hb, h => ⟨by simpa [tailB] using hb, h⟩
  | i :: rest, listed, a, w, hb, h => by
    simp only [tailB, Bool.and_eq_true] at hb
    obtain ⟨o, ho⟩ := has_op' hb.1.1
    refine forceW_step hb.1.1 (wpOp_mono (fun a' w' h' => ?_) (wpList_one ho h))
    exact ⟨fun e => (by rw [hb.1.2] at e; cases e), tail_step rest _ a' w' hb.2 h'⟩

/-- the check of the whole region -/
def wholeB (ops : Array Oper) (W : List Nat) (lows : List Tmp) (ps : List (List Nat × Nat × Bool)) (takes tail : List Nat) : Bool :=
  lenOf ps (takes.length + tail.length) == ops.size && Region.noSelect ops && (lows.all fun x => ops.all fun o => o.dst != some x) && partsB .any ops W lows ps takes tail (Array.replicate ops.size false)

end
end Go.Proofs.YtiofonffmplfmaaGreat

namespace Go.Proofs.YtiofonffmplfmaaGreat
open Go Go.RowKit

section
variable {P : Program} {ops : Array Oper} {Q : Exit → Act → World → Prop} {md : Region.Mode} {B : Nat} {w0 : World} {lows : List Tmp} {Wl : List Nat} {S : World → Prop}

/-- the walk, parted -/
def wpPartsI (P : Program) (ops : Array Oper) (Q : Exit → Act → World → Prop) (S : World → Prop) : List (List Nat × Nat × Bool) → List Nat → Act → World → Prop
  | [], final, a, w => wpList P ops (Strict Q) (final.filterMap fun i => ops[i]?) a w
  | (ts, i, false) :: rest, final, a, w => wpList P ops (Strict fun _ a' w' => S w' ∧ wpPartsI P ops Q S rest final a' w') ((ts ++ [i]).filterMap fun i => ops[i]?) a w
  | (ts, i, true) :: rest, final, a, w => wpList P ops (Strict fun _ a' w' => ∃ o v, ops[i]? = some o ∧ YieldsIf P ops S o v a' ∧ wpPartsI P ops Q S rest final (a'.put o.dst v) w') ((ts ++ []).filterMap fun i => ops[i]?) a w

theorem partsI_step (hs : Region.noSelect ops = true) (hd : ∀ x ∈ lows, ∀ (j : Nat) (o : Oper), ops[j]? = some o → o.dst ≠ some x) (takes tail : List Nat) :
    ∀ (ps : List (List Nat × Nat × Bool)) (listed : Array Bool) (a : Act) (w : World), partsB md ops Wl lows ps takes tail listed = true → Lows lows B w0 a → Below B w0 w →
      wpPartsI P ops Q (Below B w0) ps (takes ++ tail) a w → wpAnyW P md ops (Strict Q) (Below B w0) (Wl.contains ·) (lenOf ps (takes.length + tail.length)) listed a w
  | [], listed, a, w, hb, hl, hS, h => by
    unfold partsB at hb
    split at hb
    · rename_i l2 hl2
      exact takes_step hs hd tail tail.length Q takes listed l2 a w hl2 (fun a' w' _ _ h' => tail_step tail l2 a' w' hb h') hl hS h
    · cases hb
  | (ts, i, false) :: rest, listed, a, w, hb, hl, hS, h => by
    unfold partsB at hb
    split at hb
    · rename_i l2 hl2
      simp only [Bool.and_eq_true, Bool.not_eq_true', Bool.false_eq_true, if_false] at hb
      refine takes_step hs hd [i] _ _ ts listed l2 a w hl2 (fun a' w' hl' _ h' => ?_) hl hS h
      obtain ⟨o, ho⟩ := has_op' hb.1.1
      rw [Nat.add_comm 1]
      refine forceW_step hb.1.1 (wpOp_mono (fun a2 w2 h2 => ?_) (lows_put hd hl' (wpOp_strict (wpList_one ho h'))))
      have h3 := h2.2.2
      exact ⟨fun _ => h3.1, partsI_step hs hd takes tail rest _ a2 w2 hb.2 h2.1 h3.1 h3.2⟩
    · cases hb
  | (ts, i, true) :: rest, listed, a, w, hb, hl, hS, h => by
    unfold partsB at hb
    split at hb
    · rename_i l2 hl2
      simp only [Bool.and_eq_true, if_true] at hb
      refine takes_step hs hd [] _ _ ts listed l2 a w hl2 (fun a' w' hl' hS' h' => ?_) hl hS h
      obtain ⟨-, o, v, ho, hy, hn⟩ := h'
      have hc := hb.1
      unfold yieldW at hc
      rw [ho] at hc
      simp only [Bool.and_eq_true, Bool.not_eq_true'] at hc
      rw [Nat.add_comm 1]
      refine take_gen hs ho hc.1.1.1 hc.1.1.2 hc.1.2 hc.2 hy hS' (partsI_step hs hd takes tail rest _ _ w' hb.2 (fun x hx => ?_) hS' hn)
      rw [Act.eval_put (fun d hd' => by intro e; cases e; exact hd x hx i o ho hd')]
      exact hl' x hx
    · cases hb

/-- THE LAW. -/
theorem wp_region_partsI {id : Nat} {a : Act} {w : World} (lows : List Tmp) (ps : List (List Nat × Nat × Bool)) (takes tail : List Nat) (B : Nat) (hm : P.follows .mixedOrders = true) (hB : wholeB ops tail lows ps takes tail = true)
    (hl : Lows lows B w a) (h : wpPartsI P ops Q (Below B w) ps (takes ++ tail) a w.drew) : (Code.region id ops true).wp P Q a w := by
  unfold wholeB at hB
  simp only [Bool.and_eq_true, beq_iff_eq] at hB
  have hd : ∀ x ∈ lows, ∀ (j : Nat) (o : Oper), ops[j]? = some o → o.dst ≠ some x := fun x hx j o ho => by
    have h1 := List.all_eq_true.1 hB.1.2 x hx
    have h2 := Array.all_eq_true_iff_forall_mem.1 h1 o (Array.mem_of_getElem? ho)
    simpa using h2
  refine Code.wp_mono Strict.imp (wp_region_any hm ?_)
  rw [← hB.1.1.1]
  exact wpAny_of_W _ _ _ _ (partsI_step hB.1.1.2 hd takes tail ps _ a _ (by rw [hB.1.1.1]; exact hB.2) hl (Below.refl B w).drew h)
theorem partsI_force {ts final : List Nat} {i : Nat} {rest : List (List Nat × Nat × Bool)} {a : Act} {w : World}
    (h : wpList P ops (Strict fun _ a' w' => S w' ∧ wpPartsI P ops Q S rest final a' w') ((ts ++ [i]).filterMap fun i => ops[i]?) a w) : wpPartsI P ops Q S ((ts, i, false) :: rest) final a w := h
theorem partsI_yield {ts final : List Nat} {i : Nat} {rest : List (List Nat × Nat × Bool)} {a : Act} {w : World}
    (h : wpList P ops (Strict fun _ a' w' => ∃ o v, ops[i]? = some o ∧ YieldsIf P ops S o v a' ∧ wpPartsI P ops Q S rest final (a'.put o.dst v) w') ((ts ++ []).filterMap fun i => ops[i]?) a w) : wpPartsI P ops Q S ((ts, i, true) :: rest) final a w := h
theorem partsI_last {final : List Nat} {a : Act} {w : World} (h : wpList P ops (Strict Q) (final.filterMap fun i => ops[i]?) a w) : wpPartsI P ops Q S [] final a w := h
end
end Go.Proofs.YtiofonffmplfmaaGreat
