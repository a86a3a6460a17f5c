/- The bytes of a file, read, by what its leaves are. -/
import Derived.Test.YtcmihdjbeihjbaaGreatHOrders
import Derived.Below
import Derived.Handy
import Derived.OpenShut
import Derived.Deep.MidRow
import Derived.ArgAppend
import Derived.Great.BuildSlice
import Derived.OwnWalk
import Derived.Maps.AppendAt

namespace Go.Proofs.YtcmihdjbeihjbaaGreat
open Go Go.RowKit

section
variable {P : Program} {ops : Array Oper} {Q : Exit → Act → World → Prop} {md : Region.Mode} {S : World → Prop} {W : Nat → Bool}

/-- whatever order is picked, and S holds behind every operation outside W -/
def wpAnyW (P : Program) (md : Region.Mode) (ops : Array Oper) (Q : Exit → Act → World → Prop) (S : World → Prop) (W : Nat → Bool) : Nat → Array Bool → Act → World → Prop
  | 0, listed, a, w => Region.ready md ops listed = [] ∧ Q .normal a w
  | fuel + 1, listed, a, w =>
    (Region.ready md ops listed = [] → Q .normal a w) ∧
    ∀ i ∈ Region.ready md ops listed, wpOp P ops Q i (fun a' w' => (W i = false → S w') ∧ wpAnyW P md ops Q S W fuel (listed.setIfInBounds i true) a' w') a w

theorem wpAny_of_W : ∀ (fuel : Nat) (listed : Array Bool) (a : Act) (w : World), wpAnyW P md ops Q S W fuel listed a w → wpAny P md ops Q fuel listed a w
  | 0, _, _, _, h => h
  | fuel + 1, _, _, _, h => ⟨h.1, fun i hi => wpOp_mono (fun a' w' h' => wpAny_of_W fuel _ a' w' h'.2) (h.2 i hi)⟩

theorem wpAnyW_take {i : Nat} {oi : Oper} {v : Value} (hi : ops[i]? = some oi) (hsel : ∀ (j : Nat) (o : Oper) cs b, ops[j]? = some o → o.op ≠ .select cs b) (wt : Nat → Bool)
    (hQ : ∀ c a w, Q (.panic c) (a.put oi.dst v) w → Q (.panic c) a w)
    (hB : ∀ j oj, ops[j]? = some oj → wt j = true → j ≠ i → ∃ e ∈ oj.after, Region.binds md e = true ∧ wt e.on = true) (hW : ∀ j oj, ops[j]? = some oj → W j = true → wt j = true) (hWi : W i = false) :
    ∀ (fuel : Nat) (listed : Array Bool) (a : Act) (w : World),
      (∀ j oj, ops[j]? = some oj → j ≠ i → listed.getD j true = false → (∀ e ∈ oj.after, Region.binds md e = true → e.on ≠ i) → oi.apart ops oj = true) →
      (∀ j, wt j = true → listed.getD j true = false) →
      i ∈ Region.ready md ops listed → YieldsIf P ops S oi v a → S w →
      wpAnyW P md ops Q S W fuel (listed.setIfInBounds i true) (a.put oi.dst v) w → wpAnyW P md ops Q S W (fuel + 1) listed a w := by
  intro fuel
  induction fuel with
  | zero =>
    intro listed a w _ _ hr hy hS H
    refine ⟨fun h => (by rw [h] at hr; cases hr), fun j hj => ?_⟩
    by_cases hji : j = i
    · subst hji; exact hy.wpOp hi hS ⟨fun _ => hS, H⟩
    · have := ready_mono hj hji
      rw [H.1] at this
      cases this
  | succ fuel ih =>
    intro listed a w hfree hC hr hy hS H
    refine ⟨fun h => (by rw [h] at hr; cases hr), fun j hj => ?_⟩
    by_cases hji : j = i
    · subst hji; exact hy.wpOp hi hS ⟨fun _ => hS, H⟩
    · have h1 := H.2 j (ready_mono hj hji)
      obtain ⟨hjun, oj, hoj, hall⟩ := mem_ready.1 hj
      have hpend : ∀ k, listed.getD k true = false → listed.getD k false = true → False := fun k h0 h1 => by
        rcases Nat.lt_or_ge k listed.size with h' | h'
        · simp [h'] at h0 h1; rw [h0] at h1; cases h1
        · simp [Array.getElem?_eq_none h'] at h1
      have hnot : ∀ e ∈ oj.after, Region.binds md e = true → e.on ≠ i := fun e he hb heq => by
        have h1 := hall e he hb
        rw [heq] at h1
        exact hpend i (mem_ready.1 hr).1 h1
      have hwt : wt j = false := by
        cases hq : wt j with
        | false => rfl
        | true =>
          obtain ⟨e, he, hb, hw⟩ := hB j oj hoj hq hji
          exact (hpend e.on (hC _ hw) (hall e he hb)).elim
      have hWj : W j = false := by
        cases hq : W j with
        | false => rfl
        | true => rw [hW j oj hoj hq] at hwt; cases hwt
      have h2 := wpOp_putIf hoj (hfree j oj hoj hji hjun hnot) (fun cs b => hsel i oi cs b hi) (fun cs b => hsel j oj cs b hoj) hQ hy h1
      refine wpOp_mono (fun a' w' h4 => ?_) h2
      obtain ⟨hy', hS', hK⟩ := h4
      refine ⟨hS', ih (listed.setIfInBounds j true) a' w' (fun k ok hk hki hu hno => hfree k ok hk hki ?_ hno) (fun k hk => ?_) (ready_mono hr (Ne.symm hji)) hy' (hS' hWj) ?_⟩
      · by_cases hjk : j = k
        · subst hjk; exact hjun
        · rw [getD_set_ne true hjk] at hu; exact hu
      · rw [getD_set_ne true (fun e => by subst e; rw [hwt] at hk; cases hk)]; exact hC k hk
      · rw [Array.setIfInBounds_comm _ _ hji]
        exact hK

theorem wpOp_strict {Q' : Exit → Act → World → Prop} {i : Nat} {K : Act → World → Prop} {a : Act} {w : World} (h : wpOp P ops (Strict Q) i K a w) : wpOp P ops (Strict Q') i K a w := by
  unfold wpOp at *
  split
  · rename_i hn; simp only [hn] at h; exact h
  · rename_i o ho
    simp only [ho] at h
    split
    · rename_i hw
      simp only [hw, if_true] at h
      rcases h with h | ⟨_, h⟩
      · refine .inl ?_
        unfold Oper.wp at *
        generalize (execOp a.eval o).run P w = r at *
        cases r with
        | ok n w' =>
          cases n <;> simp only [Oper.upon] at h ⊢ <;> first
            | exact h
            | exact Calls.mono h (fun e w'' he => by
                cases e with
                | returned v => exact he
                | panicked c => exact absurd he.1 (by intro e; cases e)
                | outgrown => exact absurd he Strict.noOut)
        | halt x w' => cases x <;> simp only [Oper.upon, Strict] at h ⊢ <;> first | exact h.elim | exact absurd h.1 (by intro e; cases e)
      · exact absurd h Strict.noOut
    · rename_i hw; simp only [hw] at h; exact h

/-- old memory: a row of cells below B -/
def Low (B : Nat) (w0 : World) (v : Value) : Prop := ∃ p cs t fr, v = .pointer (some p) ∧ p.block < B ∧ w0.heap[p.block]? = some (.cells cs t fr)

theorem load_low {B : Nat} {w0 w w' : World} {p : Addr} (hp : p.block < B) (hc : ∃ cs t fr, w0.heap[p.block]? = some (.cells cs t fr)) (hw : Below B w0 w) (hw' : Below B w0 w') {v : Value} {w1 : World}
    (h : (load p).run P w = .ok v w1) : (load p).run P w' = .ok v w' := by
  have e1 := hw.cell (p := p) hp
  have e2 := hw'.cell (p := p) hp
  obtain ⟨cs, t, fr, hc⟩ := hc
  simp only [load, Sem.run] at h ⊢
  rw [e1] at h
  rw [e2]
  cases hq : w0.cell? p with
  | some u => rw [hq] at h; simp only at h ⊢; cases h; rfl
  | none =>
    rw [hq] at h
    simp only [World.farLoad, hw.block _ hp, hc] at h
    cases h
theorem cells_low {B : Nat} {w0 w w' : World} (p : Addr) (hp : p.block < B) (hc : ∃ cs t fr, w0.heap[p.block]? = some (.cells cs t fr)) (hw : Below B w0 w) (hw' : Below B w0 w') :
    ∀ (n i : Nat) (acc r : Array Value) (w1 : World), (loadCellsFrom p i n acc).run P w = .ok r w1 → (loadCellsFrom p i n acc).run P w' = .ok r w'
  | 0, i, acc, r, w1, h => by
    simp only [loadCellsFrom, Sem.run_pure] at h ⊢; cases h; rfl
  | n + 1, i, acc, r, w1, h => by
    have hb : (p.add i).block = p.block := by unfold Addr.add; split <;> rfl
    simp only [loadCellsFrom, Sem.run_bind] at h ⊢
    cases hs : (load (p.add i)).run P w with
    | ok v w2 =>
      have := rds_load (P := P) (p.add i) _ _ _ hs
      subst this
      rw [hs] at h
      rw [load_low (P := P) (by rw [hb]; exact hp) (by rw [hb]; exact hc) hw hw' hs]
      simp only [Result.andThen_ok] at h ⊢
      exact cells_low p hp hc hw hw' n (i + 1) _ r w1 h
    | halt y w2 => rw [hs] at h; simp [Result.andThen] at h
theorem loadAt_low {B : Nat} {w0 w w' : World} {x : Value} (hx : Low B w0 x) (hw : Below B w0 w) (hw' : Below B w0 w') (t : TypeId) {v : Value} {w1 : World}
    (h : (Instr.loadAt t x).run P w = .ok v w1) : (Instr.loadAt t x).run P w' = .ok v w' := by
  obtain ⟨p, cs, t', fr, rfl, hp, hc⟩ := hx
  have hc' : ∃ cs t fr, w0.heap[p.block]? = some (.cells cs t fr) := ⟨cs, t', fr, hc⟩
  simp only [Instr.loadAt, Instr.sureAddr, Sem.run_bind, Sem.run_pure, Result.andThen_ok, loadVar] at h ⊢
  have hag : Pur P (isAgg t) := by
    unfold isAgg
    refine (pur_underlying t).bind fun d => ?_
    split <;> exact pur_pure _
  cases hs : (isAgg t).run P w with
  | ok b w2 =>
    obtain ⟨rfl, h2⟩ := hag _ _ _ hs
    rw [hs] at h
    rw [h2 w']
    simp only [Result.andThen_ok] at h ⊢
    cases b with
    | true =>
      simp only [if_true, Sem.run_bind] at h ⊢
      cases hz : (sizeOf t).run P w2 with
      | ok n w3 =>
        obtain ⟨rfl, h3⟩ := pur_sizeOf t _ _ _ hz
        rw [hz] at h
        rw [h3 w']
        simp only [Result.andThen_ok] at h ⊢
        cases hl : (loadCells p n).run P w3 with
        | ok r w4 =>
          rw [hl] at h
          rw [show (loadCells p n).run P w' = .ok r w' from cells_low p hp hc' hw hw' n 0 #[] r w4 hl]
          simp only [Result.andThen_ok, Sem.run_pure] at h ⊢
          cases h; rfl
        | halt y w4 => rw [hl] at h; simp [Result.andThen] at h
      | halt y w3 => rw [hz] at h; simp [Result.andThen] at h
    | false =>
      simp only [Bool.false_eq_true, if_false] at h ⊢
      exact load_low hp hc' hw hw' h
  | halt y w2 => rw [hs] at h; simp [Result.andThen] at h

/-- more operations that yield in whatever world -/
def kindV (o : Oper) : Bool := kindW o || match o.op with
  | .assign _ => true
  | .pick .. => true
  | .unOp .not _ _ => true
  | _ => false
theorem kindV_run {o : Oper} (h : kindV o = true) (ρ : Operand → Value) : Pur P (execOp ρ o) ∧ ∀ w n w', (execOp ρ o).run P w = .ok n w' → ∃ v, n = .value v := by
  unfold kindV at h
  rw [Bool.or_eq_true] at h
  rcases h with h | h
  · exact kindW_run h ρ
  · split at h <;> rename_i hop
    · unfold execOp; simp only [hop]
      exact ⟨pur_pure _, fun w n w' e => by rw [Sem.run_pure] at e; cases e; exact ⟨_, rfl⟩⟩
    · unfold execOp; simp only [hop]
      refine ⟨Pur.bind ?_ fun b => pur_pure _, fun w n w' e => ?_⟩
      · unfold asBool; split
        · exact pur_pure _
        · exact pur_halt _
      · rw [Sem.run_bind] at e
        cases hs : (asBool (ρ _)).run P w with
        | ok x w1 => rw [hs] at e; simp only [Result.andThen_ok, Sem.run_pure] at e; cases e; exact ⟨_, rfl⟩
        | halt x w1 => rw [hs] at e; simp [Result.andThen] at e
    · unfold execOp; simp only [hop]
      refine ⟨Pur.bind ?_ fun b => pur_pure _, fun w n w' e => ?_⟩
      · unfold Op.unary
        split <;> first | exact pur_pure _ | exact pur_halt _ | (rename_i hq; cases hq)
      · rw [Sem.run_bind] at e
        cases hs : (Op.unary .not (ρ _)).run P w with
        | ok x w1 => rw [hs] at e; simp only [Result.andThen_ok, Sem.run_pure] at e; cases e; exact ⟨_, rfl⟩
        | halt x w1 => rw [hs] at e; simp [Result.andThen] at e
    · cases h
/-- a load through a slot of old memory -/
def lowLoad (ops : Array Oper) (lows : List Tmp) (o : Oper) : Bool := match o.op with
  | .load _ (.tmp x) => lows.contains x && ops.all fun o' => o'.dst != some x
  | _ => false
theorem lowLoad_run {o : Oper} {lows : List Tmp} (h : lowLoad ops lows o = true) : ∃ t x, o.op = .load t (.tmp x) ∧ x ∈ lows := by
  unfold lowLoad at h
  split at h
  · rename_i t x hop
    simp only [Bool.and_eq_true, List.contains_eq_mem, decide_eq_true_eq] at h
    exact ⟨t, x, hop, h.1⟩
  · cases h

/-- the check of one operation that is taken ahead -/
def waitW (md : Region.Mode) (ops : Array Oper) (listed : Array Bool) (i : Nat) (W : List Nat) (wt : Array Bool) : Bool :=
  (List.range ops.size).all fun j => match ops[j]? with
    | some o => if wt.getD j false then (j == i || o.after.any fun e => Region.binds md e && wt.getD e.on false && decide (e.on < ops.size)) && !listed.getD j true else !W.contains j
    | none => true
def yieldW (md : Region.Mode) (ops : Array Oper) (listed : Array Bool) (W : List Nat) (i : Nat) : Bool :=
  match ops[i]? with
  | some _ => (Region.ready md ops listed).contains i && Region.free md ops listed i && !W.contains i && waitW md ops listed i W (waitArr md ops listed i)
  | none => false
def takeW (md : Region.Mode) (ops : Array Oper) (listed : Array Bool) (W : List Nat) (lows : List Tmp) (i : Nat) : Bool :=
  match ops[i]? with
  | some o => (Region.ready md ops listed).contains i && Region.free md ops listed i && !W.contains i && (kindV o || lowLoad ops lows o) && waitW md ops listed i W (waitArr md ops listed i)
  | none => false
def forceW (md : Region.Mode) (ops : Array Oper) (listed : Array Bool) (i : Nat) : Bool := Region.ready md ops listed == [i] && (ops[i]?).isSome
/-- operations that are taken ahead, one behind the other -/
def takesB (md : Region.Mode) (ops : Array Oper) (W : List Nat) (lows : List Tmp) : List Nat → Array Bool → Option (Array Bool)
  | [], listed => some listed
  | i :: rest, listed => if takeW md ops listed W lows i then takesB md ops W lows rest (listed.setIfInBounds i true) else none
/-- operations of the tail, one behind the other -/
def tailB (md : Region.Mode) (ops : Array Oper) (W : List Nat) : List Nat → Array Bool → Bool
  | [], listed => (Region.ready md ops listed).isEmpty
  | i :: rest, listed => forceW md ops listed i && W.contains i && tailB md ops W rest (listed.setIfInBounds i true)
/-- the parts: those that are taken ahead, and one that is forced, or one of which it is shown that it yields its value in whatever world -/
def partsB (md : Region.Mode) (ops : Array Oper) (W : List Nat) (lows : List Tmp) : List (List Nat × Nat × Bool) → List Nat → List Nat → Array Bool → Bool
  | [], takes, tail, listed => match takesB md ops W lows takes listed with
    | some l => tailB md ops W tail l
    | none => false
  | p :: rest, takes, tail, listed => match takesB md ops W lows p.1 listed with
    | some l => (if p.2.2 then yieldW md ops l W p.2.1 else forceW md ops l p.2.1 && !W.contains p.2.1) && partsB md ops W lows rest takes tail (l.setIfInBounds p.2.1 true)
    | none => false

def lenOf : List (List Nat × Nat × Bool) → Nat → Nat
  | [], n => n
  | p :: rest, n => p.1.length + (1 + lenOf rest n)

variable {B : Nat} {w0 : World} {lows : List Tmp} {Wl : List Nat}

/-- the slots of old memory -/
def Lows (lows : List Tmp) (B : Nat) (w0 : World) (a : Act) : Prop := ∀ x ∈ lows, Low B w0 (a.eval (.tmp x))

theorem take_gen {i fuel : Nat} {o : Oper} {v : Value} {listed : Array Bool} {a : Act} {w : World} (hs : Region.noSelect ops = true) (hi : ops[i]? = some o) (hr : (Region.ready md ops listed).contains i = true)
    (hf : Region.free md ops listed i = true) (hWi : Wl.contains i = false) (hwait : waitW md ops listed i Wl (waitArr md ops listed i) = true) (hy : YieldsIf P ops (Below B w0) o v a) (hS : Below B w0 w)
    (hK : wpAnyW P md ops (Strict Q) (Below B w0) (Wl.contains ·) fuel (listed.setIfInBounds i true) (a.put o.dst v) w) :
    wpAnyW P md ops (Strict Q) (Below B w0) (Wl.contains ·) (fuel + 1) listed a w := by
  generalize hwt : waitArr md ops listed i = arr at hwait
  unfold waitW at hwait
  rw [List.all_eq_true] at hwait
  have hall : ∀ j oj, ops[j]? = some oj → (if arr.getD j false then (j == i || oj.after.any fun e => Region.binds md e && arr.getD e.on false && decide (e.on < ops.size)) && !listed.getD j true else !Wl.contains j) = true := fun j oj hj => by
    have h1 := hwait j (List.mem_range.2 (Array.getElem?_eq_some_iff.1 hj).1)
    rw [hj] at h1; exact h1
  have hin : ∀ j, decide (j < ops.size) = true → ∃ oj, ops[j]? = some oj := fun j hj => ⟨_, Array.getElem?_eq_getElem (of_decide_eq_true hj)⟩
  refine wpAnyW_take hi (Region.noSelect_spec hs) (fun j => arr.getD j false && decide (j < ops.size)) (v := v) (strict_frame _ _) ?_ ?_ hWi fuel listed a w (Region.free_spec hi hf) ?_ (by simpa using hr) hy hS hK
  · intro j oj hj hw hne
    simp only [Bool.and_eq_true] at hw
    have h1 := hall j oj hj
    rw [if_pos hw.1] at h1
    simp only [Bool.and_eq_true, Bool.or_eq_true, beq_iff_eq, hne, false_or] at h1
    obtain ⟨e, he, hb⟩ := Array.any_eq_true'.1 h1.1
    simp only [Bool.and_eq_true] at hb
    exact ⟨e, he, hb.1.1, by simp only [Bool.and_eq_true]; exact ⟨hb.1.2, hb.2⟩⟩
  · intro j oj hj hw
    have hlt : decide (j < ops.size) = true := decide_eq_true (Array.getElem?_eq_some_iff.1 hj).1
    have h1 := hall j oj hj
    cases hq : arr.getD j false with
    | true => rw [hlt]; rfl
    | false => rw [if_neg (by rw [hq]; decide), hw] at h1; cases h1
  · intro j hw
    simp only [Bool.and_eq_true] at hw
    obtain ⟨oj, hj⟩ := hin j hw.2
    have h1 := hall j oj hj
    rw [if_pos hw.1] at h1
    simp only [Bool.and_eq_true, Bool.not_eq_true'] at h1
    exact h1.2

theorem takeW_step {i fuel : Nat} {listed : Array Bool} {a : Act} {w : World} (hs : Region.noSelect ops = true) (hb : takeW md ops listed Wl lows i = true) (hl : Lows lows B w0 a) (hS : Below B w0 w)
    (h : wpOp P ops (Strict Q) i (fun a' w' => Lows lows B w0 a' → Below B w0 w' → wpAnyW P md ops (Strict Q) (Below B w0) (Wl.contains ·) fuel (listed.setIfInBounds i true) a' w') a w)
    (hd : ∀ x ∈ lows, ∀ (j : Nat) (o : Oper), ops[j]? = some o → o.dst ≠ some x) :
    wpAnyW P md ops (Strict Q) (Below B w0) (Wl.contains ·) (fuel + 1) listed a w := by
  unfold takeW at hb
  cases hi : ops[i]? with
  | none => rw [hi] at hb; cases hb
  | some o =>
    rw [hi] at hb
    simp only [Bool.and_eq_true, Bool.or_eq_true, Bool.not_eq_true'] at hb
    obtain ⟨⟨⟨⟨hr, hf⟩, hWi⟩, hk⟩, hwait⟩ := hb
    have hlow : ∀ v, Lows lows B w0 (a.put o.dst v) := fun v x hx => by
      rw [Act.eval_put (fun d hd' => by intro e; cases e; exact hd x hx i o hi hd')]
      exact hl x hx
    have key : ∃ v, wpAnyW P md ops (Strict Q) (Below B w0) (Wl.contains ·) fuel (listed.setIfInBounds i true) (a.put o.dst v) w ∧ YieldsIf P ops (Below B w0) o v a := by
      unfold wpOp at h
      simp only [hi] at h
      by_cases hw : Region.wanted o (yielded ops a.tmps) = true
      · simp only [hw, if_true] at h
        rcases h with h | ⟨_, h⟩
        · unfold Oper.wp at h
          have hrun : ∃ v, (execOp a.eval o).run P w = .ok (.value v) w ∧ ∀ w', Below B w0 w' → (execOp a.eval o).run P w' = .ok (.value v) w' := by
            cases hsr : (execOp a.eval o).run P w with
            | ok n w1 =>
              rcases hk with hk | hk
              · obtain ⟨hp, hv⟩ := kindV_run (P := P) hk a.eval
                obtain ⟨v, rfl⟩ := hv _ _ _ hsr
                obtain ⟨rfl, h2⟩ := hp _ _ _ hsr
                exact ⟨v, rfl, fun w' _ => h2 w'⟩
              · obtain ⟨t, x, hop, hx⟩ := lowLoad_run hk
                have hlx := hl x hx
                have hex : ∀ u, (execOp a.eval o).run P u = ((Instr.loadAt t (a.eval (.tmp x))).run P u).andThen fun v u' => .ok (.value v) u' := fun u => by
                  unfold execOp; simp only [hop, Sem.run_bind, Sem.run_pure]
                rw [hex] at hsr
                cases hq : (Instr.loadAt t (a.eval (.tmp x))).run P w with
                | ok v w2 =>
                  have hsame := rds_loadAt (P := P) t (a.eval (.tmp x)) _ _ _ hq
                  subst hsame
                  rw [hq] at hsr
                  simp only [Result.andThen_ok] at hsr
                  cases hsr
                  exact ⟨v, rfl, fun w' hw' => by rw [hex, loadAt_low hlx hS hw' t hq]; rfl⟩
                | halt y w2 => rw [hq] at hsr; simp [Result.andThen] at hsr
            | halt y w1 =>
              rw [hsr] at h
              cases y <;> simp only [Oper.upon, Strict] at h <;> first | exact absurd h.1 (by intro e; cases e) | exact h.elim
          obtain ⟨v, h1, h2⟩ := hrun
          rw [h1, Oper.upon_value] at h
          exact ⟨v, h (hlow v) hS, .inl ⟨hw, h2⟩⟩
        · exact absurd h Strict.noOut
      · rw [Bool.not_eq_true] at hw
        simp only [hw, Bool.false_eq_true, if_false] at h
        exact ⟨undef, h (hlow _) hS, .inr ⟨hw, rfl⟩⟩
    obtain ⟨v, hK, hy⟩ := key
    exact take_gen hs hi hr hf hWi hwait hy hS hK

theorem wpList_one {o : Oper} {rest : List Nat} {i : Nat} (hi : ops[i]? = some o) {a : Act} {w : World} (h : wpList P ops Q ((i :: rest).filterMap fun i => ops[i]?) a w) :
    wpOp P ops Q i (fun a' w' => wpList P ops Q (rest.filterMap fun i => ops[i]?) a' w') a w := by
  rw [List.filterMap_cons_some hi] at h
  unfold wpOp
  simp only [hi]
  unfold wpList at h
  split at h
  · rename_i hw; simp only [hw, if_true]; exact h
  · rename_i hw; simp only [hw]; exact h

theorem has_op {i : Nat} {listed : Array Bool} (hc : takeW md ops listed Wl lows i = true) : ∃ o, ops[i]? = some o := by
  unfold takeW at hc
  cases hq : ops[i]? with
  | none => rw [hq] at hc; cases hc
  | some o => exact ⟨o, rfl⟩
theorem has_op' {i : Nat} {listed : Array Bool} (hc : forceW md ops listed i = true) : ∃ o, ops[i]? = some o := by
  unfold forceW at hc
  rw [Bool.and_eq_true] at hc
  exact Option.isSome_iff_exists.1 hc.2

theorem takes_step (hs : Region.noSelect ops = true) (hd : ∀ x ∈ lows, ∀ (j : Nat) (o : Oper), ops[j]? = some o → o.dst ≠ some x) (more : List Nat) (fuel : Nat) (Q' : Exit → Act → World → Prop) :
    ∀ (ts : List Nat) (listed l2 : Array Bool) (a : Act) (w : World), takesB md ops Wl lows ts listed = some l2 →
      (∀ a' w', Lows lows B w0 a' → Below B w0 w' → wpList P ops (Strict Q') (more.filterMap fun i => ops[i]?) a' w' → wpAnyW P md ops (Strict Q) (Below B w0) (Wl.contains ·) fuel l2 a' w') →
      Lows lows B w0 a → Below B w0 w → wpList P ops (Strict Q') ((ts ++ more).filterMap fun i => ops[i]?) a w →
      wpAnyW P md ops (Strict Q) (Below B w0) (Wl.contains ·) (ts.length + fuel) listed a w := by
  intro ts
  induction ts with
  | nil =>
    intro listed l2 a w hb hn hl hS h
    simp only [takesB, Option.some.injEq] at hb
    subst hb
    rw [List.length_nil, Nat.zero_add]
    exact hn a w hl hS h
  | cons i rest ih =>
    intro listed l2 a w hb hn hl hS h
    unfold takesB at hb
    split at hb
    · rename_i hc
      have hlen : (i :: rest).length + fuel = (rest.length + fuel) + 1 := by simp only [List.length_cons]; omega
      rw [hlen]
      obtain ⟨o, ho⟩ := has_op hc
      refine takeW_step hs hc hl hS (wpOp_mono (fun a' w' h' h1 h2 => ?_) (wpOp_strict (wpList_one ho h))) hd
      exact ih _ l2 a' w' hb hn h1 h2 h'
    · cases hb

/-- the check of the whole region -/
def wholeB (ops : Array Oper) (W : List Nat) (lows : List Tmp) (ps : List (List Nat × Nat × Bool)) (takes tail : List Nat) : Bool :=
  lenOf ps (takes.length + tail.length) == ops.size && Region.noSelect ops && (lows.all fun x => ops.all fun o => o.dst != some x) && partsB .any ops W lows ps takes tail (Array.replicate ops.size false)

end
end Go.Proofs.YtcmihdjbeihjbaaGreat

namespace Go.Proofs.YtcmihdjbeihjbaaGreat
open Go Go.RowKit

section
variable {P : Program} {ops : Array Oper} {Q : Exit → Act → World → Prop} {md : Region.Mode} {B : Nat} {w0 : World} {lows : List Tmp} {Wl : List Nat} {S : World → Prop}

/-- the walk, parted -/
def wpPartsI (P : Program) (ops : Array Oper) (Q : Exit → Act → World → Prop) (S : World → Prop) : List (List Nat × Nat × Bool) → List Nat → Act → World → Prop
  | [], final, a, w => wpList P ops (Strict Q) (final.filterMap fun i => ops[i]?) a w
  | (ts, i, false) :: rest, final, a, w => wpList P ops (Strict fun _ a' w' => S w' ∧ wpPartsI P ops Q S rest final a' w') ((ts ++ [i]).filterMap fun i => ops[i]?) a w
  | (ts, i, true) :: rest, final, a, w => wpList P ops (Strict fun _ a' w' => ∃ o v, ops[i]? = some o ∧ YieldsIf P ops S o v a' ∧ wpPartsI P ops Q S rest final (a'.put o.dst v) w') ((ts ++ []).filterMap fun i => ops[i]?) a w

theorem partsI_force {ts final : List Nat} {i : Nat} {rest : List (List Nat × Nat × Bool)} {a : Act} {w : World}
    (h : wpList P ops (Strict fun _ a' w' => S w' ∧ wpPartsI P ops Q S rest final a' w') ((ts ++ [i]).filterMap fun i => ops[i]?) a w) : wpPartsI P ops Q S ((ts, i, false) :: rest) final a w := h
theorem partsI_yield {ts final : List Nat} {i : Nat} {rest : List (List Nat × Nat × Bool)} {a : Act} {w : World}
    (h : wpList P ops (Strict fun _ a' w' => ∃ o v, ops[i]? = some o ∧ YieldsIf P ops S o v a' ∧ wpPartsI P ops Q S rest final (a'.put o.dst v) w') ((ts ++ []).filterMap fun i => ops[i]?) a w) : wpPartsI P ops Q S ((ts, i, true) :: rest) final a w := h
theorem partsI_last {final : List Nat} {a : Act} {w : World} (h : wpList P ops (Strict Q) (final.filterMap fun i => ops[i]?) a w) : wpPartsI P ops Q S [] final a w := h
end
end Go.Proofs.YtcmihdjbeihjbaaGreat

namespace Go.Proofs.YtcmihdjbeihjbaaGreat
open Go Go.RowKit
set_option linter.unusedVariables false

theorem kblk_range {w : World} {g t n : Nat} {f : Nat → Value} (h : Blk w g t (va n f)) : w.rangeAt g 0 ((List.range n).map f) := fun j v hv => by
  refine h.range 0 n (by omega) j v ?_
  rw [← hv]
  simp
theorem kyields_load {P : Program} {ops : Array Oper} {S : World → Prop} {op : Oper} {a : Act} (hw : Region.wanted op (yielded ops a.tmps) = true) (ty : TypeId) (x : Operand) (ho : op.op = .load ty x)
    (b n : Nat) (f : Nat → Value) (hx : a.eval x = .pointer (some ⟨b, 0, none⟩)) (d : TypeDesc) (t : Nat) (hS : ∀ w, S w → Blk w b t (va n f))
    (hu : P.underlying ty = some d) (hd : d.isRow = true) (hi : (P.info? ty).map (·.size) = some n) : YieldsIf P ops S op (.agg (va n f)) a :=
  yieldsIf_load_mid hw ty x ho b 0 hx _ d (fun w h => kblk_range (hS w h)) hu hd (hi.trans (by simp))
end Go.Proofs.YtcmihdjbeihjbaaGreat

namespace Go.Proofs.YtcmihdjbeihjbaaGreat
open Go Go.RowKit
set_option linter.unusedVariables false

/-- the slice at a of n blocks, told by L -/
def IsBlks (w : World) (a : Option Addr) (n : Nat) (L : Nat → Nat → Nat) : Prop :=
  ∀ i, i < n → ∃ b o, a = some ⟨b, o, none⟩ ∧ b < w.heap.size ∧ w.rangeAt b (o + i * 256) ((List.range 256).map (iv .u8 (L i)))
theorem range_below {w w' : World} {B b o : Nat} {cs : List Value} (h : w.rangeAt b o cs) (hb : Below B w w') (hB : b < B) : w'.rangeAt b o cs := fun j v hv => by
  rw [← h j v hv]
  simp [World.cell?, hb.block b hB]
theorem IsBlks.below {w w' : World} {a : Option Addr} {n : Nat} {L : Nat → Nat → Nat} (h : IsBlks w a n L) (hb : Below w.heap.size w w') : IsBlks w' a n L := fun i hi => by
  obtain ⟨b, o, e, h1, h2⟩ := h i hi
  exact ⟨b, o, e, Nat.lt_of_lt_of_le h1 hb.size, range_below h2 hb h1⟩
end Go.Proofs.YtcmihdjbeihjbaaGreat

namespace Go.Proofs.YtcmihdjbeihjbaaGreat
open Go Go.RowKit
set_option linter.unusedVariables false

theorem kown_mono {w : World} {B B' e size n : Nat} {v : Value} {xs : List Value} (h : w.ownsRow B e size v n xs) (hB : B' ≤ B) : w.ownsRow B' e size v n xs :=
  ⟨h.1, h.2.imp id fun ⟨g, cap, cur, a, b, r⟩ => ⟨g, cap, cur, a, Nat.le_trans hB b, r⟩⟩
theorem kown_form {w : World} {B e size n : Nat} {v : Value} {xs : List Value} (h : w.ownsRow B e size v n xs) (hn : 0 < n) : ∃ g cap, v = .slice (some ⟨g, 0, none⟩) n cap ∧ B ≤ g ∧ g < w.heap.size := by
  rcases h.2 with ⟨_, h0⟩ | ⟨g, cap, cur, rfl, hb, hg, _⟩
  · omega
  · exact ⟨g, cap, rfl, hb, (Array.getElem?_eq_some_iff.1 hg).1⟩
theorem kown_below {w w' : World} {B e size n : Nat} {v : Value} {xs : List Value} (h : w.ownsRow B e size v n xs) (hb : Below w.heap.size w w') : w'.ownsRow B e size v n xs := by
  refine ⟨h.1, ?_⟩
  rcases h.2 with hn | ⟨g, cap, cur, rfl, hg, hgg, rest⟩
  · exact .inl hn
  · exact .inr ⟨g, cap, cur, rfl, hg, (hb.block g (Array.getElem?_eq_some_iff.1 hgg).1).trans hgg, rest⟩
theorem kown_kept {w w' : World} {B e size n : Nat} {v : Value} {xs : List Value} (h : w.ownsRow B e size v n xs) (hk : ∀ k, B ≤ k → v.ownBlock = some k → w'.heap[k]? = w.heap[k]?) : w'.ownsRow B e size v n xs := by
  refine ⟨h.1, ?_⟩
  rcases h.2 with hn | ⟨g, cap, cur, rfl, hg, hgg, rest⟩
  · exact .inl hn
  · exact .inr ⟨g, cap, cur, rfl, hg, (hk g hg rfl).trans hgg, rest⟩
end Go.Proofs.YtcmihdjbeihjbaaGreat

namespace Go.Proofs.YtcmihdjbeihjbaaGreat
open Go.RowKit
set_option linter.unusedSimpArgs false
set_option linter.unusedVariables false

theorem fold_set : ∀ (l : List Value) (k : Nat) (A : Array Value), k + l.length ≤ A.size →
    ((l.zipIdx k).foldl (fun cs (x : Value × Nat) => cs.setIfInBounds (0 + x.2) x.1) A).size = A.size ∧
    ∀ i, ((l.zipIdx k).foldl (fun cs (x : Value × Nat) => cs.setIfInBounds (0 + x.2) x.1) A)[i]? = if k ≤ i ∧ i < k + l.length then l[i - k]? else A[i]?
  | [], k, A, h => ⟨rfl, fun i => by simp; omega⟩
  | v :: l, k, A, h => by
    rw [List.zipIdx_cons, List.foldl_cons]
    obtain ⟨h1, h2⟩ := fold_set l (k + 1) (A.setIfInBounds (0 + k) v) (by simp at h ⊢; omega)
    refine ⟨by rw [h1]; simp, fun i => ?_⟩
    rw [h2 i]
    simp at h
    by_cases hi : i = k
    · subst hi
      rw [if_neg (by omega), if_pos (by simp), Nat.zero_add, Array.getElem?_setIfInBounds, if_pos rfl, if_pos (by omega), Nat.sub_self]
      rfl
    · by_cases hj : k + 1 ≤ i ∧ i < k + 1 + l.length
      · rw [if_pos hj, if_pos (by simp; omega)]
        obtain ⟨d, hd⟩ : ∃ d, i - k = d + 1 := ⟨i - k - 1, by omega⟩
        rw [hd, List.getElem?_cons_succ, show i - (k + 1) = d by omega]
      · rw [if_neg hj, if_neg (by simp; omega), Array.getElem?_setIfInBounds, if_neg (by omega)]
theorem fill_one (n : Nat) (cells cs : Array Value) (h1 : cells.size = n) (h2 : cs.size = n) : Instr.fill (fun i => some (i * n, n)) cells [(0, .agg cs)] = some cs := by
  have hc : (Value.agg cs).cells = cs := rfl
  unfold Instr.fill
  simp only [hc, h2, h1, ne_eq, not_true_eq_false, decide_false, Bool.false_or, Nat.zero_mul, Nat.zero_add, Nat.lt_irrefl, decide_false, gt_iff_lt, if_false, Bool.false_eq_true]
  unfold Instr.fill
  congr 1
  obtain ⟨e1, e2⟩ := fold_set cs.toList 0 cells (by simp [h1, h2])
  apply Array.ext_getElem?
  intro i
  have := e2 i
  simp only [Nat.zero_add] at this e1
  have e3 : cs.zipIdx.foldl (fun cs (x : Value × Nat) => match x with | (c, j) => cs.setIfInBounds j c) cells = (cs.toList.zipIdx 0).foldl (fun cs (x : Value × Nat) => cs.setIfInBounds x.2 x.1) cells := by
    rw [← Array.foldl_toList]
    simp
  rw [e3, this]
  by_cases hi : i < cs.size
  · rw [if_pos (by simpa using hi)]
    simp
  · rw [if_neg (by simpa using hi), Array.getElem?_eq_none (by omega), Array.getElem?_eq_none (by omega)]
/-- a slice of one array -/
theorem wpList_build1 {P : Program} {ops : Array Oper} {rest : List Oper} {o : Oper} {a : Act} {w : World} {Q : Exit → Act → World → Prop} (hg : o.guard = none) (t e : TypeId) (x : Operand) (ho : o.op = .buildSlice t 1 #[(0, x)])
    (cs : Array Value) (hx : a.eval x = .agg cs) (ie : TypeInfo) (z : Value) (n : Nat)
    (hu : P.underlying t = some (.slice e)) (hie : P.info? e = some ie) (hz : ie.zero = some z) (hn : ie.size = n) (hcs : cs.size = n) (h0 : 0 < n) (h24 : n ≤ 16777216)
    (h : wpList P ops Q rest (a.put o.dst (.slice (some ⟨w.heap.size, 0, none⟩) 1 1)) (w.alloc (.cells cs e))) : wpList P ops Q (o :: rest) a w := by
  refine wpList_buildSlice hg t e 1 _ ho cs ie z hu hie hz (by rw [hn]; omega) (by rw [hn]; omega) ?_ h
  rw [hn]
  have e1 : (Array.map (fun (x : Nat × Operand) => match x with | (i, x) => (i, a.eval x)) #[(0, x)]).toList = [(0, Value.agg cs)] := by
    simp [hx]
  rw [e1]
  exact fill_one n _ _ (by simp) hcs
theorem infoBk : (Tryz.prog.info? 148).map (fun i => (i.zero, i.size, i.bytes)) = some (some (.agg (va 256 (iv .u8 fun _ => 0))), 256, 256) := by kernel_rfl

/-- a block of a slice, loaded -/
theorem wpList_load_blk {P : Program} {ops : Array Oper} {rest : List Oper} {op : Oper} {a : Act} {w : World} {Q : Exit → Act → World → Prop} (hgd : op.guard = none) (ty : TypeId) (x : Operand) (ho : op.op = .load ty x)
    (b o n : Nat) (f : Nat → Value) (hx : a.eval x = .pointer (some ⟨b, o, none⟩)) (d : TypeDesc) (hc : w.rangeAt b o ((List.range n).map f))
    (hu : P.underlying ty = some d) (hd : d.isRow = true) (hi : (P.info? ty).map (·.size) = some n)
    (h : wpList P ops Q rest (a.put op.dst (.agg (va n f))) w) : wpList P ops Q (op :: rest) a w :=
  wpList_load_mid hgd ty x ho b o hx _ d hc hu hd (hi.trans (by simp)) h
theorem cells_new (w : World) (cs : Array Value) (t : TypeId) : ∀ j u, cs.toList[j]? = some u → (w.alloc (.cells cs t)).cell? ((⟨w.heap.size, 0, none⟩ : Addr).add j) = some u := fun j u hu => by
  have hb : Blk (w.alloc (.cells cs t)) w.heap.size t cs := Blk.new w t cs
  rw [Addr.add_mid, Nat.zero_add, hb.cell]
  simpa using hu
theorem kva_mem_one (n : Nat) (f : Nat → Nat) : ∀ v ∈ (va n (iv .u8 f)).toList, v.oneCell' = true := fun v hv => by
  rw [va_toList] at hv
  obtain ⟨i, _, rfl⟩ := List.mem_map.1 hv
  rfl
end Go.Proofs.YtcmihdjbeihjbaaGreat

namespace Go.Proofs.YtcmihdjbeihjbaaGreat
open Go Go.RowKit Go.Shelf
set_option linter.unusedSimpArgs false
set_option linter.unusedVariables false
theorem bx_grow : Builder.Extra Tryz.prog Tryz.bGrowA_ren where
  sizeBuilder := by kernel_rfl
  liesBuilder := by kernel_rfl
  t5 := Tryz.underlying5
  a5 := Tryz.isAgg5
  z5 := Tryz.sizeOf5
  v5 := Tryz.zeroValue5
  infoByte := by kernel_rfl
  cellsByte := by kernel_rfl
  sizeByte := by kernel_rfl
  neB5 := by decide
theorem bx_string : Builder.Extra Tryz.prog Tryz.bStringA_ren where
  sizeBuilder := by kernel_rfl
  liesBuilder := by kernel_rfl
  t5 := Tryz.underlying5
  a5 := Tryz.isAgg5
  z5 := Tryz.sizeOf5
  v5 := Tryz.zeroValue5
  infoByte := by kernel_rfl
  cellsByte := by kernel_rfl
  sizeByte := by kernel_rfl
  neB5 := by decide
theorem fl_zero {t : TypeId} {v : Value} (h : (Tryz.prog.info? t).bind (·.zero) = some v) (w : World) : (zeroValue t).run Tryz.prog w = .ok v w := by
  cases hq : Tryz.prog.info? t with
  | none => simp [hq] at h
  | some i =>
    have hi : i.zero = some v := by simpa [hq] using h
    simp [zeroValue, typeInfo, hq, hi]
theorem zero_bld (w : World) : (zeroValue 144).run Tryz.prog w = .ok (.agg #[.pointer none, .slice none 0 0]) w := fl_zero (by kernel_rfl) w
theorem zero_info (w : World) : (zeroValue 62).run Tryz.prog w = .ok (.agg #[.int .i64 0, .int .i64 0, .int .i64 0, .int .i64 0, .int .u64 0]) w := fl_zero (by kernel_rfl) w
/-- a builder that was used, in a block of its own -/
def BuA (w : World) (B b : Nat) (bs : List Value) : Prop := Lib.BuilderAt 144 5 B b (.pointer (some ⟨b, 0, none⟩)) bs w
theorem bgrow_new (B b n : Nat) (w : World) (hB : B ≤ b) (hbk : Blk w b 144 #[.pointer none, .slice none 0 0]) (hBw : B ≤ w.heap.size) (hn : n ≤ 281474976710656) : Calls Tryz.prog 48 #[.pointer (some ⟨b, 0, none⟩), .int .i64 (n : Int)] w fun e w' => e = .returned (.tuple #[]) ∧ BuA w' B b [] ∧ Below B w w' :=
  Any.Builder_Grow_fresh Tryz.bGrowA bx_grow B b n w hB hbk hBw hn
theorem blen_any (B b : Nat) (bs : List Value) (w : World) (h : BuA w B b bs) : Calls Tryz.prog 49 #[.pointer (some ⟨b, 0, none⟩)] w fun e w' => e = .returned (.int .i64 (bs.length : Int)) ∧ w' = w :=
  Any.Builder_Len Tryz.bLenA B b bs w (.inr h)
theorem cells_strN (f : Nat → Nat) (m : Nat) (hf : ∀ j, j < m → f j < 256) : Lib.byteCells (strN f m).data.toList = byL f m := by
  unfold Lib.byteCells strN byL
  rw [strOfNums_data, List.map_map, List.map_map]
  refine List.map_congr_left fun j hj => ?_
  have := hf j (List.mem_range.1 hj)
  simp
  omega
theorem bstring_any (B b m : Nat) (f : Nat → Nat) (hf : ∀ j, j < m → f j < 256) (w : World) (h : BuA w B b (byL f m)) (hBw : B ≤ w.heap.size) : Calls Tryz.prog 52 #[.pointer (some ⟨b, 0, none⟩)] w fun e w' => e = .returned (.string (strN f m)) ∧ Below B w w' := by
  have := Any.Builder_String_any Tryz.bStringA bx_string B b (strN f m).data.toList w (.inr (by rw [cells_strN f m hf]; exact h)) hBw
  exact this
theorem bcheck_used (b : Nat) (w : World) (h0 : w.cell? ⟨b, 0, none⟩ = some (.pointer (some ⟨b, 0, none⟩))) : Calls Tryz.prog 63 #[.pointer (some ⟨b, 0, none⟩)] w fun e w' => e = .returned (.tuple #[]) ∧ w' = w :=
  Any.Builder_copyCheck_used { Tryz.bGrowA with } bx_grow.toX72 b w h0
theorem infoB8 : (Tryz.prog.info? 5).map (fun i => (i.zero, i.size, i.bytes)) = some (some (.int .u8 0), 1, 1) := by kernel_rfl
theorem BuA.keep {w w' : World} {B b : Nat} {bs : List Value} (h : BuA w B b bs) (hk : ∀ k, k < w.heap.size → B ≤ k → w'.heap[k]? = w.heap[k]?) : BuA w' B b bs := by
  obtain ⟨hB, v, hbk, hown, hne⟩ := h
  have hlt : b < w.heap.size := (Array.getElem?_eq_some_iff.1 hbk).1
  refine ⟨hB, v, (hk b hlt hB).trans hbk, ⟨hown.1, ?_⟩, hne⟩
  rcases hown.2 with h | ⟨g, cap, cur, h1, h2, h3, h4⟩
  · exact .inl h
  · exact .inr ⟨g, cap, cur, h1, h2, (hk g (Array.getElem?_eq_some_iff.1 h3).1 h2).trans h3, h4⟩
theorem BuA.below {w w' : World} {B b : Nat} {bs : List Value} (h : BuA w B b bs) (hb : Below w.heap.size w w') : BuA w' B b bs := h.keep fun k hk _ => hb.block k hk
set_option maxRecDepth 100000 in
set_option maxHeartbeats 2000000 in
/-- bytes of any block written behind a builder's own -/
theorem bwrite_any (B b : Nat) (bs : List Value) (g o m c : Nat) (news : List Value) (w : World) (h : BuA w B b bs) (hl : news.length = m) (hnews : ∀ j u, news[j]? = some u → w.cell? ((⟨g, o, none⟩ : Addr).add j) = some u) (h1 : ∀ u ∈ news, u.oneCell' = true) (hlen : bs.length + m ≤ 140737488355328) (hBw : B ≤ w.heap.size) : Calls Tryz.prog 51 #[.pointer (some ⟨b, 0, none⟩), .slice (some ⟨g, o, none⟩) m c] w fun e w' => e = .returned (.tuple #[.int .i64 (m : Int), .nilIface]) ∧ BuA w' B b (bs ++ news) ∧ Below B w w' := by
  obtain ⟨i0, hi, hz0, hz1, hz2⟩ := info_parts infoB8
  obtain ⟨hB, v, hbk, hown, hne⟩ := h
  have c0 : w.cell? ⟨b, 0, none⟩ = some (.pointer (some ⟨b, 0, none⟩)) := by rw [Lib.cell_of_heap hbk]; rfl
  have c1 : w.cell? ⟨b, 1, none⟩ = some v := by rw [Lib.cell_of_heap hbk]; rfl
  have HC := bcheck_used b w c0
  go_enter Tryz.func51, Tryz.ntmps51
  go_wp2_with fail
  refine HC.mono ?_
  rintro e w1 ⟨rfl, rfl⟩
  clear HC
  have HN : Hid (∀ j u, news[j]? = some u → w1.cell? ((⟨g, o, none⟩ : Addr).add j) = some u) := hnews
  have HL : Hid (news.length = m * 1) := by show _ = _; omega
  clear hnews
  go_wp2_with (first | (at_builtin; refine wpList_append_own _ rfl _ _ 142 rfl B 5 i0 (.int .u8 0) 1 1 Tryz.underlying142 hi hz0 hz1 hz2 rfl (by decide) _ _ _ rfl hown ⟨g, o, none⟩ m c news rfl HL.out HN.out h1 ?c3 ?c4 ?c5 ?_) | go_in)
  case c3 => unfold maxLen; omega
  case c4 => omega
  case c5 => exact hBw
  intro v' w2 hown' hgrow _
  have hlt : b < w1.heap.size := (Array.getElem?_eq_some_iff.1 hbk).1
  have hb2 : w2.heap[b]? = some (.cells #[.pointer (some ⟨b, 0, none⟩), v] 144 (0, 0)) := by
    rw [hgrow.block b hlt (fun e => hne e.symm)]
    exact hbk
  have d0 : w2.cell? ⟨b, 0, none⟩ = some (.pointer (some ⟨b, 0, none⟩)) := by rw [Lib.cell_of_heap hb2]; rfl
  have d1 : w2.cell? ⟨b, 1, none⟩ = some v := by rw [Lib.cell_of_heap hb2]; rfl
  have f1 : w2.frozen? ⟨b, 1, none⟩ = false := Lib.frozen_of_heap hb2 1
  obtain ⟨ao, n', cap, rfl⟩ : ∃ ao n' cap, v' = .slice ao n' cap := by
    rcases hown'.2 with ⟨hv, _⟩ | ⟨g, cap, cur, hv, _⟩
    · exact ⟨_, _, _, hv⟩
    · exact ⟨_, _, _, hv⟩
  go_wp2_with fail
  go_ret2
  refine ⟨rfl, ?_, ?_⟩
  · exact Lib.BuilderAt.put (T := 144) (e := 5) hB hb2 (bs' := bs ++ news) (by simpa [hl] using hown') (by decide)
  · exact ((Below.refl B w1).grown hgrow hBw (fun k hk => (hown.lt k hk).1)).setCell (p := ⟨b, 1, none⟩) hB _
end Go.Proofs.YtcmihdjbeihjbaaGreat

namespace Go.Proofs.YtcmihdjbeihjbaaGreat
open Go Go.RowKit
set_option linter.unusedSimpArgs false
set_option linter.unusedVariables false
/-- how many bytes a builder has -/
def bldLen (w : World) (b : Nat) : Nat := match w.cell? ⟨b, 1, none⟩ with | some (.slice _ n _) => n | _ => 0
theorem BuA.len {w : World} {B b : Nat} {bs : List Value} (h : BuA w B b bs) : bldLen w b = bs.length := by
  obtain ⟨hB, v, hbk, hown, hne⟩ := h
  have c1 : w.cell? ⟨b, 1, none⟩ = some v := by rw [Lib.cell_of_heap hbk]; rfl
  unfold bldLen
  rw [c1]
  rcases hown.2 with ⟨rfl, h⟩ | ⟨g, cap, cur, rfl, _⟩
  · exact h.symm
  · rfl
/-- an inode's information, of a file -/
def fiC (n sz st : Nat) : Array Value := #[.int .i64 (n : Int), .int .i64 1, .int .i64 1, .int .i64 (sz : Int), .int .u64 ((st : Nat) : Int)]
theorem fi_c0 {w : World} {b t n sz st : Nat} (H : Blk w b t (fiC n sz st)) : w.cell? ⟨b, 0, none⟩ = some (.int .i64 (n : Int)) := (H.cell 0).trans rfl
theorem fi_c3 {w : World} {b t n sz st : Nat} (H : Blk w b t (fiC n sz st)) : w.cell? ⟨b, 3, none⟩ = some (.int .i64 (sz : Int)) := (H.cell 3).trans rfl
section
variable {w w' : World} {x n sz st : Nat} {F : Nat → Nat} {L : Nat → Nat → Nat}
set_option maxRecDepth 100000 in
set_option maxHeartbeats 8000000 in
theorem text_any (hsz : sz ≤ 1048576) (hF : ∀ p, p < sz → F p < 256) (hL : ∀ q i, i < 256 → 256 * q + i < sz → L q i = F (256 * q + i)) (HLF : ∀ V, Below w.heap.size w V → ∀ q : Nat, q < 4096 → Calls Tryz.prog 50 #[.pointer (some ⟨x, 0, none⟩), .int .i64 (n : Int), .int .i64 (q : Int)] V fun e w' => e = .returned (.tuple #[.agg (va 256 (iv .u8 (L q))), .int .i64 0]) ∧ Below V.heap.size V w') (a m : Nat) (ha : a ≤ 9223372036854775807) (ham : m = 0 ∨ a + m ≤ sz) : Calls Tryz.prog 33 #[.pointer (some ⟨x, 0, none⟩), .agg (fiC n sz st), .int .i64 (a : Int), .int .i64 (m : Int)] w fun e w' => e = .returned (.tuple #[.string (strN (fun j => F (a + j)) m), .int .i64 0]) ∧ Below w.heap.size w w' := by
  have hb1 : Below w.heap.size w ((w.alloc (.cells (fiC n sz st) 62)).alloc (.cells #[.pointer none, .slice none 0 0] 144)) := ((Below.refl _ _).alloc (Nat.le_refl _) _).alloc (by simp) _
  have k0 : Blk ((w.alloc (.cells (fiC n sz st) 62)).alloc (.cells #[.pointer none, .slice none 0 0] 144)) w.heap.size 62 (fiC n sz st) := (Blk.new _ _ _).alloc _
  have k1 : Blk ((w.alloc (.cells (fiC n sz st) 62)).alloc (.cells #[.pointer none, .slice none 0 0] 144)) (w.heap.size + 1) 144 #[.pointer none, .slice none 0 0] := Blk.new1 _ _ _ _
  have hm : m ≤ 1048576 := by omega
  have HG := bgrow_new (w.heap.size + 1) (w.heap.size + 1) m _ (Nat.le_refl _) k1 (by simp) (by omega)
  have HL : Hid (∀ V, Below w.heap.size w V → ∀ q : Nat, q < 4096 → Calls Tryz.prog 50 #[.pointer (some ⟨x, 0, none⟩), .int .i64 (n : Int), .int .i64 (q : Int)] V fun e w' => e = .returned (.tuple #[.agg (va 256 (iv .u8 (L q))), .int .i64 0]) ∧ Below V.heap.size V w') := HLF
  have HI : Hid ((∀ p, p < sz → F p < 256) ∧ (∀ q i, i < 256 → 256 * q + i < sz → L q i = F (256 * q + i)) ∧ (m = 0 ∨ a + m ≤ sz)) := ⟨hF, hL, ham⟩
  have HB1 : Hid (Below w.heap.size w ((w.alloc (.cells (fiC n sz st) 62)).alloc (.cells #[.pointer none, .slice none 0 0] 144)) ∧ Blk ((w.alloc (.cells (fiC n sz st) 62)).alloc (.cells #[.pointer none, .slice none 0 0] 144)) w.heap.size 62 (fiC n sz st)) := ⟨hb1, k0⟩
  have hzb := zero_bld
  clear HLF hL hF hb1 k1 k0 ham
  go_enter Tryz.func33, Tryz.ntmps33
  go_wp2_with fail
  refine HG.mono ?_
  rintro e w1 ⟨rfl, hu1, hbw⟩
  have hb1 : Below w.heap.size w w1 := HB1.out.1.trans (hbw.mono (by omega))
  have hk1 : Blk w1 w.heap.size 62 (fiC n sz st) := HB1.out.2.below hbw (by omega)
  clear HG HB1 hbw
  go_wp2_with fail
  go_loopw [11] (fun t wr => ∃ k : Nat, k ≤ m ∧ BuA wr (w.heap.size + 1) (w.heap.size + 1) (byL (fun j => F (a + j)) k) ∧ Blk wr w.heap.size 62 (fiC n sz st) ∧ Below w.heap.size w wr) (fun t wr => m - bldLen wr (w.heap.size + 1))
  case atStart => exact ⟨0, Nat.zero_le _, hu1, hk1, hb1⟩
  case round =>
    obtain ⟨k, hk, hu, hkI, hb⟩ := hrel
    have HU : Hid (BuA wr (w.heap.size + 1) (w.heap.size + 1) (byL (fun j => F (a + j)) k) ∧ Blk wr w.heap.size 62 (fiC n sz st) ∧ Below w.heap.size w wr) := ⟨hu, hkI, hb⟩
    have HN := blen_any _ _ _ _ hu
    rw [byL_length] at HN
    have c0 := fi_c0 hkI
    clear hu hkI hb hu1 hk1 hb1
    by_cases hlt : k < m
    · have hs : a + m ≤ sz := by have := HI.out.2.2; omega
      obtain ⟨pl, hpl⟩ : ∃ pl : Nat, a + k = pl := ⟨_, rfl⟩
      have e1 : (a : Int) + (k : Int) = (pl : Int) := by omega
      obtain ⟨q, hq⟩ : ∃ q : Nat, pl / 256 = q := ⟨_, rfl⟩
      obtain ⟨r, hr⟩ : ∃ r : Nat, pl % 256 = r := ⟨_, rfl⟩
      have e2 : (pl : Int).tdiv 256 = (q : Int) := by rw [← hq]; rfl
      have e3 : (pl : Int).tmod 256 = (r : Int) := by rw [← hr]; rfl
      have t1 : (k : Int) < (m : Int) := by omega
      have q2 : q ≤ 4096 := by omega
      have HLq := HL.out wr HU.out.2.2 q (by omega)
      have hz := zero_bk
      have HQ : Hid (pl / 256 = q ∧ pl % 256 = r ∧ a + k = pl ∧ a + m ≤ sz) := ⟨hq, hr, hpl, hs⟩
      have r1 : (0 : Int) ≤ (r : Int) := by omega
      have r2 : (r : Int) ≤ 256 := by omega
      have r3 : r < 256 := by omega
      have r4 : ¬ r = 256 := by omega
      obtain ⟨rr, hrr⟩ : ∃ rr : Nat, 256 - r = rr := ⟨_, rfl⟩
      obtain ⟨mk, hmk⟩ : ∃ mk : Nat, m - k = mk := ⟨_, rfl⟩
      obtain ⟨j, hj⟩ : ∃ j : Nat, min mk rr = j := ⟨_, rfl⟩
      have e4 : (m : Int) - (k : Int) = (mk : Int) := by omega
      have e5 : min (rr : Int) (mk : Int) = (j : Int) := by omega
      have j1 : j ≤ rr := by omega
      have j2 : rr ≤ 256 := by omega
      have HJ : Hid (256 - r = rr ∧ m - k = mk ∧ min mk rr = j) := ⟨hrr, hmk, hj⟩
      have mk2 : mk ≤ 1048576 := by omega
      clear hmk hj
      have p2 : pl ≤ 1048576 := by omega
      clear hq hr hpl hs
      go_wp2_with fail
      refine HN.mono ?_
      rintro e w2 ⟨rfl, hw⟩
      rw [hw]
      clear hw w2
      go_wp2_with fail
      refine HN.mono ?_
      rintro e w2 ⟨rfl, hw⟩
      rw [hw]
      clear hw w2
      go_wp2_with fail
      refine HLq.mono ?_
      rintro e w4 ⟨rfl, hb4⟩
      have hu4 := HU.out.1.below hb4
      have n4 := Blk.new w4 148 (va 256 (iv .u8 fun _ => 0))
      have g5 := n4.set (va 256 (iv .u8 (L q)))
      have hb5 : Below wr.heap.size wr ((w4.alloc (Obj.cells (va 256 (iv IntKind.u8 fun _ => 0)) 148)).setRow w4.heap.size (va 256 (iv .u8 (L q)))) := below_setRow (hb4.alloc hb4.size _) hb4.size _
      have hu5 := HU.out.1.below hb5
      have HN5 := blen_any _ _ _ _ hu5
      rw [byL_length] at HN5
      go_wp2_with (first
        | (refine wpList_store_row (by rfl) 148 _ _ (by rfl) (w4.heap.size) (va 256 (iv .u8 (L q))) (by rfl) (by rfl) 148 _ n4 (sizeBk.trans (by rw [va_size])) (by simp only [va_size]) (iv_one _ _ _) ?_; simp only [Act.put, List.setIfInBounds_toArray, List.set_cons_zero, List.set_cons_succ])
        | fail)
      refine HN5.mono ?_
      rintro e w2 ⟨rfl, hw⟩
      rw [hw]
      clear hw w2
      obtain ⟨W, hW⟩ : ∃ W, (w4.alloc (Obj.cells (va 256 (iv IntKind.u8 fun _ => 0)) 148)).setRow w4.heap.size (va 256 (iv .u8 (L q))) = W := ⟨_, rfl⟩
      rw [hW] at g5 hb5 hu5 ⊢
      have HW := bwrite_any _ _ _ w4.heap.size r j rr (byL (fun i => F (a + (k + i))) j) W hu5 (byL_length _ _) (fun i u hu => by
        have hi : i < j := by
          have := (List.getElem?_eq_some_iff.1 hu).1
          rw [byL_length] at this
          exact this
        rw [byL_at _ _ _ hi] at hu
        have hq := HQ.out
        have hj := HJ.out
        rw [Addr.add_mid, g5.cv (by omega)]
        unfold iv
        rw [HI.out.2.1 q (r + i) (by omega) (by omega), ← hu]
        congr 4
        omega) (fun u hu => by
        obtain ⟨i, _, rfl⟩ := List.mem_map.1 hu
        rfl) (by rw [byL_length]; have hj := HJ.out; omega) (by have := hb5.size; have := HU.out.2.2.size; have := HU.out.2.1.lt; omega)
      clear hW n4 hu4 hb4
      go_wp2_with fail
      refine HW.mono ?_
      rintro e w6 ⟨rfl, hu6, hb6⟩
      have hu7 : BuA w6 (w.heap.size + 1) (w.heap.size + 1) (byL (fun i => F (a + i)) (k + j)) := by
        rw [byL_add]
        exact hu6
      have hk7 : Blk w6 w.heap.size 62 (fiC n sz st) := (HU.out.2.1.below hb5 HU.out.2.1.lt).below hb6 (by omega)
      have hb7 : Below w.heap.size w w6 := (HU.out.2.2.trans (hb5.mono HU.out.2.2.size)).trans (hb6.mono (by omega))
      clear hu6 hb6 HW hu5 HN5 g5 hb5 HN HLq
      go_wp2_with fail
      go_roundw
      case rel => exact ⟨k + j, by have := HJ.out; omega, hu7, hk7, hb7⟩
      case measure =>
        rw [hu7.len, HU.out.1.len, byL_length, byL_length]
        have := HJ.out
        omega
    · have hkm : k = m := by omega
      subst hkm
      have t1 : ¬ ((k : Int) < (k : Int)) := by omega
      have HS := bstring_any (w.heap.size + 1) (w.heap.size + 1) k (fun j => F (a + j)) (fun j hj => HI.out.1 _ (by have := HI.out.2.2; omega)) wr HU.out.1 (by have := HU.out.2.2.size; have := HU.out.2.1.lt; omega)
      go_wp2_with fail
      refine HN.mono ?_
      rintro e w2 ⟨rfl, hw⟩
      rw [hw]
      clear hw w2
      go_wp2_with fail
      refine HS.mono ?_
      rintro e w6 ⟨rfl, hb6⟩
      have hb7 : Below w.heap.size w w6 := HU.out.2.2.trans (hb6.mono (by omega))
      clear HS HN hb6
      go_wp2_with fail
      go_ret2
      exact ⟨rfl, hb7⟩
end
end Go.Proofs.YtcmihdjbeihjbaaGreat
