/- A slice of bytes that grows, told by its cells; append onto it. No program in it. -/
import Derived.Test.YtppagdmlfgialaaGreatDoorHDigSum
import Derived.Below
import Derived.Deep.RegionLaw
import Derived.Deep.Heap
import Derived.Handy
import Derived.MapKept
import Derived.Carry
import Derived.ArgAppend
import Derived.Lib.ConvBytes

namespace Go.Proofs.YtppagdmlfgialaaGreatDoor
open Go Go.RowKit

section
variable {P : Program} {ops : Array Oper} {Q : Exit → Act → World → Prop} {md : Region.Mode} {S : World → Prop} {W : Nat → Bool}

/-- whatever order is picked, and S holds behind every operation outside W -/
def wpAnyW (P : Program) (md : Region.Mode) (ops : Array Oper) (Q : Exit → Act → World → Prop) (S : World → Prop) (W : Nat → Bool) : Nat → Array Bool → Act → World → Prop
  | 0, listed, a, w => Region.ready md ops listed = [] ∧ Q .normal a w
  | fuel + 1, listed, a, w =>
    (Region.ready md ops listed = [] → Q .normal a w) ∧
    ∀ i ∈ Region.ready md ops listed, wpOp P ops Q i (fun a' w' => (W i = false → S w') ∧ wpAnyW P md ops Q S W fuel (listed.setIfInBounds i true) a' w') a w

theorem wpAny_of_W : ∀ (fuel : Nat) (listed : Array Bool) (a : Act) (w : World), wpAnyW P md ops Q S W fuel listed a w → wpAny P md ops Q fuel listed a w
  | 0, _, _, _, h => h
  | fuel + 1, _, _, _, h => ⟨h.1, fun i hi => wpOp_mono (fun a' w' h' => wpAny_of_W fuel _ a' w' h'.2) (h.2 i hi)⟩

theorem wpAnyW_take {i : Nat} {oi : Oper} {v : Value} (hi : ops[i]? = some oi) (hsel : ∀ (j : Nat) (o : Oper) cs b, ops[j]? = some o → o.op ≠ .select cs b) (wt : Nat → Bool)
    (hQ : ∀ c a w, Q (.panic c) (a.put oi.dst v) w → Q (.panic c) a w)
    (hB : ∀ j oj, ops[j]? = some oj → wt j = true → j ≠ i → ∃ e ∈ oj.after, Region.binds md e = true ∧ wt e.on = true) (hW : ∀ j oj, ops[j]? = some oj → W j = true → wt j = true) (hWi : W i = false) :
    ∀ (fuel : Nat) (listed : Array Bool) (a : Act) (w : World),
      (∀ j oj, ops[j]? = some oj → j ≠ i → listed.getD j true = false → (∀ e ∈ oj.after, Region.binds md e = true → e.on ≠ i) → oi.apart ops oj = true) →
      (∀ j, wt j = true → listed.getD j true = false) →
      i ∈ Region.ready md ops listed → YieldsIf P ops S oi v a → S w →
      wpAnyW P md ops Q S W fuel (listed.setIfInBounds i true) (a.put oi.dst v) w → wpAnyW P md ops Q S W (fuel + 1) listed a w := by
  intro fuel
  induction fuel with
  | zero =>
    intro listed a w _ _ hr hy hS H
    refine ⟨fun h => (by rw [h] at hr; cases hr), fun j hj => ?_⟩
    by_cases hji : j = i
    · subst hji; exact hy.wpOp hi hS ⟨fun _ => hS, H⟩
    · have := ready_mono hj hji
      rw [H.1] at this
      cases this
  | succ fuel ih =>
    intro listed a w hfree hC hr hy hS H
    refine ⟨fun h => (by rw [h] at hr; cases hr), fun j hj => ?_⟩
    by_cases hji : j = i
    · subst hji; exact hy.wpOp hi hS ⟨fun _ => hS, H⟩
    · have h1 := H.2 j (ready_mono hj hji)
      obtain ⟨hjun, oj, hoj, hall⟩ := mem_ready.1 hj
      have hpend : ∀ k, listed.getD k true = false → listed.getD k false = true → False := fun k h0 h1 => by
        rcases Nat.lt_or_ge k listed.size with h' | h'
        · simp [h'] at h0 h1; rw [h0] at h1; cases h1
        · simp [Array.getElem?_eq_none h'] at h1
      have hnot : ∀ e ∈ oj.after, Region.binds md e = true → e.on ≠ i := fun e he hb heq => by
        have h1 := hall e he hb
        rw [heq] at h1
        exact hpend i (mem_ready.1 hr).1 h1
      have hwt : wt j = false := by
        cases hq : wt j with
        | false => rfl
        | true =>
          obtain ⟨e, he, hb, hw⟩ := hB j oj hoj hq hji
          exact (hpend e.on (hC _ hw) (hall e he hb)).elim
      have hWj : W j = false := by
        cases hq : W j with
        | false => rfl
        | true => rw [hW j oj hoj hq] at hwt; cases hwt
      have h2 := wpOp_putIf hoj (hfree j oj hoj hji hjun hnot) (fun cs b => hsel i oi cs b hi) (fun cs b => hsel j oj cs b hoj) hQ hy h1
      refine wpOp_mono (fun a' w' h4 => ?_) h2
      obtain ⟨hy', hS', hK⟩ := h4
      refine ⟨hS', ih (listed.setIfInBounds j true) a' w' (fun k ok hk hki hu hno => hfree k ok hk hki ?_ hno) (fun k hk => ?_) (ready_mono hr (Ne.symm hji)) hy' (hS' hWj) ?_⟩
      · by_cases hjk : j = k
        · subst hjk; exact hjun
        · rw [getD_set_ne true hjk] at hu; exact hu
      · rw [getD_set_ne true (fun e => by subst e; rw [hwt] at hk; cases hk)]; exact hC k hk
      · rw [Array.setIfInBounds_comm _ _ hji]
        exact hK

theorem wpOp_strict {Q' : Exit → Act → World → Prop} {i : Nat} {K : Act → World → Prop} {a : Act} {w : World} (h : wpOp P ops (Strict Q) i K a w) : wpOp P ops (Strict Q') i K a w := by
  unfold wpOp at *
  split
  · rename_i hn; simp only [hn] at h; exact h
  · rename_i o ho
    simp only [ho] at h
    split
    · rename_i hw
      simp only [hw, if_true] at h
      rcases h with h | ⟨_, h⟩
      · refine .inl ?_
        unfold Oper.wp at *
        generalize (execOp a.eval o).run P w = r at *
        cases r with
        | ok n w' =>
          cases n <;> simp only [Oper.upon] at h ⊢ <;> first
            | exact h
            | exact Calls.mono h (fun e w'' he => by
                cases e with
                | returned v => exact he
                | panicked c => exact absurd he.1 (by intro e; cases e)
                | outgrown => exact absurd he Strict.noOut)
        | halt x w' => cases x <;> simp only [Oper.upon, Strict] at h ⊢ <;> first | exact h.elim | exact absurd h.1 (by intro e; cases e)
      · exact absurd h Strict.noOut
    · rename_i hw; simp only [hw] at h; exact h

/-- a slot that no operation of the region writes keeps its value -/
theorem wpOp_keeps {i : Nat} {x : Tmp} (hx : ∀ (j : Nat) (o : Oper), ops[j]? = some o → o.dst ≠ some x) {K : Act → World → Prop} {a : Act} {w : World} (h : wpOp P ops Q i K a w) :
    wpOp P ops Q i (fun a' w' => a'.eval (.tmp x) = a.eval (.tmp x) ∧ K a' w') a w := by
  unfold wpOp at *
  split
  · rename_i hn; simp only [hn] at h; exact ⟨rfl, h⟩
  · rename_i o ho
    simp only [ho] at h
    have keep : ∀ (b : Act) (v : Value), (b.put o.dst v).eval (.tmp x) = b.eval (.tmp x) := fun b v =>
      Act.eval_put (fun d hd => by intro e; cases e; exact hx i o ho hd)
    split
    · rename_i hw
      simp only [hw, if_true] at h
      refine h.imp (fun h => ?_) id
      unfold Oper.wp at *
      generalize (execOp a.eval o).run P w = r at *
      cases r with
      | ok n w' =>
        cases n <;> simp only [Oper.upon] at h ⊢
        case value u => exact ⟨keep _ _, h⟩
        case skip => exact ⟨keep _ _, h⟩
        case defer d => exact ⟨keep _ _, h⟩
        case enter f args =>
          exact Calls.mono h (fun e w'' he => by
            cases e with
            | returned v => exact ⟨keep _ _, he⟩
            | panicked c => exact he
            | outgrown => exact he)
        case row row args => exact Rows.mono h (fun u w'' he => ⟨keep _ _, he⟩)
      | halt y w' => cases y <;> simp only [Oper.upon] at h ⊢ <;> exact h
    · rename_i hw; simp only [hw] at h; exact ⟨keep _ _, h⟩

/-- old memory: a row of cells below B -/
def Low (B : Nat) (w0 : World) (v : Value) : Prop := ∃ p cs t fr, v = .pointer (some p) ∧ p.block < B ∧ w0.heap[p.block]? = some (.cells cs t fr)

theorem load_low {B : Nat} {w0 w w' : World} {p : Addr} (hp : p.block < B) (hc : ∃ cs t fr, w0.heap[p.block]? = some (.cells cs t fr)) (hw : Below B w0 w) (hw' : Below B w0 w') {v : Value} {w1 : World}
    (h : (load p).run P w = .ok v w1) : (load p).run P w' = .ok v w' := by
  have e1 := hw.cell (p := p) hp
  have e2 := hw'.cell (p := p) hp
  obtain ⟨cs, t, fr, hc⟩ := hc
  simp only [load, Sem.run] at h ⊢
  rw [e1] at h
  rw [e2]
  cases hq : w0.cell? p with
  | some u => rw [hq] at h; simp only at h ⊢; cases h; rfl
  | none =>
    rw [hq] at h
    simp only [World.farLoad, hw.block _ hp, hc] at h
    cases h
theorem cells_low {B : Nat} {w0 w w' : World} (p : Addr) (hp : p.block < B) (hc : ∃ cs t fr, w0.heap[p.block]? = some (.cells cs t fr)) (hw : Below B w0 w) (hw' : Below B w0 w') :
    ∀ (n i : Nat) (acc r : Array Value) (w1 : World), (loadCellsFrom p i n acc).run P w = .ok r w1 → (loadCellsFrom p i n acc).run P w' = .ok r w'
  | 0, i, acc, r, w1, h => by
    simp only [loadCellsFrom, Sem.run_pure] at h ⊢; cases h; rfl
  | n + 1, i, acc, r, w1, h => by
    have hb : (p.add i).block = p.block := by unfold Addr.add; split <;> rfl
    simp only [loadCellsFrom, Sem.run_bind] at h ⊢
    cases hs : (load (p.add i)).run P w with
    | ok v w2 =>
      have := rds_load (P := P) (p.add i) _ _ _ hs
      subst this
      rw [hs] at h
      rw [load_low (P := P) (by rw [hb]; exact hp) (by rw [hb]; exact hc) hw hw' hs]
      simp only [Result.andThen_ok] at h ⊢
      exact cells_low p hp hc hw hw' n (i + 1) _ r w1 h
    | halt y w2 => rw [hs] at h; simp [Result.andThen] at h
theorem loadAt_low {B : Nat} {w0 w w' : World} {x : Value} (hx : Low B w0 x) (hw : Below B w0 w) (hw' : Below B w0 w') (t : TypeId) {v : Value} {w1 : World}
    (h : (Instr.loadAt t x).run P w = .ok v w1) : (Instr.loadAt t x).run P w' = .ok v w' := by
  obtain ⟨p, cs, t', fr, rfl, hp, hc⟩ := hx
  have hc' : ∃ cs t fr, w0.heap[p.block]? = some (.cells cs t fr) := ⟨cs, t', fr, hc⟩
  simp only [Instr.loadAt, Instr.sureAddr, Sem.run_bind, Sem.run_pure, Result.andThen_ok, loadVar] at h ⊢
  have hag : Pur P (isAgg t) := by
    unfold isAgg
    refine (pur_underlying t).bind fun d => ?_
    split <;> exact pur_pure _
  cases hs : (isAgg t).run P w with
  | ok b w2 =>
    obtain ⟨rfl, h2⟩ := hag _ _ _ hs
    rw [hs] at h
    rw [h2 w']
    simp only [Result.andThen_ok] at h ⊢
    cases b with
    | true =>
      simp only [if_true, Sem.run_bind] at h ⊢
      cases hz : (sizeOf t).run P w2 with
      | ok n w3 =>
        obtain ⟨rfl, h3⟩ := pur_sizeOf t _ _ _ hz
        rw [hz] at h
        rw [h3 w']
        simp only [Result.andThen_ok] at h ⊢
        cases hl : (loadCells p n).run P w3 with
        | ok r w4 =>
          rw [hl] at h
          rw [show (loadCells p n).run P w' = .ok r w' from cells_low p hp hc' hw hw' n 0 #[] r w4 hl]
          simp only [Result.andThen_ok, Sem.run_pure] at h ⊢
          cases h; rfl
        | halt y w4 => rw [hl] at h; simp [Result.andThen] at h
      | halt y w3 => rw [hz] at h; simp [Result.andThen] at h
    | false =>
      simp only [Bool.false_eq_true, if_false] at h ⊢
      exact load_low hp hc' hw hw' h
  | halt y w2 => rw [hs] at h; simp [Result.andThen] at h

/-- more operations that yield in whatever world -/
def kindV (o : Oper) : Bool := kindW o || match o.op with
  | .assign _ => true
  | .pick .. => true
  | .unOp .not _ _ => true
  | _ => false
theorem kindV_run {o : Oper} (h : kindV o = true) (ρ : Operand → Value) : Pur P (execOp ρ o) ∧ ∀ w n w', (execOp ρ o).run P w = .ok n w' → ∃ v, n = .value v := by
  unfold kindV at h
  rw [Bool.or_eq_true] at h
  rcases h with h | h
  · exact kindW_run h ρ
  · split at h <;> rename_i hop
    · unfold execOp; simp only [hop]
      exact ⟨pur_pure _, fun w n w' e => by rw [Sem.run_pure] at e; cases e; exact ⟨_, rfl⟩⟩
    · unfold execOp; simp only [hop]
      refine ⟨Pur.bind ?_ fun b => pur_pure _, fun w n w' e => ?_⟩
      · unfold asBool; split
        · exact pur_pure _
        · exact pur_halt _
      · rw [Sem.run_bind] at e
        cases hs : (asBool (ρ _)).run P w with
        | ok x w1 => rw [hs] at e; simp only [Result.andThen_ok, Sem.run_pure] at e; cases e; exact ⟨_, rfl⟩
        | halt x w1 => rw [hs] at e; simp [Result.andThen] at e
    · unfold execOp; simp only [hop]
      refine ⟨Pur.bind ?_ fun b => pur_pure _, fun w n w' e => ?_⟩
      · unfold Op.unary
        split <;> first | exact pur_pure _ | exact pur_halt _ | (rename_i hq; cases hq)
      · rw [Sem.run_bind] at e
        cases hs : (Op.unary .not (ρ _)).run P w with
        | ok x w1 => rw [hs] at e; simp only [Result.andThen_ok, Sem.run_pure] at e; cases e; exact ⟨_, rfl⟩
        | halt x w1 => rw [hs] at e; simp [Result.andThen] at e
    · cases h
/-- a load through a slot of old memory -/
def lowLoad (ops : Array Oper) (lows : List Tmp) (o : Oper) : Bool := match o.op with
  | .load _ (.tmp x) => lows.contains x && ops.all fun o' => o'.dst != some x
  | _ => false
theorem lowLoad_run {o : Oper} {lows : List Tmp} (h : lowLoad ops lows o = true) : ∃ t x, o.op = .load t (.tmp x) ∧ x ∈ lows := by
  unfold lowLoad at h
  split at h
  · rename_i t x hop
    simp only [Bool.and_eq_true, List.contains_eq_mem, decide_eq_true_eq] at h
    exact ⟨t, x, hop, h.1⟩
  · cases h

/-- the check of one operation that is taken ahead -/
def waitW (md : Region.Mode) (ops : Array Oper) (listed : Array Bool) (i : Nat) (W : List Nat) (wt : Array Bool) : Bool :=
  (List.range ops.size).all fun j => match ops[j]? with
    | some o => if wt.getD j false then (j == i || o.after.any fun e => Region.binds md e && wt.getD e.on false && decide (e.on < ops.size)) && !listed.getD j true else !W.contains j
    | none => true
def yieldW (md : Region.Mode) (ops : Array Oper) (listed : Array Bool) (W : List Nat) (i : Nat) : Bool :=
  match ops[i]? with
  | some _ => (Region.ready md ops listed).contains i && Region.free md ops listed i && !W.contains i && waitW md ops listed i W (waitArr md ops listed i)
  | none => false
def takeW (md : Region.Mode) (ops : Array Oper) (listed : Array Bool) (W : List Nat) (lows : List Tmp) (i : Nat) : Bool :=
  match ops[i]? with
  | some o => (Region.ready md ops listed).contains i && Region.free md ops listed i && !W.contains i && (kindV o || lowLoad ops lows o) && waitW md ops listed i W (waitArr md ops listed i)
  | none => false
def forceW (md : Region.Mode) (ops : Array Oper) (listed : Array Bool) (i : Nat) : Bool := Region.ready md ops listed == [i] && (ops[i]?).isSome
/-- operations that are taken ahead, one behind the other -/
def takesB (md : Region.Mode) (ops : Array Oper) (W : List Nat) (lows : List Tmp) : List Nat → Array Bool → Option (Array Bool)
  | [], listed => some listed
  | i :: rest, listed => if takeW md ops listed W lows i then takesB md ops W lows rest (listed.setIfInBounds i true) else none
/-- operations of the tail, one behind the other -/
def tailB (md : Region.Mode) (ops : Array Oper) (W : List Nat) : List Nat → Array Bool → Bool
  | [], listed => (Region.ready md ops listed).isEmpty
  | i :: rest, listed => forceW md ops listed i && W.contains i && tailB md ops W rest (listed.setIfInBounds i true)
/-- the parts: those that are taken ahead, and one that is forced, or one of which it is shown that it yields its value in whatever world -/
def partsB (md : Region.Mode) (ops : Array Oper) (W : List Nat) (lows : List Tmp) : List (List Nat × Nat × Bool) → List Nat → List Nat → Array Bool → Bool
  | [], takes, tail, listed => match takesB md ops W lows takes listed with
    | some l => tailB md ops W tail l
    | none => false
  | p :: rest, takes, tail, listed => match takesB md ops W lows p.1 listed with
    | some l => (if p.2.2 then yieldW md ops l W p.2.1 else forceW md ops l p.2.1 && !W.contains p.2.1) && partsB md ops W lows rest takes tail (l.setIfInBounds p.2.1 true)
    | none => false

def lenOf : List (List Nat × Nat × Bool) → Nat → Nat
  | [], n => n
  | p :: rest, n => p.1.length + (1 + lenOf rest n)

variable {B : Nat} {w0 : World} {lows : List Tmp} {Wl : List Nat}

/-- the slots of old memory -/
def Lows (lows : List Tmp) (B : Nat) (w0 : World) (a : Act) : Prop := ∀ x ∈ lows, Low B w0 (a.eval (.tmp x))

theorem take_gen {i fuel : Nat} {o : Oper} {v : Value} {listed : Array Bool} {a : Act} {w : World} (hs : Region.noSelect ops = true) (hi : ops[i]? = some o) (hr : (Region.ready md ops listed).contains i = true)
    (hf : Region.free md ops listed i = true) (hWi : Wl.contains i = false) (hwait : waitW md ops listed i Wl (waitArr md ops listed i) = true) (hy : YieldsIf P ops (Below B w0) o v a) (hS : Below B w0 w)
    (hK : wpAnyW P md ops (Strict Q) (Below B w0) (Wl.contains ·) fuel (listed.setIfInBounds i true) (a.put o.dst v) w) :
    wpAnyW P md ops (Strict Q) (Below B w0) (Wl.contains ·) (fuel + 1) listed a w := by
  generalize hwt : waitArr md ops listed i = arr at hwait
  unfold waitW at hwait
  rw [List.all_eq_true] at hwait
  have hall : ∀ j oj, ops[j]? = some oj → (if arr.getD j false then (j == i || oj.after.any fun e => Region.binds md e && arr.getD e.on false && decide (e.on < ops.size)) && !listed.getD j true else !Wl.contains j) = true := fun j oj hj => by
    have h1 := hwait j (List.mem_range.2 (Array.getElem?_eq_some_iff.1 hj).1)
    rw [hj] at h1; exact h1
  have hin : ∀ j, decide (j < ops.size) = true → ∃ oj, ops[j]? = some oj := fun j hj => ⟨_, Array.getElem?_eq_getElem (of_decide_eq_true hj)⟩
  refine wpAnyW_take hi (Region.noSelect_spec hs) (fun j => arr.getD j false && decide (j < ops.size)) (v := v) (strict_frame _ _) ?_ ?_ hWi fuel listed a w (Region.free_spec hi hf) ?_ (by simpa using hr) hy hS hK
  · intro j oj hj hw hne
    simp only [Bool.and_eq_true] at hw
    have h1 := hall j oj hj
    rw [if_pos hw.1] at h1
    simp only [Bool.and_eq_true, Bool.or_eq_true, beq_iff_eq, hne, false_or] at h1
    obtain ⟨e, he, hb⟩ := Array.any_eq_true'.1 h1.1
    simp only [Bool.and_eq_true] at hb
    exact ⟨e, he, hb.1.1, by simp only [Bool.and_eq_true]; exact ⟨hb.1.2, hb.2⟩⟩
  · intro j oj hj hw
    have hlt : decide (j < ops.size) = true := decide_eq_true (Array.getElem?_eq_some_iff.1 hj).1
    have h1 := hall j oj hj
    cases hq : arr.getD j false with
    | true => rw [hlt]; rfl
    | false => rw [if_neg (by rw [hq]; decide), hw] at h1; cases h1
  · intro j hw
    simp only [Bool.and_eq_true] at hw
    obtain ⟨oj, hj⟩ := hin j hw.2
    have h1 := hall j oj hj
    rw [if_pos hw.1] at h1
    simp only [Bool.and_eq_true, Bool.not_eq_true'] at h1
    exact h1.2

theorem takeW_step {i fuel : Nat} {listed : Array Bool} {a : Act} {w : World} (hs : Region.noSelect ops = true) (hb : takeW md ops listed Wl lows i = true) (hl : Lows lows B w0 a) (hS : Below B w0 w)
    (h : wpOp P ops (Strict Q) i (fun a' w' => Lows lows B w0 a' → Below B w0 w' → wpAnyW P md ops (Strict Q) (Below B w0) (Wl.contains ·) fuel (listed.setIfInBounds i true) a' w') a w)
    (hd : ∀ x ∈ lows, ∀ (j : Nat) (o : Oper), ops[j]? = some o → o.dst ≠ some x) :
    wpAnyW P md ops (Strict Q) (Below B w0) (Wl.contains ·) (fuel + 1) listed a w := by
  unfold takeW at hb
  cases hi : ops[i]? with
  | none => rw [hi] at hb; cases hb
  | some o =>
    rw [hi] at hb
    simp only [Bool.and_eq_true, Bool.or_eq_true, Bool.not_eq_true'] at hb
    obtain ⟨⟨⟨⟨hr, hf⟩, hWi⟩, hk⟩, hwait⟩ := hb
    have hlow : ∀ v, Lows lows B w0 (a.put o.dst v) := fun v x hx => by
      rw [Act.eval_put (fun d hd' => by intro e; cases e; exact hd x hx i o hi hd')]
      exact hl x hx
    have key : ∃ v, wpAnyW P md ops (Strict Q) (Below B w0) (Wl.contains ·) fuel (listed.setIfInBounds i true) (a.put o.dst v) w ∧ YieldsIf P ops (Below B w0) o v a := by
      unfold wpOp at h
      simp only [hi] at h
      by_cases hw : Region.wanted o (yielded ops a.tmps) = true
      · simp only [hw, if_true] at h
        rcases h with h | ⟨_, h⟩
        · unfold Oper.wp at h
          have hrun : ∃ v, (execOp a.eval o).run P w = .ok (.value v) w ∧ ∀ w', Below B w0 w' → (execOp a.eval o).run P w' = .ok (.value v) w' := by
            cases hsr : (execOp a.eval o).run P w with
            | ok n w1 =>
              rcases hk with hk | hk
              · obtain ⟨hp, hv⟩ := kindV_run (P := P) hk a.eval
                obtain ⟨v, rfl⟩ := hv _ _ _ hsr
                obtain ⟨rfl, h2⟩ := hp _ _ _ hsr
                exact ⟨v, rfl, fun w' _ => h2 w'⟩
              · obtain ⟨t, x, hop, hx⟩ := lowLoad_run hk
                have hlx := hl x hx
                have hex : ∀ u, (execOp a.eval o).run P u = ((Instr.loadAt t (a.eval (.tmp x))).run P u).andThen fun v u' => .ok (.value v) u' := fun u => by
                  unfold execOp; simp only [hop, Sem.run_bind, Sem.run_pure]
                rw [hex] at hsr
                cases hq : (Instr.loadAt t (a.eval (.tmp x))).run P w with
                | ok v w2 =>
                  have hsame := rds_loadAt (P := P) t (a.eval (.tmp x)) _ _ _ hq
                  subst hsame
                  rw [hq] at hsr
                  simp only [Result.andThen_ok] at hsr
                  cases hsr
                  exact ⟨v, rfl, fun w' hw' => by rw [hex, loadAt_low hlx hS hw' t hq]; rfl⟩
                | halt y w2 => rw [hq] at hsr; simp [Result.andThen] at hsr
            | halt y w1 =>
              rw [hsr] at h
              cases y <;> simp only [Oper.upon, Strict] at h <;> first | exact absurd h.1 (by intro e; cases e) | exact h.elim
          obtain ⟨v, h1, h2⟩ := hrun
          rw [h1, Oper.upon_value] at h
          exact ⟨v, h (hlow v) hS, .inl ⟨hw, h2⟩⟩
        · exact absurd h Strict.noOut
      · rw [Bool.not_eq_true] at hw
        simp only [hw, Bool.false_eq_true, if_false] at h
        exact ⟨undef, h (hlow _) hS, .inr ⟨hw, rfl⟩⟩
    obtain ⟨v, hK, hy⟩ := key
    exact take_gen hs hi hr hf hWi hwait hy hS hK

theorem forceW_step {i fuel : Nat} {listed : Array Bool} {a : Act} {w : World} (hb : forceW md ops listed i = true)
    (h : wpOp P ops (Strict Q) i (fun a' w' => (Wl.contains i = false → Below B w0 w') ∧ wpAnyW P md ops (Strict Q) (Below B w0) (Wl.contains ·) fuel (listed.setIfInBounds i true) a' w') a w) :
    wpAnyW P md ops (Strict Q) (Below B w0) (Wl.contains ·) (fuel + 1) listed a w := by
  unfold forceW at hb
  simp only [Bool.and_eq_true, beq_iff_eq] at hb
  refine ⟨fun h0 => absurd (hb.1.symm.trans h0) (by simp), ?_⟩
  rw [hb.1]
  intro j hj
  have : j = i := by simpa using hj
  subst this; exact h

theorem wpList_one {o : Oper} {rest : List Nat} {i : Nat} (hi : ops[i]? = some o) {a : Act} {w : World} (h : wpList P ops Q ((i :: rest).filterMap fun i => ops[i]?) a w) :
    wpOp P ops Q i (fun a' w' => wpList P ops Q (rest.filterMap fun i => ops[i]?) a' w') a w := by
  rw [List.filterMap_cons_some hi] at h
  unfold wpOp
  simp only [hi]
  unfold wpList at h
  split at h
  · rename_i hw; simp only [hw, if_true]; exact h
  · rename_i hw; simp only [hw]; exact h

theorem lows_put (hd : ∀ x ∈ lows, ∀ (j : Nat) (o : Oper), ops[j]? = some o → o.dst ≠ some x) {i : Nat} {K : Act → World → Prop} {a : Act} {w : World} (hl : Lows lows B w0 a) (h : wpOp P ops Q i K a w) :
    wpOp P ops Q i (fun a' w' => Lows lows B w0 a' ∧ K a' w') a w := by
  have key : ∀ l : List Tmp, (∀ x ∈ l, x ∈ lows) → wpOp P ops Q i (fun a' w' => (∀ x ∈ l, a'.eval (.tmp x) = a.eval (.tmp x)) ∧ K a' w') a w := by
    intro l
    induction l with
    | nil => intro _; exact wpOp_mono (fun a' w' h' => ⟨fun x hx => (by cases hx), h'⟩) h
    | cons y l ih =>
      intro hsub
      refine wpOp_mono (fun a' w' h' => ?_) (wpOp_keeps (x := y) (hd y (hsub y (by simp))) (ih fun x hx => hsub x (by simp [hx])))
      obtain ⟨h1, h2, h3⟩ := h'
      refine ⟨fun x hx => ?_, h3⟩
      rcases List.mem_cons.1 hx with rfl | hx
      · exact h1
      · exact h2 x hx
  refine wpOp_mono (fun a' w' h' => ⟨fun x hx => ?_, h'.2⟩) (key lows fun _ h => h)
  rw [h'.1 x hx]; exact hl x hx

theorem has_op {i : Nat} {listed : Array Bool} (hc : takeW md ops listed Wl lows i = true) : ∃ o, ops[i]? = some o := by
  unfold takeW at hc
  cases hq : ops[i]? with
  | none => rw [hq] at hc; cases hc
  | some o => exact ⟨o, rfl⟩
theorem has_op' {i : Nat} {listed : Array Bool} (hc : forceW md ops listed i = true) : ∃ o, ops[i]? = some o := by
  unfold forceW at hc
  rw [Bool.and_eq_true] at hc
  exact Option.isSome_iff_exists.1 hc.2

theorem takes_step (hs : Region.noSelect ops = true) (hd : ∀ x ∈ lows, ∀ (j : Nat) (o : Oper), ops[j]? = some o → o.dst ≠ some x) (more : List Nat) (fuel : Nat) (Q' : Exit → Act → World → Prop) :
    ∀ (ts : List Nat) (listed l2 : Array Bool) (a : Act) (w : World), takesB md ops Wl lows ts listed = some l2 →
      (∀ a' w', Lows lows B w0 a' → Below B w0 w' → wpList P ops (Strict Q') (more.filterMap fun i => ops[i]?) a' w' → wpAnyW P md ops (Strict Q) (Below B w0) (Wl.contains ·) fuel l2 a' w') →
      Lows lows B w0 a → Below B w0 w → wpList P ops (Strict Q') ((ts ++ more).filterMap fun i => ops[i]?) a w →
      wpAnyW P md ops (Strict Q) (Below B w0) (Wl.contains ·) (ts.length + fuel) listed a w := by
  intro ts
  induction ts with
  | nil =>
    intro listed l2 a w hb hn hl hS h
    simp only [takesB, Option.some.injEq] at hb
    subst hb
    rw [List.length_nil, Nat.zero_add]
    exact hn a w hl hS h
  | cons i rest ih =>
    intro listed l2 a w hb hn hl hS h
    unfold takesB at hb
    split at hb
    · rename_i hc
      have hlen : (i :: rest).length + fuel = (rest.length + fuel) + 1 := by simp only [List.length_cons]; omega
      rw [hlen]
      obtain ⟨o, ho⟩ := has_op hc
      refine takeW_step hs hc hl hS (wpOp_mono (fun a' w' h' h1 h2 => ?_) (wpOp_strict (wpList_one ho h))) hd
      exact ih _ l2 a' w' hb hn h1 h2 h'
    · cases hb

theorem tail_step : ∀ (ts : List Nat) (listed : Array Bool) (a : Act) (w : World), tailB md ops Wl ts listed = true → wpList P ops (Strict Q) (ts.filterMap fun i => ops[i]?) a w →
    wpAnyW P md ops (Strict Q) (Below B w0) (Wl.contains ·) ts.length listed a w
  | [], listed, a, w, hb, h => ⟨by simpa [tailB] using hb, h⟩
  | i :: rest, listed, a, w, hb, h => by
    simp only [tailB, Bool.and_eq_true] at hb
    obtain ⟨o, ho⟩ := has_op' hb.1.1
    refine forceW_step hb.1.1 (wpOp_mono (fun a' w' h' => ?_) (wpList_one ho h))
    exact ⟨fun e => (by rw [hb.1.2] at e; cases e), tail_step rest _ a' w' hb.2 h'⟩

/-- the check of the whole region -/
def wholeB (ops : Array Oper) (W : List Nat) (lows : List Tmp) (ps : List (List Nat × Nat × Bool)) (takes tail : List Nat) : Bool :=
  lenOf ps (takes.length + tail.length) == ops.size && Region.noSelect ops && (lows.all fun x => ops.all fun o => o.dst != some x) && partsB .any ops W lows ps takes tail (Array.replicate ops.size false)

end
end Go.Proofs.YtppagdmlfgialaaGreatDoor

namespace Go.Proofs.YtppagdmlfgialaaGreatDoor
open Go Go.RowKit

section
variable {P : Program} {ops : Array Oper} {Q : Exit → Act → World → Prop} {md : Region.Mode} {B : Nat} {w0 : World} {lows : List Tmp} {Wl : List Nat} {S : World → Prop}

/-- the walk, parted -/
def wpPartsI (P : Program) (ops : Array Oper) (Q : Exit → Act → World → Prop) (S : World → Prop) : List (List Nat × Nat × Bool) → List Nat → Act → World → Prop
  | [], final, a, w => wpList P ops (Strict Q) (final.filterMap fun i => ops[i]?) a w
  | (ts, i, false) :: rest, final, a, w => wpList P ops (Strict fun _ a' w' => S w' ∧ wpPartsI P ops Q S rest final a' w') ((ts ++ [i]).filterMap fun i => ops[i]?) a w
  | (ts, i, true) :: rest, final, a, w => wpList P ops (Strict fun _ a' w' => ∃ o v, ops[i]? = some o ∧ YieldsIf P ops S o v a' ∧ wpPartsI P ops Q S rest final (a'.put o.dst v) w') ((ts ++ []).filterMap fun i => ops[i]?) a w

theorem partsI_step (hs : Region.noSelect ops = true) (hd : ∀ x ∈ lows, ∀ (j : Nat) (o : Oper), ops[j]? = some o → o.dst ≠ some x) (takes tail : List Nat) :
    ∀ (ps : List (List Nat × Nat × Bool)) (listed : Array Bool) (a : Act) (w : World), partsB md ops Wl lows ps takes tail listed = true → Lows lows B w0 a → Below B w0 w →
      wpPartsI P ops Q (Below B w0) ps (takes ++ tail) a w → wpAnyW P md ops (Strict Q) (Below B w0) (Wl.contains ·) (lenOf ps (takes.length + tail.length)) listed a w
  | [], listed, a, w, hb, hl, hS, h => by
    unfold partsB at hb
    split at hb
    · rename_i l2 hl2
      exact takes_step hs hd tail tail.length Q takes listed l2 a w hl2 (fun a' w' _ _ h' => tail_step tail l2 a' w' hb h') hl hS h
    · cases hb
  | (ts, i, false) :: rest, listed, a, w, hb, hl, hS, h => by
    unfold partsB at hb
    split at hb
    · rename_i l2 hl2
      simp only [Bool.and_eq_true, Bool.not_eq_true', Bool.false_eq_true, if_false] at hb
      refine takes_step hs hd [i] _ _ ts listed l2 a w hl2 (fun a' w' hl' _ h' => ?_) hl hS h
      obtain ⟨o, ho⟩ := has_op' hb.1.1
      rw [Nat.add_comm 1]
      refine forceW_step hb.1.1 (wpOp_mono (fun a2 w2 h2 => ?_) (lows_put hd hl' (wpOp_strict (wpList_one ho h'))))
      have h3 := h2.2.2
      exact ⟨fun _ => h3.1, partsI_step hs hd takes tail rest _ a2 w2 hb.2 h2.1 h3.1 h3.2⟩
    · cases hb
  | (ts, i, true) :: rest, listed, a, w, hb, hl, hS, h => by
    unfold partsB at hb
    split at hb
    · rename_i l2 hl2
      simp only [Bool.and_eq_true, if_true] at hb
      refine takes_step hs hd [] _ _ ts listed l2 a w hl2 (fun a' w' hl' hS' h' => ?_) hl hS h
      obtain ⟨-, o, v, ho, hy, hn⟩ := h'
      have hc := hb.1
      unfold yieldW at hc
      rw [ho] at hc
      simp only [Bool.and_eq_true, Bool.not_eq_true'] at hc
      rw [Nat.add_comm 1]
      refine take_gen hs ho hc.1.1.1 hc.1.1.2 hc.1.2 hc.2 hy hS' (partsI_step hs hd takes tail rest _ _ w' hb.2 (fun x hx => ?_) hS' hn)
      rw [Act.eval_put (fun d hd' => by intro e; cases e; exact hd x hx i o ho hd')]
      exact hl' x hx
    · cases hb

/-- THE LAW. -/
theorem wp_region_partsI {id : Nat} {a : Act} {w : World} (lows : List Tmp) (ps : List (List Nat × Nat × Bool)) (takes tail : List Nat) (B : Nat) (hm : P.follows .mixedOrders = true) (hB : wholeB ops tail lows ps takes tail = true)
    (hl : Lows lows B w a) (h : wpPartsI P ops Q (Below B w) ps (takes ++ tail) a w.drew) : (Code.region id ops true).wp P Q a w := by
  unfold wholeB at hB
  simp only [Bool.and_eq_true, beq_iff_eq] at hB
  have hd : ∀ x ∈ lows, ∀ (j : Nat) (o : Oper), ops[j]? = some o → o.dst ≠ some x := fun x hx j o ho => by
    have h1 := List.all_eq_true.1 hB.1.2 x hx
    have h2 := Array.all_eq_true_iff_forall_mem.1 h1 o (Array.mem_of_getElem? ho)
    simpa using h2
  refine Code.wp_mono Strict.imp (wp_region_any hm ?_)
  rw [← hB.1.1.1]
  exact wpAny_of_W _ _ _ _ (partsI_step hB.1.1.2 hd takes tail ps _ a _ (by rw [hB.1.1.1]; exact hB.2) hl (Below.refl B w).drew h)
theorem partsI_force {ts final : List Nat} {i : Nat} {rest : List (List Nat × Nat × Bool)} {a : Act} {w : World}
    (h : wpList P ops (Strict fun _ a' w' => S w' ∧ wpPartsI P ops Q S rest final a' w') ((ts ++ [i]).filterMap fun i => ops[i]?) a w) : wpPartsI P ops Q S ((ts, i, false) :: rest) final a w := h
theorem partsI_yield {ts final : List Nat} {i : Nat} {rest : List (List Nat × Nat × Bool)} {a : Act} {w : World}
    (h : wpList P ops (Strict fun _ a' w' => ∃ o v, ops[i]? = some o ∧ YieldsIf P ops S o v a' ∧ wpPartsI P ops Q S rest final (a'.put o.dst v) w') ((ts ++ []).filterMap fun i => ops[i]?) a w) : wpPartsI P ops Q S ((ts, i, true) :: rest) final a w := h
theorem partsI_last {final : List Nat} {a : Act} {w : World} (h : wpList P ops (Strict Q) (final.filterMap fun i => ops[i]?) a w) : wpPartsI P ops Q S [] final a w := h
end
end Go.Proofs.YtppagdmlfgialaaGreatDoor

namespace Go.Proofs.YtppagdmlfgialaaGreatDoor
open Go.RowKit
set_option linter.unusedSimpArgs false
set_option linter.unusedVariables false

/-- no block but g is changed -/
def Keeps (g : Nat) (w w' : World) : Prop := Below g w w' ∧ ∀ k, k ≠ g → k < w.heap.size → w'.heap[k]? = w.heap[k]?
theorem Keeps.refl (g : Nat) (w : World) : Keeps g w w := ⟨Below.refl _ _, fun _ _ _ => rfl⟩
theorem Keeps.trans {g : Nat} {a b c : World} (h : Keeps g a b) (k : Keeps g b c) : Keeps g a c :=
  ⟨h.1.trans k.1, fun i hi hl => (k.2 i hi (Nat.lt_of_lt_of_le hl h.1.size)).trans (h.2 i hi hl)⟩
theorem Keeps.of {g : Nat} {w w' : World} (h : Below w.heap.size w w') (hg : g ≤ w.heap.size) : Keeps g w w' := ⟨h.mono hg, fun k _ hl => h.block k hl⟩
theorem Keeps.drew {g : Nat} {w w' : World} (h : Keeps g w w') : Keeps g w w'.drew := ⟨h.1.drew, h.2⟩
theorem Keeps.setRow {g : Nat} {w w' : World} (h : Keeps g w w') (cs : Array Value) : Keeps g w (w'.setRow g cs) :=
  ⟨below_setRow h.1 (Nat.le_refl _) cs, fun k hk hl => (setRow_other w' g k cs hk).trans (h.2 k hk hl)⟩
theorem Keeps.blk {g k t : Nat} {w w' : World} {cs : Array Value} (h : Keeps g w w') (hb : Blk w k t cs) (hk : k ≠ g) : Blk w' k t cs := (h.2 k hk hb.lt).trans hb
theorem Keeps.setCells {g : Nat} {w : World} : ∀ (vs : List Value) (o : Nat) (w' : World), Keeps g w w' → Keeps g w (w'.setCells g o vs)
  | [], _, _, h => h
  | v :: vs, o, w', h => by
    rw [World.setCells]
    refine Keeps.setCells vs (o + 1) _ ⟨h.1.setCell (p := ⟨g, o, none⟩) (Nat.le_refl _) v, fun k hk hl => ?_⟩
    rw [← h.2 k hk hl]
    exact Deep.blk_setCell_other w' ⟨g, o, none⟩ v k hk
/-- the hasher holds the first m bytes of the text t -/
def Holds (w : World) (g : Nat) (c0 t : Nat → Nat) (m : Nat) : Prop :=
  ∃ p, okP p ∧ (∀ j, j < m % 32 → p j = t (32 * (m / 32) + j)) ∧ Blk w g 466 (va 41 (hashV (runN c0 t (m / 32)) p m))
end Go.Proofs.YtppagdmlfgialaaGreatDoor

namespace Go.Proofs.YtppagdmlfgialaaGreatDoor
open Go Go.RowKit
set_option linter.unusedVariables false
set_option linter.unusedSimpArgs false

section
variable {α β : Type} [DecidableEq α] {P : Program}
/-- how keys are told: encoded, compared, and that each may be a key -/
structure KeyOf (P : Program) (kt : TypeId) (K : α → Value) : Prop where
  desc : ∃ d, P.underlying kt = some d ∧ (∀ k, d ≠ .int k) ∧ d ≠ .string ∧ d ≠ .bool
  eq : ∀ a b w, (Op.equal kt (K a) (K b)).run P w = .ok (decide (a = b)) w
  chk : ∀ e a w, (Instr.checkKey e 10000 kt (K a)).run P w = .ok () w
/-- the map in block r holds these keys and elements, in this order -/
def MapIs (K : α → Value) (V : β → Value) (w : World) (r : Nat) (l : List (α × β)) : Prop :=
  ∃ es clock, w.heap[r]? = some (.map es clock) ∧ es.toList.map (fun e => (e.key, e.val)) = l.map fun p => (K p.1, V p.2)
def findIn (a : α) : List (α × β) → Option β
  | [] => none
  | p :: l => if a = p.1 then some p.2 else findIn a l
theorem findNow_none {d : TypeDesc} (h1 : ∀ k, d ≠ .int k) (h2 : d ≠ .string) (h3 : d ≠ .bool) (k : Value) (e : MapEntry) (es : List MapEntry) (i : Nat) : Instr.findNow d k (e :: es) i = none := by
  have : Instr.sameNow d k e.key = none := by
    unfold Instr.sameNow
    split
    · exact absurd rfl (h1 _)
    · exact absurd rfl h2
    · exact absurd rfl h3
    · rfl
  simp [Instr.findNow, this]
theorem run_findAsking {kt : TypeId} {K : α → Value} {V : β → Value} (hk : KeyOf P kt K) (a : α) (w : World) : ∀ (l : List (α × β)) (es : List MapEntry) (i : Nat), es.map (fun e => (e.key, e.val)) = l.map (fun p => (K p.1, V p.2)) →
    ∃ r, (Instr.findAsking kt (K a) es i).run P w = .ok r w ∧ (∀ b, findIn a l = some b → ∃ j, r = some (j, V b)) ∧ (findIn a l = none → r = none)
  | [], es, i, h => by
    have : es = [] := by cases es with
      | nil => rfl
      | cons e es => simp at h
    subst this
    exact ⟨none, by simp [Instr.findAsking], (fun b hb => by cases hb), fun _ => rfl⟩
  | p :: l, [], i, h => by simp at h
  | p :: l, e :: es, i, h => by
    simp only [List.map_cons, List.cons.injEq, Prod.mk.injEq] at h
    obtain ⟨⟨h1, h2⟩, h3⟩ := h
    have he := hk.eq a p.1 w
    rw [← h1] at he
    by_cases hq : a = p.1
    · refine ⟨some (i, e.val), ?_, fun b hb => ?_, fun hn => ?_⟩
      · simp only [Instr.findAsking, Sem.run_bind, he, Result.andThen_ok, decide_eq_true hq, if_true, Sem.run_pure]
      · unfold findIn at hb
        rw [if_pos hq] at hb
        cases hb
        exact ⟨i, by rw [h2]⟩
      · unfold findIn at hn
        rw [if_pos hq] at hn
        cases hn
    · obtain ⟨r, h4, h5, h6⟩ := run_findAsking hk a w l es (i + 1) h3
      refine ⟨r, ?_, fun b hb => ?_, fun hn => ?_⟩
      · simp only [Instr.findAsking, Sem.run_bind, he, Result.andThen_ok, decide_eq_false hq, Bool.false_eq_true, if_false, h4]
      · unfold findIn at hb
        rw [if_neg hq] at hb
        exact h5 b hb
      · unfold findIn at hn
        rw [if_neg hq] at hn
        exact h6 hn
theorem run_findKey {kt : TypeId} {K : α → Value} {V : β → Value} (hk : KeyOf P kt K) (a : α) (w : World) (l : List (α × β)) (es : List MapEntry) (h : es.map (fun e => (e.key, e.val)) = l.map (fun p => (K p.1, V p.2))) :
    ∃ r, (Instr.findKey kt (K a) es).run P w = .ok r w ∧ (∀ b, findIn a l = some b → ∃ j, r = some (j, V b)) ∧ (findIn a l = none → r = none) := by
  obtain ⟨d, hd, n1, n2, n3⟩ := hk.desc
  cases es with
  | nil =>
    have : l = [] := by cases l with
      | nil => rfl
      | cons p l => simp at h
    subst this
    exact ⟨none, by simp [Instr.findKey, run_underlying hd, Instr.findNow], (fun b hb => by cases hb), fun _ => rfl⟩
  | cons e es =>
    obtain ⟨r, h4, h5, h6⟩ := run_findAsking hk a w l (e :: es) 0 h
    exact ⟨r, by simp [Instr.findKey, run_underlying hd, findNow_none n1 n2 n3, h4], h5, h6⟩
/-- a look-up -/
theorem run_lookup_is {mt kt et : TypeId} {K : α → Value} {V : β → Value} {z : Value} (hm : P.underlying mt = some (.map kt et)) (hk : KeyOf P kt K) (hz : ∀ w, (zeroValue et).run P w = .ok z w) {w : World} {r : Nat} {l : List (α × β)} (h : MapIs K V w r l) (a : α) (ok : Bool) :
    (Instr.lookup mt (.map (some r)) (K a) ok).run P w = .ok (if ok then .tuple #[((findIn a l).map V).getD z, .bool (findIn a l).isSome] else ((findIn a l).map V).getD z) w := by
  obtain ⟨es, clock, hg, he⟩ := h
  obtain ⟨x, h4, h5, h6⟩ := run_findKey hk a w l es.toList he
  have hc := hk.chk es.isEmpty a w
  have hgo : (getObj r).run P w = .ok (.map es clock) w := by simp [getObj, Sem.run, hg]
  cases hf : findIn a l with
  | none =>
    obtain rfl := h6 hf
    cases ok <;> simp [Instr.lookup, run_underlying hm, hgo, hc, h4, hz]
  | some b =>
    obtain ⟨j, rfl⟩ := h5 b hf
    cases ok <;> simp [Instr.lookup, run_underlying hm, hgo, hc, h4]
/-- a new key stored -/
theorem run_update_is {mt kt et : TypeId} {K : α → Value} {V : β → Value} (hm : P.underlying mt = some (.map kt et)) (hk : KeyOf P kt K) {w : World} {r : Nat} {l : List (α × β)} (h : MapIs K V w r l) (a : α) (b : β) (hn : findIn a l = none) :
    ∃ w', (Instr.mapUpdate mt (.map (some r)) (K a) (V b)).run P w = .ok () w' ∧ MapIs K V w' r (l ++ [(a, b)]) ∧ Keeps r w w' := by
  obtain ⟨es, clock, hg, he⟩ := h
  obtain ⟨x, h4, h5, h6⟩ := run_findKey hk a w l es.toList he
  obtain rfl := h6 hn
  have hc := hk.chk false a w
  have hgo : (getObj r).run P w = .ok (.map es clock) w := by simp [getObj, Sem.run, hg]
  have hso : ∀ o, (setObj r o).run P w = .ok () { w with heap := w.heap.setIfInBounds r o } := fun o => by simp [setObj, Sem.run, hg]
  have hr : r < w.heap.size := (Array.getElem?_eq_some_iff.1 hg).1
  refine ⟨{ w with heap := w.heap.setIfInBounds r (.map (es.push { key := K a, val := V b, born := clock }) (clock + 1)) }, ?_, ⟨es.push { key := K a, val := V b, born := clock }, clock + 1, ?_, ?_⟩, ⟨⟨rfl, rfl, rfl, by simp, fun k hk => ?_⟩, fun k hk _ => ?_⟩⟩
  · simp [Instr.mapUpdate, run_underlying hm, hgo, hc, h4, hso]
  · simp [hr]
  · simp [he]
  · simp [Array.getElem?_setIfInBounds, show r ≠ k by omega]
  · simp [Array.getElem?_setIfInBounds, Ne.symm hk]
theorem findIn_append (a : α) (l m : List (α × β)) : findIn a (l ++ m) = (findIn a l).or (findIn a m) := by
  induction l with
  | nil => rfl
  | cons p l ih =>
    simp only [List.cons_append, findIn]
    by_cases h : a = p.1
    · simp [h]
    · simp [h, ih]
end
theorem MapIs.keep {α β : Type} {K : α → Value} {V : β → Value} {w w' : World} {r g : Nat} {l : List (α × β)} (h : MapIs K V w r l) (hk : Keeps g w w') (hne : r ≠ g) : MapIs K V w' r l := by
  obtain ⟨es, clock, hg, he⟩ := h
  exact ⟨es, clock, (hk.2 r hne (Array.getElem?_eq_some_iff.1 hg).1).trans hg, he⟩
theorem MapIs.below {α β : Type} {K : α → Value} {V : β → Value} {w w' : World} {r B : Nat} {l : List (α × β)} (h : MapIs K V w r l) (hb : Below B w w') (hB : r < B) : MapIs K V w' r l := by
  obtain ⟨es, clock, hg, he⟩ := h
  exact ⟨es, clock, (hb.block r hB).trans hg, he⟩
end Go.Proofs.YtppagdmlfgialaaGreatDoor

namespace Go.Proofs.YtppagdmlfgialaaGreatDoor
open Go.RowKit
set_option linter.unusedSimpArgs false
set_option linter.unusedVariables false

/-- the digest of the text t, m bytes of it, out of a first chain -/
def ofC (c0 t : Nat → Nat) (m : Nat) : Nat → Nat := sumN (runN c0 (padN t m) ((m + 8) / 32 + 1))
theorem Holds.lt {w : World} {g m : Nat} {c0 t : Nat → Nat} (h : Holds w g c0 t m) : g < w.heap.size := by
  obtain ⟨p, _, _, hB⟩ := h
  exact hB.lt

end Go.Proofs.YtppagdmlfgialaaGreatDoor

namespace Go.Proofs.YtppagdmlfgialaaGreatDoor
open Go.RowKit
set_option linter.unusedSimpArgs false
set_option linter.unusedVariables false

/-- an entry as a value -/
def entV (e : Nat × ByteArray) : Value := .agg #[.int .u8 ((e.1 : Nat) : Int), .string e.2]
def sumV (y : Nat → Nat) : Value := .agg (va 32 (iv .u8 y))
/-- an entry's digest -/
def sumOf (e : Nat × ByteArray) : Nat → Nat := ofC (firstN e.1) (byteAt e.2) e.2.size

end Go.Proofs.YtppagdmlfgialaaGreatDoor

namespace Go.Proofs.YtppagdmlfgialaaGreatDoor
open Go.RowKit
set_option linter.unusedSimpArgs false
set_option linter.unusedVariables false

/-- the cells of a list of entries -/
def entCells (E : List (Nat × ByteArray)) : List Value := E.flatMap fun e => [.int .u8 ((e.1 : Nat) : Int), .string e.2]
/-- the log in block g, its map in block r, its entries in the slice v -/
def LogAt (w : World) (g r : Nat) (v : Value) (E : List (Nat × ByteArray)) : Prop :=
  Blk w g 438 #[v, .map (some r)] ∧ w.ownsRow 0 433 2 v E.length (entCells E) ∧ MapIs entV sumV w r (E.map fun e => (e, sumOf e))

end Go.Proofs.YtppagdmlfgialaaGreatDoor

namespace Go.Proofs.YtppagdmlfgialaaGreatDoor
open Go Go.RowKit
set_option linter.unusedVariables false

/-- the slice v of m bytes, told by f, in a block from B on; all up to its capacity may be written -/
def RowC (w : World) (B : Nat) (v : Value) (m : Nat) (f : Nat → Nat) : Prop :=
  ∃ b cap, v = .slice (some ⟨b, 0, none⟩) m cap ∧ B ≤ b ∧ b < w.heap.size ∧ m ≤ cap ∧ (∀ j, j < m → w.cell? ⟨b, j, none⟩ = some (.int .u8 ((f j : Nat) : Int))) ∧
    (∀ j, j < cap → (w.cell? ⟨b, j, none⟩).isSome = true ∧ w.frozen? ⟨b, j, none⟩ = false)
def appN (f : Nat → Nat) (n : Nat) (g : Nat → Nat) : Nat → Nat := fun j => if j < n then f j else g (j - n)
theorem frozen_setCells (b : Nat) (x : Addr) : ∀ (vs : List Value) (o : Nat) (w : World), (w.setCells b o vs).frozen? x = w.frozen? x
  | [], _, _ => rfl
  | v :: vs, o, w => by
    rw [World.setCells, frozen_setCells b x vs (o + 1)]
    exact World.frozen?_setCell _ _ _ _
theorem RowC.below {w w' : World} {B B' m : Nat} {v : Value} {f : Nat → Nat} (h : RowC w B v m f) (hb : Below B' w w') (hB : w.heap.size ≤ B') : RowC w' B v m f := by
  obtain ⟨b, cap, rfl, h1, h2, h3, h4, h5⟩ := h
  have hblk : w'.heap[b]? = w.heap[b]? := hb.block b (by omega)
  have e1 : ∀ j, w'.cell? ⟨b, j, none⟩ = w.cell? ⟨b, j, none⟩ := fun j => by simp [World.cell?, hblk]
  have e2 : ∀ j, w'.frozen? ⟨b, j, none⟩ = w.frozen? ⟨b, j, none⟩ := fun j => by simp [World.frozen?, hblk]
  exact ⟨b, cap, rfl, h1, Nat.lt_of_lt_of_le h2 hb.size, h3, fun j hj => by rw [e1]; exact h4 j hj, fun j hj => by rw [e1, e2]; exact h5 j hj⟩
theorem RowC.of_own {w : World} {B e n : Nat} {v : Value} {f : Nat → Nat} (h : w.ownsRow B e 1 v n (bytesL f n)) (hn : 0 < n) : RowC w B v n f := by
  rcases h.2 with ⟨_, h0⟩ | ⟨g, cap, cur, rfl, hb, hg, hcap, _, hsz, htake⟩
  · omega
  · refine ⟨g, cap, rfl, hb, (Array.getElem?_eq_some_iff.1 hg).1, hcap, fun j hj => ?_, fun j hj => ?_⟩
    · rw [h.cellAt j (by omega), bytesL_at _ _ _ hj]
    · have hB : Blk w g e cur := hg
      refine ⟨?_, hB.frozen j⟩
      rw [hB.cell, Array.getElem?_eq_getElem (by omega)]
      rfl
theorem RowC.congr {w : World} {B m : Nat} {v : Value} {f g : Nat → Nat} (h : RowC w B v m f) (e : ∀ j, j < m → f j = g j) : RowC w B v m g := by
  obtain ⟨b, cap, rfl, h1, h2, h3, h4, h5⟩ := h
  exact ⟨b, cap, rfl, h1, h2, h3, fun j hj => by rw [h4 j hj, e j hj], h5⟩

theorem wpList_append_rowC {P : Program} (w : World) {ops : Array Oper} {rest : List Oper} {o : Oper} {a : Act} {Q : Exit → Act → World → Prop}
    (hg : o.guard = none) (s x : Operand) (t : TypeId) (hop : o.op = Op.call { callee := Callee.builtin Builtin.append, args := #[s, x], argTypes := #[t, t] })
    (e : TypeId) (i : TypeInfo) (z : Value) (h1 : P.underlying t = some (.slice e)) (h2 : P.info? e = some i) (h3 : i.zero = some z) (h4 : i.size = 1) (h5 : i.bytes = 1) (h6 : z.cells.size = 1)
    (B n : Nat) (f : Nat → Nat) (v : Value) (hs : a.eval s = v) (hrow : RowC w B v n f) (hB : B ≤ w.heap.size)
    (ad : Addr) (m c : Nat) (g : Nat → Nat) (hx : a.eval x = .slice (some ad) m c) (hc : ∀ j u, (bytesL g m)[j]? = some u → w.cell? (ad.add j) = some u)
    (b1 : n + m ≤ 140737488355328) (hm : 0 < m)
    (hK : ∀ v' w', RowC w' B v' (n + m) (appN f n g) → Below B w w' → wpList P ops Q rest (a.put o.dst v') w') :
    wpList P ops Q (o :: rest) a w := by
  obtain ⟨b, cap, rfl, hb, hbl, hmc, hcell, hsp⟩ := hrow
  refine wpList_append_arg w hg s x t hop e i z 1 1 h1 h2 h3 h4 h5 h6 (by decide) b 0 n cap (bytesL f n) hs (by rw [bytesL_length]; omega) (fun j u hj => ?_) ad m c (bytesL g m) hx (by rw [bytesL_length]; omega) hc (mem_iv_one _ _ _) (fun hr j hj => ?_) (by unfold maxLen; omega) (by omega) (fun hr => ?_) (fun hr v' w' hown hgrow => ?_)
  · have hjn : j < n := by
      have := (List.getElem?_eq_some_iff.1 hj).1
      rwa [bytesL_length] at this
    rw [Nat.zero_add, hcell j hjn, ← hj, bytesL_at _ _ _ hjn]
  · rw [bytesL_length] at hj
    have := hsp (n + j) (by omega)
    rw [show 0 + n * 1 + j = n + j from by omega]
    exact this
  · rw [show 0 + n * 1 = n from by omega]
    refine hK _ _ ⟨b, cap, rfl, hb, by rw [size_setCells]; exact hbl, hr, fun j hj => ?_, fun j hj => ?_⟩ (below_setCells hb _ _ _ (Below.refl _ _))
    · by_cases hjn : j < n
      · rw [World.cell?_setCells_out b (bytesL g m) n w ⟨b, j, none⟩ (fun _ _ => .inl hjn), hcell j hjn]
        unfold appN
        rw [if_pos hjn]
      · have hin := World.cell?_setCells_in b (bytesL g m) n w (fun i hi => (hsp (n + i) (by rw [bytesL_length] at hi; omega)).1) (j - n) (by rw [bytesL_length]; omega)
        rw [show n + (j - n) = j from by omega] at hin
        have e2 := bytesL_at g m (j - n) (by omega)
        rw [List.getElem?_eq_getElem (by rw [bytesL_length]; omega)] at e2
        rw [hin]
        unfold appN
        rw [if_neg hjn]
        exact e2
    · exact ⟨World.isSome_setCells b _ _ _ _ (hsp j hj).1, by rw [frozen_setCells]; exact (hsp j hj).2⟩
  · have e1 : bytesL f n ++ bytesL g m = bytesL (appN f n g) (n + m) := by
      rw [bytesL_add]
      congr 1
      · exact bytesL_congr fun j hj => by unfold appN; rw [if_pos hj]
      · exact bytesL_congr fun j hj => by unfold appN; rw [if_neg (by omega), show n + j - n = j from by omega]
    rw [e1] at hown
    refine hK v' w' (RowC.of_own (own_mono hown hB) (by omega)) ?_
    exact (Below.refl _ _).grown hgrow hB (fun k hk => nomatch hk)
theorem RowC.of_string (w : World) (e B : Nat) (s : ByteArray) (hB : B ≤ w.heap.size) : RowC (Lib.bytesWorld w e s) B (.slice (some ⟨w.heap.size, 0, none⟩) s.size (grownCap w s.size 0 e)) s.size (byteAt s) := by
  have hcap := grownCap_ge w s.size 0 e
  refine ⟨w.heap.size, _, rfl, hB, by rw [Lib.bytesWorld_size]; omega, hcap, fun j hj => Lib.bytesWorld_cell w e s j hj, fun j hj => ?_⟩
  have hsz : (Lib.bytesCells w e s).size = grownCap w s.size 0 e := by
    unfold Lib.bytesCells
    have : s.data.size = s.size := rfl
    simp
    omega
  constructor
  · simp [World.cell?, Lib.bytesWorld_at_new, hsz, hj]
  · simp [World.frozen?, Lib.bytesWorld_at_new, hsz]
    omega
theorem below_bytes (w : World) (e B : Nat) (s : ByteArray) (hB : B ≤ w.heap.size) : Below B w (Lib.bytesWorld w e s) :=
  ⟨rfl, rfl, rfl, by rw [Lib.bytesWorld_size]; omega, fun k hk => Lib.bytesWorld_at_old w e s k (by omega)⟩
end Go.Proofs.YtppagdmlfgialaaGreatDoor
