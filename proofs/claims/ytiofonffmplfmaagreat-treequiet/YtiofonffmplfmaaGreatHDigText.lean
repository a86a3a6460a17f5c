/- Texts: their bytes; a text copied into the midst of a block. No program in it. -/
import Derived.OrdersHeld
import Derived.Tactics
import Derived.Laws.World
import Derived.Test.YtiofonffmplfmaaGreatHDigBytes
import Derived.Handy
import Derived.ArgAppend
import Derived.Deep.RegionHeld
import Derived.Deep.RegionLaw

namespace Go.Proofs.YtiofonffmplfmaaGreat
open Go

section
variable {P : Program} {ops : Array Oper} {Q : Exit → Act → World → Prop} {md : Region.Mode}

/-- only the plain way out -/
def Strict (Q : Exit → Act → World → Prop) : Exit → Act → World → Prop := fun e a w => e = .normal ∧ Q .normal a w
theorem Strict.imp (e : Exit) (a : Act) (w : World) (h : Strict Q e a w) : Q e a w := by
  obtain ⟨rfl, h⟩ := h; exact h
theorem Strict.noOut : ¬ LetsOut (Strict Q) := by
  rintro ⟨a, w, h, _⟩; cases h

/-- what is run leaves the world, and would do the same in any world -/
def Pur {α : Type} (P : Program) (s : Sem α) : Prop := ∀ w n w', s.run P w = .ok n w' → w' = w ∧ ∀ w2, s.run P w2 = .ok n w2
/-- what is run leaves the world -/
def Rds {α : Type} (P : Program) (s : Sem α) : Prop := ∀ w n w', s.run P w = .ok n w' → w' = w
/-- what is run never ends well -/
def Nev {α : Type} (P : Program) (s : Sem α) : Prop := ∀ w n w', s.run P w ≠ .ok n w'

theorem Pur.rds {α : Type} {s : Sem α} (h : Pur P s) : Rds P s := fun w n w' e => (h w n w' e).1
theorem Nev.pur {α : Type} {s : Sem α} (h : Nev P s) : Pur P s := fun w n w' e => absurd e (h w n w')
theorem pur_pure {α : Type} (x : α) : Pur P (pure x : Sem α) := fun w n w' e => by
  rw [Sem.run_pure] at e; cases e; exact ⟨rfl, fun w2 => by rw [Sem.run_pure]⟩
theorem pur_halt {α : Type} (h : Halt) : Pur P (Sem.halt h : Sem α) := fun w n w' e => by simp [Sem.run] at e
theorem Pur.bind {α β : Type} {s : Sem α} {f : α → Sem β} (h : Pur P s) (hf : ∀ x, Pur P (f x)) : Pur P (s >>= f) := fun w n w' e => by
  rw [Sem.run_bind] at e
  cases hs : s.run P w with
  | ok x w1 =>
    rw [hs] at e
    obtain ⟨rfl, h2⟩ := h w x w1 hs
    simp only [Result.andThen_ok] at e
    obtain ⟨rfl, h3⟩ := hf x _ _ _ e
    exact ⟨rfl, fun w2 => by rw [Sem.run_bind, h2 w2]; simp only [Result.andThen_ok]; exact h3 w2⟩
  | halt x w1 => rw [hs] at e; simp [Result.andThen] at e
theorem Rds.bind {α β : Type} {s : Sem α} {f : α → Sem β} (h : Rds P s) (hf : ∀ x, Rds P (f x)) : Rds P (s >>= f) := fun w n w' e => by
  rw [Sem.run_bind] at e
  cases hs : s.run P w with
  | ok x w1 =>
    rw [hs] at e
    have h2 := h w x w1 hs
    subst h2
    simp only [Result.andThen_ok] at e
    exact hf x _ _ _ e
  | halt x w1 => rw [hs] at e; simp [Result.andThen] at e
theorem Nev.bind {α β : Type} {s : Sem α} {f : α → Sem β} (hf : ∀ x, Nev P (f x)) : Nev P (s >>= f) := fun w n w' e => by
  rw [Sem.run_bind] at e
  cases hs : s.run P w with
  | ok x w1 => rw [hs] at e; simp only [Result.andThen_ok] at e; exact hf x _ _ _ e
  | halt x w1 => rw [hs] at e; simp [Result.andThen] at e
theorem pur_program : Pur P program := fun w n w' e => by
  simp only [program, Sem.run] at e; cases e; exact ⟨rfl, fun w2 => by simp only [program, Sem.run]⟩
theorem nev_bounds {α : Type} (k : IntKind) (x y : Int) (c : BoundsCode) : Nev P (boundsPanic k x y c : Sem α) := by
  have J : ∀ s : Bool, Nev P (runtimePanic (.bounds (IntKind.i64.wrap x) y s c) : Sem α) := fun s => by
    unfold runtimePanic
    refine Nev.bind fun p => ?_
    intro w n w' e
    simp [goPanic] at e
  unfold boundsPanic
  dsimp only
  split <;> exact Nev.bind fun s => J s
theorem pur_underlying (t : TypeId) : Pur P (underlying t) := by
  unfold underlying
  refine pur_program.bind fun p => ?_
  cases p.underlying t with
  | none => exact pur_halt _
  | some d => exact pur_pure d
theorem pur_sizeOf (t : TypeId) : Pur P (sizeOf t) := by
  unfold sizeOf typeInfo
  refine Pur.bind (pur_program.bind fun p => ?_) fun i => pur_pure _
  cases p.info? t with
  | none => exact pur_halt _
  | some d => exact pur_pure d
theorem pur_sure (v : Value) : Pur P (Instr.sureAddr v) := by
  unfold Instr.sureAddr
  split
  · exact pur_pure _
  · exact pur_halt _
theorem pur_index (t : TypeId) (x i : Value) : Pur P (Instr.indexAt t x i) := by
  unfold Instr.indexAt
  refine Pur.bind ?_ fun ki => ?_
  · unfold asIntOf; split
    · exact pur_pure _
    · exact pur_halt _
    · exact pur_halt _
  · refine (pur_underlying t).bind fun d => ?_
    dsimp only
    split
    · refine (pur_sure _).bind fun _ => (pur_pure _).bind fun q => ?_
      refine (pur_underlying t).bind fun d2 => ?_
      split
      · split
        · exact (pur_sizeOf _).bind fun _ => pur_pure _
        · split <;> split <;> first | exact pur_halt _ | exact (nev_bounds _ _ _ _).pur
      · exact (nev_bounds _ _ _ _).pur
    · refine (pur_pure _).bind fun q => ?_
      refine (pur_underlying t).bind fun d2 => ?_
      split
      · split
        · exact (pur_sizeOf _).bind fun _ => pur_pure _
        · split <;> split <;> first | exact pur_halt _ | exact (nev_bounds _ _ _ _).pur
      · exact (nev_bounds _ _ _ _).pur
    · refine (pur_halt _).bind fun q => ?_
      refine (pur_underlying t).bind fun d2 => ?_
      split
      · split
        · exact (pur_sizeOf _).bind fun _ => pur_pure _
        · split <;> split <;> first | exact pur_halt _ | exact (nev_bounds _ _ _ _).pur
      · exact (nev_bounds _ _ _ _).pur
theorem pur_extract (v : Value) (i : Nat) : Pur P (Instr.extract v i) := by
  unfold Instr.extract
  split
  · split
    · exact pur_pure _
    · exact pur_halt _
  · exact pur_halt _
theorem rds_load (a : Addr) : Rds P (load a) := fun w n w' e => by
  simp only [load, Sem.run] at e
  split at e
  · cases e; rfl
  · split at e
    · cases e; rfl
    · cases e
theorem rds_cells (a : Addr) : ∀ (n i : Nat) (acc : Array Value), Rds P (loadCellsFrom a i n acc)
  | 0, _, acc => (pur_pure acc).rds
  | n + 1, i, acc => (rds_load _).bind fun v => rds_cells a n (i + 1) (acc.push v)
theorem rds_loadAt (t : TypeId) (v : Value) : Rds P (Instr.loadAt t v) := by
  unfold Instr.loadAt loadVar
  refine (pur_sure v).rds.bind fun a => Rds.bind ?_ fun b => ?_
  · unfold isAgg
    refine (pur_underlying t).rds.bind fun d => ?_
    split <;> exact (pur_pure _).rds
  · split
    · exact (pur_sizeOf t).rds.bind fun n => (rds_cells a n 0 #[]).bind fun c => (pur_pure _).rds
    · exact rds_load a

/-- an operation that yields its value in whatever world -/
def kindW (o : Oper) : Bool := match o.op with
  | .move _ => true
  | .extract .. => true
  | .indexAddr .. => true
  | _ => false
/-- an operation that reads at most -/
def kindR (o : Oper) : Bool := kindW o || match o.op with
  | .load .. => true
  | _ => false

theorem kindW_run {o : Oper} (h : kindW o = true) (ρ : Operand → Value) : Pur P (execOp ρ o) ∧ ∀ w n w', (execOp ρ o).run P w = .ok n w' → ∃ v, n = .value v := by
  unfold kindW at h
  split at h <;> rename_i hop
  · unfold execOp; simp only [hop]
    exact ⟨pur_pure _, fun w n w' e => by rw [Sem.run_pure] at e; cases e; exact ⟨_, rfl⟩⟩
  · unfold execOp; simp only [hop]
    exact ⟨(pur_extract _ _).bind fun v => pur_pure _, fun w n w' e => by
      rw [Sem.run_bind] at e
      cases hs : (Instr.extract (ρ _) _).run P w with
      | ok x w1 => rw [hs] at e; simp only [Result.andThen_ok, Sem.run_pure] at e; cases e; exact ⟨_, rfl⟩
      | halt x w1 => rw [hs] at e; simp [Result.andThen] at e⟩
  · unfold execOp; simp only [hop]
    exact ⟨(pur_index _ _ _).bind fun v => pur_pure _, fun w n w' e => by
      rw [Sem.run_bind] at e
      cases hs : (Instr.indexAt _ (ρ _) (ρ _)).run P w with
      | ok x w1 => rw [hs] at e; simp only [Result.andThen_ok, Sem.run_pure] at e; cases e; exact ⟨_, rfl⟩
      | halt x w1 => rw [hs] at e; simp [Result.andThen] at e⟩
  · cases h

theorem kindR_run {o : Oper} (h : kindR o = true) (ρ : Operand → Value) : Rds P (execOp ρ o) ∧ ∀ w n w', (execOp ρ o).run P w = .ok n w' → ∃ v, n = .value v := by
  unfold kindR at h
  rw [Bool.or_eq_true] at h
  rcases h with h | h
  · exact ⟨(kindW_run h ρ).1.rds, (kindW_run h ρ).2⟩
  · split at h <;> rename_i hop
    · unfold execOp; simp only [hop]
      exact ⟨(rds_loadAt _ _).bind fun v => (pur_pure _).rds, fun w n w' e => by
        rw [Sem.run_bind] at e
        cases hs : (Instr.loadAt _ (ρ _)).run P w with
        | ok x w1 => rw [hs] at e; simp only [Result.andThen_ok, Sem.run_pure] at e; cases e; exact ⟨_, rfl⟩
        | halt x w1 => rw [hs] at e; simp [Result.andThen] at e⟩
    · cases h

/-- what the walk's step says of an operation that reads at most -/
theorem wpOp_read {i : Nat} {o : Oper} (hi : ops[i]? = some o) (hk : kindR o = true) {K : Act → World → Prop} {a : Act} {w : World} (h : wpOp P ops (Strict Q) i K a w) :
    ∃ v, K (a.put o.dst v) w ∧ ((Region.wanted o (yielded ops a.tmps) = true ∧ (execOp a.eval o).run P w = .ok (.value v) w) ∨ (Region.wanted o (yielded ops a.tmps) = false ∧ v = undef)) := by
  unfold wpOp at h
  simp only [hi] at h
  by_cases hw : Region.wanted o (yielded ops a.tmps) = true
  · simp only [hw, if_true] at h
    rcases h with h | ⟨_, h⟩
    · unfold Oper.wp at h
      obtain ⟨hr, hv⟩ := kindR_run (P := P) hk a.eval
      cases hs : (execOp a.eval o).run P w with
      | ok n w1 =>
        obtain ⟨v, rfl⟩ := hv _ _ _ hs
        have := hr _ _ _ hs
        subst this
        rw [hs, Oper.upon_value] at h
        exact ⟨v, h, .inl ⟨hw, rfl⟩⟩
      | halt x w1 =>
        rw [hs] at h
        cases x <;> simp only [Oper.upon, Strict] at h <;> first | exact absurd h.1 (by intro e; cases e) | exact h.elim
    · exact absurd h Strict.noOut
  · rw [Bool.not_eq_true] at hw
    simp only [hw, Bool.false_eq_true, if_false] at h
    exact ⟨undef, h, .inr ⟨hw, rfl⟩⟩

theorem wpOp_stays {i : Nat} {o : Oper} (hi : ops[i]? = some o) (hk : kindR o = true) {K : Act → World → Prop} {a : Act} {w : World} (h : wpOp P ops (Strict Q) i K a w) :
    wpOp P ops (Strict Q) i (fun a' w' => w' = w ∧ K a' w') a w := by
  obtain ⟨v, hK, ⟨hw, hr⟩ | ⟨hw, rfl⟩⟩ := wpOp_read hi hk h
  · unfold wpOp
    simp only [hi, hw, if_true, Oper.wp, hr, Oper.upon_value]
    exact .inl ⟨trivial, hK⟩
  · unfold wpOp
    simp only [hi, hw, Bool.false_eq_true, if_false]
    exact ⟨trivial, hK⟩

theorem strict_frame (d : Option Tmp) (v : Value) : ∀ c a w, Strict Q (.panic c) (a.put d v) w → Strict Q (.panic c) a w := fun c a w h => absurd h.1 (by intro e; cases e)

/-- a load is taken first: those that may come before it read only -/
theorem wpAny_read {i : Nat} {oi : Oper} {v : Value} (hi : ops[i]? = some oi) (hsel : ∀ (j : Nat) (o : Oper) cs b, ops[j]? = some o → o.op ≠ .select cs b) (wt : Nat → Bool)
    (hB : ∀ j oj, ops[j]? = some oj → wt j = true → j ≠ i → ∃ e ∈ oj.after, Region.binds md e = true ∧ wt e.on = true) :
    ∀ (fuel : Nat) (listed : Array Bool) (a : Act) (w : World),
      (∀ j oj, ops[j]? = some oj → j ≠ i → listed.getD j true = false → (∀ e ∈ oj.after, Region.binds md e = true → e.on ≠ i) → oi.apart ops oj = true) →
      (∀ j, wt j = true → listed.getD j true = false) →
      (∀ j oj, ops[j]? = some oj → wt j = false → listed.getD j true = false → kindR oj = true) →
      i ∈ Region.ready md ops listed → YieldsIf P ops (fun x => x = w) oi v a →
      wpAny P md ops (Strict Q) fuel (listed.setIfInBounds i true) (a.put oi.dst v) w → wpAny P md ops (Strict Q) (fuel + 1) listed a w := by
  intro fuel
  induction fuel with
  | zero =>
    intro listed a w _ _ _ hr hy H
    refine ⟨fun h => (by rw [h] at hr; cases hr), fun j hj => ?_⟩
    by_cases hji : j = i
    · subst hji; exact hy.wpOp hi rfl H
    · have := ready_mono hj hji
      rw [H.1] at this
      cases this
  | succ fuel ih =>
    intro listed a w hfree hC hD hr hy H
    refine ⟨fun h => (by rw [h] at hr; cases hr), fun j hj => ?_⟩
    by_cases hji : j = i
    · subst hji; exact hy.wpOp hi rfl H
    · have h1 := H.2 j (ready_mono hj hji)
      obtain ⟨hjun, oj, hoj, hall⟩ := mem_ready.1 hj
      have hpend : ∀ k, listed.getD k true = false → listed.getD k false = true → False := fun k h0 h1 => by
        rcases Nat.lt_or_ge k listed.size with h' | h'
        · simp [h'] at h0 h1; rw [h0] at h1; cases h1
        · simp [Array.getElem?_eq_none h'] at h1
      have hnot : ∀ e ∈ oj.after, Region.binds md e = true → e.on ≠ i := fun e he hb heq => by
        have h1 := hall e he hb
        rw [heq] at h1
        exact hpend i (mem_ready.1 hr).1 h1
      have hwt : wt j = false := by
        cases hq : wt j with
        | false => rfl
        | true =>
          obtain ⟨e, he, hb, hw⟩ := hB j oj hoj hq hji
          exact (hpend e.on (hC _ hw) (hall e he hb)).elim
      have h2 := wpOp_putIf (S := fun x => x = w) hoj (hfree j oj hoj hji hjun hnot) (fun cs b => hsel i oi cs b hi) (fun cs b => hsel j oj cs b hoj) (strict_frame _ _) hy h1
      have h3 := wpOp_stays hoj (hD j oj hoj hwt hjun) h2
      refine wpOp_mono (fun a' w' h4 => ?_) h3
      obtain ⟨rfl, hy', hK⟩ := h4
      have hun : ∀ k, (listed.setIfInBounds j true).getD k true = false → listed.getD k true = false := fun k hk => by
        by_cases hjk : j = k
        · subst hjk; exact hjun
        · rw [getD_set_ne true hjk] at hk; exact hk
      refine ih (listed.setIfInBounds j true) a' w' (fun k ok hk hki hu hno => hfree k ok hk hki (hun k hu) hno) (fun k hk => ?_) (fun k ok hk hw hu => hD k ok hk hw (hun k hu)) (ready_mono hr (Ne.symm hji)) hy' ?_
      · rw [getD_set_ne true (fun e => by subst e; rw [hwt] at hk; cases hk)]; exact hC k hk
      · rw [Array.setIfInBounds_comm _ _ hji]
        exact hK

/-- which operations wait for number i, as far as the edges that go back tell -/
def waitArr (md : Region.Mode) (ops : Array Oper) (listed : Array Bool) (i : Nat) : Array Bool :=
  (List.range ops.size).foldl (fun wt j => wt.push (j == i || (!listed.getD j true && match ops[j]? with
    | some o => o.after.any fun e => Region.binds md e && wt.getD e.on false
    | none => false))) #[]
def waitB (md : Region.Mode) (ops : Array Oper) (listed : Array Bool) (i : Nat) (wt : Array Bool) : Bool :=
  (List.range ops.size).all fun j => match ops[j]? with
    | some o => if wt.getD j false then (j == i || o.after.any fun e => Region.binds md e && wt.getD e.on false && decide (e.on < ops.size)) && !listed.getD j true else listed.getD j true || kindR o
    | none => true
def takeB (md : Region.Mode) (ops : Array Oper) (listed : Array Bool) (i : Nat) : Bool :=
  match ops[i]? with
  | some o => (Region.ready md ops listed).contains i && Region.free md ops listed i && (kindW o || (kindR o && waitB md ops listed i (waitArr md ops listed i)))
  | none => false
def stepB (md : Region.Mode) (ops : Array Oper) (listed : Array Bool) (i : Nat) : Bool :=
  takeB md ops listed i || (Region.ready md ops listed == [i] && (ops[i]?).isSome)
def ordB (md : Region.Mode) (ops : Array Oper) : List Nat → Array Bool → Bool
  | [], listed => (Region.ready md ops listed).isEmpty
  | i :: rest, listed => stepB md ops listed i && ordB md ops rest (listed.setIfInBounds i true)

theorem wpAny_step {i : Nat} {fuel : Nat} {listed : Array Bool} {a : Act} {w : World} (hs : Region.noSelect ops = true) (hb : stepB md ops listed i = true)
    (h : wpOp P ops (Strict Q) i (wpAny P md ops (Strict Q) fuel (listed.setIfInBounds i true)) a w) : wpAny P md ops (Strict Q) (fuel + 1) listed a w := by
  unfold stepB at hb
  rw [Bool.or_eq_true] at hb
  rcases hb with hb | hb
  · unfold takeB at hb
    cases hi : ops[i]? with
    | none => rw [hi] at hb; cases hb
    | some o =>
      rw [hi] at hb
      simp only [Bool.and_eq_true, Bool.or_eq_true] at hb
      obtain ⟨⟨hr, hf⟩, hk⟩ := hb
      rcases hk with hk | ⟨hk, hwait⟩
      · have hkr : kindR o = true := by unfold kindR; rw [hk]; rfl
        obtain ⟨v, hK, hy⟩ := wpOp_read hi hkr h
        refine wpAny_take hi hs hf hr (strict_frame _ _) (v := v) ?_ hK
        rcases hy with ⟨hw, hrun⟩ | hy
        · exact .inl ⟨hw, ((kindW_run (P := P) hk a.eval).1 _ _ _ hrun).2⟩
        · exact .inr hy
      · obtain ⟨v, hK, hy⟩ := wpOp_read hi hk h
        generalize hwt : waitArr md ops listed i = arr at hwait
        unfold waitB at hwait
        rw [List.all_eq_true] at hwait
        have hall : ∀ j oj, ops[j]? = some oj → (if arr.getD j false then (j == i || oj.after.any fun e => Region.binds md e && arr.getD e.on false && decide (e.on < ops.size)) && !listed.getD j true else listed.getD j true || kindR oj) = true := fun j oj hj => by
          have h1 := hwait j (List.mem_range.2 (Array.getElem?_eq_some_iff.1 hj).1)
          rw [hj] at h1; exact h1
        have hin : ∀ j, decide (j < ops.size) = true → ∃ oj, ops[j]? = some oj := fun j hj => ⟨_, Array.getElem?_eq_getElem (of_decide_eq_true hj)⟩
        refine wpAny_read hi (Region.noSelect_spec hs) (fun j => arr.getD j false && decide (j < ops.size)) (v := v) ?_ fuel listed a w (Region.free_spec hi hf) ?_ ?_ (by simpa using hr) ?_ hK
        · intro j oj hj hw hne
          simp only [Bool.and_eq_true] at hw
          have h1 := hall j oj hj
          rw [if_pos hw.1] at h1
          simp only [Bool.and_eq_true, Bool.or_eq_true, beq_iff_eq, hne, false_or] at h1
          obtain ⟨e, he, hb⟩ := Array.any_eq_true'.1 h1.1
          simp only [Bool.and_eq_true] at hb
          exact ⟨e, he, hb.1.1, by simp only [Bool.and_eq_true]; exact ⟨hb.1.2, hb.2⟩⟩
        · intro j hw
          simp only [Bool.and_eq_true] at hw
          obtain ⟨oj, hj⟩ := hin j hw.2
          have h1 := hall j oj hj
          rw [if_pos hw.1] at h1
          simp only [Bool.and_eq_true, Bool.not_eq_true'] at h1
          exact h1.2
        · intro j oj hj hw hu
          have hlt : decide (j < ops.size) = true := decide_eq_true (Array.getElem?_eq_some_iff.1 hj).1
          rw [hlt, Bool.and_true] at hw
          have h1 := hall j oj hj
          rw [if_neg (by rw [hw]; decide), hu, Bool.false_or] at h1
          exact h1
        · rcases hy with ⟨hw, hrun⟩ | hy
          · exact .inl ⟨hw, fun x hx => by subst hx; exact hrun⟩
          · exact .inr hy
  · simp only [Bool.and_eq_true, beq_iff_eq] at hb
    exact wpAny_all hb.1 (by simp) (fun j hj => by
      have : j = i := by simpa using hj
      subst this; exact h)

theorem wpAny_ord (hs : Region.noSelect ops = true) : ∀ (ord : List Nat) (listed : Array Bool) (a : Act) (w : World), ordB md ops ord listed = true →
    wpOps P ops (Strict Q) ord a w → wpAny P md ops (Strict Q) ord.length listed a w
  | [], listed, a, w, hb, h => ⟨by simpa [ordB] using hb, h⟩
  | i :: rest, listed, a, w, hb, h => by
    simp only [ordB, Bool.and_eq_true] at hb
    rw [wpOps_cons] at h
    exact wpAny_step hs hb.1 (wpOp_mono (fun a' w' h' => wpAny_ord hs rest _ a' w' hb.2 h') h)

/-- the order by numbers -/
def regionB (ops : Array Oper) (ord : List Nat) : Bool := ord.length == ops.size && Region.noSelect ops && ordB .any ops ord (Array.replicate ops.size false)

/-- THE LAW, in the order of the text: the region as one that does not draw. -/
theorem wp_region_text {id : Nat} {l : List Oper} {a : Act} {w : World} (hm : P.follows .mixedOrders = true) (hB : regionB l.toArray (List.range l.length) = true)
    (h : wpList P l.toArray (Strict Q) l a w.drew) : (Code.region id l.toArray true).wp P Q a w := by
  unfold regionB at hB
  simp only [Bool.and_eq_true, beq_iff_eq] at hB
  refine Code.wp_mono Strict.imp (wp_region_any hm ?_)
  rw [← hB.1.1]
  refine wpAny_ord hB.1.2 _ _ a _ (by rw [hB.1.1]; exact hB.2) ?_
  rw [List.range_eq_range', wpOps_eq_wpList l 0 (fun j => by simp)]
  exact h

end
end Go.Proofs.YtiofonffmplfmaaGreat

namespace Go.Proofs.YtiofonffmplfmaaGreat
open Go.RowKit
set_option linter.unusedSimpArgs false

theorem sizeChain : (Tryz.prog.info? 237).map (·.size) = some 8 := by kernel_rfl
theorem first_val (tag k : Nat) (ht : tag < 256) : bits .xor .u32 (2654435769 * ((k : Int) + 1) % 4294967296) ((tag : Int) * 16777216) = (firstN tag k : Int) := by
  have := u32_xor_nat (2654435769 * (k + 1) % 4294967296) (tag * 16777216) (Nat.mod_lt _ (by decide)) (by omega)
  unfold firstN
  rw [← this]
  congr 1
set_option maxHeartbeats 1000000 in
theorem first_any (tag : Nat) (h : tag < 256) (w : World) :
    Calls Tryz.prog 117 #[.int .u8 (tag : Int)] w fun e w' => e = .returned (.agg (va 8 (iv .u32 (firstN tag)))) ∧ Below w.heap.size w w' := by
  go_enter Tryz.func117, Tryz.ntmps117
  go_wp2
  go_loopw [5] (fun i wr => ∃ k : Nat, k ≤ 8 ∧ i = .int .i64 k ∧ Blk wr w.heap.size 237 (va 8 (iv .u32 fun _ => 0)) ∧ Blk wr (w.heap.size + 1) 237 (va 8 (iv .u32 (fupN k (firstN tag) fun _ => 0))) ∧ Below w.heap.size w wr) (fun i _ => 8 - (intOf i).toNat)
  case atStart =>
    refine ⟨0, by omega, rfl, ?_, ?_, ?_⟩
    · exact (Blk.new w _ _).alloc _
    · have e : (w.alloc (.cells (va 8 (iv .u32 fun _ => 0)) 237)).heap.size = w.heap.size + 1 := by simp
      rw [← e]
      exact Blk.new _ _ _
    · exact ((Below.refl _ _).alloc (Nat.le_refl _) _).alloc (by simp) _
  case round =>
    obtain ⟨k, hk, rfl, h0, h1, hb⟩ := hrel
    by_cases hlt : k < 8
    · have HV : Hid (bits .xor .u32 (2654435769 * ((k : Int) + 1) % 4294967296) ((tag : Int) * 16777216) = (firstN tag k : Int)) := first_val tag k h
      have ck := h1.cv hlt
      have fk := h1.frozen k
      go_wp2
      go_roundw
      case rel =>
        refine ⟨k + 1, by omega, by go_num, h0.put_other _ _ (by omega), ?_, hb.setCell (by simp) _⟩
        have := h1.put k (.int .u32 (firstN tag k : Int))
        rw [va_set, fup_step, ← HV.out] at this
        exact this
      case measure => simp [intOf]; omega
    · obtain rfl : k = 8 := by omega
      rw [fup_all _ 8 8 _ _ (Nat.le_refl _)] at h1
      go_wp2_with (first
        | (refine wpList_load_row (by rfl) 237 _ (by rfl) (w.heap.size + 1) (by rfl) 237 (va 8 (iv .u32 (firstN tag))) (0, 0) _ h1 Tryz.underlying237 (by rfl) (sizeChain.trans (by rw [va_size])) ?_; simp only [Act.put, List.setIfInBounds_toArray, List.set_cons_zero, List.set_cons_succ])
        | (refine wpList_store_row (by rfl) 237 _ _ (by rfl) w.heap.size (va 8 (iv .u32 (firstN tag))) (by rfl) (by rfl) 237 _ h0 (sizeChain.trans (by rw [va_size])) (by rw [va_size, va_size]) (iv_one _ _ _) ?_; simp only [Act.put, List.setIfInBounds_toArray, List.set_cons_zero, List.set_cons_succ])
        | fail)
      try simp only [Exit.inBlock, Exit.then]
      refine bodyPost_ret (results_cell_row Tryz.results117 _ _ w.heap.size 237 (va 8 (iv .u32 (firstN tag))) (0, 0) _ rfl (h0.set _) Tryz.underlying237 rfl (sizeChain.trans (by rw [va_size]))) rfl ?_
      exact ⟨rfl, below_setRow hb (Nat.le_refl _) _⟩

end Go.Proofs.YtiofonffmplfmaaGreat

namespace Go.Proofs.YtiofonffmplfmaaGreat
open Go Go.RowKit

/-- F, and from place a on m places of G -/
def overF (F : Nat → Value) (a m : Nat) (G : Nat → Value) : Nat → Value := fun i => if a ≤ i ∧ i < a + m then G (i - a) else F i
theorem splice_range (n a m : Nat) (F G : Nat → Value) (h : a + m ≤ n) :
    splice ((List.range n).map F) a ((List.range m).map G) = (List.range n).map (overF F a m G) := by
  apply List.ext_getElem?
  intro i
  unfold splice
  have l1 : (((List.range n).map F).take a).length = a := by simp; omega
  have l2 : ((List.range m).map G).length = m := by simp
  by_cases h1 : i < a
  · rw [List.getElem?_append_left (by omega), List.getElem?_take_of_lt h1]
    have : overF F a m G i = F i := if_neg (by omega)
    simp [show i < n by omega, this]
  · rw [List.getElem?_append_right (by omega), l1]
    by_cases h2 : i < a + m
    · rw [List.getElem?_append_left (by omega)]
      have : overF F a m G i = G (i - a) := if_pos (by omega)
      simp [show i < n by omega, show i - a < m by omega, this]
    · rw [List.getElem?_append_right (by omega), List.getElem?_drop, l2, show a + m + (i - a - m) = i from by omega]
      have : overF F a m G i = F i := if_neg (by omega)
      by_cases h3 : i < n
      · simp [h3, this]
      · simp [h3]
theorem splice_va (n a m : Nat) (F G : Nat → Value) (h : a + m ≤ n) : (splice ((List.range n).map F) a ((List.range m).map G)).toArray = va n (overF F a m G) := by
  rw [splice_range n a m F G h]; rfl
theorem over_fup (κ : IntKind) (n a m : Nat) (f g : Nat → Nat) : va n (overF (iv κ (fupN a f g)) a m fun j => .int κ ((f (a + j) : Nat) : Int)) = va n (iv κ (fupN (a + m) f g)) := va_congr fun i hi => by
  show overF (iv κ (fupN a f g)) a m (fun j => .int κ ((f (a + j) : Nat) : Int)) i = Value.int κ ((fupN (a + m) f g i : Nat) : Int)
  unfold overF fupN
  by_cases h1 : a ≤ i ∧ i < a + m
  · rw [if_pos h1, if_pos h1.2]
    show Value.int κ ((f (a + (i - a)) : Nat) : Int) = _
    rw [show a + (i - a) = i from by omega]
  · rw [if_neg h1]
    show Value.int κ ((if i < a then f i else g i : Nat) : Int) = _
    by_cases h2 : i < a
    · rw [if_pos h2, if_pos (by omega)]
    · rw [if_neg h2, if_neg (by omega)]
theorem mem_iv_one (κ : IntKind) (m : Nat) (f : Nat → Nat) : ∀ v ∈ (List.range m).map (fun j => Value.int κ ((f j : Nat) : Int)), v.oneCell' = true := fun v hv => by
  obtain ⟨j, _, rfl⟩ := List.mem_map.1 hv
  rfl
end Go.Proofs.YtiofonffmplfmaaGreat

namespace Go.Proofs.YtiofonffmplfmaaGreat
open Go.RowKit
set_option linter.unusedSimpArgs false
set_option linter.unusedVariables false

/-- the bytes up to place m -/
def zeroN (s : Nat → Nat) (n : Nat) : Nat → Nat := fun j => if j < n then s j else if j = n then 128 else 0
def endN (s : Nat → Nat) (n many : Nat) : Nat → Nat := fun j => if j < n then s j else if j = n then 128 else if j < padLen n - 8 then 0 else dig many (j - (padLen n - 8))
def bytesL (f : Nat → Nat) (m : Nat) : List Value := (List.range m).map fun j => Value.int .u8 ((f j : Nat) : Int)
theorem bytesL_succ (f : Nat → Nat) (m : Nat) : bytesL f (m + 1) = bytesL f m ++ [Value.int .u8 ((f m : Nat) : Int)] := by simp [bytesL, List.range_succ]
theorem bytesL_length (f : Nat → Nat) (m : Nat) : (bytesL f m).length = m := by simp [bytesL]
theorem bytesL_at (f : Nat → Nat) (m j : Nat) (h : j < m) : (bytesL f m)[j]? = some (.int .u8 ((f j : Nat) : Int)) := by simp [bytesL, h]
theorem bytesL_congr {f g : Nat → Nat} {m : Nat} (h : ∀ j, j < m → f j = g j) : bytesL f m = bytesL g m := List.map_congr_left fun j hj => by rw [h j (List.mem_range.1 hj)]
theorem bytesL_add (f : Nat → Nat) (m : Nat) : ∀ k, bytesL f (m + k) = bytesL f m ++ bytesL (fun j => f (m + j)) k
  | 0 => by simp [bytesL]
  | k + 1 => by rw [← Nat.add_assoc, bytesL_succ, bytesL_add f m k, bytesL_succ, List.append_assoc]

theorem own_mono {w : World} {B B' e size n : Nat} {v : Value} {xs : List Value} (h : w.ownsRow B e size v n xs) (hB : B' ≤ B) : w.ownsRow B' e size v n xs :=
  ⟨h.1, h.2.imp id fun ⟨g, cap, cur, a, b, r⟩ => ⟨g, cap, cur, a, Nat.le_trans hB b, r⟩⟩
theorem own_form {w : World} {B e size n : Nat} {v : Value} {xs : List Value} (h : w.ownsRow B e size v n xs) (hn : 0 < n) : ∃ g cap, v = .slice (some ⟨g, 0, none⟩) n cap ∧ B ≤ g ∧ g < w.heap.size := by
  rcases h.2 with ⟨_, h0⟩ | ⟨g, cap, cur, rfl, hb, hg, _⟩
  · omega
  · exact ⟨g, cap, rfl, hb, (Array.getElem?_eq_some_iff.1 hg).1⟩
theorem zero_first (s : Nat → Nat) (n : Nat) : bytesL s n ++ [Value.int .u8 128] = bytesL (zeroN s n) (n + 1) := by
  rw [bytesL_succ, bytesL_congr (f := zeroN s n) (g := s) (fun j hj => if_pos hj)]
  have : zeroN s n n = 128 := by unfold zeroN; rw [if_neg (by omega), if_pos rfl]
  rw [this]
  rfl
theorem zero_step (s : Nat → Nat) (n m : Nat) (h : n < m) : bytesL (zeroN s n) (m + 1) = bytesL (zeroN s n) m ++ [Value.int .u8 0] := by
  rw [bytesL_succ]
  have : zeroN s n m = 0 := by unfold zeroN; rw [if_neg (by omega), if_neg (by omega)]
  rw [this]
  rfl
theorem end_last (s : Nat → Nat) (n many : Nat) : bytesL (zeroN s n) (padLen n - 8) ++ bytesL (dig many) 8 = bytesL (endN s n many) (padLen n) := by
  have g := padLen_ge n
  have e : bytesL (endN s n many) (padLen n) = bytesL (endN s n many) (padLen n - 8 + 8) := by rw [show padLen n - 8 + 8 = padLen n from by omega]
  rw [e, bytesL_add]
  congr 1
  · refine bytesL_congr fun j hj => ?_
    unfold zeroN endN
    by_cases h1 : j < n
    · rw [if_pos h1, if_pos h1]
    · rw [if_neg h1, if_neg h1]
      by_cases h2 : j = n
      · rw [if_pos h2, if_pos h2]
      · rw [if_neg h2, if_neg h2, if_pos hj]
  · refine bytesL_congr fun j hj => ?_
    unfold endN
    rw [if_neg (by omega), if_neg (by omega), if_neg (by omega), show padLen n - 8 + j - (padLen n - 8) = j from by omega]
theorem ownBelow {w w' : World} {B e size n : Nat} {v : Value} {xs : List Value} (h : w.ownsRow B e size v n xs) (hb : Below w.heap.size w w') : w'.ownsRow B e size v n xs := by
  refine ⟨h.1, ?_⟩
  rcases h.2 with hn | ⟨g, cap, cur, rfl, hg, hgg, rest⟩
  · exact .inl hn
  · exact .inr ⟨g, cap, cur, rfl, hg, (hb.block g (Array.getElem?_eq_some_iff.1 hgg).1).trans hgg, rest⟩
theorem ownSetRow {w : World} {B e size n g2 cap g : Nat} {xs : List Value} (h : w.ownsRow B e size (.slice (some ⟨g2, 0, none⟩) n cap) n xs) (hne : g2 ≠ g) (cs : Array Value) : (w.setRow g cs).ownsRow B e size (.slice (some ⟨g2, 0, none⟩) n cap) n xs := by
  refine ⟨h.1, ?_⟩
  rcases h.2 with ⟨hn, _⟩ | ⟨g', cap', cur, hv, hg, hgg, rest⟩
  · cases hn
  · refine .inr ⟨g', cap', cur, hv, hg, ?_, rest⟩
    have : g2 = g' := by injection hv with hv; injection hv with hv; injection hv
    subst this
    rw [setRow_other w g g2 cs hne]
    exact hgg
theorem size8 : (Tryz.prog.info? 248).map (·.size) = some 8 := by kernel_rfl

set_option maxRecDepth 100000 in
set_option maxHeartbeats 4000000 in
theorem padded_any (g off n many : Nat) (s : Nat → Nat) (hn : n ≤ 31) (hm : many < 9223372036854775808) (w : World) (hs : ∀ j, j < n → w.cell? ⟨g, off + j, none⟩ = some (.int .u8 ((s j : Nat) : Int))) :
    Calls Tryz.prog 119 #[.slice (some ⟨g, off, none⟩) n n, .int .i64 (many : Int)] w fun e w' => ∃ v, e = .returned v ∧ w'.ownsRow w.heap.size 5 1 v (padLen n) (bytesL (endN s n many) (padLen n)) ∧ Below w.heap.size w w' := by
  have HM : Hid (many < 9223372036854775808) := hm
  clear hm
  obtain ⟨i0, hi, hz0, hz1, hz2⟩ := info_parts infoU8
  go_enter Tryz.func119, Tryz.ntmps119
  have HO : Hid (∀ o : Obj, ∀ b, (some ⟨g, off, none⟩ : Option Addr) = some b → ∀ j u, (bytesL s n)[j]? = some u → (w.alloc o).cell? (b.add j) = some u) := fun o b hb j u hu => by
    obtain rfl := Option.some.inj hb
    have hj : j < n := by
      have := (List.getElem?_eq_some_iff.1 hu).1
      rwa [bytesL_length] at this
    rw [Addr.add_mid, World.cell?_alloc_some w _ o (by rw [hs j hj]; rfl), hs j hj, ← hu, bytesL_at s n j hj]
  have HS := hs
  clear hs HS
  go_wp2_with (first
    | (at_builtin; refine wpList_append_grows _ rfl _ _ 165 rfl 5 i0 (.int .u8 0) 1 1 Tryz.underlying165 hi hz0 hz1 hz2 rfl (by decide) (some ⟨g, off, none⟩) n n (bytesL s n) rfl (fun h => nomatch h) (by rw [bytesL_length]; omega) (HO.out _) ⟨w.heap.size, 0, none⟩ 1 1 [.int .u8 128] rfl rfl (cell_one_new _ _ _) (fun x hx => by simp at hx; subst hx; rfl) (by omega) (by unfold maxLen; omega) (by omega) ?_)
    | go_in)
  intro v1 w1 hown1 hgrow1
  have hb1 : Below w.heap.size w w1 := ((Below.refl _ _).alloc (Nat.le_refl _) _).grown hgrow1 (by simp) (fun k hk => nomatch hk)
  have hown := own_mono hown1 (Nat.le_succ w.heap.size)
  rw [zero_first] at hown
  clear hown1 hgrow1 HO
  obtain ⟨g1, cap1, rfl, hg1, hg1'⟩ := own_form hown (Nat.succ_pos n)
  have pg := padLen_ge n
  have pl : padLen n = 32 * ((n + 8) / 32 + 1) := rfl
  go_wp2_with fail
  go_loopw [5] (fun v wr => ∃ m g2 cap2 : Nat, n + 1 ≤ m ∧ m ≤ padLen n - 8 ∧ v = .slice (some ⟨g2, 0, none⟩) m cap2 ∧ wr.ownsRow w.heap.size 5 1 v m (bytesL (zeroN s n) m) ∧ Below w.heap.size w wr) (fun v _ => padLen n - 8 - (match v with | .slice _ k _ => k | _ => 0))
  case atStart => exact ⟨n + 1, g1, cap1, Nat.le_refl _, by omega, rfl, hown, hb1⟩
  case round =>
    clear hown hb1
    obtain ⟨m, g2, cap2, hm1, hm2, rfl, hown, hb⟩ := hrel
    have hv := hown.lt
    by_cases hlt : m < padLen n - 8
    · have t1 : ¬ ((m : Int) % 32 = 24) := by omega
      have hmm : m < 64 := by omega
      have HZ : Hid (bytesL (zeroN s n) (m + 1) = bytesL (zeroN s n) m ++ [Value.int .u8 0]) := zero_step s n m (by omega)
      generalize bytesL (zeroN s n) m = L at *
      clear pl
      go_wp2_with (first
        | (at_builtin; refine wpList_append_own _ rfl _ _ 165 rfl w.heap.size 5 i0 (.int .u8 0) 1 1 Tryz.underlying165 hi hz0 hz1 hz2 rfl (by decide) _ _ _ rfl (hown.alloc _) ⟨wr.heap.size, 0, none⟩ 1 1 [.int .u8 0] rfl rfl (cell_one_new _ _ _) (fun x hx => by simp at hx; subst hx; rfl) (by unfold maxLen; omega) (by omega) (by have := hb.size; simp; omega) ?_)
        | go_in)
      intro v' w2 hown' hgrow _
      have hb2 : Below w.heap.size w w2 := (hb.alloc (by have := hb.size; omega) _).grown hgrow (by have := hb.size; simp; omega) (fun k hk => (hv k hk).1)
      rw [← HZ.out] at hown'
      obtain ⟨g3, cap3, rfl, hg3, hg3'⟩ := own_form hown' (Nat.succ_pos m)
      clear hown hv hgrow hb
      go_wp2_with fail
      go_roundw
      case rel => exact ⟨m + 1, g3, cap3, by omega, by omega, rfl, hown', hb2⟩
      case measure => simp; omega
    · obtain rfl : m = padLen n - 8 := by omega
      have t1 : ((padLen n - 8 : Nat) : Int) % 32 = 24 := by omega
      have hB : Hid (∀ w : World, Calls Tryz.prog 122 #[.int .u64 (many : Int)] w fun e w' => e = .returned (.agg (va 8 (iv .u8 (dig many)))) ∧ Below w.heap.size w w') := fun w => bytes64_va many w
      have HE : Hid (bytesL (zeroN s n) (padLen n - 8) ++ bytesL (dig many) 8 = bytesL (endN s n many) (padLen n)) := end_last s n many
      have HP : Hid (padLen n - 8 + 8 = padLen n) := by show _ = _; omega
      have hpl : padLen n - 8 ≤ 64 := by have := padLen_lt n; omega
      generalize bytesL (zeroN s n) (padLen n - 8) = L at *
      generalize padLen n - 8 = m at *
      clear pl pg
      have hmu : (many : Int) % 18446744073709551616 = (many : Int) := by have := HM.out; omega
      go_wp2_with fail
      refine (hB.out _).mono ?_
      rintro e w2 ⟨rfl, hb2⟩
      have hown2 : w2.ownsRow w.heap.size 5 1 (.slice (some ⟨g2, 0, none⟩) m cap2) m L := ownBelow hown hb2
      have hb' : Below w.heap.size w w2 := hb.trans (hb2.mono hb.size)
      have hg2l : g2 < w2.heap.size := (hown2.lt g2 rfl).2
      clear hown hb hb2 hB hv hmu
      have n0 : Blk (w2.alloc (.cells #[.int .u8 0, .int .u8 0, .int .u8 0, .int .u8 0, .int .u8 0, .int .u8 0, .int .u8 0, .int .u8 0] 248)) w2.heap.size 248 (va 8 (iv .u8 fun _ => 0)) := Blk.new _ _ _
      have A1 : Hid (((w2.alloc (.cells #[.int .u8 0, .int .u8 0, .int .u8 0, .int .u8 0, .int .u8 0, .int .u8 0, .int .u8 0, .int .u8 0] 248)).setRow w2.heap.size (va 8 (iv .u8 (dig many)))).ownsRow w.heap.size 5 1 (.slice (some ⟨g2, 0, none⟩) m cap2) m L) := ownSetRow (hown2.alloc _) (by omega) _
      have A2 : Hid (∀ j u, (bytesL (dig many) 8)[j]? = some u → ((w2.alloc (.cells #[.int .u8 0, .int .u8 0, .int .u8 0, .int .u8 0, .int .u8 0, .int .u8 0, .int .u8 0, .int .u8 0] 248)).setRow w2.heap.size (va 8 (iv .u8 (dig many)))).cell? ((⟨w2.heap.size, 0, none⟩ : Addr).add j) = some u) := fun j u hu => by
        have := (n0.set (va 8 (iv .u8 (dig many)))).range 0 8 (Nat.le_refl _) j u (by rw [← hu]; simp [bytesL, iv])
        rw [Addr.add_mid]
        exact this
      have A3 : Hid (Below w.heap.size w ((w2.alloc (.cells #[.int .u8 0, .int .u8 0, .int .u8 0, .int .u8 0, .int .u8 0, .int .u8 0, .int .u8 0, .int .u8 0] 248)).setRow w2.heap.size (va 8 (iv .u8 (dig many))))) := below_setRow (hb'.alloc hb'.size _) hb'.size _
      have A4 : Hid (w.heap.size ≤ ((w2.alloc (.cells #[.int .u8 0, .int .u8 0, .int .u8 0, .int .u8 0, .int .u8 0, .int .u8 0, .int .u8 0, .int .u8 0] 248)).setRow w2.heap.size (va 8 (iv .u8 (dig many)))).heap.size) := A3.out.size
      have A5 := hown2.lt
      clear hown2 hb'
      go_wp2_with (first
        | (refine wpList_store_row (by rfl) 248 _ _ (by rfl) w2.heap.size (va 8 (iv .u8 (dig many))) (by rfl) (by rfl) 248 _ n0 (size8.trans (by rw [va_size])) (by rw [va_size, va_size]) (iv_one _ _ _) ?_; simp only [Act.put, List.setIfInBounds_toArray, List.set_cons_zero, List.set_cons_succ])
        | (at_builtin; refine wpList_append_own _ rfl _ _ 165 rfl w.heap.size 5 i0 (.int .u8 0) 1 1 Tryz.underlying165 hi hz0 hz1 hz2 rfl (by decide) _ _ _ rfl A1.out ⟨w2.heap.size, 0, none⟩ 8 8 (bytesL (dig many) 8) rfl (by rw [bytesL_length]) A2.out (mem_iv_one _ _ _) (by unfold maxLen; omega) (by omega) A4.out ?_)
        | go_in)
      intro v3 w3 hown3 hgrow _
      have hb3 : Below w.heap.size w w3 := A3.out.grown hgrow A4.out (fun k hk => (A5 k hk).1)
      rw [HE.out, HP.out] at hown3
      clear A1 A2 A3 A4 A5 hgrow n0
      go_wp2_with fail
      go_ret
      exact ⟨_, rfl, hown3, hb3⟩
end Go.Proofs.YtiofonffmplfmaaGreat

namespace Go.Proofs.YtiofonffmplfmaaGreat
open Go.RowKit
set_option linter.unusedSimpArgs false
set_option linter.unusedVariables false

/-- a hasher's cells -/
def hashV (c p : Nat → Nat) (m : Nat) : Nat → Value := fun i => if i < 8 then .int .u32 ((c i : Nat) : Int) else if i < 40 then .int .u8 ((p (i - 8) : Nat) : Int) else .int .i64 (m : Int)

set_option maxHeartbeats 4000000 in
theorem new_any (tag : Nat) (h : tag < 256) (w : World) :
    Calls Tryz.prog 114 #[.int .u8 (tag : Int)] w fun e w' => ∃ g, e = .returned (.pointer (some ⟨g, 0, none⟩)) ∧ w.heap.size ≤ g ∧ Blk w' g 241 (va 41 (hashV (firstN tag) (fun _ => 0) 0)) ∧ Below w.heap.size w w' := by
  have hF : Hid (∀ w : World, Calls Tryz.prog 117 #[.int .u8 (tag : Int)] w fun e w' => e = .returned (.agg #[.int .u32 ((firstN tag 0 : Nat) : Int), .int .u32 ((firstN tag 1 : Nat) : Int), .int .u32 ((firstN tag 2 : Nat) : Int), .int .u32 ((firstN tag 3 : Nat) : Int), .int .u32 ((firstN tag 4 : Nat) : Int), .int .u32 ((firstN tag 5 : Nat) : Int), .int .u32 ((firstN tag 6 : Nat) : Int), .int .u32 ((firstN tag 7 : Nat) : Int)]) ∧ Below w.heap.size w w') := fun w => first_any tag h w
  generalize firstN tag = c at *
  have hZ : Hid (#[Value.int .u32 ((c 0 : Nat) : Int), Value.int .u32 ((c 1 : Nat) : Int), Value.int .u32 ((c 2 : Nat) : Int), Value.int .u32 ((c 3 : Nat) : Int), Value.int .u32 ((c 4 : Nat) : Int), Value.int .u32 ((c 5 : Nat) : Int), Value.int .u32 ((c 6 : Nat) : Int), Value.int .u32 ((c 7 : Nat) : Int), .int .u8 0, .int .u8 0, .int .u8 0, .int .u8 0, .int .u8 0, .int .u8 0, .int .u8 0, .int .u8 0, .int .u8 0, .int .u8 0, .int .u8 0, .int .u8 0, .int .u8 0, .int .u8 0, .int .u8 0, .int .u8 0, .int .u8 0, .int .u8 0, .int .u8 0, .int .u8 0, .int .u8 0, .int .u8 0, .int .u8 0, .int .u8 0, .int .u8 0, .int .u8 0, .int .u8 0, .int .u8 0, .int .u8 0, .int .u8 0, .int .u8 0, .int .u8 0, .int .i64 0] = va 41 (hashV c (fun _ => 0) 0)) := by
    show _ = _
    simp [va, hashV, List.range_succ]
  go_enter Tryz.func114, Tryz.ntmps114
  go_wp2_with fail
  refine (hF.out _).mono ?_
  rintro e w1 ⟨rfl, hb1⟩
  go_wp2_with fail
  go_returns
  refine ⟨w1.heap.size, rfl, hb1.size, ?_, hb1.alloc hb1.size _⟩
  rw [← hZ.out]
  exact Blk.new _ _ _
end Go.Proofs.YtiofonffmplfmaaGreat

namespace Go.Proofs.YtiofonffmplfmaaGreat
open Go Go.RowKit

/-- the byte of a text at a place -/
def byteAt (s : ByteArray) (i : Nat) : Nat := (s.data.toList.getD i 0).toNat
theorem byteAt_lt (s : ByteArray) (j : Nat) : byteAt s j < 256 := UInt8.toNat_lt _
theorem bytes_prefix (s : ByteArray) (n : Nat) (h : n ≤ s.size) : ((s.extract 0 n).data.map fun b => Value.int .u8 (b.toNat : Int)).toList = bytesL (byteAt s) n := by
  have hs : s.data.toList.length = s.size := Array.length_toList
  apply List.ext_getElem?
  intro i
  rw [Array.toList_map, List.getElem?_map]
  have e : (s.extract 0 n).data.toList = s.data.toList.take n := by
    rw [ByteArray.data_extract]
    simp
  rw [e]
  by_cases hi : i < n
  · rw [bytesL_at _ _ _ hi, List.getElem?_take_of_lt hi, List.getElem?_eq_getElem (by omega)]
    unfold byteAt
    rw [List.getD_eq_getElem?_getD, List.getElem?_eq_getElem (by omega)]
    rfl
  · rw [List.getElem?_eq_none (by rw [List.length_take]; omega), List.getElem?_eq_none (by rw [bytesL_length]; omega)]
    rfl
theorem byteAt_drop (s : ByteArray) (a j : Nat) : byteAt (s.extract a s.size) j = byteAt s (a + j) := by
  unfold byteAt
  rw [ByteArray.data_extract]
  have hs : s.size = s.data.size := rfl
  simp only [List.getD_eq_getElem?_getD, Array.toList_extract, List.extract_eq_take_drop]
  rw [List.getElem?_take, List.getElem?_drop]
  split
  · rfl
  · rw [List.getElem?_eq_none (by simp; omega)]
section
variable {P : Program}
theorem run_copy_string (w : World) (dT sT ty elem : TypeId) (g o dLen dCap : Nat) (s : ByteArray) (cur : Array Value) (t : TypeId) (n : Nat)
    (hu : P.underlying dT = some (.slice elem)) (hs : (P.info? elem).map (·.size) = some 1)
    (hg : w.heap[g]? = some (.cells cur t (0, 0))) (hn : n = Nat.min s.size dLen) (hfit : o + n ≤ cur.size) :
    (Builtin.copy_ #[dT, sT] ty #[.slice (some ⟨g, o, none⟩) dLen dCap, .string s]).run P w =
      .ok (goInt n) (w.setRow g (splice cur.toList o (bytesL (byteAt s) n)).toArray) := by
  have hns : n ≤ s.size := by rw [hn]; exact Nat.min_le_left _ _
  have eL : List.take n (List.map (fun b : UInt8 => Value.int .u8 (b.toNat : Int)) s.data.toList) = bytesL (byteAt s) n := by
    rw [← bytes_prefix s n hns]
    simp
  have hst := run_storeCells_at P g o t (List.take n (List.map (fun b : UInt8 => Value.int .u8 (b.toNat : Int)) s.data.toList)) 0 cur w hg (by rw [eL, bytesL_length]; simpa using hfit) (by rw [eL]; exact mem_iv_one _ _ _)
  have e2 : (w.setRow g (cur.toList.take (o + 0) ++ List.take n (List.map (fun b : UInt8 => Value.int .u8 (b.toNat : Int)) s.data.toList) ++ cur.toList.drop (o + 0 + (List.take n (List.map (fun b : UInt8 => Value.int .u8 (b.toNat : Int)) s.data.toList)).length)).toArray) = w.setRow g (splice cur.toList o (bytesL (byteAt s) n)).toArray := by
    rw [eL]
    unfold splice
    rw [List.append_assoc, Nat.add_zero]
  rw [e2] at hst
  cases hq : P.info? elem with
  | none => simp [hq] at hs
  | some i =>
    have hi : i.size = 1 := by simpa [hq] using hs
    generalize w.setRow g (splice cur.toList o (bytesL (byteAt s) n)).toArray = W at *
    simp [Builtin.copy_, run_underlying hu, Builtin.lenOf, Builtin.firstCells, sizeOf, typeInfo, hq, ← hn, hst]
/-- the same as one step of a region that draws its order -/
theorem step_copy_string {ops : Array Oper} {o : Oper} {a : Act} {w : World} {K : Act → World → Prop} {Q : Exit → Act → World → Prop} {E : Prop} (hgd : o.guard = none) (d s : Operand) (dT sT : TypeId)
    (ho : o.op = .call { callee := .builtin .copy, args := #[d, s], argTypes := #[dT, sT] }) (elem : TypeId) (hu : P.underlying dT = some (.slice elem)) (hsz : (P.info? elem).map (·.size) = some 1)
    (g off dLen dCap : Nat) (str : ByteArray) (hd : a.eval d = .slice (some ⟨g, off, none⟩) dLen dCap) (hs : a.eval s = .string str)
    (cur : Array Value) (t : TypeId) (hg : w.heap[g]? = some (.cells cur t (0, 0))) (n : Nat) (hn : n = Nat.min str.size dLen) (hfit : off + n ≤ cur.size)
    (h : K (a.put o.dst (goInt n)) (w.setRow g (splice cur.toList off (bytesL (byteAt str) n)).toArray)) :
    if Region.wanted o (yielded ops a.tmps) = true then Oper.wp P o a w K Q else E := by
  have hw : Region.wanted o (yielded ops a.tmps) = true := by simp [Region.wanted, hgd]
  rw [if_pos hw]
  have hrun := run_copy_string (P := P) w dT sT o.type elem g off dLen dCap str cur t n hu hsz hg hn hfit
  unfold Oper.wp
  simp [execOp, ho, resolve, invoke, builtin, hd, hs, hrun, Result.andThen]
  exact h
end
/-- n bytes laid into a piece from place r on -/
def laidN (p : Nat → Nat) (r n : Nat) (b : Nat → Nat) : Nat → Nat := fun j => if r ≤ j ∧ j < r + n then b (j - r) else p j
theorem hash_copy (c p : Nat → Nat) (m r n : Nat) (b : Nat → Nat) (h : r + n ≤ 32) : (splice (va 41 (hashV c p m)).toList (8 + r) (bytesL b n)).toArray = va 41 (hashV c (laidN p r n b) m) := by
  rw [va_toList]
  have e := splice_va 41 (8 + r) n (hashV c p m) (fun j => Value.int .u8 ((b j : Nat) : Int)) (by omega)
  refine Eq.trans (by rfl) (e.trans ?_)
  refine va_congr fun i hi => ?_
  unfold overF
  by_cases h1 : 8 + r ≤ i ∧ i < 8 + r + n
  · rw [if_pos h1]
    unfold hashV laidN
    rw [if_neg (by omega), if_pos (by omega), if_pos (by omega), show i - 8 - r = i - (8 + r) from by omega]
  · rw [if_neg h1]
    unfold hashV laidN
    by_cases h2 : i < 8
    · rw [if_pos h2, if_pos h2]
    · rw [if_neg h2, if_neg h2]
      by_cases h3 : i < 40
      · rw [if_pos h3, if_pos h3, if_neg (by omega)]
      · rw [if_neg h3, if_neg h3]
theorem hash_many (c p : Nat → Nat) (m m' : Nat) : va 41 (upd (hashV c p m) 40 (.int .i64 (m' : Int))) = va 41 (hashV c p m') := va_congr fun i hi => by
  unfold upd hashV
  by_cases h : i = 40
  · subst h
    rfl
  · rw [if_neg h]
    by_cases h2 : i < 8
    · rw [if_pos h2, if_pos h2]
    · rw [if_neg h2, if_neg h2, if_pos (by omega), if_pos (by omega)]
theorem hash_chain (c d p : Nat → Nat) (m : Nat) : va 41 (over (hashV c p m) 0 ((List.range 8).map (iv .u32 d))) = va 41 (hashV d p m) := va_congr fun i hi => by
  unfold over hashV
  by_cases h2 : i < 8
  · rw [if_pos (by simp; omega), if_pos h2]
    simp [h2, iv]
  · rw [if_neg (by simp; omega), if_neg h2, if_neg h2]
end Go.Proofs.YtiofonffmplfmaaGreat
