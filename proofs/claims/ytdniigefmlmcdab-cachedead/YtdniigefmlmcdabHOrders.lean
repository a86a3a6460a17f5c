/- A region that draws its order, walked in one order: where each operation that is taken ahead of its turn yields its value in whatever world, or reads while those that may come before it read only, or is the only one that may come up, one walk in the order that is named serves every order. No program in it. -/
import Derived.OrdersHeld
import Derived.Tactics
import Derived.Laws.World

namespace Go.Proofs.Ytdniigefmlmcdab
open Go

section
variable {P : Program} {ops : Array Oper} {Q : Exit → Act → World → Prop} {md : Region.Mode}

/-- only the plain way out -/
def Strict (Q : Exit → Act → World → Prop) : Exit → Act → World → Prop := fun e a w => e = .normal ∧ Q .normal a w
theorem Strict.imp (e : Exit) (a : Act) (w : World) (h : Strict Q e a w) : Q e a w := by
  obtain ⟨rfl, h⟩ := h; exact h
theorem Strict.noOut : ¬ LetsOut (Strict Q) := by
  rintro ⟨a, w, h, _⟩; cases h

/-- what is run leaves the world, and would do the same in any world -/
def Pur {α : Type} (P : Program) (s : Sem α) : Prop := ∀ w n w', s.run P w = .ok n w' → w' = w ∧ ∀ w2, s.run P w2 = .ok n w2
/-- what is run leaves the world -/
def Rds {α : Type} (P : Program) (s : Sem α) : Prop := ∀ w n w', s.run P w = .ok n w' → w' = w
/-- what is run never ends well -/
def Nev {α : Type} (P : Program) (s : Sem α) : Prop := ∀ w n w', s.run P w ≠ .ok n w'

theorem Pur.rds {α : Type} {s : Sem α} (h : Pur P s) : Rds P s := fun w n w' e => (h w n w' e).1
theorem Nev.pur {α : Type} {s : Sem α} (h : Nev P s) : Pur P s := fun w n w' e => absurd e (h w n w')
theorem pur_pure {α : Type} (x : α) : Pur P (pure x : Sem α) := fun w n w' e => by
  rw [Sem.run_pure] at e; cases e; exact ⟨rfl, fun w2 => by rw [Sem.run_pure]⟩
theorem pur_halt {α : Type} (h : Halt) : Pur P (Sem.halt h : Sem α) := fun w n w' e => by simp [Sem.run] at e
theorem Pur.bind {α β : Type} {s : Sem α} {f : α → Sem β} (h : Pur P s) (hf : ∀ x, Pur P (f x)) : Pur P (s >>= f) := fun w n w' e => by
  rw [Sem.run_bind] at e
  cases hs : s.run P w with
  | ok x w1 =>
    rw [hs] at e
    obtain ⟨rfl, h2⟩ := h w x w1 hs
    simp only [Result.andThen_ok] at e
    obtain ⟨rfl, h3⟩ := hf x _ _ _ e
    exact ⟨rfl, fun w2 => by rw [Sem.run_bind, h2 w2]; simp only [Result.andThen_ok]; exact h3 w2⟩
  | halt x w1 => rw [hs] at e; simp [Result.andThen] at e
theorem Rds.bind {α β : Type} {s : Sem α} {f : α → Sem β} (h : Rds P s) (hf : ∀ x, Rds P (f x)) : Rds P (s >>= f) := fun w n w' e => by
  rw [Sem.run_bind] at e
  cases hs : s.run P w with
  | ok x w1 =>
    rw [hs] at e
    have h2 := h w x w1 hs
    subst h2
    simp only [Result.andThen_ok] at e
    exact hf x _ _ _ e
  | halt x w1 => rw [hs] at e; simp [Result.andThen] at e
theorem Nev.bind {α β : Type} {s : Sem α} {f : α → Sem β} (hf : ∀ x, Nev P (f x)) : Nev P (s >>= f) := fun w n w' e => by
  rw [Sem.run_bind] at e
  cases hs : s.run P w with
  | ok x w1 => rw [hs] at e; simp only [Result.andThen_ok] at e; exact hf x _ _ _ e
  | halt x w1 => rw [hs] at e; simp [Result.andThen] at e
theorem pur_program : Pur P program := fun w n w' e => by
  simp only [program, Sem.run] at e; cases e; exact ⟨rfl, fun w2 => by simp only [program, Sem.run]⟩
theorem nev_bounds {α : Type} (k : IntKind) (x y : Int) (c : BoundsCode) : Nev P (boundsPanic k x y c : Sem α) := by
  have J : ∀ s : Bool, Nev P (runtimePanic (.bounds (IntKind.i64.wrap x) y s c) : Sem α) := fun s => by
    unfold runtimePanic
    refine Nev.bind fun p => ?_
    intro w n w' e
    simp [goPanic] at e
  unfold boundsPanic
  dsimp only
  split <;> exact Nev.bind fun s => J s
theorem pur_underlying (t : TypeId) : Pur P (underlying t) := by
  unfold underlying
  refine pur_program.bind fun p => ?_
  cases p.underlying t with
  | none => exact pur_halt _
  | some d => exact pur_pure d
theorem pur_sizeOf (t : TypeId) : Pur P (sizeOf t) := by
  unfold sizeOf typeInfo
  refine Pur.bind (pur_program.bind fun p => ?_) fun i => pur_pure _
  cases p.info? t with
  | none => exact pur_halt _
  | some d => exact pur_pure d
theorem pur_sure (v : Value) : Pur P (Instr.sureAddr v) := by
  unfold Instr.sureAddr
  split
  · exact pur_pure _
  · exact pur_halt _
theorem pur_index (t : TypeId) (x i : Value) : Pur P (Instr.indexAt t x i) := by
  unfold Instr.indexAt
  refine Pur.bind ?_ fun ki => ?_
  · unfold asIntOf; split
    · exact pur_pure _
    · exact pur_halt _
    · exact pur_halt _
  · refine (pur_underlying t).bind fun d => ?_
    dsimp only
    split
    · refine (pur_sure _).bind fun _ => (pur_pure _).bind fun q => ?_
      refine (pur_underlying t).bind fun d2 => ?_
      split
      · split
        · exact (pur_sizeOf _).bind fun _ => pur_pure _
        · split <;> split <;> first | exact pur_halt _ | exact (nev_bounds _ _ _ _).pur
      · exact (nev_bounds _ _ _ _).pur
    · refine (pur_pure _).bind fun q => ?_
      refine (pur_underlying t).bind fun d2 => ?_
      split
      · split
        · exact (pur_sizeOf _).bind fun _ => pur_pure _
        · split <;> split <;> first | exact pur_halt _ | exact (nev_bounds _ _ _ _).pur
      · exact (nev_bounds _ _ _ _).pur
    · refine (pur_halt _).bind fun q => ?_
      refine (pur_underlying t).bind fun d2 => ?_
      split
      · split
        · exact (pur_sizeOf _).bind fun _ => pur_pure _
        · split <;> split <;> first | exact pur_halt _ | exact (nev_bounds _ _ _ _).pur
      · exact (nev_bounds _ _ _ _).pur
theorem pur_extract (v : Value) (i : Nat) : Pur P (Instr.extract v i) := by
  unfold Instr.extract
  split
  · split
    · exact pur_pure _
    · exact pur_halt _
  · exact pur_halt _
theorem rds_load (a : Addr) : Rds P (load a) := fun w n w' e => by
  simp only [load, Sem.run] at e
  split at e
  · cases e; rfl
  · split at e
    · cases e; rfl
    · cases e
theorem rds_cells (a : Addr) : ∀ (n i : Nat) (acc : Array Value), Rds P (loadCellsFrom a i n acc)
  | 0, _, acc => (pur_pure acc).rds
  | n + 1, i, acc => (rds_load _).bind fun v => rds_cells a n (i + 1) (acc.push v)
theorem rds_loadAt (t : TypeId) (v : Value) : Rds P (Instr.loadAt t v) := by
  unfold Instr.loadAt loadVar
  refine (pur_sure v).rds.bind fun a => Rds.bind ?_ fun b => ?_
  · unfold isAgg
    refine (pur_underlying t).rds.bind fun d => ?_
    split <;> exact (pur_pure _).rds
  · split
    · exact (pur_sizeOf t).rds.bind fun n => (rds_cells a n 0 #[]).bind fun c => (pur_pure _).rds
    · exact rds_load a

/-- an operation that yields its value in whatever world -/
def kindW (o : Oper) : Bool := match o.op with
  | .move _ => true
  | .extract .. => true
  | .indexAddr .. => true
  | _ => false
/-- an operation that reads at most -/
def kindR (o : Oper) : Bool := kindW o || match o.op with
  | .load .. => true
  | _ => false

theorem kindW_run {o : Oper} (h : kindW o = true) (ρ : Operand → Value) : Pur P (execOp ρ o) ∧ ∀ w n w', (execOp ρ o).run P w = .ok n w' → ∃ v, n = .value v := by
  unfold kindW at h
  split at h <;> rename_i hop
  · unfold execOp; simp only [hop]
    exact ⟨pur_pure _, fun w n w' e => by rw [Sem.run_pure] at e; cases e; exact ⟨_, rfl⟩⟩
  · unfold execOp; simp only [hop]
    exact ⟨(pur_extract _ _).bind fun v => pur_pure _, fun w n w' e => by
      rw [Sem.run_bind] at e
      cases hs : (Instr.extract (ρ _) _).run P w with
      | ok x w1 => rw [hs] at e; simp only [Result.andThen_ok, Sem.run_pure] at e; cases e; exact ⟨_, rfl⟩
      | halt x w1 => rw [hs] at e; simp [Result.andThen] at e⟩
  · unfold execOp; simp only [hop]
    exact ⟨(pur_index _ _ _).bind fun v => pur_pure _, fun w n w' e => by
      rw [Sem.run_bind] at e
      cases hs : (Instr.indexAt _ (ρ _) (ρ _)).run P w with
      | ok x w1 => rw [hs] at e; simp only [Result.andThen_ok, Sem.run_pure] at e; cases e; exact ⟨_, rfl⟩
      | halt x w1 => rw [hs] at e; simp [Result.andThen] at e⟩
  · cases h

theorem kindR_run {o : Oper} (h : kindR o = true) (ρ : Operand → Value) : Rds P (execOp ρ o) ∧ ∀ w n w', (execOp ρ o).run P w = .ok n w' → ∃ v, n = .value v := by
  unfold kindR at h
  rw [Bool.or_eq_true] at h
  rcases h with h | h
  · exact ⟨(kindW_run h ρ).1.rds, (kindW_run h ρ).2⟩
  · split at h <;> rename_i hop
    · unfold execOp; simp only [hop]
      exact ⟨(rds_loadAt _ _).bind fun v => (pur_pure _).rds, fun w n w' e => by
        rw [Sem.run_bind] at e
        cases hs : (Instr.loadAt _ (ρ _)).run P w with
        | ok x w1 => rw [hs] at e; simp only [Result.andThen_ok, Sem.run_pure] at e; cases e; exact ⟨_, rfl⟩
        | halt x w1 => rw [hs] at e; simp [Result.andThen] at e⟩
    · cases h

/-- what the walk's step says of an operation that reads at most -/
theorem wpOp_read {i : Nat} {o : Oper} (hi : ops[i]? = some o) (hk : kindR o = true) {K : Act → World → Prop} {a : Act} {w : World} (h : wpOp P ops (Strict Q) i K a w) :
    ∃ v, K (a.put o.dst v) w ∧ ((Region.wanted o (yielded ops a.tmps) = true ∧ (execOp a.eval o).run P w = .ok (.value v) w) ∨ (Region.wanted o (yielded ops a.tmps) = false ∧ v = undef)) := by
  unfold wpOp at h
  simp only [hi] at h
  by_cases hw : Region.wanted o (yielded ops a.tmps) = true
  · simp only [hw, if_true] at h
    rcases h with h | ⟨_, h⟩
    · unfold Oper.wp at h
      obtain ⟨hr, hv⟩ := kindR_run (P := P) hk a.eval
      cases hs : (execOp a.eval o).run P w with
      | ok n w1 =>
        obtain ⟨v, rfl⟩ := hv _ _ _ hs
        have := hr _ _ _ hs
        subst this
        rw [hs, Oper.upon_value] at h
        exact ⟨v, h, .inl ⟨hw, rfl⟩⟩
      | halt x w1 =>
        rw [hs] at h
        cases x <;> simp only [Oper.upon, Strict] at h <;> first | exact absurd h.1 (by intro e; cases e) | exact h.elim
    · exact absurd h Strict.noOut
  · rw [Bool.not_eq_true] at hw
    simp only [hw, Bool.false_eq_true, if_false] at h
    exact ⟨undef, h, .inr ⟨hw, rfl⟩⟩

theorem wpOp_stays {i : Nat} {o : Oper} (hi : ops[i]? = some o) (hk : kindR o = true) {K : Act → World → Prop} {a : Act} {w : World} (h : wpOp P ops (Strict Q) i K a w) :
    wpOp P ops (Strict Q) i (fun a' w' => w' = w ∧ K a' w') a w := by
  obtain ⟨v, hK, ⟨hw, hr⟩ | ⟨hw, rfl⟩⟩ := wpOp_read hi hk h
  · unfold wpOp
    simp only [hi, hw, if_true, Oper.wp, hr, Oper.upon_value]
    exact .inl ⟨trivial, hK⟩
  · unfold wpOp
    simp only [hi, hw, Bool.false_eq_true, if_false]
    exact ⟨trivial, hK⟩

theorem strict_frame (d : Option Tmp) (v : Value) : ∀ c a w, Strict Q (.panic c) (a.put d v) w → Strict Q (.panic c) a w := fun c a w h => absurd h.1 (by intro e; cases e)

/-- a load is taken first: those that may come before it read only -/
theorem wpAny_read {i : Nat} {oi : Oper} {v : Value} (hi : ops[i]? = some oi) (hsel : ∀ (j : Nat) (o : Oper) cs b, ops[j]? = some o → o.op ≠ .select cs b) (wt : Nat → Bool)
    (hB : ∀ j oj, ops[j]? = some oj → wt j = true → j ≠ i → ∃ e ∈ oj.after, Region.binds md e = true ∧ wt e.on = true) :
    ∀ (fuel : Nat) (listed : Array Bool) (a : Act) (w : World),
      (∀ j oj, ops[j]? = some oj → j ≠ i → listed.getD j true = false → (∀ e ∈ oj.after, Region.binds md e = true → e.on ≠ i) → oi.apart ops oj = true) →
      (∀ j, wt j = true → listed.getD j true = false) →
      (∀ j oj, ops[j]? = some oj → wt j = false → listed.getD j true = false → kindR oj = true) →
      i ∈ Region.ready md ops listed → YieldsIf P ops (fun x => x = w) oi v a →
      wpAny P md ops (Strict Q) fuel (listed.setIfInBounds i true) (a.put oi.dst v) w → wpAny P md ops (Strict Q) (fuel + 1) listed a w := by
  intro fuel
  induction fuel with
  | zero =>
    intro listed a w _ _ _ hr hy H
    refine ⟨fun h => (by rw [h] at hr; cases hr), fun j hj => ?_⟩
    by_cases hji : j = i
    · subst hji; exact hy.wpOp hi rfl H
    · have := ready_mono hj hji
      rw [H.1] at this
      cases this
  | succ fuel ih =>
    intro listed a w hfree hC hD hr hy H
    refine ⟨fun h => (by rw [h] at hr; cases hr), fun j hj => ?_⟩
    by_cases hji : j = i
    · subst hji; exact hy.wpOp hi rfl H
    · have h1 := H.2 j (ready_mono hj hji)
      obtain ⟨hjun, oj, hoj, hall⟩ := mem_ready.1 hj
      have hpend : ∀ k, listed.getD k true = false → listed.getD k false = true → False := fun k h0 h1 => by
        rcases Nat.lt_or_ge k listed.size with h' | h'
        · simp [h'] at h0 h1; rw [h0] at h1; cases h1
        · simp [Array.getElem?_eq_none h'] at h1
      have hnot : ∀ e ∈ oj.after, Region.binds md e = true → e.on ≠ i := fun e he hb heq => by
        have h1 := hall e he hb
        rw [heq] at h1
        exact hpend i (mem_ready.1 hr).1 h1
      have hwt : wt j = false := by
        cases hq : wt j with
        | false => rfl
        | true =>
          obtain ⟨e, he, hb, hw⟩ := hB j oj hoj hq hji
          exact (hpend e.on (hC _ hw) (hall e he hb)).elim
      have h2 := wpOp_putIf (S := fun x => x = w) hoj (hfree j oj hoj hji hjun hnot) (fun cs b => hsel i oi cs b hi) (fun cs b => hsel j oj cs b hoj) (strict_frame _ _) hy h1
      have h3 := wpOp_stays hoj (hD j oj hoj hwt hjun) h2
      refine wpOp_mono (fun a' w' h4 => ?_) h3
      obtain ⟨rfl, hy', hK⟩ := h4
      have hun : ∀ k, (listed.setIfInBounds j true).getD k true = false → listed.getD k true = false := fun k hk => by
        by_cases hjk : j = k
        · subst hjk; exact hjun
        · rw [getD_set_ne true hjk] at hk; exact hk
      refine ih (listed.setIfInBounds j true) a' w' (fun k ok hk hki hu hno => hfree k ok hk hki (hun k hu) hno) (fun k hk => ?_) (fun k ok hk hw hu => hD k ok hk hw (hun k hu)) (ready_mono hr (Ne.symm hji)) hy' ?_
      · rw [getD_set_ne true (fun e => by subst e; rw [hwt] at hk; cases hk)]; exact hC k hk
      · rw [Array.setIfInBounds_comm _ _ hji]
        exact hK

/-- which operations wait for number i, as far as the edges that go back tell -/
def waitArr (md : Region.Mode) (ops : Array Oper) (listed : Array Bool) (i : Nat) : Array Bool :=
  (List.range ops.size).foldl (fun wt j => wt.push (j == i || (!listed.getD j true && match ops[j]? with
    | some o => o.after.any fun e => Region.binds md e && wt.getD e.on false
    | none => false))) #[]
def waitB (md : Region.Mode) (ops : Array Oper) (listed : Array Bool) (i : Nat) (wt : Array Bool) : Bool :=
  (List.range ops.size).all fun j => match ops[j]? with
    | some o => if wt.getD j false then (j == i || o.after.any fun e => Region.binds md e && wt.getD e.on false && decide (e.on < ops.size)) && !listed.getD j true else listed.getD j true || kindR o
    | none => true
def takeB (md : Region.Mode) (ops : Array Oper) (listed : Array Bool) (i : Nat) : Bool :=
  match ops[i]? with
  | some o => (Region.ready md ops listed).contains i && Region.free md ops listed i && (kindW o || (kindR o && waitB md ops listed i (waitArr md ops listed i)))
  | none => false
def stepB (md : Region.Mode) (ops : Array Oper) (listed : Array Bool) (i : Nat) : Bool :=
  takeB md ops listed i || (Region.ready md ops listed == [i] && (ops[i]?).isSome)
def ordB (md : Region.Mode) (ops : Array Oper) : List Nat → Array Bool → Bool
  | [], listed => (Region.ready md ops listed).isEmpty
  | i :: rest, listed => stepB md ops listed i && ordB md ops rest (listed.setIfInBounds i true)

theorem wpAny_step {i : Nat} {fuel : Nat} {listed : Array Bool} {a : Act} {w : World} (hs : Region.noSelect ops = true) (hb : stepB md ops listed i = true)
    (h : wpOp P ops (Strict Q) i (wpAny P md ops (Strict Q) fuel (listed.setIfInBounds i true)) a w) : wpAny P md ops (Strict Q) (fuel + 1) listed a w := by
  unfold stepB at hb
  rw [Bool.or_eq_true] at hb
  rcases hb with hb | hb
  · unfold takeB at hb
    cases hi : ops[i]? with
    | none => rw [hi] at hb; cases hb
    | some o =>
      rw [hi] at hb
      simp only [Bool.and_eq_true, Bool.or_eq_true] at hb
      obtain ⟨⟨hr, hf⟩, hk⟩ := hb
      rcases hk with hk | ⟨hk, hwait⟩
      · have hkr : kindR o = true := by unfold kindR; rw [hk]; rfl
        obtain ⟨v, hK, hy⟩ := wpOp_read hi hkr h
        refine wpAny_take hi hs hf hr (strict_frame _ _) (v := v) ?_ hK
        rcases hy with ⟨hw, hrun⟩ | hy
        · exact .inl ⟨hw, ((kindW_run (P := P) hk a.eval).1 _ _ _ hrun).2⟩
        · exact .inr hy
      · obtain ⟨v, hK, hy⟩ := wpOp_read hi hk h
        generalize hwt : waitArr md ops listed i = arr at hwait
        unfold waitB at hwait
        rw [List.all_eq_true] at hwait
        have hall : ∀ j oj, ops[j]? = some oj → (if arr.getD j false then (j == i || oj.after.any fun e => Region.binds md e && arr.getD e.on false && decide (e.on < ops.size)) && !listed.getD j true else listed.getD j true || kindR oj) = true := fun j oj hj => by
          have h1 := hwait j (List.mem_range.2 (Array.getElem?_eq_some_iff.1 hj).1)
          rw [hj] at h1; exact h1
        have hin : ∀ j, decide (j < ops.size) = true → ∃ oj, ops[j]? = some oj := fun j hj => ⟨_, Array.getElem?_eq_getElem (of_decide_eq_true hj)⟩
        refine wpAny_read hi (Region.noSelect_spec hs) (fun j => arr.getD j false && decide (j < ops.size)) (v := v) ?_ fuel listed a w (Region.free_spec hi hf) ?_ ?_ (by simpa using hr) ?_ hK
        · intro j oj hj hw hne
          simp only [Bool.and_eq_true] at hw
          have h1 := hall j oj hj
          rw [if_pos hw.1] at h1
          simp only [Bool.and_eq_true, Bool.or_eq_true, beq_iff_eq, hne, false_or] at h1
          obtain ⟨e, he, hb⟩ := Array.any_eq_true'.1 h1.1
          simp only [Bool.and_eq_true] at hb
          exact ⟨e, he, hb.1.1, by simp only [Bool.and_eq_true]; exact ⟨hb.1.2, hb.2⟩⟩
        · intro j hw
          simp only [Bool.and_eq_true] at hw
          obtain ⟨oj, hj⟩ := hin j hw.2
          have h1 := hall j oj hj
          rw [if_pos hw.1] at h1
          simp only [Bool.and_eq_true, Bool.not_eq_true'] at h1
          exact h1.2
        · intro j oj hj hw hu
          have hlt : decide (j < ops.size) = true := decide_eq_true (Array.getElem?_eq_some_iff.1 hj).1
          rw [hlt, Bool.and_true] at hw
          have h1 := hall j oj hj
          rw [if_neg (by rw [hw]; decide), hu, Bool.false_or] at h1
          exact h1
        · rcases hy with ⟨hw, hrun⟩ | hy
          · exact .inl ⟨hw, fun x hx => by subst hx; exact hrun⟩
          · exact .inr hy
  · simp only [Bool.and_eq_true, beq_iff_eq] at hb
    exact wpAny_all hb.1 (by simp) (fun j hj => by
      have : j = i := by simpa using hj
      subst this; exact h)

theorem wpAny_ord (hs : Region.noSelect ops = true) : ∀ (ord : List Nat) (listed : Array Bool) (a : Act) (w : World), ordB md ops ord listed = true →
    wpOps P ops (Strict Q) ord a w → wpAny P md ops (Strict Q) ord.length listed a w
  | [], listed, a, w, hb, h => ⟨by simpa [ordB] using hb, h⟩
  | i :: rest, listed, a, w, hb, h => by
    simp only [ordB, Bool.and_eq_true] at hb
    rw [wpOps_cons] at h
    exact wpAny_step hs hb.1 (wpOp_mono (fun a' w' h' => wpAny_ord hs rest _ a' w' hb.2 h') h)

theorem wpOps_list : ∀ (ord : List Nat) (a : Act) (w : World), wpList P ops Q (ord.filterMap fun i => ops[i]?) a w → wpOps P ops Q ord a w
  | [], a, w, h => h
  | i :: ord, a, w, h => by
    rw [wpOps_cons]
    unfold wpOp
    cases hi : ops[i]? with
    | none =>
      rw [List.filterMap_cons_none hi] at h
      exact wpOps_list ord a w h
    | some o =>
      rw [List.filterMap_cons_some hi] at h
      dsimp only
      unfold wpList at h
      split at h
      · rename_i hw
        simp only [hw, if_true]
        exact h.imp (Oper.wp_mono fun a' w' h' => wpOps_list ord a' w' h') id
      · rename_i hw
        simp only [hw]
        exact wpOps_list ord _ _ h

/-- the order by numbers -/
def regionB (ops : Array Oper) (ord : List Nat) : Bool := ord.length == ops.size && Region.noSelect ops && ordB .any ops ord (Array.replicate ops.size false)

/-- THE LAW: one walk, in the order that is named. -/
theorem wp_region_ord {id : Nat} {a : Act} {w : World} (ord : List Nat) (hm : P.follows .mixedOrders = true) (hB : regionB ops ord = true)
    (h : wpList P ops (Strict Q) (ord.filterMap fun i => ops[i]?) a w.drew) : (Code.region id ops true).wp P Q a w := by
  unfold regionB at hB
  simp only [Bool.and_eq_true, beq_iff_eq] at hB
  refine Code.wp_mono Strict.imp (wp_region_any hm ?_)
  rw [← hB.1.1]
  exact wpAny_ord hB.1.2 ord _ a _ (by rw [hB.1.1]; exact hB.2) (wpOps_list ord a _ h)

/-- THE LAW, in the order of the text: the region as one that does not draw. -/
theorem wp_region_text {id : Nat} {l : List Oper} {a : Act} {w : World} (hm : P.follows .mixedOrders = true) (hB : regionB l.toArray (List.range l.length) = true)
    (h : wpList P l.toArray (Strict Q) l a w.drew) : (Code.region id l.toArray true).wp P Q a w := by
  unfold regionB at hB
  simp only [Bool.and_eq_true, beq_iff_eq] at hB
  refine Code.wp_mono Strict.imp (wp_region_any hm ?_)
  rw [← hB.1.1]
  refine wpAny_ord hB.1.2 _ _ a _ (by rw [hB.1.1]; exact hB.2) ?_
  rw [List.range_eq_range', wpOps_eq_wpList l 0 (fun j => by simp)]
  exact h

end
end Go.Proofs.Ytdniigefmlmcdab
