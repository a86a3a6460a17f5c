/- An entry put into a log: the program's contract. -/
import Derived.Test.YtdniigefmlmcdabHTurnsMix
import Derived.Test.YtdniigefmlmcdabHNdKit
import Derived.Handy
import Derived.Test.YtdniigefmlmcdabHBlkTake
import Derived.Test.YtdniigefmlmcdabHDigRef
import Derived.Maps.AppendAt
import Derived.Deep.RegionLaw
import Derived.WalkSmall
import Derived.Deep.Heap

namespace Go.Proofs.Ytdniigefmlmcdab
open Go Go.RowKit

section
variable {P : Program} {ops : Array Oper} {Q : Exit → Act → World → Prop} {md : Region.Mode} {Wl : List Nat} {S : World → Prop}

theorem takeS_gen {i fuel : Nat} {o : Oper} {v : Value} {listed : Array Bool} {a : Act} {w : World} (hs : Region.noSelect ops = true) (hi : ops[i]? = some o) (hr : (Region.ready md ops listed).contains i = true)
    (hf : Region.free md ops listed i = true) (hWi : Wl.contains i = false) (hwait : waitW md ops listed i Wl (waitArr md ops listed i) = true) (hy : YieldsIf P ops S o v a) (hS : S w)
    (hK : wpAnyW P md ops (Strict Q) S (Wl.contains ·) fuel (listed.setIfInBounds i true) (a.put o.dst v) w) :
    wpAnyW P md ops (Strict Q) S (Wl.contains ·) (fuel + 1) listed a w := by
  generalize hwt : waitArr md ops listed i = arr at hwait
  unfold waitW at hwait
  rw [List.all_eq_true] at hwait
  have hall : ∀ j oj, ops[j]? = some oj → (if arr.getD j false then (j == i || oj.after.any fun e => Region.binds md e && arr.getD e.on false && decide (e.on < ops.size)) && !listed.getD j true else !Wl.contains j) = true := fun j oj hj => by
    have h1 := hwait j (List.mem_range.2 (Array.getElem?_eq_some_iff.1 hj).1)
    rw [hj] at h1; exact h1
  have hin : ∀ j, decide (j < ops.size) = true → ∃ oj, ops[j]? = some oj := fun j hj => ⟨_, Array.getElem?_eq_getElem (of_decide_eq_true hj)⟩
  refine wpAnyW_take hi (Region.noSelect_spec hs) (fun j => arr.getD j false && decide (j < ops.size)) (v := v) (strict_frame _ _) ?_ ?_ hWi fuel listed a w (Region.free_spec hi hf) ?_ (by simpa using hr) hy hS hK
  · intro j oj hj hw hne
    simp only [Bool.and_eq_true] at hw
    have h1 := hall j oj hj
    rw [if_pos hw.1] at h1
    simp only [Bool.and_eq_true, Bool.or_eq_true, beq_iff_eq, hne, false_or] at h1
    obtain ⟨e, he, hb⟩ := Array.any_eq_true'.1 h1.1
    simp only [Bool.and_eq_true] at hb
    exact ⟨e, he, hb.1.1, by simp only [Bool.and_eq_true]; exact ⟨hb.1.2, hb.2⟩⟩
  · intro j oj hj hw
    have hlt : decide (j < ops.size) = true := decide_eq_true (Array.getElem?_eq_some_iff.1 hj).1
    have h1 := hall j oj hj
    cases hq : arr.getD j false with
    | true => rw [hlt]; rfl
    | false => rw [if_neg (by rw [hq]; decide), hw] at h1; cases h1
  · intro j hw
    simp only [Bool.and_eq_true] at hw
    obtain ⟨oj, hj⟩ := hin j hw.2
    have h1 := hall j oj hj
    rw [if_pos hw.1] at h1
    simp only [Bool.and_eq_true, Bool.not_eq_true'] at h1
    exact h1.2

theorem forceS_step {i fuel : Nat} {listed : Array Bool} {a : Act} {w : World} (hb : forceW md ops listed i = true)
    (h : wpOp P ops (Strict Q) i (fun a' w' => (Wl.contains i = false → S w') ∧ wpAnyW P md ops (Strict Q) S (Wl.contains ·) fuel (listed.setIfInBounds i true) a' w') a w) :
    wpAnyW P md ops (Strict Q) S (Wl.contains ·) (fuel + 1) listed a w := by
  unfold forceW at hb
  simp only [Bool.and_eq_true, beq_iff_eq] at hb
  refine ⟨fun h0 => absurd (hb.1.symm.trans h0) (by simp), ?_⟩
  rw [hb.1]
  intro j hj
  have : j = i := by simpa using hj
  subst this; exact h

theorem takeS_step {i fuel : Nat} {listed : Array Bool} {a : Act} {w : World} (hs : Region.noSelect ops = true) (hb : takeW md ops listed Wl [] i = true) (hS : S w)
    (h : wpOp P ops (Strict Q) i (fun a' w' => S w' → wpAnyW P md ops (Strict Q) S (Wl.contains ·) fuel (listed.setIfInBounds i true) a' w') a w) :
    wpAnyW P md ops (Strict Q) S (Wl.contains ·) (fuel + 1) listed a w := by
  unfold takeW at hb
  cases hi : ops[i]? with
  | none => rw [hi] at hb; cases hb
  | some o =>
    rw [hi] at hb
    simp only [Bool.and_eq_true, Bool.or_eq_true, Bool.not_eq_true'] at hb
    obtain ⟨⟨⟨⟨hr, hf⟩, hWi⟩, hk⟩, hwait⟩ := hb
    have key : ∃ v, wpAnyW P md ops (Strict Q) S (Wl.contains ·) fuel (listed.setIfInBounds i true) (a.put o.dst v) w ∧ YieldsIf P ops S o v a := by
      unfold wpOp at h
      simp only [hi] at h
      by_cases hw : Region.wanted o (yielded ops a.tmps) = true
      · simp only [hw, if_true] at h
        rcases h with h | ⟨_, h⟩
        · unfold Oper.wp at h
          have hrun : ∃ v, (execOp a.eval o).run P w = .ok (.value v) w ∧ ∀ w', S w' → (execOp a.eval o).run P w' = .ok (.value v) w' := by
            cases hsr : (execOp a.eval o).run P w with
            | ok n w1 =>
              rcases hk with hk | hk
              · obtain ⟨hp, hv⟩ := kindV_run (P := P) hk a.eval
                obtain ⟨v, rfl⟩ := hv _ _ _ hsr
                obtain ⟨rfl, h2⟩ := hp _ _ _ hsr
                exact ⟨v, rfl, fun w' _ => h2 w'⟩
              · obtain ⟨t, x, hop, hx⟩ := lowLoad_run hk
                cases hx
            | halt y w1 =>
              rw [hsr] at h
              cases y <;> simp only [Oper.upon, Strict] at h <;> first | exact absurd h.1 (by intro e; cases e) | exact h.elim
          obtain ⟨v, h1, h2⟩ := hrun
          rw [h1, Oper.upon_value] at h
          exact ⟨v, h hS, .inl ⟨hw, h2⟩⟩
        · exact absurd h Strict.noOut
      · rw [Bool.not_eq_true] at hw
        simp only [hw, Bool.false_eq_true, if_false] at h
        exact ⟨undef, h hS, .inr ⟨hw, rfl⟩⟩
    obtain ⟨v, hK, hy⟩ := key
    exact takeS_gen hs hi hr hf hWi hwait hy hS hK

theorem takesS_step (hs : Region.noSelect ops = true) (more : List Nat) (fuel : Nat) (Q' : Exit → Act → World → Prop) :
    ∀ (ts : List Nat) (listed l2 : Array Bool) (a : Act) (w : World), takesB md ops Wl [] ts listed = some l2 →
      (∀ a' w', S w' → wpList P ops (Strict Q') (more.filterMap fun i => ops[i]?) a' w' → wpAnyW P md ops (Strict Q) S (Wl.contains ·) fuel l2 a' w') →
      S w → wpList P ops (Strict Q') ((ts ++ more).filterMap fun i => ops[i]?) a w →
      wpAnyW P md ops (Strict Q) S (Wl.contains ·) (ts.length + fuel) listed a w := by
  intro ts
  induction ts with
  | nil =>
    intro listed l2 a w hb hn hS h
    simp only [takesB, Option.some.injEq] at hb
    subst hb
    rw [List.length_nil, Nat.zero_add]
    exact hn a w hS h
  | cons i rest ih =>
    intro listed l2 a w hb hn hS h
    unfold takesB at hb
    split at hb
    · rename_i hc
      have hlen : (i :: rest).length + fuel = (rest.length + fuel) + 1 := by simp only [List.length_cons]; omega
      rw [hlen]
      obtain ⟨o, ho⟩ := has_op hc
      refine takeS_step hs hc hS (wpOp_mono (fun a' w' h' h2 => ?_) (wpOp_strict (wpList_one ho h)))
      exact ih _ l2 a' w' hb hn h2 h'
    · cases hb

theorem tailS_step : ∀ (ts : List Nat) (listed : Array Bool) (a : Act) (w : World), tailB md ops Wl ts listed = true → wpList P ops (Strict Q) (ts.filterMap fun i => ops[i]?) a w →
    wpAnyW P md ops (Strict Q) S (Wl.contains ·) ts.length listed a w
  | [], listed, a, w, hb, h => ⟨by simpa [tailB] using hb, h⟩
  | i :: rest, listed, a, w, hb, h => by
    simp only [tailB, Bool.and_eq_true] at hb
    obtain ⟨o, ho⟩ := has_op' hb.1.1
    refine forceS_step hb.1.1 (wpOp_mono (fun a' w' h' => ?_) (wpList_one ho h))
    exact ⟨fun e => (by rw [hb.1.2] at e; cases e), tailS_step rest _ a' w' hb.2 h'⟩

theorem partsS_step (hs : Region.noSelect ops = true) (takes tail : List Nat) :
    ∀ (ps : List (List Nat × Nat × Bool)) (listed : Array Bool) (a : Act) (w : World), partsB md ops Wl [] ps takes tail listed = true → S w →
      wpPartsI P ops Q S ps (takes ++ tail) a w → wpAnyW P md ops (Strict Q) S (Wl.contains ·) (lenOf ps (takes.length + tail.length)) listed a w
  | [], listed, a, w, hb, hS, h => by
    unfold partsB at hb
    split at hb
    · rename_i l2 hl2
      exact takesS_step hs tail tail.length Q takes listed l2 a w hl2 (fun a' w' _ h' => tailS_step tail l2 a' w' hb h') hS h
    · cases hb
  | (ts, i, false) :: rest, listed, a, w, hb, hS, h => by
    unfold partsB at hb
    split at hb
    · rename_i l2 hl2
      simp only [Bool.and_eq_true, Bool.not_eq_true', Bool.false_eq_true, if_false] at hb
      refine takesS_step hs [i] _ _ ts listed l2 a w hl2 (fun a' w' _ h' => ?_) hS h
      obtain ⟨o, ho⟩ := has_op' hb.1.1
      rw [Nat.add_comm 1]
      refine forceS_step hb.1.1 (wpOp_mono (fun a2 w2 h2 => ?_) (wpOp_strict (wpList_one ho h')))
      have h3 := h2.2
      exact ⟨fun _ => h3.1, partsS_step hs takes tail rest _ a2 w2 hb.2 h3.1 h3.2⟩
    · cases hb
  | (ts, i, true) :: rest, listed, a, w, hb, hS, h => by
    unfold partsB at hb
    split at hb
    · rename_i l2 hl2
      simp only [Bool.and_eq_true, if_true] at hb
      refine takesS_step hs [] _ _ ts listed l2 a w hl2 (fun a' w' hS' h' => ?_) hS h
      obtain ⟨-, o, v, ho, hy, hn⟩ := h'
      have hc := hb.1
      unfold yieldW at hc
      rw [ho] at hc
      simp only [Bool.and_eq_true, Bool.not_eq_true'] at hc
      rw [Nat.add_comm 1]
      exact takeS_gen hs ho hc.1.1.1 hc.1.1.2 hc.1.2 hc.2 hy hS' (partsS_step hs takes tail rest _ _ w' hb.2 hS' hn)
    · cases hb

/-- THE LAW. -/
theorem wp_region_partsS {id : Nat} {a : Act} {w : World} (S : World → Prop) (ps : List (List Nat × Nat × Bool)) (takes tail : List Nat) (hm : P.follows .mixedOrders = true) (hB : wholeB ops tail [] ps takes tail = true)
    (hS : S w.drew) (h : wpPartsI P ops Q S ps (takes ++ tail) a w.drew) : (Code.region id ops true).wp P Q a w := by
  unfold wholeB at hB
  simp only [Bool.and_eq_true, beq_iff_eq] at hB
  refine Code.wp_mono Strict.imp (wp_region_any hm ?_)
  rw [← hB.1.1.1]
  exact wpAny_of_W _ _ _ _ (partsS_step hB.1.1.2 takes tail ps _ a _ (by rw [hB.1.1.1]; exact hB.2) hS h)
end
end Go.Proofs.Ytdniigefmlmcdab

namespace Go.Proofs.Ytdniigefmlmcdab
open Go Go.RowKit
set_option linter.unusedSimpArgs false
set_option linter.unusedVariables false

set_option maxRecDepth 100000 in
set_option maxHeartbeats 4000000 in
theorem none_any (r : Rf) (w : World) : Calls Try.prog 35 #[.agg (rfC r)] w fun e w' => e = .returned (.bool (decide (r = rf0))) ∧ Below w.heap.size w w' := by
  have r0 : Blk (w.alloc (.cells (rfC r) 35)) w.heap.size 35 (rfC r) := Blk.new _ _ _
  have hb : Below w.heap.size w (w.alloc (.cells (rfC r) 35)) := below_new1 _ _
  have hz := zero_ref
  have hq : ∀ W, (Op.equalIn 10000 35 (.agg (rfC r)) (.agg (rfC rf0))).run Try.prog W = .ok (decide (r = rf0)) W := eq_ref 9997 r rf0
  obtain ⟨b, hbd⟩ : ∃ b, b = decide (r = rf0) := ⟨_, rfl⟩
  rw [← hbd] at hq ⊢
  clear hbd
  go_enter Try.func35, Try.ntmps35
  go_wp2_with (first
    | (refine wpList_load_rowg (by rfl) 35 _ (by rfl) (w.heap.size) (by rfl) 35 (rfC r) (0, 0) _ (by exact r0) Try.underlying35 (by rfl) (slSizeRef.trans (by rw [rfC_size])) ?_; simp only [Act.put, List.setIfInBounds_toArray, List.set_cons_zero, List.set_cons_succ])
    | fail)
  go_ret
  exact ⟨rfl, hb⟩
theorem enc_lo (r : Rf) (hr : okD r.2) : strN (dig r.1) 4 ++ strN (dF r.2) 32 = strN (encR r) 36 := by
  have e := strN_append (encR r) 4 32 fun j hj => encR_lt r hr j hj
  have e1 : strN (encR r) 4 = strN (dig r.1) 4 := strN_congr fun j hj => by
    unfold encR
    rw [if_pos hj]
  have e2 : strN (fun j => encR r (4 + j)) 32 = strN (dF r.2) 32 := strN_congr fun j hj => by
    unfold encR
    rw [if_neg (by omega), show 4 + j - 4 = j by omega]
  rw [e1, e2] at e
  exact e
/-- the reference that stands in a text -/
def decR (s : ByteArray) (a : Nat) : Rf := (at4 s a, sumD fun i => tbyte s (a + 4 + i))
theorem decR_ok (s : ByteArray) (a : Nat) : okD (decR s a).2 := fun i hi => by
  have e : dF (decR s a).2 i = tbyte s (a + 4 + i) := dF_sumD (fun i => tbyte s (a + 4 + i)) i hi
  rw [e]
  exact tbyte_lt s (a + 4 + i)
theorem decR_cells (n : Nat) (f : Nat → Nat) : (splice ((rfC rf0).setIfInBounds 0 (.int .u32 (n : Int))).toList 1 (byL f 32)).toArray = rfC (n, sumD f) := by
  unfold rfC
  rw [va_set, va_toList]
  refine Eq.trans (by rfl) ((splice_va 33 1 32 _ (fun j => Value.int .u8 ((f j : Nat) : Int)) (by decide)).trans ?_)
  refine va_congr fun i hi => ?_
  by_cases h2 : 1 ≤ i ∧ i < 1 + 32
  · have e1 : rfF (n, sumD f).1 (n, sumD f).2 i = .int .u8 ((f (i - 1) : Nat) : Int) := by
      unfold rfF
      rw [if_neg (by omega), show dF (n, sumD f).2 (i - 1) = f (i - 1) from dF_sumD f _ (by omega)]
    rw [e1]
    unfold overF
    rw [if_pos h2]
  · unfold overF upd
    rw [if_neg h2]
    have h0 : i = 0 := by omega
    subst h0
    rfl
end Go.Proofs.Ytdniigefmlmcdab

namespace Go.Proofs.Ytdniigefmlmcdab
open Go Go.RowKit
set_option linter.unusedSimpArgs false
set_option linter.unusedVariables false

/-- a block, as a plain thing -/
def blkD (f : Nat → Nat) : Vector Nat 256 := Vector.ofFn fun i : Fin 256 => f i.1
def vF (d : Vector Nat 256) : Nat → Nat := fun i => (d[i]?).getD 0
def bK (d : Vector Nat 256) : Value := .agg (va 256 (iv .u8 (vF d)))
theorem vF_blkD (f : Nat → Nat) : va 256 (iv .u8 (vF (blkD f))) = va 256 (iv .u8 f) := va_congr fun i hi => by
  unfold iv vF blkD
  congr 2
  simp [hi]
theorem bK_blkD (f : Nat → Nat) : bK (blkD f) = .agg (va 256 (iv .u8 f)) := by
  unfold bK
  rw [vF_blkD]
theorem vF_inj {a b : Vector Nat 256} (h : bkSame (vF a) (vF b)) : a = b := by
  apply Vector.ext
  intro i hi
  have := h i hi
  unfold vF at this
  simpa [hi] using this
theorem blkD_same (f g : Nat → Nat) : blkD f = blkD g ↔ bkSame f g := by
  constructor
  · intro h i hi
    have := congrArg (fun d : Vector Nat 256 => vF d i) h
    simp only [vF, blkD] at this
    simpa [hi] using this
  · intro h
    refine vF_inj fun i hi => ?_
    simp only [vF, blkD]
    simpa [hi] using h i hi
theorem chk_blk (d : Nat) (e : Bool) (f : Nat → Nat) (w : World) : (Instr.checkKey e (d + 1 + 1) 23 (.agg (va 256 (iv .u8 f)))).run Try.prog w = .ok () w := by
  have hc := size_u8 w
  have h1 : ∀ x : Int, (Instr.checkKey e (d + 1) 5 (.int .u8 x)).run Try.prog w = .ok () w := fun x => by simp [Instr.checkKey, run_underlying Try.underlying5]
  have p1 : ∀ i, i < 256 → (part 5 (va 256 (iv .u8 f)) (i * 1)).run Try.prog w = .ok (.int .u8 ((f i : Nat) : Int)) w := fun i hi => by
    have := va_at (iv .u8 f) hi
    simp [part, isAgg, run_underlying Try.underlying5, this]
    rfl
  generalize va 256 (iv .u8 f) = cs at *
  rw [Instr.checkKey]
  simp only [Sem.run_bind, run_underlying Try.underlying23, Result.andThen_ok]
  have key : ∀ l : List Nat, (∀ i ∈ l, i < 256) → Sem.run Try.prog (forIn l PUnit.unit fun i __s => do
      let __do_lift ← sizeOf 5
      let __do_lift ← part 5 cs (i * __do_lift)
      Instr.checkKey e (d + 1) 5 __do_lift
      pure (ForInStep.yield PUnit.unit)) w = .ok PUnit.unit w := by
    intro l
    induction l with
    | nil => intro _; simp
    | cons i l ih =>
      intro h
      simp only [List.forIn_cons, Sem.run_bind, hc, Result.andThen_ok, p1 i (h i (by simp)), h1, Sem.run_pure]
      exact ih fun j hj => h j (by simp [hj])
  simp only [Std.Legacy.Range.forIn_eq_forIn_range']
  rw [key _ (fun i hi => by simpa using hi)]
  rfl
set_option maxRecDepth 100000 in
theorem blk_key : KeyOf Try.prog 23 bK where
  desc := ⟨_, Try.underlying23, (fun k h => by cases h), (fun h => by cases h), (fun h => by cases h)⟩
  eq a b w := by
    have := eq_bk 23 Try.underlying23 (vF a) (vF b) w
    refine Eq.trans this ?_
    congr 1
    by_cases h : a = b
    · subst h
      rw [decide_eq_true (fun _ _ => rfl), decide_eq_true rfl]
    · rw [decide_eq_false h, decide_eq_false fun q => h (vF_inj q)]
  chk e a w := chk_blk 9998 e (vF a) w
end Go.Proofs.Ytdniigefmlmcdab

namespace Go.Proofs.Ytdniigefmlmcdab
open Go Go.RowKit
set_option linter.unusedVariables false
set_option linter.unusedSimpArgs false

section
variable {α : Type} [DecidableEq α]
/-- no like one stands ahead of place i -/
def isNew (D : Nat → α) (i : Nat) : Bool := (List.range i).all fun x => decide (D x ≠ D i)
theorem isNew_iff (D : Nat → α) (i : Nat) : isNew D i = true ↔ ∀ x, x < i → D x ≠ D i := by
  unfold isNew
  simp [List.all_eq_true]
/-- the first places, in their order -/
def firstsOf (D : Nat → α) (k : Nat) : List Nat := (List.range k).filter (isNew D)
/-- the places below k that are like place i -/
def grpOf (D : Nat → α) (k i : Nat) : List Nat := (List.range k).filter fun x => decide (D x = D i)
theorem firstsOf_succ (D : Nat → α) (k : Nat) : firstsOf D (k + 1) = if isNew D k then firstsOf D k ++ [k] else firstsOf D k := by
  unfold firstsOf
  rw [List.range_succ, List.filter_append]
  by_cases h : isNew D k = true
  · simp [h]
  · simp [h]
theorem grpOf_succ (D : Nat → α) (k i : Nat) : grpOf D (k + 1) i = if D k = D i then grpOf D k i ++ [k] else grpOf D k i := by
  unfold grpOf
  rw [List.range_succ, List.filter_append]
  by_cases h : D k = D i
  · simp [h]
  · simp [h]
theorem firstsOf_mem (D : Nat → α) (k i : Nat) : i ∈ firstsOf D k ↔ i < k ∧ ∀ x, x < i → D x ≠ D i := by
  unfold firstsOf
  rw [List.mem_filter, List.mem_range, isNew_iff]
theorem firstsOf_inj (D : Nat → α) (k : Nat) {i j : Nat} (hi : i ∈ firstsOf D k) (hj : j ∈ firstsOf D k) (h : D i = D j) : i = j := by
  rw [firstsOf_mem] at hi hj
  rcases Nat.lt_trichotomy i j with q | q | q
  · exact absurd h (hj.2 i q)
  · exact q
  · exact absurd h.symm (hi.2 j q)
theorem firstsOf_nodup (D : Nat → α) (k : Nat) : (firstsOf D k).Nodup := List.Pairwise.filter _ List.nodup_range
/-- each place has its first one -/
theorem firstsOf_has (D : Nat → α) (k x : Nat) (hx : x < k) : ∃ i ∈ firstsOf D k, D i = D x := by
  induction x using Nat.strongRecOn with
  | ind x ih =>
    by_cases h : ∀ y, y < x → D y ≠ D x
    · exact ⟨x, (firstsOf_mem D k x).2 ⟨hx, h⟩, rfl⟩
    · simp only [Classical.not_forall, not_imp, ne_eq, Classical.not_not] at h
      obtain ⟨y, hy, he⟩ := h
      obtain ⟨i, hi, hd⟩ := ih y hy (by omega)
      exact ⟨i, hi, hd.trans he⟩
theorem grpOf_new (D : Nat → α) (k : Nat) (h : isNew D k = true) : grpOf D k k = [] := by
  unfold grpOf
  rw [List.filter_eq_nil_iff]
  intro x hx
  rw [List.mem_range] at hx
  simpa using (isNew_iff D k).1 h x hx
/-- all groups -/
def grpsOf (D : Nat → α) (k : Nat) : List (List Nat) := (firstsOf D k).map (grpOf D k)
theorem grpsOf_new (D : Nat → α) (k : Nat) (h : isNew D k = true) : grpsOf D (k + 1) = grpsOf D k ++ [[k]] := by
  unfold grpsOf
  rw [firstsOf_succ, if_pos h, List.map_append]
  congr 1
  · refine List.map_congr_left fun i hi => ?_
    rw [grpOf_succ, if_neg]
    intro q
    have := (firstsOf_mem D k i).1 hi
    exact (isNew_iff D k).1 h i this.1 q.symm
  · simp [grpOf_succ, grpOf_new D k h]
theorem grpsOf_old (D : Nat → α) (k j : Nat) (h : isNew D k = false) (hj : j < (firstsOf D k).length) (hd : D ((firstsOf D k).getD j 0) = D k) : grpsOf D (k + 1) = (grpsOf D k).set j ((grpsOf D k).getD j [] ++ [k]) := by
  unfold grpsOf
  rw [firstsOf_succ, if_neg (by simp [h])]
  apply List.ext_getElem?
  intro n
  have hgj : (firstsOf D k).getD j 0 = (firstsOf D k)[j] := by simp [List.getD, hj]
  rw [hgj] at hd
  rw [List.getElem?_map]
  by_cases hn : n < (firstsOf D k).length
  · rw [List.getElem?_eq_getElem hn]
    simp only [Option.map_some]
    rw [grpOf_succ]
    by_cases e : n = j
    · subst e
      rw [if_pos hd.symm]
      simp [List.getElem?_set, hn, List.getD]
    · rw [if_neg]
      · rw [List.getElem?_set_ne (by omega), List.getElem?_map, List.getElem?_eq_getElem hn]
        rfl
      · intro q
        have := firstsOf_inj D k (List.getElem_mem hn) (List.getElem_mem hj) (q.symm.trans hd.symm)
        exact e ((List.getElem_inj (firstsOf_nodup D k)).1 this)
  · rw [List.getElem?_eq_none (by omega), List.getElem?_eq_none (by simp; omega)]
    rfl
end
end Go.Proofs.Ytdniigefmlmcdab

namespace Go.Proofs.Ytdniigefmlmcdab
open Go.RowKit
set_option linter.unusedSimpArgs false
set_option linter.unusedVariables false

theorem infoEnt : (Try.prog.info? 112).map (fun i => (i.zero, i.size, i.bytes)) = some (some (.agg #[.int .u8 0, .string ⟨#[]⟩]), 2, 24) := by kernel_rfl
theorem sizeEnt : (Try.prog.info? 112).map (·.size) = some 2 := by kernel_rfl
/-- what a log may change: its own block, its map, its row -/
def LogKeeps (g r : Nat) (v : Value) (w w' : World) : Prop :=
  w'.os = w.os ∧ w'.tape = w.tape ∧ w'.output = w.output ∧ w.heap.size ≤ w'.heap.size ∧ ∀ k, k < w.heap.size → k ≠ g → k ≠ r → v.ownBlock ≠ some k → w'.heap[k]? = w.heap[k]?

theorem own_ne {w : World} {B e size n g t : Nat} {v : Value} {xs : List Value} {cs : Array Value} (h : w.ownsRow B e size v n xs) (hb : Blk w g t cs) (hne : e ≠ t) : v.ownBlock ≠ some g := fun hq => by
  rcases h.2 with ⟨rfl, _⟩ | ⟨b, cap, cur, rfl, _, hg, _⟩
  · simp [Value.ownBlock] at hq
  · simp [Value.ownBlock] at hq
    subst hq
    unfold Blk at hb
    rw [hb] at hg
    simp at hg
    exact hne hg.2.symm
theorem own_map {w : World} {B e size n r clock : Nat} {v : Value} {xs : List Value} {es : Array MapEntry} (h : w.ownsRow B e size v n xs) (hb : w.heap[r]? = some (.map es clock)) : v.ownBlock ≠ some r := fun hq => by
  rcases h.2 with ⟨rfl, _⟩ | ⟨b, cap, cur, rfl, _, hg, _⟩
  · simp [Value.ownBlock] at hq
  · simp [Value.ownBlock] at hq
    subst hq
    rw [hb] at hg
    cases hg
theorem own_block {w w' : World} {B e size n : Nat} {v : Value} {xs : List Value} (h : w.ownsRow B e size v n xs) (hk : ∀ k, v.ownBlock = some k → w'.heap[k]? = w.heap[k]?) : w'.ownsRow B e size v n xs := by
  refine ⟨h.1, ?_⟩
  rcases h.2 with hn | ⟨g, cap, cur, rfl, hg, hgg, rest⟩
  · exact .inl hn
  · exact .inr ⟨g, cap, cur, rfl, hg, (hk g rfl).trans hgg, rest⟩
theorem step_append_own {P : Program} {ops : Array Oper} {o : Oper} {a : Act} {w : World} {K : Act → World → Prop} {Q : Exit → Act → World → Prop} {F : Prop} (hgd : o.guard = none) (s x : Operand) (t : TypeId)
    (ho : o.op = .call { callee := .builtin .append, args := #[s, x], argTypes := #[t, t] })
    (base : Nat) (e : TypeId) (i : TypeInfo) (z : Value) (size bytes : Nat) (ht : P.underlying t = some (.slice e)) (hi : P.info? e = some i) (hz : i.zero = some z)
    (hsize : i.size = size) (hby : i.bytes = bytes) (hzs : z.cells.size = size) (hsz : 0 < size)
    (v : Value) (n : Nat) (xs : List Value) (hs : a.eval s = v) (hown : w.ownsRow base e size v n xs)
    (ad : Addr) (m c : Nat) (news : List Value) (hx : a.eval x = .slice (some ad) m c) (hl : news.length = m * size) (hnews : ∀ j u, news[j]? = some u → w.cell? (ad.add j) = some u) (h1 : ∀ u ∈ news, u.oneCell' = true)
    (h63 : n + m ≤ maxLen) (hbytes : (n + m) * bytes ≤ 140737488355328) (hbase : base ≤ w.heap.size)
    (h : ∀ v' w', w'.ownsRow base e size v' (n + m) (xs ++ news) → w.grownBy w' v.ownBlock → (v'.ownBlock = v.ownBlock ∨ v'.ownBlock = some w.heap.size) → K (a.put o.dst v') w') :
    if Region.wanted o (yielded ops a.tmps) = true then Oper.wp P o a w K Q else F := by
  have hw : Region.wanted o (yielded ops a.tmps) = true := by simp [Region.wanted, hgd]
  rw [if_pos hw]
  obtain ⟨v', w', hr, g1, g2, g3, g4⟩ := run_append_own_at (P := P) w base t o.type e i z size bytes ht hi hz hsize hby hzs hsz v n xs hown ad m c news hl hnews h1 h63 hbytes hbase
  unfold Oper.wp
  simp [execOp, ho, resolve, invoke, builtin, hs, hx, hr, Result.andThen]
  exact h v' w' g1 g2 g4

set_option maxRecDepth 100000 in
set_option maxHeartbeats 4000000 in
theorem logAdd_any (tag : Nat) (s : ByteArray) (g r : Nat) (v : Value) (E : List (Nat × ByteArray)) (hE : E.length ≤ 4000000000000) (hn : isIn (tag, s) E = false) (w : World) (h : LogAt w g r v E) (y : Nat → Nat) (hy : va 32 (iv .u8 y) = va 32 (iv .u8 (sumOf (tag, s)))) :
    Calls Try.prog 52 #[.pointer (some ⟨g, 0, none⟩), .agg #[.int .u8 (tag : Int), .string s], .agg (va 32 (iv .u8 y))] w fun e w' => e = .returned (.tuple #[]) ∧ ∃ v', LogAt w' g r v' (E ++ [(tag, s)]) ∧ LogKeeps g r v w w' ∧ (v'.ownBlock = v.ownBlock ∨ ∃ k, v'.ownBlock = some k ∧ w.heap.size ≤ k) := by
  obtain ⟨i0, hi, hz0, hz1, hz2⟩ := info_parts infoEnt
  obtain ⟨hB, hown, hM⟩ := h
  have hgl := hB.lt
  have e0 : Blk ((w.alloc (.cells #[.int .u8 (tag : Int), .string s] 112)).alloc (.cells (va 32 (iv .u8 y)) 33)) w.heap.size 112 #[.int .u8 (tag : Int), .string s] := (Blk.new w _ _).alloc _
  have e1 : Blk ((w.alloc (.cells #[.int .u8 (tag : Int), .string s] 112)).alloc (.cells (va 32 (iv .u8 y)) 33)) (w.heap.size + 1) 33 (va 32 (iv .u8 y)) := by
    have e : (w.alloc (.cells #[.int .u8 (tag : Int), .string s] 112)).heap.size = w.heap.size + 1 := by simp
    rw [← e]
    exact Blk.new _ _ _
  have hB1 : Blk ((w.alloc (.cells #[.int .u8 (tag : Int), .string s] 112)).alloc (.cells (va 32 (iv .u8 y)) 33)) g 117 #[v, .map (some r)] := (hB.alloc _).alloc _
  have hown1 := (hown.alloc (.cells #[.int .u8 (tag : Int), .string s] 112)).alloc (.cells (va 32 (iv .u8 y)) 33)
  have hb1 : Below w.heap.size w ((w.alloc (.cells #[.int .u8 (tag : Int), .string s] 112)).alloc (.cells (va 32 (iv .u8 y)) 33)) := ((Below.refl _ _).alloc (Nat.le_refl _) _).alloc (by simp) _
  have hM1 := hM.below hb1 (by obtain ⟨es, cl, hg, _⟩ := hM; exact (Array.getElem?_eq_some_iff.1 hg).1)
  have hs1 : ((w.alloc (.cells #[.int .u8 (tag : Int), .string s] 112)).alloc (.cells (va 32 (iv .u8 y)) 33)).heap.size = w.heap.size + 2 := by simp
  have HN : Hid (isIn (tag, s) E = false) := hn
  clear hn
  have HY0 : Hid (va 32 (iv .u8 y) = va 32 (iv .u8 (sumOf (tag, s)))) := hy
  clear hy
  go_enter Try.func52, Try.ntmps52
  go_wp2_with fail
  generalize ((w.alloc (.cells #[.int .u8 (tag : Int), .string s] 112)).alloc (.cells (va 32 (iv .u8 y)) 33)) = w1 at *
  have c0 : w1.cell? ⟨g, 0, none⟩ = some v := by rw [hB1.cell]; rfl
  have f0 := hB1.frozen 0
  have c0' : (w1.alloc (.cells #[.int .u8 (tag : Int), .string s] 112)).cell? ⟨g, 0, none⟩ = some v := by rw [(hB1.alloc _).cell]; rfl
  have d0 : w1.cell? ⟨w.heap.size, 0, none⟩ = some (.int .u8 (tag : Int)) := by rw [e0.cell]; rfl
  have d1 : w1.cell? ⟨w.heap.size, 1, none⟩ = some (.string s) := by rw [e0.cell]; rfl
  have HOWN : Hid ((w1.alloc (.cells #[.int .u8 (tag : Int), .string s] 112)).drew.ownsRow 0 112 2 v E.length (entCells E)) := hown1.alloc _
  have HC : Hid (∀ j u, [Value.int .u8 (tag : Int), .string s][j]? = some u → (w1.alloc (.cells #[.int .u8 (tag : Int), .string s] 112)).drew.cell? ((⟨w.heap.size + 2, 0, none⟩ : Addr).add j) = some u) := by
    rw [← hs1]
    exact cell_two_new w1 _ _ _
  have HONE : Hid (∀ u ∈ [Value.int .u8 (tag : Int), .string s], u.oneCell' = true) := fun u hu => by
    simp at hu
    rcases hu with rfl | rfl <;> rfl
  have hne := own_ne hown1 hB1 (by decide)
  have HNE : Hid (v.ownBlock ≠ some g) := hne
  clear hne
  go_region_law (refine step_append_own rfl (.tmp 10) (.tmp 12) 114 rfl 0 112 i0 _ 2 24 Try.underlying114 hi hz0 hz1 hz2 rfl (by decide) v E.length (entCells E) (by simp [Act.eval, Act.put]) HOWN.out ⟨w.heap.size + 2, 0, none⟩ 1 1 [.int .u8 (tag : Int), .string s] (by simp [Act.eval, Act.put]) rfl HC.out HONE.out (by unfold maxLen; omega) (by omega) (Nat.zero_le _) ?_; intro v2 w2 hown2 hgrow2 hat2; obtain ⟨g2, cap2, rfl, hg2a, hg2b⟩ := own_form hown2 (Nat.succ_pos _); have hBg : Blk w2 g 117 #[v, .map (some r)] := (hgrow2.block g (by simp; omega) (fun q => HNE.out q.symm)).trans (hB1.alloc _); have cg : w2.cell? ⟨g, 0, none⟩ = some v := (by rw [hBg.cell]; rfl); have fg := hBg.frozen 0)
  all_goals
    (have hne2 : g2 ≠ g := fun q => own_ne hown2 hBg (by decide) (by rw [q]; rfl)
     have hs2 := hgrow2.size
     have hB3 : Blk (w2.setCell ⟨g, 0, none⟩ (.slice (some ⟨g2, 0, none⟩) (E.length + 1) cap2)) g 117 #[(.slice (some ⟨g2, 0, none⟩) (E.length + 1) cap2), .map (some r)] := hBg.put 0 (.slice (some ⟨g2, 0, none⟩) (E.length + 1) cap2)
     have hoth : ∀ k, k ≠ g → (w2.setCell ⟨g, 0, none⟩ (.slice (some ⟨g2, 0, none⟩) (E.length + 1) cap2)).heap[k]? = w2.heap[k]? := fun k hk => Deep.blk_setCell_other w2 ⟨g, 0, none⟩ _ k hk
     have hown3 : (w2.setCell ⟨g, 0, none⟩ (.slice (some ⟨g2, 0, none⟩) (E.length + 1) cap2)).ownsRow 0 112 2 (.slice (some ⟨g2, 0, none⟩) (E.length + 1) cap2) (E.length + 1) (entCells E ++ [.int .u8 (tag : Int), .string s]) := own_block hown2 (fun k hk => hoth k (by simp [Value.ownBlock] at hk; omega))
     have hM3 : MapIs entV sumV (w2.setCell ⟨g, 0, none⟩ (.slice (some ⟨g2, 0, none⟩) (E.length + 1) cap2)) r (E.map fun e => (e, sumOf e)) := by
       obtain ⟨es, cl, hg, he⟩ := hM1
       have hrl : r < w1.heap.size := (Array.getElem?_eq_some_iff.1 hg).1
       have hrg : r ≠ g := fun q => by
         subst q
         unfold Blk at hB1
         rw [hB1] at hg
         cases hg
       refine ⟨es, cl, ?_, he⟩
       rw [hoth r hrg, hgrow2.block r (by simp; omega) (fun q => own_map hown1 hg q.symm)]
       exact (heap_alloc_old _ _ hrl).trans hg
     have hlow : ∀ k, k < w1.heap.size → k ≠ g → v.ownBlock ≠ some k → (w2.setCell ⟨g, 0, none⟩ (.slice (some ⟨g2, 0, none⟩) (E.length + 1) cap2)).heap[k]? = w1.heap[k]? := fun k hk h1 h2 => by
       rw [hoth k h1, hgrow2.block k (by simp; omega) (fun q => h2 q.symm)]
       exact heap_alloc_old _ _ hk
     have hvb : ∀ k, v.ownBlock = some k → k < w.heap.size := fun k hk => (hown.lt k hk).2
     have e03 : Blk (w2.setCell ⟨g, 0, none⟩ (.slice (some ⟨g2, 0, none⟩) (E.length + 1) cap2)) w.heap.size 112 #[.int .u8 (tag : Int), .string s] := (hlow _ (by omega) (by omega) (fun q => by have := hvb _ q; omega)).trans e0
     have e13 : Blk (w2.setCell ⟨g, 0, none⟩ (.slice (some ⟨g2, 0, none⟩) (E.length + 1) cap2)) (w.heap.size + 1) 33 (va 32 (iv .u8 y)) := (hlow _ (by omega) (by omega) (fun q => by have := hvb _ q; omega)).trans e1
     have hos : (w2.setCell ⟨g, 0, none⟩ (.slice (some ⟨g2, 0, none⟩) (E.length + 1) cap2)).os = w.os ∧ (w2.setCell ⟨g, 0, none⟩ (.slice (some ⟨g2, 0, none⟩) (E.length + 1) cap2)).tape = w.tape ∧ (w2.setCell ⟨g, 0, none⟩ (.slice (some ⟨g2, 0, none⟩) (E.length + 1) cap2)).output = w.output := ⟨hgrow2.os.trans hb1.os, hgrow2.tape.trans hb1.tape, hgrow2.output.trans hb1.output⟩
     have hsz3 : w1.heap.size ≤ (w2.setCell ⟨g, 0, none⟩ (.slice (some ⟨g2, 0, none⟩) (E.length + 1) cap2)).heap.size := by
       rw [Deep.nblk_setCell]
       simp at hs2
       omega
     have hat3 : g2 < w2.heap.size := hg2b
     generalize w2.setCell ⟨g, 0, none⟩ (.slice (some ⟨g2, 0, none⟩) (E.length + 1) cap2) = w3 at *
     obtain ⟨w4, hup, hM4, hk4⟩ := run_update_is (P := Try.prog) Try.underlying115 entry_key (w := w3.drew) (show MapIs entV sumV w3.drew r (E.map fun e => (e, sumOf e)) from hM3) (tag, s) (sumOf (tag, s)) (by
       have := HN.out
       unfold isIn at this
       simpa using this)
     have hup2 : Sem.run Try.prog (Instr.mapUpdate 115 (.map (some r)) (.agg #[.int .u8 (tag : Int), .string s]) (.agg (va 32 (iv .u8 y)))) w3.drew = .ok () w4 := by
       rw [HY0.out]
       exact hup
     have c13 : w3.cell? ⟨g, 1, none⟩ = some (.map (some r)) := by rw [hB3.cell]; rfl
     have HUP : Hid (Sem.run Try.prog (Instr.mapUpdate 115 (.map (some r)) (.agg #[.int .u8 (tag : Int), .string s]) (.agg (va 32 (iv .u8 y)))) w3.drew = .ok () w4) := hup2
     clear hup hup2
     go_wp2_with fail
     refine wp_region_partsI [4, 5] [([4, 5, 0], 1, false), ([], 2, false), ([], 3, false)] [] [6] w3.heap.size (by kernel_rfl) (by kernel_rfl) (lows_two ⟨⟨w.heap.size, 0, none⟩, _, _, _, rfl, e03.lt, e03⟩ ⟨⟨w.heap.size + 1, 0, none⟩, _, _, _, rfl, e13.lt, e13⟩) (partsI_force ?_)
     simp only [List.cons_append, List.nil_append, List.append_nil, List.filterMap_cons, List.filterMap_nil, List.getElem?_toArray, List.getElem?_cons_zero, List.getElem?_cons_succ]
     refine wpList_load_row (by rfl) 112 _ (by rfl) w.heap.size (by rfl) 112 #[.int .u8 (tag : Int), .string s] (0, 0) _ e03.drew Try.underlying112 (by rfl) sizeEnt ?_
     simp only [Act.put, List.setIfInBounds_toArray, List.set_cons_zero, List.set_cons_succ]
     refine wpList_load_row (by rfl) 33 _ (by rfl) (w.heap.size + 1) (by rfl) 33 (va 32 (iv .u8 y)) (0, 0) _ e13.drew Try.underlying33 (by rfl) (sizeSum.trans (by rw [va_size])) ?_
     simp only [Act.put, List.setIfInBounds_toArray, List.set_cons_zero, List.set_cons_succ]
     go_wp2_with fail
     refine ⟨rfl, (Below.refl _ _).drew, partsI_force ?_⟩
     simp only [List.cons_append, List.nil_append, List.append_nil, List.filterMap_cons, List.filterMap_nil, List.getElem?_toArray, List.getElem?_cons_zero, List.getElem?_cons_succ]
     go_wp2_with fail
     refine ⟨rfl, (Below.refl _ _).drew, partsI_force ?_⟩
     simp only [List.cons_append, List.nil_append, List.append_nil, List.filterMap_cons, List.filterMap_nil, List.getElem?_toArray, List.getElem?_cons_zero, List.getElem?_cons_succ]
     go_wp2_with fail
     refine ⟨rfl, (Below.refl _ _).drew, partsI_last ?_⟩
     simp only [List.cons_append, List.nil_append, List.append_nil, List.filterMap_cons, List.filterMap_nil, List.getElem?_toArray, List.getElem?_cons_zero, List.getElem?_cons_succ]
     have hup3 := HUP.out
     go_wp2_with fail
     refine ⟨rfl, ?_⟩
     go_wp2_with fail
     refine bodyPost_end (results_none Try.results52 _ _ _) rfl ?_
     have hrg : g ≠ r := fun q => by
       subst q
       obtain ⟨es, cl, hg, _⟩ := hM3
       unfold Blk at hB3
       rw [hB3] at hg
       cases hg
     have hg2r : g2 ≠ r := fun q => by
       obtain ⟨es, cl, hg, _⟩ := hM3
       exact own_map hown3 hg (by rw [← q]; rfl)
     have hg2l : g2 < w3.heap.size := (hown3.lt g2 rfl).2
     refine ⟨rfl, (.slice (some ⟨g2, 0, none⟩) (E.length + 1) cap2), ⟨hk4.blk hB3.drew hrg, ?_, ?_⟩, ⟨hk4.1.os.trans hos.1, hk4.1.tape.trans hos.2.1, hk4.1.output.trans hos.2.2, ?_, fun k h1 h2 h3 h4 => ?_⟩, ?_⟩
     · have e1 : entCells (E ++ [(tag, s)]) = entCells E ++ [.int .u8 (tag : Int), .string s] := by simp [entCells]
       rw [e1, List.length_append]
       exact own_block hown3 (fun k hk => hk4.2 k (by simp [Value.ownBlock] at hk; omega) (by simp [Value.ownBlock] at hk; show k < w3.heap.size; omega))
     · rw [List.map_append]
       exact hM4
     · have := hk4.1.size
       have q : w3.drew.heap.size = w3.heap.size := rfl
       omega
     · rw [hk4.2 k h3 (by show k < w3.heap.size; omega)]
       have q : w3.drew.heap[k]? = w3.heap[k]? := rfl
       rw [q, hlow k (by omega) h2 h4]
       exact hb1.block k h1
     · rcases hat2 with q | q
       · exact .inl q
       · refine .inr ⟨_, q, ?_⟩
         simp
         omega)
end Go.Proofs.Ytdniigefmlmcdab
