/- Contracts of the functions on numbers in bytes, in the program and in the document's answer: what each returns, and that no memory that was there has changed. Strings are of every length that there can be. -/
import Derived.Test.YtjlngldmdfbbaaaHSegsIf
import Derived.Laws.BitsAllLaws
import Derived.Laws.Bits64
import Derived.Laws.Rows
import Derived.Laws.Tables
import Derived.Laws.CopyOwn
import Derived.Below
import Derived.Deep.MidRow
import Derived.Test.YtjlngldmdfbbaaaRows
import Derived.ChangeKeysEq
import Derived.WalkKit
import Derived.Laws.BytesArg
import Derived.Laws.ResultCell
import Derived.Handy
import Derived.ProofKit
import Derived.OpenShut
import Derived.WalkSpells

namespace Go.Proofs.Ytjlngldmdfbbaaa
open Go Go.RowKit

section
variable {P : Program} {ops : Array Oper} {Q : Exit → Act → World → Prop} {md : Region.Mode} {Wl : List Nat} {S : World → Prop}

theorem takeS_gen {i fuel : Nat} {o : Oper} {v : Value} {listed : Array Bool} {a : Act} {w : World} (hs : Region.noSelect ops = true) (hi : ops[i]? = some o) (hr : (Region.ready md ops listed).contains i = true)
    (hf : Region.free md ops listed i = true) (hWi : Wl.contains i = false) (hwait : waitW md ops listed i Wl (waitArr md ops listed i) = true) (hy : YieldsIf P ops S o v a) (hS : S w)
    (hK : wpAnyW P md ops (Strict Q) S (Wl.contains ·) fuel (listed.setIfInBounds i true) (a.put o.dst v) w) :
    wpAnyW P md ops (Strict Q) S (Wl.contains ·) (fuel + 1) listed a w := by
  generalize hwt : waitArr md ops listed i = arr at hwait
  unfold waitW at hwait
  rw [List.all_eq_true] at hwait
  have hall : ∀ j oj, ops[j]? = some oj → (if arr.getD j false then (j == i || oj.after.any fun e => Region.binds md e && arr.getD e.on false && decide (e.on < ops.size)) && !listed.getD j true else !Wl.contains j) = true := fun j oj hj => by
    have h1 := hwait j (List.mem_range.2 (Array.getElem?_eq_some_iff.1 hj).1)
    rw [hj] at h1; exact h1
  have hin : ∀ j, decide (j < ops.size) = true → ∃ oj, ops[j]? = some oj := fun j hj => ⟨_, Array.getElem?_eq_getElem (of_decide_eq_true hj)⟩
  refine wpAnyW_take hi (Region.noSelect_spec hs) (fun j => arr.getD j false && decide (j < ops.size)) (v := v) (strict_frame _ _) ?_ ?_ hWi fuel listed a w (Region.free_spec hi hf) ?_ (by simpa using hr) hy hS hK
  · intro j oj hj hw hne
    simp only [Bool.and_eq_true] at hw
    have h1 := hall j oj hj
    rw [if_pos hw.1] at h1
    simp only [Bool.and_eq_true, Bool.or_eq_true, beq_iff_eq, hne, false_or] at h1
    obtain ⟨e, he, hb⟩ := Array.any_eq_true'.1 h1.1
    simp only [Bool.and_eq_true] at hb
    exact ⟨e, he, hb.1.1, by simp only [Bool.and_eq_true]; exact ⟨hb.1.2, hb.2⟩⟩
  · intro j oj hj hw
    have hlt : decide (j < ops.size) = true := decide_eq_true (Array.getElem?_eq_some_iff.1 hj).1
    have h1 := hall j oj hj
    cases hq : arr.getD j false with
    | true => rw [hlt]; rfl
    | false => rw [if_neg (by rw [hq]; decide), hw] at h1; cases h1
  · intro j hw
    simp only [Bool.and_eq_true] at hw
    obtain ⟨oj, hj⟩ := hin j hw.2
    have h1 := hall j oj hj
    rw [if_pos hw.1] at h1
    simp only [Bool.and_eq_true, Bool.not_eq_true'] at h1
    exact h1.2

theorem forceS_step {i fuel : Nat} {listed : Array Bool} {a : Act} {w : World} (hb : forceW md ops listed i = true)
    (h : wpOp P ops (Strict Q) i (fun a' w' => (Wl.contains i = false → S w') ∧ wpAnyW P md ops (Strict Q) S (Wl.contains ·) fuel (listed.setIfInBounds i true) a' w') a w) :
    wpAnyW P md ops (Strict Q) S (Wl.contains ·) (fuel + 1) listed a w := by
  unfold forceW at hb
  simp only [Bool.and_eq_true, beq_iff_eq] at hb
  refine ⟨fun h0 => absurd (hb.1.symm.trans h0) (by simp), ?_⟩
  rw [hb.1]
  intro j hj
  have : j = i := by simpa using hj
  subst this; exact h

theorem takeS_step {i fuel : Nat} {listed : Array Bool} {a : Act} {w : World} (hs : Region.noSelect ops = true) (hb : takeW md ops listed Wl [] i = true) (hS : S w)
    (h : wpOp P ops (Strict Q) i (fun a' w' => S w' → wpAnyW P md ops (Strict Q) S (Wl.contains ·) fuel (listed.setIfInBounds i true) a' w') a w) :
    wpAnyW P md ops (Strict Q) S (Wl.contains ·) (fuel + 1) listed a w := by
  unfold takeW at hb
  cases hi : ops[i]? with
  | none => rw [hi] at hb; cases hb
  | some o =>
    rw [hi] at hb
    simp only [Bool.and_eq_true, Bool.or_eq_true, Bool.not_eq_true'] at hb
    obtain ⟨⟨⟨⟨hr, hf⟩, hWi⟩, hk⟩, hwait⟩ := hb
    have key : ∃ v, wpAnyW P md ops (Strict Q) S (Wl.contains ·) fuel (listed.setIfInBounds i true) (a.put o.dst v) w ∧ YieldsIf P ops S o v a := by
      unfold wpOp at h
      simp only [hi] at h
      by_cases hw : Region.wanted o (yielded ops a.tmps) = true
      · simp only [hw, if_true] at h
        rcases h with h | ⟨_, h⟩
        · unfold Oper.wp at h
          have hrun : ∃ v, (execOp a.eval o).run P w = .ok (.value v) w ∧ ∀ w', S w' → (execOp a.eval o).run P w' = .ok (.value v) w' := by
            cases hsr : (execOp a.eval o).run P w with
            | ok n w1 =>
              rcases hk with hk | hk
              · obtain ⟨hp, hv⟩ := kindV_run (P := P) hk a.eval
                obtain ⟨v, rfl⟩ := hv _ _ _ hsr
                obtain ⟨rfl, h2⟩ := hp _ _ _ hsr
                exact ⟨v, rfl, fun w' _ => h2 w'⟩
              · obtain ⟨t, x, hop, hx⟩ := lowLoad_run hk
                cases hx
            | halt y w1 =>
              rw [hsr] at h
              cases y <;> simp only [Oper.upon, Strict] at h <;> first | exact absurd h.1 (by intro e; cases e) | exact h.elim
          obtain ⟨v, h1, h2⟩ := hrun
          rw [h1, Oper.upon_value] at h
          exact ⟨v, h hS, .inl ⟨hw, h2⟩⟩
        · exact absurd h Strict.noOut
      · rw [Bool.not_eq_true] at hw
        simp only [hw, Bool.false_eq_true, if_false] at h
        exact ⟨undef, h hS, .inr ⟨hw, rfl⟩⟩
    obtain ⟨v, hK, hy⟩ := key
    exact takeS_gen hs hi hr hf hWi hwait hy hS hK

theorem takesS_step (hs : Region.noSelect ops = true) (more : List Nat) (fuel : Nat) (Q' : Exit → Act → World → Prop) :
    ∀ (ts : List Nat) (listed l2 : Array Bool) (a : Act) (w : World), takesB md ops Wl [] ts listed = some l2 →
      (∀ a' w', S w' → wpList P ops (Strict Q') (more.filterMap fun i => ops[i]?) a' w' → wpAnyW P md ops (Strict Q) S (Wl.contains ·) fuel l2 a' w') →
      S w → wpList P ops (Strict Q') ((ts ++ more).filterMap fun i => ops[i]?) a w →
      wpAnyW P md ops (Strict Q) S (Wl.contains ·) (ts.length + fuel) listed a w := by
  intro ts
  induction ts with
  | nil =>
    intro listed l2 a w hb hn hS h
    simp only [takesB, Option.some.injEq] at hb
    subst hb
    rw [List.length_nil, Nat.zero_add]
    exact hn a w hS h
  | cons i rest ih =>
    intro listed l2 a w hb hn hS h
    unfold takesB at hb
    split at hb
    · rename_i hc
      have hlen : (i :: rest).length + fuel = (rest.length + fuel) + 1 := by simp only [List.length_cons]; omega
      rw [hlen]
      obtain ⟨o, ho⟩ := has_op hc
      refine takeS_step hs hc hS (wpOp_mono (fun a' w' h' h2 => ?_) (wpOp_strict (wpList_one ho h)))
      exact ih _ l2 a' w' hb hn h2 h'
    · cases hb

theorem tailS_step : ∀ (ts : List Nat) (listed : Array Bool) (a : Act) (w : World), tailB md ops Wl ts listed = true → wpList P ops (Strict Q) (ts.filterMap fun i => ops[i]?) a w →
    wpAnyW P md ops (Strict Q) S (Wl.contains ·) ts.length listed a w
  | [], listed, a, w, hb, h => ⟨by simpa [tailB] using hb, h⟩
  | i :: rest, listed, a, w, hb, h => by
    simp only [tailB, Bool.and_eq_true] at hb
    obtain ⟨o, ho⟩ := has_op' hb.1.1
    refine forceS_step hb.1.1 (wpOp_mono (fun a' w' h' => ?_) (wpList_one ho h))
    exact ⟨fun e => (by rw [hb.1.2] at e; cases e), tailS_step rest _ a' w' hb.2 h'⟩

theorem partsS_step (hs : Region.noSelect ops = true) (takes tail : List Nat) :
    ∀ (ps : List (List Nat × Nat × Bool)) (listed : Array Bool) (a : Act) (w : World), partsB md ops Wl [] ps takes tail listed = true → S w →
      wpPartsI P ops Q S ps (takes ++ tail) a w → wpAnyW P md ops (Strict Q) S (Wl.contains ·) (lenOf ps (takes.length + tail.length)) listed a w
  | [], listed, a, w, hb, hS, h => by
    unfold partsB at hb
    split at hb
    · rename_i l2 hl2
      exact takesS_step hs tail tail.length Q takes listed l2 a w hl2 (fun a' w' _ h' => tailS_step tail l2 a' w' hb h') hS h
    · cases hb
  | (ts, i, false) :: rest, listed, a, w, hb, hS, h => by
    unfold partsB at hb
    split at hb
    · rename_i l2 hl2
      simp only [Bool.and_eq_true, Bool.not_eq_true', Bool.false_eq_true, if_false] at hb
      refine takesS_step hs [i] _ _ ts listed l2 a w hl2 (fun a' w' _ h' => ?_) hS h
      obtain ⟨o, ho⟩ := has_op' hb.1.1
      rw [Nat.add_comm 1]
      refine forceS_step hb.1.1 (wpOp_mono (fun a2 w2 h2 => ?_) (wpOp_strict (wpList_one ho h')))
      have h3 := h2.2
      exact ⟨fun _ => h3.1, partsS_step hs takes tail rest _ a2 w2 hb.2 h3.1 h3.2⟩
    · cases hb
  | (ts, i, true) :: rest, listed, a, w, hb, hS, h => by
    unfold partsB at hb
    split at hb
    · rename_i l2 hl2
      simp only [Bool.and_eq_true, if_true] at hb
      refine takesS_step hs [] _ _ ts listed l2 a w hl2 (fun a' w' hS' h' => ?_) hS h
      obtain ⟨-, o, v, ho, hy, hn⟩ := h'
      have hc := hb.1
      unfold yieldW at hc
      rw [ho] at hc
      simp only [Bool.and_eq_true, Bool.not_eq_true'] at hc
      rw [Nat.add_comm 1]
      exact takeS_gen hs ho hc.1.1.1 hc.1.1.2 hc.1.2 hc.2 hy hS' (partsS_step hs takes tail rest _ _ w' hb.2 hS' hn)
    · cases hb

/-- THE LAW. -/
theorem wp_region_partsS {id : Nat} {a : Act} {w : World} (S : World → Prop) (ps : List (List Nat × Nat × Bool)) (takes tail : List Nat) (hm : P.follows .mixedOrders = true) (hB : wholeB ops tail [] ps takes tail = true)
    (hS : S w.drew) (h : wpPartsI P ops Q S ps (takes ++ tail) a w.drew) : (Code.region id ops true).wp P Q a w := by
  unfold wholeB at hB
  simp only [Bool.and_eq_true, beq_iff_eq] at hB
  refine Code.wp_mono Strict.imp (wp_region_any hm ?_)
  rw [← hB.1.1.1]
  exact wpAny_of_W _ _ _ _ (partsS_step hB.1.1.2 takes tail ps _ a _ (by rw [hB.1.1.1]; exact hB.2) hS h)
end
end Go.Proofs.Ytjlngldmdfbbaaa

namespace Go.Proofs.Ytjlngldmdfbbaaa
open Go Go.RowKit

/-- the plan of a region's walk -/
inductive Plan where
  | fin (takes : List Nat)
  | force (ts : List Nat) (i : Nat) (next : Plan)
  | yield (ts : List Nat) (i : Nat) (next : Plan)
  | fork (i j : Nat) (p q : Plan)
def Plan.len : Plan → Nat
  | .fin takes => takes.length
  | .force ts _ p => ts.length + (1 + p.len)
  | .yield ts _ p => ts.length + (1 + p.len)
  | .fork _ _ p _ => p.len + 1
/-- the check -/
def Plan.ok (ops : Array Oper) : Plan → Array Bool → Bool
  | .fin takes, listed => match takesB .any ops [] [] takes listed with
    | some l => (Region.ready .any ops l).isEmpty
    | none => false
  | .force ts i p, listed => match takesB .any ops [] [] ts listed with
    | some l => forceW .any ops l i && p.ok ops (l.setIfInBounds i true)
    | none => false
  | .yield ts i p, listed => match takesB .any ops [] [] ts listed with
    | some l => yieldW .any ops l [] i && p.ok ops (l.setIfInBounds i true)
    | none => false
  | .fork i j p q, listed => Region.ready .any ops listed == [i, j] && (ops[i]?).isSome && (ops[j]?).isSome && p.len == q.len && p.ok ops (listed.setIfInBounds i true) && q.ok ops (listed.setIfInBounds j true)
def Plan.whole (ops : Array Oper) (p : Plan) : Bool := p.len == ops.size && Region.noSelect ops && p.ok ops (Array.replicate ops.size false)
section
variable {P : Program} {ops : Array Oper} {Q : Exit → Act → World → Prop} {S : World → Prop}
/-- the walk -/
def wpPlan (P : Program) (ops : Array Oper) (Q : Exit → Act → World → Prop) (S : World → Prop) : Plan → Act → World → Prop
  | .fin takes, a, w => wpList P ops (Strict Q) (takes.filterMap fun i => ops[i]?) a w
  | .force ts i p, a, w => wpList P ops (Strict fun _ a' w' => S w' ∧ wpPlan P ops Q S p a' w') ((ts ++ [i]).filterMap fun i => ops[i]?) a w
  | .yield ts i p, a, w => wpList P ops (Strict fun _ a' w' => ∃ o v, ops[i]? = some o ∧ YieldsIf P ops S o v a' ∧ wpPlan P ops Q S p (a'.put o.dst v) w') ((ts ++ []).filterMap fun i => ops[i]?) a w
  | .fork i j p q, a, w => wpList P ops (Strict fun _ a' w' => S w' ∧ wpPlan P ops Q S p a' w') ([i].filterMap fun i => ops[i]?) a w ∧ wpList P ops (Strict fun _ a' w' => S w' ∧ wpPlan P ops Q S q a' w') ([j].filterMap fun i => ops[i]?) a w
theorem plan_step (hs : Region.noSelect ops = true) : ∀ (p : Plan) (listed : Array Bool) (a : Act) (w : World), p.ok ops listed = true → S w →
      wpPlan P ops Q S p a w → wpAnyW P .any ops (Strict Q) S (([] : List Nat).contains ·) p.len listed a w
  | .fin takes, listed, a, w, hb, hS, h => by
    unfold Plan.ok at hb
    split at hb
    · rename_i l2 hl2
      have h2 : wpList P ops (Strict Q) ((takes ++ []).filterMap fun i => ops[i]?) a w := by
        rw [List.append_nil]
        exact h
      exact takesS_step hs [] 0 Q takes listed l2 a w hl2 (fun a' w' _ h' => ⟨by simpa using hb, h'⟩) hS h2
    · cases hb
  | .force ts i p, listed, a, w, hb, hS, h => by
    unfold Plan.ok at hb
    split at hb
    · rename_i l2 hl2
      simp only [Bool.and_eq_true] at hb
      refine takesS_step hs [i] _ _ ts listed l2 a w hl2 (fun a' w' _ h' => ?_) hS h
      obtain ⟨o, ho⟩ := has_op' hb.1
      rw [Nat.add_comm 1]
      refine forceS_step hb.1 (wpOp_mono (fun a2 w2 h2 => ?_) (wpOp_strict (wpList_one ho h')))
      have h3 := h2.2
      exact ⟨fun _ => h3.1, plan_step hs p _ a2 w2 hb.2 h3.1 h3.2⟩
    · cases hb
  | .yield ts i p, listed, a, w, hb, hS, h => by
    unfold Plan.ok at hb
    split at hb
    · rename_i l2 hl2
      simp only [Bool.and_eq_true] at hb
      refine takesS_step hs [] _ _ ts listed l2 a w hl2 (fun a' w' hS' h' => ?_) hS h
      obtain ⟨-, o, v, ho, hy, hn⟩ := h'
      have hc := hb.1
      unfold yieldW at hc
      rw [ho] at hc
      simp only [Bool.and_eq_true, Bool.not_eq_true'] at hc
      rw [Nat.add_comm 1]
      exact takeS_gen hs ho hc.1.1.1 hc.1.1.2 hc.1.2 hc.2 hy hS' (plan_step hs p _ _ w' hb.2 hS' hn)
    · cases hb
  | .fork i j p q, listed, a, w, hb, hS, h => by
    simp only [Plan.ok, Bool.and_eq_true, beq_iff_eq] at hb
    obtain ⟨⟨⟨⟨⟨hr, hi⟩, hj⟩, hl⟩, hp⟩, hq⟩ := hb
    refine ⟨fun h0 => (by rw [h0] at hr; cases hr), fun x hx => ?_⟩
    rw [hr] at hx
    have hx2 : x = i ∨ x = j := by simpa using hx
    rcases hx2 with rfl | rfl
    · obtain ⟨o, ho⟩ := Option.isSome_iff_exists.1 hi
      refine wpOp_mono (fun a' w' h' => ?_) (wpOp_strict (wpList_one ho h.1))
      exact ⟨fun _ => h'.2.1, plan_step hs p _ a' w' hp h'.2.1 h'.2.2⟩
    · obtain ⟨o, ho⟩ := Option.isSome_iff_exists.1 hj
      refine wpOp_mono (fun a' w' h' => ?_) (wpOp_strict (wpList_one ho h.2))
      have := plan_step hs q _ a' w' hq h'.2.1 h'.2.2
      rw [← hl] at this
      exact ⟨fun _ => h'.2.1, this⟩
/-- THE LAW. -/
theorem wp_region_plan {id : Nat} {a : Act} {w : World} (S : World → Prop) (p : Plan) (hm : P.follows .mixedOrders = true) (hB : p.whole ops = true)
    (hS : S w.drew) (h : wpPlan P ops Q S p a w.drew) : (Code.region id ops true).wp P Q a w := by
  unfold Plan.whole at hB
  simp only [Bool.and_eq_true, beq_iff_eq] at hB
  refine Code.wp_mono Strict.imp (wp_region_any hm ?_)
  rw [← hB.1.1]
  exact wpAny_of_W _ _ _ _ (plan_step hB.1.2 p _ a _ (by rw [hB.1.1]; exact hB.2) hS h)
theorem plan_force {ts : List Nat} {i : Nat} {p : Plan} {a : Act} {w : World}
    (h : wpList P ops (Strict fun _ a' w' => S w' ∧ wpPlan P ops Q S p a' w') ((ts ++ [i]).filterMap fun i => ops[i]?) a w) : wpPlan P ops Q S (.force ts i p) a w := h
theorem plan_yield {ts : List Nat} {i : Nat} {p : Plan} {a : Act} {w : World}
    (h : wpList P ops (Strict fun _ a' w' => ∃ o v, ops[i]? = some o ∧ YieldsIf P ops S o v a' ∧ wpPlan P ops Q S p (a'.put o.dst v) w') ((ts ++ []).filterMap fun i => ops[i]?) a w) : wpPlan P ops Q S (.yield ts i p) a w := h
theorem plan_fork {i j : Nat} {p q : Plan} {a : Act} {w : World} (h1 : wpList P ops (Strict fun _ a' w' => S w' ∧ wpPlan P ops Q S p a' w') ([i].filterMap fun i => ops[i]?) a w)
    (h2 : wpList P ops (Strict fun _ a' w' => S w' ∧ wpPlan P ops Q S q a' w') ([j].filterMap fun i => ops[i]?) a w) : wpPlan P ops Q S (.fork i j p q) a w := ⟨h1, h2⟩
theorem plan_fin {takes : List Nat} {a : Act} {w : World} (h : wpList P ops (Strict Q) (takes.filterMap fun i => ops[i]?) a w) : wpPlan P ops Q S (.fin takes) a w := h
end
end Go.Proofs.Ytjlngldmdfbbaaa

namespace Go.Proofs.Ytjlngldmdfbbaaa
open Go Go.RowKit
section
variable {P : Program} {ops : Array Oper} {Q : Exit → Act → World → Prop} {S : World → Prop}
/-- every order from here on: each operation that is ready may come next (pre) -/
def machB (ops : Array Oper) (pre : Nat → Array Bool → Bool) (fin : Array Bool → Bool) : Nat → Array Bool → Bool
  | 0, l => (Region.ready .any ops l).isEmpty && fin l
  | f + 1, l => !(Region.ready .any ops l).isEmpty && (Region.ready .any ops l).all fun i => pre i l && (ops[i]?).isSome && machB ops pre fin f (l.setIfInBounds i true)
/-- the operations that are taken ahead, then the machine: the check -/
def yieldsB (ops : Array Oper) (pre : Nat → Array Bool → Bool) (fin : Array Bool → Bool) : List Nat → Nat → Array Bool → Bool
  | [], f, l => machB ops pre fin f l
  | i :: ys, f, l => yieldW .any ops l [] i && yieldsB ops pre fin ys f (l.setIfInBounds i true)
/-- .. and the walk -/
def wpYields (P : Program) (ops : Array Oper) (S : World → Prop) (K : Array Bool → Act → Prop) : List Nat → Array Bool → Act → Prop
  | [], l, a => K l a
  | i :: ys, l, a => ∃ o v, ops[i]? = some o ∧ YieldsIf P ops S o v a ∧ wpYields P ops S K ys (l.setIfInBounds i true) (a.put o.dst v)
theorem mach_step {pre : Nat → Array Bool → Bool} {fin : Array Bool → Bool} {R : Array Bool → Act → World → Prop}
    (hstep : ∀ i l a w, pre i l = true → R l a w → wpList P ops (Strict fun _ a' w' => S w' ∧ R (l.setIfInBounds i true) a' w') ([i].filterMap fun i => ops[i]?) a w)
    (hend : ∀ l a w, fin l = true → R l a w → Strict Q .normal a w) :
    ∀ (fuel : Nat) (l : Array Bool) (a : Act) (w : World), machB ops pre fin fuel l = true → R l a w → wpAnyW P .any ops (Strict Q) S (([] : List Nat).contains ·) fuel l a w
  | 0, l, a, w, hg, hR => by
    simp only [machB, Bool.and_eq_true, List.isEmpty_iff] at hg
    exact ⟨hg.1, hend l a w hg.2 hR⟩
  | fuel + 1, l, a, w, hg, hR => by
    unfold machB at hg
    simp only [Bool.and_eq_true, Bool.not_eq_true'] at hg
    refine ⟨fun h => (by rw [h] at hg; exact absurd hg.1 (by decide)), fun i hi => ?_⟩
    have hg2 := hg.2
    rw [List.all_eq_true] at hg2
    have h2 := hg2 i hi
    simp only [Bool.and_eq_true] at h2
    obtain ⟨o, ho⟩ := Option.isSome_iff_exists.1 h2.1.2
    refine wpOp_mono (fun a' w' h' => ?_) (wpOp_strict (wpList_one ho (hstep i l a w h2.1.1 hR)))
    exact ⟨fun _ => h'.2.1, mach_step hstep hend fuel _ a' w' h2.2 h'.2.2⟩
theorem yields_step (hs : Region.noSelect ops = true) {pre : Nat → Array Bool → Bool} {fin : Array Bool → Bool} {K : Array Bool → Act → Prop} {w : World} (hS : S w) {f : Nat}
    (hK : ∀ l a, machB ops pre fin f l = true → K l a → wpAnyW P .any ops (Strict Q) S (([] : List Nat).contains ·) f l a w) :
    ∀ (ys : List Nat) (l : Array Bool) (a : Act), yieldsB ops pre fin ys f l = true → wpYields P ops S K ys l a → wpAnyW P .any ops (Strict Q) S (([] : List Nat).contains ·) (ys.length + f) l a w
  | [], l, a, hb, h => by
    rw [List.length_nil, Nat.zero_add]
    exact hK l a hb h
  | i :: ys, l, a, hb, h => by
    simp only [yieldsB, Bool.and_eq_true] at hb
    obtain ⟨o, v, ho, hy, hn⟩ := h
    have hc := hb.1
    unfold yieldW at hc
    rw [ho] at hc
    simp only [Bool.and_eq_true, Bool.not_eq_true'] at hc
    rw [List.length_cons, show ys.length + 1 + f = ys.length + f + 1 from by omega]
    exact takeS_gen hs ho hc.1.1.1 hc.1.1.2 hc.1.2 hc.2 hy hS (yields_step hs hS hK ys _ _ hb.2 hn)
/-- the whole check -/
def machWhole (ops : Array Oper) (pre : Nat → Array Bool → Bool) (fin : Array Bool → Bool) (ys : List Nat) (f : Nat) : Bool :=
  (ys.length + f == ops.size) && Region.noSelect ops && yieldsB ops pre fin ys f (Array.replicate ops.size false)
/-- THE LAW. -/
theorem wp_region_mach {id : Nat} {a : Act} {w : World} (S : World → Prop) (pre : Nat → Array Bool → Bool) (fin : Array Bool → Bool) (ys : List Nat) (f : Nat) (R : Array Bool → Act → World → Prop)
    (hm : P.follows .mixedOrders = true) (hB : machWhole ops pre fin ys f = true) (hS : S w.drew)
    (hy : wpYields P ops S (fun l a' => R l a' w.drew) ys (Array.replicate ops.size false) a)
    (hstep : ∀ i l a w, pre i l = true → R l a w → wpList P ops (Strict fun _ a' w' => S w' ∧ R (l.setIfInBounds i true) a' w') ([i].filterMap fun i => ops[i]?) a w)
    (hend : ∀ l a w, fin l = true → R l a w → Strict Q .normal a w) : (Code.region id ops true).wp P Q a w := by
  unfold machWhole at hB
  simp only [Bool.and_eq_true, beq_iff_eq] at hB
  obtain ⟨⟨e, hs⟩, hb⟩ := hB
  refine Code.wp_mono Strict.imp (wp_region_any hm ?_)
  rw [← e] at hb hy ⊢
  exact wpAny_of_W _ _ _ _ (yields_step hs hS (fun l a' h1 h2 => mach_step hstep hend f l a' _ h1 h2) ys _ a hb hy)
end
end Go.Proofs.Ytjlngldmdfbbaaa

namespace Go.Proofs.Ytjlngldmdfbbaaa

/-- four words -/
structure Q4 where
  a : Nat
  b : Nat
  c : Nat
  d : Nat
  deriving DecidableEq
def Q4.ok (q : Q4) : Prop := q.a < 4294967296 ∧ q.b < 4294967296 ∧ q.c < 4294967296 ∧ q.d < 4294967296

end Go.Proofs.Ytjlngldmdfbbaaa

namespace Go.Proofs.Ytjlngldmdfbbaaa

def sum : List Nat → Nat
  | [] => 0
  | b :: r => b + sum r
def f1 (b : Nat) : Nat := ((b / 2) &&& 85) + (b &&& 85)
def f2 (b : Nat) : Nat := ((b / 4) &&& 51) + (b &&& 51)
def f3 (b : Nat) : Nat := (b / 16 + b) &&& 15
def bytesOf (x : Nat) : List Nat := [x % 256, x / 256 % 256, x / 65536 % 256, x / 16777216 % 256, x / 4294967296 % 256, x / 1099511627776 % 256, x / 281474976710656 % 256, x / 72057594037927936 % 256]
end Go.Proofs.Ytjlngldmdfbbaaa

namespace Go.Proofs.Ytjlngldmdfbbaaa

structure St where
  x0 : Nat
  x1 : Nat
  x2 : Nat
  x3 : Nat
  x4 : Nat
  x5 : Nat
  x6 : Nat
  x7 : Nat
  x8 : Nat
  x9 : Nat
  x10 : Nat
  x11 : Nat
  x12 : Nat
  x13 : Nat
  x14 : Nat
  x15 : Nat
  deriving DecidableEq

def St.ok (s : St) : Prop := s.x0 < 4294967296 ∧ s.x1 < 4294967296 ∧ s.x2 < 4294967296 ∧ s.x3 < 4294967296 ∧ s.x4 < 4294967296 ∧ s.x5 < 4294967296 ∧ s.x6 < 4294967296 ∧ s.x7 < 4294967296 ∧ s.x8 < 4294967296 ∧ s.x9 < 4294967296 ∧ s.x10 < 4294967296 ∧ s.x11 < 4294967296 ∧ s.x12 < 4294967296 ∧ s.x13 < 4294967296 ∧ s.x14 < 4294967296 ∧ s.x15 < 4294967296
def stA (s : St) : Array Value := #[.int .u32 (s.x0 : Int), .int .u32 (s.x1 : Int), .int .u32 (s.x2 : Int), .int .u32 (s.x3 : Int), .int .u32 (s.x4 : Int), .int .u32 (s.x5 : Int), .int .u32 (s.x6 : Int), .int .u32 (s.x7 : Int), .int .u32 (s.x8 : Int), .int .u32 (s.x9 : Int), .int .u32 (s.x10 : Int), .int .u32 (s.x11 : Int), .int .u32 (s.x12 : Int), .int .u32 (s.x13 : Int), .int .u32 (s.x14 : Int), .int .u32 (s.x15 : Int)]
def St.zero : St := ⟨0, 0, 0, 0, 0, 0, 0, 0, 0, 0, 0, 0, 0, 0, 0, 0⟩

/-- the word at a place -/
def St.at (s : St) : Nat → Nat
  | 0 => s.x0
  | 1 => s.x1
  | 2 => s.x2
  | 3 => s.x3
  | 4 => s.x4
  | 5 => s.x5
  | 6 => s.x6
  | 7 => s.x7
  | 8 => s.x8
  | 9 => s.x9
  | 10 => s.x10
  | 11 => s.x11
  | 12 => s.x12
  | 13 => s.x13
  | 14 => s.x14
  | 15 => s.x15
  | _ => 0
end Go.Proofs.Ytjlngldmdfbbaaa

namespace Go.Proofs.Ytjlngldmdfbbaaa
open Go Go.RowKit

/-- block g holds the cells, of type t -/
def Blk (w : World) (g : Nat) (t : TypeId) (cs : Array Value) : Prop := w.heap[g]? = some (.cells cs t (0, 0))

theorem Blk.lt {w : World} {g : Nat} {t : TypeId} {cs : Array Value} (h : Blk w g t cs) : g < w.heap.size := (Array.getElem?_eq_some_iff.1 h).1
theorem Blk.below {w w' : World} {g B : Nat} {t : TypeId} {cs : Array Value} (h : Blk w g t cs) (hb : Below B w w') (hg : g < B) : Blk w' g t cs := by
  unfold Blk at *; rw [hb.block g hg]; exact h
theorem Blk.drew {w : World} {g : Nat} {t : TypeId} {cs : Array Value} (h : Blk w g t cs) : Blk w.drew g t cs := h
theorem Blk.alloc {w : World} {g : Nat} {t : TypeId} {cs : Array Value} (h : Blk w g t cs) (o : Obj) : Blk (w.alloc o) g t cs := by
  have := h.lt
  unfold Blk at *; rw [Below.heap_alloc w o g this]; exact h
theorem Blk.new (w : World) (t : TypeId) (cs : Array Value) : Blk (w.alloc (.cells cs t)) w.heap.size t cs := heap_alloc_new w _
theorem Blk.set {w : World} {g : Nat} {t : TypeId} {old : Array Value} (h : Blk w g t old) (cs : Array Value) : Blk (w.setRow g cs) g t cs := setRow_heap w g old cs t _ h
theorem Blk.other {w : World} {g k : Nat} {t : TypeId} {old : Array Value} (h : Blk w k t old) (cs : Array Value) (hk : k ≠ g) : Blk (w.setRow g cs) k t old := by
  unfold Blk at *; rw [setRow_other w g k cs hk]; exact h
theorem Blk.cell {w : World} {g : Nat} {t : TypeId} {cs : Array Value} (h : Blk w g t cs) (i : Nat) : w.cell? ⟨g, i, none⟩ = cs[i]? := cell_of_row _ _ i cs t (0, 0) h

theorem Blk.load {P : Program} {w : World} {g : Nat} {t : TypeId} {cs : Array Value} (h : Blk w g t cs) {n : Nat} (hn : cs.size = n) :
    (loadCellsFrom ⟨g, 0, none⟩ 0 n #[]).run P w = .ok cs w := by
  subst hn
  have := run_loadCells_list (P := P) w ⟨g, 0, none⟩ cs.toList (fun j v hv => by
    have hadd : (⟨g, 0, none⟩ : Addr).add j = ⟨g, j, none⟩ := by unfold Addr.add; split <;> simp_all
    rw [hadd, h.cell]
    simpa using hv)
  simpa [loadCells] using this
/-- sixteen cells, of a state -/
structure Cells (w : World) (g : Nat) (s : St) : Prop where
  c0 : w.cell? ⟨g, 0, none⟩ = some (.int .u32 (s.x0 : Int))
  c1 : w.cell? ⟨g, 1, none⟩ = some (.int .u32 (s.x1 : Int))
  c2 : w.cell? ⟨g, 2, none⟩ = some (.int .u32 (s.x2 : Int))
  c3 : w.cell? ⟨g, 3, none⟩ = some (.int .u32 (s.x3 : Int))
  c4 : w.cell? ⟨g, 4, none⟩ = some (.int .u32 (s.x4 : Int))
  c5 : w.cell? ⟨g, 5, none⟩ = some (.int .u32 (s.x5 : Int))
  c6 : w.cell? ⟨g, 6, none⟩ = some (.int .u32 (s.x6 : Int))
  c7 : w.cell? ⟨g, 7, none⟩ = some (.int .u32 (s.x7 : Int))
  c8 : w.cell? ⟨g, 8, none⟩ = some (.int .u32 (s.x8 : Int))
  c9 : w.cell? ⟨g, 9, none⟩ = some (.int .u32 (s.x9 : Int))
  c10 : w.cell? ⟨g, 10, none⟩ = some (.int .u32 (s.x10 : Int))
  c11 : w.cell? ⟨g, 11, none⟩ = some (.int .u32 (s.x11 : Int))
  c12 : w.cell? ⟨g, 12, none⟩ = some (.int .u32 (s.x12 : Int))
  c13 : w.cell? ⟨g, 13, none⟩ = some (.int .u32 (s.x13 : Int))
  c14 : w.cell? ⟨g, 14, none⟩ = some (.int .u32 (s.x14 : Int))
  c15 : w.cell? ⟨g, 15, none⟩ = some (.int .u32 (s.x15 : Int))
theorem Blk.cells {w : World} {g : Nat} {t : TypeId} {s : St} (h : Blk w g t (stA s)) : Cells w g s :=
  ⟨by rw [h.cell]; rfl, by rw [h.cell]; rfl, by rw [h.cell]; rfl, by rw [h.cell]; rfl, by rw [h.cell]; rfl, by rw [h.cell]; rfl, by rw [h.cell]; rfl, by rw [h.cell]; rfl, by rw [h.cell]; rfl, by rw [h.cell]; rfl, by rw [h.cell]; rfl, by rw [h.cell]; rfl, by rw [h.cell]; rfl, by rw [h.cell]; rfl, by rw [h.cell]; rfl, by rw [h.cell]; rfl⟩
theorem Blk.put {w : World} {g : Nat} {t : TypeId} {cs : Array Value} (h : Blk w g t cs) (i : Nat) (v : Value) : Blk (w.setCell ⟨g, i, none⟩ v) g t (cs.setIfInBounds i v) := by
  rw [setCell_eq_setRow w g i cs t (0, 0) v h]; exact h.set _
end Go.Proofs.Ytjlngldmdfbbaaa

namespace Go.Proofs.Ytjlngldmdfbbaaa
open Go Go.RowKit

def va (n : Nat) (f : Nat → Value) : Array Value := ((List.range n).map f).toArray
theorem va_size (n : Nat) (f : Nat → Value) : (va n f).size = n := by simp [va]
theorem va_at {n : Nat} (f : Nat → Value) {i : Nat} (h : i < n) : (va n f)[i]? = some (f i) := by simp [va, h]
theorem va_ext {n : Nat} {f : Nat → Value} {a : Array Value} (hs : a.size = n) (h : ∀ i, i < n → a[i]? = some (f i)) : a = va n f := by
  apply Array.ext_getElem?
  intro i
  by_cases hi : i < n
  · rw [h i hi, va_at f hi]
  · rw [Array.getElem?_eq_none (by omega), Array.getElem?_eq_none (by rw [va_size]; omega)]
theorem va_congr {n : Nat} {f g : Nat → Value} (h : ∀ i, i < n → f i = g i) : va n f = va n g :=
  va_ext (va_size n f) fun i hi => by rw [va_at f hi, h i hi]
theorem va_toList (n : Nat) (f : Nat → Value) : (va n f).toList = (List.range n).map f := by simp [va]
theorem va_one {n : Nat} {f : Nat → Value} (h : ∀ i, i < n → (f i).oneCell' = true) : (va n f).all (·.oneCell') = true := by
  refine all_oneCell_toArray fun v hv => ?_
  obtain ⟨i, hi, rfl⟩ := List.mem_map.1 hv
  exact h i (List.mem_range.1 hi)
def iv (k : IntKind) (f : Nat → Nat) : Nat → Value := fun i => .int k (f i : Int)
theorem iv_one (k : IntKind) (f : Nat → Nat) (n : Nat) : (va n (iv k f)).all (·.oneCell') = true := va_one fun _ _ => rfl
/-- a run of values laid over the places from o on -/
def over (f : Nat → Value) (o : Nat) (vs : List Value) : Nat → Value := fun i => if o ≤ i ∧ i < o + vs.length then vs.getD (i - o) undef else f i
theorem Blk.range {w : World} {g t n : Nat} {f : Nat → Value} (h : Blk w g t (va n f)) (o m : Nat) (hm : o + m ≤ n) : w.rangeAt g o ((List.range m).map fun j => f (o + j)) := fun j v hv => by
  rw [h.cell]
  have hj : j < m := by
    have := (List.getElem?_eq_some_iff.1 hv).1
    simpa using this
  rw [va_at f (by omega)]
  simpa [hj] using hv
theorem Blk.frozen {w : World} {g t : Nat} {cs : Array Value} (h : Blk w g t cs) (i : Nat) : w.frozen? ⟨g, i, none⟩ = false := by
  have := h; unfold Blk at this; simp [World.frozen?, this]
theorem Blk.cv {w : World} {g t n : Nat} {f : Nat → Value} (h : Blk w g t (va n f)) {i : Nat} (hi : i < n) : w.cell? ⟨g, i, none⟩ = some (f i) := by rw [h.cell, va_at f hi]
end Go.Proofs.Ytjlngldmdfbbaaa

namespace Go.Proofs.Ytjlngldmdfbbaaa
open Go Go.RowKit

/-- F, and from place a on m places of G -/
def overF (F : Nat → Value) (a m : Nat) (G : Nat → Value) : Nat → Value := fun i => if a ≤ i ∧ i < a + m then G (i - a) else F i
theorem splice_range (n a m : Nat) (F G : Nat → Value) (h : a + m ≤ n) :
    splice ((List.range n).map F) a ((List.range m).map G) = (List.range n).map (overF F a m G) := by
  apply List.ext_getElem?
  intro i
  unfold splice
  have l1 : (((List.range n).map F).take a).length = a := by simp; omega
  have l2 : ((List.range m).map G).length = m := by simp
  by_cases h1 : i < a
  · rw [List.getElem?_append_left (by omega), List.getElem?_take_of_lt h1]
    have : overF F a m G i = F i := if_neg (by omega)
    simp [show i < n by omega, this]
  · rw [List.getElem?_append_right (by omega), l1]
    by_cases h2 : i < a + m
    · rw [List.getElem?_append_left (by omega)]
      have : overF F a m G i = G (i - a) := if_pos (by omega)
      simp [show i < n by omega, show i - a < m by omega, this]
    · rw [List.getElem?_append_right (by omega), List.getElem?_drop, l2, show a + m + (i - a - m) = i from by omega]
      have : overF F a m G i = F i := if_neg (by omega)
      by_cases h3 : i < n
      · simp [h3, this]
      · simp [h3]
theorem splice_va (n a m : Nat) (F G : Nat → Value) (h : a + m ≤ n) : (splice ((List.range n).map F) a ((List.range m).map G)).toArray = va n (overF F a m G) := by
  rw [splice_range n a m F G h]; rfl
theorem mem_iv_one (κ : IntKind) (m : Nat) (f : Nat → Nat) : ∀ v ∈ (List.range m).map (fun j => Value.int κ ((f j : Nat) : Int)), v.oneCell' = true := fun v hv => by
  obtain ⟨j, _, rfl⟩ := List.mem_map.1 hv
  rfl
end Go.Proofs.Ytjlngldmdfbbaaa

namespace Go.Proofs.Ytjlngldmdfbbaaa
set_option linter.unusedVariables false
open Go Go.RowKit

/-- the byte of a text at a place -/
def tbyte (s : ByteArray) (i : Nat) : Nat := (s.data.toList.getD i 0).toNat
/-- n bytes as a text -/
def strN (f : Nat → Nat) (n : Nat) : ByteArray := strOfNums ((List.range n).map fun i => (f i : Int))
theorem strN_size (f : Nat → Nat) (n : Nat) : (strN f n).size = n := by unfold strN; rw [strOfNums_size]; simp
theorem strN_congr {f g : Nat → Nat} {n : Nat} (h : ∀ j, j < n → f j = g j) : strN f n = strN g n := by
  unfold strN
  congr 1
  exact List.map_congr_left fun j hj => by rw [h j (List.mem_range.1 hj)]
/-- n bytes as values -/
def byL (f : Nat → Nat) (m : Nat) : List Value := (List.range m).map fun j => Value.int .u8 ((f j : Nat) : Int)
theorem byL_length (f : Nat → Nat) (m : Nat) : (byL f m).length = m := by simp [byL]
theorem byL_at (f : Nat → Nat) (m j : Nat) (h : j < m) : (byL f m)[j]? = some (.int .u8 ((f j : Nat) : Int)) := by simp [byL, h]
theorem text_prefix (s : ByteArray) (n : Nat) (h : n ≤ s.size) : List.take n (List.map (fun b : UInt8 => Value.int .u8 (b.toNat : Int)) s.data.toList) = byL (tbyte s) n := by
  have hs : s.data.toList.length = s.size := Array.length_toList
  apply List.ext_getElem?
  intro i
  by_cases hi : i < n
  · rw [byL_at _ _ _ hi, List.getElem?_take_of_lt hi, List.getElem?_map, List.getElem?_eq_getElem (by omega)]
    unfold tbyte
    rw [List.getD_eq_getElem?_getD, List.getElem?_eq_getElem (by omega)]
    rfl
  · rw [List.getElem?_eq_none (by rw [List.length_take]; omega), List.getElem?_eq_none (by rw [byL_length]; omega)]
section
variable {P : Program}
theorem run_copy_text (w : World) (dT sT ty elem : TypeId) (g o dLen dCap : Nat) (s : ByteArray) (cur : Array Value) (t : TypeId) (n : Nat)
    (hu : P.underlying dT = some (.slice elem)) (hs : (P.info? elem).map (·.size) = some 1)
    (hg : w.heap[g]? = some (.cells cur t (0, 0))) (hn : n = Nat.min s.size dLen) (hfit : o + n ≤ cur.size) :
    (Builtin.copy_ #[dT, sT] ty #[.slice (some ⟨g, o, none⟩) dLen dCap, .string s]).run P w =
      .ok (goInt n) (w.setRow g (splice cur.toList o (byL (tbyte s) n)).toArray) := by
  have hns : n ≤ s.size := by rw [hn]; exact Nat.min_le_left _ _
  have eL := text_prefix s n hns
  have hst := run_storeCells_at P g o t (List.take n (List.map (fun b : UInt8 => Value.int .u8 (b.toNat : Int)) s.data.toList)) 0 cur w hg (by rw [eL, byL_length]; simpa using hfit) (by rw [eL]; exact mem_iv_one _ _ _)
  have e2 : (w.setRow g (cur.toList.take (o + 0) ++ List.take n (List.map (fun b : UInt8 => Value.int .u8 (b.toNat : Int)) s.data.toList) ++ cur.toList.drop (o + 0 + (List.take n (List.map (fun b : UInt8 => Value.int .u8 (b.toNat : Int)) s.data.toList)).length)).toArray) = w.setRow g (splice cur.toList o (byL (tbyte s) n)).toArray := by
    rw [eL]
    unfold splice
    rw [List.append_assoc, Nat.add_zero]
  rw [e2] at hst
  cases hq : P.info? elem with
  | none => simp [hq] at hs
  | some i =>
    have hi : i.size = 1 := by simpa [hq] using hs
    generalize w.setRow g (splice cur.toList o (byL (tbyte s) n)).toArray = W at *
    simp [Builtin.copy_, run_underlying hu, Builtin.lenOf, Builtin.firstCells, sizeOf, typeInfo, hq, ← hn, hst]
theorem run_bytes_text (w : World) (src e dst : TypeId) (hs : P.underlying src = some (.slice e)) (he : P.underlying e = some (.int .u8)) (hd : P.underlying dst = some .string) {g t N : Nat} {f : Nat → Nat} (h : Blk w g t (va N (iv .u8 f))) (o n c : Nat) (hn : o + n ≤ N) :
    (convert src dst (.slice (some ⟨g, o, none⟩) n c)).run P w = .ok (.string (strN (fun j => f (o + j)) n)) w :=
  run_convert_bytes_arg w src e hs he g o n c _ (by simp) (fun i hi => by
    rw [h.cv (i := o + i) (by omega)]
    simp [List.getD_eq_getElem?_getD, hi, iv]) dst hd
end
/-- n bytes laid into a block from place r on -/
def putAt (p : Nat → Nat) (r n : Nat) (b : Nat → Nat) : Nat → Nat := fun j => if r ≤ j ∧ j < r + n then b (j - r) else p j
theorem splice_put (N r n : Nat) (p b : Nat → Nat) (h : r + n ≤ N) : (splice (va N (iv .u8 p)).toList r (byL b n)).toArray = va N (iv .u8 (putAt p r n b)) := by
  rw [va_toList]
  refine Eq.trans (by rfl) ((splice_va N r n (iv .u8 p) (fun j => Value.int .u8 ((b j : Nat) : Int)) h).trans ?_)
  refine va_congr fun i hi => ?_
  unfold overF iv putAt
  by_cases h1 : r ≤ i ∧ i < r + n
  · rw [if_pos h1, if_pos h1]
  · rw [if_neg h1, if_neg h1]
theorem ksizeU8 : (Try.prog.info? 5).map (·.size) = some 1 := by kernel_rfl
theorem below_new1 (w : World) (o : Obj) : Below w.heap.size w (w.alloc o) := (Below.refl _ _).alloc (Nat.le_refl _) _
end Go.Proofs.Ytjlngldmdfbbaaa

namespace Go.Proofs.Ytjlngldmdfbbaaa
open Go.RowKit

set_option maxHeartbeats 1000000 in
theorem bytes16_any (x : Nat) (w : World) :
    Calls Try.prog 22 #[.int .u16 (x : Int)] w fun e w' => e = .returned (.agg #[.int .u8 ((x % 256 : Nat) : Int), .int .u8 ((x / 256 % 256 : Nat) : Int)]) ∧ Below w.heap.size w w' := by
  go_enter Try.func22, Try.ntmps22
  go_wp2
  go_rounds 3
  go_returns
  refine ⟨by simp, ?_⟩
  go_grown

set_option maxHeartbeats 1000000 in
theorem bytes32_any (x : Nat) (w : World) :
    Calls Try.prog 21 #[.int .u32 (x : Int)] w fun e w' => e = .returned (.agg #[.int .u8 ((x % 256 : Nat) : Int), .int .u8 ((x / 256 % 256 : Nat) : Int), .int .u8 ((x / 65536 % 256 : Nat) : Int), .int .u8 ((x / 16777216 % 256 : Nat) : Int)]) ∧ Below w.heap.size w w' := by
  go_enter Try.func21, Try.ntmps21
  go_wp2
  go_rounds 5
  go_returns
  refine ⟨by simp, ?_⟩
  go_grown

end Go.Proofs.Ytjlngldmdfbbaaa
