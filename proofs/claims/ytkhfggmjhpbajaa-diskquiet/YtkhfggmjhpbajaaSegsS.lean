/- As the law for a region in parts; in the place of 'the memory below B is as it was' stands whatever S is shown to hold behind each part. No program in it. -/
import Derived.Test.YtkhfggmjhpbajaaDigHSum
namespace Go.Proofs.Ytkhfggmjhpbajaa
open Go Go.RowKit

section
variable {P : Program} {ops : Array Oper} {Q : Exit → Act → World → Prop} {md : Region.Mode} {Wl : List Nat} {S : World → Prop}

theorem takeS_gen {i fuel : Nat} {o : Oper} {v : Value} {listed : Array Bool} {a : Act} {w : World} (hs : Region.noSelect ops = true) (hi : ops[i]? = some o) (hr : (Region.ready md ops listed).contains i = true)
    (hf : Region.free md ops listed i = true) (hWi : Wl.contains i = false) (hwait : waitW md ops listed i Wl (waitArr md ops listed i) = true) (hy : YieldsIf P ops S o v a) (hS : S w)
    (hK : wpAnyW P md ops (Strict Q) S (Wl.contains ·) fuel (listed.setIfInBounds i true) (a.put o.dst v) w) :
    wpAnyW P md ops (Strict Q) S (Wl.contains ·) (fuel + 1) listed a w := by
  generalize hwt : waitArr md ops listed i = arr at hwait
  unfold waitW at hwait
  rw [List.all_eq_true] at hwait
  have hall : ∀ j oj, ops[j]? = some oj → (if arr.getD j false then (j == i || oj.after.any fun e => Region.binds md e && arr.getD e.on false && decide (e.on < ops.size)) && !listed.getD j true else !Wl.contains j) = true := fun j oj hj => by
    have h1 := hwait j (List.mem_range.2 (Array.getElem?_eq_some_iff.1 hj).1)
    rw [hj] at h1; exact h1
  have hin : ∀ j, decide (j < ops.size) = true → ∃ oj, ops[j]? = some oj := fun j hj => ⟨_, Array.getElem?_eq_getElem (of_decide_eq_true hj)⟩
  refine wpAnyW_take hi (Region.noSelect_spec hs) (fun j => arr.getD j false && decide (j < ops.size)) (v := v) (strict_frame _ _) ?_ ?_ hWi fuel listed a w (Region.free_spec hi hf) ?_ (by simpa using hr) hy hS hK
  · intro j oj hj hw hne
    simp only [Bool.and_eq_true] at hw
    have h1 := hall j oj hj
    rw [if_pos hw.1] at h1
    simp only [Bool.and_eq_true, Bool.or_eq_true, beq_iff_eq, hne, false_or] at h1
    obtain ⟨e, he, hb⟩ := Array.any_eq_true'.1 h1.1
    simp only [Bool.and_eq_true] at hb
    exact ⟨e, he, hb.1.1, by simp only [Bool.and_eq_true]; exact ⟨hb.1.2, hb.2⟩⟩
  · intro j oj hj hw
    have hlt : decide (j < ops.size) = true := decide_eq_true (Array.getElem?_eq_some_iff.1 hj).1
    have h1 := hall j oj hj
    cases hq : arr.getD j false with
    | true => rw [hlt]; rfl
    | false => rw [if_neg (by rw [hq]; decide), hw] at h1; cases h1
  · intro j hw
    simp only [Bool.and_eq_true] at hw
    obtain ⟨oj, hj⟩ := hin j hw.2
    have h1 := hall j oj hj
    rw [if_pos hw.1] at h1
    simp only [Bool.and_eq_true, Bool.not_eq_true'] at h1
    exact h1.2

theorem forceS_step {i fuel : Nat} {listed : Array Bool} {a : Act} {w : World} (hb : forceW md ops listed i = true)
    (h : wpOp P ops (Strict Q) i (fun a' w' => (Wl.contains i = false → S w') ∧ wpAnyW P md ops (Strict Q) S (Wl.contains ·) fuel (listed.setIfInBounds i true) a' w') a w) :
    wpAnyW P md ops (Strict Q) S (Wl.contains ·) (fuel + 1) listed a w := by
  unfold forceW at hb
  simp only [Bool.and_eq_true, beq_iff_eq] at hb
  refine ⟨fun h0 => absurd (hb.1.symm.trans h0) (by simp), ?_⟩
  rw [hb.1]
  intro j hj
  have : j = i := by simpa using hj
  subst this; exact h

theorem takeS_step {i fuel : Nat} {listed : Array Bool} {a : Act} {w : World} (hs : Region.noSelect ops = true) (hb : takeW md ops listed Wl [] i = true) (hS : S w)
    (h : wpOp P ops (Strict Q) i (fun a' w' => S w' → wpAnyW P md ops (Strict Q) S (Wl.contains ·) fuel (listed.setIfInBounds i true) a' w') a w) :
    wpAnyW P md ops (Strict Q) S (Wl.contains ·) (fuel + 1) listed a w := by
  unfold takeW at hb
  cases hi : ops[i]? with
  | none => rw [hi] at hb; cases hb
  | some o =>
    rw [hi] at hb
    simp only [Bool.and_eq_true, Bool.or_eq_true, Bool.not_eq_true'] at hb
    obtain ⟨⟨⟨⟨hr, hf⟩, hWi⟩, hk⟩, hwait⟩ := hb
    have key : ∃ v, wpAnyW P md ops (Strict Q) S (Wl.contains ·) fuel (listed.setIfInBounds i true) (a.put o.dst v) w ∧ YieldsIf P ops S o v a := by
      unfold wpOp at h
      simp only [hi] at h
      by_cases hw : Region.wanted o (yielded ops a.tmps) = true
      · simp only [hw, if_true] at h
        rcases h with h | ⟨_, h⟩
        · unfold Oper.wp at h
          have hrun : ∃ v, (execOp a.eval o).run P w = .ok (.value v) w ∧ ∀ w', S w' → (execOp a.eval o).run P w' = .ok (.value v) w' := by
            cases hsr : (execOp a.eval o).run P w with
            | ok n w1 =>
              rcases hk with hk | hk
              · obtain ⟨hp, hv⟩ := kindV_run (P := P) hk a.eval
                obtain ⟨v, rfl⟩ := hv _ _ _ hsr
                obtain ⟨rfl, h2⟩ := hp _ _ _ hsr
                exact ⟨v, rfl, fun w' _ => h2 w'⟩
              · obtain ⟨t, x, hop, hx⟩ := lowLoad_run hk
                cases hx
            | halt y w1 =>
              rw [hsr] at h
              cases y <;> simp only [Oper.upon, Strict] at h <;> first | exact absurd h.1 (by intro e; cases e) | exact h.elim
          obtain ⟨v, h1, h2⟩ := hrun
          rw [h1, Oper.upon_value] at h
          exact ⟨v, h hS, .inl ⟨hw, h2⟩⟩
        · exact absurd h Strict.noOut
      · rw [Bool.not_eq_true] at hw
        simp only [hw, Bool.false_eq_true, if_false] at h
        exact ⟨undef, h hS, .inr ⟨hw, rfl⟩⟩
    obtain ⟨v, hK, hy⟩ := key
    exact takeS_gen hs hi hr hf hWi hwait hy hS hK

theorem takesS_step (hs : Region.noSelect ops = true) (more : List Nat) (fuel : Nat) (Q' : Exit → Act → World → Prop) :
    ∀ (ts : List Nat) (listed l2 : Array Bool) (a : Act) (w : World), takesB md ops Wl [] ts listed = some l2 →
      (∀ a' w', S w' → wpList P ops (Strict Q') (more.filterMap fun i => ops[i]?) a' w' → wpAnyW P md ops (Strict Q) S (Wl.contains ·) fuel l2 a' w') →
      S w → wpList P ops (Strict Q') ((ts ++ more).filterMap fun i => ops[i]?) a w →
      wpAnyW P md ops (Strict Q) S (Wl.contains ·) (ts.length + fuel) listed a w := by
  intro ts
  induction ts with
  | nil =>
    intro listed l2 a w hb hn hS h
    simp only [takesB, Option.some.injEq] at hb
    subst hb
    rw [List.length_nil, Nat.zero_add]
    exact hn a w hS h
  | cons i rest ih =>
    intro listed l2 a w hb hn hS h
    unfold takesB at hb
    split at hb
    · rename_i hc
      have hlen : (i :: rest).length + fuel = (rest.length + fuel) + 1 := by simp only [List.length_cons]; omega
      rw [hlen]
      obtain ⟨o, ho⟩ := has_op hc
      refine takeS_step hs hc hS (wpOp_mono (fun a' w' h' h2 => ?_) (wpOp_strict (wpList_one ho h)))
      exact ih _ l2 a' w' hb hn h2 h'
    · cases hb

theorem tailS_step : ∀ (ts : List Nat) (listed : Array Bool) (a : Act) (w : World), tailB md ops Wl ts listed = true → wpList P ops (Strict Q) (ts.filterMap fun i => ops[i]?) a w →
    wpAnyW P md ops (Strict Q) S (Wl.contains ·) ts.length listed a w
  | [], listed, a, w, hb, h => ⟨by simpa [tailB] using hb, h⟩
  | i :: rest, listed, a, w, hb, h => by
    simp only [tailB, Bool.and_eq_true] at hb
    obtain ⟨o, ho⟩ := has_op' hb.1.1
    refine forceS_step hb.1.1 (wpOp_mono (fun a' w' h' => ?_) (wpList_one ho h))
    exact ⟨fun e => (by rw [hb.1.2] at e; cases e), tailS_step rest _ a' w' hb.2 h'⟩

theorem partsS_step (hs : Region.noSelect ops = true) (takes tail : List Nat) :
    ∀ (ps : List (List Nat × Nat × Bool)) (listed : Array Bool) (a : Act) (w : World), partsB md ops Wl [] ps takes tail listed = true → S w →
      wpPartsI P ops Q S ps (takes ++ tail) a w → wpAnyW P md ops (Strict Q) S (Wl.contains ·) (lenOf ps (takes.length + tail.length)) listed a w
  | [], listed, a, w, hb, hS, h => by
    unfold partsB at hb
    split at hb
    · rename_i l2 hl2
      exact takesS_step hs tail tail.length Q takes listed l2 a w hl2 (fun a' w' _ h' => tailS_step tail l2 a' w' hb h') hS h
    · cases hb
  | (ts, i, false) :: rest, listed, a, w, hb, hS, h => by
    unfold partsB at hb
    split at hb
    · rename_i l2 hl2
      simp only [Bool.and_eq_true, Bool.not_eq_true', Bool.false_eq_true, if_false] at hb
      refine takesS_step hs [i] _ _ ts listed l2 a w hl2 (fun a' w' _ h' => ?_) hS h
      obtain ⟨o, ho⟩ := has_op' hb.1.1
      rw [Nat.add_comm 1]
      refine forceS_step hb.1.1 (wpOp_mono (fun a2 w2 h2 => ?_) (wpOp_strict (wpList_one ho h')))
      have h3 := h2.2
      exact ⟨fun _ => h3.1, partsS_step hs takes tail rest _ a2 w2 hb.2 h3.1 h3.2⟩
    · cases hb
  | (ts, i, true) :: rest, listed, a, w, hb, hS, h => by
    unfold partsB at hb
    split at hb
    · rename_i l2 hl2
      simp only [Bool.and_eq_true, if_true] at hb
      refine takesS_step hs [] _ _ ts listed l2 a w hl2 (fun a' w' hS' h' => ?_) hS h
      obtain ⟨-, o, v, ho, hy, hn⟩ := h'
      have hc := hb.1
      unfold yieldW at hc
      rw [ho] at hc
      simp only [Bool.and_eq_true, Bool.not_eq_true'] at hc
      rw [Nat.add_comm 1]
      exact takeS_gen hs ho hc.1.1.1 hc.1.1.2 hc.1.2 hc.2 hy hS' (partsS_step hs takes tail rest _ _ w' hb.2 hS' hn)
    · cases hb

/-- THE LAW. -/
theorem wp_region_partsS {id : Nat} {a : Act} {w : World} (S : World → Prop) (ps : List (List Nat × Nat × Bool)) (takes tail : List Nat) (hm : P.follows .mixedOrders = true) (hB : wholeB ops tail [] ps takes tail = true)
    (hS : S w.drew) (h : wpPartsI P ops Q S ps (takes ++ tail) a w.drew) : (Code.region id ops true).wp P Q a w := by
  unfold wholeB at hB
  simp only [Bool.and_eq_true, beq_iff_eq] at hB
  refine Code.wp_mono Strict.imp (wp_region_any hm ?_)
  rw [← hB.1.1.1]
  exact wpAny_of_W _ _ _ _ (partsS_step hB.1.1.2 takes tail ps _ a _ (by rw [hB.1.1.1]; exact hB.2) hS h)
end
end Go.Proofs.Ytkhfggmjhpbajaa
