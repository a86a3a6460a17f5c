/- As the law for a region in parts, and an operation may be taken ahead that is shown to yield its value in every world whose memory below B is as it was. No program in it. -/
import Derived.Test.YtaoglljkghkbpaaSegs
namespace Go.Proofs.Ytaoglljkghkbpaa
open Go Go.RowKit

section
variable {P : Program} {ops : Array Oper} {Q : Exit → Act → World → Prop} {md : Region.Mode} {B : Nat} {w0 : World} {lows : List Tmp} {Wl : List Nat} {S : World → Prop}

/-- the walk, parted -/
def wpPartsI (P : Program) (ops : Array Oper) (Q : Exit → Act → World → Prop) (S : World → Prop) : List (List Nat × Nat × Bool) → List Nat → Act → World → Prop
  | [], final, a, w => wpList P ops (Strict Q) (final.filterMap fun i => ops[i]?) a w
  | (ts, i, false) :: rest, final, a, w => wpList P ops (Strict fun _ a' w' => S w' ∧ wpPartsI P ops Q S rest final a' w') ((ts ++ [i]).filterMap fun i => ops[i]?) a w
  | (ts, i, true) :: rest, final, a, w => wpList P ops (Strict fun _ a' w' => ∃ o v, ops[i]? = some o ∧ YieldsIf P ops S o v a' ∧ wpPartsI P ops Q S rest final (a'.put o.dst v) w') ((ts ++ []).filterMap fun i => ops[i]?) a w

theorem partsI_step (hs : Region.noSelect ops = true) (hd : ∀ x ∈ lows, ∀ (j : Nat) (o : Oper), ops[j]? = some o → o.dst ≠ some x) (takes tail : List Nat) :
    ∀ (ps : List (List Nat × Nat × Bool)) (listed : Array Bool) (a : Act) (w : World), partsB md ops Wl lows ps takes tail listed = true → Lows lows B w0 a → Below B w0 w →
      wpPartsI P ops Q (Below B w0) ps (takes ++ tail) a w → wpAnyW P md ops (Strict Q) (Below B w0) (Wl.contains ·) (lenOf ps (takes.length + tail.length)) listed a w
  | [], listed, a, w, hb, hl, hS, h => by
    unfold partsB at hb
    split at hb
    · rename_i l2 hl2
      exact takes_step hs hd tail tail.length Q takes listed l2 a w hl2 (fun a' w' _ _ h' => tail_step tail l2 a' w' hb h') hl hS h
    · cases hb
  | (ts, i, false) :: rest, listed, a, w, hb, hl, hS, h => by
    unfold partsB at hb
    split at hb
    · rename_i l2 hl2
      simp only [Bool.and_eq_true, Bool.not_eq_true', Bool.false_eq_true, if_false] at hb
      refine takes_step hs hd [i] _ _ ts listed l2 a w hl2 (fun a' w' hl' _ h' => ?_) hl hS h
      obtain ⟨o, ho⟩ := has_op' hb.1.1
      rw [Nat.add_comm 1]
      refine forceW_step hb.1.1 (wpOp_mono (fun a2 w2 h2 => ?_) (lows_put hd hl' (wpOp_strict (wpList_one ho h'))))
      have h3 := h2.2.2
      exact ⟨fun _ => h3.1, partsI_step hs hd takes tail rest _ a2 w2 hb.2 h2.1 h3.1 h3.2⟩
    · cases hb
  | (ts, i, true) :: rest, listed, a, w, hb, hl, hS, h => by
    unfold partsB at hb
    split at hb
    · rename_i l2 hl2
      simp only [Bool.and_eq_true, if_true] at hb
      refine takes_step hs hd [] _ _ ts listed l2 a w hl2 (fun a' w' hl' hS' h' => ?_) hl hS h
      obtain ⟨-, o, v, ho, hy, hn⟩ := h'
      have hc := hb.1
      unfold yieldW at hc
      rw [ho] at hc
      simp only [Bool.and_eq_true, Bool.not_eq_true'] at hc
      rw [Nat.add_comm 1]
      refine take_gen hs ho hc.1.1.1 hc.1.1.2 hc.1.2 hc.2 hy hS' (partsI_step hs hd takes tail rest _ _ w' hb.2 (fun x hx => ?_) hS' hn)
      rw [Act.eval_put (fun d hd' => by intro e; cases e; exact hd x hx i o ho hd')]
      exact hl' x hx
    · cases hb

/-- THE LAW. -/
theorem wp_region_partsI {id : Nat} {a : Act} {w : World} (lows : List Tmp) (ps : List (List Nat × Nat × Bool)) (takes tail : List Nat) (B : Nat) (hm : P.follows .mixedOrders = true) (hB : wholeB ops tail lows ps takes tail = true)
    (hl : Lows lows B w a) (h : wpPartsI P ops Q (Below B w) ps (takes ++ tail) a w.drew) : (Code.region id ops true).wp P Q a w := by
  unfold wholeB at hB
  simp only [Bool.and_eq_true, beq_iff_eq] at hB
  have hd : ∀ x ∈ lows, ∀ (j : Nat) (o : Oper), ops[j]? = some o → o.dst ≠ some x := fun x hx j o ho => by
    have h1 := List.all_eq_true.1 hB.1.2 x hx
    have h2 := Array.all_eq_true_iff_forall_mem.1 h1 o (Array.mem_of_getElem? ho)
    simpa using h2
  refine Code.wp_mono Strict.imp (wp_region_any hm ?_)
  rw [← hB.1.1.1]
  exact wpAny_of_W _ _ _ _ (partsI_step hB.1.1.2 hd takes tail ps _ a _ (by rw [hB.1.1.1]; exact hB.2) hl (Below.refl B w).drew h)
theorem partsI_force {ts final : List Nat} {i : Nat} {rest : List (List Nat × Nat × Bool)} {a : Act} {w : World}
    (h : wpList P ops (Strict fun _ a' w' => S w' ∧ wpPartsI P ops Q S rest final a' w') ((ts ++ [i]).filterMap fun i => ops[i]?) a w) : wpPartsI P ops Q S ((ts, i, false) :: rest) final a w := h
theorem partsI_yield {ts final : List Nat} {i : Nat} {rest : List (List Nat × Nat × Bool)} {a : Act} {w : World}
    (h : wpList P ops (Strict fun _ a' w' => ∃ o v, ops[i]? = some o ∧ YieldsIf P ops S o v a' ∧ wpPartsI P ops Q S rest final (a'.put o.dst v) w') ((ts ++ []).filterMap fun i => ops[i]?) a w) : wpPartsI P ops Q S ((ts, i, true) :: rest) final a w := h
theorem partsI_last {final : List Nat} {a : Act} {w : World} (h : wpList P ops (Strict Q) (final.filterMap fun i => ops[i]?) a w) : wpPartsI P ops Q S [] final a w := h
end
end Go.Proofs.Ytaoglljkghkbpaa
