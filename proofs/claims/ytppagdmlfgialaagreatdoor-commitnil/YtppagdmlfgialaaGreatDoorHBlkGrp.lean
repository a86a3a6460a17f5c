/- A slice of slices of numbers that the program made: told by lists; one more group, one more number. -/
import Derived.Test.YtppagdmlfgialaaGreatDoorHDigRow
import Derived.Test.YtppagdmlfgialaaGreatDoorHNdKit
import Derived.Handy
import Derived.Test.YtppagdmlfgialaaGreatDoorHCollKit
import Derived.Maps.AppendAt
import Derived.Deep.RegionLaw
import Derived.WalkSmall
import Derived.Deep.Heap
import Derived.Shelf.SlMaps.Clone

namespace Go.Proofs.YtppagdmlfgialaaGreatDoor
theorem sgLHBlkGrp : (∀ (α : Type) (a : α) (l r : List α), (a :: l) ++ r = a :: (l ++ r)) ∧ (∀ (α : Type) (l : List α), [] ++ l = l) ∧ (∀ (α : Type) (l : List α), l ++ [] = l) ∧ (∀ (α β : Type) (f : α → Option β) (a : α) (l : List α), (a :: l).filterMap f = match f a with | none => l.filterMap f | some b => b :: l.filterMap f) ∧ (∀ (α β : Type) (f : α → Option β), [].filterMap f = []) ∧ (∀ (α : Type) (l : List α) (i : Nat), l.toArray[i]? = l[i]?) ∧ (∀ (α : Type) (a : α) (l : List α), (a :: l)[0]? = some a) ∧ (∀ (α : Type) (a : α) (l : List α) (i : Nat), (a :: l)[i + 1]? = l[i]?) :=
  ⟨fun _ _ _ _ => List.cons_append, fun _ _ => List.nil_append _, fun _ _ => List.append_nil _, fun _ _ _ _ _ => List.filterMap_cons, fun _ _ _ => List.filterMap_nil, fun _ _ _ => List.getElem?_toArray, fun _ _ _ => List.getElem?_cons_zero, fun _ _ _ _ => List.getElem?_cons_succ⟩
theorem sgPHBlkGrp : (∀ (α : Type) (l : List α) (i : Nat) (a : α), l.toArray.setIfInBounds i a = (l.set i a).toArray) ∧ (∀ (α : Type) (a b : α) (l : List α), (a :: l).set 0 b = b :: l) ∧ (∀ (α : Type) (a b : α) (l : List α) (i : Nat), (a :: l).set (i + 1) b = a :: l.set i b) :=
  ⟨fun _ _ _ _ => List.setIfInBounds_toArray _ _ _, fun _ _ _ _ => List.set_cons_zero, fun _ _ _ _ _ => List.set_cons_succ⟩
end Go.Proofs.YtppagdmlfgialaaGreatDoor
namespace Go.Proofs.YtppagdmlfgialaaGreatDoor
open Go Go.RowKit

section
variable {P : Program} {ops : Array Oper} {Q : Exit → Act → World → Prop} {md : Region.Mode} {Wl : List Nat} {S : World → Prop}

theorem takeS_gen {i fuel : Nat} {o : Oper} {v : Value} {listed : Array Bool} {a : Act} {w : World} (hs : Region.noSelect ops = true) (hi : ops[i]? = some o) (hr : (Region.ready md ops listed).contains i = true)
    (hf : Region.free md ops listed i = true) (hWi : Wl.contains i = false) (hwait : waitW md ops listed i Wl (waitArr md ops listed i) = true) (hy : YieldsIf P ops S o v a) (hS : S w)
    (hK : wpAnyW P md ops (Strict Q) S (Wl.contains ·) fuel (listed.setIfInBounds i true) (a.put o.dst v) w) :
    wpAnyW P md ops (Strict Q) S (Wl.contains ·) (fuel + 1) listed a w := by
  generalize hwt : waitArr md ops listed i = arr at hwait
  unfold waitW at hwait
  rw [List.all_eq_true] at hwait
  have hall : ∀ j oj, ops[j]? = some oj → (if arr.getD j false then (j == i || oj.after.any fun e => Region.binds md e && arr.getD e.on false && decide (e.on < ops.size)) && !listed.getD j true else !Wl.contains j) = true := fun j oj hj => by
    have h1 := hwait j (List.mem_range.2 (Array.getElem?_eq_some_iff.1 hj).1)
    rw [hj] at h1; exact h1
  have hin : ∀ j, decide (j < ops.size) = true → ∃ oj, ops[j]? = some oj := fun j hj => ⟨_, Array.getElem?_eq_getElem (of_decide_eq_true hj)⟩
  refine wpAnyW_take hi (Region.noSelect_spec hs) (fun j => arr.getD j false && decide (j < ops.size)) (v := v) (strict_frame _ _) ?_ ?_ hWi fuel listed a w (Region.free_spec hi hf) ?_ (by simpa using hr) hy hS hK
  · intro j oj hj hw hne
    simp only [Bool.and_eq_true] at hw
    have h1 := hall j oj hj
    rw [if_pos hw.1] at h1
    simp only [Bool.and_eq_true, Bool.or_eq_true, beq_iff_eq, hne, false_or] at h1
    obtain ⟨e, he, hb⟩ := Array.any_eq_true'.1 h1.1
    simp only [Bool.and_eq_true] at hb
    exact ⟨e, he, hb.1.1, by simp only [Bool.and_eq_true]; exact ⟨hb.1.2, hb.2⟩⟩
  · intro j oj hj hw
    have hlt : decide (j < ops.size) = true := decide_eq_true (Array.getElem?_eq_some_iff.1 hj).1
    have h1 := hall j oj hj
    cases hq : arr.getD j false with
    | true => rw [hlt]; rfl
    | false => rw [if_neg (by rw [hq]; decide), hw] at h1; cases h1
  · intro j hw
    simp only [Bool.and_eq_true] at hw
    obtain ⟨oj, hj⟩ := hin j hw.2
    have h1 := hall j oj hj
    rw [if_pos hw.1] at h1
    simp only [Bool.and_eq_true, Bool.not_eq_true'] at h1
    exact h1.2

theorem forceS_step {i fuel : Nat} {listed : Array Bool} {a : Act} {w : World} (hb : forceW md ops listed i = true)
    (h : wpOp P ops (Strict Q) i (fun a' w' => (Wl.contains i = false → S w') ∧ wpAnyW P md ops (Strict Q) S (Wl.contains ·) fuel (listed.setIfInBounds i true) a' w') a w) :
    wpAnyW P md ops (Strict Q) S (Wl.contains ·) (fuel + 1) listed a w := by
  unfold forceW at hb
  simp only [Bool.and_eq_true, beq_iff_eq] at hb
  refine ⟨fun h0 => absurd (hb.1.symm.trans h0) (by simp), ?_⟩
  rw [hb.1]
  intro j hj
  have : j = i := by simpa using hj
  subst this; exact h

theorem takeS_step {i fuel : Nat} {listed : Array Bool} {a : Act} {w : World} (hs : Region.noSelect ops = true) (hb : takeW md ops listed Wl [] i = true) (hS : S w)
    (h : wpOp P ops (Strict Q) i (fun a' w' => S w' → wpAnyW P md ops (Strict Q) S (Wl.contains ·) fuel (listed.setIfInBounds i true) a' w') a w) :
    wpAnyW P md ops (Strict Q) S (Wl.contains ·) (fuel + 1) listed a w := by
  unfold takeW at hb
  cases hi : ops[i]? with
  | none => rw [hi] at hb; cases hb
  | some o =>
    rw [hi] at hb
    simp only [Bool.and_eq_true, Bool.or_eq_true, Bool.not_eq_true'] at hb
    obtain ⟨⟨⟨⟨hr, hf⟩, hWi⟩, hk⟩, hwait⟩ := hb
    have key : ∃ v, wpAnyW P md ops (Strict Q) S (Wl.contains ·) fuel (listed.setIfInBounds i true) (a.put o.dst v) w ∧ YieldsIf P ops S o v a := by
      unfold wpOp at h
      simp only [hi] at h
      by_cases hw : Region.wanted o (yielded ops a.tmps) = true
      · simp only [hw, if_true] at h
        rcases h with h | ⟨_, h⟩
        · unfold Oper.wp at h
          have hrun : ∃ v, (execOp a.eval o).run P w = .ok (.value v) w ∧ ∀ w', S w' → (execOp a.eval o).run P w' = .ok (.value v) w' := by
            cases hsr : (execOp a.eval o).run P w with
            | ok n w1 =>
              rcases hk with hk | hk
              · obtain ⟨hp, hv⟩ := kindV_run (P := P) hk a.eval
                obtain ⟨v, rfl⟩ := hv _ _ _ hsr
                obtain ⟨rfl, h2⟩ := hp _ _ _ hsr
                exact ⟨v, rfl, fun w' _ => h2 w'⟩
              · obtain ⟨t, x, hop, hx⟩ := lowLoad_run hk
                cases hx
            | halt y w1 =>
              rw [hsr] at h
              cases y <;> simp only [Oper.upon, Strict] at h <;> first | exact absurd h.1 (by intro e; cases e) | exact h.elim
          obtain ⟨v, h1, h2⟩ := hrun
          rw [h1, Oper.upon_value] at h
          exact ⟨v, h hS, .inl ⟨hw, h2⟩⟩
        · exact absurd h Strict.noOut
      · rw [Bool.not_eq_true] at hw
        simp only [hw, Bool.false_eq_true, if_false] at h
        exact ⟨undef, h hS, .inr ⟨hw, rfl⟩⟩
    obtain ⟨v, hK, hy⟩ := key
    exact takeS_gen hs hi hr hf hWi hwait hy hS hK

theorem takesS_step (hs : Region.noSelect ops = true) (more : List Nat) (fuel : Nat) (Q' : Exit → Act → World → Prop) :
    ∀ (ts : List Nat) (listed l2 : Array Bool) (a : Act) (w : World), takesB md ops Wl [] ts listed = some l2 →
      (∀ a' w', S w' → wpList P ops (Strict Q') (more.filterMap fun i => ops[i]?) a' w' → wpAnyW P md ops (Strict Q) S (Wl.contains ·) fuel l2 a' w') →
      S w → wpList P ops (Strict Q') ((ts ++ more).filterMap fun i => ops[i]?) a w →
      wpAnyW P md ops (Strict Q) S (Wl.contains ·) (ts.length + fuel) listed a w := by
  intro ts
  induction ts with
  | nil =>
    intro listed l2 a w hb hn hS h
    simp only [takesB, Option.some.injEq] at hb
    subst hb
    rw [List.length_nil, Nat.zero_add]
    exact hn a w hS h
  | cons i rest ih =>
    intro listed l2 a w hb hn hS h
    unfold takesB at hb
    split at hb
    · rename_i hc
      have hlen : (i :: rest).length + fuel = (rest.length + fuel) + 1 := by simp only [List.length_cons]; omega
      rw [hlen]
      obtain ⟨o, ho⟩ := has_op hc
      refine takeS_step hs hc hS (wpOp_mono (fun a' w' h' h2 => ?_) (wpOp_strict (wpList_one ho h)))
      exact ih _ l2 a' w' hb hn h2 h'
    · cases hb

theorem tailS_step : ∀ (ts : List Nat) (listed : Array Bool) (a : Act) (w : World), tailB md ops Wl ts listed = true → wpList P ops (Strict Q) (ts.filterMap fun i => ops[i]?) a w →
    wpAnyW P md ops (Strict Q) S (Wl.contains ·) ts.length listed a w
  | [], listed, a, w, hb, h => ⟨by simpa [tailB] using hb, h⟩
  | i :: rest, listed, a, w, hb, h => by
    simp only [tailB, Bool.and_eq_true] at hb
    obtain ⟨o, ho⟩ := has_op' hb.1.1
    refine forceS_step hb.1.1 (wpOp_mono (fun a' w' h' => ?_) (wpList_one ho h))
    exact ⟨fun e => (by rw [hb.1.2] at e; cases e), tailS_step rest _ a' w' hb.2 h'⟩

theorem partsS_step (hs : Region.noSelect ops = true) (takes tail : List Nat) :
    ∀ (ps : List (List Nat × Nat × Bool)) (listed : Array Bool) (a : Act) (w : World), partsB md ops Wl [] ps takes tail listed = true → S w →
      wpPartsI P ops Q S ps (takes ++ tail) a w → wpAnyW P md ops (Strict Q) S (Wl.contains ·) (lenOf ps (takes.length + tail.length)) listed a w
  | [], listed, a, w, hb, hS, h => by
    unfold partsB at hb
    split at hb
    · rename_i l2 hl2
      exact takesS_step hs tail tail.length Q takes listed l2 a w hl2 (fun a' w' _ h' => tailS_step tail l2 a' w' hb h') hS h
    · cases hb
  | (ts, i, false) :: rest, listed, a, w, hb, hS, h => by
    unfold partsB at hb
    split at hb
    · rename_i l2 hl2
      simp only [Bool.and_eq_true, Bool.not_eq_true', Bool.false_eq_true, if_false] at hb
      refine takesS_step hs [i] _ _ ts listed l2 a w hl2 (fun a' w' _ h' => ?_) hS h
      obtain ⟨o, ho⟩ := has_op' hb.1.1
      rw [Nat.add_comm 1]
      refine forceS_step hb.1.1 (wpOp_mono (fun a2 w2 h2 => ?_) (wpOp_strict (wpList_one ho h')))
      have h3 := h2.2
      exact ⟨fun _ => h3.1, partsS_step hs takes tail rest _ a2 w2 hb.2 h3.1 h3.2⟩
    · cases hb
  | (ts, i, true) :: rest, listed, a, w, hb, hS, h => by
    unfold partsB at hb
    split at hb
    · rename_i l2 hl2
      simp only [Bool.and_eq_true, if_true] at hb
      refine takesS_step hs [] _ _ ts listed l2 a w hl2 (fun a' w' hS' h' => ?_) hS h
      obtain ⟨-, o, v, ho, hy, hn⟩ := h'
      have hc := hb.1
      unfold yieldW at hc
      rw [ho] at hc
      simp only [Bool.and_eq_true, Bool.not_eq_true'] at hc
      rw [Nat.add_comm 1]
      exact takeS_gen hs ho hc.1.1.1 hc.1.1.2 hc.1.2 hc.2 hy hS' (partsS_step hs takes tail rest _ _ w' hb.2 hS' hn)
    · cases hb

/-- THE LAW. -/
theorem wp_region_partsS {id : Nat} {a : Act} {w : World} (S : World → Prop) (ps : List (List Nat × Nat × Bool)) (takes tail : List Nat) (hm : P.follows .mixedOrders = true) (hB : wholeB ops tail [] ps takes tail = true)
    (hS : S w.drew) (h : wpPartsI P ops Q S ps (takes ++ tail) a w.drew) : (Code.region id ops true).wp P Q a w := by
  unfold wholeB at hB
  simp only [Bool.and_eq_true, beq_iff_eq] at hB
  refine Code.wp_mono Strict.imp (wp_region_any hm ?_)
  rw [← hB.1.1.1]
  exact wpAny_of_W _ _ _ _ (partsS_step hB.1.1.2 takes tail ps _ a _ (by rw [hB.1.1.1]; exact hB.2) hS h)
end
end Go.Proofs.YtppagdmlfgialaaGreatDoor

namespace Go.Proofs.YtppagdmlfgialaaGreatDoor
open Go Go.RowKit
set_option linter.unusedSimpArgs false
set_option linter.unusedVariables false

set_option maxRecDepth 100000 in
set_option maxHeartbeats 4000000 in
theorem none_any (r : Rf) (w : World) : Calls Tryz.prog 59 #[.agg (rfC r)] w fun e w' => e = .returned (.bool (decide (r = rf0))) ∧ Below w.heap.size w w' := by
  have r0 : Blk (w.alloc (.cells (rfC r) 41)) w.heap.size 41 (rfC r) := Blk.new _ _ _
  have hb : Below w.heap.size w (w.alloc (.cells (rfC r) 41)) := below_new1 _ _
  have hz := zero_ref
  have hq : ∀ W, (Op.equalIn 10000 41 (.agg (rfC r)) (.agg (rfC rf0))).run Tryz.prog W = .ok (decide (r = rf0)) W := eq_ref 9997 r rf0
  obtain ⟨b, hbd⟩ : ∃ b, b = decide (r = rf0) := ⟨_, rfl⟩
  rw [← hbd] at hq ⊢
  clear hbd
  go_enter Tryz.func59, Tryz.ntmps59
  go_wp2_with (first
    | (refine wpList_load_rowg (by rfl) 41 _ (by rfl) (w.heap.size) (by rfl) 41 (rfC r) (0, 0) _ (by exact r0) Tryz.underlying41 (by rfl) (slSizeRef.trans (by rw [rfC_size])) ?_; simp only [Act.put, sgPHBlkGrp])
    | fail)
  go_ret
  exact ⟨rfl, hb⟩
set_option maxRecDepth 100000 in
set_option maxHeartbeats 4000000 in
theorem right_any (r : Rf) (w : World) : Calls Tryz.prog 259 #[.agg (rfC r)] w fun e w' => e = .returned (.bool (rOk r)) ∧ Below w.heap.size w w' := by
  have r0 : Blk (w.alloc (.cells (rfC r) 41)) w.heap.size 41 (rfC r) := Blk.new _ _ _
  have hb : Below w.heap.size w (w.alloc (.cells (rfC r) 41)) := below_new1 _ _
  have hsz : (w.alloc (.cells (rfC r) 41)).heap.size = w.heap.size + 1 := by simp
  have hn : Hid (∀ w, Calls Tryz.prog 59 #[.agg (rfC r)] w fun e w' => e = .returned (.bool (decide (r = rf0))) ∧ Below w.heap.size w w') := none_any r
  have hx : (w.alloc (.cells (rfC r) 41)).cell? ⟨w.heap.size, 0, none⟩ = some (.int .u32 (r.1 : Int)) := by
    rw [r0.cell]
    exact va_at (rfF r.1 r.2) (by decide)
  have HO : Hid (rOk r = (decide (r = rf0) || decide (r.1 ≠ 0))) := rfl
  obtain ⟨b, hbd⟩ : ∃ b, b = decide (r = rf0) := ⟨_, rfl⟩
  obtain ⟨n, hnd⟩ : ∃ n, n = r.1 := ⟨_, rfl⟩
  rw [← hbd] at hn HO
  rw [← hnd] at hx HO
  clear hbd hnd
  go_enter Tryz.func259, Tryz.ntmps259
  go_wp2_with (first
    | (refine wpList_load_rowg (by rfl) 41 _ (by rfl) (w.heap.size) (by rfl) 41 (rfC r) (0, 0) _ (by exact r0) Tryz.underlying41 (by rfl) (slSizeRef.trans (by rw [rfC_size])) ?_; simp only [Act.put, sgPHBlkGrp])
    | fail)
  generalize (w.alloc (.cells (rfC r) 41)) = w1 at *
  refine (hn.out w1).mono ?_
  rintro e w2 ⟨rfl, hb2⟩
  have r2 : Blk w2 w.heap.size 41 (rfC r) := r0.below hb2 (by omega)
  have hx2 : w2.cell? ⟨w.heap.size, 0, none⟩ = some (.int .u32 (n : Int)) := by
    rw [← hx, r2.cell, r0.cell]
  have hb3 : Below w.heap.size w w2 := hb.trans (hb2.mono (by omega))
  clear hn hx r0 hb hb2 r2
  cases b
  · go_wp2_with fail
    go_ret
    refine ⟨?_, hb3⟩
    rw [HO.out]
    by_cases h0 : n = 0
    · subst h0
      rfl
    · have : ¬ (n : Int) = 0 := by omega
      simp [h0, this]
  · go_wp2_with fail
    go_ret
    refine ⟨?_, hb3⟩
    rw [HO.out]
    rfl
theorem enc_lo (r : Rf) (hr : okD r.2) : strN (dig r.1) 4 ++ strN (dF r.2) 32 = strN (encR r) 36 := by
  have e := strN_append (encR r) 4 32 fun j hj => encR_lt r hr j hj
  have e1 : strN (encR r) 4 = strN (dig r.1) 4 := strN_congr fun j hj => by
    unfold encR
    rw [if_pos hj]
  have e2 : strN (fun j => encR r (4 + j)) 32 = strN (dF r.2) 32 := strN_congr fun j hj => by
    unfold encR
    rw [if_neg (by omega), show 4 + j - 4 = j by omega]
  rw [e1, e2] at e
  exact e
set_option maxRecDepth 100000 in
set_option maxHeartbeats 4000000 in
theorem encR_any (r : Rf) (hr : okD r.2) (w : World) : Calls Tryz.prog 182 #[.agg (rfC r)] w fun e w' => e = .returned (.string (strN (encR r) 36)) ∧ Below w.heap.size w w' := by
  have r0 : Blk (w.alloc (.cells (rfC r) 41)) w.heap.size 41 (rfC r) := Blk.new _ _ _
  have hb : Below w.heap.size w (w.alloc (.cells (rfC r) 41)) := below_new1 _ _
  have hx : (w.alloc (.cells (rfC r) 41)).cell? ⟨w.heap.size, 0, none⟩ = some (.int .u32 (r.1 : Int)) := by
    rw [r0.cell]
    exact va_at (rfF r.1 r.2) (by decide)
  have hsz : (w.alloc (.cells (rfC r) 41)).heap.size = w.heap.size + 1 := by simp
  go_enter Tryz.func182, Tryz.ntmps182
  go_wp2_with fail
  generalize (w.alloc (.cells (rfC r) 41)) = w1 at *
  refine (bytes32_va r.1 w1).mono ?_
  rintro e w2 ⟨rfl, hb2⟩
  have hs2 := hb2.size
  have r2 : Blk w2 w.heap.size 41 (rfC r) := r0.below hb2 (by omega)
  have hb3 : Below w.heap.size w w2 := hb.trans (hb2.mono (by omega))
  have z4 : (Tryz.prog.info? 364).map (·.size) = some 4 := by kernel_rfl
  clear r0 hb hx hb2
  have r3 : Blk (w2.alloc (.cells (va 4 (iv .u8 fun _ => 0)) 364)) w.heap.size 41 (rfC r) := r2.alloc _
  have q3 : Blk (w2.alloc (.cells (va 4 (iv .u8 fun _ => 0)) 364)) w2.heap.size 364 (va 4 (iv .u8 fun _ => 0)) := Blk.new _ _ _
  have hb4 : Below w.heap.size w (w2.alloc (.cells (va 4 (iv .u8 fun _ => 0)) 364)) := hb3.alloc (by omega) _
  have hz : ∀ w, (zeroValue 364).run Tryz.prog w = .ok (.agg (va 4 (iv .u8 fun _ => 0))) w := zero_of (by kernel_rfl)
  go_wp2_with (first
    | (refine wpList_store_row (by rfl) 364 _ _ (by rfl) (w2.heap.size) (va 4 (iv .u8 (dig r.1))) (by rfl) (by rfl) 364 (va 4 (iv .u8 fun _ => 0)) (by exact q3) (z4.trans (by rw [va_size])) (by simp only [va_size]) (iv_one _ _ _) ?_; simp only [Act.put, sgPHBlkGrp])
    | fail)
  have r5 : Blk ((w2.alloc (.cells (va 4 (iv .u8 fun _ => 0)) 364)).setRow w2.heap.size (va 4 (iv .u8 (dig r.1)))) w.heap.size 41 (va 33 (rfF r.1 r.2)) := r3.other _ (by omega)
  have q5 : Blk ((w2.alloc (.cells (va 4 (iv .u8 fun _ => 0)) 364)).setRow w2.heap.size (va 4 (iv .u8 (dig r.1)))) w2.heap.size 364 (va 4 (iv .u8 (dig r.1))) := q3.set _
  have hb5 : Below w.heap.size w ((w2.alloc (.cells (va 4 (iv .u8 fun _ => 0)) 364)).setRow w2.heap.size (va 4 (iv .u8 (dig r.1)))) := below_setRow hb4 (by omega) _
  clear r3 q3 hb4 r2 hb3
  generalize ((w2.alloc (.cells (va 4 (iv .u8 fun _ => 0)) 364)).setRow w2.heap.size (va 4 (iv .u8 (dig r.1)))) = w5 at *
  have hc1 : ∀ W, Blk W w2.heap.size 364 (va 4 (iv .u8 (dig r.1))) → (convert 206 9 (.slice (some ⟨w2.heap.size, 0, none⟩) 4 4)).run Tryz.prog W = .ok (.string (strN (dig r.1) 4)) W := fun W hW => by
    have := run_bytes_text (P := Tryz.prog) W 206 5 9 Tryz.underlying206 Tryz.underlying5 Tryz.underlying9 hW 0 4 4 (by omega)
    rwa [show (fun j => dig r.1 (0 + j)) = dig r.1 by funext j; rw [Nat.zero_add]] at this
  have hc2 : ∀ W, Blk W w.heap.size 41 (va 33 (rfF r.1 r.2)) → (convert 206 9 (.slice (some ⟨w.heap.size, 1, none⟩) 32 32)).run Tryz.prog W = .ok (.string (strN (dF r.2) 32)) W := fun W hW => by
    exact run_convert_bytes_arg W 206 5 Tryz.underlying206 Tryz.underlying5 w.heap.size 1 32 32 _ (by simp) (fun i hi => by
      rw [hW.cv (i := 1 + i) (by omega)]
      unfold rfF
      rw [if_neg (by omega), show 1 + i - 1 = i by omega]
      simp [List.getD_eq_getElem?_getD, hi]) 9 Tryz.underlying9
  have h1 := hc1 w5.drew q5.drew
  have h2 := hc2 w5.drew r5.drew
  have he := enc_lo r hr
  have z1 : (strN (dig r.1) 4).size = 4 := strN_size _ _
  have z2 : (strN (dF r.2) 32).size = 32 := strN_size _ _
  generalize strN (dig r.1) 4 = t1 at *
  generalize strN (dF r.2) 32 = t2 at *
  clear hc1 hc2 q5 r5
  refine wp_region_partsS (fun W => W = w5.drew) [([], 0, true), ([], 1, true), ([], 2, false), ([], 3, false), ([], 4, false), ([], 5, false)] [] [6] (by kernel_rfl) (by kernel_rfl) rfl (partsI_yield ?_)
  simp only [sgLHBlkGrp]
  go_wp2_with fail
  refine ⟨rfl, _, .slice (some ⟨w2.heap.size, 0, none⟩) 4 4, rfl, Or.inl ⟨by rfl, fun W hW => by go_simp⟩, partsI_yield ?_⟩
  simp only [Act.put, sgPHBlkGrp]
  simp only [sgLHBlkGrp]
  go_wp2_with fail
  refine ⟨rfl, _, .string t1, rfl, Or.inl ⟨by rfl, fun W hW => by rw [hW]; go_simp⟩, partsI_force ?_⟩
  simp only [Act.put, sgPHBlkGrp]
  simp only [sgLHBlkGrp]
  go_wp2_with fail
  refine ⟨rfl, rfl, partsI_force ?_⟩
  simp only [sgLHBlkGrp]
  go_wp2_with fail
  refine ⟨rfl, rfl, partsI_force ?_⟩
  simp only [sgLHBlkGrp]
  go_wp2_with fail
  refine ⟨rfl, rfl, partsI_force ?_⟩
  simp only [sgLHBlkGrp]
  go_wp2_with fail
  refine ⟨rfl, rfl, partsI_last ?_⟩
  simp only [sgLHBlkGrp]
  go_wp2_with fail
  refine ⟨rfl, ?_⟩
  go_wp2_with fail
  go_ret
  exact ⟨rfl, hb5.drew⟩
/-- the reference that stands in a text -/
def decR (s : ByteArray) (a : Nat) : Rf := (at4 s a, sumD fun i => tbyte s (a + 4 + i))
theorem decR_cells (n : Nat) (f : Nat → Nat) : (splice ((rfC rf0).setIfInBounds 0 (.int .u32 (n : Int))).toList 1 (byL f 32)).toArray = rfC (n, sumD f) := by
  unfold rfC
  rw [va_set, va_toList]
  refine Eq.trans (by rfl) ((splice_va 33 1 32 _ (fun j => Value.int .u8 ((f j : Nat) : Int)) (by decide)).trans ?_)
  refine va_congr fun i hi => ?_
  by_cases h2 : 1 ≤ i ∧ i < 1 + 32
  · have e1 : rfF (n, sumD f).1 (n, sumD f).2 i = .int .u8 ((f (i - 1) : Nat) : Int) := by
      unfold rfF
      rw [if_neg (by omega), show dF (n, sumD f).2 (i - 1) = f (i - 1) from dF_sumD f _ (by omega)]
    rw [e1]
    unfold overF
    rw [if_pos h2]
  · unfold overF upd
    rw [if_neg h2]
    have h0 : i = 0 := by omega
    subst h0
    rfl
set_option maxRecDepth 100000 in
set_option maxHeartbeats 4000000 in
theorem decodeR_good (s : ByteArray) (a : Nat) (hs : s.size ≤ maxLen) (h : a + 36 ≤ s.size) (w : World) : Calls Tryz.prog 312 #[.string s, .int .i64 (a : Int)] w fun e w' => e = .returned (.tuple #[.agg (rfC (if rOk (decR s a) then decR s a else rf0)), .bool (rOk (decR s a))]) ∧ Below w.heap.size w w' := by
  have hT : Hid (∀ w : World, Calls Tryz.prog 330 #[.string s, .int .i64 (a : Int)] w fun e w' => e = .returned (.tuple #[.int .u32 (at4 s a : Int), .bool true]) ∧ Below w.heap.size w w') := fun w => take32_yes s a hs (by omega) w
  unfold maxLen at hs
  have hz := zero_ref
  have r0 : Blk ((w.alloc (.cells (rfC rf0) 41)).alloc (.cells (rfC rf0) 41)) w.heap.size 41 (rfC rf0) := (Blk.new _ _ _).alloc _
  have r1 : Blk ((w.alloc (.cells (rfC rf0) 41)).alloc (.cells (rfC rf0) 41)) (w.heap.size + 1) 41 (rfC rf0) := Blk.new1 _ _ _ _
  have hb : Below w.heap.size w ((w.alloc (.cells (rfC rf0) 41)).alloc (.cells (rfC rf0) 41)) := below_new2 _ _ _
  have hsz : ((w.alloc (.cells (rfC rf0) 41)).alloc (.cells (rfC rf0) 41)).heap.size = w.heap.size + 2 := by simp
  have HDC : Hid ((splice ((rfC rf0).setIfInBounds 0 (.int .u32 ((at4 s a : Nat) : Int))).toList 1 (byL (tbyte (s.extract (a + 4) s.size)) 32)).toArray = rfC (decR s a)) := by
    rw [byL_congr (f := tbyte (s.extract (a + 4) s.size)) (g := fun i => tbyte s (a + 4 + i)) fun i hi => tbyte_extract s (a + 4) s.size i (Nat.le_refl _) (by omega)]
    exact decR_cells _ _
  have HS : (s.extract (a + 4) s.size).size = s.size - (a + 4) := extract_size s (a + 4) s.size (Nat.le_refl _)
  obtain ⟨X, hX⟩ : ∃ X, X = decR s a := ⟨_, rfl⟩
  obtain ⟨n4, hn4⟩ : ∃ n4, n4 = at4 s a := ⟨_, rfl⟩
  rw [← hX] at HDC
  rw [← hX]
  rw [← hn4] at HDC hT
  clear hX hn4
  have HR : Hid (∀ w, Calls Tryz.prog 259 #[.agg (rfC X)] w fun e w' => e = .returned (.bool (rOk X)) ∧ Below w.heap.size w w') := right_any X
  generalize rOk X = b at *
  go_enter Tryz.func312, Tryz.ntmps312
  go_wp2_with fail
  generalize ((w.alloc (.cells (rfC rf0) 41)).alloc (.cells (rfC rf0) 41)) = w0 at *
  refine (hT.out w0).mono ?_
  rintro e w1 ⟨rfl, hb1⟩
  have hs1 := hb1.size
  have r0' : Blk w1 w.heap.size 41 (rfC rf0) := r0.below hb1 (by omega)
  have r1' : Blk w1 (w.heap.size + 1) 41 (rfC rf0) := r1.below hb1 (by omega)
  have hb' : Below w.heap.size w w1 := hb.trans (hb1.mono (by omega))
  have f1 : w1.frozen? ⟨w.heap.size + 1, 0, none⟩ = false := r1'.frozen 0
  have d1 : w1.cell? ⟨w.heap.size + 1, 0, none⟩ = some (.int .u32 0) := by
    rw [r1'.cell]
    exact va_at (rfF rf0.1 rf0.2) (by decide)
  clear r0 r1 hb hb1 hT
  go_wp2_with fail
  have r2 : Blk (w1.setCell ⟨w.heap.size + 1, 0, none⟩ (.int .u32 (n4 : Int))) (w.heap.size + 1) 41 ((rfC rf0).setIfInBounds 0 (.int .u32 (n4 : Int))) := r1'.put 0 _
  have q2 : Blk (w1.setCell ⟨w.heap.size + 1, 0, none⟩ (.int .u32 (n4 : Int))) w.heap.size 41 (rfC rf0) := r0'.put_other _ _ (by omega)
  have hb2 : Below w.heap.size w (w1.setCell ⟨w.heap.size + 1, 0, none⟩ (.int .u32 (n4 : Int))) := hb'.setCell (by show w.heap.size ≤ w.heap.size + 1; omega) _
  have hs2 : (w1.setCell ⟨w.heap.size + 1, 0, none⟩ (.int .u32 (n4 : Int))).heap.size = w1.heap.size := World.size_setCell _ _ _
  clear r1' r0' hb' f1 d1
  generalize (w1.setCell ⟨w.heap.size + 1, 0, none⟩ (.int .u32 (n4 : Int))) = w2 at *
  have z1 : (a : Int) + 4 ≤ (s.size : Int) := by omega
  refine wp_region_partsS (fun _ => True) [([2, 3], 0, true), ([], 1, true), ([], 4, false), ([], 5, false)] [] [6] (by kernel_rfl) (by kernel_rfl) trivial (partsI_yield ?_)
  simp only [sgLHBlkGrp]
  go_wp2_with fail
  refine ⟨rfl, _, .pointer (some ⟨w.heap.size + 1, 1, none⟩), rfl, Or.inl ⟨by rfl, fun W hW => by go_simp⟩, partsI_yield ?_⟩
  simp only [Act.put, sgPHBlkGrp]
  simp only [sgLHBlkGrp]
  go_wp2_with fail
  refine ⟨rfl, _, .slice (some ⟨w.heap.size + 1, 1, none⟩) 32 32, rfl, Or.inl ⟨by rfl, fun W hW => by go_simp⟩, partsI_force ?_⟩
  simp only [Act.put, sgPHBlkGrp]
  simp only [sgLHBlkGrp]
  go_wp2_with fail
  refine ⟨rfl, trivial, partsI_force ?_⟩
  simp only [sgLHBlkGrp]
  go_wp2_with fail
  refine ⟨rfl, trivial, partsI_last ?_⟩
  simp only [sgLHBlkGrp]
  refine wpList_copy_text rfl _ _ 206 9 rfl 5 Tryz.underlying206 ksizeU8 (w.heap.size + 1) 1 32 32 (s.extract (a + 4) s.size) rfl rfl ((rfC rf0).setIfInBounds 0 (.int .u32 (n4 : Int))) 41 r2.drew 32 (by rw [HS]; show 32 = min (s.size - (a + 4)) 32; omega) (by rw [Array.size_setIfInBounds, rfC_size]; omega) ?_
  rw [HDC.out]
  simp only [Act.put, sgPHBlkGrp]
  go_wp2_with fail
  refine ⟨rfl, ?_⟩
  have r4 : Blk (w2.drew.setRow (w.heap.size + 1) (rfC X)) (w.heap.size + 1) 41 (rfC X) := r2.drew.set _
  have q4 : Blk (w2.drew.setRow (w.heap.size + 1) (rfC X)) w.heap.size 41 (rfC rf0) := q2.drew.other _ (by omega)
  have hb4 : Below w.heap.size w (w2.drew.setRow (w.heap.size + 1) (rfC X)) := below_setRow hb2.drew (by omega) _
  have hs4 : (w2.drew.setRow (w.heap.size + 1) (rfC X)).heap.size = w2.heap.size := by simp
  clear HDC r2 q2 hb2 HS
  generalize (w2.drew.setRow (w.heap.size + 1) (rfC X)) = w4 at *
  go_wp2_with (first
    | (refine wpList_load_rowg (by rfl) 41 _ (by rfl) (w.heap.size + 1) (by rfl) 41 (rfC X) (0, 0) _ (by exact r4) Tryz.underlying41 (by rfl) (slSizeRef.trans (by rw [rfC_size])) ?_; simp only [Act.put, sgPHBlkGrp])
    | fail)
  refine (HR.out w4).mono ?_
  rintro e w5 ⟨rfl, hb5⟩
  have r5 : Blk w5 (w.heap.size + 1) 41 (rfC X) := r4.below hb5 (by omega)
  have q5 : Blk w5 w.heap.size 41 (rfC rf0) := q4.below hb5 (by omega)
  have hb6 : Below w.heap.size w w5 := hb4.trans (hb5.mono (by omega))
  clear r4 q4 hb4 hb5 hs4
  cases b
  · go_wp2_with (first
      | (refine wpList_store_row (by rfl) 41 _ _ (by rfl) (w.heap.size) (rfC rf0) (by rfl) (by rfl) 41 (_) (by exact q5) (slSizeRef.trans (by rw [rfC_size])) (by simp only [rfC_size]) (rfC_all _) ?_; simp only [Act.put, sgPHBlkGrp])
      | fail)
    try simp only [Exit.inBlock, Exit.then]
    refine bodyPost_ret (results_row2 Tryz.results312 _ _ (w.heap.size) 41 (rfC rf0) (0, 0) _ rfl (q5.set _) Tryz.underlying41 rfl (slSizeRef.trans (by rw [rfC_size]))) rfl ?_
    exact ⟨rfl, below_setRow hb6 (Nat.le_refl _) _⟩
  · go_wp2_with (first
      | (refine wpList_load_rowg (by rfl) 41 _ (by rfl) (w.heap.size + 1) (by rfl) 41 (rfC X) (0, 0) _ (by exact r5) Tryz.underlying41 (by rfl) (slSizeRef.trans (by rw [rfC_size])) ?_; simp only [Act.put, sgPHBlkGrp])
      | (refine wpList_store_row (by rfl) 41 _ _ (by rfl) (w.heap.size) (rfC X) (by rfl) (by rfl) 41 (_) (by exact q5) (slSizeRef.trans (by rw [rfC_size])) (by simp only [rfC_size]) (rfC_all _) ?_; simp only [Act.put, sgPHBlkGrp])
      | fail)
    try simp only [Exit.inBlock, Exit.then]
    refine bodyPost_ret (results_row2 Tryz.results312 _ _ (w.heap.size) 41 (rfC X) (0, 0) _ rfl (q5.set _) Tryz.underlying41 rfl (slSizeRef.trans (by rw [rfC_size]))) rfl ?_
    exact ⟨rfl, below_setRow hb6 (Nat.le_refl _) _⟩
end Go.Proofs.YtppagdmlfgialaaGreatDoor

namespace Go.Proofs.YtppagdmlfgialaaGreatDoor
open Go Go.RowKit
set_option linter.unusedSimpArgs false
set_option linter.unusedVariables false

/-- a block, as a plain thing -/
def blkD (f : Nat → Nat) : Vector Nat 256 := Vector.ofFn fun i : Fin 256 => f i.1
def vF (d : Vector Nat 256) : Nat → Nat := fun i => (d[i]?).getD 0
def bK (d : Vector Nat 256) : Value := .agg (va 256 (iv .u8 (vF d)))
theorem vF_blkD (f : Nat → Nat) : va 256 (iv .u8 (vF (blkD f))) = va 256 (iv .u8 f) := va_congr fun i hi => by
  unfold iv vF blkD
  congr 2
  simp [hi]
theorem bK_blkD (f : Nat → Nat) : bK (blkD f) = .agg (va 256 (iv .u8 f)) := by
  unfold bK
  rw [vF_blkD]
end Go.Proofs.YtppagdmlfgialaaGreatDoor

namespace Go.Proofs.YtppagdmlfgialaaGreatDoor
open Go.RowKit
set_option linter.unusedSimpArgs false
set_option linter.unusedVariables false

/-- what a log may change: its own block, its map, its row -/
def LogKeeps (g r : Nat) (v : Value) (w w' : World) : Prop :=
  w'.os = w.os ∧ w'.tape = w.tape ∧ w'.output = w.output ∧ w.heap.size ≤ w'.heap.size ∧ ∀ k, k < w.heap.size → k ≠ g → k ≠ r → v.ownBlock ≠ some k → w'.heap[k]? = w.heap[k]?

theorem own_ne {w : World} {B e size n g t : Nat} {v : Value} {xs : List Value} {cs : Array Value} (h : w.ownsRow B e size v n xs) (hb : Blk w g t cs) (hne : e ≠ t) : v.ownBlock ≠ some g := fun hq => by
  rcases h.2 with ⟨rfl, _⟩ | ⟨b, cap, cur, rfl, _, hg, _⟩
  · simp [Value.ownBlock] at hq
  · simp [Value.ownBlock] at hq
    subst hq
    unfold Blk at hb
    rw [hb] at hg
    simp at hg
    exact hne hg.2.symm
theorem own_map {w : World} {B e size n r clock : Nat} {v : Value} {xs : List Value} {es : Array MapEntry} (h : w.ownsRow B e size v n xs) (hb : w.heap[r]? = some (.map es clock)) : v.ownBlock ≠ some r := fun hq => by
  rcases h.2 with ⟨rfl, _⟩ | ⟨b, cap, cur, rfl, _, hg, _⟩
  · simp [Value.ownBlock] at hq
  · simp [Value.ownBlock] at hq
    subst hq
    rw [hb] at hg
    cases hg
theorem own_block {w w' : World} {B e size n : Nat} {v : Value} {xs : List Value} (h : w.ownsRow B e size v n xs) (hk : ∀ k, v.ownBlock = some k → w'.heap[k]? = w.heap[k]?) : w'.ownsRow B e size v n xs := by
  refine ⟨h.1, ?_⟩
  rcases h.2 with hn | ⟨g, cap, cur, rfl, hg, hgg, rest⟩
  · exact .inl hn
  · exact .inr ⟨g, cap, cur, rfl, hg, (hk g rfl).trans hgg, rest⟩
end Go.Proofs.YtppagdmlfgialaaGreatDoor

namespace Go.Proofs.YtppagdmlfgialaaGreatDoor
open Go.RowKit
set_option linter.unusedSimpArgs false
set_option linter.unusedVariables false

theorem LogAt.below {w w' : World} {g r : Nat} {v : Value} {E : List (Nat × ByteArray)} (h : LogAt w g r v E) (hb : Below w.heap.size w w') : LogAt w' g r v E := by
  obtain ⟨hB, hown, hM⟩ := h
  refine ⟨hB.below hb hB.lt, own_block hown (fun k hk => hb.block k (hown.lt k hk).2), hM.below hb ?_⟩
  obtain ⟨es, cl, hg, _⟩ := hM
  exact (Array.getElem?_eq_some_iff.1 hg).1
end Go.Proofs.YtppagdmlfgialaaGreatDoor

namespace Go.Proofs.YtppagdmlfgialaaGreatDoor
open Go Go.RowKit

section
variable {ops : Array Oper}

/-- every order from here on has so many steps -/
def treeOk (ops : Array Oper) : Nat → Array Bool → Bool
  | 0, listed => (Region.ready .any ops listed).isEmpty
  | n + 1, listed => !(Region.ready .any ops listed).isEmpty && (Region.ready .any ops listed).all fun i => (ops[i]?).isSome && treeOk ops n (listed.setIfInBounds i true)
/-- the check of the whole region -/
def treeB (ops : Array Oper) (lows : List Tmp) (takes : List Nat) : Bool :=
  decide (takes.length ≤ ops.size) && Region.noSelect ops && (lows.all fun x => ops.all fun o => o.dst != some x) &&
    match takesB .any ops [] lows takes (Array.replicate ops.size false) with
    | some l => treeOk ops (ops.size - takes.length) l
    | none => false
def listedOf (n : Nat) (takes : List Nat) : Array Bool := takes.foldl (fun l i => l.setIfInBounds i true) (Array.replicate n false)
theorem takesB_listed {md : Region.Mode} {Wl : List Nat} {lows : List Tmp} : ∀ (ts : List Nat) (l l2 : Array Bool), takesB md ops Wl lows ts l = some l2 → l2 = ts.foldl (fun l i => l.setIfInBounds i true) l
  | [], l, l2, h => by simp only [takesB, Option.some.injEq] at h; exact h.symm
  | i :: ts, l, l2, h => by
    unfold takesB at h
    split at h
    · exact takesB_listed ts _ l2 h
    · cases h
end
section
variable {P : Program} {ops : Array Oper} {Q : Exit → Act → World → Prop} {B : Nat} {w0 : World} {lows : List Tmp}
/-- S is kept behind every step of the walk that is left -/
def wpTreeS (P : Program) (ops : Array Oper) (Q : Exit → Act → World → Prop) (S : World → Prop) : Nat → Array Bool → Act → World → Prop
  | 0, _, a, w => Strict Q .normal a w
  | n + 1, listed, a, w => ∀ i ∈ Region.ready .any ops listed, wpList P ops (Strict fun _ a' w' => S w' ∧ wpTreeS P ops Q S n (listed.setIfInBounds i true) a' w') ([i].filterMap fun i => ops[i]?) a w
theorem treeS_any {S : World → Prop} : ∀ (n : Nat) (listed : Array Bool) (a : Act) (w : World), treeOk ops n listed = true → wpTreeS P ops Q S n listed a w → wpAnyW P .any ops (Strict Q) S (([] : List Nat).contains ·) n listed a w
  | 0, listed, a, w, hb, h => ⟨by simpa [treeOk] using hb, h⟩
  | n + 1, listed, a, w, hb, h => by
    simp only [treeOk, Bool.and_eq_true, Bool.not_eq_true', List.all_eq_true] at hb
    refine ⟨fun h0 => (by rw [h0] at hb; exact absurd hb.1 (by simp)), fun i hi => ?_⟩
    obtain ⟨h1, h2⟩ := hb.2 i hi
    obtain ⟨o, ho⟩ := Option.isSome_iff_exists.1 h1
    refine wpOp_mono (fun a' w' h' => ?_) (wpOp_strict (wpList_one ho (h i hi)))
    exact ⟨fun _ => h'.2.1, treeS_any n _ a' w' h2 h'.2.2⟩
/-- THE LAW. -/
theorem wp_region_tree {id : Nat} {a : Act} {w : World} (lows : List Tmp) (takes : List Nat) (B : Nat) (hm : P.follows .mixedOrders = true) (hB : treeB ops lows takes = true)
    (hl : Lows lows B w a)
    (h : wpList P ops (Strict fun _ a' w' => wpTreeS P ops Q (Below B w) (ops.size - takes.length) (listedOf ops.size takes) a' w') ((takes ++ []).filterMap fun i => ops[i]?) a w.drew) :
    (Code.region id ops true).wp P Q a w := by
  unfold treeB at hB
  simp only [Bool.and_eq_true, decide_eq_true_eq] at hB
  obtain ⟨⟨⟨hlen, hs⟩, hlow⟩, hrest⟩ := hB
  have hd : ∀ x ∈ lows, ∀ (j : Nat) (o : Oper), ops[j]? = some o → o.dst ≠ some x := fun x hx j o ho => by
    have h1 := List.all_eq_true.1 hlow x hx
    have h2 := Array.all_eq_true_iff_forall_mem.1 h1 o (Array.mem_of_getElem? ho)
    simpa using h2
  split at hrest
  · rename_i l hl2
    have he := takesB_listed takes _ l hl2
    refine Code.wp_mono Strict.imp (wp_region_any hm ?_)
    have e : ops.size = takes.length + (ops.size - takes.length) := by omega
    rw [e]
    refine wpAny_of_W (S := Below B w) (W := (([] : List Nat).contains ·)) _ _ _ _ (takes_step hs hd [] _ _ takes _ l a _ (by rw [← e]; exact hl2) (fun a' w' hl' _ h' => ?_) hl (Below.refl B w).drew h)
    have h2 := h'.2
    unfold listedOf at h2
    rw [← he] at h2
    exact treeS_any _ l a' w' hrest h2
  · cases hrest
theorem treeS_step {S : World → Prop} {n : Nat} {listed : Array Bool} {a : Act} {w : World} (l : List Nat) (hr : (Region.ready .any ops listed == l) = true)
    (h : ∀ i ∈ l, wpList P ops (Strict fun _ a' w' => S w' ∧ wpTreeS P ops Q S n (listed.setIfInBounds i true) a' w') ([i].filterMap fun i => ops[i]?) a w) : wpTreeS P ops Q S (n + 1) listed a w := by
  unfold wpTreeS
  rw [eq_of_beq hr]
  exact h
theorem treeS_one {S : World → Prop} {n : Nat} {listed : Array Bool} {a : Act} {w : World} (i : Nat) (hr : (Region.ready .any ops listed == [i]) = true)
    (h : wpList P ops (Strict fun _ a' w' => S w' ∧ wpTreeS P ops Q S n (listed.setIfInBounds i true) a' w') ([i].filterMap fun i => ops[i]?) a w) : wpTreeS P ops Q S (n + 1) listed a w :=
  treeS_step [i] hr fun j hj => by
    have : j = i := by simpa using hj
    subst this
    exact h
theorem treeS_two {S : World → Prop} {n : Nat} {listed : Array Bool} {a : Act} {w : World} (i j : Nat) (hr : (Region.ready .any ops listed == [i, j]) = true)
    (h : wpList P ops (Strict fun _ a' w' => S w' ∧ wpTreeS P ops Q S n (listed.setIfInBounds i true) a' w') ([i].filterMap fun i => ops[i]?) a w)
    (h2 : wpList P ops (Strict fun _ a' w' => S w' ∧ wpTreeS P ops Q S n (listed.setIfInBounds j true) a' w') ([j].filterMap fun i => ops[i]?) a w) : wpTreeS P ops Q S (n + 1) listed a w :=
  treeS_step [i, j] hr fun k hk => by
    have : k = i ∨ k = j := by simpa using hk
    rcases this with rfl | rfl
    · exact h
    · exact h2
theorem treeS_last {S : World → Prop} {listed : Array Bool} {a : Act} {w : World} (h : Strict Q .normal a w) : wpTreeS P ops Q S 0 listed a w := h
end
end Go.Proofs.YtppagdmlfgialaaGreatDoor

namespace Go.Proofs.YtppagdmlfgialaaGreatDoor
open Go.RowKit
set_option linter.unusedSimpArgs false
set_option linter.unusedVariables false

theorem own_own {w : World} {B B' e e' size size' n n' k : Nat} {v v' : Value} {xs xs' : List Value} (h : w.ownsRow B e size v n xs) (h' : w.ownsRow B' e' size' v' n' xs') (hne : e ≠ e') (hk : v.ownBlock = some k) : v'.ownBlock ≠ some k := fun hk' => by
  rcases h.2 with ⟨rfl, _⟩ | ⟨b, cap, cur, rfl, _, hg, _⟩
  · simp [Value.ownBlock] at hk
  · rcases h'.2 with ⟨rfl, _⟩ | ⟨b', cap', cur', rfl, _, hg', _⟩
    · simp [Value.ownBlock] at hk'
    · simp [Value.ownBlock] at hk hk'
      subst hk
      subst hk'
      rw [hg] at hg'
      simp at hg'
      exact hne hg'.2
/-- two logs that share no memory -/
def Apart2 (g r : Nat) (v : Value) (g' r' : Nat) (v' : Value) : Prop := g' ≠ g ∧ r' ≠ r ∧ ∀ k, v'.ownBlock = some k → v.ownBlock ≠ some k
/-- all of a log lies from B on -/
def LogFrom (B g r : Nat) (v : Value) : Prop := B ≤ g ∧ B ≤ r ∧ ∀ k, v.ownBlock = some k → B ≤ k
theorem map_blk {w : World} {r g t : Nat} {cs : Array Value} {es : Array MapEntry} {cl : Nat} (hg : w.heap[r]? = some (.map es cl)) (hB : Blk w g t cs) : r ≠ g := fun q => by
  subst q
  unfold Blk at hB
  rw [hB] at hg
  cases hg
section
variable {w w' : World} {g r : Nat} {v : Value} {E : List (Nat × ByteArray)}
theorem LogKeeps.log {g' r' : Nat} {v' : Value} {F : List (Nat × ByteArray)} (hk : LogKeeps g r v w w') (h : LogAt w g r v E) (h' : LogAt w g' r' v' F) (ha : Apart2 g r v g' r' v') : LogAt w' g' r' v' F := by
  obtain ⟨hB, hown, es, cl, hg, _⟩ := h
  obtain ⟨hB', hown', es', cl', hg', he'⟩ := h'
  obtain ⟨a1, a2, a3⟩ := ha
  refine ⟨?_, own_block hown' fun k hkk => ?_, es', cl', ?_, he'⟩
  · unfold Blk
    rw [hk.2.2.2.2 g' hB'.lt a1 (fun q => map_blk hg hB' q.symm) (own_ne hown hB' (by decide))]
    exact hB'
  · refine hk.2.2.2.2 k (hown'.lt k hkk).2 (fun q => ?_) (fun q => ?_) (a3 k hkk)
    · subst q
      exact own_ne hown' hB (by decide) hkk
    · subst q
      exact own_map hown' hg hkk
  · rw [hk.2.2.2.2 r' (Array.getElem?_eq_some_iff.1 hg').1 (map_blk hg' hB) a2 (own_map hown hg')]
    exact hg'
theorem LogKeeps.blk {b t : Nat} {cs : Array Value} (hk : LogKeeps g r v w w') (h : LogAt w g r v E) (hb : Blk w b t cs) (h1 : t ≠ 438) (h2 : 433 ≠ t) : Blk w' b t cs := by
  obtain ⟨hB, hown, es, cl, hg, _⟩ := h
  unfold Blk
  rw [hk.2.2.2.2 b hb.lt (fun q => ?_) (fun q => map_blk hg hb q.symm) (own_ne hown hb h2)]
  · exact hb
  · subst q
    unfold Blk at hB hb
    rw [hB] at hb
    simp at hb
    exact h1 hb.2.symm
theorem LogKeeps.below {B : Nat} (hk : LogKeeps g r v w w') (hf : LogFrom B g r v) (hB : B ≤ w.heap.size) : Below B w w' :=
  ⟨hk.1, hk.2.1, hk.2.2.1, hk.2.2.2.1, fun k hkB => hk.2.2.2.2 k (by omega) (by have := hf.1; omega) (by have := hf.2.1; omega) (fun q => by have := hf.2.2 k q; omega)⟩
theorem LogKeeps.of_below (hb : Below w.heap.size w w') : LogKeeps g r v w w' := ⟨hb.os, hb.tape, hb.output, hb.size, fun k h1 _ _ _ => hb.block k h1⟩
end
theorem Apart2.symm {g r : Nat} {v : Value} {g' r' : Nat} {v' : Value} (h : Apart2 g r v g' r' v') : Apart2 g' r' v' g r v := ⟨h.1.symm, h.2.1.symm, fun k h1 h2 => h.2.2 k h2 h1⟩
end Go.Proofs.YtppagdmlfgialaaGreatDoor

namespace Go.Proofs.YtppagdmlfgialaaGreatDoor
open Go Go.RowKit
set_option linter.unusedSimpArgs false
set_option linter.unusedVariables false

def intL (l : List Nat) : List Value := l.map fun (x : Nat) => Value.int .i64 (x : Int)
/-- the slice v of slices ss holds the groups G, all from block B on, no two in one block -/
structure GrpAt (w : World) (B : Nat) (v : Value) (G : List (List Nat)) (ss : List Value) : Prop where
  row : w.ownsRow B 135 1 v G.length ss
  each : ∀ j, j < G.length → w.ownsRow B 3 1 (ss.getD j undef) (G.getD j []).length (intL (G.getD j []))
  apart : ∀ i j, i ≠ j → i < G.length → j < G.length → ∀ b, (ss.getD i undef).ownBlock = some b → (ss.getD j undef).ownBlock ≠ some b
theorem GrpAt.len {w : World} {B : Nat} {v : Value} {G : List (List Nat)} {ss : List Value} (h : GrpAt w B v G ss) : ss.length = G.length := by
  have := h.row.1
  omega
theorem GrpAt.below {w w' : World} {B : Nat} {v : Value} {G : List (List Nat)} {ss : List Value} (h : GrpAt w B v G ss) (hb : Below w.heap.size w w') : GrpAt w' B v G ss :=
  ⟨kown_below h.row hb, fun j hj => kown_below (h.each j hj) hb, h.apart⟩
theorem GrpAt.nil (w : World) (B : Nat) : GrpAt w B (.slice none 0 0) [] [] := ⟨World.ownsRow_nil _ _ _ _, fun j hj => absurd hj (by simp), fun i j _ hi => absurd hi (by simp)⟩
/-- one more group, with nothing in it -/
theorem GrpAt.more {w w' : World} {B : Nat} {v v' : Value} {G : List (List Nat)} {ss : List Value} (h : GrpAt w B v G ss) (hrow : w'.ownsRow B 135 1 v' (G.length + 1) (ss ++ [.slice none 0 0])) (hg : w.grownBy w' v.ownBlock) : GrpAt w' B v' (G ++ [[]]) (ss ++ [.slice none 0 0]) := by
  have hl := h.len
  have e1 : ∀ j, j < G.length → (ss ++ [Value.slice none 0 0]).getD j undef = ss.getD j undef := fun j hj => by
    simp [List.getD, List.getElem?_append_left (show j < ss.length by omega)]
  have e2 : (ss ++ [Value.slice none 0 0]).getD G.length undef = .slice none 0 0 := by
    rw [← hl]
    simp [List.getD]
  refine ⟨by simpa using hrow, fun j hj => ?_, fun i j hij hi hj b hb => ?_⟩
  · by_cases hjl : j < G.length
    · rw [e1 j hjl, show (G ++ [([] : List Nat)]).getD j [] = G.getD j [] by simp [List.getD, List.getElem?_append_left hjl]]
      refine (h.each j hjl).kept hg ?_
      cases hq : (ss.getD j undef).ownBlock with
      | none => exact .inl rfl
      | some k => exact .inr fun q => own_own (h.each j hjl) h.row (by decide) hq q.symm
    · obtain rfl : j = G.length := by simp at hj; omega
      rw [e2, show (G ++ [([] : List Nat)]).getD G.length [] = [] by simp [List.getD]]
      exact World.ownsRow_nil _ _ _ _
  · have hil : i < G.length := by
      rcases Nat.lt_or_ge i G.length with q | q
      · exact q
      · obtain rfl : i = G.length := by simp at hi; omega
        rw [e2] at hb
        cases hb
    rw [e1 i hil] at hb
    by_cases hjl : j < G.length
    · rw [e1 j hjl]
      exact h.apart i j hij hil hjl b hb
    · obtain rfl : j = G.length := by simp at hj; omega
      rw [e2]
      exact fun q => by cases q
theorem own_setCell {w : World} {B e n g cap : Nat} {xs : List Value} (h : w.ownsRow B e 1 (.slice (some ⟨g, 0, none⟩) n cap) n xs) (j : Nat) (hj : j < n) (x : Value) : (w.setCell ⟨g, j, none⟩ x).ownsRow B e 1 (.slice (some ⟨g, 0, none⟩) n cap) n (xs.set j x) := by
  rcases h.2 with ⟨hn, _⟩ | ⟨g', cap', cur, hv, hb, hg, h1, h2, h3, h4⟩
  · cases hn
  · injection hv with hv1 hv2 hv3
    injection hv1 with hv1
    injection hv1 with hv1
    subst hv1 hv3
    have hB : Blk w g e cur := hg
    refine ⟨by simpa using h.1, .inr ⟨g, cap, cur.setIfInBounds j x, rfl, hb, hB.put j x, h1, h2, by simpa using h3, ?_⟩⟩
    rw [← h4]
    simp [List.take_set]
theorem own_setCell_other {w : World} {B e n g : Nat} {v : Value} {xs : List Value} (h : w.ownsRow B e 1 v n xs) (hne : v.ownBlock ≠ some g) (j : Nat) (x : Value) : (w.setCell ⟨g, j, none⟩ x).ownsRow B e 1 v n xs :=
  kown_kept h fun k _ hv => Below.heap_setCell w ⟨g, j, none⟩ x k fun q => hne (by rw [hv, q])
/-- one more number in a group -/
theorem GrpAt.push {w w' : World} {B g cap : Nat} {G : List (List Nat)} {ss : List Value} {j x : Nat} {s' : Value} (h : GrpAt w B (.slice (some ⟨g, 0, none⟩) G.length cap) G ss) (hj : j < G.length)
    (hrow : w'.ownsRow B 3 1 s' ((G.getD j []).length + 1) (intL (G.getD j []) ++ [.int .i64 (x : Int)])) (hg : w.grownBy w' (ss.getD j undef).ownBlock) (hs : s'.ownBlock = (ss.getD j undef).ownBlock ∨ ∃ k, s'.ownBlock = some k ∧ w.heap.size ≤ k) :
    GrpAt (w'.setCell ⟨g, j, none⟩ s') B (.slice (some ⟨g, 0, none⟩) G.length cap) (G.set j (G.getD j [] ++ [x])) (ss.set j s') := by
  have hl := h.len
  have hgs : (ss.getD j undef).ownBlock ≠ some g := fun q => own_own (h.each j hj) h.row (by decide) q rfl
  have hrow' : w'.ownsRow B 135 1 (.slice (some ⟨g, 0, none⟩) G.length cap) G.length ss := h.row.kept hg (.inr fun q => hgs q.symm)
  have ej : (ss.set j s').getD j undef = s' := by simp [List.getD, hl, hj]
  have en : ∀ i, i ≠ j → (ss.set j s').getD i undef = ss.getD i undef := fun i hi => by simp [List.getD, List.getElem?_set_ne (Ne.symm hi)]
  have Gj : (G.set j (G.getD j [] ++ [x])).getD j [] = G.getD j [] ++ [x] := by simp [List.getD, hj]
  have Gn : ∀ i, i ≠ j → (G.set j (G.getD j [] ++ [x])).getD i [] = G.getD i [] := fun i hi => by simp [List.getD, List.getElem?_set_ne (Ne.symm hi)]
  have hsg : s'.ownBlock ≠ some g := fun q => own_own hrow hrow' (by decide) q rfl
  refine ⟨by simpa using own_setCell hrow' j hj s', fun i hi => ?_, fun i k hik hi hk b hb => ?_⟩
  · rw [List.length_set] at hi
    by_cases hij : i = j
    · subst hij
      rw [ej, Gj]
      refine own_setCell_other ?_ hsg _ _
      simpa [intL] using hrow
    · rw [en i hij, Gn i hij]
      have hne : (ss.getD i undef).ownBlock ≠ some g := fun q => own_own (h.each i hi) h.row (by decide) q rfl
      refine own_setCell_other ((h.each i hi).kept hg ?_) hne _ _
      cases hq : (ss.getD i undef).ownBlock with
      | none => exact .inl rfl
      | some b => exact .inr fun q => h.apart i j hij hi hj b hq q.symm
  · rw [List.length_set] at hi hk
    by_cases hij : i = j
    · subst hij
      rw [ej] at hb
      rw [en k (Ne.symm hik)]
      intro q
      rcases hs with hs | ⟨z, hz, hzl⟩
      · exact h.apart i k hik hi hk b (by rw [← hs]; exact hb) q
      · rw [hz] at hb
        injection hb with hb
        have := ((h.each k hk).lt b q).2
        omega
    · rw [en i hij] at hb
      by_cases hkj : k = j
      · subst hkj
        rw [ej]
        intro q
        rcases hs with hs | ⟨z, hz, hzl⟩
        · exact h.apart i k hik hi hk b hb (by rw [← hs]; exact q)
        · rw [hz] at q
          injection q with q
          have := ((h.each i hi).lt b hb).2
          omega
      · rw [en k hkj]
        exact h.apart i k hik hi hk b hb
end Go.Proofs.YtppagdmlfgialaaGreatDoor
