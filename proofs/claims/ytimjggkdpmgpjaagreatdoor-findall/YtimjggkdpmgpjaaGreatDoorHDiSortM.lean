/- Two sorted stretches merged by a turn and two merges of halves: the plain side. No program in it. -/
import Derived.Test.YtimjggkdpmgpjaaGreatDoorHFiMath
import Derived.Test.YtimjggkdpmgpjaaGreatDoorHNaGiven
import Derived.Handy
import Derived.Test.YtimjggkdpmgpjaaGreatDoorHMath

namespace Go.Proofs.YtimjggkdpmgpjaaGreatDoor
theorem sgLHDiSortM : (∀ (α : Type) (a : α) (l r : List α), (a :: l) ++ r = a :: (l ++ r)) ∧ (∀ (α : Type) (l : List α), [] ++ l = l) ∧ (∀ (α : Type) (l : List α), l ++ [] = l) ∧ (∀ (α β : Type) (f : α → Option β) (a : α) (l : List α), (a :: l).filterMap f = match f a with | none => l.filterMap f | some b => b :: l.filterMap f) ∧ (∀ (α β : Type) (f : α → Option β), [].filterMap f = []) ∧ (∀ (α : Type) (l : List α) (i : Nat), l.toArray[i]? = l[i]?) ∧ (∀ (α : Type) (a : α) (l : List α), (a :: l)[0]? = some a) ∧ (∀ (α : Type) (a : α) (l : List α) (i : Nat), (a :: l)[i + 1]? = l[i]?) :=
  ⟨fun _ _ _ _ => List.cons_append, fun _ _ => List.nil_append _, fun _ _ => List.append_nil _, fun _ _ _ _ _ => List.filterMap_cons, fun _ _ _ => List.filterMap_nil, fun _ _ _ => List.getElem?_toArray, fun _ _ _ => List.getElem?_cons_zero, fun _ _ _ _ => List.getElem?_cons_succ⟩
theorem sgPHDiSortM : (∀ (α : Type) (l : List α) (i : Nat) (a : α), l.toArray.setIfInBounds i a = (l.set i a).toArray) ∧ (∀ (α : Type) (a b : α) (l : List α), (a :: l).set 0 b = b :: l) ∧ (∀ (α : Type) (a b : α) (l : List α) (i : Nat), (a :: l).set (i + 1) b = a :: l.set i b) :=
  ⟨fun _ _ _ _ => List.setIfInBounds_toArray _ _ _, fun _ _ _ _ => List.set_cons_zero, fun _ _ _ _ _ => List.set_cons_succ⟩
end Go.Proofs.YtimjggkdpmgpjaaGreatDoor
namespace Go.Proofs.YtimjggkdpmgpjaaGreatDoor
open Go Go.RowKit
set_option linter.unusedSimpArgs false
set_option linter.unusedVariables false
set_option maxRecDepth 100000 in
set_option maxHeartbeats 4000000 in
/-- the document's Find: p is the first place with the name, or how many there are -/
theorem rfind17_any (a : Option Addr) (n c p : Nat) (hn : n ≤ 140737488351232) (N : Nat → Int) (S : Nat → ByteArray) (s : ByteArray) (hp : FirstN S n p s) (r0 r1 : Int) (h0 : r0 = if p < n then N p else 0) (h1 : r1 = if p < n then (p : Int) else -1) (w : World) (hI : IsLkC w a n N S) : Calls Tryz.prog 47 #[.slice a n c, .string s] w fun e w' => e = .returned (.tuple #[.int .i64 r0, .int .i64 r1]) ∧ w' = w := by
  have HP : Hid (FirstN S n p s ∧ (r0 = if p < n then N p else 0) ∧ (r1 = if p < n then (p : Int) else -1)) := ⟨hp, h0, h1⟩
  have HI : Hid (IsLkC w a n N S) := hI
  clear hp h0 h1 hI
  go_enter Tryz.func47, Tryz.ntmps47
  go_wp2_with fail
  go_loopw [6] (fun v wr => Hid (∃ i : Nat, i ≤ n ∧ i ≤ p ∧ v = .int .i64 (i : Int) ∧ wr = w)) (fun v _ => n - (intOf v).toNat)
  case atStart => exact ⟨0, Nat.zero_le _, Nat.zero_le _, rfl, rfl⟩
  case round =>
    obtain ⟨i, hi, hip, rfl, rfl⟩ := Hid.out hrel
    clear hrel
    by_cases hlt : i < n
    · have i0 : (0 : Int) ≤ (i : Int) := by omega
      have i1 : (i : Int) < (n : Int) := by omega
      obtain ⟨b, o, rfl, hb, c1, c2⟩ := HI.out i hlt
      by_cases hq : i = p
      · have e1 : ((S i).toList == s.toList) = true := eqT (by rw [hq]; exact HP.out.1.2.2 (by omega))
        have HR : Hid (r0 = N i ∧ r1 = (i : Int)) := by
          have h := HP.out
          rw [if_pos (show p < n by omega)] at h
          rw [if_pos (show p < n by omega)] at h
          rw [hq]
          exact h.2
        clear hq
        go_wp2_with fail
        go_ret2
        exact ⟨by rw [HR.out.1, HR.out.2]; rfl, rfl⟩
      · have e1 : ((S i).toList == s.toList) = false := neT (HP.out.1.2.1 i (by omega))
        have HL : Hid (i + 1 ≤ n ∧ i + 1 ≤ p) := ⟨by omega, by omega⟩
        clear hq
        go_wp2_with fail
        refine ⟨⟨i + 1, HL.out.1, HL.out.2, by simp, trivial⟩, ?_⟩
        simp only [intOf]
        have := HL.out.1
        omega
    · have i1 : ¬ ((i : Int) < (n : Int)) := by omega
      have HR : Hid (r0 = 0 ∧ r1 = -1) := by
        have h := HP.out
        have hpn : ¬ p < n := by omega
        rw [if_neg hpn] at h
        rw [if_neg hpn] at h
        exact h.2
      clear hlt
      go_wp2_with fail
      go_ret2
      exact ⟨by rw [HR.out.1, HR.out.2]; rfl, rfl⟩
end Go.Proofs.YtimjggkdpmgpjaaGreatDoor

namespace Go.Proofs.YtimjggkdpmgpjaaGreatDoor
open Go Go.RowKit

/-- the plan of a region's walk -/
inductive PlanW where
  | fin (takes : List Nat)
  | force (ts : List Nat) (i : Nat) (next : PlanW)
  | yield (ts : List Nat) (i : Nat) (next : PlanW)
  | fork (i j : Nat) (p q : PlanW)
def PlanW.len (tl : List Nat) : PlanW → Nat
  | .fin takes => takes.length + tl.length
  | .force ts _ p => ts.length + (1 + p.len tl)
  | .yield ts _ p => ts.length + (1 + p.len tl)
  | .fork _ _ p _ => p.len tl + 1
/-- the check -/
def PlanW.ok (ops : Array Oper) (tl : List Nat) : PlanW → Array Bool → Bool
  | .fin takes, listed => match takesB .any ops tl [] takes listed with
    | some l => tailB .any ops tl tl l
    | none => false
  | .force ts i p, listed => match takesB .any ops tl [] ts listed with
    | some l => forceW .any ops l i && !tl.contains i && p.ok ops tl (l.setIfInBounds i true)
    | none => false
  | .yield ts i p, listed => match takesB .any ops tl [] ts listed with
    | some l => yieldW .any ops l tl i && p.ok ops tl (l.setIfInBounds i true)
    | none => false
  | .fork i j p q, listed => Region.ready .any ops listed == [i, j] && (ops[i]?).isSome && (ops[j]?).isSome && !tl.contains i && !tl.contains j && p.len tl == q.len tl && p.ok ops tl (listed.setIfInBounds i true) && q.ok ops tl (listed.setIfInBounds j true)
def PlanW.whole (ops : Array Oper) (tl : List Nat) (p : PlanW) : Bool := p.len tl == ops.size && Region.noSelect ops && p.ok ops tl (Array.replicate ops.size false)
section
variable {P : Program} {ops : Array Oper} {Q : Exit → Act → World → Prop} {S : World → Prop}
/-- the walk -/
def wpPlanW (P : Program) (ops : Array Oper) (Q : Exit → Act → World → Prop) (S : World → Prop) (tl : List Nat) : PlanW → Act → World → Prop
  | .fin takes, a, w => wpList P ops (Strict Q) ((takes ++ tl).filterMap fun i => ops[i]?) a w
  | .force ts i p, a, w => wpList P ops (Strict fun _ a' w' => S w' ∧ wpPlanW P ops Q S tl p a' w') ((ts ++ [i]).filterMap fun i => ops[i]?) a w
  | .yield ts i p, a, w => wpList P ops (Strict fun _ a' w' => ∃ o v, ops[i]? = some o ∧ YieldsIf P ops S o v a' ∧ wpPlanW P ops Q S tl p (a'.put o.dst v) w') ((ts ++ []).filterMap fun i => ops[i]?) a w
  | .fork i j p q, a, w => wpList P ops (Strict fun _ a' w' => S w' ∧ wpPlanW P ops Q S tl p a' w') ([i].filterMap fun i => ops[i]?) a w ∧ wpList P ops (Strict fun _ a' w' => S w' ∧ wpPlanW P ops Q S tl q a' w') ([j].filterMap fun i => ops[i]?) a w
theorem planW_step (hs : Region.noSelect ops = true) (tl : List Nat) : ∀ (p : PlanW) (listed : Array Bool) (a : Act) (w : World), p.ok ops tl listed = true → S w →
      wpPlanW P ops Q S tl p a w → wpAnyW P .any ops (Strict Q) S (tl.contains ·) (p.len tl) listed a w
  | .fin takes, listed, a, w, hb, hS, h => by
    unfold PlanW.ok at hb
    split at hb
    · rename_i l2 hl2
      exact takesS_step hs tl tl.length Q takes listed l2 a w hl2 (fun a' w' _ h' => tailS_step tl l2 a' w' hb h') hS h
    · cases hb
  | .force ts i p, listed, a, w, hb, hS, h => by
    unfold PlanW.ok at hb
    split at hb
    · rename_i l2 hl2
      simp only [Bool.and_eq_true] at hb
      refine takesS_step hs [i] _ _ ts listed l2 a w hl2 (fun a' w' _ h' => ?_) hS h
      obtain ⟨o, ho⟩ := has_op' hb.1.1
      rw [Nat.add_comm 1]
      refine forceS_step hb.1.1 (wpOp_mono (fun a2 w2 h2 => ?_) (wpOp_strict (wpList_one ho h')))
      have h3 := h2.2
      exact ⟨fun _ => h3.1, planW_step hs tl p _ a2 w2 hb.2 h3.1 h3.2⟩
    · cases hb
  | .yield ts i p, listed, a, w, hb, hS, h => by
    unfold PlanW.ok at hb
    split at hb
    · rename_i l2 hl2
      simp only [Bool.and_eq_true] at hb
      refine takesS_step hs [] _ _ ts listed l2 a w hl2 (fun a' w' hS' h' => ?_) hS h
      obtain ⟨-, o, v, ho, hy, hn⟩ := h'
      have hc := hb.1
      unfold yieldW at hc
      rw [ho] at hc
      simp only [Bool.and_eq_true, Bool.not_eq_true'] at hc
      rw [Nat.add_comm 1]
      exact takeS_gen hs ho hc.1.1.1 hc.1.1.2 hc.1.2 hc.2 hy hS' (planW_step hs tl p _ _ w' hb.2 hS' hn)
    · cases hb
  | .fork i j p q, listed, a, w, hb, hS, h => by
    simp only [PlanW.ok, Bool.and_eq_true, beq_iff_eq] at hb
    obtain ⟨⟨⟨⟨⟨⟨⟨hr, hi⟩, hj⟩, _⟩, _⟩, hl⟩, hp⟩, hq⟩ := hb
    refine ⟨fun h0 => (by rw [h0] at hr; cases hr), fun x hx => ?_⟩
    rw [hr] at hx
    have hx2 : x = i ∨ x = j := by simpa using hx
    rcases hx2 with rfl | rfl
    · obtain ⟨o, ho⟩ := Option.isSome_iff_exists.1 hi
      refine wpOp_mono (fun a' w' h' => ?_) (wpOp_strict (wpList_one ho h.1))
      exact ⟨fun _ => h'.2.1, planW_step hs tl p _ a' w' hp h'.2.1 h'.2.2⟩
    · obtain ⟨o, ho⟩ := Option.isSome_iff_exists.1 hj
      refine wpOp_mono (fun a' w' h' => ?_) (wpOp_strict (wpList_one ho h.2))
      have := planW_step hs tl q _ a' w' hq h'.2.1 h'.2.2
      rw [← hl] at this
      exact ⟨fun _ => h'.2.1, this⟩
/-- THE LAW. -/
theorem wp_region_planW {id : Nat} {a : Act} {w : World} (S : World → Prop) (tl : List Nat) (p : PlanW) (hm : P.follows .mixedOrders = true) (hB : p.whole ops tl = true)
    (hS : S w.drew) (h : wpPlanW P ops Q S tl p a w.drew) : (Code.region id ops true).wp P Q a w := by
  unfold PlanW.whole at hB
  simp only [Bool.and_eq_true, beq_iff_eq] at hB
  refine Code.wp_mono Strict.imp (wp_region_any hm ?_)
  rw [← hB.1.1]
  exact wpAny_of_W _ _ _ _ (planW_step hB.1.2 tl p _ a _ (by rw [hB.1.1]; exact hB.2) hS h)
theorem planW_force {tl ts : List Nat} {i : Nat} {p : PlanW} {a : Act} {w : World}
    (h : wpList P ops (Strict fun _ a' w' => S w' ∧ wpPlanW P ops Q S tl p a' w') ((ts ++ [i]).filterMap fun i => ops[i]?) a w) : wpPlanW P ops Q S tl (.force ts i p) a w := h
theorem planW_yield {tl ts : List Nat} {i : Nat} {p : PlanW} {a : Act} {w : World}
    (h : wpList P ops (Strict fun _ a' w' => ∃ o v, ops[i]? = some o ∧ YieldsIf P ops S o v a' ∧ wpPlanW P ops Q S tl p (a'.put o.dst v) w') ((ts ++ []).filterMap fun i => ops[i]?) a w) : wpPlanW P ops Q S tl (.yield ts i p) a w := h
theorem planW_fin {tl takes : List Nat} {a : Act} {w : World} (h : wpList P ops (Strict Q) ((takes ++ tl).filterMap fun i => ops[i]?) a w) : wpPlanW P ops Q S tl (.fin takes) a w := h
end
end Go.Proofs.YtimjggkdpmgpjaaGreatDoor

namespace Go.Proofs.YtimjggkdpmgpjaaGreatDoor
open Go Go.RowKit
set_option linter.unusedSimpArgs false
set_option linter.unusedVariables false
/-- a block of entries -/
def lbF (N : Nat → Int) (S : Nat → ByteArray) : Nat → Value := fun i => if i % 2 = 0 then .int .i64 (N (i / 2)) else .string (S (i / 2))
def lbC (tl : Array Value) (cap : Nat) (N : Nat → Int) (S : Nat → ByteArray) : Array Value := va (cap * 2) (lbF N S) ++ tl
section
variable {w : World} {g t cap : Nat} {N : Nat → Int} {S : Nat → ByteArray} {tl : Array Value}
theorem lb_at (h : Blk w g t (lbC tl cap N S)) (i : Nat) (hi : i < cap * 2) : w.cell? ⟨g, i, none⟩ = some (lbF N S i) := by
  rw [h.cell i]
  unfold lbC
  rw [Array.getElem?_append_left (by rw [va_size]; exact hi)]
  rw [Array.getElem?_eq_getElem (by rw [va_size]; exact hi)]
  simp [va]
theorem lb_c0 (h : Blk w g t (lbC tl cap N S)) (j : Nat) (hj : j < cap) : w.cell? ⟨g, j * 2, none⟩ = some (.int .i64 (N j)) := by
  have := lb_at h (j * 2) (by omega)
  unfold lbF at this
  rw [if_pos (by omega), show j * 2 / 2 = j by omega] at this
  exact this
theorem lb_c1 (h : Blk w g t (lbC tl cap N S)) (j : Nat) (hj : j < cap) : w.cell? ⟨g, j * 2 + 1, none⟩ = some (.string (S j)) := by
  have := lb_at h (j * 2 + 1) (by omega)
  unfold lbF at this
  rw [if_neg (by omega), show (j * 2 + 1) / 2 = j by omega] at this
  exact this
theorem lb_put (h : Blk w g t (lbC tl cap N S)) (j : Nat) (hj : j < cap) (i : Int) (s : ByteArray) : Blk ((w.setCell ⟨g, j * 2, none⟩ (.int .i64 i)).setCell ⟨g, j * 2 + 1, none⟩ (.string s)) g t (lbC tl cap (upN N j i) (upS S j s)) := by
  have e0 : va (cap * 2) (lbF (upN N j i) (upS S j s)) = ((va (cap * 2) (lbF N S)).setIfInBounds (j * 2) (.int .i64 i)).setIfInBounds (j * 2 + 1) (.string s) := by
    refine Array.ext (by rw [Array.size_setIfInBounds, Array.size_setIfInBounds, va_size, va_size]) fun q h1 h2 => ?_
    rw [va_size] at h1
    have q1 : q < ((va (cap * 2) (lbF N S)).setIfInBounds (j * 2) (.int .i64 i)).size := by rw [Array.size_setIfInBounds, va_size]; exact h1
    have q2 : q < (va (cap * 2) (lbF N S)).size := by rw [va_size]; exact h1
    rw [Array.getElem_setIfInBounds (hj := q1), Array.getElem_setIfInBounds (hj := q2)]
    by_cases c1 : j * 2 + 1 = q
    · rw [if_pos c1]
      simp [va, lbF, upS]
      rw [if_neg (by omega), if_pos (by omega)]
    · rw [if_neg c1]
      by_cases c2 : j * 2 = q
      · rw [if_pos c2]
        simp [va, lbF, upN]
        rw [if_pos (by omega), if_pos (by omega)]
      · rw [if_neg c2]
        simp [va, lbF, upN, upS]
        by_cases c3 : q % 2 = 0
        · rw [if_pos c3, if_pos c3, if_neg (by omega)]
        · rw [if_neg c3, if_neg c3, if_neg (by omega)]
  have e : lbC tl cap (upN N j i) (upS S j s) = ((lbC tl cap N S).setIfInBounds (j * 2) (.int .i64 i)).setIfInBounds (j * 2 + 1) (.string s) := by
    unfold lbC
    rw [e0, Array.setIfInBounds_append_left (by rw [va_size]; omega), Array.setIfInBounds_append_left (by rw [Array.size_setIfInBounds, va_size]; omega)]
  rw [e]
  exact (h.put _ _).put _ _
end
/-- two stretches of i swapped -/
def swF {α : Type} (f : Nat → α) (a b i : Nat) : Nat → α := fun p => if a ≤ p ∧ p < a + i then f (p - a + b) else if b ≤ p ∧ p < b + i then f (p - b + a) else f p
theorem sw_step {α : Type} (f : Nat → α) (a b i : Nat) (hab : a + i < b) (p : Nat) : swF f a b (i + 1) p = if p = b + i then swF f a b i (a + i) else if p = a + i then swF f a b i (b + i) else swF f a b i p := by
  unfold swF
  by_cases c1 : p = b + i
  · rw [if_pos c1, if_neg (by omega), if_pos (by omega), if_neg (by omega), if_neg (by omega)]
    congr 1
    omega
  · rw [if_neg c1]
    by_cases c2 : p = a + i
    · rw [if_pos c2, if_pos (by omega), if_neg (by omega), if_neg (by omega)]
      congr 1
      omega
    · rw [if_neg c2]
      by_cases c3 : a ≤ p ∧ p < a + i
      · rw [if_pos c3, if_pos (by omega)]
      · rw [if_neg c3, if_neg (by omega)]
        by_cases c4 : b ≤ p ∧ p < b + i
        · rw [if_pos c4, if_pos (by omega)]
        · rw [if_neg c4, if_neg (by omega)]
set_option maxRecDepth 100000 in
set_option maxHeartbeats 8000000 in
theorem swapRange_any (tl : Array Value) (g n c cap a b m : Nat) (N : Nat → Int) (S : Nat → ByteArray) (hab : a + m ≤ b) (hbn : b + m ≤ n) (hnc : n ≤ cap) (hn : n ≤ 1000000000000000) (fv : Value) (w : World) (hB : Blk w g 54 (lbC tl cap N S)) : Calls Tryz.prog 216 #[.slice (some ⟨g, 0, none⟩) n c, .int .i64 (a : Int), .int .i64 (b : Int), .int .i64 (m : Int), fv] w fun e w' => e = .returned (.tuple #[]) ∧ Blk w' g 54 (lbC tl cap (swF N a b m) (swF S a b m)) ∧ Turns (fun z => z = g) w w' := by
  have H0 : Hid (Blk w g 54 (lbC tl cap N S)) := hB
  have nb : (n : Int) ≤ 1000000000000000 := by omega
  clear hB
  go_enter Tryz.func216, Tryz.ntmps216
  go_wp2_with fail
  go_loopw [10] (fun v wr => Hid (∃ i : Nat, i ≤ m ∧ v = .int .i64 (i : Int) ∧ Blk wr g 54 (lbC tl cap (swF N a b i) (swF S a b i)) ∧ Turns (fun z => z = g) w wr)) (fun v _ => m - (intOf v).toNat)
  case atStart => exact ⟨0, Nat.zero_le _, rfl, by
    have e : ∀ {α : Type} (f : Nat → α), swF f a b 0 = f := fun f => funext fun p => by unfold swF; rw [if_neg (by omega), if_neg (by omega)]
    rw [e, e]
    exact H0.out, Turns.bel (Below.refl _ _)⟩
  case round =>
    obtain ⟨i, him, rfl, hBi, hTi⟩ := Hid.out hrel
    have HT : Hid (Turns (fun z => z = g) w wr) := hTi
    clear hrel hTi H0
    by_cases hin : i < m
    · have i1 : (i : Int) < (m : Int) := by omega
      obtain ⟨ai, hai⟩ : ∃ q, q = a + i := ⟨_, rfl⟩
      obtain ⟨bi, hbi⟩ : ∃ q, q = b + i := ⟨_, rfl⟩
      have ea : (a : Int) + (i : Int) = (ai : Int) := by omega
      have eb : (b : Int) + (i : Int) = (bi : Int) := by omega
      have wa : IntKind.i64.wrap (ai : Int) = (ai : Int) := by simp [IntKind.wrap, IntKind.signed, IntKind.bits]; omega
      have wb : IntKind.i64.wrap (bi : Int) = (bi : Int) := by simp [IntKind.wrap, IntKind.signed, IntKind.bits]; omega
      have la : (ai : Int) < (n : Int) := by omega
      have lb : (bi : Int) < (n : Int) := by omega
      have hac : ai < cap := by omega
      have hbc : bi < cap := by omega
      have HNX : Hid (∀ W, Blk W g 54 (lbC tl cap (upN (upN (swF N a b i) ai (swF N a b i bi)) bi (swF N a b i ai)) (upS (upS (swF S a b i) ai (swF S a b i bi)) bi (swF S a b i ai))) → Blk W g 54 (lbC tl cap (swF N a b (i + 1)) (swF S a b (i + 1)))) := fun W hW => by
        have e1 : upN (upN (swF N a b i) ai (swF N a b i bi)) bi (swF N a b i ai) = swF N a b (i + 1) := funext fun p => by
          unfold upN
          rw [sw_step N a b i (by omega) p, hai, hbi]
        have e2 : upS (upS (swF S a b i) ai (swF S a b i bi)) bi (swF S a b i ai) = swF S a b (i + 1) := funext fun p => by
          unfold upS
          rw [sw_step S a b i (by omega) p, hai, hbi]
        rw [e1, e2] at hW
        exact hW
      have hne : bi ≠ ai := by omega
      clear hai hbi
      generalize swF N a b i = N1 at *
      generalize swF S a b i = S1 at *
      go_wp2_with fail
      have hSd : Blk wr.drew g 54 (lbC tl cap N1 S1) := hBi.drew
      have HTD : Hid (Turns (fun z => z = g) w wr.drew) := HT.out.drew
      refine wp_region_planW (fun W => ∃ N2 S2, N2 bi = N1 bi ∧ S2 bi = S1 bi ∧ Blk W g 54 (lbC tl cap N2 S2)) [22, 23] (.yield [0, 1, 2] 3 (.yield [4, 5, 6] 7 (.yield [8, 9, 10] 11 (.yield [14, 15, 16] 17 (.yield [] 12 (.yield [] 18 (.yield [] 13 (.force [] 19 (.force [] 20 (.force [] 21 (.fin []))))))))))) (by kernel_rfl) (by kernel_rfl) ⟨N1, S1, rfl, rfl, hSd⟩ (planW_yield ?_)
      generalize wr.drew = w2 at *
      simp only [sgLHDiSortM]
      go_wp2_with fail
      refine ⟨rfl, _, .int .i64 (ai : Int), rfl, Or.inl ⟨by rfl, fun W hW => by go_simp⟩, planW_yield ?_⟩
      simp only [Act.put, sgPHDiSortM]
      simp only [sgLHDiSortM]
      go_wp2_with fail
      refine ⟨rfl, _, .int .i64 (bi : Int), rfl, Or.inl ⟨by rfl, fun W hW => by go_simp⟩, planW_yield ?_⟩
      simp only [Act.put, sgPHDiSortM]
      simp only [sgLHDiSortM]
      go_wp2_with fail
      refine ⟨rfl, _, .int .i64 (bi : Int), rfl, Or.inl ⟨by rfl, fun W hW => by go_simp⟩, planW_yield ?_⟩
      simp only [Act.put, sgPHDiSortM]
      simp only [sgLHDiSortM]
      go_wp2_with fail
      refine ⟨rfl, _, .int .i64 (ai : Int), rfl, Or.inl ⟨by rfl, fun W hW => by go_simp⟩, planW_yield ?_⟩
      simp only [Act.put, sgPHDiSortM]
      simp only [sgLHDiSortM]
      go_wp2_with fail
      refine ⟨rfl, _, .pointer (some ⟨g, bi * 2, none⟩), rfl, Or.inl ⟨by rfl, fun W hW => by go_simp⟩, planW_yield ?_⟩
      simp only [Act.put, sgPHDiSortM]
      simp only [sgLHDiSortM]
      go_wp2_with fail
      refine ⟨rfl, _, .pointer (some ⟨g, ai * 2, none⟩), rfl, Or.inl ⟨by rfl, fun W hW => by go_simp⟩, planW_yield ?_⟩
      simp only [Act.put, sgPHDiSortM]
      simp only [sgLHDiSortM]
      go_wp2_with fail
      have k1 := lb_put hSd ai hac (N1 bi) (S1 bi)
      have k2 := lb_put k1 bi hbc (N1 ai) (S1 ai)
      have a0 := lb_c0 hSd ai hac
      have a1 := lb_c1 hSd ai hac
      refine ⟨rfl, _, .agg #[.int .i64 (N1 bi), .string (S1 bi)], rfl, Or.inl ⟨by rfl, fun W hW => by obtain ⟨N2, S2, q1, q2, hW⟩ := hW; have hW0 := lb_c0 hW bi hbc; have hW1 := lb_c1 hW bi hbc; rw [q1] at hW0; rw [q2] at hW1; go_simp⟩, planW_force ?_⟩
      simp only [Act.put, sgPHDiSortM]
      simp only [sgLHDiSortM]
      go_wp2_with fail
      refine ⟨rfl, ⟨N1, S1, rfl, rfl, hSd⟩, planW_force ?_⟩
      simp only [sgLHDiSortM]
      go_wp2_with fail
      refine ⟨rfl, ⟨N1, S1, rfl, rfl, hSd⟩, planW_force ?_⟩
      simp only [sgLHDiSortM]
      have af0 : w2.frozen? ⟨g, ai * 2, none⟩ = false := hSd.frozen _
      have af1 : w2.frozen? ⟨g, ai * 2 + 1, none⟩ = false := hSd.frozen _
      go_wp2_with fail
      refine ⟨rfl, ⟨_, _, by unfold upN; rw [if_neg hne], by unfold upS; rw [if_neg hne], k1⟩, planW_fin ?_⟩
      simp only [sgLHDiSortM]
      have b0 := lb_c0 k1 bi hbc
      have b1 := lb_c1 k1 bi hbc
      have bf0 : ((w2.setCell ⟨g, ai * 2, none⟩ (.int .i64 (N1 bi))).setCell ⟨g, ai * 2 + 1, none⟩ (.string (S1 bi))).frozen? ⟨g, bi * 2, none⟩ = false := k1.frozen _
      have bf1 : ((w2.setCell ⟨g, ai * 2, none⟩ (.int .i64 (N1 bi))).setCell ⟨g, ai * 2 + 1, none⟩ (.string (S1 bi))).frozen? ⟨g, bi * 2 + 1, none⟩ = false := k1.frozen _
      have HE : Hid (Blk ((((w2.setCell ⟨g, ai * 2, none⟩ (.int .i64 (N1 bi))).setCell ⟨g, ai * 2 + 1, none⟩ (.string (S1 bi))).setCell ⟨g, bi * 2, none⟩ (.int .i64 (N1 ai))).setCell ⟨g, bi * 2 + 1, none⟩ (.string (S1 ai))) g 54 (lbC tl cap (swF N a b (i + 1)) (swF S a b (i + 1))) ∧ Turns (fun z => z = g) w ((((w2.setCell ⟨g, ai * 2, none⟩ (.int .i64 (N1 bi))).setCell ⟨g, ai * 2 + 1, none⟩ (.string (S1 bi))).setCell ⟨g, bi * 2, none⟩ (.int .i64 (N1 ai))).setCell ⟨g, bi * 2 + 1, none⟩ (.string (S1 ai)))) := ⟨HNX.out _ k2, (((HTD.out.tr (Turns.cell _ g _ _ rfl)).tr (Turns.cell _ g _ _ rfl)).tr (Turns.cell _ g _ _ rfl)).tr (Turns.cell _ g _ _ rfl)⟩
      clear k1 k2 hSd
      go_wp2_with fail
      refine ⟨rfl, ?_⟩
      clear a0 a1 af0 af1 b0 b1 bf0 bf1
      go_wp2_with fail
      go_roundw
      case rel => exact ⟨i + 1, by omega, by first | rfl | go_num | simp, HE.out.1, HE.out.2⟩
      case measure => simp [intOf]; omega
    · have i1 : ¬ ((i : Int) < (m : Int)) := by omega
      obtain rfl : i = m := by omega
      have HB : Hid (Blk wr g 54 (lbC tl cap (swF N a b i) (swF S a b i))) := hBi
      clear hBi
      go_wp2_with fail
      go_end0
      exact ⟨rfl, HB.out, HT.out⟩
end Go.Proofs.YtimjggkdpmgpjaaGreatDoor

namespace Go.Proofs.YtimjggkdpmgpjaaGreatDoor
open Go Go.RowKit
set_option linter.unusedSimpArgs false
set_option linter.unusedVariables false
/-- the stretch [a, b) turned about m -/
def roF {α : Type} (f : Nat → α) (a m b : Nat) : Nat → α := fun p => if a ≤ p ∧ p < a + (b - m) then f (p + (m - a)) else if a ≤ p ∧ p < b then f (p - (b - m)) else f p
theorem ro_long {α : Type} (f : Nat → α) (m i j : Nat) (hi : i ≤ m) (hj : j < i) : roF (swF f (m - i) m j) (m - (i - j)) m (m + j) = roF f (m - i) m (m + j) := by
  funext p
  unfold roF swF
  by_cases c1 : m - i ≤ p ∧ p < m - i + j
  · rw [if_neg (by omega), if_neg (by omega), if_pos (by omega), if_pos (by omega)]
    congr 1
    omega
  · by_cases c2 : m - i ≤ p ∧ p < m + j
    · by_cases c3 : p < m - (i - j) + j
      · rw [if_pos (by omega), if_neg (by omega), if_pos (by omega), if_neg (by omega), if_pos (by omega)]
        congr 1
        omega
      · rw [if_neg (by omega), if_pos (by omega), if_neg (by omega), if_neg (by omega), if_neg (by omega), if_pos (by omega)]
    · rw [if_neg (by omega), if_neg (by omega), if_neg (by omega), if_neg (by omega), if_neg (by omega), if_neg (by omega)]
theorem ro_short {α : Type} (f : Nat → α) (m i j : Nat) (hi : i ≤ m) (hj : i < j) : roF (swF f (m - i) (m + j - i) i) (m - i) m (m + (j - i)) = roF f (m - i) m (m + j) := by
  funext p
  unfold roF swF
  by_cases c1 : m - i ≤ p ∧ p < m - i + (j - i)
  · rw [if_pos (by omega), if_neg (by omega), if_neg (by omega), if_pos (by omega)]
  · by_cases c2 : m - i ≤ p ∧ p < m + (j - i)
    · rw [if_neg (by omega), if_pos (by omega), if_pos (by omega), if_pos (by omega)]
      congr 1
      omega
    · by_cases c3 : m - i ≤ p ∧ p < m + j
      · rw [if_neg (by omega), if_neg (by omega), if_neg (by omega), if_pos (by omega), if_neg (by omega), if_pos (by omega)]
        congr 1
        omega
      · rw [if_neg (by omega), if_neg (by omega), if_neg (by omega), if_neg (by omega), if_neg (by omega), if_neg (by omega)]
theorem ro_even {α : Type} (f : Nat → α) (m i : Nat) (hi : i ≤ m) : swF f (m - i) m i = roF f (m - i) m (m + i) := by
  funext p
  unfold roF swF
  by_cases c1 : m - i ≤ p ∧ p < m - i + i
  · rw [if_pos (by omega), if_pos (by omega)]
    congr 1
    omega
  · by_cases c2 : m ≤ p ∧ p < m + i
    · rw [if_neg (by omega), if_pos (by omega), if_neg (by omega), if_pos (by omega)]
      congr 1
      omega
    · rw [if_neg (by omega), if_neg (by omega), if_neg (by omega), if_neg (by omega)]
set_option maxRecDepth 100000 in
set_option maxHeartbeats 8000000 in
theorem rotate_any (tl : Array Value) (g n c cap a m b : Nat) (N : Nat → Int) (S : Nat → ByteArray) (ham : a < m) (hmb : m < b) (hbn : b ≤ n) (hnc : n ≤ cap) (hn : n ≤ 1000000000000000) (fv : Value) (w : World) (hB : Blk w g 54 (lbC tl cap N S)) : Calls Tryz.prog 209 #[.slice (some ⟨g, 0, none⟩) n c, .int .i64 (a : Int), .int .i64 (m : Int), .int .i64 (b : Int), fv] w fun e w' => e = .returned (.tuple #[]) ∧ Blk w' g 54 (lbC tl cap (roF N a m b) (roF S a m b)) ∧ Turns (fun z => z = g) w w' := by
  have H0 : Hid (Blk w g 54 (lbC tl cap N S)) := hB
  have HSW : Hid (∀ (x y k : Nat) (N1 : Nat → Int) (S1 : Nat → ByteArray) (V : World), x + k ≤ y → y + k ≤ n → Blk V g 54 (lbC tl cap N1 S1) → Calls Tryz.prog 216 #[.slice (some ⟨g, 0, none⟩) n c, .int .i64 (x : Int), .int .i64 (y : Int), .int .i64 (k : Int), fv] V fun e w' => e = .returned (.tuple #[]) ∧ Blk w' g 54 (lbC tl cap (swF N1 x y k) (swF S1 x y k)) ∧ Turns (fun z => z = g) V w') := fun x y k N1 S1 V h1 h2 h3 => swapRange_any tl g n c cap x y k N1 S1 h1 h2 hnc hn fv V h3
  have nb : (n : Int) ≤ 1000000000000000 := by omega
  clear hB
  have w1 : ∀ z : Int, -2000000000000000 ≤ z → z ≤ 3000000000000000 → IntKind.i64.wrap z = z := fun z h1 h2 => by simp [IntKind.wrap, IntKind.signed, IntKind.bits]; omega
  have e1 : IntKind.i64.wrap ((m : Int) - (a : Int)) = ((m - a : Nat) : Int) := by rw [w1 _ (by omega) (by omega)]; omega
  have e2 : IntKind.i64.wrap ((b : Int) - (m : Int)) = ((b - m : Nat) : Int) := by rw [w1 _ (by omega) (by omega)]; omega
  go_enter Tryz.func209, Tryz.ntmps209
  go_wp2_with fail
  go_loopw [10, 11] (fun v10 v11 wr => Hid (∃ (i j : Nat) (N1 : Nat → Int) (S1 : Nat → ByteArray), 0 < i ∧ 0 < j ∧ i ≤ m ∧ m + j ≤ n ∧ v10 = .int .i64 (i : Int) ∧ v11 = .int .i64 (j : Int) ∧ Blk wr g 54 (lbC tl cap N1 S1) ∧ roF N1 (m - i) m (m + j) = roF N a m b ∧ roF S1 (m - i) m (m + j) = roF S a m b ∧ Turns (fun z => z = g) w wr)) (fun v10 v11 _ => (intOf v10).toNat + (intOf v11).toNat)
  case atStart => exact ⟨m - a, b - m, N, S, by omega, by omega, by omega, by omega, by first | rfl | go_num | simp, by first | rfl | go_num | simp, H0.out, by rw [show m - (m - a) = a by omega, show m + (b - m) = b by omega], by rw [show m - (m - a) = a by omega, show m + (b - m) = b by omega], Turns.bel (Below.refl _ _)⟩
  case round =>
    obtain ⟨i, j, N1, S1, hi0, hj0, him, hjn, rfl, rfl, hBi, hN, hS, hTi⟩ := Hid.out hrel
    have HB : Hid (Blk wr g 54 (lbC tl cap N1 S1)) := hBi
    have HN : Hid (roF N1 (m - i) m (m + j) = roF N a m b) := hN
    have HS : Hid (roF S1 (m - i) m (m + j) = roF S a m b) := hS
    have HT : Hid (Turns (fun z => z = g) w wr) := hTi
    clear hrel hBi hN hS hTi H0 e1 e2
    have f1 : IntKind.i64.wrap ((m : Int) - (i : Int)) = ((m - i : Nat) : Int) := by rw [w1 _ (by omega) (by omega)]; omega
    by_cases hij : i = j
    · subst hij
      have q1 : ((i : Int) = (i : Int)) := rfl
      have HC := HSW.out (m - i) m i N1 S1 wr (by omega) (by omega) HB.out
      have HE : Hid (∀ V, Blk V g 54 (lbC tl cap (swF N1 (m - i) m i) (swF S1 (m - i) m i)) → Blk V g 54 (lbC tl cap (roF N a m b) (roF S a m b))) := fun V hV => by
        rw [ro_even N1 m i him, ro_even S1 m i him, HN.out, HS.out] at hV
        exact hV
      clear w1
      go_wp2_with fail
      refine HC.mono ?_
      rintro e w2 ⟨rfl, hb2, ht2⟩
      have HF : Hid (Blk w2 g 54 (lbC tl cap (roF N a m b) (roF S a m b)) ∧ Turns (fun z => z = g) w w2) := ⟨HE.out _ hb2, HT.out.tr ht2⟩
      clear hb2 ht2 HC
      go_wp2_with fail
      go_end0
      exact ⟨rfl, HF.out.1, HF.out.2⟩
    · have q1 : ¬ ((i : Int) = (j : Int)) := by omega
      by_cases hlt : j < i
      · have q2 : (j : Int) < (i : Int) := by omega
        have f2 : IntKind.i64.wrap ((i : Int) - (j : Int)) = ((i - j : Nat) : Int) := by rw [w1 _ (by omega) (by omega)]; omega
        have HC := HSW.out (m - i) m j N1 S1 wr (by omega) (by omega) HB.out
        have HE : Hid (roF (swF N1 (m - i) m j) (m - (i - j)) m (m + j) = roF N a m b ∧ roF (swF S1 (m - i) m j) (m - (i - j)) m (m + j) = roF S a m b) := ⟨by rw [ro_long N1 m i j him hlt]; exact HN.out, by rw [ro_long S1 m i j him hlt]; exact HS.out⟩
        clear w1
        go_wp2_with fail
        refine HC.mono ?_
        rintro e w2 ⟨rfl, hb2, ht2⟩
        have HF : Hid (Blk w2 g 54 (lbC tl cap (swF N1 (m - i) m j) (swF S1 (m - i) m j)) ∧ Turns (fun z => z = g) w w2) := ⟨hb2, HT.out.tr ht2⟩
        clear hb2 ht2 HC
        go_wp2_with fail
        go_roundw
        case rel => exact ⟨i - j, j, _, _, by omega, hj0, by omega, hjn, by first | rfl | go_num | simp, rfl, HF.out.1, HE.out.1, HE.out.2, HF.out.2⟩
        case measure => simp [intOf]; omega
      · have q2 : ¬ ((j : Int) < (i : Int)) := by omega
        have f2 : IntKind.i64.wrap ((j : Int) - (i : Int)) = ((j - i : Nat) : Int) := by rw [w1 _ (by omega) (by omega)]; omega
        obtain ⟨mj, hmj⟩ : ∃ q, q = m + j := ⟨_, rfl⟩
        obtain ⟨y, hy⟩ : ∃ q, q = m + j - i := ⟨_, rfl⟩
        have f3 : IntKind.i64.wrap ((m : Int) + (j : Int)) = (mj : Int) := by rw [w1 _ (by omega) (by omega)]; omega
        have f4 : IntKind.i64.wrap ((mj : Int) - (i : Int)) = (y : Int) := by rw [w1 _ (by omega) (by omega)]; omega
        have HC := HSW.out (m - i) y i N1 S1 wr (by omega) (by omega) HB.out
        have HE : Hid (roF (swF N1 (m - i) y i) (m - i) m (m + (j - i)) = roF N a m b ∧ roF (swF S1 (m - i) y i) (m - i) m (m + (j - i)) = roF S a m b) := ⟨by rw [hy, ro_short N1 m i j him (by omega)]; exact HN.out, by rw [hy, ro_short S1 m i j him (by omega)]; exact HS.out⟩
        clear w1 hmj hy
        go_wp2_with fail
        refine HC.mono ?_
        rintro e w2 ⟨rfl, hb2, ht2⟩
        have HF : Hid (Blk w2 g 54 (lbC tl cap (swF N1 (m - i) y i) (swF S1 (m - i) y i)) ∧ Turns (fun z => z = g) w w2) := ⟨hb2, HT.out.tr ht2⟩
        clear hb2 ht2 HC
        go_wp2_with fail
        go_roundw
        case rel => exact ⟨i, j - i, _, _, hi0, by omega, him, by omega, rfl, by first | rfl | go_num | simp, HF.out.1, HE.out.1, HE.out.2, HF.out.2⟩
        case measure => simp [intOf]; omega
end Go.Proofs.YtimjggkdpmgpjaaGreatDoor

namespace Go.Proofs.YtimjggkdpmgpjaaGreatDoor
open Go Go.RowKit
set_option linter.unusedVariables false
/-- places changed about within [a, b) -/
def Pm (a b : Nat) (s : Nat → Nat) : Prop := (∀ p, ¬ (a ≤ p ∧ p < b) → s p = p) ∧ (∀ p, a ≤ p → p < b → a ≤ s p ∧ s p < b) ∧ ∀ p q, s p = s q → p = q
theorem Pm.refl (a b : Nat) : Pm a b id := ⟨fun _ _ => rfl, fun p h1 h2 => ⟨h1, h2⟩, fun _ _ h => h⟩
theorem Pm.comp {a b : Nat} {s t : Nat → Nat} (h : Pm a b s) (k : Pm a b t) : Pm a b (fun p => s (t p)) := by
  refine ⟨fun p hp => ?_, fun p h1 h2 => ?_, fun p q e => k.2.2 _ _ (h.2.2 _ _ e)⟩
  · show s (t p) = p
    rw [k.1 p hp, h.1 p hp]
  · have := k.2.1 p h1 h2
    exact h.2.1 _ this.1 this.2
theorem Pm.wide {a b a2 b2 : Nat} {s : Nat → Nat} (h : Pm a b s) (h1 : a2 ≤ a) (h2 : b ≤ b2) : Pm a2 b2 s := by
  refine ⟨fun p hp => h.1 p (by omega), fun p k1 k2 => ?_, h.2.2⟩
  by_cases c : a ≤ p ∧ p < b
  · have := h.2.1 p c.1 c.2
    omega
  · rw [h.1 p c]
    exact ⟨k1, k2⟩
theorem ro_at {α : Type} (f : Nat → α) (a m b : Nat) : roF f a m b = fun p => f (roF id a m b p) := by
  funext p
  unfold roF
  by_cases c1 : a ≤ p ∧ p < a + (b - m)
  · rw [if_pos c1, if_pos c1]; rfl
  · rw [if_neg c1, if_neg c1]
    by_cases c2 : a ≤ p ∧ p < b
    · rw [if_pos c2, if_pos c2]; rfl
    · rw [if_neg c2, if_neg c2]; rfl
theorem ro_cases (a m b p : Nat) : (a ≤ p ∧ p < a + (b - m) ∧ roF id a m b p = p + (m - a)) ∨ (a + (b - m) ≤ p ∧ p < b ∧ roF id a m b p = p - (b - m)) ∨ ((p < a ∨ (a + (b - m) ≤ p ∧ b ≤ p)) ∧ roF id a m b p = p) := by
  unfold roF
  by_cases c1 : a ≤ p ∧ p < a + (b - m)
  · rw [if_pos c1]; exact Or.inl ⟨c1.1, c1.2, rfl⟩
  · rw [if_neg c1]
    by_cases c2 : a ≤ p ∧ p < b
    · rw [if_pos c2]; exact Or.inr (Or.inl ⟨by omega, c2.2, rfl⟩)
    · rw [if_neg c2]; exact Or.inr (Or.inr ⟨by omega, rfl⟩)
theorem ro_pm (a m b : Nat) (h1 : a ≤ m) (h2 : m ≤ b) : Pm a b (roF id a m b) := by
  refine ⟨fun p hp => ?_, fun p k1 k2 => ?_, fun p q e => ?_⟩
  · rcases ro_cases a m b p with ⟨c1, c2, c3⟩ | ⟨c1, c2, c3⟩ | ⟨c1, c3⟩ <;> omega
  · rcases ro_cases a m b p with ⟨c1, c2, c3⟩ | ⟨c1, c2, c3⟩ | ⟨c1, c3⟩ <;> omega
  · rcases ro_cases a m b p with ⟨c1, c2, c3⟩ | ⟨c1, c2, c3⟩ | ⟨c1, c3⟩ <;> rcases ro_cases a m b q with ⟨d1, d2, d3⟩ | ⟨d1, d2, d3⟩ | ⟨d1, d3⟩ <;> omega
section
variable {α : Type} {L : α → α → Prop} {f : Nat → α}
/-- none is less than one before it -/
def So (L : α → α → Prop) (f : Nat → α) (a b : Nat) : Prop := ∀ p q, a ≤ p → p < q → q < b → ¬ L (f q) (f p)
/-- none of the second stretch is less than one of the first -/
def Cr (L : α → α → Prop) (f : Nat → α) (a m b : Nat) : Prop := ∀ p q, a ≤ p → p < m → m ≤ q → q < b → ¬ L (f q) (f p)
theorem So.sub {a b a2 b2 : Nat} (h : So L f a b) (h1 : a ≤ a2) (h2 : b2 ≤ b) : So L f a2 b2 := fun p q k1 k2 k3 => h p q (by omega) k2 (by omega)
theorem so_join {a m b : Nat} (h1 : So L f a m) (h2 : So L f m b) (hx : Cr L f a m b) : So L f a b := fun p q k1 k2 k3 => by
  by_cases c1 : q < m
  · exact h1 p q k1 k2 c1
  · by_cases c2 : m ≤ p
    · exact h2 p q c2 k2 k3
    · exact hx p q k1 (by omega) (by omega) k3
theorem Cr.first {a m b : Nat} {s : Nat → Nat} (h : Cr L f a m b) (hs : Pm a m s) : Cr L (fun p => f (s p)) a m b := fun p q k1 k2 k3 k4 => by
  have := hs.2.1 p k1 k2
  show ¬ L (f (s q)) (f (s p))
  rw [hs.1 q (by omega)]
  exact h _ _ this.1 this.2 k3 k4
theorem Cr.second {a m b : Nat} {s : Nat → Nat} (h : Cr L f a m b) (hs : Pm m b s) : Cr L (fun p => f (s p)) a m b := fun p q k1 k2 k3 k4 => by
  have := hs.2.1 q k3 k4
  show ¬ L (f (s q)) (f (s p))
  rw [hs.1 p (by omega)]
  exact h _ _ k1 k2 this.1 this.2
theorem So.apart {a b x y : Nat} {s : Nat → Nat} (h : So L f a b) (hs : Pm x y s) (hd : b ≤ x ∨ y ≤ a) : So L (fun p => f (s p)) a b := fun p q k1 k2 k3 => by
  show ¬ L (f (s q)) (f (s p))
  rw [hs.1 p (by omega), hs.1 q (by omega)]
  exact h p q k1 k2 k3
/-- what the turn makes of two sorted stretches, where the place was sought -/
theorem sym_cut (hT : ∀ x y z, ¬ L y x → ¬ L z y → ¬ L z x) (hA : ∀ x y, L x y → ¬ L y x) {a m b d lo hi st : Nat} (ha : a < m) (hb : m < b) (hd : d = (a + b) / 2)
    (hlo : (m ≤ d ∧ lo = a ∧ hi = m) ∨ (d < m ∧ lo = d + m - b ∧ hi = d)) (h1 : So L f a m) (h2 : So L f m b) (hs : lo ≤ st ∧ st ≤ hi)
    (hl : st = lo ∨ ¬ L (f (d + m - st)) (f (st - 1))) (hr : st = hi ∨ L (f (d + m - 1 - st)) (f st)) :
    a ≤ st ∧ st ≤ m ∧ st ≤ d ∧ m ≤ d + m - st ∧ d ≤ d + m - st ∧ d + m - st ≤ b ∧ So L (roF f st m (d + m - st)) a st ∧ So L (roF f st m (d + m - st)) st d ∧ So L (roF f st m (d + m - st)) d (d + m - st) ∧ So L (roF f st m (d + m - st)) (d + m - st) b ∧ Cr L (roF f st m (d + m - st)) a d b := by
  have g1 : a ≤ st := by omega
  have g2 : st ≤ m := by omega
  have g3 : st ≤ d := by omega
  have g4 : m ≤ d + m - st := by omega
  have g5 : d ≤ d + m - st := by omega
  have g6 : d + m - st ≤ b := by omega
  have hR : ∀ x, ¬ L x x := fun x h => hA x x h h
  have m1 : ∀ p q, a ≤ p → p ≤ q → q < m → ¬ L (f q) (f p) := fun p q k1 k2 k3 => by
    rcases Nat.lt_or_ge p q with c | c
    · exact h1 p q k1 c k3
    · rw [show p = q by omega]; exact hR _
  have m2 : ∀ p q, m ≤ p → p ≤ q → q < b → ¬ L (f q) (f p) := fun p q k1 k2 k3 => by
    rcases Nat.lt_or_ge p q with c | c
    · exact h2 p q k1 c k3
    · rw [show p = q by omega]; exact hR _
  -- the first's low part and the second's high part
  have x1 : ∀ p q, a ≤ p → p < st → d + m - st ≤ q → q < b → ¬ L (f q) (f p) := fun p q k1 k2 k3 k4 => by
    rcases hl with c | c
    · omega
    · exact hT _ _ _ (m1 p (st - 1) k1 (by omega) (by omega)) (hT _ _ _ c (m2 (d + m - st) q (by omega) k3 k4))
  -- the second's low part and the first's high part
  have x2 : ∀ p q, m ≤ p → p < d + m - st → st ≤ q → q < m → ¬ L (f q) (f p) := fun p q k1 k2 k3 k4 => by
    rcases hr with c | c
    · omega
    · exact hT _ _ _ (m2 p (d + m - 1 - st) k1 (by omega) (by omega)) (hT _ _ _ (hA _ _ c) (m1 st q g1 k3 k4))
  have e : ∀ p, roF f st m (d + m - st) p = f (roF id st m (d + m - st) p) := fun p => congrFun (ro_at f st m (d + m - st)) p
  refine ⟨g1, g2, g3, g4, g5, g6, ?_, ?_, ?_, ?_, ?_⟩
  · intro p q k1 k2 k3
    rw [e, e]
    rcases ro_cases st m (d + m - st) p with ⟨c1, c2, c3⟩ | ⟨c1, c2, c3⟩ | ⟨c1, c3⟩ <;> rcases ro_cases st m (d + m - st) q with ⟨d1, d2, d3⟩ | ⟨d1, d2, d3⟩ | ⟨d1, d3⟩ <;> first | (exfalso; omega) | skip
    rw [c3, d3]
    exact h1 p q k1 k2 (by omega)
  · intro p q k1 k2 k3
    rw [e, e]
    rcases ro_cases st m (d + m - st) p with ⟨c1, c2, c3⟩ | ⟨c1, c2, c3⟩ | ⟨c1, c3⟩ <;> rcases ro_cases st m (d + m - st) q with ⟨d1, d2, d3⟩ | ⟨d1, d2, d3⟩ | ⟨d1, d3⟩ <;> first | (exfalso; omega) | skip
    rw [c3, d3]
    exact h2 _ _ (by omega) (by omega) (by omega)
  · intro p q k1 k2 k3
    rw [e, e]
    rcases ro_cases st m (d + m - st) p with ⟨c1, c2, c3⟩ | ⟨c1, c2, c3⟩ | ⟨c1, c3⟩ <;> rcases ro_cases st m (d + m - st) q with ⟨d1, d2, d3⟩ | ⟨d1, d2, d3⟩ | ⟨d1, d3⟩ <;> first | (exfalso; omega) | skip
    rw [c3, d3]
    exact h1 _ _ (by omega) (by omega) (by omega)
  · intro p q k1 k2 k3
    rw [e, e]
    rcases ro_cases st m (d + m - st) p with ⟨c1, c2, c3⟩ | ⟨c1, c2, c3⟩ | ⟨c1, c3⟩ <;> rcases ro_cases st m (d + m - st) q with ⟨d1, d2, d3⟩ | ⟨d1, d2, d3⟩ | ⟨d1, d3⟩ <;> first | (exfalso; omega) | skip
    rw [c3, d3]
    exact h2 _ _ (by omega) (by omega) (by omega)
  · intro p q k1 k2 k3 k4
    rw [e, e]
    rcases ro_cases st m (d + m - st) p with ⟨c1, c2, c3⟩ | ⟨c1, c2, c3⟩ | ⟨c1, c3⟩ <;> rcases ro_cases st m (d + m - st) q with ⟨d1, d2, d3⟩ | ⟨d1, d2, d3⟩ | ⟨d1, d3⟩ <;> rw [c3, d3] <;> first | (exfalso; omega) | exact x2 _ _ (by omega) (by omega) (by omega) (by omega) | exact m2 _ _ (by omega) (by omega) (by omega) | exact x1 _ _ (by omega) (by omega) (by omega) (by omega) | exact m1 _ _ (by omega) (by omega) (by omega)
/-- one entry sought its place in the stretch behind it -/
theorem so_up (hT : ∀ x y z, ¬ L y x → ¬ L z y → ¬ L z x) (hA : ∀ x y, L x y → ¬ L y x) {a b i : Nat} (hi : a + 1 ≤ i ∧ i ≤ b) (h2 : So L f (a + 1) b) (hl : i = a + 1 ∨ L (f (i - 1)) (f a)) (hr : i = b ∨ ¬ L (f i) (f a)) : So L (roF f a (a + 1) i) a b := by
  have hR : ∀ x, ¬ L x x := fun x h => hA x x h h
  have m2 : ∀ p q, a + 1 ≤ p → p ≤ q → q < b → ¬ L (f q) (f p) := fun p q k1 k2 k3 => by
    rcases Nat.lt_or_ge p q with c | c
    · exact h2 p q k1 c k3
    · rw [show p = q by omega]; exact hR _
  have y1 : ∀ p q, a + 1 ≤ p → p < i → q = a → ¬ L (f q) (f p) := fun p q k1 k2 k3 => by
    rcases hl with c | c
    · omega
    · rw [k3]; exact hT _ _ _ (m2 p (i - 1) k1 (by omega) (by omega)) (hA _ _ c)
  have y2 : ∀ p q, p = a → i ≤ q → q < b → ¬ L (f q) (f p) := fun p q k1 k2 k3 => by
    rcases hr with c | c
    · omega
    · rw [k1]; exact hT _ _ _ c (m2 i q (by omega) k2 k3)
  intro p q k1 k2 k3
  rw [congrFun (ro_at f a (a + 1) i) p, congrFun (ro_at f a (a + 1) i) q]
  show ¬ L (f (roF id a (a + 1) i q)) (f (roF id a (a + 1) i p))
  rcases ro_cases a (a + 1) i p with ⟨c1, c2, c3⟩ | ⟨c1, c2, c3⟩ | ⟨c1, c3⟩ <;> rcases ro_cases a (a + 1) i q with ⟨d1, d2, d3⟩ | ⟨d1, d2, d3⟩ | ⟨d1, d3⟩ <;> rw [c3, d3] <;> first | (exfalso; omega) | exact y1 _ _ (by omega) (by omega) (by omega) | exact y2 _ _ (by omega) (by omega) (by omega) | exact m2 _ _ (by omega) (by omega) (by omega)
/-- one entry sought its place in the stretch ahead of it -/
theorem so_down (hT : ∀ x y z, ¬ L y x → ¬ L z y → ¬ L z x) (hA : ∀ x y, L x y → ¬ L y x) {a m i : Nat} (hi : a ≤ i ∧ i ≤ m) (h1 : So L f a m) (hl : i = a ∨ ¬ L (f m) (f (i - 1))) (hr : i = m ∨ L (f m) (f i)) : So L (roF f i m (m + 1)) a (m + 1) := by
  have hR : ∀ x, ¬ L x x := fun x h => hA x x h h
  have m1 : ∀ p q, a ≤ p → p ≤ q → q < m → ¬ L (f q) (f p) := fun p q k1 k2 k3 => by
    rcases Nat.lt_or_ge p q with c | c
    · exact h1 p q k1 c k3
    · rw [show p = q by omega]; exact hR _
  have y1 : ∀ p q, a ≤ p → p < i → q = m → ¬ L (f q) (f p) := fun p q k1 k2 k3 => by
    rcases hl with c | c
    · omega
    · rw [k3]; exact hT _ _ _ (m1 p (i - 1) k1 (by omega) (by omega)) c
  have y2 : ∀ p q, p = m → i ≤ q → q < m → ¬ L (f q) (f p) := fun p q k1 k2 k3 => by
    rcases hr with c | c
    · omega
    · rw [k1]; exact hT _ _ _ (hA _ _ c) (m1 i q (by omega) k2 k3)
  intro p q k1 k2 k3
  rw [congrFun (ro_at f i m (m + 1)) p, congrFun (ro_at f i m (m + 1)) q]
  show ¬ L (f (roF id i m (m + 1) q)) (f (roF id i m (m + 1) p))
  rcases ro_cases i m (m + 1) p with ⟨c1, c2, c3⟩ | ⟨c1, c2, c3⟩ | ⟨c1, c3⟩ <;> rcases ro_cases i m (m + 1) q with ⟨d1, d2, d3⟩ | ⟨d1, d2, d3⟩ | ⟨d1, d3⟩ <;> rw [c3, d3] <;> first | (exfalso; omega) | exact y1 _ _ (by omega) (by omega) (by omega) | exact y2 _ _ (by omega) (by omega) (by omega) | exact m1 _ _ (by omega) (by omega) (by omega)
/-- the swaps, one by one -/
theorem ro_up (f : Nat → α) (a k : Nat) (hk : a ≤ k) (p : Nat) : (if p = k + 1 then roF f a (a + 1) (k + 1) k else if p = k then roF f a (a + 1) (k + 1) (k + 1) else roF f a (a + 1) (k + 1) p) = roF f a (a + 1) (k + 2) p := by
  have e : ∀ x, roF f a (a + 1) (k + 1) x = f (roF id a (a + 1) (k + 1) x) := fun x => congrFun (ro_at f a (a + 1) (k + 1)) x
  rw [congrFun (ro_at f a (a + 1) (k + 2)) p]
  show _ = f (roF id a (a + 1) (k + 2) p)
  by_cases c1 : p = k + 1
  · rw [if_pos c1, e]
    congr 1
    rcases ro_cases a (a + 1) (k + 1) k with ⟨c1, c2, c3⟩ | ⟨c1, c2, c3⟩ | ⟨c1, c3⟩ <;> rcases ro_cases a (a + 1) (k + 2) p with ⟨d1, d2, d3⟩ | ⟨d1, d2, d3⟩ | ⟨d1, d3⟩ <;> omega
  · rw [if_neg c1]
    by_cases c2 : p = k
    · rw [if_pos c2, e]
      congr 1
      rcases ro_cases a (a + 1) (k + 1) (k + 1) with ⟨c1, c2, c3⟩ | ⟨c1, c2, c3⟩ | ⟨c1, c3⟩ <;> rcases ro_cases a (a + 1) (k + 2) p with ⟨d1, d2, d3⟩ | ⟨d1, d2, d3⟩ | ⟨d1, d3⟩ <;> omega
    · rw [if_neg c2, e]
      congr 1
      rcases ro_cases a (a + 1) (k + 1) p with ⟨c1, c2, c3⟩ | ⟨c1, c2, c3⟩ | ⟨c1, c3⟩ <;> rcases ro_cases a (a + 1) (k + 2) p with ⟨d1, d2, d3⟩ | ⟨d1, d2, d3⟩ | ⟨d1, d3⟩ <;> omega
theorem ro_down (f : Nat → α) (m k : Nat) (hk : k + 1 ≤ m) (p : Nat) : (if p = k then roF f (k + 1) m (m + 1) (k + 1) else if p = k + 1 then roF f (k + 1) m (m + 1) k else roF f (k + 1) m (m + 1) p) = roF f k m (m + 1) p := by
  have e : ∀ x, roF f (k + 1) m (m + 1) x = f (roF id (k + 1) m (m + 1) x) := fun x => congrFun (ro_at f (k + 1) m (m + 1)) x
  rw [congrFun (ro_at f k m (m + 1)) p]
  show _ = f (roF id k m (m + 1) p)
  by_cases c1 : p = k
  · rw [if_pos c1, e]
    congr 1
    rcases ro_cases (k + 1) m (m + 1) (k + 1) with ⟨c1, c2, c3⟩ | ⟨c1, c2, c3⟩ | ⟨c1, c3⟩ <;> rcases ro_cases k m (m + 1) p with ⟨d1, d2, d3⟩ | ⟨d1, d2, d3⟩ | ⟨d1, d3⟩ <;> omega
  · rw [if_neg c1]
    by_cases c2 : p = k + 1
    · rw [if_pos c2, e]
      congr 1
      rcases ro_cases (k + 1) m (m + 1) k with ⟨c1, c2, c3⟩ | ⟨c1, c2, c3⟩ | ⟨c1, c3⟩ <;> rcases ro_cases k m (m + 1) p with ⟨d1, d2, d3⟩ | ⟨d1, d2, d3⟩ | ⟨d1, d3⟩ <;> omega
    · rw [if_neg c2, e]
      congr 1
      rcases ro_cases (k + 1) m (m + 1) p with ⟨c1, c2, c3⟩ | ⟨c1, c2, c3⟩ | ⟨c1, c3⟩ <;> rcases ro_cases k m (m + 1) p with ⟨d1, d2, d3⟩ | ⟨d1, d2, d3⟩ | ⟨d1, d3⟩ <;> omega
/-- both halves merged: the whole -/
theorem sym_done {a d b : Nat} {s t : Nat → Nat} (hs : Pm a d s) (ht : Pm d b t) (hx : Cr L f a d b) (h1 : So L (fun p => f (s p)) a d) (h2 : So L (fun p => f (s (t p))) d b) : So L (fun p => f (s (t p))) a b :=
  so_join (f := fun p => f (s (t p))) (h1.apart ht (Or.inl (Nat.le_refl _))) h2 ((hx.first hs).second ht)
end
end Go.Proofs.YtimjggkdpmgpjaaGreatDoor
