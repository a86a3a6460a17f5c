/- Inodes as they change: an inode kept, in a leaf of the table that was not kept yet. -/
import Derived.Test.YtcmihdjbeihjbaaGreatHIoKit
import Derived.Handy
import Derived.BigQuiet
import Derived.Deep.QuietTactic
import Derived.Test.YtcmihdjbeihjbaaGreatHLogKit
import Derived.Deep.MidRow

namespace Go.Proofs.YtcmihdjbeihjbaaGreat
open Go Go.RowKit
set_option linter.unusedSimpArgs false
set_option linter.unusedVariables false
/-- the least height of a tree whose leaves hold a things each, for n things -/
def hL (a n : Int) : Int := if n ≤ a then 0 else if n ≤ 4 * a then 1 else if n ≤ 16 * a then 2 else if n ≤ 64 * a then 3 else if n ≤ 256 * a then 4 else if n ≤ 1024 * a then 5 else 6
theorem hL_lt (a n : Int) : 0 ≤ hL a n ∧ hL a n ≤ 6 := by
  unfold hL
  split
  · decide
  · split
    · decide
    · split
      · decide
      · split
        · decide
        · split
          · decide
          · split <;> decide
set_option maxHeartbeats 4000000 in
theorem least4 (n : Int) (h0 : -9223372036854775808 ≤ n) (hn : n ≤ 16384) (w : World) : Calls Tryz.prog 46 #[.int .i64 4, .int .i64 n] w fun e w' => e = .returned (.int .i64 (hL 4 n)) ∧ w' = w := by
  by_cases c0 : n ≤ 4
  · have HE : Hid (hL 4 n = 0) := by show hL 4 n = 0; unfold hL; rw [if_pos (by omega)]
    have s0 : ¬ ((4 : Int) < n) := by omega
    clear hn c0
    rw [HE.out]
    clear HE
    go_enter Tryz.func46, Tryz.ntmps46
    go_wp2
    go_rounds 1
    go_returns
    exact ⟨by simp, rfl⟩
  · skip
    by_cases c1 : n ≤ 16
    · have HE : Hid (hL 4 n = 1) := by show hL 4 n = 1; unfold hL; rw [if_neg (by omega)]; rw [if_pos (by omega)]
      have s0 : ¬ ((16 : Int) < n) := by omega
      have g0 : (4 : Int) < n := by omega
      clear hn c0 c1
      rw [HE.out]
      clear HE
      go_enter Tryz.func46, Tryz.ntmps46
      go_wp2
      go_rounds 2
      go_returns
      exact ⟨by simp, rfl⟩
    · skip
      by_cases c2 : n ≤ 64
      · have HE : Hid (hL 4 n = 2) := by show hL 4 n = 2; unfold hL; rw [if_neg (by omega)]; rw [if_neg (by omega)]; rw [if_pos (by omega)]
        have s0 : ¬ ((64 : Int) < n) := by omega
        have g0 : (4 : Int) < n := by omega
        have g1 : (16 : Int) < n := by omega
        clear hn c0 c1 c2
        rw [HE.out]
        clear HE
        go_enter Tryz.func46, Tryz.ntmps46
        go_wp2
        go_rounds 3
        go_returns
        exact ⟨by simp, rfl⟩
      · skip
        by_cases c3 : n ≤ 256
        · have HE : Hid (hL 4 n = 3) := by show hL 4 n = 3; unfold hL; rw [if_neg (by omega)]; rw [if_neg (by omega)]; rw [if_neg (by omega)]; rw [if_pos (by omega)]
          have s0 : ¬ ((256 : Int) < n) := by omega
          have g0 : (4 : Int) < n := by omega
          have g1 : (16 : Int) < n := by omega
          have g2 : (64 : Int) < n := by omega
          clear hn c0 c1 c2 c3
          rw [HE.out]
          clear HE
          go_enter Tryz.func46, Tryz.ntmps46
          go_wp2
          go_rounds 4
          go_returns
          exact ⟨by simp, rfl⟩
        · skip
          by_cases c4 : n ≤ 1024
          · have HE : Hid (hL 4 n = 4) := by show hL 4 n = 4; unfold hL; rw [if_neg (by omega)]; rw [if_neg (by omega)]; rw [if_neg (by omega)]; rw [if_neg (by omega)]; rw [if_pos (by omega)]
            have s0 : ¬ ((1024 : Int) < n) := by omega
            have g0 : (4 : Int) < n := by omega
            have g1 : (16 : Int) < n := by omega
            have g2 : (64 : Int) < n := by omega
            have g3 : (256 : Int) < n := by omega
            clear hn c0 c1 c2 c3 c4
            rw [HE.out]
            clear HE
            go_enter Tryz.func46, Tryz.ntmps46
            go_wp2
            go_rounds 5
            go_returns
            exact ⟨by simp, rfl⟩
          · skip
            by_cases c5 : n ≤ 4096
            · have HE : Hid (hL 4 n = 5) := by show hL 4 n = 5; unfold hL; rw [if_neg (by omega)]; rw [if_neg (by omega)]; rw [if_neg (by omega)]; rw [if_neg (by omega)]; rw [if_neg (by omega)]; rw [if_pos (by omega)]
              have s0 : ¬ ((4096 : Int) < n) := by omega
              have g0 : (4 : Int) < n := by omega
              have g1 : (16 : Int) < n := by omega
              have g2 : (64 : Int) < n := by omega
              have g3 : (256 : Int) < n := by omega
              have g4 : (1024 : Int) < n := by omega
              clear hn c0 c1 c2 c3 c4 c5
              rw [HE.out]
              clear HE
              go_enter Tryz.func46, Tryz.ntmps46
              go_wp2
              go_rounds 6
              go_returns
              exact ⟨by simp, rfl⟩
            · skip
              have HE : Hid (hL 4 n = 6) := by show hL 4 n = 6; unfold hL; rw [if_neg (by omega)]; rw [if_neg (by omega)]; rw [if_neg (by omega)]; rw [if_neg (by omega)]; rw [if_neg (by omega)]; rw [if_neg (by omega)]
              have s0 : ¬ ((16384 : Int) < n) := by omega
              have g0 : (4 : Int) < n := by omega
              have g1 : (16 : Int) < n := by omega
              have g2 : (64 : Int) < n := by omega
              have g3 : (256 : Int) < n := by omega
              have g4 : (1024 : Int) < n := by omega
              have g5 : (4096 : Int) < n := by omega
              clear hn c0 c1 c2 c3 c4 c5
              rw [HE.out]
              clear HE
              go_enter Tryz.func46, Tryz.ntmps46
              go_wp2
              go_rounds 7
              go_returns
              exact ⟨by simp, rfl⟩
end Go.Proofs.YtcmihdjbeihjbaaGreat

namespace Go.Proofs.YtcmihdjbeihjbaaGreat
open Go Go.RowKit
set_option linter.unusedSimpArgs false
set_option linter.unusedVariables false
set_option maxRecDepth 20000
def lnk (x : Ino) : Bool := if x.k = 1 then decide (1 ≤ x.l) && decide (x.l ≤ 1000) else if x.k = 2 then decide (x.l = 1) else false
def siz (x : Ino) : Bool := if x.k = 2 ∧ ¬ x.s.tmod 64 = 0 then false else decide (0 ≤ x.s) && decide (x.s ≤ 1048576)
def tre (x : Ino) : Bool := if x.h ≠ hL 256 x.s ∨ 8192 ≤ x.r.1 then false else decide (x.r = rf0) || (decide (x.r.1 ≠ 0) && decide (x.s ≠ 0))
def chk (x : Ino) : Bool := decide (x = in0) || (lnk x && (siz x && tre x))
end Go.Proofs.YtcmihdjbeihjbaaGreat

namespace Go.Proofs.YtcmihdjbeihjbaaGreat
open Go Go.RowKit
set_option linter.unusedSimpArgs false
set_option linter.unusedVariables false
set_option maxRecDepth 20000
theorem tdiv_nn (a b : Int) (h : 0 ≤ a) : a.tdiv b = a / b := Int.tdiv_eq_ediv_of_nonneg h
theorem tmod_nn (a b : Int) (h : 0 ≤ a) : a.tmod b = a % b := Int.tmod_eq_emod_of_nonneg h
set_option maxHeartbeats 4000000 in
theorem table_any (n : Int) (hn : -9223372036854775808 ≤ n ∧ n ≤ 9223372036854775807) (w : World) : Calls Tryz.prog 30 #[.int .i64 n] w fun e w' => e = .returned (if 0 ≤ n ∧ n ≤ 4096 then .tuple #[.int .i64 (hL 4 n), .int .i64 0] else .tuple #[.int .i64 0, .int .i64 141]) ∧ w' = w := by
  by_cases h1 : 0 ≤ n
  · by_cases h2 : n ≤ 4096
    · rw [if_pos ⟨h1, h2⟩]
      have HL : Hid (∀ w : World, Calls Tryz.prog 46 #[.int .i64 4, .int .i64 n] w fun e w' => e = .returned (.int .i64 (hL 4 n)) ∧ w' = w) := least4 n hn.1 (by omega)
      generalize hL 4 n = H at *
      have h3 : ¬ n < 0 := by omega
      have h4 : ¬ 4096 < n := by omega
      go_enter Tryz.func30, Tryz.ntmps30
      go_wp2_with fail
      refine (HL.out _).mono ?_
      intro e w2 hw2
      obtain ⟨he2, hb2⟩ := hw2
      subst he2 hb2
      go_wp2_with fail
      go_ret2
      exact ⟨rfl, rfl⟩
    · rw [if_neg fun h => h2 h.2]
      have h3 : ¬ n < 0 := by omega
      have h4 : 4096 < n := by omega
      clear h1 h2
      go_enter Tryz.func30, Tryz.ntmps30
      go_wp2_with fail
      go_ret2
      exact ⟨rfl, rfl⟩
  · rw [if_neg fun h => h1 h.1]
    have h3 : n < 0 := by omega
    clear h1
    go_enter Tryz.func30, Tryz.ntmps30
    go_wp2_with fail
    go_ret2
    exact ⟨rfl, rfl⟩
set_option maxHeartbeats 4000000 in
theorem leavesN_any (n : Int) (hn : -9223372036854775808 ≤ n ∧ n ≤ 9223372036854775807) (w : World) : Calls Tryz.prog 70 #[.int .i64 n] w fun e w' => e = .returned (if 0 ≤ n ∧ n ≤ 1048576 then .tuple #[.int .i64 ((n + 255) / 256), .int .i64 0] else .tuple #[.int .i64 0, .int .i64 1]) ∧ w' = w := by
  by_cases h1 : 0 ≤ n
  · by_cases h2 : n ≤ 1048576
    · rw [if_pos ⟨h1, h2⟩]
      have HE : Hid ((n + 256 - 1) / 256 = (n + 255) / 256) := by show (n + 256 - 1) / 256 = (n + 255) / 256; congr 1; omega
      have h3 : ¬ n < 0 := by omega
      have h4 : ¬ 1048576 < n := by omega
      go_enter Tryz.func70, Tryz.ntmps70
      go_wp2_with fail
      go_ret2
      exact ⟨by rw [← HE.out]; rfl, rfl⟩
    · rw [if_neg fun h => h2 h.2]
      have h3 : ¬ n < 0 := by omega
      have h4 : 1048576 < n := by omega
      clear h1 h2
      go_enter Tryz.func70, Tryz.ntmps70
      go_wp2_with fail
      go_ret2
      exact ⟨rfl, rfl⟩
  · rw [if_neg fun h => h1 h.1]
    have h3 : n < 0 := by omega
    clear h1
    go_enter Tryz.func70, Tryz.ntmps70
    go_wp2_with fail
    go_ret2
    exact ⟨rfl, rfl⟩
set_option maxHeartbeats 4000000 in
theorem place_any (n : Int) (hn : -9223372036854775808 ≤ n ∧ n ≤ 9223372036854775807) (w : World) : Calls Tryz.prog 39 #[.int .i64 n] w fun e w' => e = .returned (if 1 ≤ n ∧ n ≤ 4096 then .tuple #[.int .i64 ((n - 1) / 4), .int .i64 ((n - 1) % 4), .int .i64 0] else .tuple #[.int .i64 0, .int .i64 0, .int .i64 141]) ∧ w' = w := by
  by_cases h1 : 1 ≤ n
  · by_cases h2 : n ≤ 4096
    · rw [if_pos ⟨h1, h2⟩]
      have HE : Hid ((n - 1).tdiv 4 = (n - 1) / 4 ∧ (n - 1).tmod 4 = (n - 1) % 4) := ⟨tdiv_nn _ _ (by omega), tmod_nn _ _ (by omega)⟩
      have h3 : ¬ n < 1 := by omega
      have h4 : ¬ 4096 < n := by omega
      go_enter Tryz.func39, Tryz.ntmps39
      go_wp2_with fail
      go_ret3
      exact ⟨by first | rfl | (rw [← HE.out.1, ← HE.out.2]; rfl), rfl⟩
    · rw [if_neg fun h => h2 h.2]
      have h3 : ¬ n < 1 := by omega
      have h4 : 4096 < n := by omega
      clear h1 h2
      go_enter Tryz.func39, Tryz.ntmps39
      go_wp2_with fail
      go_ret3
      exact ⟨rfl, rfl⟩
  · rw [if_neg fun h => h1 h.1]
    have h3 : n < 1 := by omega
    clear h1
    go_enter Tryz.func39, Tryz.ntmps39
    go_wp2_with fail
    go_ret3
    exact ⟨rfl, rfl⟩
end Go.Proofs.YtcmihdjbeihjbaaGreat

namespace Go.Proofs.YtcmihdjbeihjbaaGreat
open Go Go.RowKit

/-- the plan of a region's walk -/
inductive Plan where
  | fin (takes : List Nat)
  | force (ts : List Nat) (i : Nat) (next : Plan)
  | yield (ts : List Nat) (i : Nat) (next : Plan)
  | fork (i j : Nat) (p q : Plan)
def Plan.len : Plan → Nat
  | .fin takes => takes.length
  | .force ts _ p => ts.length + (1 + p.len)
  | .yield ts _ p => ts.length + (1 + p.len)
  | .fork _ _ p _ => p.len + 1
/-- the check -/
def Plan.ok (ops : Array Oper) : Plan → Array Bool → Bool
  | .fin takes, listed => match takesB .any ops [] [] takes listed with
    | some l => (Region.ready .any ops l).isEmpty
    | none => false
  | .force ts i p, listed => match takesB .any ops [] [] ts listed with
    | some l => forceW .any ops l i && p.ok ops (l.setIfInBounds i true)
    | none => false
  | .yield ts i p, listed => match takesB .any ops [] [] ts listed with
    | some l => yieldW .any ops l [] i && p.ok ops (l.setIfInBounds i true)
    | none => false
  | .fork i j p q, listed => Region.ready .any ops listed == [i, j] && (ops[i]?).isSome && (ops[j]?).isSome && p.len == q.len && p.ok ops (listed.setIfInBounds i true) && q.ok ops (listed.setIfInBounds j true)
def Plan.whole (ops : Array Oper) (p : Plan) : Bool := p.len == ops.size && Region.noSelect ops && p.ok ops (Array.replicate ops.size false)
section
variable {P : Program} {ops : Array Oper} {Q : Exit → Act → World → Prop} {S : World → Prop}
/-- the walk -/
def wpPlan (P : Program) (ops : Array Oper) (Q : Exit → Act → World → Prop) (S : World → Prop) : Plan → Act → World → Prop
  | .fin takes, a, w => wpList P ops (Strict Q) (takes.filterMap fun i => ops[i]?) a w
  | .force ts i p, a, w => wpList P ops (Strict fun _ a' w' => S w' ∧ wpPlan P ops Q S p a' w') ((ts ++ [i]).filterMap fun i => ops[i]?) a w
  | .yield ts i p, a, w => wpList P ops (Strict fun _ a' w' => ∃ o v, ops[i]? = some o ∧ YieldsIf P ops S o v a' ∧ wpPlan P ops Q S p (a'.put o.dst v) w') ((ts ++ []).filterMap fun i => ops[i]?) a w
  | .fork i j p q, a, w => wpList P ops (Strict fun _ a' w' => S w' ∧ wpPlan P ops Q S p a' w') ([i].filterMap fun i => ops[i]?) a w ∧ wpList P ops (Strict fun _ a' w' => S w' ∧ wpPlan P ops Q S q a' w') ([j].filterMap fun i => ops[i]?) a w
theorem plan_step (hs : Region.noSelect ops = true) : ∀ (p : Plan) (listed : Array Bool) (a : Act) (w : World), p.ok ops listed = true → S w →
      wpPlan P ops Q S p a w → wpAnyW P .any ops (Strict Q) S (([] : List Nat).contains ·) p.len listed a w
  | .fin takes, listed, a, w, hb, hS, h => by
    unfold Plan.ok at hb
    split at hb
    · rename_i l2 hl2
      have h2 : wpList P ops (Strict Q) ((takes ++ []).filterMap fun i => ops[i]?) a w := by
        rw [List.append_nil]
        exact h
      exact takesS_step hs [] 0 Q takes listed l2 a w hl2 (fun a' w' _ h' => ⟨by simpa using hb, h'⟩) hS h2
    · cases hb
  | .force ts i p, listed, a, w, hb, hS, h => by
    unfold Plan.ok at hb
    split at hb
    · rename_i l2 hl2
      simp only [Bool.and_eq_true] at hb
      refine takesS_step hs [i] _ _ ts listed l2 a w hl2 (fun a' w' _ h' => ?_) hS h
      obtain ⟨o, ho⟩ := has_op' hb.1
      rw [Nat.add_comm 1]
      refine forceS_step hb.1 (wpOp_mono (fun a2 w2 h2 => ?_) (wpOp_strict (wpList_one ho h')))
      have h3 := h2.2
      exact ⟨fun _ => h3.1, plan_step hs p _ a2 w2 hb.2 h3.1 h3.2⟩
    · cases hb
  | .yield ts i p, listed, a, w, hb, hS, h => by
    unfold Plan.ok at hb
    split at hb
    · rename_i l2 hl2
      simp only [Bool.and_eq_true] at hb
      refine takesS_step hs [] _ _ ts listed l2 a w hl2 (fun a' w' hS' h' => ?_) hS h
      obtain ⟨-, o, v, ho, hy, hn⟩ := h'
      have hc := hb.1
      unfold yieldW at hc
      rw [ho] at hc
      simp only [Bool.and_eq_true, Bool.not_eq_true'] at hc
      rw [Nat.add_comm 1]
      exact takeS_gen hs ho hc.1.1.1 hc.1.1.2 hc.1.2 hc.2 hy hS' (plan_step hs p _ _ w' hb.2 hS' hn)
    · cases hb
  | .fork i j p q, listed, a, w, hb, hS, h => by
    simp only [Plan.ok, Bool.and_eq_true, beq_iff_eq] at hb
    obtain ⟨⟨⟨⟨⟨hr, hi⟩, hj⟩, hl⟩, hp⟩, hq⟩ := hb
    refine ⟨fun h0 => (by rw [h0] at hr; cases hr), fun x hx => ?_⟩
    rw [hr] at hx
    have hx2 : x = i ∨ x = j := by simpa using hx
    rcases hx2 with rfl | rfl
    · obtain ⟨o, ho⟩ := Option.isSome_iff_exists.1 hi
      refine wpOp_mono (fun a' w' h' => ?_) (wpOp_strict (wpList_one ho h.1))
      exact ⟨fun _ => h'.2.1, plan_step hs p _ a' w' hp h'.2.1 h'.2.2⟩
    · obtain ⟨o, ho⟩ := Option.isSome_iff_exists.1 hj
      refine wpOp_mono (fun a' w' h' => ?_) (wpOp_strict (wpList_one ho h.2))
      have := plan_step hs q _ a' w' hq h'.2.1 h'.2.2
      rw [← hl] at this
      exact ⟨fun _ => h'.2.1, this⟩
/-- THE LAW. -/
theorem wp_region_plan {id : Nat} {a : Act} {w : World} (S : World → Prop) (p : Plan) (hm : P.follows .mixedOrders = true) (hB : p.whole ops = true)
    (hS : S w.drew) (h : wpPlan P ops Q S p a w.drew) : (Code.region id ops true).wp P Q a w := by
  unfold Plan.whole at hB
  simp only [Bool.and_eq_true, beq_iff_eq] at hB
  refine Code.wp_mono Strict.imp (wp_region_any hm ?_)
  rw [← hB.1.1]
  exact wpAny_of_W _ _ _ _ (plan_step hB.1.2 p _ a _ (by rw [hB.1.1]; exact hB.2) hS h)
theorem plan_force {ts : List Nat} {i : Nat} {p : Plan} {a : Act} {w : World}
    (h : wpList P ops (Strict fun _ a' w' => S w' ∧ wpPlan P ops Q S p a' w') ((ts ++ [i]).filterMap fun i => ops[i]?) a w) : wpPlan P ops Q S (.force ts i p) a w := h
theorem plan_yield {ts : List Nat} {i : Nat} {p : Plan} {a : Act} {w : World}
    (h : wpList P ops (Strict fun _ a' w' => ∃ o v, ops[i]? = some o ∧ YieldsIf P ops S o v a' ∧ wpPlan P ops Q S p (a'.put o.dst v) w') ((ts ++ []).filterMap fun i => ops[i]?) a w) : wpPlan P ops Q S (.yield ts i p) a w := h
theorem plan_fork {i j : Nat} {p q : Plan} {a : Act} {w : World} (h1 : wpList P ops (Strict fun _ a' w' => S w' ∧ wpPlan P ops Q S p a' w') ([i].filterMap fun i => ops[i]?) a w)
    (h2 : wpList P ops (Strict fun _ a' w' => S w' ∧ wpPlan P ops Q S q a' w') ([j].filterMap fun i => ops[i]?) a w) : wpPlan P ops Q S (.fork i j p q) a w := ⟨h1, h2⟩
theorem plan_fin {takes : List Nat} {a : Act} {w : World} (h : wpList P ops (Strict Q) (takes.filterMap fun i => ops[i]?) a w) : wpPlan P ops Q S (.fin takes) a w := h
end
end Go.Proofs.YtcmihdjbeihjbaaGreat

namespace Go.Proofs.YtcmihdjbeihjbaaGreat
open Go Go.RowKit
set_option linter.unusedSimpArgs false
set_option linter.unusedVariables false

theorem wpList_load_blkI {P : Program} {ops : Array Oper} {rest : List Oper} {op : Oper} {a : Act} {w : World} {Q : Exit → Act → World → Prop} (hw : Region.wanted op (yielded ops a.tmps) = true) (ty : TypeId) (x : Operand) (ho : op.op = .load ty x)
    (b o n : Nat) (f : Nat → Value) (hx : a.eval x = .pointer (some ⟨b, o, none⟩)) (d : TypeDesc) (hc : w.rangeAt b o ((List.range n).map f))
    (hu : P.underlying ty = some d) (hd : d.isRow = true) (hi : (P.info? ty).map (·.size) = some n)
    (h : wpList P ops Q rest (a.put op.dst (.agg (va n f))) w) : wpList P ops Q (op :: rest) a w :=
  wpList_step fun K hK => by
    rw [if_pos hw]
    exact wp_load_mid ty x ho b o hx _ d hc hu hd (hi.trans (by simp)) (hK _ _ h)
/-- an inode as it is committed, and as it is now -/
structure Hd where
  o : Ino
  n : Int
  k : Int
  l : Int
  s : Int
  t : Nat
  left : Int
  set : Bool
def hd00 : Hd := ⟨in0, 0, 0, 0, 0, 0, 0, false⟩
def nwF (x : Hd) : Nat → Value := fun i => if i = 0 then .int .i64 x.n else if i = 1 then .int .i64 x.k else if i = 2 then .int .i64 x.l else if i = 3 then .int .i64 x.s else .int .u64 ((x.t : Nat) : Int)
def hdF (x : Hd) : Nat → Value := fun i => if i < 38 then inF x.o i else if i < 43 then nwF x (i - 38) else if i = 43 then .int .i64 x.left else .bool x.set
def hdC (x : Hd) : Array Value := va 45 (hdF x)
theorem hdC_size (x : Hd) : (hdC x).size = 45 := va_size _ _
theorem hdF_one (x : Hd) (i : Nat) : (hdF x i).oneCell' = true := by
  unfold hdF
  split
  · exact inF_one _ _
  · split
    · unfold nwF
      split
      · rfl
      · split
        · rfl
        · split
          · rfl
          · split <;> rfl
    · split <;> rfl
theorem hdC_all (x : Hd) : (hdC x).all (·.oneCell') = true := va_one fun i _ => hdF_one _ _
/-- four of them -/
def ftF (q : Nat → Hd) : Nat → Value := fun i => hdF (q (i / 45)) (i % 45)
def ftC (q : Nat → Hd) : Array Value := va 180 (ftF q)
theorem ftC_size (q : Nat → Hd) : (ftC q).size = 180 := va_size _ _
theorem ftC_all (q : Nat → Hd) : (ftC q).all (·.oneCell') = true := va_one fun i _ => hdF_one _ _
def ft00 : Nat → Hd := fun _ => hd00
theorem sizeHd : (Tryz.prog.info? 64).map (·.size) = some 45 := by kernel_rfl
theorem sizeFt : (Tryz.prog.info? 119).map (·.size) = some 180 := by kernel_rfl
theorem zero_hd (w : World) : (zeroValue 64).run Tryz.prog w = .ok (.agg (hdC hd00)) w := zero_of (by kernel_rfl) w
theorem zero_ft (w : World) : (zeroValue 119).run Tryz.prog w = .ok (.agg (ftC ft00)) w := zero_of (by kernel_rfl) w
/-- Inodes in the memory -/
def ixF (cp : Option Addr) (h : Int) (R : Rf) (high top : Int) (mf ml mc : Nat) : Nat → Value := fun i => if i = 0 then .pointer cp else if i < 35 then tiF h R (i - 1) else if i = 35 then .int .i64 high else if i = 36 then .int .i64 top else if i = 37 then .map (some mf) else if i = 38 then .map (some ml) else .map (some mc)
def ixC (cp : Option Addr) (h : Int) (R : Rf) (high top : Int) (mf ml mc : Nat) : Array Value := va 40 (ixF cp h R high top mf ml mc)
theorem built_ix (cp : Option Addr) (h : Int) (R : Rf) (a b : Int) (mf ml mc : Nat) : Tryz.prog.built 72 [(0, .pointer cp), (1, .agg (tiC h R)), (2, .int .i64 a), (3, .int .i64 b), (4, .map (some mf)), (5, .map (some ml)), (6, .map (some mc))] = some (ixC cp h R a b mf ml mc) := by kernel_rfl
section
variable {w : World} {x : Nat} {cp : Option Addr} {h : Int} {R : Rf} {high top : Int} {mf ml mc : Nat}
theorem ix_c35 (H : Blk w x 72 (ixC cp h R high top mf ml mc)) : w.cell? ⟨x, 35, none⟩ = some (.int .i64 high) := H.cv (n := 40) (by decide)
theorem ix_c36 (H : Blk w x 72 (ixC cp h R high top mf ml mc)) : w.cell? ⟨x, 36, none⟩ = some (.int .i64 top) := H.cv (n := 40) (by decide)
theorem ix_c37 (H : Blk w x 72 (ixC cp h R high top mf ml mc)) : w.cell? ⟨x, 37, none⟩ = some (.map (some mf)) := H.cv (n := 40) (by decide)
theorem ix_c38 (H : Blk w x 72 (ixC cp h R high top mf ml mc)) : w.cell? ⟨x, 38, none⟩ = some (.map (some ml)) := H.cv (n := 40) (by decide)
theorem ix_c39 (H : Blk w x 72 (ixC cp h R high top mf ml mc)) : w.cell? ⟨x, 39, none⟩ = some (.map (some mc)) := H.cv (n := 40) (by decide)
theorem ix_top (top' : Int) : (ixC cp h R high top mf ml mc).setIfInBounds 36 (.int .i64 top') = ixC cp h R high top' mf ml mc := by
  unfold ixC
  rw [va_set]
  refine va_congr fun i hi => ?_
  unfold upd ixF
  by_cases e : i = 36
  · subst e
    rfl
  · rw [if_neg e]
    by_cases e0 : i = 0
    · rw [if_pos e0, if_pos e0]
    · rw [if_neg e0, if_neg e0]
      by_cases e1 : i < 35
      · rw [if_pos e1, if_pos e1]
      · rw [if_neg e1, if_neg e1]
        by_cases e2 : i = 35
        · rw [if_pos e2, if_pos e2]
        · rw [if_neg e2, if_neg e2, if_neg e, if_neg e]
end
theorem mapLt {α β : Type} {K : α → Value} {V : β → Value} {w : World} {r : Nat} {l : List (α × β)} (h : MapIs K V w r l) : r < w.heap.size := by
  obtain ⟨es, clock, hg, _⟩ := h
  exact (Array.getElem?_eq_some_iff.1 hg).1
/-- positions as keys -/
def pkV (p : Int × Int × Int) : Value := .agg #[.int .i64 p.1, .int .i64 p.2.1, .int .i64 p.2.2]
def ftV (q : Nat → Hd) : Value := .agg (ftC q)
theorem eq_pk (d : Nat) (a b : Int × Int × Int) (w : World) : (Op.equalIn (d + 1 + 1) 126 (pkV a) (pkV b)).run Tryz.prog w = .ok (decide (a = b)) w := by
  unfold pkV
  have h1 : ∀ x y : Int, (Op.equalIn (d + 1) 3 (.int .i64 x) (.int .i64 y)).run Tryz.prog w = .ok (x == y) w := fun x y => by simp [Op.equalIn, run_underlying Tryz.underlying3]
  have p1 : ∀ x y z : Int, (part 3 #[.int .i64 x, .int .i64 y, .int .i64 z] 0).run Tryz.prog w = .ok (.int .i64 x) w := fun x y z => by simp [part, isAgg, run_underlying Tryz.underlying3]
  have p2 : ∀ x y z : Int, (part 3 #[.int .i64 x, .int .i64 y, .int .i64 z] 1).run Tryz.prog w = .ok (.int .i64 y) w := fun x y z => by simp [part, isAgg, run_underlying Tryz.underlying3]
  have p3 : ∀ x y z : Int, (part 3 #[.int .i64 x, .int .i64 y, .int .i64 z] 2).run Tryz.prog w = .ok (.int .i64 z) w := fun x y z => by simp [part, isAgg, run_underlying Tryz.underlying3]
  rw [Op.equalIn]
  simp only [Sem.run_bind, run_underlying Tryz.underlying126, Result.andThen_ok]
  simp [Op.eqFields, p1, p2, p3, h1]
  obtain ⟨a1, a2, a3⟩ := a
  obtain ⟨b1, b2, b3⟩ := b
  by_cases ha : a1 = b1
  · subst ha
    by_cases hb : a2 = b2
    · subst hb
      by_cases hc : a3 = b3
      · subst hc
        simp
      · simp [hc]
    · simp [hb]
  · simp [ha]
theorem chk_pk (d : Nat) (e : Bool) (a : Int × Int × Int) (w : World) : (Instr.checkKey e (d + 1 + 1) 126 (pkV a)).run Tryz.prog w = .ok () w := by
  unfold pkV
  have h1 : ∀ x : Int, (Instr.checkKey e (d + 1) 3 (.int .i64 x)).run Tryz.prog w = .ok () w := fun x => by simp [Instr.checkKey, run_underlying Tryz.underlying3]
  have p1 : ∀ x y z : Int, (part 3 #[.int .i64 x, .int .i64 y, .int .i64 z] 0).run Tryz.prog w = .ok (.int .i64 x) w := fun x y z => by simp [part, isAgg, run_underlying Tryz.underlying3]
  have p2 : ∀ x y z : Int, (part 3 #[.int .i64 x, .int .i64 y, .int .i64 z] 1).run Tryz.prog w = .ok (.int .i64 y) w := fun x y z => by simp [part, isAgg, run_underlying Tryz.underlying3]
  have p3 : ∀ x y z : Int, (part 3 #[.int .i64 x, .int .i64 y, .int .i64 z] 2).run Tryz.prog w = .ok (.int .i64 z) w := fun x y z => by simp [part, isAgg, run_underlying Tryz.underlying3]
  rw [Instr.checkKey]
  simp only [Sem.run_bind, run_underlying Tryz.underlying126, Result.andThen_ok]
  simp [p1, p2, p3, h1]
theorem pk_key : KeyOf Tryz.prog 126 pkV where
  desc := ⟨_, Tryz.underlying126, (fun k h => by cases h), (fun h => by cases h), (fun h => by cases h)⟩
  eq a b w := eq_pk 9998 a b w
  chk e a w := chk_pk 9998 e a w
end Go.Proofs.YtcmihdjbeihjbaaGreat

namespace Go.Proofs.YtcmihdjbeihjbaaGreat
open Go Go.RowKit
set_option linter.unusedSimpArgs false
set_option linter.unusedVariables false
theorem leafAt_any (n p : Int) (w : World) : Calls Tryz.prog 40 #[.int .i64 n, .int .i64 p] w fun e w' => e = .returned (pkV (n, 0, p)) ∧ Below w.heap.size w w' := by
  unfold pkV
  have hb : Below w.heap.size w (w.alloc (.cells #[.int .i64 n, .int .i64 0, .int .i64 p] 126)) := below_new1 w _
  go_enter Tryz.func40, Tryz.ntmps40
  have hk : Blk (w.alloc (.cells #[.int .i64 n, .int .i64 0, .int .i64 p] 126)) w.heap.size 126 #[.int .i64 n, .int .i64 0, .int .i64 p] := Blk.new _ _ _
  go_wp2_with fail
  try simp only [Exit.inBlock, Exit.then]
  refine bodyPost_ret (results_cell_row Tryz.results40 _ _ (w.heap.size) 126 _ (0, 0) _ rfl hk Tryz.underlying126 rfl (by kernel_rfl)) rfl ?_
  exact ⟨rfl, hb⟩
theorem leavesTo_any (n : Int) (h0 : 0 ≤ n) (h1 : n ≤ 4096) (w : World) : Calls Tryz.prog 35 #[.int .i64 n] w fun e w' => e = .returned (.int .i64 ((n + 3) / 4)) ∧ w' = w := by
  have e1 : (n + 4 - 1).tdiv 4 = (n + 3) / 4 := by
    rw [show n + 4 - 1 = n + 3 by omega]
    exact Int.tdiv_eq_ediv_of_nonneg (by omega)
  have e2 : (n + 3).tdiv 4 = (n + 3) / 4 := Int.tdiv_eq_ediv_of_nonneg (by omega)
  go_enter Tryz.func35, Tryz.ntmps35
  go_wp2_with fail
  go_ret
  exact ⟨rfl, rfl⟩
theorem numberAt_any (l p : Int) (h0 : 0 ≤ l) (h1 : l ≤ 4096) (h2 : 0 ≤ p) (h3 : p ≤ 4) (w : World) : Calls Tryz.prog 38 #[.int .i64 l, .int .i64 p] w fun e w' => e = .returned (.int .i64 (l * 4 + p + 1)) ∧ w' = w := by
  go_enter Tryz.func38, Tryz.ntmps38
  go_wp2_with fail
  go_ret
  exact ⟨rfl, rfl⟩
theorem hd_c39 {w : World} {b t : Nat} {x : Hd} (H : Blk w b t (hdC x)) : w.cell? ⟨b, 39, none⟩ = some (.int .i64 x.k) := H.cv (n := 45) (by decide)
theorem inUse_any (x : Hd) (w : World) : Calls Tryz.prog 37 #[.agg (hdC x)] w fun e w' => e = .returned (.bool (x.k != 0)) ∧ Below w.heap.size w w' := by
  have hb : Below w.heap.size w (w.alloc (.cells (hdC x) 64)) := below_new1 w _
  have c := hd_c39 (Blk.new w 64 (hdC x))
  go_enter Tryz.func37, Tryz.ntmps37
  go_wp2_with fail
  go_ret
  exact ⟨rfl, hb⟩
theorem wrong_ok (x : Nat) (n : Int) (h1 : 1 ≤ n) (h2 : n ≤ 4096) (w : World) : Calls Tryz.prog 60 #[.pointer (some ⟨x, 0, none⟩), .int .i64 n] w fun e w' => e = .returned (.int .i64 0) ∧ w' = w := by
  have HP := place_any n ⟨by omega, by omega⟩ w
  rw [if_pos ⟨h1, h2⟩] at HP
  go_enter Tryz.func60, Tryz.ntmps60
  go_wp2_with fail
  refine HP.mono ?_
  rintro e w1 ⟨rfl, rfl⟩
  go_wp2_with fail
  go_ret
  exact ⟨rfl, rfl⟩
end Go.Proofs.YtcmihdjbeihjbaaGreat

namespace Go.Proofs.YtcmihdjbeihjbaaGreat
open Go Go.RowKit
set_option linter.unusedSimpArgs false
set_option linter.unusedVariables false
section
variable {x : Nat} {cp : Option Addr} {h : Int} {R : Rf} {high top : Int} {mf ml mc : Nat} {L : List ((Int × Int × Int) × (Nat → Hd))}
theorem look_four {w : World} (H : MapIs pkV ftV w mf L) (k : Int × Int × Int) (q : Nat → Hd) (b : Bool) (h1 : ((findIn k L).map ftV).getD (ftV ft00) = ftV q) (h2 : (findIn k L).isSome = b) : (Instr.lookup 68 (.map (some mf)) (pkV k) true).run Tryz.prog w = .ok (.tuple #[.agg (ftC q), .bool b]) w := by
  have := run_lookup_is Tryz.underlying68 pk_key (z := ftV ft00) (fun w => zero_ft w) H k true
  rw [h1, h2] at this
  exact this
set_option maxRecDepth 100000 in
set_option maxHeartbeats 4000000 in
theorem four_hit (leaf : Int) (q : Nat → Hd) (w : World) (hx : Blk w x 72 (ixC cp h R high top mf ml mc)) (hm : MapIs pkV ftV w mf L) (hl1 : ((findIn (0, 0, leaf) L).map ftV).getD (ftV ft00) = ftV q) (hl2 : (findIn (0, 0, leaf) L).isSome = true) : Calls Tryz.prog 36 #[.pointer (some ⟨x, 0, none⟩), .int .i64 leaf] w fun e w' => e = .returned (.tuple #[.agg (ftC q), .int .i64 0]) ∧ Below w.heap.size w w' := by
  have hz := zero_ft
  have HLK : Hid (∀ W, MapIs pkV ftV W mf L → (Instr.lookup 68 (.map (some mf)) (.agg #[.int .i64 0, .int .i64 0, .int .i64 leaf]) true).run Tryz.prog W = .ok (.tuple #[.agg (ftC q), .bool true]) W) := fun W hW => look_four hW _ q true hl1 hl2
  have hb1 : Below w.heap.size w (w.alloc (.cells (ftC ft00) 119)) := below_new1 _ _
  have r1 : Blk (w.alloc (.cells (ftC ft00) 119)) w.heap.size 119 (ftC ft00) := Blk.new _ _ _
  have HX1 : Hid (Blk (w.alloc (.cells (ftC ft00) 119)) x 72 (ixC cp h R high top mf ml mc)) := hx.below hb1 hx.lt
  have HM1 : Hid (MapIs pkV ftV (w.alloc (.cells (ftC ft00) 119)) mf L ∧ mf < w.heap.size) := ⟨hm.below hb1 (mapLt hm), (mapLt hm)⟩
  have HXL : Hid (x < w.heap.size) := hx.lt


  clear hx hm hl1 hl2
  go_enter Tryz.func36, Tryz.ntmps36
  go_wp2_with fail
  generalize (w.alloc (.cells (ftC ft00) 119)) = w1 at *
  refine (leafAt_any 0 leaf w1).mono ?_
  rintro e w2 ⟨rfl, hb2⟩
  unfold pkV
  have W2 : Below w2.heap.size w2 (w2.alloc (.cells #[.int .i64 0, .int .i64 0, .int .i64 leaf] 126)) := below_new1 _ _
  have p3 : Blk (w2.alloc (.cells #[.int .i64 0, .int .i64 0, .int .i64 leaf] 126)) w2.heap.size 126 #[.int .i64 0, .int .i64 0, .int .i64 leaf] := Blk.new _ _ _
  have hb23 : Below w1.heap.size w1 (w2.alloc (.cells #[.int .i64 0, .int .i64 0, .int .i64 leaf] 126)) := hb2.trans (W2.mono hb2.size)
  have x3 := HX1.out.below hb23 HX1.out.lt
  have m3 := HM1.out.1.below hb23 (mapLt HM1.out.1)
  have r3 := r1.below hb23 r1.lt
  have HB3 : Hid (Below w.heap.size w (w2.alloc (.cells #[.int .i64 0, .int .i64 0, .int .i64 leaf] 126)) ∧ w.heap.size < (w2.alloc (.cells #[.int .i64 0, .int .i64 0, .int .i64 leaf] 126)).heap.size) := ⟨hb1.trans (hb23.mono hb1.size), r3.lt⟩
  clear hb2 W2 hb23 hb1 HX1 HM1 r1
  go_wp2_with fail
  generalize (w2.alloc (.cells #[.int .i64 0, .int .i64 0, .int .i64 leaf] 126)) = w3 at *
  have hS0 : Blk w3.drew x 72 (ixC cp h R high top mf ml mc) ∧ Blk w3.drew w2.heap.size 126 #[.int .i64 0, .int .i64 0, .int .i64 leaf] ∧ MapIs pkV ftV w3.drew mf L := ⟨x3, p3, m3⟩
  have r3d : Blk w3.drew w.heap.size 119 (ftC ft00) := r3
  have HB3d : Hid (Below w.heap.size w w3.drew ∧ w.heap.size < w3.drew.heap.size) := ⟨HB3.out.1.drew, HB3.out.2⟩
  have X3d : Blk w3.drew x 72 (ixC cp h R high top mf ml mc) := x3
  clear x3 p3 m3 r3 HB3
  refine wp_region_partsS (fun W => Blk W x 72 (ixC cp h R high top mf ml mc) ∧ Blk W w2.heap.size 126 #[.int .i64 0, .int .i64 0, .int .i64 leaf] ∧ MapIs pkV ftV W mf L) [([0], 1, true), ([], 2, true), ([], 3, true), ([], 4, true), ([], 5, true), ([6, 7, 8], 9, false), ([], 10, false)] [11] [] (by kernel_rfl) (by kernel_rfl) hS0 (partsI_yield ?_)
  generalize w3.drew = w4 at *
  have q4 : Blk (w4.alloc (.cells (ftC ft00) 119)) w4.heap.size 119 (ftC ft00) := Blk.new _ _ _
  have q5 := q4.set (ftC q)
  have hb5 : Below w4.heap.size w4 ((w4.alloc (.cells (ftC ft00) 119)).setRow w4.heap.size (ftC q)) := below_setRow (below_new1 _ _) (Nat.le_refl _) _
  have r5 := r3d.below hb5 r3d.lt
  have X5 := X3d.below hb5 X3d.lt
  have c35 := ix_c35 X5
  have HB5 : Hid (Below w.heap.size w ((w4.alloc (.cells (ftC ft00) 119)).setRow w4.heap.size (ftC q))) := HB3d.out.1.trans (hb5.mono HB3d.out.1.size)
  have hS1 : Blk (w4.alloc (.cells (ftC ft00) 119)) x 72 (ixC cp h R high top mf ml mc) ∧ Blk (w4.alloc (.cells (ftC ft00) 119)) w2.heap.size 126 #[.int .i64 0, .int .i64 0, .int .i64 leaf] ∧ MapIs pkV ftV (w4.alloc (.cells (ftC ft00) 119)) mf L := ⟨hS0.1.alloc _, hS0.2.1.alloc _, hS0.2.2.below (below_new1 _ _) (mapLt hS0.2.2)⟩
  have hS2 : Blk ((w4.alloc (.cells (ftC ft00) 119)).setRow w4.heap.size (ftC q)) x 72 (ixC cp h R high top mf ml mc) ∧ Blk ((w4.alloc (.cells (ftC ft00) 119)).setRow w4.heap.size (ftC q)) w2.heap.size 126 #[.int .i64 0, .int .i64 0, .int .i64 leaf] ∧ MapIs pkV ftV ((w4.alloc (.cells (ftC ft00) 119)).setRow w4.heap.size (ftC q)) mf L := ⟨hS0.1.below hb5 hS0.1.lt, hS0.2.1.below hb5 hS0.2.1.lt, hS0.2.2.below hb5 (mapLt hS0.2.2)⟩
  clear X3d X5 hb5
  simp only [List.cons_append, List.nil_append, List.append_nil, List.filterMap_cons, List.filterMap_nil, List.getElem?_toArray, List.getElem?_cons_zero, List.getElem?_cons_succ]
  go_wp2_with fail
  refine ⟨rfl, _, .pointer (some ⟨x, 0, none⟩), rfl, Or.inl ⟨by rfl, fun W hW => by go_simp⟩, partsI_yield ?_⟩
  simp only [Act.put, List.setIfInBounds_toArray, List.set_cons_zero, List.set_cons_succ]
  simp only [List.cons_append, List.nil_append, List.append_nil, List.filterMap_cons, List.filterMap_nil, List.getElem?_toArray, List.getElem?_cons_zero, List.getElem?_cons_succ]
  go_wp2_with fail
  refine ⟨rfl, _, .pointer (some ⟨x, 37, none⟩), rfl, Or.inl ⟨by rfl, fun W hW => by go_simp⟩, partsI_yield ?_⟩
  simp only [Act.put, List.setIfInBounds_toArray, List.set_cons_zero, List.set_cons_succ]
  simp only [List.cons_append, List.nil_append, List.append_nil, List.filterMap_cons, List.filterMap_nil, List.getElem?_toArray, List.getElem?_cons_zero, List.getElem?_cons_succ]
  go_wp2_with fail
  refine ⟨rfl, _, .map (some mf), rfl, Or.inl ⟨by rfl, fun W hW => by have hW1 := ix_c37 hW.1; go_simp⟩, partsI_yield ?_⟩
  simp only [Act.put, List.setIfInBounds_toArray, List.set_cons_zero, List.set_cons_succ]
  simp only [List.cons_append, List.nil_append, List.append_nil, List.filterMap_cons, List.filterMap_nil, List.getElem?_toArray, List.getElem?_cons_zero, List.getElem?_cons_succ]
  go_wp2_with fail
  refine ⟨rfl, _, .agg #[.int .i64 0, .int .i64 0, .int .i64 leaf], rfl, Or.inl ⟨by rfl, fun W hW => by have hW0 : W.cell? ⟨w2.heap.size, 0, none⟩ = some (.int .i64 0) := (hW.2.1.cell 0).trans rfl; have hW1 : W.cell? ⟨w2.heap.size, 1, none⟩ = some (.int .i64 0) := (hW.2.1.cell 1).trans rfl; have hW2 : W.cell? ⟨w2.heap.size, 2, none⟩ = some (.int .i64 leaf) := (hW.2.1.cell 2).trans rfl; go_simp⟩, partsI_yield ?_⟩
  simp only [Act.put, List.setIfInBounds_toArray, List.set_cons_zero, List.set_cons_succ]
  simp only [List.cons_append, List.nil_append, List.append_nil, List.filterMap_cons, List.filterMap_nil, List.getElem?_toArray, List.getElem?_cons_zero, List.getElem?_cons_succ]
  go_wp2_with fail
  refine ⟨rfl, _, .tuple #[.agg (ftC q), .bool true], rfl, Or.inl ⟨by rfl, fun W hW => by have hW1 := HLK.out W hW.2.2; go_simp⟩, partsI_force ?_⟩
  simp only [Act.put, List.setIfInBounds_toArray, List.set_cons_zero, List.set_cons_succ]
  simp only [List.cons_append, List.nil_append, List.append_nil, List.filterMap_cons, List.filterMap_nil, List.getElem?_toArray, List.getElem?_cons_zero, List.getElem?_cons_succ]
  go_wp2_with fail
  refine ⟨rfl, hS1, partsI_force ?_⟩
  simp only [List.cons_append, List.nil_append, List.append_nil, List.filterMap_cons, List.filterMap_nil, List.getElem?_toArray, List.getElem?_cons_zero, List.getElem?_cons_succ]
  (refine wpList_store_row (by rfl) 119 _ _ (by rfl) (w4.heap.size) (ftC q) (by rfl) (by rfl) 119 (ftC ft00) (by exact q4) (sizeFt.trans (by rw [ftC_size])) (by simp only [ftC_size]) (ftC_all _) ?_; simp only [Act.put, List.setIfInBounds_toArray, List.set_cons_zero, List.set_cons_succ])
  go_wp2_with fail
  refine ⟨rfl, hS2, partsI_last ?_⟩
  simp only [List.cons_append, List.nil_append, List.append_nil, List.filterMap_cons, List.filterMap_nil, List.getElem?_toArray, List.getElem?_cons_zero, List.getElem?_cons_succ]
  go_wp2_with fail
  refine ⟨rfl, ?_⟩
  clear hS0 hS1 hS2 HLK q4
  generalize ((w4.alloc (.cells (ftC ft00) 119)).setRow w4.heap.size (ftC q)) = w5 at *
  go_wp2_with (first
    | (refine wpList_load_rowg (by rfl) 119 _ (by rfl) (w4.heap.size) (by rfl) 119 (ftC q) (0, 0) _ (by exact q5) Tryz.underlying119 (by rfl) (sizeFt.trans (by rw [ftC_size])) ?_; simp only [Act.put, List.setIfInBounds_toArray, List.set_cons_zero, List.set_cons_succ])
    | (refine wpList_store_row (by rfl) 119 _ _ (by rfl) (w.heap.size) (ftC q) (by rfl) (by rfl) 119 (_) (by exact r5) (sizeFt.trans (by rw [ftC_size])) (by simp only [ftC_size]) (ftC_all _) ?_; simp only [Act.put, List.setIfInBounds_toArray, List.set_cons_zero, List.set_cons_succ])
    | fail)
  try simp only [Exit.inBlock, Exit.then]
  refine bodyPost_ret (results_row2 Tryz.results36 _ _ (w.heap.size) 119 (ftC q) (0, 0) _ rfl (r5.set _) Tryz.underlying119 rfl (sizeFt.trans (by rw [ftC_size]))) rfl ?_
  exact ⟨rfl, below_setRow HB5.out (Nat.le_refl _) _⟩
set_option maxRecDepth 100000 in
set_option maxHeartbeats 4000000 in
theorem four_new (leaf : Int) (hh0 : 0 ≤ high) (hh1 : high ≤ 4096) (hlf : (high + 3) / 4 ≤ leaf) (q : Nat → Hd) (w : World) (hx : Blk w x 72 (ixC cp h R high top mf ml mc)) (hm : MapIs pkV ftV w mf L) (hl1 : ((findIn (0, 0, leaf) L).map ftV).getD (ftV ft00) = ftV q) (hl2 : (findIn (0, 0, leaf) L).isSome = false) : Calls Tryz.prog 36 #[.pointer (some ⟨x, 0, none⟩), .int .i64 leaf] w fun e w' => e = .returned (.tuple #[.agg (ftC q), .int .i64 0]) ∧ Below w.heap.size w w' := by
  have hz := zero_ft
  have HLK : Hid (∀ W, MapIs pkV ftV W mf L → (Instr.lookup 68 (.map (some mf)) (.agg #[.int .i64 0, .int .i64 0, .int .i64 leaf]) true).run Tryz.prog W = .ok (.tuple #[.agg (ftC q), .bool false]) W) := fun W hW => look_four hW _ q false hl1 hl2
  have hb1 : Below w.heap.size w (w.alloc (.cells (ftC ft00) 119)) := below_new1 _ _
  have r1 : Blk (w.alloc (.cells (ftC ft00) 119)) w.heap.size 119 (ftC ft00) := Blk.new _ _ _
  have HX1 : Hid (Blk (w.alloc (.cells (ftC ft00) 119)) x 72 (ixC cp h R high top mf ml mc)) := hx.below hb1 hx.lt
  have HM1 : Hid (MapIs pkV ftV (w.alloc (.cells (ftC ft00) 119)) mf L ∧ mf < w.heap.size) := ⟨hm.below hb1 (mapLt hm), (mapLt hm)⟩
  have HXL : Hid (x < w.heap.size) := hx.lt
  have HLT : Hid (∀ w : World, Calls Tryz.prog 35 #[.int .i64 high] w fun e w2 => e = .returned (.int .i64 ((high + 3) / 4)) ∧ w2 = w) := leavesTo_any high hh0 hh1
  have hge : (high + 3) / 4 ≤ leaf := hlf
  clear hx hm hl1 hl2
  go_enter Tryz.func36, Tryz.ntmps36
  go_wp2_with fail
  generalize (w.alloc (.cells (ftC ft00) 119)) = w1 at *
  refine (leafAt_any 0 leaf w1).mono ?_
  rintro e w2 ⟨rfl, hb2⟩
  unfold pkV
  have W2 : Below w2.heap.size w2 (w2.alloc (.cells #[.int .i64 0, .int .i64 0, .int .i64 leaf] 126)) := below_new1 _ _
  have p3 : Blk (w2.alloc (.cells #[.int .i64 0, .int .i64 0, .int .i64 leaf] 126)) w2.heap.size 126 #[.int .i64 0, .int .i64 0, .int .i64 leaf] := Blk.new _ _ _
  have hb23 : Below w1.heap.size w1 (w2.alloc (.cells #[.int .i64 0, .int .i64 0, .int .i64 leaf] 126)) := hb2.trans (W2.mono hb2.size)
  have x3 := HX1.out.below hb23 HX1.out.lt
  have m3 := HM1.out.1.below hb23 (mapLt HM1.out.1)
  have r3 := r1.below hb23 r1.lt
  have HB3 : Hid (Below w.heap.size w (w2.alloc (.cells #[.int .i64 0, .int .i64 0, .int .i64 leaf] 126)) ∧ w.heap.size < (w2.alloc (.cells #[.int .i64 0, .int .i64 0, .int .i64 leaf] 126)).heap.size) := ⟨hb1.trans (hb23.mono hb1.size), r3.lt⟩
  clear hb2 W2 hb23 hb1 HX1 HM1 r1
  go_wp2_with fail
  generalize (w2.alloc (.cells #[.int .i64 0, .int .i64 0, .int .i64 leaf] 126)) = w3 at *
  have hS0 : Blk w3.drew x 72 (ixC cp h R high top mf ml mc) ∧ Blk w3.drew w2.heap.size 126 #[.int .i64 0, .int .i64 0, .int .i64 leaf] ∧ MapIs pkV ftV w3.drew mf L := ⟨x3, p3, m3⟩
  have r3d : Blk w3.drew w.heap.size 119 (ftC ft00) := r3
  have HB3d : Hid (Below w.heap.size w w3.drew ∧ w.heap.size < w3.drew.heap.size) := ⟨HB3.out.1.drew, HB3.out.2⟩
  have X3d : Blk w3.drew x 72 (ixC cp h R high top mf ml mc) := x3
  clear x3 p3 m3 r3 HB3
  refine wp_region_partsS (fun W => Blk W x 72 (ixC cp h R high top mf ml mc) ∧ Blk W w2.heap.size 126 #[.int .i64 0, .int .i64 0, .int .i64 leaf] ∧ MapIs pkV ftV W mf L) [([0], 1, true), ([], 2, true), ([], 3, true), ([], 4, true), ([], 5, true), ([6, 7, 8], 9, false), ([], 10, false)] [11] [] (by kernel_rfl) (by kernel_rfl) hS0 (partsI_yield ?_)
  generalize w3.drew = w4 at *
  have q4 : Blk (w4.alloc (.cells (ftC ft00) 119)) w4.heap.size 119 (ftC ft00) := Blk.new _ _ _
  have q5 := q4.set (ftC q)
  have hb5 : Below w4.heap.size w4 ((w4.alloc (.cells (ftC ft00) 119)).setRow w4.heap.size (ftC q)) := below_setRow (below_new1 _ _) (Nat.le_refl _) _
  have r5 := r3d.below hb5 r3d.lt
  have X5 := X3d.below hb5 X3d.lt
  have c35 := ix_c35 X5
  have HB5 : Hid (Below w.heap.size w ((w4.alloc (.cells (ftC ft00) 119)).setRow w4.heap.size (ftC q))) := HB3d.out.1.trans (hb5.mono HB3d.out.1.size)
  have hS1 : Blk (w4.alloc (.cells (ftC ft00) 119)) x 72 (ixC cp h R high top mf ml mc) ∧ Blk (w4.alloc (.cells (ftC ft00) 119)) w2.heap.size 126 #[.int .i64 0, .int .i64 0, .int .i64 leaf] ∧ MapIs pkV ftV (w4.alloc (.cells (ftC ft00) 119)) mf L := ⟨hS0.1.alloc _, hS0.2.1.alloc _, hS0.2.2.below (below_new1 _ _) (mapLt hS0.2.2)⟩
  have hS2 : Blk ((w4.alloc (.cells (ftC ft00) 119)).setRow w4.heap.size (ftC q)) x 72 (ixC cp h R high top mf ml mc) ∧ Blk ((w4.alloc (.cells (ftC ft00) 119)).setRow w4.heap.size (ftC q)) w2.heap.size 126 #[.int .i64 0, .int .i64 0, .int .i64 leaf] ∧ MapIs pkV ftV ((w4.alloc (.cells (ftC ft00) 119)).setRow w4.heap.size (ftC q)) mf L := ⟨hS0.1.below hb5 hS0.1.lt, hS0.2.1.below hb5 hS0.2.1.lt, hS0.2.2.below hb5 (mapLt hS0.2.2)⟩
  clear X3d X5 hb5
  simp only [List.cons_append, List.nil_append, List.append_nil, List.filterMap_cons, List.filterMap_nil, List.getElem?_toArray, List.getElem?_cons_zero, List.getElem?_cons_succ]
  go_wp2_with fail
  refine ⟨rfl, _, .pointer (some ⟨x, 0, none⟩), rfl, Or.inl ⟨by rfl, fun W hW => by go_simp⟩, partsI_yield ?_⟩
  simp only [Act.put, List.setIfInBounds_toArray, List.set_cons_zero, List.set_cons_succ]
  simp only [List.cons_append, List.nil_append, List.append_nil, List.filterMap_cons, List.filterMap_nil, List.getElem?_toArray, List.getElem?_cons_zero, List.getElem?_cons_succ]
  go_wp2_with fail
  refine ⟨rfl, _, .pointer (some ⟨x, 37, none⟩), rfl, Or.inl ⟨by rfl, fun W hW => by go_simp⟩, partsI_yield ?_⟩
  simp only [Act.put, List.setIfInBounds_toArray, List.set_cons_zero, List.set_cons_succ]
  simp only [List.cons_append, List.nil_append, List.append_nil, List.filterMap_cons, List.filterMap_nil, List.getElem?_toArray, List.getElem?_cons_zero, List.getElem?_cons_succ]
  go_wp2_with fail
  refine ⟨rfl, _, .map (some mf), rfl, Or.inl ⟨by rfl, fun W hW => by have hW1 := ix_c37 hW.1; go_simp⟩, partsI_yield ?_⟩
  simp only [Act.put, List.setIfInBounds_toArray, List.set_cons_zero, List.set_cons_succ]
  simp only [List.cons_append, List.nil_append, List.append_nil, List.filterMap_cons, List.filterMap_nil, List.getElem?_toArray, List.getElem?_cons_zero, List.getElem?_cons_succ]
  go_wp2_with fail
  refine ⟨rfl, _, .agg #[.int .i64 0, .int .i64 0, .int .i64 leaf], rfl, Or.inl ⟨by rfl, fun W hW => by have hW0 : W.cell? ⟨w2.heap.size, 0, none⟩ = some (.int .i64 0) := (hW.2.1.cell 0).trans rfl; have hW1 : W.cell? ⟨w2.heap.size, 1, none⟩ = some (.int .i64 0) := (hW.2.1.cell 1).trans rfl; have hW2 : W.cell? ⟨w2.heap.size, 2, none⟩ = some (.int .i64 leaf) := (hW.2.1.cell 2).trans rfl; go_simp⟩, partsI_yield ?_⟩
  simp only [Act.put, List.setIfInBounds_toArray, List.set_cons_zero, List.set_cons_succ]
  simp only [List.cons_append, List.nil_append, List.append_nil, List.filterMap_cons, List.filterMap_nil, List.getElem?_toArray, List.getElem?_cons_zero, List.getElem?_cons_succ]
  go_wp2_with fail
  refine ⟨rfl, _, .tuple #[.agg (ftC q), .bool false], rfl, Or.inl ⟨by rfl, fun W hW => by have hW1 := HLK.out W hW.2.2; go_simp⟩, partsI_force ?_⟩
  simp only [Act.put, List.setIfInBounds_toArray, List.set_cons_zero, List.set_cons_succ]
  simp only [List.cons_append, List.nil_append, List.append_nil, List.filterMap_cons, List.filterMap_nil, List.getElem?_toArray, List.getElem?_cons_zero, List.getElem?_cons_succ]
  go_wp2_with fail
  refine ⟨rfl, hS1, partsI_force ?_⟩
  simp only [List.cons_append, List.nil_append, List.append_nil, List.filterMap_cons, List.filterMap_nil, List.getElem?_toArray, List.getElem?_cons_zero, List.getElem?_cons_succ]
  (refine wpList_store_row (by rfl) 119 _ _ (by rfl) (w4.heap.size) (ftC q) (by rfl) (by rfl) 119 (ftC ft00) (by exact q4) (sizeFt.trans (by rw [ftC_size])) (by simp only [ftC_size]) (ftC_all _) ?_; simp only [Act.put, List.setIfInBounds_toArray, List.set_cons_zero, List.set_cons_succ])
  go_wp2_with fail
  refine ⟨rfl, hS2, partsI_last ?_⟩
  simp only [List.cons_append, List.nil_append, List.append_nil, List.filterMap_cons, List.filterMap_nil, List.getElem?_toArray, List.getElem?_cons_zero, List.getElem?_cons_succ]
  go_wp2_with fail
  refine ⟨rfl, ?_⟩
  clear hS0 hS1 hS2 HLK q4
  generalize ((w4.alloc (.cells (ftC ft00) 119)).setRow w4.heap.size (ftC q)) = w5 at *
  go_wp2_with fail
  refine (HLT.out _).mono ?_
  rintro e _ ⟨rfl, rfl⟩
  go_wp2_with (first
    | (refine wpList_load_rowg (by rfl) 119 _ (by rfl) (w4.heap.size) (by rfl) 119 (ftC q) (0, 0) _ (by exact q5) Tryz.underlying119 (by rfl) (sizeFt.trans (by rw [ftC_size])) ?_; simp only [Act.put, List.setIfInBounds_toArray, List.set_cons_zero, List.set_cons_succ])
    | (refine wpList_store_row (by rfl) 119 _ _ (by rfl) (w.heap.size) (ftC q) (by rfl) (by rfl) 119 (_) (by exact r5) (sizeFt.trans (by rw [ftC_size])) (by simp only [ftC_size]) (ftC_all _) ?_; simp only [Act.put, List.setIfInBounds_toArray, List.set_cons_zero, List.set_cons_succ])
    | fail)
  try simp only [Exit.inBlock, Exit.then]
  refine bodyPost_ret (results_row2 Tryz.results36 _ _ (w.heap.size) 119 (ftC q) (0, 0) _ rfl (r5.set _) Tryz.underlying119 rfl (sizeFt.trans (by rw [ftC_size]))) rfl ?_
  exact ⟨rfl, below_setRow HB5.out (Nat.le_refl _) _⟩
end
end Go.Proofs.YtcmihdjbeihjbaaGreat

namespace Go.Proofs.YtcmihdjbeihjbaaGreat
open Go Go.RowKit
set_option linter.unusedSimpArgs false
set_option linter.unusedVariables false
theorem ftF_at (q : Nat → Hd) (i j : Nat) (hj : j < 45) : ftF q (i * 45 + j) = hdF (q i) j := by
  unfold ftF
  rw [show (i * 45 + j) / 45 = i by omega, show (i * 45 + j) % 45 = j by omega]
theorem ft_extract (q : Nat → Hd) (i : Nat) (hi : i < 4) : (ftC q).extract (i * 45) (i * 45 + 45) = hdC (q i) := by
  unfold ftC hdC
  rw [va_extract 180 (i * 45) 45 _ (by omega)]
  exact va_congr fun j hj => ftF_at q i j hj
theorem run_index_ft (q : Nat → Hd) (k : Nat) (hk : k < 4) (w : World) : (Instr.index 119 (.agg (ftC q)) (.int .i64 (k : Int))).run Tryz.prog w = .ok (.agg (hdC (q k))) w := by
  have hp := part_agg 64 45 _ Tryz.underlying64 rfl sizeHd (ftC q) (hdC (q k)) (k * 45) (ft_extract q k hk) w
  have hz := size_at 64 45 sizeHd w
  have h1 : (k : Int) < 4 := by omega
  simp [Instr.index, asIntOf, run_underlying Tryz.underlying119, h1, hz, hp]
  intro h
  omega
theorem ft_range {w : World} {b t : Nat} {q : Nat → Hd} (H : Blk w b t (ftC q)) (i : Nat) (hi : i < 4) : w.rangeAt b (i * 45) ((List.range 45).map (hdF (q i))) := by
  have := Blk.range (n := 180) (f := ftF q) H (i * 45) 45 (by omega)
  rw [show ((List.range 45).map fun j => ftF q (i * 45 + j)) = (List.range 45).map (hdF (q i)) from List.map_congr_left fun j hj => ftF_at q i j (List.mem_range.1 hj)] at this
  exact this
/-- one of the four another one -/
def ftU (q : Nat → Hd) (i : Nat) (x : Hd) : Nat → Hd := fun j => if j = i then x else q j
theorem ft_put {w : World} {b t : Nat} {q : Nat → Hd} (H : Blk w b t (ftC q)) (i : Nat) (hi : i < 4) (x : Hd) : Blk (w.setCells b (i * 45) (hdC x).toList) b t (ftC (ftU q i x)) := by
  have := Blk.cells_put (n := 180) (hdC x).toList (i * 45) w (ftF q) H
  rw [show va 180 (over (ftF q) (i * 45) (hdC x).toList) = ftC (ftU q i x) from va_congr fun k hk => ?_] at this
  · exact this
  · unfold over hdC
    rw [va_toList]
    simp only [List.length_map, List.length_range]
    by_cases hj : i * 45 ≤ k ∧ k < i * 45 + 45
    · rw [if_pos hj, List.getD_eq_getElem?_getD, List.getElem?_map, List.getElem?_range (by omega)]
      unfold ftF ftU
      rw [if_pos (by omega), show k % 45 = k - i * 45 by omega]
      rfl
    · rw [if_neg hj]
      unfold ftF ftU
      rw [if_neg (by omega)]
section
variable {x : Nat} {cp : Option Addr} {h : Int} {R : Rf} {high top : Int} {mf ml mc : Nat} {L : List ((Int × Int × Int) × (Nat → Hd))}
end
end Go.Proofs.YtcmihdjbeihjbaaGreat
