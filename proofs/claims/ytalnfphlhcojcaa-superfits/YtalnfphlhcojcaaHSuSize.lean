/- The least heights of the table and of the map. -/
import Derived.Test.YtalnfphlhcojcaaRows
import Derived.WalkKit
import Derived.ProofKit
import Derived.OpenShut
import Derived.Carry
import Derived.Deep.Slices
import Derived.Lib.SmallJoins
import Derived.SizedLaws
import Derived.Test.YtalnfphlhcojcaaHNdKit
import Derived.Handy

namespace Go.Proofs.Ytalnfphlhcojcaa
open Go.ChangeShapes Go.WideShapes Go.ChangeAt Go.RowKit Go.Joins
set_option linter.unusedVariables false
set_option linter.unusedSimpArgs false

theorem nd_take_one {l : List Value} {o : Nat} {v : Value} (h : (l.drop o).take 1 = [v]) : l[o]? = some v := by
  have h2 : (l.drop o).head? = some v := by
    cases hd : l.drop o with
    | nil => rw [hd] at h; simp at h
    | cons a t => rw [hd] at h; simp at h; rw [h]; rfl
  rw [List.head?_drop] at h2
  exact h2
set_option maxRecDepth 100000 in
theorem open_ref_cells {H : Type} {enc : TypeId × Value → H} {W : World} {fuel : Nat} {l : List Value} {x : DataW H × List MemPlace} (hl : l.length = 33)
    (hf : DataW.trod enc Try.prog W 0 (fun _ => true) true fuel 27 l = some x) :
    ∃ r : Rf, l = (rfC r).toList ∧ r.1 < 4294967296 ∧ okD r.2 := by
  have hc4 : Try.prog.cellsOf 23 = 1 := by kernel_rfl
  have hc1 : Try.prog.cellsOf 5 = 1 := by kernel_rfl
  have hcs : Try.prog.cellsOf 25 = 32 := by kernel_rfl
  obtain ⟨zs, k', hk', hzy, _, hzl, hgs⟩ := DataW.trod_struct Try.underlying27 hf
  match zs, hzl with
  | [z0, z1], _ =>
    have q0 : DataW.trod enc Try.prog W 0 (fun _ => true) true k' 23 ((l.drop 0).take (Try.prog.cellsOf 23)) = some z0 := hgs 0 _ rfl
    have q1 : DataW.trod enc Try.prog W 0 (fun _ => true) true k' 25 ((l.drop 1).take (Try.prog.cellsOf 25)) = some z1 := hgs 1 _ rfl
    rw [hc4] at q0
    rw [hcs] at q1
    obtain ⟨a, e1, _, w1⟩ := DataW.trod_int Try.underlying23 q0
    have hby := trod_bytes Try.underlying25 Try.underlying5 hc1 q1
    have b1 := bounds_u32 w1
    have l1 : l[0]? = some (.int .u32 a) := nd_take_one e1
    have l2 : ∀ i, i < 32 → ∃ z : Nat, l[1 + i]? = some (.int .u8 ((z : Nat) : Int)) ∧ z < 256 := fun i hi => by
      obtain ⟨z, h1, h2⟩ := hby i hi
      refine ⟨z, ?_, h2⟩
      rw [List.getElem?_take, if_pos hi, List.getElem?_drop] at h1
      exact h1
    obtain ⟨f, hfz⟩ : ∃ f : Nat → Nat, ∀ i, i < 32 → l[1 + i]? = some (.int .u8 ((f i : Nat) : Int)) ∧ f i < 256 := ⟨fun i => if h : i < 32 then Classical.choose (l2 i h) else 0, fun i hi => by
      simp only [dif_pos hi]
      exact Classical.choose_spec (l2 i hi)⟩
    refine ⟨(a.toNat, sumD f), ?_, by show a.toNat < _; omega, okD_sum f fun i hi => (hfz i hi).2⟩
    apply List.ext_getElem?
    intro i
    by_cases hi : i < 33
    · have hr : (rfC (a.toNat, sumD f)).toList[i]? = some (rfF a.toNat (sumD f) i) := by
        have := va_at (rfF a.toNat (sumD f)) hi
        unfold rfC
        simpa using this
      rw [hr]
      unfold rfF
      by_cases h1 : i = 0
      · subst h1
        rw [if_pos rfl, l1]
        congr 2
        show a = ((a.toNat : Nat) : Int)
        omega
      · rw [if_neg h1]
        have := (hfz (i - 1) (by omega)).1
        rw [show 1 + (i - 1) = i by omega] at this
        rw [this]
        congr 3
        show f (i - 1) = dF (sumD f) (i - 1)
        rw [dF_sumD f _ (by omega)]
    · rw [List.getElem?_eq_none (by omega), List.getElem?_eq_none (by rw [Array.length_toList, rfC_size]; omega)]
end Go.Proofs.Ytalnfphlhcojcaa

namespace Go.Proofs.Ytalnfphlhcojcaa
open Go Go.RowKit

section
variable {P : Program} {ops : Array Oper} {Q : Exit → Act → World → Prop} {md : Region.Mode} {Wl : List Nat} {S : World → Prop}

theorem takeS_gen {i fuel : Nat} {o : Oper} {v : Value} {listed : Array Bool} {a : Act} {w : World} (hs : Region.noSelect ops = true) (hi : ops[i]? = some o) (hr : (Region.ready md ops listed).contains i = true)
    (hf : Region.free md ops listed i = true) (hWi : Wl.contains i = false) (hwait : waitW md ops listed i Wl (waitArr md ops listed i) = true) (hy : YieldsIf P ops S o v a) (hS : S w)
    (hK : wpAnyW P md ops (Strict Q) S (Wl.contains ·) fuel (listed.setIfInBounds i true) (a.put o.dst v) w) :
    wpAnyW P md ops (Strict Q) S (Wl.contains ·) (fuel + 1) listed a w := by
  generalize hwt : waitArr md ops listed i = arr at hwait
  unfold waitW at hwait
  rw [List.all_eq_true] at hwait
  have hall : ∀ j oj, ops[j]? = some oj → (if arr.getD j false then (j == i || oj.after.any fun e => Region.binds md e && arr.getD e.on false && decide (e.on < ops.size)) && !listed.getD j true else !Wl.contains j) = true := fun j oj hj => by
    have h1 := hwait j (List.mem_range.2 (Array.getElem?_eq_some_iff.1 hj).1)
    rw [hj] at h1; exact h1
  have hin : ∀ j, decide (j < ops.size) = true → ∃ oj, ops[j]? = some oj := fun j hj => ⟨_, Array.getElem?_eq_getElem (of_decide_eq_true hj)⟩
  refine wpAnyW_take hi (Region.noSelect_spec hs) (fun j => arr.getD j false && decide (j < ops.size)) (v := v) (strict_frame _ _) ?_ ?_ hWi fuel listed a w (Region.free_spec hi hf) ?_ (by simpa using hr) hy hS hK
  · intro j oj hj hw hne
    simp only [Bool.and_eq_true] at hw
    have h1 := hall j oj hj
    rw [if_pos hw.1] at h1
    simp only [Bool.and_eq_true, Bool.or_eq_true, beq_iff_eq, hne, false_or] at h1
    obtain ⟨e, he, hb⟩ := Array.any_eq_true'.1 h1.1
    simp only [Bool.and_eq_true] at hb
    exact ⟨e, he, hb.1.1, by simp only [Bool.and_eq_true]; exact ⟨hb.1.2, hb.2⟩⟩
  · intro j oj hj hw
    have hlt : decide (j < ops.size) = true := decide_eq_true (Array.getElem?_eq_some_iff.1 hj).1
    have h1 := hall j oj hj
    cases hq : arr.getD j false with
    | true => rw [hlt]; rfl
    | false => rw [if_neg (by rw [hq]; decide), hw] at h1; cases h1
  · intro j hw
    simp only [Bool.and_eq_true] at hw
    obtain ⟨oj, hj⟩ := hin j hw.2
    have h1 := hall j oj hj
    rw [if_pos hw.1] at h1
    simp only [Bool.and_eq_true, Bool.not_eq_true'] at h1
    exact h1.2

theorem forceS_step {i fuel : Nat} {listed : Array Bool} {a : Act} {w : World} (hb : forceW md ops listed i = true)
    (h : wpOp P ops (Strict Q) i (fun a' w' => (Wl.contains i = false → S w') ∧ wpAnyW P md ops (Strict Q) S (Wl.contains ·) fuel (listed.setIfInBounds i true) a' w') a w) :
    wpAnyW P md ops (Strict Q) S (Wl.contains ·) (fuel + 1) listed a w := by
  unfold forceW at hb
  simp only [Bool.and_eq_true, beq_iff_eq] at hb
  refine ⟨fun h0 => absurd (hb.1.symm.trans h0) (by simp), ?_⟩
  rw [hb.1]
  intro j hj
  have : j = i := by simpa using hj
  subst this; exact h

theorem takeS_step {i fuel : Nat} {listed : Array Bool} {a : Act} {w : World} (hs : Region.noSelect ops = true) (hb : takeW md ops listed Wl [] i = true) (hS : S w)
    (h : wpOp P ops (Strict Q) i (fun a' w' => S w' → wpAnyW P md ops (Strict Q) S (Wl.contains ·) fuel (listed.setIfInBounds i true) a' w') a w) :
    wpAnyW P md ops (Strict Q) S (Wl.contains ·) (fuel + 1) listed a w := by
  unfold takeW at hb
  cases hi : ops[i]? with
  | none => rw [hi] at hb; cases hb
  | some o =>
    rw [hi] at hb
    simp only [Bool.and_eq_true, Bool.or_eq_true, Bool.not_eq_true'] at hb
    obtain ⟨⟨⟨⟨hr, hf⟩, hWi⟩, hk⟩, hwait⟩ := hb
    have key : ∃ v, wpAnyW P md ops (Strict Q) S (Wl.contains ·) fuel (listed.setIfInBounds i true) (a.put o.dst v) w ∧ YieldsIf P ops S o v a := by
      unfold wpOp at h
      simp only [hi] at h
      by_cases hw : Region.wanted o (yielded ops a.tmps) = true
      · simp only [hw, if_true] at h
        rcases h with h | ⟨_, h⟩
        · unfold Oper.wp at h
          have hrun : ∃ v, (execOp a.eval o).run P w = .ok (.value v) w ∧ ∀ w', S w' → (execOp a.eval o).run P w' = .ok (.value v) w' := by
            cases hsr : (execOp a.eval o).run P w with
            | ok n w1 =>
              rcases hk with hk | hk
              · obtain ⟨hp, hv⟩ := kindV_run (P := P) hk a.eval
                obtain ⟨v, rfl⟩ := hv _ _ _ hsr
                obtain ⟨rfl, h2⟩ := hp _ _ _ hsr
                exact ⟨v, rfl, fun w' _ => h2 w'⟩
              · obtain ⟨t, x, hop, hx⟩ := lowLoad_run hk
                cases hx
            | halt y w1 =>
              rw [hsr] at h
              cases y <;> simp only [Oper.upon, Strict] at h <;> first | exact absurd h.1 (by intro e; cases e) | exact h.elim
          obtain ⟨v, h1, h2⟩ := hrun
          rw [h1, Oper.upon_value] at h
          exact ⟨v, h hS, .inl ⟨hw, h2⟩⟩
        · exact absurd h Strict.noOut
      · rw [Bool.not_eq_true] at hw
        simp only [hw, Bool.false_eq_true, if_false] at h
        exact ⟨undef, h hS, .inr ⟨hw, rfl⟩⟩
    obtain ⟨v, hK, hy⟩ := key
    exact takeS_gen hs hi hr hf hWi hwait hy hS hK

theorem takesS_step (hs : Region.noSelect ops = true) (more : List Nat) (fuel : Nat) (Q' : Exit → Act → World → Prop) :
    ∀ (ts : List Nat) (listed l2 : Array Bool) (a : Act) (w : World), takesB md ops Wl [] ts listed = some l2 →
      (∀ a' w', S w' → wpList P ops (Strict Q') (more.filterMap fun i => ops[i]?) a' w' → wpAnyW P md ops (Strict Q) S (Wl.contains ·) fuel l2 a' w') →
      S w → wpList P ops (Strict Q') ((ts ++ more).filterMap fun i => ops[i]?) a w →
      wpAnyW P md ops (Strict Q) S (Wl.contains ·) (ts.length + fuel) listed a w := by
  intro ts
  induction ts with
  | nil =>
    intro listed l2 a w hb hn hS h
    simp only [takesB, Option.some.injEq] at hb
    subst hb
    rw [List.length_nil, Nat.zero_add]
    exact hn a w hS h
  | cons i rest ih =>
    intro listed l2 a w hb hn hS h
    unfold takesB at hb
    split at hb
    · rename_i hc
      have hlen : (i :: rest).length + fuel = (rest.length + fuel) + 1 := by simp only [List.length_cons]; omega
      rw [hlen]
      obtain ⟨o, ho⟩ := has_op hc
      refine takeS_step hs hc hS (wpOp_mono (fun a' w' h' h2 => ?_) (wpOp_strict (wpList_one ho h)))
      exact ih _ l2 a' w' hb hn h2 h'
    · cases hb

theorem tailS_step : ∀ (ts : List Nat) (listed : Array Bool) (a : Act) (w : World), tailB md ops Wl ts listed = true → wpList P ops (Strict Q) (ts.filterMap fun i => ops[i]?) a w →
    wpAnyW P md ops (Strict Q) S (Wl.contains ·) ts.length listed a w
  | [], listed, a, w, hb, h => ⟨by simpa [tailB] using hb, h⟩
  | i :: rest, listed, a, w, hb, h => by
    simp only [tailB, Bool.and_eq_true] at hb
    obtain ⟨o, ho⟩ := has_op' hb.1.1
    refine forceS_step hb.1.1 (wpOp_mono (fun a' w' h' => ?_) (wpList_one ho h))
    exact ⟨fun e => (by rw [hb.1.2] at e; cases e), tailS_step rest _ a' w' hb.2 h'⟩

theorem partsS_step (hs : Region.noSelect ops = true) (takes tail : List Nat) :
    ∀ (ps : List (List Nat × Nat × Bool)) (listed : Array Bool) (a : Act) (w : World), partsB md ops Wl [] ps takes tail listed = true → S w →
      wpPartsI P ops Q S ps (takes ++ tail) a w → wpAnyW P md ops (Strict Q) S (Wl.contains ·) (lenOf ps (takes.length + tail.length)) listed a w
  | [], listed, a, w, hb, hS, h => by
    unfold partsB at hb
    split at hb
    · rename_i l2 hl2
      exact takesS_step hs tail tail.length Q takes listed l2 a w hl2 (fun a' w' _ h' => tailS_step tail l2 a' w' hb h') hS h
    · cases hb
  | (ts, i, false) :: rest, listed, a, w, hb, hS, h => by
    unfold partsB at hb
    split at hb
    · rename_i l2 hl2
      simp only [Bool.and_eq_true, Bool.not_eq_true', Bool.false_eq_true, if_false] at hb
      refine takesS_step hs [i] _ _ ts listed l2 a w hl2 (fun a' w' _ h' => ?_) hS h
      obtain ⟨o, ho⟩ := has_op' hb.1.1
      rw [Nat.add_comm 1]
      refine forceS_step hb.1.1 (wpOp_mono (fun a2 w2 h2 => ?_) (wpOp_strict (wpList_one ho h')))
      have h3 := h2.2
      exact ⟨fun _ => h3.1, partsS_step hs takes tail rest _ a2 w2 hb.2 h3.1 h3.2⟩
    · cases hb
  | (ts, i, true) :: rest, listed, a, w, hb, hS, h => by
    unfold partsB at hb
    split at hb
    · rename_i l2 hl2
      simp only [Bool.and_eq_true, if_true] at hb
      refine takesS_step hs [] _ _ ts listed l2 a w hl2 (fun a' w' hS' h' => ?_) hS h
      obtain ⟨-, o, v, ho, hy, hn⟩ := h'
      have hc := hb.1
      unfold yieldW at hc
      rw [ho] at hc
      simp only [Bool.and_eq_true, Bool.not_eq_true'] at hc
      rw [Nat.add_comm 1]
      exact takeS_gen hs ho hc.1.1.1 hc.1.1.2 hc.1.2 hc.2 hy hS' (partsS_step hs takes tail rest _ _ w' hb.2 hS' hn)
    · cases hb

/-- THE LAW. -/
theorem wp_region_partsS {id : Nat} {a : Act} {w : World} (S : World → Prop) (ps : List (List Nat × Nat × Bool)) (takes tail : List Nat) (hm : P.follows .mixedOrders = true) (hB : wholeB ops tail [] ps takes tail = true)
    (hS : S w.drew) (h : wpPartsI P ops Q S ps (takes ++ tail) a w.drew) : (Code.region id ops true).wp P Q a w := by
  unfold wholeB at hB
  simp only [Bool.and_eq_true, beq_iff_eq] at hB
  refine Code.wp_mono Strict.imp (wp_region_any hm ?_)
  rw [← hB.1.1.1]
  exact wpAny_of_W _ _ _ _ (partsS_step hB.1.1.2 takes tail ps _ a _ (by rw [hB.1.1.1]; exact hB.2) hS h)
end
end Go.Proofs.Ytalnfphlhcojcaa

namespace Go.Proofs.Ytalnfphlhcojcaa
open Go Go.RowKit
set_option linter.unusedSimpArgs false
set_option linter.unusedVariables false
def tiF (h : Int) (r : Rf) : Nat → Value := fun i => if i = 0 then .int .i64 h else rfF r.1 r.2 (i - 1)
def tiC (h : Int) (r : Rf) : Array Value := va 34 (tiF h r)
theorem tiC_size (h : Int) (r : Rf) : (tiC h r).size = 34 := va_size _ _
theorem tiF_one (h : Int) (r : Rf) (i : Nat) : (tiF h r i).oneCell' = true := by
  unfold tiF
  split
  · rfl
  · exact rfF_one _ _ _
theorem sizeTi : (Try.prog.info? 29).map (·.size) = some 34 := by kernel_rfl
theorem sizeRTr : (Try.prog.info? 43).map (·.size) = some 34 := by kernel_rfl
end Go.Proofs.Ytalnfphlhcojcaa

namespace Go.Proofs.Ytalnfphlhcojcaa
open Go Go.RowKit
set_option linter.unusedSimpArgs false
set_option linter.unusedVariables false
/-- the least height of a tree whose leaves hold a things each, for n things -/
def hL (a n : Int) : Int := if n ≤ a then 0 else if n ≤ 4 * a then 1 else if n ≤ 16 * a then 2 else if n ≤ 64 * a then 3 else if n ≤ 256 * a then 4 else if n ≤ 1024 * a then 5 else 6
theorem hL_lt (a n : Int) : 0 ≤ hL a n ∧ hL a n ≤ 6 := by
  unfold hL
  split
  · decide
  · split
    · decide
    · split
      · decide
      · split
        · decide
        · split
          · decide
          · split <;> decide
set_option maxHeartbeats 4000000 in
theorem rleast (n : Int) (h0 : -9223372036854775808 ≤ n) (hn : n ≤ 4096) (w : World) : Calls Try.prog 16 #[.int .i64 n] w fun e w' => e = .returned (.int .i64 (hL 1 n)) ∧ w' = w := by
  by_cases c0 : n ≤ 1
  · have HE : Hid (hL 1 n = 0) := by show hL 1 n = 0; unfold hL; rw [if_pos (by omega)]
    have s0 : ¬ ((1 : Int) < n) := by omega
    clear hn c0
    rw [HE.out]
    clear HE
    go_enter Try.func16, Try.ntmps16
    go_wp2
    go_rounds 1
    go_returns
    exact ⟨by simp, rfl⟩
  · skip
    by_cases c1 : n ≤ 4
    · have HE : Hid (hL 1 n = 1) := by show hL 1 n = 1; unfold hL; rw [if_neg (by omega)]; rw [if_pos (by omega)]
      have s0 : ¬ ((4 : Int) < n) := by omega
      have g0 : (1 : Int) < n := by omega
      clear hn c0 c1
      rw [HE.out]
      clear HE
      go_enter Try.func16, Try.ntmps16
      go_wp2
      go_rounds 2
      go_returns
      exact ⟨by simp, rfl⟩
    · skip
      by_cases c2 : n ≤ 16
      · have HE : Hid (hL 1 n = 2) := by show hL 1 n = 2; unfold hL; rw [if_neg (by omega)]; rw [if_neg (by omega)]; rw [if_pos (by omega)]
        have s0 : ¬ ((16 : Int) < n) := by omega
        have g0 : (1 : Int) < n := by omega
        have g1 : (4 : Int) < n := by omega
        clear hn c0 c1 c2
        rw [HE.out]
        clear HE
        go_enter Try.func16, Try.ntmps16
        go_wp2
        go_rounds 3
        go_returns
        exact ⟨by simp, rfl⟩
      · skip
        by_cases c3 : n ≤ 64
        · have HE : Hid (hL 1 n = 3) := by show hL 1 n = 3; unfold hL; rw [if_neg (by omega)]; rw [if_neg (by omega)]; rw [if_neg (by omega)]; rw [if_pos (by omega)]
          have s0 : ¬ ((64 : Int) < n) := by omega
          have g0 : (1 : Int) < n := by omega
          have g1 : (4 : Int) < n := by omega
          have g2 : (16 : Int) < n := by omega
          clear hn c0 c1 c2 c3
          rw [HE.out]
          clear HE
          go_enter Try.func16, Try.ntmps16
          go_wp2
          go_rounds 4
          go_returns
          exact ⟨by simp, rfl⟩
        · skip
          by_cases c4 : n ≤ 256
          · have HE : Hid (hL 1 n = 4) := by show hL 1 n = 4; unfold hL; rw [if_neg (by omega)]; rw [if_neg (by omega)]; rw [if_neg (by omega)]; rw [if_neg (by omega)]; rw [if_pos (by omega)]
            have s0 : ¬ ((256 : Int) < n) := by omega
            have g0 : (1 : Int) < n := by omega
            have g1 : (4 : Int) < n := by omega
            have g2 : (16 : Int) < n := by omega
            have g3 : (64 : Int) < n := by omega
            clear hn c0 c1 c2 c3 c4
            rw [HE.out]
            clear HE
            go_enter Try.func16, Try.ntmps16
            go_wp2
            go_rounds 5
            go_returns
            exact ⟨by simp, rfl⟩
          · skip
            by_cases c5 : n ≤ 1024
            · have HE : Hid (hL 1 n = 5) := by show hL 1 n = 5; unfold hL; rw [if_neg (by omega)]; rw [if_neg (by omega)]; rw [if_neg (by omega)]; rw [if_neg (by omega)]; rw [if_neg (by omega)]; rw [if_pos (by omega)]
              have s0 : ¬ ((1024 : Int) < n) := by omega
              have g0 : (1 : Int) < n := by omega
              have g1 : (4 : Int) < n := by omega
              have g2 : (16 : Int) < n := by omega
              have g3 : (64 : Int) < n := by omega
              have g4 : (256 : Int) < n := by omega
              clear hn c0 c1 c2 c3 c4 c5
              rw [HE.out]
              clear HE
              go_enter Try.func16, Try.ntmps16
              go_wp2
              go_rounds 6
              go_returns
              exact ⟨by simp, rfl⟩
            · skip
              have HE : Hid (hL 1 n = 6) := by show hL 1 n = 6; unfold hL; rw [if_neg (by omega)]; rw [if_neg (by omega)]; rw [if_neg (by omega)]; rw [if_neg (by omega)]; rw [if_neg (by omega)]; rw [if_neg (by omega)]
              have s0 : ¬ ((4096 : Int) < n) := by omega
              have g0 : (1 : Int) < n := by omega
              have g1 : (4 : Int) < n := by omega
              have g2 : (16 : Int) < n := by omega
              have g3 : (64 : Int) < n := by omega
              have g4 : (256 : Int) < n := by omega
              have g5 : (1024 : Int) < n := by omega
              clear hn c0 c1 c2 c3 c4 c5
              rw [HE.out]
              clear HE
              go_enter Try.func16, Try.ntmps16
              go_wp2
              go_rounds 7
              go_returns
              exact ⟨by simp, rfl⟩
theorem hL_4 (n : Int) (h0 : 0 ≤ n) : hL 1 ((n + 3) / 4) = hL 4 n := by
  unfold hL
  by_cases c0 : n ≤ 4
  · rw [if_pos c0, if_pos (by omega)]
  · rw [if_neg c0, if_neg (by omega)]
    by_cases c1 : n ≤ 4 * 4
    · rw [if_pos c1, if_pos (by omega)]
    · rw [if_neg c1, if_neg (by omega)]
      by_cases c2 : n ≤ 16 * 4
      · rw [if_pos c2, if_pos (by omega)]
      · rw [if_neg c2, if_neg (by omega)]
        by_cases c3 : n ≤ 64 * 4
        · rw [if_pos c3, if_pos (by omega)]
        · rw [if_neg c3, if_neg (by omega)]
          by_cases c4 : n ≤ 256 * 4
          · rw [if_pos c4, if_pos (by omega)]
          · rw [if_neg c4, if_neg (by omega)]
            by_cases c5 : n ≤ 1024 * 4
            · rw [if_pos c5, if_pos (by omega)]
            · rw [if_neg c5, if_neg (by omega)]
end Go.Proofs.Ytalnfphlhcojcaa

namespace Go.Proofs.Ytalnfphlhcojcaa
open Go Go.RowKit
set_option linter.unusedSimpArgs false
set_option linter.unusedVariables false
/-- a root: blocks, counter, the table's tree, inodes, the map's tree, used -/
structure Sup where
  b : Int
  c : Nat
  th : Int
  tr : Rf
  n : Int
  mh : Int
  mr : Rf
  u : Int
  deriving DecidableEq
def su0 : Sup := ⟨0, 0, 0, rf0, 0, 0, rf0, 0⟩
/-- what any root is that can stand in the memory -/
structure SuW (x : Sup) : Prop where
  b : -9223372036854775808 ≤ x.b ∧ x.b ≤ 9223372036854775807
  c : x.c < 18446744073709551616
  th : -9223372036854775808 ≤ x.th ∧ x.th ≤ 9223372036854775807
  ta : x.tr.1 < 4294967296
  td : okD x.tr.2
  n : -9223372036854775808 ≤ x.n ∧ x.n ≤ 9223372036854775807
  mh : -9223372036854775808 ≤ x.mh ∧ x.mh ≤ 9223372036854775807
  ma : x.mr.1 < 4294967296
  md : okD x.mr.2
  u : -9223372036854775808 ≤ x.u ∧ x.u ≤ 9223372036854775807
def suF (x : Sup) : Nat → Value := fun i => if i = 0 then .int .i64 x.b else if i = 1 then .int .u64 ((x.c : Nat) : Int) else if i < 36 then tiF x.th x.tr (i - 2) else if i = 36 then .int .i64 x.n else if i < 71 then tiF x.mh x.mr (i - 37) else .int .i64 x.u
def suC (x : Sup) : Array Value := va 72 (suF x)
theorem suC_size (x : Sup) : (suC x).size = 72 := va_size _ _
theorem suF_one (x : Sup) (i : Nat) : (suF x i).oneCell' = true := by
  unfold suF
  split
  · rfl
  · split
    · rfl
    · split
      · exact tiF_one _ _ _
      · split
        · rfl
        · split
          · exact tiF_one _ _ _
          · rfl
theorem suC_all (x : Sup) : (suC x).all (·.oneCell') = true := va_one fun i _ => suF_one _ _
theorem tiC_all (h : Int) (r : Rf) : (tiC h r).all (·.oneCell') = true := va_one fun i _ => tiF_one _ _ _
theorem su_table (x : Sup) : (suC x).extract 2 (2 + 34) = tiC x.th x.tr := by
  unfold suC tiC
  rw [va_extract 72 2 34 _ (by decide)]
  refine va_congr fun i hi => ?_
  unfold suF
  rw [if_neg (by omega), if_neg (by omega), if_pos (by omega), show 2 + i - 2 = i by omega]
theorem su_map (x : Sup) : (suC x).extract 37 (37 + 34) = tiC x.mh x.mr := by
  unfold suC tiC
  rw [va_extract 72 37 34 _ (by decide)]
  refine va_congr fun i hi => ?_
  unfold suF
  rw [if_neg (by omega), if_neg (by omega), if_neg (by omega), if_neg (by omega), if_pos (by omega), show 37 + i - 37 = i by omega]
theorem sizeSup : (Try.prog.info? 31).map (·.size) = some 72 := by kernel_rfl
theorem sizeRSup : (Try.prog.info? 45).map (·.size) = some 72 := by kernel_rfl
theorem zero_rsup (w : World) : (zeroValue 45).run Try.prog w = .ok (.agg (suC su0)) w := zero_of (by kernel_rfl) w
theorem zero_rti (w : World) : (zeroValue 43).run Try.prog w = .ok (.agg (tiC 0 rf0)) w := zero_of (by kernel_rfl) w
theorem sup_c0 {w : World} {g T : Nat} {x : Sup} (h : Blk w g T (suC x)) : w.cell? ⟨g, 0, none⟩ = some (.int .i64 x.b) := by rw [h.cell]; exact va_at (suF x) (by decide)
theorem sup_c1 {w : World} {g T : Nat} {x : Sup} (h : Blk w g T (suC x)) : w.cell? ⟨g, 1, none⟩ = some (.int .u64 ((x.c : Nat) : Int)) := by rw [h.cell]; exact va_at (suF x) (by decide)
theorem sup_c2 {w : World} {g T : Nat} {x : Sup} (h : Blk w g T (suC x)) : w.cell? ⟨g, 2, none⟩ = some (.int .i64 x.th) := by rw [h.cell]; exact va_at (suF x) (by decide)
theorem sup_c3 {w : World} {g T : Nat} {x : Sup} (h : Blk w g T (suC x)) : w.cell? ⟨g, 3, none⟩ = some (.int .u32 ((x.tr.1 : Nat) : Int)) := by rw [h.cell]; exact va_at (suF x) (by decide)
theorem sup_c36 {w : World} {g T : Nat} {x : Sup} (h : Blk w g T (suC x)) : w.cell? ⟨g, 36, none⟩ = some (.int .i64 x.n) := by rw [h.cell]; exact va_at (suF x) (by decide)
theorem sup_c37 {w : World} {g T : Nat} {x : Sup} (h : Blk w g T (suC x)) : w.cell? ⟨g, 37, none⟩ = some (.int .i64 x.mh) := by rw [h.cell]; exact va_at (suF x) (by decide)
theorem sup_c38 {w : World} {g T : Nat} {x : Sup} (h : Blk w g T (suC x)) : w.cell? ⟨g, 38, none⟩ = some (.int .u32 ((x.mr.1 : Nat) : Int)) := by rw [h.cell]; exact va_at (suF x) (by decide)
theorem sup_c71 {w : World} {g T : Nat} {x : Sup} (h : Blk w g T (suC x)) : w.cell? ⟨g, 71, none⟩ = some (.int .i64 x.u) := by rw [h.cell]; exact va_at (suF x) (by decide)
end Go.Proofs.Ytalnfphlhcojcaa

namespace Go.Proofs.Ytalnfphlhcojcaa
open Go.ChangeShapes Go.WideShapes Go.ChangeAt Go.RowKit Go.Joins
set_option linter.unusedVariables false
set_option linter.unusedSimpArgs false
set_option maxRecDepth 100000 in
theorem open_ti_cells {H : Type} {enc : TypeId × Value → H} {W : World} {fuel : Nat} {l : List Value} {x : DataW H × List MemPlace} (hl : l.length = 34)
    (hf : DataW.trod enc Try.prog W 0 (fun _ => true) true fuel 29 l = some x) : ∃ (h : Int) (r : Rf), l = (tiC h r).toList ∧ (-9223372036854775808 ≤ h ∧ h ≤ 9223372036854775807) ∧ r.1 < 4294967296 ∧ okD r.2 := by
  have hc8 : Try.prog.cellsOf 3 = 1 := by kernel_rfl
  have hcr : Try.prog.cellsOf 27 = 33 := by kernel_rfl
  obtain ⟨xs, k, hk, hxy, _, hxl, hfs⟩ := DataW.trod_struct Try.underlying29 hf
  match xs, hxl with
  | [y0, y1], _ =>
    have g0 : DataW.trod enc Try.prog W 0 (fun _ => true) true k 3 ((l.drop 0).take (Try.prog.cellsOf 3)) = some y0 := hfs 0 _ rfl
    have g1 : DataW.trod enc Try.prog W 0 (fun _ => true) true k 27 ((l.drop 1).take (Try.prog.cellsOf 27)) = some y1 := hfs 1 _ rfl
    rw [hc8] at g0
    rw [hcr] at g1
    obtain ⟨c0, e0, _, w0⟩ := DataW.trod_int Try.underlying3 g0
    have b0 := bounds_i64 w0
    have l0 : l[0]? = some (.int .i64 c0) := nd_take_one e0
    obtain ⟨r, h0, h1, h2⟩ := open_ref_cells (by rw [List.length_take, List.length_drop, hl]; decide) g1
    refine ⟨c0, r, ?_, b0, h1, h2⟩
    apply List.ext_getElem?
    intro i
    by_cases hi : i < 34
    · have hr : (tiC c0 r).toList[i]? = some (tiF c0 r i) := by
        have := va_at (tiF c0 r) hi
        unfold tiC
        simpa using this
      rw [hr]
      unfold tiF
      by_cases i0 : i = 0
      · subst i0
        rw [if_pos rfl, l0]
      rw [if_neg i0]
      have h4 := congrArg (fun z => z[i - 1]?) h0
      simp only [List.getElem?_take, List.getElem?_drop] at h4
      rw [if_pos (by omega), show 1 + (i - 1) = i by omega] at h4
      rw [h4]
      have := va_at (rfF r.1 r.2) (show i - 1 < 33 by omega)
      unfold rfC
      simpa using this
    · rw [List.getElem?_eq_none (by omega), List.getElem?_eq_none (by rw [Array.length_toList, tiC_size]; omega)]
set_option maxRecDepth 100000 in
theorem open_sup_cells {H : Type} {enc : TypeId × Value → H} {W : World} {fuel : Nat} {l : List Value} {x : DataW H × List MemPlace} (hl : l.length = 72)
    (hf : DataW.trod enc Try.prog W 0 (fun _ => true) true fuel 31 l = some x) : ∃ y : Sup, l = (suC y).toList ∧ SuW y := by
  have hc8 : Try.prog.cellsOf 3 = 1 := by kernel_rfl
  have hcu : Try.prog.cellsOf 22 = 1 := by kernel_rfl
  have hct : Try.prog.cellsOf 29 = 34 := by kernel_rfl
  obtain ⟨xs, k, hk, hxy, _, hxl, hfs⟩ := DataW.trod_struct Try.underlying31 hf
  match xs, hxl with
  | [y0, y1, y2, y3, y4, y5], _ =>
    have g0 : DataW.trod enc Try.prog W 0 (fun _ => true) true k 3 ((l.drop 0).take (Try.prog.cellsOf 3)) = some y0 := hfs 0 _ rfl
    have g1 : DataW.trod enc Try.prog W 0 (fun _ => true) true k 22 ((l.drop 1).take (Try.prog.cellsOf 22)) = some y1 := hfs 1 _ rfl
    have g2 : DataW.trod enc Try.prog W 0 (fun _ => true) true k 29 ((l.drop 2).take (Try.prog.cellsOf 29)) = some y2 := hfs 2 _ rfl
    have g3 : DataW.trod enc Try.prog W 0 (fun _ => true) true k 3 ((l.drop 36).take (Try.prog.cellsOf 3)) = some y3 := hfs 3 _ rfl
    have g4 : DataW.trod enc Try.prog W 0 (fun _ => true) true k 29 ((l.drop 37).take (Try.prog.cellsOf 29)) = some y4 := hfs 4 _ rfl
    have g5 : DataW.trod enc Try.prog W 0 (fun _ => true) true k 3 ((l.drop 71).take (Try.prog.cellsOf 3)) = some y5 := hfs 5 _ rfl
    rw [hc8] at g0 g3 g5
    rw [hcu] at g1
    rw [hct] at g2 g4
    obtain ⟨c0, e0, _, w0⟩ := DataW.trod_int Try.underlying3 g0
    obtain ⟨c1, e1, _, w1⟩ := DataW.trod_int Try.underlying22 g1
    obtain ⟨c3, e3, _, w3⟩ := DataW.trod_int Try.underlying3 g3
    obtain ⟨c5, e5, _, w5⟩ := DataW.trod_int Try.underlying3 g5
    have b0 := bounds_i64 w0
    have b1 := bounds_u64 w1
    have b3 := bounds_i64 w3
    have b5 := bounds_i64 w5
    have l0 : l[0]? = some (.int .i64 c0) := nd_take_one e0
    have l1 : l[1]? = some (.int .u64 c1) := nd_take_one e1
    have l3 : l[36]? = some (.int .i64 c3) := nd_take_one e3
    have l5 : l[71]? = some (.int .i64 c5) := nd_take_one e5
    obtain ⟨th, tr, t0, t1, t2, t3⟩ := open_ti_cells (by rw [List.length_take, List.length_drop, hl]; decide) g2
    obtain ⟨mh, mr, m0, m1, m2, m3⟩ := open_ti_cells (by rw [List.length_take, List.length_drop, hl]; decide) g4
    refine ⟨⟨c0, c1.toNat, th, tr, c3, mh, mr, c5⟩, ?_, ⟨b0, by show c1.toNat < _; omega, t1, t2, t3, b3, m1, m2, m3, b5⟩⟩
    apply List.ext_getElem?
    intro i
    by_cases hi : i < 72
    · have hr : (suC ⟨c0, c1.toNat, th, tr, c3, mh, mr, c5⟩).toList[i]? = some (suF ⟨c0, c1.toNat, th, tr, c3, mh, mr, c5⟩ i) := by
        have := va_at (suF ⟨c0, c1.toNat, th, tr, c3, mh, mr, c5⟩) hi
        unfold suC
        simpa using this
      rw [hr]
      unfold suF
      by_cases i0 : i = 0
      · subst i0
        rw [if_pos rfl, l0]
      rw [if_neg i0]
      by_cases i1 : i = 1
      · subst i1
        rw [if_pos rfl, l1]
        congr 2
        show c1 = ((c1.toNat : Nat) : Int)
        omega
      rw [if_neg i1]
      by_cases i2 : i < 36
      · rw [if_pos i2]
        have h4 := congrArg (fun z => z[i - 2]?) t0
        simp only [List.getElem?_take, List.getElem?_drop] at h4
        rw [if_pos (by omega), show 2 + (i - 2) = i by omega] at h4
        rw [h4]
        have := va_at (tiF th tr) (show i - 2 < 34 by omega)
        unfold tiC
        simpa using this
      rw [if_neg i2]
      by_cases i3 : i = 36
      · subst i3
        rw [if_pos rfl, l3]
      rw [if_neg i3]
      by_cases i4 : i < 71
      · rw [if_pos i4]
        have h4 := congrArg (fun z => z[i - 37]?) m0
        simp only [List.getElem?_take, List.getElem?_drop] at h4
        rw [if_pos (by omega), show 37 + (i - 37) = i by omega] at h4
        rw [h4]
        have := va_at (tiF mh mr) (show i - 37 < 34 by omega)
        unfold tiC
        simpa using this
      rw [if_neg i4]
      obtain rfl : i = 71 := by omega
      rw [l5]
    · rw [List.getElem?_eq_none (by omega), List.getElem?_eq_none (by rw [Array.length_toList, suC_size]; omega)]
set_option maxRecDepth 100000 in
theorem open_sup {H : Type} {enc : TypeId × Value → H} {W : World} {r : Reach} {b0 : Nat} {v : Value} {d : DataW H} {p : List MemPlace}
    (hv : Value.okWide Try.prog W r b0 31 v) (h : DataW.Trod enc Try.prog W 0 (fun _ => true) true 31 v d p) : ∃ y : Sup, v = .agg (suC y) ∧ SuW y := by
  obtain ⟨cs, rfl, hcs⟩ := okWide_struct Try.underlying31 hv
  obtain ⟨fuel, hf⟩ := h
  have hc : Try.prog.cellsOf 31 = 72 := by kernel_rfl
  rw [hc] at hcs
  have hl : cs.toList.length = 72 := by rw [Array.length_toList]; exact hcs
  obtain ⟨y, h0, h1⟩ := open_sup_cells hl (show DataW.trod enc Try.prog W 0 (fun _ => true) true fuel 31 cs.toList = some (d, p) from hf)
  refine ⟨y, ?_, h1⟩
  congr 1
  exact Array.toList_inj.1 h0
end Go.Proofs.Ytalnfphlhcojcaa

namespace Go.Proofs.Ytalnfphlhcojcaa
open Go.ChangeShapes Go.WideShapes Go.ChangeAt Go.RowKit Go.Joins
set_option linter.unusedVariables false
set_option linter.unusedSimpArgs false

theorem take_one {l : List Value} {o : Nat} {v : Value} (h : (l.drop o).take 1 = [v]) : l[o]? = some v := by
  have h2 : (l.drop o).head? = some v := by
    cases hd : l.drop o with
    | nil => rw [hd] at h; simp at h
    | cons a t => rw [hd] at h; simp at h; rw [h]; rfl
  rw [List.head?_drop] at h2
  exact h2
set_option maxRecDepth 100000 in
theorem open_slot_cells {H : Type} {enc : TypeId × Value → H} {W : World} {fuel : Nat} {l : List Value} {x : DataW H × List MemPlace} (hl : l.length = 34)
    (hf : DataW.trod enc Try.prog W 0 (fun _ => true) true fuel 55 l = some x) :
    ∃ s : Sl, l = (slC s).toList ∧ s.1 < 18446744073709551616 ∧ s.2.1 < 4294967296 ∧ ∀ i, i < 32 → dF s.2.2 i < 256 := by
  have hc8 : Try.prog.cellsOf 22 = 1 := by kernel_rfl
  have hc4 : Try.prog.cellsOf 23 = 1 := by kernel_rfl
  have hc1 : Try.prog.cellsOf 5 = 1 := by kernel_rfl
  have hcr : Try.prog.cellsOf 27 = 33 := by kernel_rfl
  have hcs : Try.prog.cellsOf 25 = 32 := by kernel_rfl
  obtain ⟨xs, k, hk, hxy, _, hxl, hfs⟩ := DataW.trod_struct Try.underlying55 hf
  match xs, hxl with
  | [y0, y1], _ =>
    have g0 : DataW.trod enc Try.prog W 0 (fun _ => true) true k 22 ((l.drop 0).take (Try.prog.cellsOf 22)) = some y0 := hfs 0 _ rfl
    have g1 : DataW.trod enc Try.prog W 0 (fun _ => true) true k 27 ((l.drop 1).take (Try.prog.cellsOf 27)) = some y1 := hfs 1 _ rfl
    rw [hc8] at g0
    rw [hcr] at g1
    obtain ⟨c, e0, _, w0⟩ := DataW.trod_int Try.underlying22 g0
    obtain ⟨zs, k', hk', hzy, _, hzl, hgs⟩ := DataW.trod_struct Try.underlying27 g1
    match zs, hzl with
    | [z0, z1], _ =>
      have q0 : DataW.trod enc Try.prog W 0 (fun _ => true) true k' 23 ((((l.drop 1).take 33).drop 0).take (Try.prog.cellsOf 23)) = some z0 := hgs 0 _ rfl
      have q1 : DataW.trod enc Try.prog W 0 (fun _ => true) true k' 25 ((((l.drop 1).take 33).drop 1).take (Try.prog.cellsOf 25)) = some z1 := hgs 1 _ rfl
      rw [hc4] at q0
      rw [hcs] at q1
      obtain ⟨a, e1, _, w1⟩ := DataW.trod_int Try.underlying23 q0
      have hby := trod_bytes Try.underlying25 Try.underlying5 hc1 q1
      have b0 := bounds_u64 w0
      have b1 := bounds_u32 w1
      have l0 : l[0]? = some (.int .u64 c) := take_one e0
      have l1 : l[1]? = some (.int .u32 a) := by
        have := take_one e1
        rw [List.getElem?_take, if_pos (by decide), List.getElem?_drop] at this
        exact this
      have l2 : ∀ i, i < 32 → ∃ z : Nat, l[2 + i]? = some (.int .u8 ((z : Nat) : Int)) ∧ z < 256 := fun i hi => by
        obtain ⟨z, h1, h2⟩ := hby i hi
        refine ⟨z, ?_, h2⟩
        rw [List.getElem?_take, if_pos hi, List.getElem?_drop, List.getElem?_take, if_pos (by show 1 + i < 33; omega), List.getElem?_drop] at h1
        rw [← h1]
        congr 1
        show 2 + i = 1 + (1 + i)
        omega
      obtain ⟨f, hfz⟩ : ∃ f : Nat → Nat, ∀ i, i < 32 → l[2 + i]? = some (.int .u8 ((f i : Nat) : Int)) ∧ f i < 256 := ⟨fun i => if h : i < 32 then Classical.choose (l2 i h) else 0, fun i hi => by
        simp only [dif_pos hi]
        exact Classical.choose_spec (l2 i hi)⟩
      refine ⟨(c.toNat, a.toNat, sumD f), ?_, by show c.toNat < _; omega, by show a.toNat < _; omega, fun i hi => ?_⟩
      · apply List.ext_getElem?
        intro i
        by_cases hi : i < 34
        · have hr : (slC (c.toNat, a.toNat, sumD f)).toList[i]? = some (slF (c.toNat, a.toNat, sumD f) i) := by
            have := va_at (slF (c.toNat, a.toNat, sumD f)) hi
            unfold slC
            simpa using this
          rw [hr]
          unfold slF
          by_cases h0 : i = 0
          · subst h0
            rw [if_pos rfl, l0]
            congr 2
            show c = ((c.toNat : Nat) : Int)
            omega
          · by_cases h1 : i = 1
            · subst h1
              rw [if_neg h0, if_pos rfl, l1]
              congr 2
              show a = ((a.toNat : Nat) : Int)
              omega
            · rw [if_neg h0, if_neg h1]
              have := (hfz (i - 2) (by omega)).1
              rw [show 2 + (i - 2) = i by omega] at this
              rw [this]
              congr 3
              show f (i - 2) = dF (sumD f) (i - 2)
              rw [dF_sumD f _ (by omega)]
        · rw [List.getElem?_eq_none (by omega), List.getElem?_eq_none (by rw [Array.length_toList, slC_size]; omega)]
      · show dF (sumD f) i < 256
        rw [dF_sumD f i hi]
        exact (hfz i hi).2
set_option maxRecDepth 100000 in
theorem open_slot {H : Type} {enc : TypeId × Value → H} {W : World} {r : Reach} {b0 : Nat} {v : Value} {d : DataW H} {p : List MemPlace}
    (hv : Value.okWide Try.prog W r b0 55 v) (h : DataW.Trod enc Try.prog W 0 (fun _ => true) true 55 v d p) :
    ∃ s : Sl, v = .agg (slC s) ∧ s.1 < 18446744073709551616 ∧ s.2.1 < 4294967296 ∧ ∀ i, i < 32 → dF s.2.2 i < 256 := by
  obtain ⟨cs, rfl, hcs⟩ := okWide_struct Try.underlying55 hv
  obtain ⟨fuel, hf⟩ := h
  have hc : Try.prog.cellsOf 55 = 34 := by kernel_rfl
  rw [hc] at hcs
  have hl : cs.toList.length = 34 := by rw [Array.length_toList]; exact hcs
  obtain ⟨s, h0, h1, h2, h3⟩ := open_slot_cells hl (show DataW.trod enc Try.prog W 0 (fun _ => true) true fuel 55 cs.toList = some (d, p) from hf)
  refine ⟨s, ?_, h1, h2, h3⟩
  congr 1
  exact Array.toList_inj.1 h0
end Go.Proofs.Ytalnfphlhcojcaa

namespace Go.Proofs.Ytalnfphlhcojcaa
open Go Go.RowKit
set_option linter.unusedSimpArgs false
set_option linter.unusedVariables false
set_option maxHeartbeats 4000000 in
theorem sleast4 (n : Int) (h0 : -9223372036854775808 ≤ n) (hn : n ≤ 16384) (w : World) : Calls Try.prog 35 #[.int .i64 4, .int .i64 n] w fun e w' => e = .returned (.int .i64 (hL 4 n)) ∧ w' = w := by
  by_cases c0 : n ≤ 4
  · have HE : Hid (hL 4 n = 0) := by show hL 4 n = 0; unfold hL; rw [if_pos (by omega)]
    have s0 : ¬ ((4 : Int) < n) := by omega
    clear hn c0
    rw [HE.out]
    clear HE
    go_enter Try.func35, Try.ntmps35
    go_wp2
    go_rounds 1
    go_returns
    exact ⟨by simp, rfl⟩
  · skip
    by_cases c1 : n ≤ 16
    · have HE : Hid (hL 4 n = 1) := by show hL 4 n = 1; unfold hL; rw [if_neg (by omega)]; rw [if_pos (by omega)]
      have s0 : ¬ ((16 : Int) < n) := by omega
      have g0 : (4 : Int) < n := by omega
      clear hn c0 c1
      rw [HE.out]
      clear HE
      go_enter Try.func35, Try.ntmps35
      go_wp2
      go_rounds 2
      go_returns
      exact ⟨by simp, rfl⟩
    · skip
      by_cases c2 : n ≤ 64
      · have HE : Hid (hL 4 n = 2) := by show hL 4 n = 2; unfold hL; rw [if_neg (by omega)]; rw [if_neg (by omega)]; rw [if_pos (by omega)]
        have s0 : ¬ ((64 : Int) < n) := by omega
        have g0 : (4 : Int) < n := by omega
        have g1 : (16 : Int) < n := by omega
        clear hn c0 c1 c2
        rw [HE.out]
        clear HE
        go_enter Try.func35, Try.ntmps35
        go_wp2
        go_rounds 3
        go_returns
        exact ⟨by simp, rfl⟩
      · skip
        by_cases c3 : n ≤ 256
        · have HE : Hid (hL 4 n = 3) := by show hL 4 n = 3; unfold hL; rw [if_neg (by omega)]; rw [if_neg (by omega)]; rw [if_neg (by omega)]; rw [if_pos (by omega)]
          have s0 : ¬ ((256 : Int) < n) := by omega
          have g0 : (4 : Int) < n := by omega
          have g1 : (16 : Int) < n := by omega
          have g2 : (64 : Int) < n := by omega
          clear hn c0 c1 c2 c3
          rw [HE.out]
          clear HE
          go_enter Try.func35, Try.ntmps35
          go_wp2
          go_rounds 4
          go_returns
          exact ⟨by simp, rfl⟩
        · skip
          by_cases c4 : n ≤ 1024
          · have HE : Hid (hL 4 n = 4) := by show hL 4 n = 4; unfold hL; rw [if_neg (by omega)]; rw [if_neg (by omega)]; rw [if_neg (by omega)]; rw [if_neg (by omega)]; rw [if_pos (by omega)]
            have s0 : ¬ ((1024 : Int) < n) := by omega
            have g0 : (4 : Int) < n := by omega
            have g1 : (16 : Int) < n := by omega
            have g2 : (64 : Int) < n := by omega
            have g3 : (256 : Int) < n := by omega
            clear hn c0 c1 c2 c3 c4
            rw [HE.out]
            clear HE
            go_enter Try.func35, Try.ntmps35
            go_wp2
            go_rounds 5
            go_returns
            exact ⟨by simp, rfl⟩
          · skip
            by_cases c5 : n ≤ 4096
            · have HE : Hid (hL 4 n = 5) := by show hL 4 n = 5; unfold hL; rw [if_neg (by omega)]; rw [if_neg (by omega)]; rw [if_neg (by omega)]; rw [if_neg (by omega)]; rw [if_neg (by omega)]; rw [if_pos (by omega)]
              have s0 : ¬ ((4096 : Int) < n) := by omega
              have g0 : (4 : Int) < n := by omega
              have g1 : (16 : Int) < n := by omega
              have g2 : (64 : Int) < n := by omega
              have g3 : (256 : Int) < n := by omega
              have g4 : (1024 : Int) < n := by omega
              clear hn c0 c1 c2 c3 c4 c5
              rw [HE.out]
              clear HE
              go_enter Try.func35, Try.ntmps35
              go_wp2
              go_rounds 6
              go_returns
              exact ⟨by simp, rfl⟩
            · skip
              have HE : Hid (hL 4 n = 6) := by show hL 4 n = 6; unfold hL; rw [if_neg (by omega)]; rw [if_neg (by omega)]; rw [if_neg (by omega)]; rw [if_neg (by omega)]; rw [if_neg (by omega)]; rw [if_neg (by omega)]
              have s0 : ¬ ((16384 : Int) < n) := by omega
              have g0 : (4 : Int) < n := by omega
              have g1 : (16 : Int) < n := by omega
              have g2 : (64 : Int) < n := by omega
              have g3 : (256 : Int) < n := by omega
              have g4 : (1024 : Int) < n := by omega
              have g5 : (4096 : Int) < n := by omega
              clear hn c0 c1 c2 c3 c4 c5
              rw [HE.out]
              clear HE
              go_enter Try.func35, Try.ntmps35
              go_wp2
              go_rounds 7
              go_returns
              exact ⟨by simp, rfl⟩
set_option maxHeartbeats 4000000 in
theorem sleast1k (n : Int) (h0 : -9223372036854775808 ≤ n) (hn : n ≤ 4194304) (w : World) : Calls Try.prog 35 #[.int .i64 1024, .int .i64 n] w fun e w' => e = .returned (.int .i64 (hL 1024 n)) ∧ w' = w := by
  by_cases c0 : n ≤ 1024
  · have HE : Hid (hL 1024 n = 0) := by show hL 1024 n = 0; unfold hL; rw [if_pos (by omega)]
    have s0 : ¬ ((1024 : Int) < n) := by omega
    clear hn c0
    rw [HE.out]
    clear HE
    go_enter Try.func35, Try.ntmps35
    go_wp2
    go_rounds 1
    go_returns
    exact ⟨by simp, rfl⟩
  · skip
    by_cases c1 : n ≤ 4096
    · have HE : Hid (hL 1024 n = 1) := by show hL 1024 n = 1; unfold hL; rw [if_neg (by omega)]; rw [if_pos (by omega)]
      have s0 : ¬ ((4096 : Int) < n) := by omega
      have g0 : (1024 : Int) < n := by omega
      clear hn c0 c1
      rw [HE.out]
      clear HE
      go_enter Try.func35, Try.ntmps35
      go_wp2
      go_rounds 2
      go_returns
      exact ⟨by simp, rfl⟩
    · skip
      by_cases c2 : n ≤ 16384
      · have HE : Hid (hL 1024 n = 2) := by show hL 1024 n = 2; unfold hL; rw [if_neg (by omega)]; rw [if_neg (by omega)]; rw [if_pos (by omega)]
        have s0 : ¬ ((16384 : Int) < n) := by omega
        have g0 : (1024 : Int) < n := by omega
        have g1 : (4096 : Int) < n := by omega
        clear hn c0 c1 c2
        rw [HE.out]
        clear HE
        go_enter Try.func35, Try.ntmps35
        go_wp2
        go_rounds 3
        go_returns
        exact ⟨by simp, rfl⟩
      · skip
        by_cases c3 : n ≤ 65536
        · have HE : Hid (hL 1024 n = 3) := by show hL 1024 n = 3; unfold hL; rw [if_neg (by omega)]; rw [if_neg (by omega)]; rw [if_neg (by omega)]; rw [if_pos (by omega)]
          have s0 : ¬ ((65536 : Int) < n) := by omega
          have g0 : (1024 : Int) < n := by omega
          have g1 : (4096 : Int) < n := by omega
          have g2 : (16384 : Int) < n := by omega
          clear hn c0 c1 c2 c3
          rw [HE.out]
          clear HE
          go_enter Try.func35, Try.ntmps35
          go_wp2
          go_rounds 4
          go_returns
          exact ⟨by simp, rfl⟩
        · skip
          by_cases c4 : n ≤ 262144
          · have HE : Hid (hL 1024 n = 4) := by show hL 1024 n = 4; unfold hL; rw [if_neg (by omega)]; rw [if_neg (by omega)]; rw [if_neg (by omega)]; rw [if_neg (by omega)]; rw [if_pos (by omega)]
            have s0 : ¬ ((262144 : Int) < n) := by omega
            have g0 : (1024 : Int) < n := by omega
            have g1 : (4096 : Int) < n := by omega
            have g2 : (16384 : Int) < n := by omega
            have g3 : (65536 : Int) < n := by omega
            clear hn c0 c1 c2 c3 c4
            rw [HE.out]
            clear HE
            go_enter Try.func35, Try.ntmps35
            go_wp2
            go_rounds 5
            go_returns
            exact ⟨by simp, rfl⟩
          · skip
            by_cases c5 : n ≤ 1048576
            · have HE : Hid (hL 1024 n = 5) := by show hL 1024 n = 5; unfold hL; rw [if_neg (by omega)]; rw [if_neg (by omega)]; rw [if_neg (by omega)]; rw [if_neg (by omega)]; rw [if_neg (by omega)]; rw [if_pos (by omega)]
              have s0 : ¬ ((1048576 : Int) < n) := by omega
              have g0 : (1024 : Int) < n := by omega
              have g1 : (4096 : Int) < n := by omega
              have g2 : (16384 : Int) < n := by omega
              have g3 : (65536 : Int) < n := by omega
              have g4 : (262144 : Int) < n := by omega
              clear hn c0 c1 c2 c3 c4 c5
              rw [HE.out]
              clear HE
              go_enter Try.func35, Try.ntmps35
              go_wp2
              go_rounds 6
              go_returns
              exact ⟨by simp, rfl⟩
            · skip
              have HE : Hid (hL 1024 n = 6) := by show hL 1024 n = 6; unfold hL; rw [if_neg (by omega)]; rw [if_neg (by omega)]; rw [if_neg (by omega)]; rw [if_neg (by omega)]; rw [if_neg (by omega)]; rw [if_neg (by omega)]
              have s0 : ¬ ((4194304 : Int) < n) := by omega
              have g0 : (1024 : Int) < n := by omega
              have g1 : (4096 : Int) < n := by omega
              have g2 : (16384 : Int) < n := by omega
              have g3 : (65536 : Int) < n := by omega
              have g4 : (262144 : Int) < n := by omega
              have g5 : (1048576 : Int) < n := by omega
              clear hn c0 c1 c2 c3 c4 c5
              rw [HE.out]
              clear HE
              go_enter Try.func35, Try.ntmps35
              go_wp2
              go_rounds 7
              go_returns
              exact ⟨by simp, rfl⟩
theorem hL_1k (n : Int) (h0 : 0 ≤ n) : hL 1 ((n + 1023) / 1024) = hL 1024 n := by
  unfold hL
  by_cases c0 : n ≤ 1024
  · rw [if_pos c0, if_pos (by omega)]
  · rw [if_neg c0, if_neg (by omega)]
    by_cases c1 : n ≤ 4 * 1024
    · rw [if_pos c1, if_pos (by omega)]
    · rw [if_neg c1, if_neg (by omega)]
      by_cases c2 : n ≤ 16 * 1024
      · rw [if_pos c2, if_pos (by omega)]
      · rw [if_neg c2, if_neg (by omega)]
        by_cases c3 : n ≤ 64 * 1024
        · rw [if_pos c3, if_pos (by omega)]
        · rw [if_neg c3, if_neg (by omega)]
          by_cases c4 : n ≤ 256 * 1024
          · rw [if_pos c4, if_pos (by omega)]
          · rw [if_neg c4, if_neg (by omega)]
            by_cases c5 : n ≤ 1024 * 1024
            · rw [if_pos c5, if_pos (by omega)]
            · rw [if_neg c5, if_neg (by omega)]
end Go.Proofs.Ytalnfphlhcojcaa
