/- Descriptors: New, Open, Dup, Seek, All, Len, Uses, Clone. -/
import Derived.Test.YtldkmogennmldaaHSegsIf
import Derived.Deep.MidRow
import Derived.Handy
import Derived.Great.BuildSlice
import Derived.BigQuiet
import Derived.Deep.QuietTactic
import Derived.Deep.Cut
import Derived.Deep.DeepCutAuto

namespace Go.Proofs.Ytldkmogennmldaa
open Go Go.RowKit

section
variable {P : Program} {ops : Array Oper} {Q : Exit → Act → World → Prop} {md : Region.Mode} {Wl : List Nat} {S : World → Prop}

theorem takeS_gen {i fuel : Nat} {o : Oper} {v : Value} {listed : Array Bool} {a : Act} {w : World} (hs : Region.noSelect ops = true) (hi : ops[i]? = some o) (hr : (Region.ready md ops listed).contains i = true)
    (hf : Region.free md ops listed i = true) (hWi : Wl.contains i = false) (hwait : waitW md ops listed i Wl (waitArr md ops listed i) = true) (hy : YieldsIf P ops S o v a) (hS : S w)
    (hK : wpAnyW P md ops (Strict Q) S (Wl.contains ·) fuel (listed.setIfInBounds i true) (a.put o.dst v) w) :
    wpAnyW P md ops (Strict Q) S (Wl.contains ·) (fuel + 1) listed a w := by
  generalize hwt : waitArr md ops listed i = arr at hwait
  unfold waitW at hwait
  rw [List.all_eq_true] at hwait
  have hall : ∀ j oj, ops[j]? = some oj → (if arr.getD j false then (j == i || oj.after.any fun e => Region.binds md e && arr.getD e.on false && decide (e.on < ops.size)) && !listed.getD j true else !Wl.contains j) = true := fun j oj hj => by
    have h1 := hwait j (List.mem_range.2 (Array.getElem?_eq_some_iff.1 hj).1)
    rw [hj] at h1; exact h1
  have hin : ∀ j, decide (j < ops.size) = true → ∃ oj, ops[j]? = some oj := fun j hj => ⟨_, Array.getElem?_eq_getElem (of_decide_eq_true hj)⟩
  refine wpAnyW_take hi (Region.noSelect_spec hs) (fun j => arr.getD j false && decide (j < ops.size)) (v := v) (strict_frame _ _) ?_ ?_ hWi fuel listed a w (Region.free_spec hi hf) ?_ (by simpa using hr) hy hS hK
  · intro j oj hj hw hne
    simp only [Bool.and_eq_true] at hw
    have h1 := hall j oj hj
    rw [if_pos hw.1] at h1
    simp only [Bool.and_eq_true, Bool.or_eq_true, beq_iff_eq, hne, false_or] at h1
    obtain ⟨e, he, hb⟩ := Array.any_eq_true'.1 h1.1
    simp only [Bool.and_eq_true] at hb
    exact ⟨e, he, hb.1.1, by simp only [Bool.and_eq_true]; exact ⟨hb.1.2, hb.2⟩⟩
  · intro j oj hj hw
    have hlt : decide (j < ops.size) = true := decide_eq_true (Array.getElem?_eq_some_iff.1 hj).1
    have h1 := hall j oj hj
    cases hq : arr.getD j false with
    | true => rw [hlt]; rfl
    | false => rw [if_neg (by rw [hq]; decide), hw] at h1; cases h1
  · intro j hw
    simp only [Bool.and_eq_true] at hw
    obtain ⟨oj, hj⟩ := hin j hw.2
    have h1 := hall j oj hj
    rw [if_pos hw.1] at h1
    simp only [Bool.and_eq_true, Bool.not_eq_true'] at h1
    exact h1.2

theorem forceS_step {i fuel : Nat} {listed : Array Bool} {a : Act} {w : World} (hb : forceW md ops listed i = true)
    (h : wpOp P ops (Strict Q) i (fun a' w' => (Wl.contains i = false → S w') ∧ wpAnyW P md ops (Strict Q) S (Wl.contains ·) fuel (listed.setIfInBounds i true) a' w') a w) :
    wpAnyW P md ops (Strict Q) S (Wl.contains ·) (fuel + 1) listed a w := by
  unfold forceW at hb
  simp only [Bool.and_eq_true, beq_iff_eq] at hb
  refine ⟨fun h0 => absurd (hb.1.symm.trans h0) (by simp), ?_⟩
  rw [hb.1]
  intro j hj
  have : j = i := by simpa using hj
  subst this; exact h

theorem takeS_step {i fuel : Nat} {listed : Array Bool} {a : Act} {w : World} (hs : Region.noSelect ops = true) (hb : takeW md ops listed Wl [] i = true) (hS : S w)
    (h : wpOp P ops (Strict Q) i (fun a' w' => S w' → wpAnyW P md ops (Strict Q) S (Wl.contains ·) fuel (listed.setIfInBounds i true) a' w') a w) :
    wpAnyW P md ops (Strict Q) S (Wl.contains ·) (fuel + 1) listed a w := by
  unfold takeW at hb
  cases hi : ops[i]? with
  | none => rw [hi] at hb; cases hb
  | some o =>
    rw [hi] at hb
    simp only [Bool.and_eq_true, Bool.or_eq_true, Bool.not_eq_true'] at hb
    obtain ⟨⟨⟨⟨hr, hf⟩, hWi⟩, hk⟩, hwait⟩ := hb
    have key : ∃ v, wpAnyW P md ops (Strict Q) S (Wl.contains ·) fuel (listed.setIfInBounds i true) (a.put o.dst v) w ∧ YieldsIf P ops S o v a := by
      unfold wpOp at h
      simp only [hi] at h
      by_cases hw : Region.wanted o (yielded ops a.tmps) = true
      · simp only [hw, if_true] at h
        rcases h with h | ⟨_, h⟩
        · unfold Oper.wp at h
          have hrun : ∃ v, (execOp a.eval o).run P w = .ok (.value v) w ∧ ∀ w', S w' → (execOp a.eval o).run P w' = .ok (.value v) w' := by
            cases hsr : (execOp a.eval o).run P w with
            | ok n w1 =>
              rcases hk with hk | hk
              · obtain ⟨hp, hv⟩ := kindV_run (P := P) hk a.eval
                obtain ⟨v, rfl⟩ := hv _ _ _ hsr
                obtain ⟨rfl, h2⟩ := hp _ _ _ hsr
                exact ⟨v, rfl, fun w' _ => h2 w'⟩
              · obtain ⟨t, x, hop, hx⟩ := lowLoad_run hk
                cases hx
            | halt y w1 =>
              rw [hsr] at h
              cases y <;> simp only [Oper.upon, Strict] at h <;> first | exact absurd h.1 (by intro e; cases e) | exact h.elim
          obtain ⟨v, h1, h2⟩ := hrun
          rw [h1, Oper.upon_value] at h
          exact ⟨v, h hS, .inl ⟨hw, h2⟩⟩
        · exact absurd h Strict.noOut
      · rw [Bool.not_eq_true] at hw
        simp only [hw, Bool.false_eq_true, if_false] at h
        exact ⟨undef, h hS, .inr ⟨hw, rfl⟩⟩
    obtain ⟨v, hK, hy⟩ := key
    exact takeS_gen hs hi hr hf hWi hwait hy hS hK

theorem takesS_step (hs : Region.noSelect ops = true) (more : List Nat) (fuel : Nat) (Q' : Exit → Act → World → Prop) :
    ∀ (ts : List Nat) (listed l2 : Array Bool) (a : Act) (w : World), takesB md ops Wl [] ts listed = some l2 →
      (∀ a' w', S w' → wpList P ops (Strict Q') (more.filterMap fun i => ops[i]?) a' w' → wpAnyW P md ops (Strict Q) S (Wl.contains ·) fuel l2 a' w') →
      S w → wpList P ops (Strict Q') ((ts ++ more).filterMap fun i => ops[i]?) a w →
      wpAnyW P md ops (Strict Q) S (Wl.contains ·) (ts.length + fuel) listed a w := by
  intro ts
  induction ts with
  | nil =>
    intro listed l2 a w hb hn hS h
    simp only [takesB, Option.some.injEq] at hb
    subst hb
    rw [List.length_nil, Nat.zero_add]
    exact hn a w hS h
  | cons i rest ih =>
    intro listed l2 a w hb hn hS h
    unfold takesB at hb
    split at hb
    · rename_i hc
      have hlen : (i :: rest).length + fuel = (rest.length + fuel) + 1 := by simp only [List.length_cons]; omega
      rw [hlen]
      obtain ⟨o, ho⟩ := has_op hc
      refine takeS_step hs hc hS (wpOp_mono (fun a' w' h' h2 => ?_) (wpOp_strict (wpList_one ho h)))
      exact ih _ l2 a' w' hb hn h2 h'
    · cases hb

theorem tailS_step : ∀ (ts : List Nat) (listed : Array Bool) (a : Act) (w : World), tailB md ops Wl ts listed = true → wpList P ops (Strict Q) (ts.filterMap fun i => ops[i]?) a w →
    wpAnyW P md ops (Strict Q) S (Wl.contains ·) ts.length listed a w
  | [], listed, a, w, hb, h => ⟨by simpa [tailB] using hb, h⟩
  | i :: rest, listed, a, w, hb, h => by
    simp only [tailB, Bool.and_eq_true] at hb
    obtain ⟨o, ho⟩ := has_op' hb.1.1
    refine forceS_step hb.1.1 (wpOp_mono (fun a' w' h' => ?_) (wpList_one ho h))
    exact ⟨fun e => (by rw [hb.1.2] at e; cases e), tailS_step rest _ a' w' hb.2 h'⟩

theorem partsS_step (hs : Region.noSelect ops = true) (takes tail : List Nat) :
    ∀ (ps : List (List Nat × Nat × Bool)) (listed : Array Bool) (a : Act) (w : World), partsB md ops Wl [] ps takes tail listed = true → S w →
      wpPartsI P ops Q S ps (takes ++ tail) a w → wpAnyW P md ops (Strict Q) S (Wl.contains ·) (lenOf ps (takes.length + tail.length)) listed a w
  | [], listed, a, w, hb, hS, h => by
    unfold partsB at hb
    split at hb
    · rename_i l2 hl2
      exact takesS_step hs tail tail.length Q takes listed l2 a w hl2 (fun a' w' _ h' => tailS_step tail l2 a' w' hb h') hS h
    · cases hb
  | (ts, i, false) :: rest, listed, a, w, hb, hS, h => by
    unfold partsB at hb
    split at hb
    · rename_i l2 hl2
      simp only [Bool.and_eq_true, Bool.not_eq_true', Bool.false_eq_true, if_false] at hb
      refine takesS_step hs [i] _ _ ts listed l2 a w hl2 (fun a' w' _ h' => ?_) hS h
      obtain ⟨o, ho⟩ := has_op' hb.1.1
      rw [Nat.add_comm 1]
      refine forceS_step hb.1.1 (wpOp_mono (fun a2 w2 h2 => ?_) (wpOp_strict (wpList_one ho h')))
      have h3 := h2.2
      exact ⟨fun _ => h3.1, partsS_step hs takes tail rest _ a2 w2 hb.2 h3.1 h3.2⟩
    · cases hb
  | (ts, i, true) :: rest, listed, a, w, hb, hS, h => by
    unfold partsB at hb
    split at hb
    · rename_i l2 hl2
      simp only [Bool.and_eq_true, if_true] at hb
      refine takesS_step hs [] _ _ ts listed l2 a w hl2 (fun a' w' hS' h' => ?_) hS h
      obtain ⟨-, o, v, ho, hy, hn⟩ := h'
      have hc := hb.1
      unfold yieldW at hc
      rw [ho] at hc
      simp only [Bool.and_eq_true, Bool.not_eq_true'] at hc
      rw [Nat.add_comm 1]
      exact takeS_gen hs ho hc.1.1.1 hc.1.1.2 hc.1.2 hc.2 hy hS' (partsS_step hs takes tail rest _ _ w' hb.2 hS' hn)
    · cases hb

/-- THE LAW. -/
theorem wp_region_partsS {id : Nat} {a : Act} {w : World} (S : World → Prop) (ps : List (List Nat × Nat × Bool)) (takes tail : List Nat) (hm : P.follows .mixedOrders = true) (hB : wholeB ops tail [] ps takes tail = true)
    (hS : S w.drew) (h : wpPartsI P ops Q S ps (takes ++ tail) a w.drew) : (Code.region id ops true).wp P Q a w := by
  unfold wholeB at hB
  simp only [Bool.and_eq_true, beq_iff_eq] at hB
  refine Code.wp_mono Strict.imp (wp_region_any hm ?_)
  rw [← hB.1.1.1]
  exact wpAny_of_W _ _ _ _ (partsS_step hB.1.1.2 takes tail ps _ a _ (by rw [hB.1.1.1]; exact hB.2) hS h)
end
end Go.Proofs.Ytldkmogennmldaa

namespace Go.Proofs.Ytldkmogennmldaa
open Go Go.RowKit

/-- the plan of a region's walk -/
inductive PlanW where
  | fin (takes : List Nat)
  | force (ts : List Nat) (i : Nat) (next : PlanW)
  | yield (ts : List Nat) (i : Nat) (next : PlanW)
  | fork (i j : Nat) (p q : PlanW)
def PlanW.len (tl : List Nat) : PlanW → Nat
  | .fin takes => takes.length + tl.length
  | .force ts _ p => ts.length + (1 + p.len tl)
  | .yield ts _ p => ts.length + (1 + p.len tl)
  | .fork _ _ p _ => p.len tl + 1
/-- the check -/
def PlanW.ok (ops : Array Oper) (tl : List Nat) : PlanW → Array Bool → Bool
  | .fin takes, listed => match takesB .any ops tl [] takes listed with
    | some l => tailB .any ops tl tl l
    | none => false
  | .force ts i p, listed => match takesB .any ops tl [] ts listed with
    | some l => forceW .any ops l i && !tl.contains i && p.ok ops tl (l.setIfInBounds i true)
    | none => false
  | .yield ts i p, listed => match takesB .any ops tl [] ts listed with
    | some l => yieldW .any ops l tl i && p.ok ops tl (l.setIfInBounds i true)
    | none => false
  | .fork i j p q, listed => Region.ready .any ops listed == [i, j] && (ops[i]?).isSome && (ops[j]?).isSome && !tl.contains i && !tl.contains j && p.len tl == q.len tl && p.ok ops tl (listed.setIfInBounds i true) && q.ok ops tl (listed.setIfInBounds j true)
section
variable {P : Program} {ops : Array Oper} {Q : Exit → Act → World → Prop} {S : World → Prop}
end
end Go.Proofs.Ytldkmogennmldaa

namespace Go.Proofs.Ytldkmogennmldaa
open Go Go.RowKit
set_option linter.unusedSimpArgs false
set_option linter.unusedVariables false
/-- a description -/
structure Dsc where
  i : Int
  g : Int
  a : Int
def dsF (x : Dsc) (j : Nat) : Int := if j = 0 then x.i else if j = 1 then x.g else x.a
/-- its cells -/
def dsC (x : Dsc) : Array Value := #[.int .i64 x.i, .int .i64 x.g, .int .i64 x.a]
def ds0 : Dsc := ⟨0, 0, 0⟩
/-- the cells of 64 -/
def fdF (O : Nat → Dsc) (j : Nat) : Value := .int .i64 (dsF (O (j / 3)) (j % 3))
def FdB (w : World) (b : Nat) (O : Nat → Dsc) : Prop := Blk w b 52 (va 192 (fdF O))
/-- one of them turned -/
def upD (O : Nat → Dsc) (n : Nat) (x : Dsc) : Nat → Dsc := fun j => if j = n then x else O j
theorem FdB.lt {w : World} {b : Nat} {O : Nat → Dsc} (h : FdB w b O) : b < w.heap.size := Blk.lt h
theorem FdB.below {w w' : World} {b : Nat} {O : Nat → Dsc} (h : FdB w b O) (hb : Below w.heap.size w w') : FdB w' b O := Blk.below h hb h.lt
theorem FdB.cell {w : World} {b : Nat} {O : Nat → Dsc} (h : FdB w b O) (n j : Nat) (hn : n < 64) (hj : j < 3) : w.cell? ⟨b, n * 3 + j, none⟩ = some (.int .i64 (dsF (O n) j)) := by
  have h1 := Blk.cell h (n * 3 + j)
  rw [va_at _ (by omega)] at h1
  rw [h1]
  unfold fdF
  rw [show (n * 3 + j) / 3 = n by omega, show (n * 3 + j) % 3 = j by omega]
theorem fd_over (O : Nat → Dsc) (n : Nat) (hn : n < 64) (x : Dsc) : va 192 (over (fdF O) (n * 3) (dsC x).toList) = va 192 (fdF (upD O n x)) := va_congr fun i hi => by
  unfold over fdF upD
  have hl : (dsC x).toList.length = 3 := rfl
  rw [hl]
  by_cases h : n * 3 ≤ i ∧ i < n * 3 + 3
  · rw [if_pos h, if_pos (by omega)]
    obtain ⟨k, rfl⟩ : ∃ k, i = n * 3 + k := ⟨i - n * 3, by omega⟩
    rw [show n * 3 + k - n * 3 = k by omega, show (n * 3 + k) % 3 = k by omega]
    have : k < 3 := by omega
    match k, this with
    | 0, _ => rfl
    | 1, _ => rfl
    | 2, _ => rfl
  · rw [if_neg h, if_neg (by omega)]
theorem FdB.put {w : World} {b : Nat} {O : Nat → Dsc} (h : FdB w b O) (n : Nat) (hn : n < 64) (x : Dsc) : FdB (w.setCells b (n * 3) (dsC x).toList) b (upD O n x) := by
  have := Blk.cells_put (dsC x).toList (n * 3) w _ h
  rw [fd_over O n hn x] at this
  exact this
theorem FdB.put2 {w : World} {b : Nat} {O : Nat → Dsc} (h : FdB w b O) (n : Nat) (hn : n < 64) (p : Int) : FdB (w.setCell ⟨b, n * 3 + 2, none⟩ (.int .i64 p)) b (upD O n ⟨(O n).i, (O n).g, p⟩) := by
  have := Blk.put h (n * 3 + 2) (.int .i64 p)
  rw [va_set] at this
  have e : va 192 (upd (fdF O) (n * 3 + 2) (.int .i64 p)) = va 192 (fdF (upD O n ⟨(O n).i, (O n).g, p⟩)) := va_congr fun i hi => by
    unfold upd fdF upD
    by_cases h1 : i = n * 3 + 2
    · subst h1
      rw [if_pos rfl, show (n * 3 + 2) / 3 = n by omega, if_pos rfl, show (n * 3 + 2) % 3 = 2 by omega]
      rfl
    · rw [if_neg h1]
      by_cases h2 : i / 3 = n
      · rw [if_pos h2, h2]
        have h3 : i % 3 = 0 ∨ i % 3 = 1 := by omega
        rcases h3 with h3 | h3 <;> rw [h3] <;> rfl
      · rw [if_neg h2]
  rw [e] at this
  exact this
theorem FdB.range {w : World} {b : Nat} {O : Nat → Dsc} (h : FdB w b O) (n : Nat) (hn : n < 64) : w.rangeAt b (n * 3) (dsC (O n)).toList := by
  have := Blk.range h (n * 3) 3 (by omega)
  have e : ((List.range 3).map fun j => fdF O (n * 3 + j)) = (dsC (O n)).toList := by
    show [fdF O (n * 3 + 0), fdF O (n * 3 + 1), fdF O (n * 3 + 2)] = _
    unfold fdF
    rw [show (n * 3 + 0) / 3 = n by omega, show (n * 3 + 1) / 3 = n by omega, show (n * 3 + 2) / 3 = n by omega, show (n * 3 + 0) % 3 = 0 by omega, show (n * 3 + 1) % 3 = 1 by omega, show (n * 3 + 2) % 3 = 2 by omega]
    rfl
  rw [e] at this
  exact this
theorem ds_size : (Try.prog.info? 42).map (·.size) = some 3 := by kernel_rfl
theorem fds_size : (Try.prog.info? 52).map (·.size) = some 192 := by kernel_rfl
theorem ds_all (x : Dsc) : (dsC x).all (·.oneCell') = true := by simp [dsC, Value.oneCell']
/-- which are open: of a nil one none is -/
def opn (O : Nat → Dsc) (n : Int) : Prop := 0 ≤ n ∧ n < 64 ∧ (O n.toNat).i ≠ 0
/-- where a description is kept -/
theorem fof_yes (b : Nat) (O : Nat → Dsc) (n : Nat) (hn : n < 64) (ho : (O n).i ≠ 0) (w : World) (h : FdB w b O) : Calls Try.prog 27 #[.pointer (some ⟨b, 0, none⟩), .int .i64 (n : Int)] w fun e w' => e = .returned (.pointer (some ⟨b, n * 3, none⟩)) ∧ w' = w := by
  have c0 := h.cell n 0 hn (by decide)
  rw [show dsF (O n) 0 = (O n).i from rfl, Nat.add_zero] at c0
  have n1 : ¬ (n : Int) < 0 := by omega
  have n2 : ¬ 64 ≤ (n : Int) := by omega
  have n3 : (n : Int) < 64 := by omega
  have n4 : (0 : Int) ≤ (n : Int) := by omega
  have ho2 : ¬ (O n).i = 0 := ho
  generalize (O n).i = i at *
  go_enter Try.func27, Try.ntmps27
  go_wp2_with fail
  go_ret
  exact ⟨rfl, rfl⟩
theorem fof_no (b : Nat) (O : Nat → Dsc) (n : Int) (ho : ¬ opn O n) (w : World) (h : FdB w b O) : Calls Try.prog 27 #[.pointer (some ⟨b, 0, none⟩), .int .i64 n] w fun e w' => e = .returned (.pointer none) ∧ w' = w := by
  by_cases h1 : n < 0
  · clear h ho
    go_enter Try.func27, Try.ntmps27
    go_wp2_with fail
    go_ret
    exact ⟨rfl, rfl⟩
  by_cases h2 : 64 ≤ n
  · clear h ho
    go_enter Try.func27, Try.ntmps27
    go_wp2_with fail
    go_ret
    exact ⟨rfl, rfl⟩
  obtain ⟨k, rfl⟩ : ∃ k : Nat, n = (k : Int) := ⟨n.toNat, by omega⟩
  have hk : k < 64 := by omega
  have c0 := h.cell k 0 hk (by decide)
  have e0 : (O k).i = 0 := Classical.byContradiction fun q => ho ⟨by omega, by omega, by simpa using q⟩
  rw [show dsF (O k) 0 = (O k).i from rfl, Nat.add_zero, e0] at c0
  have n1 : ¬ (k : Int) < 0 := by omega
  have n2 : ¬ 64 ≤ (k : Int) := by omega
  have n3 : (k : Int) < 64 := by omega
  have n4 : (0 : Int) ≤ (k : Int) := by omega
  clear h ho h1 h2 e0
  go_enter Try.func27, Try.ntmps27
  go_wp2_with fail
  go_ret
  exact ⟨rfl, rfl⟩
end Go.Proofs.Ytldkmogennmldaa

namespace Go.Proofs.Ytldkmogennmldaa
open Go Go.RowKit
set_option linter.unusedSimpArgs false
set_option linter.unusedVariables false
/-- only one block turns -/
structure OneT (b : Nat) (w w' : World) : Prop where
  os : w'.os = w.os
  tape : w'.tape = w.tape
  output : w'.output = w.output
  size : w.heap.size ≤ w'.heap.size
  block : ∀ k, k < w.heap.size → k ≠ b → w'.heap[k]? = w.heap[k]?
theorem OneT.of_below {b : Nat} {w w' : World} (h : Below w.heap.size w w') : OneT b w w' := ⟨h.os, h.tape, h.output, h.size, fun k hk _ => h.block k hk⟩
theorem OneT.below {b B : Nat} {w w' : World} (h : OneT b w w') (hB : B ≤ w.heap.size) (hb : B ≤ b) : Below B w w' := ⟨h.os, h.tape, h.output, h.size, fun k hk => h.block k (by omega) (by omega)⟩
theorem OneT.tr {b : Nat} {u v w : World} (h : OneT b u v) (k : OneT b v w) : OneT b u w := ⟨k.os.trans h.os, k.tape.trans h.tape, k.output.trans h.output, Nat.le_trans h.size k.size, fun z hz hn => (k.block z (Nat.lt_of_lt_of_le hz h.size) hn).trans (h.block z hz hn)⟩
theorem OneT.cell (w : World) (b i : Nat) (v : Value) : OneT b w (w.setCell ⟨b, i, none⟩ v) := by
  have t : Below b w (w.setCell ⟨b, i, none⟩ v) := (Below.refl b w).setCell (p := ⟨b, i, none⟩) (Nat.le_refl _) _
  exact ⟨t.os, t.tape, t.output, t.size, fun k hk hn => Below.heap_setCell _ _ _ _ (fun e => hn (by rw [e]))⟩
theorem OneT.cells (b : Nat) : ∀ (vs : List Value) (o : Nat) (w : World), OneT b w (w.setCells b o vs)
  | [], o, w => OneT.of_below (Below.refl _ _)
  | v :: vs, o, w => by
    rw [World.setCells]
    exact (OneT.cell w b o v).tr (OneT.cells b vs (o + 1) _)
theorem fz_of {t : TypeId} {v : Value} (h : (Try.prog.info? t).bind (·.zero) = some v) (w : World) : (zeroValue t).run Try.prog w = .ok v w := by
  cases hq : Try.prog.info? t with
  | none => simp [hq] at h
  | some i =>
    have hi : i.zero = some v := by simpa [hq] using h
    simp [zeroValue, typeInfo, hq, hi]
theorem ds_zero (w : World) : (zeroValue 42).run Try.prog w = .ok (.agg (dsC ds0)) w := fz_of (by kernel_rfl) w
theorem ds_built0 : Try.prog.built 42 [] = some (dsC ds0) := by kernel_rfl
/-- what Get answers -/
noncomputable def gtD (O : Nat → Dsc) (n : Int) : Dsc := open Classical in if opn O n then O n.toNat else ds0
noncomputable def gtE (O : Nat → Dsc) (n : Int) : Int := open Classical in if opn O n then 0 else 231
section
variable {b : Nat} {O : Nat → Dsc} {n : Int}
theorem gt_yes (h : opn O n) : gtD O n = O n.toNat ∧ gtE O n = 0 := by unfold gtD gtE; rw [if_pos h, if_pos h]; exact ⟨rfl, rfl⟩
theorem gt_no (h : ¬ opn O n) : gtD O n = ds0 ∧ gtE O n = 231 := by unfold gtD gtE; rw [if_neg h, if_neg h]; exact ⟨rfl, rfl⟩
theorem fof_opn (h : opn O n) (w : World) (hb : FdB w b O) : Calls Try.prog 27 #[.pointer (some ⟨b, 0, none⟩), .int .i64 n] w fun e w' => e = .returned (.pointer (some ⟨b, n.toNat * 3, none⟩)) ∧ w' = w := by
  obtain ⟨h1, h2, h3⟩ := h
  obtain ⟨k, rfl⟩ : ∃ k : Nat, n = (k : Int) := ⟨n.toNat, by omega⟩
  have := fof_yes b O k (by omega) (by simpa using h3) w hb
  simpa using this
set_option maxRecDepth 100000 in
set_option maxHeartbeats 4000000 in
/-- Get, by what 'of' answers -/
theorem fget_gen (p : Value) (n : Int) (q : Option Addr) (x : Dsc) (er : Int) (hq : (q = none ∧ x = ds0 ∧ er = 231) ∨ ∃ g o, q = some ⟨g, o, none⟩ ∧ er = 0) (w : World) (HO : ∀ V, Below w.heap.size w V → Calls Try.prog 27 #[p, .int .i64 n] V fun e w' => e = .returned (.pointer q) ∧ w' = V) (HR : ∀ V, Below w.heap.size w V → ∀ g o, q = some ⟨g, o, none⟩ → V.rangeAt g o (dsC x).toList) :
    Calls Try.prog 20 #[p, .int .i64 n] w fun e w' => e = .returned (.tuple #[.agg (dsC x), .int .i64 er]) ∧ Below w.heap.size w w' := by
  have hz := ds_zero
  have hbt := ds_built0
  have hb1 : Below w.heap.size w (w.alloc (.cells (dsC ds0) 42)) := below_new1 _ _
  have u1 : Blk (w.alloc (.cells (dsC ds0) 42)) w.heap.size 42 (dsC ds0) := Blk.new _ _ _
  have H1 := HO _ hb1
  have HR1 := HR _ hb1
  have HE : Hid (Blk ((w.alloc (.cells (dsC ds0) 42)).setRow w.heap.size (dsC x)) w.heap.size 42 (dsC x) ∧ Below w.heap.size w ((w.alloc (.cells (dsC ds0) 42)).setRow w.heap.size (dsC x))) := ⟨u1.set _, below_setRow hb1 (Nat.le_refl _) _⟩
  have hsx : (dsC x).size = 3 := rfl
  clear HO HR hb1
  go_enter Try.func20, Try.ntmps20
  go_wp2_with fail
  generalize (w.alloc (.cells (dsC ds0) 42)) = w1 at *
  refine H1.mono ?_
  rintro e w2 ⟨rfl, rfl⟩
  rcases hq with ⟨rfl, rfl, rfl⟩ | ⟨g, o, rfl, rfl⟩
  · clear H1 HR1
    go_wp2_with (first
      | (refine wpList_buildTo (by rfl) 42 #[] (by rfl) _ rfl (dsC ds0) (by exact hbt) ?_; simp only [Act.put, List.setIfInBounds_toArray, List.set_cons_zero, List.set_cons_succ])
      | (refine wpList_store_row (by rfl) 42 _ _ (by rfl) (w.heap.size) (dsC ds0) (by rfl) (by rfl) 42 (dsC ds0) (by exact u1) (ds_size.trans (by rfl)) (by rfl) (ds_all _) ?_; simp only [Act.put, List.setIfInBounds_toArray, List.set_cons_zero, List.set_cons_succ])
      | fail)
    try simp only [Exit.inBlock, Exit.then]
    refine bodyPost_ret (results_row2 Try.results20 _ _ (w.heap.size) 42 (dsC ds0) (0, 0) _ rfl HE.out.1 Try.underlying42 rfl (ds_size.trans (by rfl))) rfl ?_
    exact ⟨rfl, HE.out.2⟩
  · have hr := HR1 g o rfl
    clear H1 HR1
    go_wp2_with (first
      | (refine wpList_load_mid (by rfl) 42 _ (by rfl) g o (by rfl) (dsC x).toList _ (by exact hr) Try.underlying42 (by rfl) (ds_size.trans (by rfl)) ?_; simp only [Act.put, List.setIfInBounds_toArray, List.set_cons_zero, List.set_cons_succ, Array.toArray_toList])
      | (refine wpList_store_row (by rfl) 42 _ _ (by rfl) (w.heap.size) (dsC x) (by rfl) (by rfl) 42 (dsC ds0) (by exact u1) (ds_size.trans (by rfl)) (by rfl) (ds_all _) ?_; simp only [Act.put, List.setIfInBounds_toArray, List.set_cons_zero, List.set_cons_succ])
      | fail)
    try simp only [Exit.inBlock, Exit.then]
    refine bodyPost_ret (results_row2 Try.results20 _ _ (w.heap.size) 42 (dsC x) (0, 0) _ rfl HE.out.1 Try.underlying42 rfl (ds_size.trans (by rfl))) rfl ?_
    exact ⟨rfl, HE.out.2⟩
theorem fget_any (n : Int) (w : World) (h : FdB w b O) : Calls Try.prog 20 #[.pointer (some ⟨b, 0, none⟩), .int .i64 n] w fun e w' => e = .returned (.tuple #[.agg (dsC (gtD O n)), .int .i64 (gtE O n)]) ∧ Below w.heap.size w w' := by
  by_cases ho : opn O n
  · rw [(gt_yes ho).1, (gt_yes ho).2]
    refine fget_gen _ n (some ⟨b, n.toNat * 3, none⟩) _ 0 (.inr ⟨_, _, rfl, rfl⟩) w (fun V hV => fof_opn ho V (h.below hV)) fun V hV g o e => ?_
    injection e with e
    injection e with e1 e2
    subst e1 e2
    exact (h.below hV).range _ (by have := ho.1; have := ho.2.1; omega)
  · rw [(gt_no ho).1, (gt_no ho).2]
    exact fget_gen _ n none _ 231 (.inl ⟨rfl, rfl, rfl⟩) w (fun V hV => fof_no b O n ho V (h.below hV)) fun V hV g o e => by cases e
set_option maxRecDepth 100000 in
set_option maxHeartbeats 4000000 in
theorem fclose_yes (n : Int) (w : World) (h : FdB w b O) (ho : opn O n) : Calls Try.prog 15 #[.pointer (some ⟨b, 0, none⟩), .int .i64 n] w fun e w' => e = .returned (.int .i64 0) ∧ FdB w' b (upD O n.toNat ds0) ∧ OneT b w w' := by
  have H1 := fof_opn ho w h
  have hn : n.toNat < 64 := by have := ho.1; have := ho.2.1; omega
  have hth : w.there b (n.toNat * 3) (dsC ds0).size := Blk.there h _ _ (by rw [va_size]; show n.toNat * 3 + 3 ≤ 192; omega)
  have hbt := ds_built0
  have HE : Hid (FdB (w.setCells b (n.toNat * 3) (dsC ds0).toList) b (upD O n.toNat ds0) ∧ OneT b w (w.setCells b (n.toNat * 3) (dsC ds0).toList)) := ⟨h.put _ hn _, OneT.cells _ _ _ _⟩
  clear ho h
  generalize n.toNat = k at *
  go_enter Try.func15, Try.ntmps15
  go_wp2_with fail
  refine H1.mono ?_
  rintro e w2 ⟨rfl, rfl⟩
  go_wp2_with (first
    | (refine wpList_buildTo (by rfl) 42 #[] (by rfl) _ rfl (dsC ds0) (by exact hbt) ?_; simp only [Act.put, List.setIfInBounds_toArray, List.set_cons_zero, List.set_cons_succ])
    | (refine wpList_store_mid (by rfl) 42 _ _ (by rfl) b (k * 3) (dsC ds0) (by rfl) (by rfl) (by exact hth) (ds_size.trans (by rfl)) (ds_all _) ?_; simp only [Act.put, List.setIfInBounds_toArray, List.set_cons_zero, List.set_cons_succ])
    | fail)
  go_ret
  exact ⟨rfl, HE.out.1, HE.out.2⟩
theorem fclose_gen (p : Value) (n : Int) (w : World) (H1 : Calls Try.prog 27 #[p, .int .i64 n] w fun e w' => e = .returned (.pointer none) ∧ w' = w) : Calls Try.prog 15 #[p, .int .i64 n] w fun e w' => e = .returned (.int .i64 231) ∧ w' = w := by
  go_enter Try.func15, Try.ntmps15
  go_wp2_with fail
  refine H1.mono ?_
  rintro e w2 ⟨rfl, rfl⟩
  go_wp2_with fail
  go_ret
  exact ⟨rfl, rfl⟩
theorem fmove_gen (p : Value) (n at' : Int) (w : World) (H1 : Calls Try.prog 27 #[p, .int .i64 n] w fun e w' => e = .returned (.pointer none) ∧ w' = w) : Calls Try.prog 22 #[p, .int .i64 n, .int .i64 at'] w fun e w' => e = .returned (.int .i64 231) ∧ w' = w := by
  go_enter Try.func22, Try.ntmps22
  go_wp2_with fail
  refine H1.mono ?_
  rintro e w2 ⟨rfl, rfl⟩
  go_wp2_with fail
  go_ret
  exact ⟨rfl, rfl⟩
theorem fmove_bad (n at' : Int) (w : World) (h : FdB w b O) (ho : opn O n) (ha : ¬ (0 ≤ at' ∧ at' ≤ 1048576)) : Calls Try.prog 22 #[.pointer (some ⟨b, 0, none⟩), .int .i64 n, .int .i64 at'] w fun e w' => e = .returned (.int .i64 233) ∧ w' = w := by
  have H1 := fof_opn ho w h
  have H2 := fmaybe_any at' w
  rw [decide_eq_false ha] at H2
  clear ho h ha
  go_enter Try.func22, Try.ntmps22
  go_wp2_with fail
  refine H1.mono ?_
  rintro e w2 ⟨rfl, rfl⟩
  go_wp2_with fail
  refine H2.mono ?_
  rintro e w2 ⟨rfl, rfl⟩
  go_wp2_with fail
  go_ret
  exact ⟨rfl, rfl⟩
theorem fmove_ok (n at' : Int) (w : World) (h : FdB w b O) (ho : opn O n) (ha : 0 ≤ at' ∧ at' ≤ 1048576) : Calls Try.prog 22 #[.pointer (some ⟨b, 0, none⟩), .int .i64 n, .int .i64 at'] w fun e w' => e = .returned (.int .i64 0) ∧ FdB w' b (upD O n.toNat ⟨(O n.toNat).i, (O n.toNat).g, at'⟩) ∧ OneT b w w' := by
  have H1 := fof_opn ho w h
  have H2 := fmaybe_any at' w
  rw [decide_eq_true ha] at H2
  have hn : n.toNat < 64 := by have := ho.1; have := ho.2.1; omega
  have c2 := h.cell n.toNat 2 hn (by decide)
  have f2 := Blk.frozen h (n.toNat * 3 + 2)
  have HE : Hid (FdB (w.setCell ⟨b, n.toNat * 3 + 2, none⟩ (.int .i64 at')) b (upD O n.toNat ⟨(O n.toNat).i, (O n.toNat).g, at'⟩) ∧ OneT b w (w.setCell ⟨b, n.toNat * 3 + 2, none⟩ (.int .i64 at'))) := ⟨h.put2 _ hn _, OneT.cell _ _ _ _⟩
  clear ho h ha
  generalize n.toNat = k at *
  go_enter Try.func22, Try.ntmps22
  go_wp2_with fail
  refine H1.mono ?_
  rintro e w2 ⟨rfl, rfl⟩
  go_wp2_with fail
  refine H2.mono ?_
  rintro e w2 ⟨rfl, rfl⟩
  go_wp2_with fail
  go_ret
  exact ⟨rfl, HE.out.1, HE.out.2⟩
end
end Go.Proofs.Ytldkmogennmldaa

namespace Go.Proofs.Ytldkmogennmldaa
open Go Go.RowKit
set_option linter.unusedSimpArgs false
set_option linter.unusedVariables false
theorem OneT.drew {b : Nat} {w v : World} (h : OneT b w v) : OneT b w v.drew := ⟨h.os, h.tape, h.output, h.size, h.block⟩
theorem fdyields_load {P : Program} {ops : Array Oper} {S : World → Prop} {op : Oper} {a : Act} (hw : Region.wanted op (yielded ops a.tmps) = true) (ty : TypeId) (x : Operand) (ho : op.op = .load ty x)
    (b n : Nat) (f : Nat → Value) (hx : a.eval x = .pointer (some ⟨b, 0, none⟩)) (d : TypeDesc) (t : Nat) (hS : ∀ w, S w → Blk w b t (va n f))
    (hu : P.underlying ty = some d) (hd : d.isRow = true) (hi : (P.info? ty).map (·.size) = some n) : YieldsIf P ops S op (.agg (va n f)) a :=
  yieldsIf_load_mid hw ty x ho b 0 hx _ d (fun w h => by
    have := (hS w h).range 0 n (by omega)
    simpa using this) hu hd (hi.trans (by simp))
section
variable {b : Nat} {O : Nat → Dsc}
def dsV (x : Dsc) (j : Nat) : Value := .int .i64 (dsF x j)
theorem fof_nat (b : Nat) (O : Nat → Dsc) (n : Nat) (hn : n < 64) (ho : (O n).i = 0) (w : World) (h : FdB w b O) : Calls Try.prog 27 #[.pointer (some ⟨b, 0, none⟩), .int .i64 (n : Int)] w fun e w' => e = .returned (.pointer none) ∧ w' = w :=
  fof_no b O n (fun q => q.2.2 (by simpa using ho)) w h
set_option maxRecDepth 100000 in
set_option maxHeartbeats 4000000 in
theorem flay_ok (k : Nat) (hk : k < 64) (h0 : (O k).i = 0) (hl : ∀ j, j < k → (O j).i ≠ 0) (x : Dsc) (w : World) (h : FdB w b O) : Calls Try.prog 26 #[.pointer (some ⟨b, 0, none⟩), .agg (dsC x)] w fun e w' => e = .returned (.tuple #[.int .i64 (k : Int), .int .i64 0]) ∧ FdB w' b (upD O k x) ∧ OneT b w w' := by
  have hb1 : Below w.heap.size w (w.alloc (.cells (dsC x) 42)) := below_new1 _ _
  have hF := h.below hb1
  have u1 : Blk (w.alloc (.cells (dsC x) 42)) w.heap.size 42 (dsC x) := Blk.new _ _ _
  have hne : w.heap.size ≠ b := fun q => by have := h.lt; omega
  have HOF : Hid (∀ j, j < k → Calls Try.prog 27 #[.pointer (some ⟨b, 0, none⟩), .int .i64 (j : Int)] (w.alloc (.cells (dsC x) 42)) fun e w' => e = .returned (.pointer (some ⟨b, j * 3, none⟩)) ∧ w' = (w.alloc (.cells (dsC x) 42))) := fun j hj => fof_yes b O j (by omega) (hl j hj) _ hF
  have HO0 : Hid (Calls Try.prog 27 #[.pointer (some ⟨b, 0, none⟩), .int .i64 (k : Int)] (w.alloc (.cells (dsC x) 42)) fun e w' => e = .returned (.pointer none) ∧ w' = (w.alloc (.cells (dsC x) 42))) := fof_nat b O k hk h0 _ hF
  have HE : Hid (Blk (w.alloc (.cells (dsC x) 42)) w.heap.size 42 (dsC x) ∧ FdB (w.alloc (.cells (dsC x) 42)) b O ∧ OneT b w (w.alloc (.cells (dsC x) 42)) ∧ k < 64) := ⟨u1, hF, OneT.of_below hb1, hk⟩
  clear hb1 hF u1 h hl h0 hk
  go_enter Try.func26, Try.ntmps26
  go_wp2_with fail
  generalize (w.alloc (.cells (dsC x) 42)) = w1 at *
  go_loopw [9] (fun v wr => Hid (∃ i : Nat, i ≤ k ∧ v = .int .i64 (i : Int) ∧ wr = w1)) (fun v _ => 64 - (intOf v).toNat)
  case atStart => exact ⟨0, Nat.zero_le _, rfl, rfl⟩
  case round =>
    obtain ⟨i, hi, rfl, rfl⟩ := Hid.out hrel
    clear hrel
    have i1 : (i : Int) < 64 := by have := HE.out.2.2.2; omega
    by_cases hik : i < k
    · have HI : Hid (i < k) := hik
      have H1 := HOF.out i hik
      clear hik hi
      go_wp2_with fail
      refine H1.mono ?_
      rintro e w2 ⟨rfl, rfl⟩
      clear H1
      go_wp2_with fail
      go_roundw
      case rel => exact ⟨i + 1, HI.out, by first | rfl | go_num | simp, by first | rfl | trivial⟩
      case measure => simp [intOf]; omega
    · obtain rfl : i = k := by omega
      have H1 := HO0.out
      have i2 : (0 : Int) ≤ (i : Int) := by omega
      clear hik hi
      go_wp2_with fail
      refine H1.mono ?_
      rintro e w2 ⟨rfl, rfl⟩
      clear H1
      obtain ⟨W1, rfl⟩ : ∃ u, u = w2 := ⟨_, rfl⟩
      go_wp2_with fail
      refine wp_region_partsS (fun W => Blk W w.heap.size 42 (va 3 (dsV x))) [([0, 1], 2, true), ([], 3, false), ([], 4, false)] [5] [6] (by kernel_rfl) (by kernel_rfl) HE.out.1 (partsI_yield ?_)
      simp only [List.cons_append, List.nil_append, List.append_nil, List.filterMap_cons, List.filterMap_nil, List.getElem?_toArray, List.getElem?_cons_zero, List.getElem?_cons_succ]
      go_wp2_with fail
      refine ⟨rfl, _, .agg (dsC x), rfl, fdyields_load (by rfl) 42 _ (by rfl) w.heap.size 3 (dsV x) (by rfl) _ 42 (fun W hW => hW) Try.underlying42 rfl ds_size, partsI_force ?_⟩
      simp only [Act.put, List.setIfInBounds_toArray, List.set_cons_zero, List.set_cons_succ]
      simp only [List.cons_append, List.nil_append, List.append_nil, List.filterMap_cons, List.filterMap_nil, List.getElem?_toArray, List.getElem?_cons_zero, List.getElem?_cons_succ]
      go_wp2_with fail
      refine ⟨rfl, HE.out.1.drew, partsI_force ?_⟩
      simp only [List.cons_append, List.nil_append, List.append_nil, List.filterMap_cons, List.filterMap_nil, List.getElem?_toArray, List.getElem?_cons_zero, List.getElem?_cons_succ]
      go_wp2_with fail
      have hth : W1.drew.there b (i * 3) (dsC x).size := Blk.there (Blk.drew HE.out.2.1) _ _ (by rw [va_size]; have := HE.out.2.2.2; show i * 3 + 3 ≤ 192; omega)
      have HE2 : Hid (FdB (W1.drew.setCells b (i * 3) (dsC x).toList) b (upD O i x) ∧ OneT b w (W1.drew.setCells b (i * 3) (dsC x).toList)) := ⟨FdB.put (Blk.drew HE.out.2.1) _ HE.out.2.2.2 _, (OneT.drew HE.out.2.2.1).tr (OneT.cells _ _ _ _)⟩
      have hst := run_storeCells_cells (P := Try.prog) b (i * 3) (dsC x).toList 0 W1.drew (fun j hj => by simpa using (hth j (by simpa using hj)).1) (fun j hj => by simpa using (hth j (by simpa using hj)).2) (fun v hv => (Array.all_eq_true_iff_forall_mem.1 (ds_all x)) v (by simpa using hv))
      simp only [Nat.add_zero] at hst
      generalize W1.drew.setCells b (i * 3) (dsC x).toList = W9 at *
      refine ⟨rfl, HE.out.1.drew, partsI_last ?_⟩
      simp only [List.cons_append, List.nil_append, List.append_nil, List.filterMap_cons, List.filterMap_nil, List.getElem?_toArray, List.getElem?_cons_zero, List.getElem?_cons_succ]
      go_wp2_with fail
      first
        | (go_ret2; exact ⟨rfl, HE2.out.1, HE2.out.2⟩)
        | (refine ⟨rfl, ?_⟩; go_wp2_with fail; go_ret2; exact ⟨rfl, HE2.out.1, HE2.out.2⟩)
set_option maxRecDepth 100000 in
set_option maxHeartbeats 4000000 in
theorem flay_full (hl : ∀ j, j < 64 → (O j).i ≠ 0) (x : Dsc) (w : World) (h : FdB w b O) : Calls Try.prog 26 #[.pointer (some ⟨b, 0, none⟩), .agg (dsC x)] w fun e w' => e = .returned (.tuple #[.int .i64 0, .int .i64 230]) ∧ Below w.heap.size w w' := by
  have hb1 : Below w.heap.size w (w.alloc (.cells (dsC x) 42)) := below_new1 _ _
  have hF := h.below hb1
  have hof : ∀ (k j : Nat), k = 64 → j < k → Calls Try.prog 27 #[.pointer (some ⟨b, 0, none⟩), .int .i64 (j : Int)] (w.alloc (.cells (dsC x) 42)) fun e w' => e = .returned (.pointer (some ⟨b, j * 3, none⟩)) ∧ w' = (w.alloc (.cells (dsC x) 42)) := fun k j hk hj => fof_yes b O j (by omega) (hl j (by omega)) _ hF
  obtain ⟨k, hk⟩ : ∃ k : Nat, k = 64 := ⟨_, rfl⟩
  have HOF : Hid (∀ j, j < k → Calls Try.prog 27 #[.pointer (some ⟨b, 0, none⟩), .int .i64 (j : Int)] (w.alloc (.cells (dsC x) 42)) fun e w' => e = .returned (.pointer (some ⟨b, j * 3, none⟩)) ∧ w' = (w.alloc (.cells (dsC x) 42))) := fun j hj => hof k j hk hj
  have HK : Hid (k = 64) := hk
  clear hof hk
  have HE : Hid (Below w.heap.size w (w.alloc (.cells (dsC x) 42))) := hb1
  clear hb1 hF h hl
  go_enter Try.func26, Try.ntmps26
  go_wp2_with fail
  generalize (w.alloc (.cells (dsC x) 42)) = w1 at *
  go_loopw [9] (fun v wr => Hid (∃ i : Nat, i ≤ 64 ∧ v = .int .i64 (i : Int) ∧ wr = w1)) (fun v _ => 64 - (intOf v).toNat)
  case atStart => exact ⟨0, Nat.zero_le _, rfl, rfl⟩
  case round =>
    obtain ⟨i, hi, rfl, rfl⟩ := Hid.out hrel
    clear hrel
    by_cases hik : i < 64
    · have i1 : (i : Int) < 64 := by omega
      have HI : Hid (i < 64) := hik
      have H1 := HOF.out i (by rw [HK.out]; exact hik)
      clear hik hi
      go_wp2_with fail
      refine H1.mono ?_
      rintro e w2 ⟨rfl, rfl⟩
      clear H1
      go_wp2_with fail
      go_roundw
      case rel => exact ⟨i + 1, HI.out, by first | rfl | go_num | simp, by first | rfl | trivial⟩
      case measure => have := HI.out; simp [intOf]; omega
    · have i1 : ¬ (i : Int) < 64 := by omega
      clear hik hi
      go_wp2_with fail
      go_ret2
      exact ⟨rfl, HE.out⟩
end
end Go.Proofs.Ytldkmogennmldaa

namespace Go.Proofs.Ytldkmogennmldaa
open Go Go.RowKit
set_option linter.unusedSimpArgs false
set_option linter.unusedVariables false
theorem fds_zero (w : World) : (zeroValue 52).run Try.prog w = .ok (.agg (va 192 (fdF fun _ => ds0))) w := fz_of (by kernel_rfl) w
theorem fnew_any (w : World) : Calls Try.prog 12 #[] w fun e w' => ∃ b, e = .returned (.pointer (some ⟨b, 0, none⟩)) ∧ w.heap.size ≤ b ∧ FdB w' b (fun _ => ds0) ∧ Below w.heap.size w w' := by
  have hz := fds_zero
  have HE : Hid (FdB (w.alloc (.cells (va 192 (fdF fun _ => ds0)) 52)) w.heap.size (fun _ => ds0) ∧ Below w.heap.size w (w.alloc (.cells (va 192 (fdF fun _ => ds0)) 52))) := ⟨Blk.new _ _ _, below_new1 _ _⟩
  generalize va 192 (fdF fun _ => ds0) = Z at *
  go_enter Try.func12, Try.ntmps12
  go_wp2_with fail
  go_ret
  exact ⟨_, rfl, Nat.le_refl _, HE.out.1, HE.out.2⟩
section
variable {b : Nat} {O : Nat → Dsc}
set_option maxRecDepth 100000 in
set_option maxHeartbeats 4000000 in
theorem fclone_any (w : World) (h : FdB w b O) : Calls Try.prog 13 #[.pointer (some ⟨b, 0, none⟩)] w fun e w' => ∃ c, e = .returned (.pointer (some ⟨c, 0, none⟩)) ∧ w.heap.size ≤ c ∧ FdB w' c O ∧ Below w.heap.size w w' := by
  have hz := fds_zero
  have u0 : Blk w b 52 (va 192 (fdF O)) := h
  have u1 : Blk (w.alloc (.cells (va 192 (fdF fun _ => ds0)) 52)) w.heap.size 52 (va 192 (fdF fun _ => ds0)) := Blk.new _ _ _
  have HE : Hid (FdB ((w.alloc (.cells (va 192 (fdF fun _ => ds0)) 52)).setRow w.heap.size (va 192 (fdF O))) w.heap.size O ∧ Below w.heap.size w ((w.alloc (.cells (va 192 (fdF fun _ => ds0)) 52)).setRow w.heap.size (va 192 (fdF O)))) := ⟨u1.set _, below_setRow (below_new1 _ _) (Nat.le_refl _) _⟩
  have hs : (va 192 (fdF O)).size = 192 := va_size _ _
  have hs0 : (va 192 (fdF fun _ => ds0)).size = 192 := va_size _ _
  have ha : (va 192 (fdF O)).all (·.oneCell') = true := va_one fun _ _ => rfl
  generalize va 192 (fdF fun _ => ds0) = Z at *
  generalize va 192 (fdF O) = Y at *
  clear h
  go_enter Try.func13, Try.ntmps13
  go_wp2_with (first
    | (refine wpList_load_row (by rfl) 52 _ (by rfl) b (by rfl) 52 Y (0, 0) _ (by exact u0) Try.underlying52 (by rfl) (fds_size.trans (by rw [hs])) ?_; simp only [Act.put, List.setIfInBounds_toArray, List.set_cons_zero, List.set_cons_succ])
    | (refine wpList_store_row (by rfl) 52 _ _ (by rfl) (w.heap.size) Y (by rfl) (by rfl) 52 Z (by exact u1) (fds_size.trans (by rw [hs])) (by rw [hs, hs0]) (by exact ha) ?_; simp only [Act.put, List.setIfInBounds_toArray, List.set_cons_zero, List.set_cons_succ])
    | fail)
  go_ret
  exact ⟨_, rfl, Nat.le_refl _, HE.out.1, HE.out.2⟩
/-- what lay answers, as one thing: the least that is not open -/
structure LwD (O : Nat → Dsc) (k : Nat) : Prop where
  le : k ≤ 64
  all : ∀ j, j < k → (O j).i ≠ 0
  at_ : k < 64 → (O k).i = 0
theorem lwd_there (O : Nat → Dsc) : ∃ k, LwD O k := by
  have h : ∀ n, (∃ k, k < n ∧ (∀ j, j < k → (O j).i ≠ 0) ∧ (O k).i = 0) ∨ ∀ j, j < n → (O j).i ≠ 0 := fun n => by
    induction n with
    | zero => exact .inr fun j hj => absurd hj (Nat.not_lt_zero _)
    | succ n ih =>
      rcases ih with ⟨k, h1, h2, h3⟩ | h
      · exact .inl ⟨k, by omega, h2, h3⟩
      · by_cases c : (O n).i = 0
        · exact .inl ⟨n, by omega, h, c⟩
        · refine .inr fun j hj => ?_
          by_cases e : j = n
          · rw [e]; exact c
          · exact h j (by omega)
  rcases h 64 with ⟨k, h1, h2, h3⟩ | h
  · exact ⟨k, by omega, h2, fun _ => h3⟩
  · exact ⟨64, Nat.le_refl _, h, fun q => absurd q (Nat.lt_irrefl _)⟩
def lyN (k : Nat) : Int := if k < 64 then (k : Int) else 0
def lyE (k : Nat) : Int := if k < 64 then 0 else 230
/-- behind a description was laid -/
def lyD (O : Nat → Dsc) (k : Nat) (x : Dsc) : Nat → Dsc := if k < 64 then upD O k x else O
theorem flay_any {k : Nat} (hk : LwD O k) (x : Dsc) (w : World) (h : FdB w b O) : Calls Try.prog 26 #[.pointer (some ⟨b, 0, none⟩), .agg (dsC x)] w fun e w' => e = .returned (.tuple #[.int .i64 (lyN k), .int .i64 (lyE k)]) ∧ FdB w' b (lyD O k x) ∧ OneT b w w' := by
  by_cases c : k < 64
  · unfold lyD lyN lyE
    rw [if_pos c, if_pos c, if_pos c]
    exact flay_ok k c (hk.at_ c) hk.all x w h
  · unfold lyD lyN lyE
    rw [if_neg c, if_neg c, if_neg c]
    have e : k = 64 := by have := hk.le; omega
    exact (flay_full (fun j hj => hk.all j (by omega)) x w h).mono fun e w' ⟨h1, h2⟩ => ⟨h1, h.below h2, OneT.of_below h2⟩
theorem fopen_bad1 (p : Value) (i g : Int) (hm : ¬ mayI g) (w : World) : Calls Try.prog 14 #[p, .int .i64 i, .int .i64 g] w fun e w' => e = .returned (.tuple #[.int .i64 0, .int .i64 232]) ∧ w' = w := by
  have HC := fcheck_any g w
  rw [if_neg hm] at HC
  clear hm
  go_enter Try.func14, Try.ntmps14
  go_wp2_with fail
  refine HC.mono ?_
  rintro e w1 ⟨rfl, rfl⟩
  go_wp2_with fail
  go_ret2
  exact ⟨rfl, rfl⟩
theorem fopen_bad2 (p : Value) (i g : Int) (hm : mayI g) (hi : ¬ (1 ≤ i ∧ i ≤ 4096)) (w : World) : Calls Try.prog 14 #[p, .int .i64 i, .int .i64 g] w fun e w' => e = .returned (.tuple #[.int .i64 0, .int .i64 1]) ∧ w' = w := by
  have HC := fcheck_any g w
  rw [if_pos hm] at HC
  by_cases i1 : i < 1
  · clear hm hi
    go_enter Try.func14, Try.ntmps14
    go_wp2_with fail
    refine HC.mono ?_
    rintro e w1 ⟨rfl, rfl⟩
    go_wp2_with fail
    go_ret2
    exact ⟨rfl, rfl⟩
  · have i2 : 4096 < i := by omega
    clear hm hi
    go_enter Try.func14, Try.ntmps14
    go_wp2_with fail
    refine HC.mono ?_
    rintro e w1 ⟨rfl, rfl⟩
    go_wp2_with fail
    go_ret2
    exact ⟨rfl, rfl⟩
set_option maxHeartbeats 4000000 in
theorem fopen_gen (p : Value) (i g n er : Int) (R : World → Prop) (hm : mayI g) (hi : 1 ≤ i ∧ i ≤ 4096) (w : World) (HL : Calls Try.prog 26 #[p, .agg (dsC ⟨i, g, 0⟩)] w fun e w' => e = .returned (.tuple #[.int .i64 n, .int .i64 er]) ∧ R w') : Calls Try.prog 14 #[p, .int .i64 i, .int .i64 g] w fun e w' => e = .returned (.tuple #[.int .i64 n, .int .i64 er]) ∧ R w' := by
  have HC := fcheck_any g w
  rw [if_pos hm] at HC
  obtain ⟨hi1, hi2⟩ := hi
  have i1 : ¬ i < 1 := by omega
  have i2 : ¬ 4096 < i := by omega
  have HL2 : Calls Try.prog 26 #[p, .agg #[.int .i64 i, .int .i64 g, .int .i64 0]] w fun e w' => e = .returned (.tuple #[.int .i64 n, .int .i64 er]) ∧ R w' := HL
  clear hm HL
  go_enter Try.func14, Try.ntmps14
  go_wp2_with fail
  refine HC.mono ?_
  rintro e w1 ⟨rfl, rfl⟩
  go_wp2_with fail
  refine HL2.mono ?_
  rintro e w2 ⟨rfl, hR⟩
  go_wp2_with fail
  go_ret2
  exact ⟨rfl, hR⟩
theorem fopen_ok {k : Nat} (hk : LwD O k) (i g : Int) (hm : mayI g) (hi : 1 ≤ i ∧ i ≤ 4096) (w : World) (h : FdB w b O) : Calls Try.prog 14 #[.pointer (some ⟨b, 0, none⟩), .int .i64 i, .int .i64 g] w fun e w' => e = .returned (.tuple #[.int .i64 (lyN k), .int .i64 (lyE k)]) ∧ FdB w' b (lyD O k ⟨i, g, 0⟩) ∧ OneT b w w' :=
  fopen_gen _ i g (lyN k) (lyE k) (fun w' => FdB w' b (lyD O k ⟨i, g, 0⟩) ∧ OneT b w w') hm hi w (flay_any hk _ w h)
set_option maxRecDepth 100000 in
set_option maxHeartbeats 4000000 in
theorem fdup_bad (p : Value) (n er : Int) (her : er ≠ 0) (x : Dsc) (w : World) (HG : Calls Try.prog 20 #[p, .int .i64 n] w fun e w' => e = .returned (.tuple #[.agg (dsC x), .int .i64 er]) ∧ Below w.heap.size w w') : Calls Try.prog 19 #[p, .int .i64 n] w fun e w' => e = .returned (.tuple #[.int .i64 0, .int .i64 er]) ∧ Below w.heap.size w w' := by
  have hz := ds_zero
  have b0 : (er != 0) = true := bne_iff_ne.2 her
  have hsx : (dsC x).size = 3 := rfl
  clear her
  go_enter Try.func19, Try.ntmps19
  go_wp2_with fail
  refine HG.mono ?_
  rintro e w1 ⟨rfl, hb⟩
  have u1 : Blk (w1.alloc (.cells (dsC ds0) 42)) w1.heap.size 42 (dsC ds0) := Blk.new _ _ _
  have HE : Hid (Below w.heap.size w ((w1.alloc (.cells (dsC ds0) 42)).setRow w1.heap.size (dsC x))) := below_setRow (hb.alloc hb.size _) hb.size _
  clear hb HG
  go_wp2_with (first
    | (refine wpList_store_row (by rfl) 42 _ _ (by rfl) (w1.heap.size) (dsC x) (by rfl) (by rfl) 42 (dsC ds0) (by exact u1) (ds_size.trans (by rfl)) (by rfl) (ds_all _) ?_; simp only [Act.put, List.setIfInBounds_toArray, List.set_cons_zero, List.set_cons_succ])
    | fail)
  go_ret2
  exact ⟨rfl, HE.out⟩
set_option maxRecDepth 100000 in
set_option maxHeartbeats 4000000 in
theorem fdup_ok {k : Nat} (hk : LwD O k) (n : Int) (ho : opn O n) (w : World) (h : FdB w b O) : Calls Try.prog 19 #[.pointer (some ⟨b, 0, none⟩), .int .i64 n] w fun e w' => e = .returned (.tuple #[.int .i64 (lyN k), .int .i64 (lyE k)]) ∧ FdB w' b (lyD O k (O n.toNat)) ∧ OneT b w w' := by
  have HG := fget_any (O := O) n w h
  rw [(gt_yes ho).1, (gt_yes ho).2] at HG
  have hz := ds_zero
  obtain ⟨x, hx⟩ : ∃ x, x = O n.toNat := ⟨_, rfl⟩
  rw [← hx] at HG ⊢
  have hsx : (dsC x).size = 3 := rfl
  have HL : Hid (∀ V, Below w.heap.size w V → Calls Try.prog 26 #[.pointer (some ⟨b, 0, none⟩), .agg (dsC x)] V fun e w' => e = .returned (.tuple #[.int .i64 (lyN k), .int .i64 (lyE k)]) ∧ FdB w' b (lyD O k x) ∧ OneT b V w') := fun V hV => flay_any hk x V (h.below hV)
  clear ho h hk hx
  generalize lyN k = r1 at *
  generalize lyE k = r2 at *
  go_enter Try.func19, Try.ntmps19
  go_wp2_with fail
  refine HG.mono ?_
  rintro e w1 ⟨rfl, hb⟩
  have u1 : Blk (w1.alloc (.cells (dsC ds0) 42)) w1.heap.size 42 (dsC ds0) := Blk.new _ _ _
  have u2 := u1.set (dsC x)
  have hb2 : Below w.heap.size w ((w1.alloc (.cells (dsC ds0) 42)).setRow w1.heap.size (dsC x)) := below_setRow (hb.alloc hb.size _) hb.size _
  have H2 := HL.out _ hb2
  clear hb HG HL
  go_wp2_with (first
    | (refine wpList_store_row (by rfl) 42 _ _ (by rfl) (w1.heap.size) (dsC x) (by rfl) (by rfl) 42 (dsC ds0) (by exact u1) (ds_size.trans (by rfl)) (by rfl) (ds_all _) ?_; simp only [Act.put, List.setIfInBounds_toArray, List.set_cons_zero, List.set_cons_succ])
    | (refine wpList_load_row (by rfl) 42 _ (by rfl) (w1.heap.size) (by rfl) 42 (dsC x) (0, 0) _ (by exact u2) Try.underlying42 (by rfl) (ds_size.trans (by rfl)) ?_; simp only [Act.put, List.setIfInBounds_toArray, List.set_cons_zero, List.set_cons_succ])
    | fail)
  refine H2.mono ?_
  rintro e w3 ⟨rfl, h3, h4⟩
  have HE : Hid (FdB w3 b (lyD O k x) ∧ OneT b w w3) := ⟨h3, (OneT.of_below hb2).tr h4⟩
  clear h3 h4 hb2 H2 u1 u2
  go_wp2_with fail
  go_ret2
  exact ⟨rfl, HE.out.1, HE.out.2⟩
end
end Go.Proofs.Ytldkmogennmldaa
