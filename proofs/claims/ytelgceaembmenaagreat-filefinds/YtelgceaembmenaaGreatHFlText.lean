/- The bytes of a file, read, by what its leaves are. -/
import Derived.Test.YtelgceaembmenaaGreatHSegsS
import Derived.Test.YtelgceaembmenaaGreatHBlkKit
import Derived.Handy
import Derived.Shelf.Strings.Builder1
import Derived.Shelf.Strings.Builder2
import Derived.Shelf.Strings.Repeat
import Derived.Test.YtelgceaembmenaaGreatProg
import Derived.OpenShut
import Derived.Deep.MidRow
import Derived.ArgAppend
import Derived.Great.BuildSlice
import Derived.OwnWalk
import Derived.Maps.AppendAt

namespace Go.Proofs.YtelgceaembmenaaGreat
open Go Go.RowKit

/-- the plan of a region's walk -/
inductive PlanW where
  | fin (takes : List Nat)
  | force (ts : List Nat) (i : Nat) (next : PlanW)
  | yield (ts : List Nat) (i : Nat) (next : PlanW)
  | fork (i j : Nat) (p q : PlanW)
def PlanW.len (tl : List Nat) : PlanW → Nat
  | .fin takes => takes.length + tl.length
  | .force ts _ p => ts.length + (1 + p.len tl)
  | .yield ts _ p => ts.length + (1 + p.len tl)
  | .fork _ _ p _ => p.len tl + 1
/-- the check -/
def PlanW.ok (ops : Array Oper) (tl : List Nat) : PlanW → Array Bool → Bool
  | .fin takes, listed => match takesB .any ops tl [] takes listed with
    | some l => tailB .any ops tl tl l
    | none => false
  | .force ts i p, listed => match takesB .any ops tl [] ts listed with
    | some l => forceW .any ops l i && !tl.contains i && p.ok ops tl (l.setIfInBounds i true)
    | none => false
  | .yield ts i p, listed => match takesB .any ops tl [] ts listed with
    | some l => yieldW .any ops l tl i && p.ok ops tl (l.setIfInBounds i true)
    | none => false
  | .fork i j p q, listed => Region.ready .any ops listed == [i, j] && (ops[i]?).isSome && (ops[j]?).isSome && !tl.contains i && !tl.contains j && p.len tl == q.len tl && p.ok ops tl (listed.setIfInBounds i true) && q.ok ops tl (listed.setIfInBounds j true)
def PlanW.whole (ops : Array Oper) (tl : List Nat) (p : PlanW) : Bool := p.len tl == ops.size && Region.noSelect ops && p.ok ops tl (Array.replicate ops.size false)
section
variable {P : Program} {ops : Array Oper} {Q : Exit → Act → World → Prop} {S : World → Prop}
/-- the walk -/
def wpPlanW (P : Program) (ops : Array Oper) (Q : Exit → Act → World → Prop) (S : World → Prop) (tl : List Nat) : PlanW → Act → World → Prop
  | .fin takes, a, w => wpList P ops (Strict Q) ((takes ++ tl).filterMap fun i => ops[i]?) a w
  | .force ts i p, a, w => wpList P ops (Strict fun _ a' w' => S w' ∧ wpPlanW P ops Q S tl p a' w') ((ts ++ [i]).filterMap fun i => ops[i]?) a w
  | .yield ts i p, a, w => wpList P ops (Strict fun _ a' w' => ∃ o v, ops[i]? = some o ∧ YieldsIf P ops S o v a' ∧ wpPlanW P ops Q S tl p (a'.put o.dst v) w') ((ts ++ []).filterMap fun i => ops[i]?) a w
  | .fork i j p q, a, w => wpList P ops (Strict fun _ a' w' => S w' ∧ wpPlanW P ops Q S tl p a' w') ([i].filterMap fun i => ops[i]?) a w ∧ wpList P ops (Strict fun _ a' w' => S w' ∧ wpPlanW P ops Q S tl q a' w') ([j].filterMap fun i => ops[i]?) a w
theorem planW_step (hs : Region.noSelect ops = true) (tl : List Nat) : ∀ (p : PlanW) (listed : Array Bool) (a : Act) (w : World), p.ok ops tl listed = true → S w →
      wpPlanW P ops Q S tl p a w → wpAnyW P .any ops (Strict Q) S (tl.contains ·) (p.len tl) listed a w
  | .fin takes, listed, a, w, hb, hS, h => by
    unfold PlanW.ok at hb
    split at hb
    · rename_i l2 hl2
      exact takesS_step hs tl tl.length Q takes listed l2 a w hl2 (fun a' w' _ h' => tailS_step tl l2 a' w' hb h') hS h
    · cases hb
  | .force ts i p, listed, a, w, hb, hS, h => by
    unfold PlanW.ok at hb
    split at hb
    · rename_i l2 hl2
      simp only [Bool.and_eq_true] at hb
      refine takesS_step hs [i] _ _ ts listed l2 a w hl2 (fun a' w' _ h' => ?_) hS h
      obtain ⟨o, ho⟩ := has_op' hb.1.1
      rw [Nat.add_comm 1]
      refine forceS_step hb.1.1 (wpOp_mono (fun a2 w2 h2 => ?_) (wpOp_strict (wpList_one ho h')))
      have h3 := h2.2
      exact ⟨fun _ => h3.1, planW_step hs tl p _ a2 w2 hb.2 h3.1 h3.2⟩
    · cases hb
  | .yield ts i p, listed, a, w, hb, hS, h => by
    unfold PlanW.ok at hb
    split at hb
    · rename_i l2 hl2
      simp only [Bool.and_eq_true] at hb
      refine takesS_step hs [] _ _ ts listed l2 a w hl2 (fun a' w' hS' h' => ?_) hS h
      obtain ⟨-, o, v, ho, hy, hn⟩ := h'
      have hc := hb.1
      unfold yieldW at hc
      rw [ho] at hc
      simp only [Bool.and_eq_true, Bool.not_eq_true'] at hc
      rw [Nat.add_comm 1]
      exact takeS_gen hs ho hc.1.1.1 hc.1.1.2 hc.1.2 hc.2 hy hS' (planW_step hs tl p _ _ w' hb.2 hS' hn)
    · cases hb
  | .fork i j p q, listed, a, w, hb, hS, h => by
    simp only [PlanW.ok, Bool.and_eq_true, beq_iff_eq] at hb
    obtain ⟨⟨⟨⟨⟨⟨⟨hr, hi⟩, hj⟩, _⟩, _⟩, hl⟩, hp⟩, hq⟩ := hb
    refine ⟨fun h0 => (by rw [h0] at hr; cases hr), fun x hx => ?_⟩
    rw [hr] at hx
    have hx2 : x = i ∨ x = j := by simpa using hx
    rcases hx2 with rfl | rfl
    · obtain ⟨o, ho⟩ := Option.isSome_iff_exists.1 hi
      refine wpOp_mono (fun a' w' h' => ?_) (wpOp_strict (wpList_one ho h.1))
      exact ⟨fun _ => h'.2.1, planW_step hs tl p _ a' w' hp h'.2.1 h'.2.2⟩
    · obtain ⟨o, ho⟩ := Option.isSome_iff_exists.1 hj
      refine wpOp_mono (fun a' w' h' => ?_) (wpOp_strict (wpList_one ho h.2))
      have := planW_step hs tl q _ a' w' hq h'.2.1 h'.2.2
      rw [← hl] at this
      exact ⟨fun _ => h'.2.1, this⟩
/-- THE LAW. -/
theorem wp_region_planW {id : Nat} {a : Act} {w : World} (S : World → Prop) (tl : List Nat) (p : PlanW) (hm : P.follows .mixedOrders = true) (hB : p.whole ops tl = true)
    (hS : S w.drew) (h : wpPlanW P ops Q S tl p a w.drew) : (Code.region id ops true).wp P Q a w := by
  unfold PlanW.whole at hB
  simp only [Bool.and_eq_true, beq_iff_eq] at hB
  refine Code.wp_mono Strict.imp (wp_region_any hm ?_)
  rw [← hB.1.1]
  exact wpAny_of_W _ _ _ _ (planW_step hB.1.2 tl p _ a _ (by rw [hB.1.1]; exact hB.2) hS h)
theorem planW_force {tl ts : List Nat} {i : Nat} {p : PlanW} {a : Act} {w : World}
    (h : wpList P ops (Strict fun _ a' w' => S w' ∧ wpPlanW P ops Q S tl p a' w') ((ts ++ [i]).filterMap fun i => ops[i]?) a w) : wpPlanW P ops Q S tl (.force ts i p) a w := h
theorem planW_yield {tl ts : List Nat} {i : Nat} {p : PlanW} {a : Act} {w : World}
    (h : wpList P ops (Strict fun _ a' w' => ∃ o v, ops[i]? = some o ∧ YieldsIf P ops S o v a' ∧ wpPlanW P ops Q S tl p (a'.put o.dst v) w') ((ts ++ []).filterMap fun i => ops[i]?) a w) : wpPlanW P ops Q S tl (.yield ts i p) a w := h
theorem planW_fin {tl takes : List Nat} {a : Act} {w : World} (h : wpList P ops (Strict Q) ((takes ++ tl).filterMap fun i => ops[i]?) a w) : wpPlanW P ops Q S tl (.fin takes) a w := h
end
end Go.Proofs.YtelgceaembmenaaGreat

namespace Go.Proofs.YtelgceaembmenaaGreat
open Go Go.RowKit
set_option linter.unusedSimpArgs false
set_option linter.unusedVariables false
theorem fk_info : (Tryz.prog.info? 3).map (fun i => (i.zero, i.size, i.bytes)) = some (some (.int .i64 0), 1, 8) := by kernel_rfl
theorem fk_made (v : Value) (n : Nat) : madeCells #[v] n = va n fun _ => v := by
  refine va_ext (by unfold madeCells; simp) fun i hi => ?_
  unfold madeCells
  simp [hi, Nat.mod_one]
theorem fk_make (n : Nat) (hn : n ≤ 1000000) (w : World) : (Instr.makeSlice 111 (.int .i64 (n : Int)) (.int .i64 (n : Int))).run Tryz.prog w = .ok (.slice (some ⟨w.heap.size, 0, none⟩) n n) (w.alloc (.cells (va n (iv .i64 fun _ => 0)) 3)) := by
  obtain ⟨i0, hi, hz0, hz1, hz2⟩ := info_parts fk_info
  have := run_make (P := Tryz.prog) w 111 3 i0 (.int .i64 0) Tryz.underlying111 hi hz0 .i64 .i64 (n : Int) (n : Int) (by omega) (Int.le_refl _) (by rw [hz2]; omega) (by omega)
  rw [hz1] at this
  simp only [Int.toNat_natCast, Value.cells, fk_made, Nat.mul_one] at this
  exact this
theorem fk_cell {w : World} {g t n : Nat} {f : Nat → Nat} (h : Blk w g t (va n (iv .i64 f))) (i : Nat) (hi : i < n) : w.cell? ⟨g, i, none⟩ = some (.int .i64 ((f i : Nat) : Int)) := h.cv hi
theorem fk_put {w : World} {g t n : Nat} {f : Nat → Nat} (h : Blk w g t (va n (iv .i64 f))) (i r : Nat) (hi : i < n) : Blk (w.setCell ⟨g, i, none⟩ (.int .i64 ((r : Nat) : Int))) g t (va n (iv .i64 fun j => if j = i then r else f j)) := by
  have e : (va n (iv .i64 fun j => if j = i then r else f j)) = (va n (iv .i64 f)).setIfInBounds i (.int .i64 ((r : Nat) : Int)) := by
    refine Array.ext (by rw [Array.size_setIfInBounds, va_size, va_size]) fun j h1 h2 => ?_
    have hj : j < (va n (iv .i64 f)).size := by rw [Array.size_setIfInBounds] at h2; exact h2
    rw [Array.getElem_setIfInBounds (hj := hj)]
    by_cases c : i = j
    · subst c; simp [va, iv]
    · rw [if_neg c]; simp [va, iv, Ne.symm c]
  rw [e]
  exact h.put i _
set_option maxRecDepth 100000 in
set_option maxHeartbeats 4000000 in
theorem starts_any (s : ByteArray) (hs : s.size ≤ 40000) (w : World) : Calls Tryz.prog 55 #[.string s] w fun e w' => ∃ (g : Nat) (sh : Nat → Nat), e = .returned (.slice (some ⟨g, 0, none⟩) (s.size + 1) (s.size + 1)) ∧ Blk w' g 3 (va (s.size + 1) (iv .i64 sh)) ∧ (∀ i, 1 ≤ i → i ≤ s.size → ShK (tbyte s) sh i) ∧ w.heap.size ≤ g ∧ Below w.heap.size w w' := by
  obtain ⟨m1, hm1⟩ : ∃ m, m = s.size + 1 := ⟨_, rfl⟩
  rw [← hm1]
  have hmk := fk_make m1 (by omega) w
  have HLO : Hid (∀ (i : Nat) (sh : Nat → Nat) (V : World), 1 ≤ i → i < s.size → Blk V w.heap.size 3 (va m1 (iv .i64 sh)) → (∀ j, 1 ≤ j → j ≤ i → ShK (tbyte s) sh j) → Calls Tryz.prog 56 #[.string s, .slice (some ⟨w.heap.size, 0, none⟩) m1 m1, .int .i64 ((sh i : Nat) : Int), .int .u8 ((tbyte s i : Nat) : Int)] V fun e w' => (∃ r : Nat, e = .returned (.int .i64 (r : Int)) ∧ LoK (tbyte s) (sh i) (tbyte s i) r) ∧ w' = V) := fun i sh V h1 h2 hB hS => by
    have h3 := (hS i h1 (Nat.le_refl _)).1
    exact longer_any s w.heap.size m1 m1 (sh i) (tbyte s i) sh (by omega) (by omega) (by omega) V (fun j hj => fk_cell hB j (by omega)) (fun j h4 h5 => hS j h4 (by omega))
  have k0 : Blk (w.alloc (.cells (va m1 (iv .i64 fun _ => 0)) 3)) w.heap.size 3 (va m1 (iv .i64 fun _ => 0)) := Blk.new _ _ _
  have H0 : Hid (Blk (w.alloc (.cells (va m1 (iv .i64 fun _ => 0)) 3)) w.heap.size 3 (va m1 (iv .i64 fun _ => 0)) ∧ Below w.heap.size w (w.alloc (.cells (va m1 (iv .i64 fun _ => 0)) 3))) := ⟨k0, below_new1 _ _⟩
  have sb : (s.size : Int) ≤ 40000 := by omega
  have ez : (s.size : Int) + 1 = (m1 : Int) := by omega
  have m1b : (m1 : Int) ≤ 40001 := by omega
  clear k0
  have HM1 : Hid (m1 = s.size + 1) := hm1
  clear hm1
  go_enter Tryz.func55, Tryz.ntmps55
  go_wp2_with fail
  generalize (w.alloc (.cells (va m1 (iv .i64 fun _ => 0)) 3)) = w1 at *
  go_loopw [4] (fun v wr => Hid (∃ (i : Nat) (sh : Nat → Nat), v = .int .i64 (i : Int) ∧ 1 ≤ i ∧ i ≤ max 1 s.size ∧ Blk wr w.heap.size 3 (va m1 (iv .i64 sh)) ∧ (∀ j, 1 ≤ j → j ≤ i → ShK (tbyte s) sh j) ∧ Below w.heap.size w wr)) (fun v _ => s.size - (intOf v).toNat)
  case atStart => exact ⟨1, fun _ => 0, rfl, Nat.le_refl _, by omega, H0.out.1, fun j h1 h2 => (show 1 = j by omega) ▸ sh_one _ rfl, H0.out.2⟩
  case round =>
    obtain ⟨i, sh, rfl, hi1, hi2, hB, hS, hbel⟩ := Hid.out hrel
    clear hrel H0 hmk
    by_cases hin : i < s.size
    · have i1 : (i : Int) < (s.size : Int) := by omega
      have i2 : (i : Int) + 1 < (m1 : Int) := by omega
      have i3 : (i : Int) < (m1 : Int) := by omega
      have ip : ¬ ((i : Int) + 1 < 0) := by omega
      have ipt : ((i : Int) + 1).toNat = i + 1 := by omega
      obtain ⟨b, hbe⟩ : ∃ b : UInt8, s[i]'hin = b := ⟨_, rfl⟩
      have htb : ((tbyte s i : Nat) : Int) = (b.toNat : Int) := by rw [tb_at s i hin, hbe]
      have HLi := HLO.out i sh
      rw [htb] at HLi
      have HCA : Hid (∀ V, Blk V w.heap.size 3 (va m1 (iv .i64 sh)) → Calls Tryz.prog 56 #[.string s, .slice (some ⟨w.heap.size, 0, none⟩) m1 m1, .int .i64 ((sh i : Nat) : Int), .int .u8 (b.toNat : Int)] V fun e w' => (∃ r : Nat, e = .returned (.int .i64 (r : Int)) ∧ LoK (tbyte s) (sh i) (tbyte s i) r) ∧ w' = V) := fun V hV => HLi V hi1 hin hV hS
      have HST : Hid ((∀ j, 1 ≤ j → j ≤ i → ShK (tbyte s) sh j) ∧ Below w.heap.size w wr) := ⟨hS, hbel⟩
      have wi : IntKind.i64.wrap ((i : Int) + 1) = (i : Int) + 1 := by simp [IntKind.wrap, IntKind.signed, IntKind.bits]; omega
      have HCE : Hid (∀ W : World, Blk W w.heap.size 3 (va m1 (iv .i64 sh)) → W.cell? ⟨w.heap.size, i, none⟩ = some (.int .i64 ((sh i : Nat) : Int))) := fun W hW => fk_cell hW i (by omega)
      clear hS hbel HLi htb
      generalize hsi : sh i = si at *
      have HSI : Hid (sh i = si) := hsi
      clear hsi
      go_wp2_with fail
      have hSd : Blk wr.drew w.heap.size 3 (va m1 (iv .i64 sh)) := hB.drew
      refine wp_region_planW (fun W => Blk W w.heap.size 3 (va m1 (iv .i64 sh))) [14] (.yield [0, 1] 2 (.yield [3, 4, 5, 6] 7 (.yield [] 8 (.yield [9, 10] 11 (.force [] 12 (.force [] 13 (.fin []))))))) (by kernel_rfl) (by kernel_rfl) hSd (planW_yield ?_)
      have HWD : Hid (Below w.heap.size w wr.drew) := HST.out.2.drew
      generalize wr.drew = w2 at *
      simp only [List.cons_append, List.nil_append, List.append_nil, List.filterMap_cons, List.filterMap_nil, List.getElem?_toArray, List.getElem?_cons_zero, List.getElem?_cons_succ]
      go_wp2_with fail
      refine ⟨rfl, _, .int .i64 ((i : Int) + 1), rfl, Or.inl ⟨by rfl, fun W hW => by go_simp⟩, planW_yield ?_⟩
      simp only [Act.put, List.setIfInBounds_toArray, List.set_cons_zero, List.set_cons_succ]
      simp only [List.cons_append, List.nil_append, List.append_nil, List.filterMap_cons, List.filterMap_nil, List.getElem?_toArray, List.getElem?_cons_zero, List.getElem?_cons_succ]
      go_wp2_with fail
      refine ⟨rfl, _, .pointer (some ⟨w.heap.size, i, none⟩), rfl, Or.inl ⟨by rfl, fun W hW => by go_simp⟩, planW_yield ?_⟩
      simp only [Act.put, List.setIfInBounds_toArray, List.set_cons_zero, List.set_cons_succ]
      simp only [List.cons_append, List.nil_append, List.append_nil, List.filterMap_cons, List.filterMap_nil, List.getElem?_toArray, List.getElem?_cons_zero, List.getElem?_cons_succ]
      go_wp2_with fail
      refine ⟨rfl, _, .int .i64 (si : Int), rfl, Or.inl ⟨by rfl, fun W hW => by have hW1 := HCE.out W hW; go_simp⟩, planW_yield ?_⟩
      simp only [Act.put, List.setIfInBounds_toArray, List.set_cons_zero, List.set_cons_succ]
      simp only [List.cons_append, List.nil_append, List.append_nil, List.filterMap_cons, List.filterMap_nil, List.getElem?_toArray, List.getElem?_cons_zero, List.getElem?_cons_succ]
      go_wp2_with fail
      refine ⟨rfl, _, .int .u8 (b.toNat : Int), rfl, Or.inl ⟨by rfl, fun W hW => by go_simp⟩, planW_force ?_⟩
      simp only [Act.put, List.setIfInBounds_toArray, List.set_cons_zero, List.set_cons_succ]
      simp only [List.cons_append, List.nil_append, List.append_nil, List.filterMap_cons, List.filterMap_nil, List.getElem?_toArray, List.getElem?_cons_zero, List.getElem?_cons_succ]
      go_wp2_with fail
      refine (HCA.out w2 hSd).mono ?_
      rintro e w3 ⟨⟨r, rfl, hr⟩, hw3⟩
      subst hw3
      have HR : Hid (LoK (tbyte s) si (tbyte s i) r) := hr
      clear hr
      go_wp2_with fail
      refine ⟨rfl, hSd, planW_force ?_⟩
      simp only [List.cons_append, List.nil_append, List.append_nil, List.filterMap_cons, List.filterMap_nil, List.getElem?_toArray, List.getElem?_cons_zero, List.getElem?_cons_succ]
      go_wp2_with fail
      refine ⟨rfl, hSd, planW_fin ?_⟩
      simp only [List.cons_append, List.nil_append, List.append_nil, List.filterMap_cons, List.filterMap_nil, List.getElem?_toArray, List.getElem?_cons_zero, List.getElem?_cons_succ]
      have c1 := fk_cell hSd (i + 1) (by omega)
      have f1 : w3.frozen? ⟨w.heap.size, i + 1, none⟩ = false := hSd.frozen _
      have HE : Hid (Blk (w3.setCell ⟨w.heap.size, i + 1, none⟩ (.int .i64 (r : Int))) w.heap.size 3 (va m1 (iv .i64 fun j => if j = i + 1 then r else sh j)) ∧ (∀ j, 1 ≤ j → j ≤ i + 1 → ShK (tbyte s) (fun j => if j = i + 1 then r else sh j) j) ∧ Below w.heap.size w (w3.setCell ⟨w.heap.size, i + 1, none⟩ (.int .i64 (r : Int)))) := by
        refine ⟨fk_put hSd (i + 1) r (by omega), fun j h1 h2 => ?_, HWD.out.setCell (p := ⟨w.heap.size, i + 1, none⟩) (Nat.le_refl _) _⟩
        by_cases c : j = i + 1
        · subst c
          refine sh_next (sh := sh) hi1 (HST.out.1 i hi1 (Nat.le_refl _)) (r := r) ?_ (by rw [if_pos rfl])
          rw [HSI.out]
          exact HR.out
        · have := HST.out.1 j h1 (by omega)
          unfold ShK at this ⊢
          simp only [if_neg c]
          exact this
      clear hSd
      go_wp2_with fail
      refine ⟨rfl, ?_⟩
      clear c1 f1
      go_wp2_with fail
      go_roundw
      case rel => exact ⟨i + 1, _, by first | rfl | go_num | simp, by omega, by omega, HE.out.1, HE.out.2.1, HE.out.2.2⟩
      case measure => simp [intOf]; omega
    · have i1 : ¬ ((i : Int) < (s.size : Int)) := by omega
      have HE : Hid (Blk wr w.heap.size 3 (va m1 (iv .i64 sh)) ∧ (∀ j, 1 ≤ j → j ≤ s.size → ShK (tbyte s) sh j) ∧ Below w.heap.size w wr) := ⟨hB, fun j h1 h2 => hS j h1 (by omega), hbel⟩
      clear hB hS hbel
      go_wp2_with fail
      go_ret
      first | exact ⟨w.heap.size, rfl, ⟨sh, HE.out.1, HE.out.2.1⟩, Nat.le_refl _, HE.out.2.2⟩ | exact ⟨w.heap.size, rfl, sh, HE.out.1, HE.out.2.1, Nat.le_refl _, HE.out.2.2⟩ | exact ⟨w.heap.size, sh, rfl, HE.out.1, HE.out.2.1, Nat.le_refl _, HE.out.2.2⟩
end Go.Proofs.YtelgceaembmenaaGreat

namespace Go.Proofs
open Go.Shelf
def Tryz.bGrowA_ren : Go.Shelf.Ren := ⟨fun | 165 => 59 | 240 => 72 | 241 => 73 | 276 => 86 | 277 => 87 | n => n, fun | 70 => 156 | 3 => 3 | 0 => 0 | 4 => 4 | 9 => 9 | 20 => 20 | 72 => 158 | 37 => 100 | 164 => 194 | 5 => 5 | n => n, fun | n => n⟩
theorem Tryz.bGrowA : Go.Proofs.Lays.n165 Tryz.prog Tryz.bGrowA_ren := {
  mixed := by kernel_rfl
  f165 := Tryz.func59.trans (congrArg some (by kernel_rfl))
  f240 := Tryz.func72.trans (congrArg some (by kernel_rfl))
  f241 := Tryz.func73.trans (congrArg some (by kernel_rfl))
  f276 := Tryz.func86.trans (congrArg some (by kernel_rfl))
  f277 := Tryz.func87.trans (congrArg some (by kernel_rfl))
  t0 := Tryz.underlying0
  a0 := Tryz.isAgg0
  z0 := Tryz.sizeOf0
  v0 := Tryz.zeroValue0
  t3 := Tryz.underlying3
  a3 := Tryz.isAgg3
  z3 := Tryz.sizeOf3
  v3 := Tryz.zeroValue3
  t4 := Tryz.underlying4
  a4 := Tryz.isAgg4
  z4 := Tryz.sizeOf4
  v4 := Tryz.zeroValue4
  t9 := Tryz.underlying9
  a9 := Tryz.isAgg9
  z9 := Tryz.sizeOf9
  v9 := Tryz.zeroValue9
  t20 := Tryz.underlying20
  a20 := Tryz.isAgg20
  z20 := Tryz.sizeOf20
  v20 := Tryz.zeroValue20
  t37 := Tryz.underlying100
  a37 := Tryz.isAgg100
  z37 := Tryz.sizeOf100
  v37 := Tryz.zeroValue100
  t70 := Tryz.underlying156
  a70 := Tryz.isAgg156
  z70 := Tryz.sizeOf156
  v70 := Tryz.zeroValue156
  t72 := Tryz.underlying158
  a72 := Tryz.isAgg158
  z72 := Tryz.sizeOf158
  v72 := Tryz.zeroValue158
  t164 := Tryz.underlying194
  a164 := Tryz.isAgg194
  z164 := Tryz.sizeOf194
  v164 := Tryz.zeroValue194 }
def Tryz.bStringA_ren : Go.Shelf.Ren := ⟨fun | 169 => 62 | n => n, fun | 70 => 156 | 9 => 9 | 0 => 0 | 72 => 158 | 37 => 100 | 127 => 182 | 3 => 3 | 5 => 5 | n => n, fun | n => n⟩
theorem Tryz.bStringA : Go.Proofs.Lays.n169 Tryz.prog Tryz.bStringA_ren := {
  mixed := by kernel_rfl
  f169 := Tryz.func62.trans (congrArg some (by kernel_rfl))
  t0 := Tryz.underlying0
  a0 := Tryz.isAgg0
  z0 := Tryz.sizeOf0
  v0 := Tryz.zeroValue0
  t3 := Tryz.underlying3
  a3 := Tryz.isAgg3
  z3 := Tryz.sizeOf3
  v3 := Tryz.zeroValue3
  t9 := Tryz.underlying9
  a9 := Tryz.isAgg9
  z9 := Tryz.sizeOf9
  v9 := Tryz.zeroValue9
  t37 := Tryz.underlying100
  a37 := Tryz.isAgg100
  z37 := Tryz.sizeOf100
  v37 := Tryz.zeroValue100
  t70 := Tryz.underlying156
  a70 := Tryz.isAgg156
  z70 := Tryz.sizeOf156
  v70 := Tryz.zeroValue156
  t72 := Tryz.underlying158
  a72 := Tryz.isAgg158
  z72 := Tryz.sizeOf158
  v72 := Tryz.zeroValue158
  t127 := Tryz.underlying182
  a127 := Tryz.isAgg182
  z127 := Tryz.sizeOf182
  v127 := Tryz.zeroValue182 }
def Tryz.bLenA_ren : Go.Shelf.Ren := ⟨fun | 170 => 60 | n => n, fun | 70 => 156 | 3 => 3 | 0 => 0 | 72 => 158 | 37 => 100 | 5 => 5 | n => n, fun | n => n⟩
theorem Tryz.bLenA : Go.Proofs.Lays.n170 Tryz.prog Tryz.bLenA_ren := {
  mixed := by kernel_rfl
  f170 := Tryz.func60.trans (congrArg some (by kernel_rfl))
  t0 := Tryz.underlying0
  a0 := Tryz.isAgg0
  z0 := Tryz.sizeOf0
  v0 := Tryz.zeroValue0
  t3 := Tryz.underlying3
  a3 := Tryz.isAgg3
  z3 := Tryz.sizeOf3
  v3 := Tryz.zeroValue3
  t37 := Tryz.underlying100
  a37 := Tryz.isAgg100
  z37 := Tryz.sizeOf100
  v37 := Tryz.zeroValue100
  t70 := Tryz.underlying156
  a70 := Tryz.isAgg156
  z70 := Tryz.sizeOf156
  v70 := Tryz.zeroValue156
  t72 := Tryz.underlying158
  a72 := Tryz.isAgg158
  z72 := Tryz.sizeOf158
  v72 := Tryz.zeroValue158 }
end Go.Proofs

namespace Go.Proofs.YtelgceaembmenaaGreat
open Go.RowKit
set_option linter.unusedSimpArgs false
set_option linter.unusedVariables false

def Fit (a m : Int) : Prop := 0 ≤ a ∧ 0 ≤ m ∧ a ≤ 256 - m
instance (a m : Int) : Decidable (Fit a m) := by unfold Fit; infer_instance

end Go.Proofs.YtelgceaembmenaaGreat

namespace Go.Proofs.YtelgceaembmenaaGreat
open Go Go.RowKit
set_option linter.unusedVariables false

theorem kblk_range {w : World} {g t n : Nat} {f : Nat → Value} (h : Blk w g t (va n f)) : w.rangeAt g 0 ((List.range n).map f) := fun j v hv => by
  refine h.range 0 n (by omega) j v ?_
  rw [← hv]
  simp
theorem kyields_load {P : Program} {ops : Array Oper} {S : World → Prop} {op : Oper} {a : Act} (hw : Region.wanted op (yielded ops a.tmps) = true) (ty : TypeId) (x : Operand) (ho : op.op = .load ty x)
    (b n : Nat) (f : Nat → Value) (hx : a.eval x = .pointer (some ⟨b, 0, none⟩)) (d : TypeDesc) (t : Nat) (hS : ∀ w, S w → Blk w b t (va n f))
    (hu : P.underlying ty = some d) (hd : d.isRow = true) (hi : (P.info? ty).map (·.size) = some n) : YieldsIf P ops S op (.agg (va n f)) a :=
  yieldsIf_load_mid hw ty x ho b 0 hx _ d (fun w h => kblk_range (hS w h)) hu hd (hi.trans (by simp))
end Go.Proofs.YtelgceaembmenaaGreat

namespace Go.Proofs.YtelgceaembmenaaGreat
open Go Go.RowKit
set_option linter.unusedVariables false

/-- the slice at a of n blocks, told by L -/
def IsBlks (w : World) (a : Option Addr) (n : Nat) (L : Nat → Nat → Nat) : Prop :=
  ∀ i, i < n → ∃ b o, a = some ⟨b, o, none⟩ ∧ b < w.heap.size ∧ w.rangeAt b (o + i * 256) ((List.range 256).map (iv .u8 (L i)))
theorem range_below {w w' : World} {B b o : Nat} {cs : List Value} (h : w.rangeAt b o cs) (hb : Below B w w') (hB : b < B) : w'.rangeAt b o cs := fun j v hv => by
  rw [← h j v hv]
  simp [World.cell?, hb.block b hB]
theorem IsBlks.below {w w' : World} {a : Option Addr} {n : Nat} {L : Nat → Nat → Nat} (h : IsBlks w a n L) (hb : Below w.heap.size w w') : IsBlks w' a n L := fun i hi => by
  obtain ⟨b, o, e, h1, h2⟩ := h i hi
  exact ⟨b, o, e, Nat.lt_of_lt_of_le h1 hb.size, range_below h2 hb h1⟩
end Go.Proofs.YtelgceaembmenaaGreat

namespace Go.Proofs.YtelgceaembmenaaGreat
open Go Go.RowKit
set_option linter.unusedVariables false

theorem kown_mono {w : World} {B B' e size n : Nat} {v : Value} {xs : List Value} (h : w.ownsRow B e size v n xs) (hB : B' ≤ B) : w.ownsRow B' e size v n xs :=
  ⟨h.1, h.2.imp id fun ⟨g, cap, cur, a, b, r⟩ => ⟨g, cap, cur, a, Nat.le_trans hB b, r⟩⟩
theorem kown_form {w : World} {B e size n : Nat} {v : Value} {xs : List Value} (h : w.ownsRow B e size v n xs) (hn : 0 < n) : ∃ g cap, v = .slice (some ⟨g, 0, none⟩) n cap ∧ B ≤ g ∧ g < w.heap.size := by
  rcases h.2 with ⟨_, h0⟩ | ⟨g, cap, cur, rfl, hb, hg, _⟩
  · omega
  · exact ⟨g, cap, rfl, hb, (Array.getElem?_eq_some_iff.1 hg).1⟩
theorem kown_slice {w : World} {B e size n : Nat} {v : Value} {xs : List Value} (h : w.ownsRow B e size v n xs) : ∃ a cap, v = .slice a n cap := by
  rcases h.2 with ⟨rfl, rfl⟩ | ⟨g, cap, cur, rfl, hb, hg, _⟩
  · exact ⟨none, 0, rfl⟩
  · exact ⟨_, cap, rfl⟩
theorem kown_below {w w' : World} {B e size n : Nat} {v : Value} {xs : List Value} (h : w.ownsRow B e size v n xs) (hb : Below w.heap.size w w') : w'.ownsRow B e size v n xs := by
  refine ⟨h.1, ?_⟩
  rcases h.2 with hn | ⟨g, cap, cur, rfl, hg, hgg, rest⟩
  · exact .inl hn
  · exact .inr ⟨g, cap, cur, rfl, hg, (hb.block g (Array.getElem?_eq_some_iff.1 hgg).1).trans hgg, rest⟩
theorem kown_kept {w w' : World} {B e size n : Nat} {v : Value} {xs : List Value} (h : w.ownsRow B e size v n xs) (hk : ∀ k, B ≤ k → v.ownBlock = some k → w'.heap[k]? = w.heap[k]?) : w'.ownsRow B e size v n xs := by
  refine ⟨h.1, ?_⟩
  rcases h.2 with hn | ⟨g, cap, cur, rfl, hg, hgg, rest⟩
  · exact .inl hn
  · exact .inr ⟨g, cap, cur, rfl, hg, (hk g hg rfl).trans hgg, rest⟩
theorem kown_setRow {w : World} {B e size n : Nat} {v : Value} {xs : List Value} (h : w.ownsRow B e size v n xs) {g : Nat} (hne : ∀ k, B ≤ k → v.ownBlock = some k → k ≠ g) (cs : Array Value) : (w.setRow g cs).ownsRow B e size v n xs :=
  kown_kept h fun k hk hv => setRow_other w g k cs (hne k hk hv)
end Go.Proofs.YtelgceaembmenaaGreat

namespace Go.Proofs.YtelgceaembmenaaGreat
open Go.RowKit
set_option linter.unusedSimpArgs false
set_option linter.unusedVariables false

theorem fold_set : ∀ (l : List Value) (k : Nat) (A : Array Value), k + l.length ≤ A.size →
    ((l.zipIdx k).foldl (fun cs (x : Value × Nat) => cs.setIfInBounds (0 + x.2) x.1) A).size = A.size ∧
    ∀ i, ((l.zipIdx k).foldl (fun cs (x : Value × Nat) => cs.setIfInBounds (0 + x.2) x.1) A)[i]? = if k ≤ i ∧ i < k + l.length then l[i - k]? else A[i]?
  | [], k, A, h => ⟨rfl, fun i => by simp; omega⟩
  | v :: l, k, A, h => by
    rw [List.zipIdx_cons, List.foldl_cons]
    obtain ⟨h1, h2⟩ := fold_set l (k + 1) (A.setIfInBounds (0 + k) v) (by simp at h ⊢; omega)
    refine ⟨by rw [h1]; simp, fun i => ?_⟩
    rw [h2 i]
    simp at h
    by_cases hi : i = k
    · subst hi
      rw [if_neg (by omega), if_pos (by simp), Nat.zero_add, Array.getElem?_setIfInBounds, if_pos rfl, if_pos (by omega), Nat.sub_self]
      rfl
    · by_cases hj : k + 1 ≤ i ∧ i < k + 1 + l.length
      · rw [if_pos hj, if_pos (by simp; omega)]
        obtain ⟨d, hd⟩ : ∃ d, i - k = d + 1 := ⟨i - k - 1, by omega⟩
        rw [hd, List.getElem?_cons_succ, show i - (k + 1) = d by omega]
      · rw [if_neg hj, if_neg (by simp; omega), Array.getElem?_setIfInBounds, if_neg (by omega)]
theorem fill_one (n : Nat) (cells cs : Array Value) (h1 : cells.size = n) (h2 : cs.size = n) : Instr.fill (fun i => some (i * n, n)) cells [(0, .agg cs)] = some cs := by
  have hc : (Value.agg cs).cells = cs := rfl
  unfold Instr.fill
  simp only [hc, h2, h1, ne_eq, not_true_eq_false, decide_false, Bool.false_or, Nat.zero_mul, Nat.zero_add, Nat.lt_irrefl, decide_false, gt_iff_lt, if_false, Bool.false_eq_true]
  unfold Instr.fill
  congr 1
  obtain ⟨e1, e2⟩ := fold_set cs.toList 0 cells (by simp [h1, h2])
  apply Array.ext_getElem?
  intro i
  have := e2 i
  simp only [Nat.zero_add] at this e1
  have e3 : cs.zipIdx.foldl (fun cs (x : Value × Nat) => match x with | (c, j) => cs.setIfInBounds j c) cells = (cs.toList.zipIdx 0).foldl (fun cs (x : Value × Nat) => cs.setIfInBounds x.2 x.1) cells := by
    rw [← Array.foldl_toList]
    simp
  rw [e3, this]
  by_cases hi : i < cs.size
  · rw [if_pos (by simpa using hi)]
    simp
  · rw [if_neg (by simpa using hi), Array.getElem?_eq_none (by omega), Array.getElem?_eq_none (by omega)]
/-- a slice of one array -/
theorem wpList_build1 {P : Program} {ops : Array Oper} {rest : List Oper} {o : Oper} {a : Act} {w : World} {Q : Exit → Act → World → Prop} (hg : o.guard = none) (t e : TypeId) (x : Operand) (ho : o.op = .buildSlice t 1 #[(0, x)])
    (cs : Array Value) (hx : a.eval x = .agg cs) (ie : TypeInfo) (z : Value) (n : Nat)
    (hu : P.underlying t = some (.slice e)) (hie : P.info? e = some ie) (hz : ie.zero = some z) (hn : ie.size = n) (hcs : cs.size = n) (h0 : 0 < n) (h24 : n ≤ 16777216)
    (h : wpList P ops Q rest (a.put o.dst (.slice (some ⟨w.heap.size, 0, none⟩) 1 1)) (w.alloc (.cells cs e))) : wpList P ops Q (o :: rest) a w := by
  refine wpList_buildSlice hg t e 1 _ ho cs ie z hu hie hz (by rw [hn]; omega) (by rw [hn]; omega) ?_ h
  rw [hn]
  have e1 : (Array.map (fun (x : Nat × Operand) => match x with | (i, x) => (i, a.eval x)) #[(0, x)]).toList = [(0, Value.agg cs)] := by
    simp [hx]
  rw [e1]
  exact fill_one n _ _ (by simp) hcs
theorem infoBk : (Tryz.prog.info? 96).map (fun i => (i.zero, i.size, i.bytes)) = some (some (.agg (va 256 (iv .u8 fun _ => 0))), 256, 256) := by kernel_rfl

/-- a block of a slice, loaded -/
theorem wpList_load_blk {P : Program} {ops : Array Oper} {rest : List Oper} {op : Oper} {a : Act} {w : World} {Q : Exit → Act → World → Prop} (hgd : op.guard = none) (ty : TypeId) (x : Operand) (ho : op.op = .load ty x)
    (b o n : Nat) (f : Nat → Value) (hx : a.eval x = .pointer (some ⟨b, o, none⟩)) (d : TypeDesc) (hc : w.rangeAt b o ((List.range n).map f))
    (hu : P.underlying ty = some d) (hd : d.isRow = true) (hi : (P.info? ty).map (·.size) = some n)
    (h : wpList P ops Q rest (a.put op.dst (.agg (va n f))) w) : wpList P ops Q (op :: rest) a w :=
  wpList_load_mid hgd ty x ho b o hx _ d hc hu hd (hi.trans (by simp)) h
theorem cells_new (w : World) (cs : Array Value) (t : TypeId) : ∀ j u, cs.toList[j]? = some u → (w.alloc (.cells cs t)).cell? ((⟨w.heap.size, 0, none⟩ : Addr).add j) = some u := fun j u hu => by
  have hb : Blk (w.alloc (.cells cs t)) w.heap.size t cs := Blk.new w t cs
  rw [Addr.add_mid, Nat.zero_add, hb.cell]
  simpa using hu
theorem kva_mem_one (n : Nat) (f : Nat → Nat) : ∀ v ∈ (va n (iv .u8 f)).toList, v.oneCell' = true := fun v hv => by
  rw [va_toList] at hv
  obtain ⟨i, _, rfl⟩ := List.mem_map.1 hv
  rfl
end Go.Proofs.YtelgceaembmenaaGreat

namespace Go.Proofs.YtelgceaembmenaaGreat
open Go Go.RowKit Go.Shelf
set_option linter.unusedSimpArgs false
set_option linter.unusedVariables false
theorem bx_grow : Builder.Extra Tryz.prog Tryz.bGrowA_ren where
  sizeBuilder := by kernel_rfl
  liesBuilder := by kernel_rfl
  t5 := Tryz.underlying5
  a5 := Tryz.isAgg5
  z5 := Tryz.sizeOf5
  v5 := Tryz.zeroValue5
  infoByte := by kernel_rfl
  cellsByte := by kernel_rfl
  sizeByte := by kernel_rfl
  neB5 := by decide
theorem bx_string : Builder.Extra Tryz.prog Tryz.bStringA_ren where
  sizeBuilder := by kernel_rfl
  liesBuilder := by kernel_rfl
  t5 := Tryz.underlying5
  a5 := Tryz.isAgg5
  z5 := Tryz.sizeOf5
  v5 := Tryz.zeroValue5
  infoByte := by kernel_rfl
  cellsByte := by kernel_rfl
  sizeByte := by kernel_rfl
  neB5 := by decide
theorem fl_zero {t : TypeId} {v : Value} (h : (Tryz.prog.info? t).bind (·.zero) = some v) (w : World) : (zeroValue t).run Tryz.prog w = .ok v w := by
  cases hq : Tryz.prog.info? t with
  | none => simp [hq] at h
  | some i =>
    have hi : i.zero = some v := by simpa [hq] using h
    simp [zeroValue, typeInfo, hq, hi]
theorem zero_bld (w : World) : (zeroValue 158).run Tryz.prog w = .ok (.agg #[.pointer none, .slice none 0 0]) w := fl_zero (by kernel_rfl) w
theorem zero_info (w : World) : (zeroValue 74).run Tryz.prog w = .ok (.agg #[.int .i64 0, .int .i64 0, .int .i64 0, .int .i64 0, .int .u64 0]) w := fl_zero (by kernel_rfl) w
/-- a builder that was used, in a block of its own -/
def BuA (w : World) (B b : Nat) (bs : List Value) : Prop := Lib.BuilderAt 158 5 B b (.pointer (some ⟨b, 0, none⟩)) bs w
theorem bgrow_new (B b n : Nat) (w : World) (hB : B ≤ b) (hbk : Blk w b 158 #[.pointer none, .slice none 0 0]) (hBw : B ≤ w.heap.size) (hn : n ≤ 281474976710656) : Calls Tryz.prog 59 #[.pointer (some ⟨b, 0, none⟩), .int .i64 (n : Int)] w fun e w' => e = .returned (.tuple #[]) ∧ BuA w' B b [] ∧ Below B w w' :=
  Any.Builder_Grow_fresh Tryz.bGrowA bx_grow B b n w hB hbk hBw hn
theorem blen_any (B b : Nat) (bs : List Value) (w : World) (h : BuA w B b bs) : Calls Tryz.prog 60 #[.pointer (some ⟨b, 0, none⟩)] w fun e w' => e = .returned (.int .i64 (bs.length : Int)) ∧ w' = w :=
  Any.Builder_Len Tryz.bLenA B b bs w (.inr h)
theorem cells_strN (f : Nat → Nat) (m : Nat) (hf : ∀ j, j < m → f j < 256) : Lib.byteCells (strN f m).data.toList = byL f m := by
  unfold Lib.byteCells strN byL
  rw [strOfNums_data, List.map_map, List.map_map]
  refine List.map_congr_left fun j hj => ?_
  have := hf j (List.mem_range.1 hj)
  simp
  omega
theorem bstring_any (B b m : Nat) (f : Nat → Nat) (hf : ∀ j, j < m → f j < 256) (w : World) (h : BuA w B b (byL f m)) (hBw : B ≤ w.heap.size) : Calls Tryz.prog 62 #[.pointer (some ⟨b, 0, none⟩)] w fun e w' => e = .returned (.string (strN f m)) ∧ Below B w w' := by
  have := Any.Builder_String_any Tryz.bStringA bx_string B b (strN f m).data.toList w (.inr (by rw [cells_strN f m hf]; exact h)) hBw
  exact this
theorem bcheck_used (b : Nat) (w : World) (h0 : w.cell? ⟨b, 0, none⟩ = some (.pointer (some ⟨b, 0, none⟩))) : Calls Tryz.prog 72 #[.pointer (some ⟨b, 0, none⟩)] w fun e w' => e = .returned (.tuple #[]) ∧ w' = w :=
  Any.Builder_copyCheck_used { Tryz.bGrowA with } bx_grow.toX72 b w h0
theorem infoB8 : (Tryz.prog.info? 5).map (fun i => (i.zero, i.size, i.bytes)) = some (some (.int .u8 0), 1, 1) := by kernel_rfl
theorem BuA.keep {w w' : World} {B b : Nat} {bs : List Value} (h : BuA w B b bs) (hk : ∀ k, k < w.heap.size → B ≤ k → w'.heap[k]? = w.heap[k]?) : BuA w' B b bs := by
  obtain ⟨hB, v, hbk, hown, hne⟩ := h
  have hlt : b < w.heap.size := (Array.getElem?_eq_some_iff.1 hbk).1
  refine ⟨hB, v, (hk b hlt hB).trans hbk, ⟨hown.1, ?_⟩, hne⟩
  rcases hown.2 with h | ⟨g, cap, cur, h1, h2, h3, h4⟩
  · exact .inl h
  · exact .inr ⟨g, cap, cur, h1, h2, (hk g (Array.getElem?_eq_some_iff.1 h3).1 h2).trans h3, h4⟩
theorem BuA.below {w w' : World} {B b : Nat} {bs : List Value} (h : BuA w B b bs) (hb : Below w.heap.size w w') : BuA w' B b bs := h.keep fun k hk _ => hb.block k hk
set_option maxRecDepth 100000 in
set_option maxHeartbeats 2000000 in
/-- bytes of any block written behind a builder's own -/
theorem bwrite_any (B b : Nat) (bs : List Value) (g o m c : Nat) (news : List Value) (w : World) (h : BuA w B b bs) (hl : news.length = m) (hnews : ∀ j u, news[j]? = some u → w.cell? ((⟨g, o, none⟩ : Addr).add j) = some u) (h1 : ∀ u ∈ news, u.oneCell' = true) (hlen : bs.length + m ≤ 140737488355328) (hBw : B ≤ w.heap.size) : Calls Tryz.prog 61 #[.pointer (some ⟨b, 0, none⟩), .slice (some ⟨g, o, none⟩) m c] w fun e w' => e = .returned (.tuple #[.int .i64 (m : Int), .nilIface]) ∧ BuA w' B b (bs ++ news) ∧ Below B w w' := by
  obtain ⟨i0, hi, hz0, hz1, hz2⟩ := info_parts infoB8
  obtain ⟨hB, v, hbk, hown, hne⟩ := h
  have c0 : w.cell? ⟨b, 0, none⟩ = some (.pointer (some ⟨b, 0, none⟩)) := by rw [Lib.cell_of_heap hbk]; rfl
  have c1 : w.cell? ⟨b, 1, none⟩ = some v := by rw [Lib.cell_of_heap hbk]; rfl
  have HC := bcheck_used b w c0
  go_enter Tryz.func61, Tryz.ntmps61
  go_wp2_with fail
  refine HC.mono ?_
  rintro e w1 ⟨rfl, rfl⟩
  clear HC
  have HN : Hid (∀ j u, news[j]? = some u → w1.cell? ((⟨g, o, none⟩ : Addr).add j) = some u) := hnews
  have HL : Hid (news.length = m * 1) := by show _ = _; omega
  clear hnews
  go_wp2_with (first | (at_builtin; refine wpList_append_own _ rfl _ _ 100 rfl B 5 i0 (.int .u8 0) 1 1 Tryz.underlying100 hi hz0 hz1 hz2 rfl (by decide) _ _ _ rfl hown ⟨g, o, none⟩ m c news rfl HL.out HN.out h1 ?c3 ?c4 ?c5 ?_) | go_in)
  case c3 => unfold maxLen; omega
  case c4 => omega
  case c5 => exact hBw
  intro v' w2 hown' hgrow _
  have hlt : b < w1.heap.size := (Array.getElem?_eq_some_iff.1 hbk).1
  have hb2 : w2.heap[b]? = some (.cells #[.pointer (some ⟨b, 0, none⟩), v] 158 (0, 0)) := by
    rw [hgrow.block b hlt (fun e => hne e.symm)]
    exact hbk
  have d0 : w2.cell? ⟨b, 0, none⟩ = some (.pointer (some ⟨b, 0, none⟩)) := by rw [Lib.cell_of_heap hb2]; rfl
  have d1 : w2.cell? ⟨b, 1, none⟩ = some v := by rw [Lib.cell_of_heap hb2]; rfl
  have f1 : w2.frozen? ⟨b, 1, none⟩ = false := Lib.frozen_of_heap hb2 1
  obtain ⟨ao, n', cap, rfl⟩ : ∃ ao n' cap, v' = .slice ao n' cap := by
    rcases hown'.2 with ⟨hv, _⟩ | ⟨g, cap, cur, hv, _⟩
    · exact ⟨_, _, _, hv⟩
    · exact ⟨_, _, _, hv⟩
  go_wp2_with fail
  go_ret2
  refine ⟨rfl, ?_, ?_⟩
  · exact Lib.BuilderAt.put (T := 158) (e := 5) hB hb2 (bs' := bs ++ news) (by simpa [hl] using hown') (by decide)
  · exact ((Below.refl B w1).grown hgrow hBw (fun k hk => (hown.lt k hk).1)).setCell (p := ⟨b, 1, none⟩) hB _
end Go.Proofs.YtelgceaembmenaaGreat

namespace Go.Proofs.YtelgceaembmenaaGreat
open Go Go.RowKit
set_option linter.unusedSimpArgs false
set_option linter.unusedVariables false
/-- how many bytes a builder has -/
def bldLen (w : World) (b : Nat) : Nat := match w.cell? ⟨b, 1, none⟩ with | some (.slice _ n _) => n | _ => 0
theorem BuA.len {w : World} {B b : Nat} {bs : List Value} (h : BuA w B b bs) : bldLen w b = bs.length := by
  obtain ⟨hB, v, hbk, hown, hne⟩ := h
  have c1 : w.cell? ⟨b, 1, none⟩ = some v := by rw [Lib.cell_of_heap hbk]; rfl
  unfold bldLen
  rw [c1]
  rcases hown.2 with ⟨rfl, h⟩ | ⟨g, cap, cur, rfl, _⟩
  · exact h.symm
  · rfl
/-- an inode's information, of a file -/
def fiC (n sz st : Nat) : Array Value := #[.int .i64 (n : Int), .int .i64 1, .int .i64 1, .int .i64 (sz : Int), .int .u64 ((st : Nat) : Int)]
theorem fi_c0 {w : World} {b t n sz st : Nat} (H : Blk w b t (fiC n sz st)) : w.cell? ⟨b, 0, none⟩ = some (.int .i64 (n : Int)) := (H.cell 0).trans rfl
theorem fi_c3 {w : World} {b t n sz st : Nat} (H : Blk w b t (fiC n sz st)) : w.cell? ⟨b, 3, none⟩ = some (.int .i64 (sz : Int)) := (H.cell 3).trans rfl
section
variable {w w' : World} {x n sz st : Nat} {F : Nat → Nat} {L : Nat → Nat → Nat}
set_option maxRecDepth 100000 in
set_option maxHeartbeats 8000000 in
theorem text_any (hsz : sz ≤ 1048576) (hF : ∀ p, p < sz → F p < 256) (hL : ∀ q i, i < 256 → 256 * q + i < sz → L q i = F (256 * q + i)) (HLF : ∀ V, Below w.heap.size w V → ∀ q : Nat, q < 4096 → Calls Tryz.prog 34 #[.pointer (some ⟨x, 0, none⟩), .int .i64 (n : Int), .int .i64 (q : Int)] V fun e w' => e = .returned (.tuple #[.agg (va 256 (iv .u8 (L q))), .int .i64 0]) ∧ Below V.heap.size V w') (a m : Nat) (ha : a ≤ 9223372036854775807) (ham : m = 0 ∨ a + m ≤ sz) : Calls Tryz.prog 37 #[.pointer (some ⟨x, 0, none⟩), .agg (fiC n sz st), .int .i64 (a : Int), .int .i64 (m : Int)] w fun e w' => e = .returned (.tuple #[.string (strN (fun j => F (a + j)) m), .int .i64 0]) ∧ Below w.heap.size w w' := by
  have hb1 : Below w.heap.size w ((w.alloc (.cells (fiC n sz st) 74)).alloc (.cells #[.pointer none, .slice none 0 0] 158)) := ((Below.refl _ _).alloc (Nat.le_refl _) _).alloc (by simp) _
  have k0 : Blk ((w.alloc (.cells (fiC n sz st) 74)).alloc (.cells #[.pointer none, .slice none 0 0] 158)) w.heap.size 74 (fiC n sz st) := (Blk.new _ _ _).alloc _
  have k1 : Blk ((w.alloc (.cells (fiC n sz st) 74)).alloc (.cells #[.pointer none, .slice none 0 0] 158)) (w.heap.size + 1) 158 #[.pointer none, .slice none 0 0] := Blk.new1 _ _ _ _
  have hm : m ≤ 1048576 := by omega
  have HG := bgrow_new (w.heap.size + 1) (w.heap.size + 1) m _ (Nat.le_refl _) k1 (by simp) (by omega)
  have HL : Hid (∀ V, Below w.heap.size w V → ∀ q : Nat, q < 4096 → Calls Tryz.prog 34 #[.pointer (some ⟨x, 0, none⟩), .int .i64 (n : Int), .int .i64 (q : Int)] V fun e w' => e = .returned (.tuple #[.agg (va 256 (iv .u8 (L q))), .int .i64 0]) ∧ Below V.heap.size V w') := HLF
  have HI : Hid ((∀ p, p < sz → F p < 256) ∧ (∀ q i, i < 256 → 256 * q + i < sz → L q i = F (256 * q + i)) ∧ (m = 0 ∨ a + m ≤ sz)) := ⟨hF, hL, ham⟩
  have HB1 : Hid (Below w.heap.size w ((w.alloc (.cells (fiC n sz st) 74)).alloc (.cells #[.pointer none, .slice none 0 0] 158)) ∧ Blk ((w.alloc (.cells (fiC n sz st) 74)).alloc (.cells #[.pointer none, .slice none 0 0] 158)) w.heap.size 74 (fiC n sz st)) := ⟨hb1, k0⟩
  have hzb := zero_bld
  clear HLF hL hF hb1 k1 k0 ham
  go_enter Tryz.func37, Tryz.ntmps37
  go_wp2_with fail
  refine HG.mono ?_
  rintro e w1 ⟨rfl, hu1, hbw⟩
  have hb1 : Below w.heap.size w w1 := HB1.out.1.trans (hbw.mono (by omega))
  have hk1 : Blk w1 w.heap.size 74 (fiC n sz st) := HB1.out.2.below hbw (by omega)
  clear HG HB1 hbw
  go_wp2_with fail
  go_loopw [11] (fun t wr => ∃ k : Nat, k ≤ m ∧ BuA wr (w.heap.size + 1) (w.heap.size + 1) (byL (fun j => F (a + j)) k) ∧ Blk wr w.heap.size 74 (fiC n sz st) ∧ Below w.heap.size w wr) (fun t wr => m - bldLen wr (w.heap.size + 1))
  case atStart => exact ⟨0, Nat.zero_le _, hu1, hk1, hb1⟩
  case round =>
    obtain ⟨k, hk, hu, hkI, hb⟩ := hrel
    have HU : Hid (BuA wr (w.heap.size + 1) (w.heap.size + 1) (byL (fun j => F (a + j)) k) ∧ Blk wr w.heap.size 74 (fiC n sz st) ∧ Below w.heap.size w wr) := ⟨hu, hkI, hb⟩
    have HN := blen_any _ _ _ _ hu
    rw [byL_length] at HN
    have c0 := fi_c0 hkI
    clear hu hkI hb hu1 hk1 hb1
    by_cases hlt : k < m
    · have hs : a + m ≤ sz := by have := HI.out.2.2; omega
      obtain ⟨pl, hpl⟩ : ∃ pl : Nat, a + k = pl := ⟨_, rfl⟩
      have e1 : (a : Int) + (k : Int) = (pl : Int) := by omega
      obtain ⟨q, hq⟩ : ∃ q : Nat, pl / 256 = q := ⟨_, rfl⟩
      obtain ⟨r, hr⟩ : ∃ r : Nat, pl % 256 = r := ⟨_, rfl⟩
      have e2 : (pl : Int).tdiv 256 = (q : Int) := by rw [← hq]; rfl
      have e3 : (pl : Int).tmod 256 = (r : Int) := by rw [← hr]; rfl
      have t1 : (k : Int) < (m : Int) := by omega
      have q2 : q ≤ 4096 := by omega
      have HLq := HL.out wr HU.out.2.2 q (by omega)
      have hz := zero_bk
      have HQ : Hid (pl / 256 = q ∧ pl % 256 = r ∧ a + k = pl ∧ a + m ≤ sz) := ⟨hq, hr, hpl, hs⟩
      have r1 : (0 : Int) ≤ (r : Int) := by omega
      have r2 : (r : Int) ≤ 256 := by omega
      have r3 : r < 256 := by omega
      have r4 : ¬ r = 256 := by omega
      obtain ⟨rr, hrr⟩ : ∃ rr : Nat, 256 - r = rr := ⟨_, rfl⟩
      obtain ⟨mk, hmk⟩ : ∃ mk : Nat, m - k = mk := ⟨_, rfl⟩
      obtain ⟨j, hj⟩ : ∃ j : Nat, min mk rr = j := ⟨_, rfl⟩
      have e4 : (m : Int) - (k : Int) = (mk : Int) := by omega
      have e5 : min (rr : Int) (mk : Int) = (j : Int) := by omega
      have j1 : j ≤ rr := by omega
      have j2 : rr ≤ 256 := by omega
      have HJ : Hid (256 - r = rr ∧ m - k = mk ∧ min mk rr = j) := ⟨hrr, hmk, hj⟩
      have mk2 : mk ≤ 1048576 := by omega
      clear hmk hj
      have p2 : pl ≤ 1048576 := by omega
      clear hq hr hpl hs
      go_wp2_with fail
      refine HN.mono ?_
      rintro e w2 ⟨rfl, hw⟩
      rw [hw]
      clear hw w2
      go_wp2_with fail
      refine HN.mono ?_
      rintro e w2 ⟨rfl, hw⟩
      rw [hw]
      clear hw w2
      go_wp2_with fail
      refine HLq.mono ?_
      rintro e w4 ⟨rfl, hb4⟩
      have hu4 := HU.out.1.below hb4
      have n4 := Blk.new w4 96 (va 256 (iv .u8 fun _ => 0))
      have g5 := n4.set (va 256 (iv .u8 (L q)))
      have hb5 : Below wr.heap.size wr ((w4.alloc (Obj.cells (va 256 (iv IntKind.u8 fun _ => 0)) 96)).setRow w4.heap.size (va 256 (iv .u8 (L q)))) := below_setRow (hb4.alloc hb4.size _) hb4.size _
      have hu5 := HU.out.1.below hb5
      have HN5 := blen_any _ _ _ _ hu5
      rw [byL_length] at HN5
      go_wp2_with (first
        | (refine wpList_store_row (by rfl) 96 _ _ (by rfl) (w4.heap.size) (va 256 (iv .u8 (L q))) (by rfl) (by rfl) 96 _ n4 (sizeBk.trans (by rw [va_size])) (by simp only [va_size]) (iv_one _ _ _) ?_; simp only [Act.put, List.setIfInBounds_toArray, List.set_cons_zero, List.set_cons_succ])
        | fail)
      refine HN5.mono ?_
      rintro e w2 ⟨rfl, hw⟩
      rw [hw]
      clear hw w2
      obtain ⟨W, hW⟩ : ∃ W, (w4.alloc (Obj.cells (va 256 (iv IntKind.u8 fun _ => 0)) 96)).setRow w4.heap.size (va 256 (iv .u8 (L q))) = W := ⟨_, rfl⟩
      rw [hW] at g5 hb5 hu5 ⊢
      have HW := bwrite_any _ _ _ w4.heap.size r j rr (byL (fun i => F (a + (k + i))) j) W hu5 (byL_length _ _) (fun i u hu => by
        have hi : i < j := by
          have := (List.getElem?_eq_some_iff.1 hu).1
          rw [byL_length] at this
          exact this
        rw [byL_at _ _ _ hi] at hu
        have hq := HQ.out
        have hj := HJ.out
        rw [Addr.add_mid, g5.cv (by omega)]
        unfold iv
        rw [HI.out.2.1 q (r + i) (by omega) (by omega), ← hu]
        congr 4
        omega) (fun u hu => by
        obtain ⟨i, _, rfl⟩ := List.mem_map.1 hu
        rfl) (by rw [byL_length]; have hj := HJ.out; omega) (by have := hb5.size; have := HU.out.2.2.size; have := HU.out.2.1.lt; omega)
      clear hW n4 hu4 hb4
      go_wp2_with fail
      refine HW.mono ?_
      rintro e w6 ⟨rfl, hu6, hb6⟩
      have hu7 : BuA w6 (w.heap.size + 1) (w.heap.size + 1) (byL (fun i => F (a + i)) (k + j)) := by
        rw [byL_add]
        exact hu6
      have hk7 : Blk w6 w.heap.size 74 (fiC n sz st) := (HU.out.2.1.below hb5 HU.out.2.1.lt).below hb6 (by omega)
      have hb7 : Below w.heap.size w w6 := (HU.out.2.2.trans (hb5.mono HU.out.2.2.size)).trans (hb6.mono (by omega))
      clear hu6 hb6 HW hu5 HN5 g5 hb5 HN HLq
      go_wp2_with fail
      go_roundw
      case rel => exact ⟨k + j, by have := HJ.out; omega, hu7, hk7, hb7⟩
      case measure =>
        rw [hu7.len, HU.out.1.len, byL_length, byL_length]
        have := HJ.out
        omega
    · have hkm : k = m := by omega
      subst hkm
      have t1 : ¬ ((k : Int) < (k : Int)) := by omega
      have HS := bstring_any (w.heap.size + 1) (w.heap.size + 1) k (fun j => F (a + j)) (fun j hj => HI.out.1 _ (by have := HI.out.2.2; omega)) wr HU.out.1 (by have := HU.out.2.2.size; have := HU.out.2.1.lt; omega)
      go_wp2_with fail
      refine HN.mono ?_
      rintro e w2 ⟨rfl, hw⟩
      rw [hw]
      clear hw w2
      go_wp2_with fail
      refine HS.mono ?_
      rintro e w6 ⟨rfl, hb6⟩
      have hb7 : Below w.heap.size w w6 := HU.out.2.2.trans (hb6.mono (by omega))
      clear HS HN hb6
      go_wp2_with fail
      go_ret2
      exact ⟨rfl, hb7⟩
end
end Go.Proofs.YtelgceaembmenaaGreat
