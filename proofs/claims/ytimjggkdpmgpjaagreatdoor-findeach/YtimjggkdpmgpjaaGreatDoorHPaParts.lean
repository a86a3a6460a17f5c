/- strings.Cut at a slash; the parts of a text as a range over a function takes them. -/
import Derived.Test.YtimjggkdpmgpjaaGreatDoorHDiSort1
import Derived.Test.YtimjggkdpmgpjaaGreatDoorHMathCount
import Derived.OrdersIn
import Derived.TacticsInMore
import Derived.RangeFuncCalls
import Derived.RangeFuncNested
import Derived.Test.YtimjggkdpmgpjaaGreatDoorHPaShelf
import Derived.Shelf.Strings.Search2
import Derived.Shelf.Strings.Prefix
import Derived.Shelf.RegionOpenPlain
import Derived.RangeFuncBound
import Derived.RangeFuncLeaves
import Derived.RangeFuncBox
import Derived.RangeFuncFrom
import Derived.Shelf.Abstract
import Derived.Shelf.RegionOpen
import Derived.WalkKit
import Derived.OwnWalkIn
import Derived.LoopNIn
import Derived.LoopIn
import Derived.Handy

namespace Go.Proofs.YtimjggkdpmgpjaaGreatDoor
open Go Go.RowKit
section
variable {P : Program} {ops : Array Oper} {Q : Exit → Act → World → Prop} {md : Region.Mode}
/-- no operation defers a call -/
def noDefer (ops : Array Oper) : Bool := ops.all fun o => match o.op with
  | .defer _ => false
  | _ => true
theorem noDefer_at (h : noDefer ops = true) {i : Nat} {o : Oper} (hi : ops[i]? = some o) : ∀ c, o.op ≠ .defer c := by
  intro c hc
  unfold noDefer at h
  rw [Array.all_eq_true] at h
  obtain ⟨hlt, e⟩ := Array.getElem?_eq_some_iff.1 hi
  have := h i hlt
  rw [e, hc] at this
  cases this
theorem oper_round {o : Oper} {a : Act} {w : World} {K : Act → World → Prop} (l n : Nat) (hnd : ∀ c, o.op ≠ .defer c) (h : o.wp P a w K (Strict Q)) : o.wpIn (Fence.wide.inRound l) n P a w K Q := by
  refine ⟨fun _ _ => trivial, ?_⟩
  rw [show (Fence.wide.inRound l).round = some l from rfl, Oper.semAt_some l _ o hnd]
  unfold Oper.wp at h
  generalize (execOp a.eval o).run P w = r at *
  cases r with
  | ok x w' =>
    cases x <;> simp only [Oper.upon, Oper.uponIn] at h ⊢ <;> first
      | exact h
      | exact ⟨fun h => (by cases h), CallsIn.inRound l (callsIn_wide.2 (h.mono fun e w'' he => (by
          cases e with
          | returned v => exact he
          | panicked c => cases he.1
          | outgrown => exact absurd he Strict.noOut)))⟩
      | exact ⟨fun h => (by cases h), fun c cs _ => (by
          obtain ⟨v, w2, hr, hs⟩ := h c cs
          exact ⟨v, w2, hr, stepsIn_wide.2 hs⟩)⟩
  | halt x w' =>
    cases x <;> simp only [Oper.upon, Oper.uponIn] at h ⊢
    cases h.1
theorem op_round {i : Nat} {a : Act} {w : World} {K : Act → World → Prop} (l n : Nat) (hnd : noDefer ops = true) (h : wpOp P ops (Strict Q) i K a w) : wpOpIn (Fence.wide.inRound l) n P ops Q i K a w := by
  unfold wpOp at h
  unfold wpOpIn
  split
  · rename_i hn; simp only [hn] at h; exact h
  · rename_i o ho
    simp only [ho] at h
    split
    · rename_i hw
      simp only [hw, if_true] at h
      rcases h with h | ⟨_, h⟩
      · exact oper_round l n (noDefer_at hnd ho) h
      · exact absurd h Strict.noOut
    · rename_i hw
      simp only [hw] at h
      exact ⟨fun _ _ => trivial, h⟩
theorem any_round (l n : Nat) (hnd : noDefer ops = true) : ∀ (fuel : Nat) (listed : Array Bool) (a : Act) (w : World), wpAny P md ops (Strict Q) fuel listed a w → wpAnyIn (Fence.wide.inRound l) n P md ops Q fuel listed a w
  | 0, _, _, _, h => ⟨h.1, h.2.2⟩
  | fuel + 1, _, _, _, h => ⟨fun e => (h.1 e).2, fun i hi => op_round l n hnd (wpOp_mono (fun a' w' h' => any_round l n hnd fuel _ a' w' h') (h.2 i hi))⟩
theorem wpIn_region_partsS {id l n : Nat} {a : Act} {w : World} (S : World → Prop) (ps : List (List Nat × Nat × Bool)) (takes tail : List Nat) (hm : P.follows .mixedOrders = true) (hd : noDefer ops = true) (hB : wholeB ops tail [] ps takes tail = true)
    (hS : S w.drew) (h : wpPartsI P ops Q S ps (takes ++ tail) a w.drew) : (Code.region id ops true).wpIn (Fence.wide.inRound l) n P Q a w := by
  unfold wholeB at hB
  simp only [Bool.and_eq_true, beq_iff_eq] at hB
  refine wpIn_region_any hm (any_round l n hd _ _ _ _ ?_)
  rw [← hB.1.1.1]
  exact wpAny_of_W _ _ _ _ (partsS_step hB.1.1.2 takes tail ps _ a _ (by rw [hB.1.1.1]; exact hB.2) hS h)
end
end Go.Proofs.YtimjggkdpmgpjaaGreatDoor

namespace Go.Proofs.YtimjggkdpmgpjaaGreatDoor
open Go Go.RowKit Go.Shelf
set_option linter.unusedVariables false
set_option linter.unusedSimpArgs false
attribute [local go_sem] Oper.semAt_some
theorem seg_index : ∀ l : List UInt8, (Lib.indexByte l 47 = -1 ∧ segL l 0 = l) ∨ (∃ i : Nat, Lib.indexByte l 47 = (i : Int) ∧ i < l.length ∧ segL l 0 = l.take i)
  | [] => .inl ⟨rfl, rfl⟩
  | b :: l => by
    by_cases hb : b = 47
    · exact .inr ⟨0, by simp [Lib.indexByte, hb], by simp, by simp [segL, hb]⟩
    · have e1 : segL (b :: l) 0 = b :: segL l 0 := by
        simp [segL, hb]
      rcases seg_index l with ⟨h1, h2⟩ | ⟨i, h1, h2, h3⟩
      · exact .inl ⟨by simp [Lib.indexByte, hb, h1], by rw [e1, h2]⟩
      · refine .inr ⟨i + 1, ?_, by simp; omega, by rw [e1, h3]; rfl⟩
        have : ¬ ((i : Int) = -1) := by omega
        simp [Lib.indexByte, hb, h1, this]
theorem ba_take (s : ByteArray) (i : Nat) (hi : i ≤ s.size) : s.extract 0 i = bsL (s.data.toList.take i) := by
  rw [Lib.extract_eq]
  simp [bsL]
theorem ba_drop (s : ByteArray) (i : Nat) : (s.extract i s.size).data.toList = s.data.toList.drop i := by
  rw [Lib.extract_data, List.take_of_length_le]
  rw [List.length_drop, ← Lib.size_eq]
  exact Nat.le_refl _
set_option maxRecDepth 100000 in
set_option maxHeartbeats 2000000 in
theorem lcut_any (s : ByteArray) (hs : s.size < 4294967281) (w : World) :
    Calls Tryz.prog 116 #[.string s, .string ⟨#[47]⟩] w fun e w' => (∃ v1 v2 : Value, e = .returned (.tuple #[.string (bsL (segL s.data.toList 0)), v1, v2])) ∧ ∃ n, w' = w.drewN n := by
  have HX : Hid (∀ w : World, Calls Tryz.prog 131 #[.string s, .string ⟨#[47]⟩] w fun e w' => e = .returned (.int .i64 (Lib.indexByte s.data.toList 47)) ∧ w' = w) := fun w => Any.stringslite_Index_one Tryz.indexA s 47 w
  rcases seg_index s.data.toList with ⟨h1, h2⟩ | ⟨i, h1, h2, h3⟩
  · rw [h2, bsL_of]
    rw [h1] at HX
    clear h1 h2
    go_enter Tryz.func116, Tryz.ntmps116
    go_wp2_with fail
    refine (HX.out _).mono ?_
    rintro e w9 ⟨rfl, hw9⟩
    subst w9
    go_wp2_with fail
    go_ret3
    exact ⟨⟨_, _, rfl⟩, 0, rfl⟩
  · have hi : i < s.size := by rw [Lib.size_eq]; exact h2
    rw [h3, ← ba_take s i (by omega)]
    rw [h1] at HX
    clear h1 h2 h3
    have c1 : (0 : Int) ≤ ↑i := by omega
    have c2 : (↑i : Int) ≤ ↑s.size := by omega
    have c3 : (0 : Int) ≤ ↑i + 1 := by omega
    have c4 : (↑i + 1 : Int) ≤ ↑s.size := by omega
    go_enter Tryz.func116, Tryz.ntmps116
    go_wp2_with fail
    refine (HX.out _).mono ?_
    rintro e w9 ⟨rfl, hw9⟩
    subst w9
    go_wp2_with fail
    go_region
    go_wp2
    go_ret3
    exact ⟨⟨_, _, rfl⟩, 1, rfl⟩
theorem cut_any (s : ByteArray) (hs : s.size < 4294967281) (w : World) :
    Calls Tryz.prog 93 #[.string s, .string ⟨#[47]⟩] w fun e w' => (∃ v1 v2 : Value, e = .returned (.tuple #[.string (bsL (segL s.data.toList 0)), v1, v2])) ∧ ∃ n, w' = w.drewN n := by
  have HX : Hid (∀ w : World, Calls Tryz.prog 116 #[.string s, .string ⟨#[47]⟩] w fun e w' => (∃ v1 v2 : Value, e = .returned (.tuple #[.string (bsL (segL s.data.toList 0)), v1, v2])) ∧ ∃ n, w' = w.drewN n) := fun w => lcut_any s hs w
  generalize bsL (segL s.data.toList 0) = p at *
  go_enter Tryz.func93, Tryz.ntmps93
  go_wp2_with fail
  refine (HX.out _).mono ?_
  rintro e w9 ⟨⟨v1, v2, rfl⟩, n, rfl⟩
  go_wp2_with fail
  go_ret3
  exact ⟨⟨_, _, rfl⟩, n, rfl⟩
/-- a block is as it was -/
def KpB (Bn : Nat) (W V : World) : Prop := V.heap[Bn]? = W.heap[Bn]?
/-- a place and a part, as values -/
def encP (x : Nat × ByteArray) : Array Value := #[.int .i64 (x.1 : Int), .string x.2]
theorem abides_below {J : List (Nat × ByteArray) → World → Prop} {B : Nat} (hJ : AbidesFrom B J) {pre : List (Nat × ByteArray)} {W W' : World} (h : J pre W) (hb : Below W.heap.size W W') : J pre W' :=
  hJ pre W W' none h ⟨hb.os, hb.tape, hb.output, hb.size, fun k hk _ => hb.block k hk⟩ (fun r e => by cases e)
set_option maxRecDepth 100000 in
set_option maxHeartbeats 2000000 in
theorem parts1_in (l Bn : Nat) (s : ByteArray) (hs : s.size < 4294967281) (J Jx : List (Nat × ByteArray) → World → Prop)
    (hY : ∀ pre x W, J pre W → pre.length < (pts s.data.toList 0).length → YieldAt Fence.wide (3 - 1) Tryz.prog l (encP x) W fun e W' =>
      (e = .returned (.bool true) ∧ J (pre ++ [x]) W' ∧ KpB Bn W W') ∨ (e = .returned (.bool false) ∧ Jx (pre ++ [x]) W'))
    (W : World) (hJ : AbidesFrom W.heap.size J) (hBn : Boxed W Bn 9 (.string s)) (h0 : J [] W) :
    CallsIn Fence.wide 3 Tryz.prog 92 #[.func (.yield l) #[] #[], .pointer (some ⟨Bn, 0, none⟩)] W fun e W' => (∃ v, e = .returned v) ∧
      ((∃ ys, ys = pts s.data.toList 0 ∧ J ys W') ∨ (∃ pre, pre <+: pts s.data.toList 0 ∧ Jx pre W')) := by
  have HL : Hid (s.size = s.data.toList.length) := Lib.size_eq s
  refine callsIn_of_wp Tryz.func92 rfl trivial ?_ rfl
  simp only [Tryz.ntmps92, List.size_toArray, List.length_cons, List.length_nil, Nat.reduceAdd, Nat.reduceSub, Array.replicate_succ, Array.replicate_zero, List.push_toArray, List.append_toArray, List.nil_append, List.cons_append]
  gi_wp2
  gi_loopw [3] (fun v wr => Hid (∃ (pre : List (Nat × ByteArray)) (i : Nat), v = .int .i64 (i : Int) ∧ i ≤ s.size + 1 ∧ pts s.data.toList 0 = pre ++ pts s.data.toList i ∧ J pre wr ∧ Boxed wr Bn 9 (.string s)))
    (fun v wr => s.size + 1 - (intOf v).toNat)
  case atStart => exact ⟨[], 0, rfl, by omega, rfl, h0, hBn⟩
  case round =>
    obtain ⟨pre, i, rfl, hi1, hp, hJs, hB⟩ := Hid.out hrel
    clear hrel
    have hc := hB.cell
    by_cases hi : i < s.size
    · have hz : (i : Int) < (s.size : Int) := by omega
      have HP : Hid (pts s.data.toList 0 = pre ++ pts s.data.toList i) := hp
      have HJ : Hid (J pre wr) := hJs
      have HB : Hid (Boxed wr Bn 9 (.string s)) := hB
      have HX : Hid (∀ w : World, Calls Tryz.prog 93 #[.string (s.extract i s.size), .string ⟨#[47]⟩] w fun e w' => (∃ v1 v2 : Value, e = .returned (.tuple #[.string (bsL (segL s.data.toList i)), v1, v2])) ∧ ∃ n, w' = w.drewN n) := fun w => by
        have := cut_any (s.extract i s.size) (by rw [ByteArray.size_extract]; omega) w
        rwa [ba_drop, segL_drop, Nat.add_zero] at this
      clear hp hJs hB
      have hsl := segL_le s.data.toList i
      rw [← HL.out] at hsl
      have hiL : i < s.data.toList.length := by rw [← HL.out]; exact hi
      obtain ⟨p, hpe⟩ : ∃ p, bsL (segL s.data.toList i) = p := ⟨_, rfl⟩
      have hps : p.size = (segL s.data.toList i).length := by rw [← hpe, bsL_size]
      rw [← hps] at hsl
      have hpl : p.toList = segL s.data.toList i := by rw [← hpe, Lib.toList_data, bsL_data]
      have HE : Hid (_ ∧ _ ∧ _ ∧ _) := ⟨hpe, hps, hpl, hiL⟩
      rw [hpe] at HX
      by_cases hq : segL s.data.toList i = []
      · have he : p.toList = [] := hpl.trans hq
        have hz0 : p.size = 0 := by rw [hps, hq]; rfl
        have HQ : Hid (pts s.data.toList i = pts s.data.toList (i + 1)) := pts_skip hiL hq
        clear hpe hps hpl hiL hq
        gi_wp2
        refine ⟨trivial, ?_⟩
        refine (callsIn_wide.2 (HX.out _)).mono ?_
        rintro e w9 ⟨⟨v1, v2, rfl⟩, n, rfl⟩
        gi_wp2
        refine ⟨fun _ h => (by cases h), ?_⟩
        gi_wp2
        go_roundw
        case rel => exact ⟨pre, i + 1, by first | rfl | simp [hz0] | go_num, by omega, by rw [HP.out, HQ.out], abides_below hJ HJ.out (bdrewN (Below.refl _ _) n), HB.out⟩
        case measure => simp [intOf, hz0]; omega
      · have he : ¬ p.toList = [] := by rw [hpl]; exact hq
        have HQ : Hid (pts s.data.toList i = (i, p) :: pts s.data.toList (i + p.size + 1)) := by
          have := pts_part hiL hq
          rw [hpe, ← hps] at this
          exact this
        clear hpe hps hpl hiL hq
        gi_wp2
        refine ⟨trivial, ?_⟩
        refine (callsIn_wide.2 (HX.out _)).mono ?_
        rintro e w9 ⟨⟨v1, v2, rfl⟩, n, rfl⟩
        obtain ⟨fn, tmps, assign, body, hy, hR⟩ := hY pre (i, p) (wr.drewN n) (abides_below hJ HJ.out (bdrewN (Below.refl _ _) n)) (by rw [HP.out, HQ.out]; simp)
        dsimp only [encP] at hy
        gi_wp2
        refine hR.mono ?_
        rintro e W3 (⟨rfl, hJ3, hk3⟩ | ⟨rfl, hJx3⟩)
        · have hB3 : Boxed W3 Bn 9 (.string s) := hk3.trans HB.out
          gi_wp2
          refine ⟨⟨pre ++ [(i, p)], i + p.size + 1, by rw [show ((i + p.size + 1 : Nat) : Int) = (i : Int) + ((p.size : Int) + 1) by omega], by omega, by rw [HP.out, HQ.out]; simp, hJ3, hB3⟩, ?_⟩
          simp only [intOf]
          omega
        · gi_wp2
          rotate_left
          · rename_i hx
            simp [he] at hx
          refine bodyPost_ret (results_none rfl _ _ _) rfl ?_
          exact ⟨⟨_, rfl⟩, .inr ⟨pre ++ [(i, p)], ⟨pts s.data.toList (i + p.size + 1), by rw [HP.out, HQ.out]; simp⟩, hJx3⟩⟩
    · have hz : ¬ (i : Int) < (s.size : Int) := by omega
      have HP : Hid (pts s.data.toList 0 = pre) := by
        rw [pts_end (i := i) (by rw [← HL.out]; omega), List.append_nil] at hp
        exact hp
      clear hp hB
      have hiz := hi
      gi_wp2
      go_end0
      exact ⟨⟨_, rfl⟩, .inl (by rw [HP.out]; exact hJs)⟩
theorem parts_in (s : ByteArray) (w : World) : CallsIn Fence.wide 3 Tryz.prog 56 #[.string s] w fun e w' => e = .returned (.func (.func 92) #[] #[.pointer (some ⟨w.heap.size, 0, none⟩)]) ∧ w' = w.alloc (.cells #[.string s] 9) := by
  refine callsIn_of_wp Tryz.func56 rfl trivial ?_ rfl
  simp only [Tryz.ntmps56, List.size_toArray, List.length_cons, List.length_nil, Nat.reduceAdd, Nat.reduceSub, Array.replicate_succ, Array.replicate_zero, List.push_toArray, List.append_toArray, List.nil_append, List.cons_append]
  gi_wp2
  go_ret
  exact ⟨rfl, rfl⟩
theorem parts_stops (Bn : Nat) (s : ByteArray) (hs : s.size < 4294967281) (w : World) (hB : Boxed w Bn 9 (.string s)) :
    SeqStopsK Fence.wide 3 Tryz.prog 92 #[.pointer (some ⟨Bn, 0, none⟩)] encP (KpB Bn) (fun ys => ys = pts s.data.toList 0) (fun pre => pre <+: pts s.data.toList 0) (pts s.data.toList 0).length w := fun l J Jx W hW hJ _ hY h0 =>
  parts1_in l Bn s hs J Jx hY W hJ ((hW.block Bn hB.lt).trans hB) h0
end Go.Proofs.YtimjggkdpmgpjaaGreatDoor
