/- A map from uint32 to bool whose elements are all true: a key that is not there looked up, and stored. -/
import Derived.Test.YtkpcgijdokhjkaaDoorHRmRef
import Derived.Handy
import Derived.Test.YtkpcgijdokhjkaaDoorHBiWord
import Derived.Laws.BytesArg
import Derived.Test.YtkpcgijdokhjkaaDoorHBiWith
import Derived.Test.YtkpcgijdokhjkaaDoorHBiMake
import Derived.Test.YtkpcgijdokhjkaaDoorHSegsP
import Derived.OpenShut
import Derived.Deep.MidRow
import Derived.Deep.RegionLaw
import Derived.Laws.CopyOwn
import Derived.Great.BuildSlice
import Derived.OwnWalk
import Derived.Maps.AppendAt

namespace Go.Proofs.YtkpcgijdokhjkaaDoor
open Go Go.RowKit
set_option linter.unusedVariables false
set_option linter.unusedSimpArgs false
def slLen : Value → Nat
  | .slice _ n _ => n
  | _ => 0
def freshS (p : Nat) : Int := if p = 0 then 0 else 1
theorem newS_put (A : Nat → Nat) (j : Nat) (hz : A j ≠ 0) : (fun q => if q = A j then (2 : Int) else newS A j q) = newS A (j + 1) := by
  funext q
  unfold newS
  by_cases h : q = A j
  · subst h
    rw [if_pos rfl, if_neg hz]
    show (2 : Int) = if (if A j = A j then true else memA A j (A j)) = true then 2 else 1
    rw [if_pos rfl]
    rfl
  · rw [if_neg h]
    by_cases h0 : q = 0
    · rw [if_pos h0, if_pos h0]
    · rw [if_neg h0, if_neg h0]
      show (if memA A j q = true then (2 : Int) else 1) = if (if q = A j then true else memA A j q) = true then 2 else 1
      rw [if_neg h]
section
variable {n : Nat}
set_option maxRecDepth 100000 in
set_option maxHeartbeats 4000000 in
theorem rref_any (h1 : 16 ≤ n) (h2 : n ≤ 8192) (a : Option Addr) (N cc : Nat) (hN : N ≤ 9223372036854775807) (A : Nat → Nat) (w : World) (hD : IsU32s w a N A) : Calls Tryd.prog 30 #[.int .i64 (n : Int), .slice a N cc] w fun e w' =>
    ((∃ k c, e = .returned (.tuple #[.slice (some ⟨k, 0, none⟩) n c, .int .i64 0, .int .i64 0]) ∧ GoodA A n N ∧ SA w' w.heap.size k n c (newS A N)) ∨
    (∃ m : Nat, m < N ∧ e = .returned (.tuple #[.slice none 0 0, .int .i64 (m : Int), .int .i64 121]) ∧ GoodA A n m ∧ ¬ OkAt A n m)) ∧ Below w.heap.size w w' := by
  obtain ⟨i0, hi, hz0, hz1, hz2⟩ := info_parts infoInt
  have i1 : ¬ ((n : Int) < 16) := by omega
  have i2 : ¬ ((8192 : Int) < (n : Int)) := by omega
  have HD : Hid (∀ V : World, Below w.heap.size w V → IsU32s V a N A) := fun V hV => hD.below hV
  have hb0 : Below w.heap.size w (w.alloc (.cells #[.int .i64 0] 3)) := below_new1 _ _
  have HO0 : Hid ((w.alloc (.cells #[.int .i64 0] 3)).ownsRow w.heap.size 3 1 (.slice (some ⟨w.heap.size, 0, none⟩) 1 1) 1 (stL freshS 1)) := ⟨rfl, .inr ⟨w.heap.size, 1, #[.int .i64 0], rfl, Nat.le_refl _, World.alloc_heap_new w _, by decide, by decide, rfl, rfl⟩⟩
  clear hD
  go_enter Tryd.func30, Tryd.ntmps30
  go_wp2_with fail
  generalize w.alloc (.cells #[.int .i64 0] 3) = w1 at *
  go_loopw [7] (fun v wr => Hid (∃ (k cap g : Nat), 1 ≤ k ∧ k ≤ n ∧ v = .slice (some ⟨g, 0, none⟩) k cap ∧ wr.ownsRow w.heap.size 3 1 v k (stL freshS k) ∧ Below w.heap.size w wr)) (fun v _ => n - slLen v)
  case atStart => exact ⟨1, 1, w.heap.size, by omega, by omega, rfl, HO0.out, hb0⟩
  case round =>
    obtain ⟨k, cap, g, hk1, hk, rfl, hown, hb⟩ := Hid.out hrel
    clear hrel HO0 hb0
    by_cases hlt : k < n
    · have j1 : (k : Int) < (n : Int) := by omega
      have hsz := hb.size
      have HOWN : Hid ((wr.alloc (.cells #[.int .i64 1] 3)).ownsRow w.heap.size 3 1 (.slice (some ⟨g, 0, none⟩) k cap) k (stL freshS k)) := hown.alloc _
      have HV2 := (hown.alloc (.cells #[.int .i64 1] 3)).lt
      have HJ : Hid (1 ≤ k ∧ k < n ∧ n ≤ 8192) := ⟨hk1, hlt, h2⟩
      have hml : k + 1 ≤ maxLen := Nat.le_trans (Nat.le_trans (Nat.succ_le_of_lt hlt) h2) (by decide)
      have hbA : Below w.heap.size w (wr.alloc (.cells #[.int .i64 1] 3)) := hb.alloc hsz _
      clear hown hb HD
      go_wp2_with (first
        | (at_builtin; refine wpList_append_own _ rfl _ _ 60 rfl w.heap.size 3 i0 (.int .i64 0) 1 8 Tryd.underlying60 hi hz0 hz1 hz2 rfl (by decide) _ _ _ rfl HOWN.out ⟨wr.heap.size, 0, none⟩ 1 1 [.int .i64 1] rfl rfl (cell_one_new _ _ _) (by simp [Value.oneCell']) hml (by omega) (by simp; omega) ?_)
        | go_in)
      intro v' w2 hown' hgrow _
      have hb2 : Below w.heap.size w w2 := hbA.grown hgrow (by simp; omega) (fun q hq => (HV2 q hq).1)
      have hst : stL freshS k ++ [Value.int .i64 1] = stL freshS (k + 1) := by
        rw [stL_snoc]
        have : freshS k = 1 := by unfold freshS; rw [if_neg (by have := HJ.out; omega)]
        rw [this]
      rw [hst] at hown'
      obtain ⟨g3, cap3, rfl, hg3, hg3'⟩ := kown_form hown' (Nat.succ_pos k)
      have HE : Hid (_ ∧ _) := ⟨hown', hb2⟩
      clear HOWN HV2 hgrow hbA hown' hb2 hst
      go_wp2_with fail
      go_roundw
      case rel => exact ⟨k + 1, cap3, g3, by omega, HJ.out.2.1, rfl, HE.out.1, HE.out.2⟩
      case measure => simp [slLen]; have := HJ.out; omega
    · obtain rfl : k = n := by omega
      have j1 : ¬ ((k : Int) < (k : Int)) := by omega
      have HE : Hid (SA wr w.heap.size g k cap (newS A 0) ∧ Below w.heap.size w wr) := ⟨⟨h2, hown⟩, hb⟩
      clear hown hb
      go_wp2_with fail
      have HW : Hid (w.heap.size ≤ w.heap.size) := Nat.le_refl _
      go_loopw [26] (fun t wq => Hid (∃ j : Nat, j ≤ N ∧ t = .int .i64 (j : Int) ∧ GoodA A k j ∧ SA wq w.heap.size g k cap (newS A j) ∧ Below w.heap.size w wq)) (fun t _ => N - (intOf t).toNat)
      case atStart => exact ⟨0, by omega, rfl, fun i hi => by omega, HE.out.1, HE.out.2⟩
      case round =>
        obtain ⟨j, hj, rfl, hal, hS, hb⟩ := Hid.out hrel
        clear hrel HE
        by_cases hlt2 : j < N
        · obtain ⟨hau, ab, ao, rfl, hab, cw⟩ := HD.out wr hb j hlt2
          have j0 : (0 : Int) ≤ (j : Int) := by omega
          have j1 : (j : Int) < (N : Int) := by omega
          have HJ : Hid (j < N ∧ N ≤ 9223372036854775807) := ⟨hlt2, hN⟩
          by_cases hz : A j = 0
          · rw [hz] at cw
            have HBAD : Hid (¬ OkAt A k j) := fun h => h.1 hz
            have HF : Hid (_ ∧ _) := ⟨hal, hb⟩
            clear hS hal hb HD
            go_wp2_with fail
            go_ret3
            exact ⟨.inr ⟨j, HJ.out.1, rfl, HF.out.1, HBAD.out⟩, HF.out.2⟩
          · have hzi : ¬ ((A j : Int) = 0) := by omega
            by_cases hge : k ≤ A j
            · have hgi : (k : Int) ≤ (A j : Int) := by omega
              have HBAD : Hid (¬ OkAt A k j) := fun h => by have := h.2.1; omega
              have HF : Hid (_ ∧ _) := ⟨hal, hb⟩
              clear hS hal hb HD
              generalize A j = x at cw hzi hgi hau
              go_wp2_with fail
              go_ret3
              exact ⟨.inr ⟨j, HJ.out.1, rfl, HF.out.1, HBAD.out⟩, HF.out.2⟩
            · have hgi : ¬ ((k : Int) ≤ (A j : Int)) := by omega
              have hgl : (A j : Int) < (k : Int) := by omega
              have cs := hS.at (i := A j) (by omega)
              have fs := hS.frozen (A j)
              cases hm : memA A j (A j) with
              | true =>
                have hv : newS A j (A j) = 2 := by unfold newS; rw [if_neg hz, if_pos hm]
                rw [hv] at cs
                have HBAD : Hid (¬ OkAt A k j) := fun h => by have := h.2.2; rw [hm] at this; cases this
                have HF : Hid (_ ∧ _) := ⟨hal, hb⟩
                clear hS hal hb HD fs hv
                generalize A j = x at cw hzi hgi hau cs hgl
                go_wp2_with fail
                go_ret3
                exact ⟨.inr ⟨j, HJ.out.1, rfl, HF.out.1, HBAD.out⟩, HF.out.2⟩
              | false =>
                have hv : newS A j (A j) = 1 := by unfold newS; rw [if_neg hz, if_neg (by rw [hm]; decide)]
                rw [hv] at cs
                have HF : Hid (GoodA A k (j + 1) ∧ SA (wr.setCell ⟨g, A j, none⟩ (.int .i64 2)) w.heap.size g k cap (newS A (j + 1)) ∧ Below w.heap.size w (wr.setCell ⟨g, A j, none⟩ (.int .i64 2))) := ⟨hal.succ ⟨hz, by omega, hm⟩, by rw [← newS_put A j hz]; exact hS.put (A j) 2, hb.setCell (p := ⟨g, A j, none⟩) hS.lt.1 _⟩
                clear hS hal hb HD hv hm
                generalize A j = x at cw hzi hgi hau cs fs hgl HF
                go_wp2_with fail
                generalize wr.setCell ⟨g, x, none⟩ (.int .i64 2) = w5 at *
                go_roundw
                case rel => exact ⟨j + 1, HJ.out.1, by first | rfl | go_num | simp, HF.out.1, HF.out.2.1, HF.out.2.2⟩
                case measure => simp [intOf]; have := HJ.out; omega
        · obtain rfl : j = N := by omega
          have j1 : ¬ ((j : Int) < (j : Int)) := by omega
          have HF : Hid (_ ∧ _ ∧ _) := ⟨hal, hS, hb⟩
          clear hS hal hb HD
          go_wp2_with fail
          go_ret3
          exact ⟨.inl ⟨g, cap, rfl, HF.out.1, HF.out.2.1⟩, HF.out.2.2⟩
end
end Go.Proofs.YtkpcgijdokhjkaaDoor

namespace Go.Proofs.YtkpcgijdokhjkaaDoor

def St.of (f : Nat → Nat) : St := ⟨f 0, f 1, f 2, f 3, f 4, f 5, f 6, f 7, f 8, f 9, f 10, f 11, f 12, f 13, f 14, f 15⟩
theorem St.of_ok (f : Nat → Nat) (h : ∀ i, i < 16 → f i < 4294967296) : (St.of f).ok :=
  ⟨h 0 (by decide), h 1 (by decide), h 2 (by decide), h 3 (by decide), h 4 (by decide), h 5 (by decide), h 6 (by decide), h 7 (by decide), h 8 (by decide), h 9 (by decide), h 10 (by decide), h 11 (by decide), h 12 (by decide), h 13 (by decide), h 14 (by decide), h 15 (by decide)⟩
end Go.Proofs.YtkpcgijdokhjkaaDoor

namespace Go.Proofs.YtkpcgijdokhjkaaDoor
open Go Go.RowKit
set_option linter.unusedVariables false
set_option linter.unusedSimpArgs false
section
variable {w : World} {B g n b c : Nat} {W : Nat → Nat}
theorem BM.cap (h : BM w B g n b c W) : 16 * lvN n ≤ c := by
  rcases h.row.2 with ⟨hn, _⟩ | ⟨g', cap', cur, hv, hb, hg, hc, _⟩
  · cases hn
  · injection hv with hv1 hv2 hv3
    omega
end
end Go.Proofs.YtkpcgijdokhjkaaDoor

namespace Go.Proofs.YtkpcgijdokhjkaaDoor
open Go Go.RowKit
set_option linter.unusedVariables false
set_option linter.unusedSimpArgs false
section
variable {n : Nat} {F : Nat → Bool}
theorem cnt_used (h0 : F 0 = false) (ht : ∀ p, n ≤ p → F p = false) : cntF (inF F F n 2) n = cntF F n := cntF_congr fun p hp => by
  rw [inF_pos 2 (by decide) ht ht]
  unfold stN
  by_cases e : p = 0
  · subst e
    simp [h0]
  · have e1 : 1 ≤ p := by omega
    cases F p <;> simp [e1, hp]
theorem cnt_free0 (h0 : F 0 = false) : ∀ m, cntF (fun p => decide (1 ≤ p) && !F p) (m + 1) + cntF F (m + 1) + 1 = m + 1
  | 0 => by
    show (0 + if (decide (1 ≤ 0) && !F 0) = true then 1 else 0) + (0 + if F 0 = true then 1 else 0) + 1 = 0 + 1
    rw [h0]
    rfl
  | m + 1 => by
    have ih := cnt_free0 h0 m
    show (cntF (fun p => decide (1 ≤ p) && !F p) (m + 1) + if (decide (1 ≤ m + 1) && !F (m + 1)) = true then 1 else 0) + (cntF F (m + 1) + if F (m + 1) = true then 1 else 0) + 1 = m + 1 + 1
    cases F (m + 1) <;> simp <;> omega
theorem cnt_free (hn : 1 ≤ n) (h0 : F 0 = false) (ht : ∀ p, n ≤ p → F p = false) : (cntF (inF F F n 1) n : Int) = (n : Int) - 1 - (cntF F n : Int) := by
  have e : cntF (inF F F n 1) n = cntF (fun p => decide (1 ≤ p) && !F p) n := cntF_congr fun p hp => by
    rw [inF_pos 1 (by decide) ht ht]
    unfold stN
    cases F p <;> simp [hp]
  obtain ⟨m, rfl⟩ : ∃ m, n = m + 1 := ⟨n - 1, by omega⟩
  have := cnt_free0 h0 m
  rw [e]
  omega
end
end Go.Proofs.YtkpcgijdokhjkaaDoor

namespace Go.Proofs.YtkpcgijdokhjkaaDoor
open Go Go.RowKit
set_option linter.unusedVariables false
set_option linter.unusedSimpArgs false
section
variable {w w' : World} {P Q : Nat → Prop} {r n : Nat} {F G : Nat → Bool}
/-- a room's blocks, told by another word -/
theorem RoomIs.reown (h : RoomIs w P r n F G) (hQ : ∀ k, k < w.heap.size → P k → Q k) : RoomIs w Q r n F G := by
  obtain ⟨gu, bu, cu, gn, bn, cn, U, X, hR, hF, hG⟩ := h
  exact ⟨gu, bu, cu, gn, bn, cn, U, X, ⟨hR.cells, hR.u, hR.x, ⟨hQ _ hR.cells.lt hR.own.1, hQ _ hR.u.glt hR.own.2.1, hQ _ hR.u.blt.2 hR.own.2.2.1, hQ _ hR.x.glt hR.own.2.2.2.1, hQ _ hR.x.blt.2 hR.own.2.2.2.2⟩, hR.ne, hR.z, hR.n16⟩, hF, hG⟩
/-- what turns another room's blocks alone leaves this one -/
theorem RoomIs.apart (h : RoomIs w P r n F G) (ht : Touch Q w w') (hd : ∀ k, P k → ¬ Q k) : RoomIs w' P r n F G := by
  obtain ⟨gu, bu, cu, gn, bn, cn, U, X, hR, hF, hG⟩ := h
  exact ⟨gu, bu, cu, gn, bn, cn, U, X, hR.keep (ht.block _ hR.cells.lt (hd _ hR.own.1)) (ht.block _ hR.u.glt (hd _ hR.own.2.1)) (ht.block _ hR.u.blt.2 (hd _ hR.own.2.2.1)) (ht.block _ hR.x.glt (hd _ hR.own.2.2.2.1)) (ht.block _ hR.x.blt.2 (hd _ hR.own.2.2.2.2)), hF, hG⟩
theorem RoomIs.facts (h : RoomIs w P r n F G) : 16 ≤ n ∧ n ≤ 8192 ∧ F 0 = false ∧ G 0 = false ∧ (∀ p, n ≤ p → F p = false) ∧ (∀ p, n ≤ p → G p = false) := by
  obtain ⟨gu, bu, cu, gn, bn, cn, U, X, hR, hF, hG⟩ := h
  exact ⟨hR.n16, hR.x.n2, by rw [← hF]; exact hR.z.1, by rw [← hG]; exact hR.z.2, fun p hp => by rw [← hF]; exact hR.u.tail p hp, fun p hp => by rw [← hG]; exact hR.x.tail p hp⟩
theorem cntF_one (F : Nat → Bool) : ∀ n p, p < n → F p = true → 1 ≤ cntF F n
  | 0, p, hp, _ => by omega
  | n + 1, p, hp, hF => by
    show 1 ≤ cntF F n + if F n = true then 1 else 0
    by_cases e : p = n
    · rw [← e, hF]
      simp
    · have := cntF_one F n p (by omega) hF
      omega
theorem cntF_clear (F : Nat → Bool) : ∀ n p, p < n → F p = true → cntF (fun q => if q = p then false else F q) n + 1 = cntF F n
  | 0, p, hp, _ => by omega
  | n + 1, p, hp, hF => by
    show (cntF (fun q => if q = p then false else F q) n + if (if n = p then false else F n) = true then 1 else 0) + 1 = cntF F n + if F n = true then 1 else 0
    by_cases e : p = n
    · subst e
      rw [if_pos rfl, hF, cntF_congr (G := F) fun i hi => by rw [if_neg (by omega)]]
      simp
    · rw [if_neg (Ne.symm e)]
      have := cntF_clear F n p (by omega) hF
      omega
/-- there is a free block just if there are some -/
theorem free_none (hf : freeF F G n = -1) (p : Nat) (h1 : 1 ≤ p) (h2 : p < n) : F p = true ∨ G p = true := by
  have := (nxt_is (fun p => F p || G p) false n 1).none hf p h1 h2
  cases hF : F p <;> cases hG : G p <;> simp_all
theorem free_cnt (hF0 : ∀ p, n ≤ p → F p = false) (hG0 : ∀ p, n ≤ p → G p = false) : freeF F G n = -1 ↔ cntF (inF F G n 1) n = 0 := by
  constructor
  · intro hf
    refine cntF_none _ _ fun p hp => ?_
    rw [inF_pos 1 (by decide) hF0 hG0]
    by_cases h0 : 1 ≤ p
    · rcases free_none hf p h0 hp with h | h
      · unfold stN; rw [h]; cases G p <;> simp
      · unfold stN; rw [h]; cases F p <;> simp
    · simp [h0]
  · intro hc
    apply Classical.byContradiction
    intro hf
    obtain ⟨p, e, h1, h2, h3, _⟩ := (nxt_is (fun p => F p || G p) false n 1).some hf
    have hfg : F p = false ∧ G p = false := by simpa using h3
    have := cntF_one (inF F G n 1) n p h2 (by rw [inF_pos 1 (by decide) hF0 hG0]; unfold stN; rw [hfg.1, hfg.2]; simp [h1, h2])
    omega
/-- a free block that is taken is free no more -/
theorem take_cnt (hF0 : ∀ p, n ≤ p → F p = false) (hG0 : ∀ p, n ≤ p → G p = false) {p : Nat} (h1 : 1 ≤ p) (h2 : p < n) (hF : F p = false) (hG : G p = false) : cntF (inF F (fun q => if q = p then true else G q) n 1) n + 1 = cntF (inF F G n 1) n := by
  have hG1 : ∀ q, n ≤ q → (fun q => if q = p then true else G q) q = false := fun q hq => by
    show (if q = p then true else G q) = false
    rw [if_neg (by omega)]
    exact hG0 q hq
  rw [← cntF_clear (inF F G n 1) n p h2 (by rw [inF_pos 1 (by decide) hF0 hG0]; unfold stN; rw [hF, hG]; simp [h1, h2])]
  congr 1
  refine cntF_congr fun q hq => ?_
  rw [inF_pos 1 (by decide) hF0 hG1, inF_pos 1 (by decide) hF0 hG0]
  unfold stN
  by_cases e : q = p
  · subst e
    simp [hF]
  · simp [e]
/-- the counts of all states are all blocks -/
theorem all_cnt (hn : 1 ≤ n) : cntF (inF F G n 0) n + cntF (inF F G n 1) n + cntF (inF F G n 2) n + cntF (inF F G n 3) n + cntF (inF F G n 4) n = n := by
  have key : ∀ m, m ≤ n → cntF (inF F G n 0) m + cntF (inF F G n 1) m + cntF (inF F G n 2) m + cntF (inF F G n 3) m + cntF (inF F G n 4) m = m := by
    intro m
    induction m with
    | zero => intro _; rfl
    | succ m ih =>
      intro hm
      have := ih (by omega)
      show (cntF (inF F G n 0) m + if inF F G n 0 m = true then 1 else 0) + (cntF (inF F G n 1) m + if inF F G n 1 m = true then 1 else 0) + (cntF (inF F G n 2) m + if inF F G n 2 m = true then 1 else 0) + (cntF (inF F G n 3) m + if inF F G n 3 m = true then 1 else 0) + (cntF (inF F G n 4) m + if inF F G n 4 m = true then 1 else 0) = m + 1
      have hlt : m < n := by omega
      generalize cntF (inF F G n 0) m = c0 at *
      generalize cntF (inF F G n 1) m = c1 at *
      generalize cntF (inF F G n 2) m = c2 at *
      generalize cntF (inF F G n 3) m = c3 at *
      generalize cntF (inF F G n 4) m = c4 at *
      unfold inF stAt stN
      by_cases h0 : m = 0 ∨ n ≤ m
      · simp [h0, hlt]
        omega
      · cases F m <;> cases G m <;> simp [h0, hlt] <;> omega
  exact key n (Nat.le_refl _)
end
end Go.Proofs.YtkpcgijdokhjkaaDoor

namespace Go.Proofs.YtkpcgijdokhjkaaDoor
open Go Go.RowKit
set_option linter.unusedVariables false
set_option linter.unusedSimpArgs false
/-- block m is such a map, and all its keys are told by S -/
def UM (w : World) (m : Nat) (S : Nat → Prop) : Prop := ∃ es clock, w.heap[m]? = some (.map es clock) ∧ ∀ x ∈ es.toList, ∃ b : Nat, x.key = .int .u32 (b : Int) ∧ S b
theorem UM.lt {w : World} {m : Nat} {S : Nat → Prop} (h : UM w m S) : m < w.heap.size := by
  obtain ⟨es, cl, hg, _⟩ := h
  exact (Array.getElem?_eq_some_iff.1 hg).1
theorem UM.keep {w w' : World} {m : Nat} {S : Nat → Prop} (h : UM w m S) (hb : w'.heap[m]? = w.heap[m]?) : UM w' m S := by
  obtain ⟨es, cl, hg, h2⟩ := h
  exact ⟨es, cl, hb.trans hg, h2⟩
theorem UM.mono {w : World} {m : Nat} {S T : Nat → Prop} (h : UM w m S) (hT : ∀ b, S b → T b) : UM w m T := by
  obtain ⟨es, cl, hg, h2⟩ := h
  exact ⟨es, cl, hg, fun x hx => by obtain ⟨b, e, hb⟩ := h2 x hx; exact ⟨b, e, hT b hb⟩⟩
theorem UM.new {w : World} {m k : Nat} (h : w.heap[m]? = some (.map #[] k)) (S : Nat → Prop) : UM w m S := ⟨#[], k, h, fun x hx => by simp at hx⟩
theorem findNow_absent (a : Nat) : ∀ (es : List MapEntry) (i : Nat), (∀ x ∈ es, ∃ b : Nat, x.key = .int .u32 (b : Int) ∧ b ≠ a) → Instr.findNow (.int .u32) (.int .u32 (a : Int)) es i = some none
  | [], i, _ => by simp [Instr.findNow]
  | e :: es, i, h => by
    obtain ⟨b, e1, hb⟩ := h e (by simp)
    have hs : Instr.sameNow (.int .u32) (.int .u32 (a : Int)) e.key = some false := by
      rw [e1]
      have : ((a : Int) == (b : Int)) = false := by simpa using fun q => hb (by omega)
      simp [Instr.sameNow, this]
    have ih := findNow_absent a es (i + 1) fun x hx => h x (by simp [hx])
    simp [Instr.findNow, hs, ih]
section
variable {P : Program} {mt kt et : TypeId}
theorem chk_u32 (hk : P.underlying kt = some (.int .u32)) (e : Bool) (x : Int) (w : World) : (Instr.checkKey e 10000 kt (.int .u32 x)).run P w = .ok () w := by
  rw [show (10000 : Nat) = 9999 + 1 from rfl, Instr.checkKey]
  simp [run_underlying hk]
theorem UM.look (hm : P.underlying mt = some (.map kt et)) (hk : P.underlying kt = some (.int .u32)) (hz : ∀ w, (zeroValue et).run P w = .ok (.bool false) w) {w : World} {m : Nat} {S : Nat → Prop} (h : UM w m S) (a : Nat) (ha : ¬ S a) : (Instr.lookup mt (.map (some m)) (.int .u32 (a : Int)) false).run P w = .ok (.bool false) w := by
  obtain ⟨es, cl, hg, h2⟩ := h
  have hgo : (getObj m).run P w = .ok (.map es cl) w := by simp [getObj, Sem.run, hg]
  have hq : (Instr.findKey kt (.int .u32 (a : Int)) es.toList).run P w = .ok none w := by
    have := findNow_absent a es.toList 0 fun x hx => by obtain ⟨b, e, hb⟩ := h2 x hx; exact ⟨b, e, fun q => ha (q ▸ hb)⟩
    simp [Instr.findKey, run_underlying hk, this]
  simp [Instr.lookup, run_underlying hm, hgo, chk_u32 hk, hq, hz]
theorem UM.put (hm : P.underlying mt = some (.map kt et)) (hk : P.underlying kt = some (.int .u32)) {w : World} {m : Nat} {S : Nat → Prop} (h : UM w m S) (a : Nat) (ha : ¬ S a) : ∃ w', (Instr.mapUpdate mt (.map (some m)) (.int .u32 (a : Int)) (.bool true)).run P w = .ok () w' ∧ UM w' m (fun b => b = a ∨ S b) ∧ Only m w w' := by
  obtain ⟨es, cl, hg, h2⟩ := h
  have hgo : (getObj m).run P w = .ok (.map es cl) w := by simp [getObj, Sem.run, hg]
  have hso : ∀ o, (setObj m o).run P w = .ok () { w with heap := w.heap.setIfInBounds m o } := fun o => by simp [setObj, Sem.run, hg]
  have hr : m < w.heap.size := (Array.getElem?_eq_some_iff.1 hg).1
  have hq : (Instr.findKey kt (.int .u32 (a : Int)) es.toList).run P w = .ok none w := by
    have := findNow_absent a es.toList 0 fun x hx => by obtain ⟨b, e, hb⟩ := h2 x hx; exact ⟨b, e, fun q => ha (q ▸ hb)⟩
    simp [Instr.findKey, run_underlying hk, this]
  refine ⟨{ w with heap := w.heap.setIfInBounds m (.map (es.push { key := .int .u32 (a : Int), val := .bool true, born := cl }) (cl + 1)) }, ?_, ⟨es.push { key := .int .u32 (a : Int), val := .bool true, born := cl }, cl + 1, by simp [hr], fun x hx => ?_⟩, ⟨rfl, rfl, rfl, by simp, fun b hb hn => by simp [Array.getElem?_setIfInBounds, Ne.symm hn]⟩⟩
  · simp [Instr.mapUpdate, run_underlying hm, hgo, chk_u32 hk, hq, hso]
  · have hx' : x ∈ es.toList ++ [{ key := .int .u32 (a : Int), val := .bool true, born := cl }] := by simpa using hx
    rcases List.mem_append.1 hx' with q | q
    · obtain ⟨b, e, hb⟩ := h2 x q
      exact ⟨b, e, .inr hb⟩
    · rw [List.mem_singleton.1 q]
      exact ⟨a, rfl, .inl rfl⟩
end
end Go.Proofs.YtkpcgijdokhjkaaDoor
