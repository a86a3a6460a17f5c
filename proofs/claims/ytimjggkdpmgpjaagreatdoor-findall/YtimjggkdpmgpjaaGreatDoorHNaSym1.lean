/- One entry and a sorted stretch behind it, merged (slices.symMergeCmpFunc). -/
import Derived.Test.YtimjggkdpmgpjaaGreatDoorHNaJoinB
import Derived.Handy

namespace Go.Proofs.YtimjggkdpmgpjaaGreatDoor
theorem sgLHNaSym1 : (∀ (α : Type) (a : α) (l r : List α), (a :: l) ++ r = a :: (l ++ r)) ∧ (∀ (α : Type) (l : List α), [] ++ l = l) ∧ (∀ (α : Type) (l : List α), l ++ [] = l) ∧ (∀ (α β : Type) (f : α → Option β) (a : α) (l : List α), (a :: l).filterMap f = match f a with | none => l.filterMap f | some b => b :: l.filterMap f) ∧ (∀ (α β : Type) (f : α → Option β), [].filterMap f = []) ∧ (∀ (α : Type) (l : List α) (i : Nat), l.toArray[i]? = l[i]?) ∧ (∀ (α : Type) (a : α) (l : List α), (a :: l)[0]? = some a) ∧ (∀ (α : Type) (a : α) (l : List α) (i : Nat), (a :: l)[i + 1]? = l[i]?) :=
  ⟨fun _ _ _ _ => List.cons_append, fun _ _ => List.nil_append _, fun _ _ => List.append_nil _, fun _ _ _ _ _ => List.filterMap_cons, fun _ _ _ => List.filterMap_nil, fun _ _ _ => List.getElem?_toArray, fun _ _ _ => List.getElem?_cons_zero, fun _ _ _ _ => List.getElem?_cons_succ⟩
theorem sgPHNaSym1 : (∀ (α : Type) (l : List α) (i : Nat) (a : α), l.toArray.setIfInBounds i a = (l.set i a).toArray) ∧ (∀ (α : Type) (a b : α) (l : List α), (a :: l).set 0 b = b :: l) ∧ (∀ (α : Type) (a b : α) (l : List α) (i : Nat), (a :: l).set (i + 1) b = a :: l.set i b) :=
  ⟨fun _ _ _ _ => List.setIfInBounds_toArray _ _ _, fun _ _ _ _ => List.set_cons_zero, fun _ _ _ _ _ => List.set_cons_succ⟩
end Go.Proofs.YtimjggkdpmgpjaaGreatDoor
namespace Go.Proofs.YtimjggkdpmgpjaaGreatDoor
open Go Go.RowKit Go.Nam
set_option linter.unusedVariables false
set_option linter.unusedSimpArgs false
/-- the function by which entries are sorted, as a value -/
abbrev fvS : Value := .func (.func 138) #[] #[]
theorem en_ro (N : Nat → Int) (S : Nat → ByteArray) (s : Nat → Nat) (a m b : Nat) : roF (EnS N S s) a m b = EnS N S (fun p => s (roF id a m b p)) := by
  rw [ro_at]
  rfl
theorem ro_self {α : Type} (f : Nat → α) (m : Nat) : roF f m m (m + 1) = f := by
  funext p
  rw [congrFun (ro_at f m m (m + 1)) p]
  show f (roF id m m (m + 1) p) = f p
  congr 1
  rcases ro_cases m m (m + 1) p with ⟨c1, c2, c3⟩ | ⟨c1, c2, c3⟩ | ⟨c1, c3⟩ <;> omega
theorem ro_head {α : Type} (f : Nat → α) {k m : Nat} (h : k ≤ m) : roF f k m (m + 1) k = f m := by
  rw [congrFun (ro_at f k m (m + 1)) k]
  show f (roF id k m (m + 1) k) = f m
  congr 1
  rcases ro_cases k m (m + 1) k with ⟨c1, c2, c3⟩ | ⟨c1, c2, c3⟩ | ⟨c1, c3⟩ <;> omega
theorem ro_below {α : Type} (f : Nat → α) {k m p : Nat} (h : p < k) (hk : k ≤ m) : roF f k m (m + 1) p = f p := by
  rw [congrFun (ro_at f k m (m + 1)) p]
  show f (roF id k m (m + 1) p) = f p
  congr 1
  rcases ro_cases k m (m + 1) p with ⟨c1, c2, c3⟩ | ⟨c1, c2, c3⟩ | ⟨c1, c3⟩ <;> omega
set_option maxRecDepth 100000 in
set_option maxHeartbeats 8000000 in
theorem ins_any (tl : Array Value) (g n c cap : Nat) (hnc : n ≤ cap) (hn : n ≤ 1000000000000000) : InsC tl g n c cap fvS LkL := by
  intro a b N S V hab hbn hB
  have nb : (n : Int) ≤ 1000000000000000 := by omega
  have H0 : Hid (Blk V g 54 (lbC tl cap N S)) := hB
  have HW : Hid (∀ z : Int, -9000000000000000 ≤ z → z ≤ 9000000000000000 → IntKind.i64.wrap z = z) := fun z h1 h2 => by simp [IntKind.wrap, IntKind.signed, IntKind.bits]; omega
  obtain ⟨a1, ha1⟩ : ∃ q, q = a + 1 := ⟨_, rfl⟩
  have f1 : IntKind.i64.wrap ((a : Int) + 1) = (a1 : Int) := by rw [HW.out _ (by omega) (by omega)]; omega
  clear hB
  go_enter Tryz.func191, Tryz.ntmps191
  go_wp2_with fail
  go_loopw [8] (fun v8 wr => Hid (∃ (i : Nat) (s : Nat → Nat), a + 1 ≤ i ∧ (i ≤ b ∨ i = a + 1) ∧ v8 = .int .i64 (i : Int) ∧ Pm a b s ∧ Blk wr g 54 (lbC tl cap (fun p => N (s p)) (fun p => S (s p))) ∧ So LkL (EnS N S s) a i ∧ Turns (fun z => z = g) V wr)) (fun v8 _ => b - (intOf v8).toNat)
  case atStart => exact ⟨a1, id, by omega, by omega, by first | rfl | go_num | simp, Pm.refl _ _, H0.out, fun p q k1 k2 k3 => by omega, Turns.bel (Below.refl _ _)⟩
  case round =>
    obtain ⟨i, s, hi1, hi2, rfl, hPm, hBi, hSo, hTi⟩ := Hid.out hrel
    have HP : Hid (Pm a b s) := hPm
    have HSO : Hid (So LkL (EnS N S s) a i) := hSo
    have HT0 : Hid (Turns (fun z => z = g) V wr) := hTi
    have HB0 : Hid (Blk wr g 54 (lbC tl cap (fun p => N (s p)) (fun p => S (s p)))) := hBi
    clear hrel hPm hBi hSo hTi H0 f1
    by_cases hib : i < b
    · have i1 : (i : Int) < (b : Int) := by omega
      obtain ⟨i2, hi2e⟩ : ∃ q, q = i + 1 := ⟨_, rfl⟩
      have fi : IntKind.i64.wrap ((i : Int) + 1) = (i2 : Int) := by rw [HW.out _ (by omega) (by omega)]; omega
      have HI2 : Hid (i2 = i + 1) := hi2e
      clear hi2e
      go_wp2_with fail
      go_loopw [9] (fun v9 wr => Hid (∃ (j : Nat), a ≤ j ∧ j ≤ i ∧ v9 = .int .i64 (j : Int) ∧ (j = i ∨ LkL (EnS N S s i) (EnS N S s j)) ∧ Blk wr g 54 (lbC tl cap (roF (fun p => N (s p)) j i (i + 1)) (roF (fun p => S (s p)) j i (i + 1))) ∧ Turns (fun z => z = g) V wr)) (fun v9 _ => (intOf v9).toNat)
      case atStart => exact ⟨i, by omega, Nat.le_refl _, rfl, .inl rfl, by rw [ro_self, ro_self]; exact HB0.out, HT0.out⟩
      case round =>
        obtain ⟨j, hj1, hj2, rfl, hjl, hBj, hTj⟩ := Hid.out hrel
        have HJL : Hid (j = i ∨ LkL (EnS N S s i) (EnS N S s j)) := hjl
        have HT : Hid (Turns (fun z => z = g) V wr) := hTj
        clear hrel hjl hTj HB0 HT0
        obtain ⟨N2, hN2⟩ : ∃ N2, roF (fun p => N (s p)) j i (i + 1) = N2 := ⟨_, rfl⟩
        obtain ⟨S2, hS2⟩ : ∃ S2, roF (fun p => S (s p)) j i (i + 1) = S2 := ⟨_, rfl⟩
        have HNS : Hid (roF (fun p => N (s p)) j i (i + 1) = N2 ∧ roF (fun p => S (s p)) j i (i + 1) = S2) := ⟨hN2, hS2⟩
        rw [hN2, hS2] at hBj
        clear hN2 hS2
        have hjc : j < cap := by omega
        have hjn : (j : Int) < (n : Int) := by omega
        have hj0 : (0 : Int) ≤ (j : Int) := by omega
        have hBd : Blk wr.drew g 54 (lbC tl cap N2 S2) := hBj.drew
        have HDONE : Hid (∀ W : World, (j = a ∨ ¬ LkL (EnS N S s i) (EnS N S s (j - 1))) → Blk W g 54 (lbC tl cap N2 S2) → Turns (fun z => z = g) V W → (∃ (i' : Nat) (s' : Nat → Nat), a + 1 ≤ i' ∧ (i' ≤ b ∨ i' = a + 1) ∧ i' = i2 ∧ Pm a b s' ∧ Blk W g 54 (lbC tl cap (fun p => N (s' p)) (fun p => S (s' p))) ∧ So LkL (EnS N S s') a i' ∧ Turns (fun z => z = g) V W)) := fun W hl hBW hTW => by
          refine ⟨i2, fun p => s (roF id j i (i + 1) p), by have := HI2.out; omega, by have := HI2.out; omega, rfl, HP.out.comp ((ro_pm j i (i + 1) (by omega) (by omega)).wide (by omega) (by omega)), ?_, ?_, hTW⟩
          · rw [← HNS.out.1, ← HNS.out.2, ro_at (fun p => N (s p)), ro_at (fun p => S (s p))] at hBW
            exact hBW
          · rw [← en_ro, HI2.out]
            exact so_down lk_T lk_A ⟨hj1, hj2⟩ HSO.out hl HJL.out
        by_cases hja : a < j
        · have q1 : (a : Int) < (j : Int) := by omega
          obtain ⟨j1, hj1e⟩ : ∃ q, j = q + 1 := ⟨j - 1, by omega⟩
          have fj : IntKind.i64.wrap ((j : Int) - 1) = (j1 : Int) := by rw [HW.out _ (by omega) (by omega)]; omega
          have hj1c : j1 < cap := by omega
          have hj1n : (j1 : Int) < (n : Int) := by omega
          have hj10 : (0 : Int) ≤ (j1 : Int) := by omega
          have hne : j1 ≠ j := by omega
          have HJ1 : Hid (j = j1 + 1) := hj1e
          have hcmp : ((N2 j, S2 j) : Int × ByteArray) = EnS N S s i ∧ ((N2 j1, S2 j1) : Int × ByteArray) = EnS N S s j1 := by
            rw [← HNS.out.1, ← HNS.out.2]
            refine ⟨?_, ?_⟩
            · rw [ro_head _ hj2, ro_head _ hj2]; rfl
            · rw [ro_below _ (by omega) hj2, ro_below _ (by omega) hj2]; rfl
          have HCM : Hid (∀ w : World, Calls Tryz.prog 138 #[.agg #[.int .i64 (N2 j), .string (S2 j)], .agg #[.int .i64 (N2 j1), .string (S2 j1)]] w fun e w' => e = .returned (.int .i64 (lcC (N2 j, S2 j) (N2 j1, S2 j1))) ∧ Below w.heap.size w w') := fun w => sortCmp_any _ _ _ _ w
          have HLC : Hid (lcC (N2 j, S2 j) (N2 j1, S2 j1) < 0 ↔ LkL (EnS N S s i) (EnS N S s j1)) := by
            show _ ↔ _
            rw [hcmp.1, hcmp.2]; exact Iff.rfl
          generalize lcC (N2 j, S2 j) (N2 j1, S2 j1) = cv at *
          clear hcmp hj1e
          by_cases hcv : cv < 0
          · have hcd : decide (cv < 0) = true := decide_eq_true hcv
            have HLL : Hid (LkL (EnS N S s i) (EnS N S s j1)) := HLC.out.1 hcv
            go_wp2_with fail
            refine wp_region_partsS (fun U => Blk U g 54 (lbC tl cap N2 S2)) [([0, 1], 2, false), ([3, 4, 5, 6, 7, 9, 10], 8, true), ([], 11, false), ([12], 13, false), ([], 14, false), ([], 15, false)] [16] [] (by kernel_rfl) (by kernel_rfl) hBd (partsI_force ?_)
            simp only [sgLHNaSym1]
            go_wp2_with fail
            refine ⟨rfl, hBd, partsI_yield ?_⟩
            simp only [sgLHNaSym1]
            go_wp2_with fail
            first
              | refine ⟨rfl, _, .agg #[.int .i64 (N2 j), .string (S2 j)], rfl, Or.inl ⟨by rfl, fun U hU => by have hW0 := lb_c0 hU j hjc; have hW1 := lb_c1 hU j hjc; go_simp⟩, partsI_force ?_⟩
              | refine ⟨rfl, .agg #[.int .i64 (N2 j), .string (S2 j)], Or.inl ⟨by rfl, fun U hU => by have hW0 := lb_c0 hU j hjc; have hW1 := lb_c1 hU j hjc; go_simp⟩, partsI_force ?_⟩
            simp only [Act.put, sgPHNaSym1]
            simp only [sgLHNaSym1]
            go_wp2_with fail
            refine ⟨rfl, hBd, partsI_force ?_⟩
            simp only [sgLHNaSym1]
            have d0 := lb_c0 hBd j1 hj1c
            have d1 := lb_c1 hBd j1 hj1c
            go_wp2_with fail
            clear d0 d1
            refine ⟨rfl, hBd, partsI_force ?_⟩
            simp only [sgLHNaSym1]
            go_wp2_with fail
            refine (HCM.out _).mono ?_
            rintro e U1 ⟨rfl, hb1⟩
            have hB1 : Blk U1 g 54 (lbC tl cap N2 S2) := hBd.below hb1 hBd.lt
            have hT1 : Turns (fun z => z = g) V U1 := HT.out.drew.tr (Turns.bel hb1)
            clear hb1
            go_wp2_with fail
            refine ⟨rfl, hB1, partsI_force ?_⟩
            simp only [sgLHNaSym1]
            go_wp2_with fail
            refine ⟨rfl, hB1, partsI_last ?_⟩
            simp only [sgLHNaSym1]
            go_wp2_with fail
            refine ⟨rfl, ?_⟩
            have HT2' : Hid (Turns (fun z => z = g) V U1) := hT1
            clear hBd hT1 hBj HCM HT
            have hBd : Blk U1.drew g 54 (lbC tl cap N2 S2) := hB1.drew
            have HT2 : Hid (Turns (fun z => z = g) V U1.drew) := HT2'.out.drew
            clear hB1 HT2'
            go_wp2_with fail
            refine wp_region_partsS (fun U => ∃ N3 S3, N3 j1 = N2 j1 ∧ S3 j1 = S2 j1 ∧ Blk U g 54 (lbC tl cap N3 S3)) [([0, 1, 2, 3, 5, 6, 10, 11, 12], 4, true), ([], 7, true), ([8], 9, true), ([], 13, false), ([14], 15, false)] [] [16, 17] (by kernel_rfl) (by kernel_rfl) ⟨N2, S2, rfl, rfl, hBd⟩ (partsI_yield ?_)
            simp only [sgLHNaSym1]
            generalize U1.drew = U2 at *
            go_wp2_with fail
            first
              | refine ⟨rfl, _, .int .i64 (j1 : Int), rfl, Or.inl ⟨by rfl, fun U hU => by go_simp⟩, partsI_yield ?_⟩
              | refine ⟨rfl, .int .i64 (j1 : Int), Or.inl ⟨by rfl, fun U hU => by go_simp⟩, partsI_yield ?_⟩
            simp only [Act.put, sgPHNaSym1]
            simp only [sgLHNaSym1]
            go_wp2_with fail
            first
              | refine ⟨rfl, _, .int .i64 (j1 : Int), rfl, Or.inl ⟨by rfl, fun U hU => by go_simp⟩, partsI_yield ?_⟩
              | refine ⟨rfl, .int .i64 (j1 : Int), Or.inl ⟨by rfl, fun U hU => by go_simp⟩, partsI_yield ?_⟩
            simp only [Act.put, sgPHNaSym1]
            simp only [sgLHNaSym1]
            go_wp2_with fail
            first
              | refine ⟨rfl, _, .agg #[.int .i64 (N2 j1), .string (S2 j1)], rfl, Or.inl ⟨by rfl, fun U hU => by obtain ⟨N3, S3, q1, q2, hU⟩ := hU; have hW0 := lb_c0 hU j1 hj1c; have hW1 := lb_c1 hU j1 hj1c; rw [q1] at hW0; rw [q2] at hW1; go_simp⟩, partsI_force ?_⟩
              | refine ⟨rfl, .agg #[.int .i64 (N2 j1), .string (S2 j1)], Or.inl ⟨by rfl, fun U hU => by obtain ⟨N3, S3, q1, q2, hU⟩ := hU; have hW0 := lb_c0 hU j1 hj1c; have hW1 := lb_c1 hU j1 hj1c; rw [q1] at hW0; rw [q2] at hW1; go_simp⟩, partsI_force ?_⟩
            simp only [Act.put, sgPHNaSym1]
            simp only [sgLHNaSym1]
            have d0 := lb_c0 hBd j hjc
            have d1 := lb_c1 hBd j hjc
            go_wp2_with fail
            refine ⟨rfl, ⟨N2, S2, rfl, rfl, hBd⟩, partsI_force ?_⟩
            simp only [sgLHNaSym1]
            have f0 : U2.frozen? ⟨g, j * 2, none⟩ = false := hBd.frozen _
            have f1 : U2.frozen? ⟨g, j * 2 + 1, none⟩ = false := hBd.frozen _
            have k1 := lb_put hBd j hjc (N2 j1) (S2 j1)
            have k2 := lb_put k1 j1 hj1c (N2 j) (S2 j)
            go_wp2_with fail
            refine ⟨rfl, ⟨_, _, by unfold upN; rw [if_neg hne], by unfold upS; rw [if_neg hne], k1⟩, partsI_last ?_⟩
            simp only [sgLHNaSym1]
            clear d0 d1 f0 f1
            have d0 := lb_c0 k1 j1 hj1c
            have d1 := lb_c1 k1 j1 hj1c
            have f0 : ((U2.setCell ⟨g, j * 2, none⟩ (.int .i64 (N2 j1))).setCell ⟨g, j * 2 + 1, none⟩ (.string (S2 j1))).frozen? ⟨g, j1 * 2, none⟩ = false := k1.frozen _
            have f1 : ((U2.setCell ⟨g, j * 2, none⟩ (.int .i64 (N2 j1))).setCell ⟨g, j * 2 + 1, none⟩ (.string (S2 j1))).frozen? ⟨g, j1 * 2 + 1, none⟩ = false := k1.frozen _
            have HE : Hid (Blk ((((U2.setCell ⟨g, j * 2, none⟩ (.int .i64 (N2 j1))).setCell ⟨g, j * 2 + 1, none⟩ (.string (S2 j1))).setCell ⟨g, j1 * 2, none⟩ (.int .i64 (N2 j))).setCell ⟨g, j1 * 2 + 1, none⟩ (.string (S2 j))) g 54 (lbC tl cap (upN (upN N2 j (N2 j1)) j1 (N2 j)) (upS (upS S2 j (S2 j1)) j1 (S2 j))) ∧ Turns (fun z => z = g) V ((((U2.setCell ⟨g, j * 2, none⟩ (.int .i64 (N2 j1))).setCell ⟨g, j * 2 + 1, none⟩ (.string (S2 j1))).setCell ⟨g, j1 * 2, none⟩ (.int .i64 (N2 j))).setCell ⟨g, j1 * 2 + 1, none⟩ (.string (S2 j)))) := ⟨k2, (((HT2.out.tr (Turns.cell _ _ _ _ rfl)).tr (Turns.cell _ _ _ _ rfl)).tr (Turns.cell _ _ _ _ rfl)).tr (Turns.cell _ _ _ _ rfl)⟩
            clear k1 k2 hBd
            go_wp2_with fail
            refine ⟨rfl, ?_⟩
            clear d0 d1 f0 f1
            go_wp2_with fail
            go_roundw
            case rel =>
              have hjj := HJ1.out
              refine ⟨j1, by omega, by omega, by first | rfl | go_num | simp, .inr HLL.out, ?_, HE.out.2⟩
              have hk := HE.out.1
              have e1 : upN (upN N2 j (N2 j1)) j1 (N2 j) = roF (fun p => N (s p)) j1 i (i + 1) := funext fun p => by
                have := ro_down (fun p => N (s p)) i j1 (by omega) p
                rw [← this, ← HJ1.out, HNS.out.1]
                rfl
              have e2 : upS (upS S2 j (S2 j1)) j1 (S2 j) = roF (fun p => S (s p)) j1 i (i + 1) := funext fun p => by
                have := ro_down (fun p => S (s p)) i j1 (by omega) p
                rw [← this, ← HJ1.out, HNS.out.2]
                rfl
              rw [e1, e2] at hk
              exact hk
            case measure => have := HJ1.out; simp [intOf]; omega
          · have hcd : decide (cv < 0) = false := decide_eq_false hcv
            have HLL : Hid (j = a ∨ ¬ LkL (EnS N S s i) (EnS N S s (j - 1))) := .inr (by have hjj := HJ1.out; rw [show j - 1 = j1 by omega]; exact fun h => hcv (HLC.out.2 h))
            go_wp2_with fail
            refine wp_region_partsS (fun U => Blk U g 54 (lbC tl cap N2 S2)) [([0, 1], 2, false), ([3, 4, 5, 6, 7, 9, 10], 8, true), ([], 11, false), ([12], 13, false), ([], 14, false), ([], 15, false)] [16] [] (by kernel_rfl) (by kernel_rfl) hBd (partsI_force ?_)
            simp only [sgLHNaSym1]
            go_wp2_with fail
            refine ⟨rfl, hBd, partsI_yield ?_⟩
            simp only [sgLHNaSym1]
            go_wp2_with fail
            first
              | refine ⟨rfl, _, .agg #[.int .i64 (N2 j), .string (S2 j)], rfl, Or.inl ⟨by rfl, fun U hU => by have hW0 := lb_c0 hU j hjc; have hW1 := lb_c1 hU j hjc; go_simp⟩, partsI_force ?_⟩
              | refine ⟨rfl, .agg #[.int .i64 (N2 j), .string (S2 j)], Or.inl ⟨by rfl, fun U hU => by have hW0 := lb_c0 hU j hjc; have hW1 := lb_c1 hU j hjc; go_simp⟩, partsI_force ?_⟩
            simp only [Act.put, sgPHNaSym1]
            simp only [sgLHNaSym1]
            go_wp2_with fail
            refine ⟨rfl, hBd, partsI_force ?_⟩
            simp only [sgLHNaSym1]
            have d0 := lb_c0 hBd j1 hj1c
            have d1 := lb_c1 hBd j1 hj1c
            go_wp2_with fail
            clear d0 d1
            refine ⟨rfl, hBd, partsI_force ?_⟩
            simp only [sgLHNaSym1]
            go_wp2_with fail
            refine (HCM.out _).mono ?_
            rintro e U1 ⟨rfl, hb1⟩
            have hB1 : Blk U1 g 54 (lbC tl cap N2 S2) := hBd.below hb1 hBd.lt
            have hT1 : Turns (fun z => z = g) V U1 := HT.out.drew.tr (Turns.bel hb1)
            clear hb1
            go_wp2_with fail
            refine ⟨rfl, hB1, partsI_force ?_⟩
            simp only [sgLHNaSym1]
            go_wp2_with fail
            refine ⟨rfl, hB1, partsI_last ?_⟩
            simp only [sgLHNaSym1]
            go_wp2_with fail
            refine ⟨rfl, ?_⟩
            have HD : Hid _ := HDONE.out U1 HLL.out hB1 hT1
            clear hBd hT1 hBj hB1 HCM
            go_wp2_with fail
            go_roundw
            case rel =>
              obtain ⟨i', s', k1, k2, k3, k4, k5, k6, k7⟩ := HD.out
              exact ⟨i', s', k1, k2, by first | (rw [k3]; done) | (rw [k3]; first | rfl | go_num | simp), k4, k5, k6, k7⟩
            case measure => have := HI2.out; simp [intOf]; omega
        · have q1 : ¬ ((a : Int) < (j : Int)) := by omega
          have HD : Hid _ := HDONE.out wr.drew (.inl (by omega)) hBd HT.out.drew
          go_wp2_with fail
          have hu0 : (undef = Value.bool false) = False := by simp [undef]
          have hu1 : (undef = Value.bool true) = False := by simp [undef]
          refine wp_region_partsS (fun U => Blk U g 54 (lbC tl cap N2 S2)) [([0, 1], 2, false), ([3, 4, 5, 6, 7, 9, 10], 8, true), ([], 11, false), ([12], 13, false), ([], 14, false), ([], 15, false)] [16] [] (by kernel_rfl) (by kernel_rfl) hBd (partsI_force ?_)
          simp only [sgLHNaSym1]
          go_wp2_with fail
          refine ⟨rfl, hBd, partsI_yield ?_⟩
          simp only [sgLHNaSym1]
          go_wp2_with fail
          first
            | refine ⟨rfl, _, undef, rfl, Or.inr ⟨by rfl, rfl⟩, partsI_force ?_⟩
            | refine ⟨rfl, undef, Or.inr ⟨by rfl, rfl⟩, partsI_force ?_⟩
          simp only [Act.put, sgPHNaSym1]
          simp only [sgLHNaSym1]
          go_wp2_with fail
          refine ⟨rfl, hBd, partsI_force ?_⟩
          simp only [sgLHNaSym1]
          go_wp2_with fail
          refine ⟨rfl, hBd, partsI_force ?_⟩
          simp only [sgLHNaSym1]
          go_wp2_with fail
          refine ⟨rfl, hBd, partsI_force ?_⟩
          simp only [sgLHNaSym1]
          go_wp2_with fail
          refine ⟨rfl, hBd, partsI_last ?_⟩
          simp only [sgLHNaSym1]
          go_wp2_with fail
          refine ⟨rfl, ?_⟩
          clear hBd hBj
          go_wp2_with fail
          go_roundw
          case rel =>
            obtain ⟨i', s', k1, k2, k3, k4, k5, k6, k7⟩ := HD.out
            exact ⟨i', s', k1, k2, by first | (rw [k3]; done) | (rw [k3]; first | rfl | go_num | simp), k4, k5, k6, k7⟩
          case measure => have := HI2.out; simp [intOf]; omega
    · have i1 : ¬ ((i : Int) < (b : Int)) := by omega
      go_wp2_with fail
      go_end0
      exact ⟨rfl, s, HP.out, HB0.out, HSO.out.sub (Nat.le_refl _) (by omega), HT0.out⟩
end Go.Proofs.YtimjggkdpmgpjaaGreatDoor

namespace Go.Proofs.YtimjggkdpmgpjaaGreatDoor
open Go Go.RowKit Go.Nam
set_option linter.unusedVariables false
set_option linter.unusedSimpArgs false
set_option maxRecDepth 100000 in
set_option maxHeartbeats 8000000 in
theorem sym_one (tl : Array Value) (g n c cap : Nat) (hnc : n ≤ cap) (hn : n ≤ 1000000000000000) (a m b : Nat) (N : Nat → Int) (S : Nat → ByteArray) (V : World) (hm : m = a + 1) (hmb : m < b) (hbn : b ≤ n) (hB : Blk V g 54 (lbC tl cap N S)) (h2 : So LkL (EnS N S id) m b) :
    Calls Tryz.prog 192 #[.slice (some ⟨g, 0, none⟩) n c, .int .i64 (a : Int), .int .i64 (m : Int), .int .i64 (b : Int), fvS] V fun e w' => e = .returned (.tuple #[]) ∧ ∃ s, Pm a b s ∧ Blk w' g 54 (lbC tl cap (fun p => N (s p)) (fun p => S (s p))) ∧ So LkL (EnS N S s) a b ∧ Turns (fun z => z = g) V w' := by
  have nb : (n : Int) ≤ 1000000000000000 := by omega
  have H0 : Hid (Blk V g 54 (lbC tl cap N S)) := hB
  have HSO : Hid (So LkL (EnS N S id) (a + 1) b) := by rw [← hm]; exact h2
  have HW : Hid (∀ z : Int, -9000000000000000 ≤ z → z ≤ 9000000000000000 → IntKind.i64.wrap z = z) := fun z h1 h2 => by simp [IntKind.wrap, IntKind.signed, IntKind.bits]; omega
  have HM : Hid (m = a + 1) := hm
  have f1 : IntKind.i64.wrap ((m : Int) - (a : Int)) = 1 := by rw [HW.out _ (by omega) (by omega)]; omega
  have ham : a < m := by omega
  have hac : a < cap := by omega
  have han : (a : Int) < (n : Int) := by omega
  have ha0 : (0 : Int) ≤ (a : Int) := by omega
  clear hB h2 hm
  go_enter Tryz.func192, Tryz.ntmps192
  go_wp2_with fail
  go_loopw [10, 11] (fun v10 v11 wr => Hid (∃ (i j : Nat), m ≤ i ∧ i ≤ j ∧ j ≤ b ∧ v10 = .int .i64 (i : Int) ∧ v11 = .int .i64 (j : Int) ∧ (i = a + 1 ∨ LkL (EnS N S id (i - 1)) (EnS N S id a)) ∧ (j = b ∨ ¬ LkL (EnS N S id j) (EnS N S id a)) ∧ Blk wr g 54 (lbC tl cap N S) ∧ Turns (fun z => z = g) V wr)) (fun v10 v11 _ => (intOf v11).toNat - (intOf v10).toNat)
  case atStart => exact ⟨m, b, Nat.le_refl _, by omega, Nat.le_refl _, rfl, rfl, .inl HM.out, .inl rfl, H0.out, Turns.bel (Below.refl _ _)⟩
  case round =>
    obtain ⟨i, j, hmi, hij0, hjb, rfl, rfl, hl, hr, hBi, hTi⟩ := Hid.out hrel
    have HLR : Hid ((i = a + 1 ∨ LkL (EnS N S id (i - 1)) (EnS N S id a)) ∧ (j = b ∨ ¬ LkL (EnS N S id j) (EnS N S id a))) := ⟨hl, hr⟩
    have HT : Hid (Turns (fun z => z = g) V wr) := hTi
    clear hrel hl hr hTi H0 f1
    by_cases hij1 : i < j
    · have q1 : (i : Int) < (j : Int) := by omega
      obtain ⟨ij, hij⟩ : ∃ q : Nat, q = i + j := ⟨_, rfl⟩
      have fij : IntKind.i64.wrap ((i : Int) + (j : Int)) = (ij : Int) := by rw [HW.out _ (by omega) (by omega)]; omega
      obtain ⟨h, hh⟩ : ∃ q : Nat, q = ij / 2 := ⟨_, rfl⟩
      have fu : IntKind.u64.wrap (ij : Int) = (ij : Int) := by rw [IntKind.wrap_u64]; omega
      have fh : (ij : Int) / 2 = (h : Int) := by omega
      have fhw : IntKind.i64.wrap (h : Int) = (h : Int) := HW.out _ (by omega) (by omega)
      have fh1 : IntKind.i64.wrap ((h : Int) + 1) = ((h + 1 : Nat) : Int) := by rw [HW.out _ (by omega) (by omega)]; omega
      have h1 : i ≤ h := by omega
      have h2 : h < j := by omega
      have hhc : h < cap := by omega
      have hhn : (h : Int) < (n : Int) := by omega
      have hh0 : (0 : Int) ≤ (h : Int) := by omega
      clear hij hh
      have HCM : Hid (∀ w : World, Calls Tryz.prog 138 #[.agg #[.int .i64 (N h), .string (S h)], .agg #[.int .i64 (N a), .string (S a)]] w fun e w' => e = .returned (.int .i64 (lcC (N h, S h) (N a, S a))) ∧ Below w.heap.size w w') := fun w => sortCmp_any _ _ _ _ w
      have HLC : Hid (lcC (N h, S h) (N a, S a) < 0 ↔ LkL (EnS N S id h) (EnS N S id a)) := Iff.rfl
      generalize lcC (N h, S h) (N a, S a) = cv at *
      have hBd : Blk wr.drew g 54 (lbC tl cap N S) := hBi.drew
      by_cases hcv : cv < 0
      · have hcd : decide (cv < 0) = true := decide_eq_true hcv
        have HR : Hid (h + 1 = a + 1 ∨ LkL (EnS N S id (h + 1 - 1)) (EnS N S id a)) := .inr (HLC.out.1 hcv)
        go_wp2_with fail
        refine wp_region_partsS (fun U => Blk U g 54 (lbC tl cap N S)) [([0, 1, 2, 3, 5, 6, 7], 4, true), ([], 8, false), ([], 9, false), ([], 10, false)] [] [] (by kernel_rfl) (by kernel_rfl) hBd (partsI_yield ?_)
        simp only [sgLHNaSym1]
        go_wp2_with fail
        first
          | refine ⟨rfl, _, .agg #[.int .i64 (N h), .string (S h)], rfl, Or.inl ⟨by rfl, fun U hU => by have hW0 := lb_c0 hU h hhc; have hW1 := lb_c1 hU h hhc; go_simp⟩, partsI_force ?_⟩
          | refine ⟨rfl, .agg #[.int .i64 (N h), .string (S h)], Or.inl ⟨by rfl, fun U hU => by have hW0 := lb_c0 hU h hhc; have hW1 := lb_c1 hU h hhc; go_simp⟩, partsI_force ?_⟩
        simp only [Act.put, sgPHNaSym1]
        simp only [sgLHNaSym1]
        have d0 := lb_c0 hBd a hac
        have d1 := lb_c1 hBd a hac
        go_wp2_with fail
        clear d0 d1
        refine ⟨rfl, hBd, partsI_force ?_⟩
        simp only [sgLHNaSym1]
        go_wp2_with fail
        refine (HCM.out _).mono ?_
        rintro e U1 ⟨rfl, hb1⟩
        have hB1 : Blk U1 g 54 (lbC tl cap N S) := hBd.below hb1 hBd.lt
        have hT1 : Turns (fun z => z = g) V U1 := HT.out.drew.tr (Turns.bel hb1)
        clear hb1
        go_wp2_with fail
        refine ⟨rfl, hB1, partsI_force ?_⟩
        simp only [sgLHNaSym1]
        go_wp2_with fail
        refine ⟨rfl, hB1, partsI_last ?_⟩
        simp only [sgLHNaSym1]
        go_wp2_with fail
        refine ⟨rfl, ?_⟩
        have HD : Hid (_ ∧ _) := ⟨hB1, hT1⟩
        clear hBd hBi hB1 hT1 HCM
        go_wp2_with fail
        go_roundw
        case rel => exact ⟨h + 1, j, by omega, by omega, hjb, by first | rfl | go_num | simp, rfl, HR.out, HLR.out.2, HD.out.1, HD.out.2⟩
        case measure => simp [intOf]; omega
      · have hcd : decide (cv < 0) = false := decide_eq_false hcv
        have HR : Hid (h = b ∨ ¬ LkL (EnS N S id h) (EnS N S id a)) := .inr (fun q => hcv (HLC.out.2 q))
        go_wp2_with fail
        refine wp_region_partsS (fun U => Blk U g 54 (lbC tl cap N S)) [([0, 1, 2, 3, 5, 6, 7], 4, true), ([], 8, false), ([], 9, false), ([], 10, false)] [] [] (by kernel_rfl) (by kernel_rfl) hBd (partsI_yield ?_)
        simp only [sgLHNaSym1]
        go_wp2_with fail
        first
          | refine ⟨rfl, _, .agg #[.int .i64 (N h), .string (S h)], rfl, Or.inl ⟨by rfl, fun U hU => by have hW0 := lb_c0 hU h hhc; have hW1 := lb_c1 hU h hhc; go_simp⟩, partsI_force ?_⟩
          | refine ⟨rfl, .agg #[.int .i64 (N h), .string (S h)], Or.inl ⟨by rfl, fun U hU => by have hW0 := lb_c0 hU h hhc; have hW1 := lb_c1 hU h hhc; go_simp⟩, partsI_force ?_⟩
        simp only [Act.put, sgPHNaSym1]
        simp only [sgLHNaSym1]
        have d0 := lb_c0 hBd a hac
        have d1 := lb_c1 hBd a hac
        go_wp2_with fail
        clear d0 d1
        refine ⟨rfl, hBd, partsI_force ?_⟩
        simp only [sgLHNaSym1]
        go_wp2_with fail
        refine (HCM.out _).mono ?_
        rintro e U1 ⟨rfl, hb1⟩
        have hB1 : Blk U1 g 54 (lbC tl cap N S) := hBd.below hb1 hBd.lt
        have hT1 : Turns (fun z => z = g) V U1 := HT.out.drew.tr (Turns.bel hb1)
        clear hb1
        go_wp2_with fail
        refine ⟨rfl, hB1, partsI_force ?_⟩
        simp only [sgLHNaSym1]
        go_wp2_with fail
        refine ⟨rfl, hB1, partsI_last ?_⟩
        simp only [sgLHNaSym1]
        go_wp2_with fail
        refine ⟨rfl, ?_⟩
        have HD : Hid (_ ∧ _) := ⟨hB1, hT1⟩
        clear hBd hBi hB1 hT1 HCM
        go_wp2_with fail
        go_roundw
        case rel => exact ⟨i, h, hmi, h1, by omega, rfl, by first | rfl | go_num | simp, HLR.out.1, HR.out, HD.out.1, HD.out.2⟩
        case measure => simp [intOf]; omega
    · have q1 : ¬ ((i : Int) < (j : Int)) := by omega
      obtain rfl : i = j := by omega
      have HB0 : Hid (Blk wr g 54 (lbC tl cap N S)) := hBi
      have fi : IntKind.i64.wrap ((i : Int) - 1) = ((i - 1 : Nat) : Int) := by rw [HW.out _ (by omega) (by omega)]; omega
      obtain ⟨i1, hi1⟩ : ∃ q, q = i - 1 := ⟨_, rfl⟩
      rw [← hi1] at fi
      have HI1 : Hid (i = i1 + 1) := by show _ = _; omega
      have hai : a ≤ i1 := by omega
      clear hBi hi1
      go_wp2_with fail
      go_loopw [13] (fun v13 wr => Hid (∃ (k : Nat), a ≤ k ∧ k ≤ i1 ∧ v13 = .int .i64 (k : Int) ∧ Blk wr g 54 (lbC tl cap (roF N a (a + 1) (k + 1)) (roF S a (a + 1) (k + 1))) ∧ Turns (fun z => z = g) V wr)) (fun v13 _ => i1 - (intOf v13).toNat)
      case atStart =>
        refine ⟨a, Nat.le_refl _, hai, rfl, ?_, HT.out⟩
        have e : ∀ {α : Type} (f : Nat → α), roF f a (a + 1) (a + 1) = f := fun f => funext fun p => by unfold roF; rw [if_neg (by omega)]; split; (congr 1; omega); rfl
        rw [e, e]
        exact HB0.out
      case round =>
        obtain ⟨k, hak, hki, rfl, hBk, hTk⟩ := Hid.out hrel
        have HT2' : Hid (Turns (fun z => z = g) V wr) := hTk
        clear hrel hTk HB0 HT
        obtain ⟨N2, hN2⟩ : ∃ N2, roF N a (a + 1) (k + 1) = N2 := ⟨_, rfl⟩
        obtain ⟨S2, hS2⟩ : ∃ S2, roF S a (a + 1) (k + 1) = S2 := ⟨_, rfl⟩
        have HNS : Hid (roF N a (a + 1) (k + 1) = N2 ∧ roF S a (a + 1) (k + 1) = S2) := ⟨hN2, hS2⟩
        rw [hN2, hS2] at hBk
        clear hN2 hS2
        by_cases hk1 : k < i1
        · have q2 : (k : Int) < (i1 : Int) := by omega
          have hI := HI1.out
          obtain ⟨k1, hk1e⟩ : ∃ q, q = k + 1 := ⟨_, rfl⟩
          have fk : IntKind.i64.wrap ((k : Int) + 1) = (k1 : Int) := by rw [HW.out _ (by omega) (by omega)]; omega
          have hkc : k < cap := by omega
          have hk1c : k1 < cap := by omega
          have hkn : (k : Int) < (n : Int) := by omega
          have hk1n : (k1 : Int) < (n : Int) := by omega
          have hk0 : (0 : Int) ≤ (k : Int) := by omega
          have hk10 : (0 : Int) ≤ (k1 : Int) := by omega
          have hne : k1 ≠ k := by omega
          have HK1 : Hid (k1 = k + 1) := hk1e
          clear hk1e hI
          have hBd : Blk wr.drew g 54 (lbC tl cap N2 S2) := hBk.drew
          have HT2 : Hid (Turns (fun z => z = g) V wr.drew) := HT2'.out.drew
          clear hBk HT2'
          go_wp2_with fail
          refine wp_region_partsS (fun U => ∃ N3 S3, N3 k1 = N2 k1 ∧ S3 k1 = S2 k1 ∧ Blk U g 54 (lbC tl cap N3 S3)) [([0, 1, 2, 3, 5, 6, 10, 11, 12], 4, true), ([], 7, true), ([8], 9, true), ([], 13, false), ([14], 15, false)] [] [16, 17] (by kernel_rfl) (by kernel_rfl) ⟨N2, S2, rfl, rfl, hBd⟩ (partsI_yield ?_)
          simp only [sgLHNaSym1]
          generalize wr.drew = U2 at *
          go_wp2_with fail
          first
            | refine ⟨rfl, _, .int .i64 (k1 : Int), rfl, Or.inl ⟨by rfl, fun U hU => by go_simp⟩, partsI_yield ?_⟩
            | refine ⟨rfl, .int .i64 (k1 : Int), Or.inl ⟨by rfl, fun U hU => by go_simp⟩, partsI_yield ?_⟩
          simp only [Act.put, sgPHNaSym1]
          simp only [sgLHNaSym1]
          go_wp2_with fail
          first
            | refine ⟨rfl, _, .int .i64 (k1 : Int), rfl, Or.inl ⟨by rfl, fun U hU => by go_simp⟩, partsI_yield ?_⟩
            | refine ⟨rfl, .int .i64 (k1 : Int), Or.inl ⟨by rfl, fun U hU => by go_simp⟩, partsI_yield ?_⟩
          simp only [Act.put, sgPHNaSym1]
          simp only [sgLHNaSym1]
          go_wp2_with fail
          first
            | refine ⟨rfl, _, .agg #[.int .i64 (N2 k1), .string (S2 k1)], rfl, Or.inl ⟨by rfl, fun U hU => by obtain ⟨N3, S3, q1, q2, hU⟩ := hU; have hW0 := lb_c0 hU k1 hk1c; have hW1 := lb_c1 hU k1 hk1c; rw [q1] at hW0; rw [q2] at hW1; go_simp⟩, partsI_force ?_⟩
            | refine ⟨rfl, .agg #[.int .i64 (N2 k1), .string (S2 k1)], Or.inl ⟨by rfl, fun U hU => by obtain ⟨N3, S3, q1, q2, hU⟩ := hU; have hW0 := lb_c0 hU k1 hk1c; have hW1 := lb_c1 hU k1 hk1c; rw [q1] at hW0; rw [q2] at hW1; go_simp⟩, partsI_force ?_⟩
          simp only [Act.put, sgPHNaSym1]
          simp only [sgLHNaSym1]
          have d0 := lb_c0 hBd k hkc
          have d1 := lb_c1 hBd k hkc
          go_wp2_with fail
          refine ⟨rfl, ⟨N2, S2, rfl, rfl, hBd⟩, partsI_force ?_⟩
          simp only [sgLHNaSym1]
          have f0 : U2.frozen? ⟨g, k * 2, none⟩ = false := hBd.frozen _
          have f1 : U2.frozen? ⟨g, k * 2 + 1, none⟩ = false := hBd.frozen _
          have kk1 := lb_put hBd k hkc (N2 k1) (S2 k1)
          have kk2 := lb_put kk1 k1 hk1c (N2 k) (S2 k)
          go_wp2_with fail
          refine ⟨rfl, ⟨_, _, by unfold upN; rw [if_neg hne], by unfold upS; rw [if_neg hne], kk1⟩, partsI_last ?_⟩
          simp only [sgLHNaSym1]
          clear d0 d1 f0 f1
          have d0 := lb_c0 kk1 k1 hk1c
          have d1 := lb_c1 kk1 k1 hk1c
          have f0 : ((U2.setCell ⟨g, k * 2, none⟩ (.int .i64 (N2 k1))).setCell ⟨g, k * 2 + 1, none⟩ (.string (S2 k1))).frozen? ⟨g, k1 * 2, none⟩ = false := kk1.frozen _
          have f1 : ((U2.setCell ⟨g, k * 2, none⟩ (.int .i64 (N2 k1))).setCell ⟨g, k * 2 + 1, none⟩ (.string (S2 k1))).frozen? ⟨g, k1 * 2 + 1, none⟩ = false := kk1.frozen _
          have HE : Hid (Blk ((((U2.setCell ⟨g, k * 2, none⟩ (.int .i64 (N2 k1))).setCell ⟨g, k * 2 + 1, none⟩ (.string (S2 k1))).setCell ⟨g, k1 * 2, none⟩ (.int .i64 (N2 k))).setCell ⟨g, k1 * 2 + 1, none⟩ (.string (S2 k))) g 54 (lbC tl cap (upN (upN N2 k (N2 k1)) k1 (N2 k)) (upS (upS S2 k (S2 k1)) k1 (S2 k))) ∧ Turns (fun z => z = g) V ((((U2.setCell ⟨g, k * 2, none⟩ (.int .i64 (N2 k1))).setCell ⟨g, k * 2 + 1, none⟩ (.string (S2 k1))).setCell ⟨g, k1 * 2, none⟩ (.int .i64 (N2 k))).setCell ⟨g, k1 * 2 + 1, none⟩ (.string (S2 k)))) := ⟨kk2, (((HT2.out.tr (Turns.cell _ _ _ _ rfl)).tr (Turns.cell _ _ _ _ rfl)).tr (Turns.cell _ _ _ _ rfl)).tr (Turns.cell _ _ _ _ rfl)⟩
          clear kk1 kk2 hBd
          go_wp2_with fail
          refine ⟨rfl, ?_⟩
          clear d0 d1 f0 f1
          go_wp2_with fail
          go_roundw
          case rel =>
            have hkk := HK1.out
            refine ⟨k1, by omega, by omega, by first | rfl | go_num | simp, ?_, HE.out.2⟩
            have hk := HE.out.1
            have e1 : upN (upN N2 k (N2 k1)) k1 (N2 k) = roF N a (a + 1) (k1 + 1) := funext fun p => by
              have := ro_up N a k hak p
              rw [HK1.out]
              rw [← this, HNS.out.1]
              rfl
            have e2 : upS (upS S2 k (S2 k1)) k1 (S2 k) = roF S a (a + 1) (k1 + 1) := funext fun p => by
              have := ro_up S a k hak p
              rw [HK1.out]
              rw [← this, HNS.out.2]
              rfl
            rw [e1, e2] at hk
            exact hk
          case measure => have := HK1.out; simp [intOf]; omega
        · have q2 : ¬ ((k : Int) < (i1 : Int)) := by omega
          have HB2 : Hid (Blk wr g 54 (lbC tl cap N2 S2)) := hBk
          clear hBk
          go_wp2_with fail
          (try simp only [Exit.inBlock, Exit.then])
          refine bodyPost_ret (results_none rfl _ _ _) rfl ?_
          have hki2 : k + 1 = i := by have := HI1.out; omega
          refine ⟨rfl, roF id a (a + 1) i, (ro_pm a (a + 1) i (by omega) (by have := HI1.out; omega)).wide (Nat.le_refl _) hjb, ?_, ?_, HT2'.out⟩
          · have hk := HB2.out
            rw [← HNS.out.1, ← HNS.out.2, hki2, ro_at N, ro_at S] at hk
            exact hk
          · have := so_up lk_T lk_A (f := EnS N S id) (a := a) (b := b) (i := i) ⟨by have := HI1.out; omega, hjb⟩ HSO.out HLR.out.1 HLR.out.2
            rw [en_ro] at this
            exact this
end Go.Proofs.YtimjggkdpmgpjaaGreatDoor
