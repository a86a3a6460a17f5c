/- Two sorted stretches merged (slices.symMergeCmpFunc). -/
import Derived.Test.YtimjggkdpmgpjaaGreatDoorHNaSym1
import Derived.Handy
import Derived.Deep.DeepCutAuto
import Derived.Deep.Cut

namespace Go.Proofs.YtimjggkdpmgpjaaGreatDoor
theorem sgLHNaSym3 : (∀ (α : Type) (a : α) (l r : List α), (a :: l) ++ r = a :: (l ++ r)) ∧ (∀ (α : Type) (l : List α), [] ++ l = l) ∧ (∀ (α : Type) (l : List α), l ++ [] = l) ∧ (∀ (α β : Type) (f : α → Option β) (a : α) (l : List α), (a :: l).filterMap f = match f a with | none => l.filterMap f | some b => b :: l.filterMap f) ∧ (∀ (α β : Type) (f : α → Option β), [].filterMap f = []) ∧ (∀ (α : Type) (l : List α) (i : Nat), l.toArray[i]? = l[i]?) ∧ (∀ (α : Type) (a : α) (l : List α), (a :: l)[0]? = some a) ∧ (∀ (α : Type) (a : α) (l : List α) (i : Nat), (a :: l)[i + 1]? = l[i]?) :=
  ⟨fun _ _ _ _ => List.cons_append, fun _ _ => List.nil_append _, fun _ _ => List.append_nil _, fun _ _ _ _ _ => List.filterMap_cons, fun _ _ _ => List.filterMap_nil, fun _ _ _ => List.getElem?_toArray, fun _ _ _ => List.getElem?_cons_zero, fun _ _ _ _ => List.getElem?_cons_succ⟩
theorem sgPHNaSym3 : (∀ (α : Type) (l : List α) (i : Nat) (a : α), l.toArray.setIfInBounds i a = (l.set i a).toArray) ∧ (∀ (α : Type) (a b : α) (l : List α), (a :: l).set 0 b = b :: l) ∧ (∀ (α : Type) (a b : α) (l : List α) (i : Nat), (a :: l).set (i + 1) b = a :: l.set i b) :=
  ⟨fun _ _ _ _ => List.setIfInBounds_toArray _ _ _, fun _ _ _ _ => List.set_cons_zero, fun _ _ _ _ _ => List.set_cons_succ⟩
end Go.Proofs.YtimjggkdpmgpjaaGreatDoor
namespace Go.Proofs.YtimjggkdpmgpjaaGreatDoor
open Go Go.RowKit Go.Nam
set_option linter.unusedVariables false
set_option linter.unusedSimpArgs false
set_option maxRecDepth 100000 in
set_option maxHeartbeats 8000000 in
theorem sym_last (tl : Array Value) (g n c cap : Nat) (hnc : n ≤ cap) (hn : n ≤ 1000000000000000) (a m b : Nat) (N : Nat → Int) (S : Nat → ByteArray) (V : World) (ham : a < m) (hma : m ≠ a + 1) (hb : b = m + 1) (hbn : b ≤ n) (hB : Blk V g 54 (lbC tl cap N S)) (h1 : So LkL (EnS N S id) a m) :
    Calls Tryz.prog 192 #[.slice (some ⟨g, 0, none⟩) n c, .int .i64 (a : Int), .int .i64 (m : Int), .int .i64 (b : Int), fvS] V fun e w' => e = .returned (.tuple #[]) ∧ ∃ s, Pm a b s ∧ Blk w' g 54 (lbC tl cap (fun p => N (s p)) (fun p => S (s p))) ∧ So LkL (EnS N S s) a b ∧ Turns (fun z => z = g) V w' := by
  have nb : (n : Int) ≤ 1000000000000000 := by omega
  have H0 : Hid (Blk V g 54 (lbC tl cap N S)) := hB
  have HSO : Hid (So LkL (EnS N S id) a m) := h1
  have HW : Hid (∀ z : Int, -9000000000000000 ≤ z → z ≤ 9000000000000000 → IntKind.i64.wrap z = z) := fun z h1 h2 => by simp [IntKind.wrap, IntKind.signed, IntKind.bits]; omega
  have HBM : Hid (b = m + 1) := hb
  obtain ⟨ma, hmae⟩ : ∃ q : Nat, m = a + q := ⟨m - a, by omega⟩
  have f1 : IntKind.i64.wrap ((m : Int) - (a : Int)) = (ma : Int) := by rw [HW.out _ (by omega) (by omega)]; omega
  have f1n : ((ma : Int) == 1) = false := by rw [beq_eq_false_iff_ne]; omega
  have f1m : ¬ ((ma : Int) = 1) := by omega
  have f2 : IntKind.i64.wrap ((b : Int) - (m : Int)) = 1 := by rw [HW.out _ (by omega) (by omega)]; omega
  have hmc : m < cap := by omega
  have hmn : (m : Int) < (n : Int) := by omega
  have hm0 : (0 : Int) ≤ (m : Int) := by omega
  clear hB h1 hb hmae hma
  go_enter Tryz.func192, Tryz.ntmps192
  go_wp2_with fail
  go_loopw [14, 15] (fun v14 v15 wr => Hid (∃ (i j : Nat), a ≤ i ∧ i ≤ j ∧ j ≤ m ∧ v14 = .int .i64 (i : Int) ∧ v15 = .int .i64 (j : Int) ∧ (i = a ∨ ¬ LkL (EnS N S id m) (EnS N S id (i - 1))) ∧ (j = m ∨ LkL (EnS N S id m) (EnS N S id j)) ∧ Blk wr g 54 (lbC tl cap N S) ∧ Turns (fun z => z = g) V wr)) (fun v14 v15 _ => (intOf v15).toNat - (intOf v14).toNat)
  case atStart => exact ⟨a, m, Nat.le_refl _, by omega, Nat.le_refl _, rfl, rfl, .inl rfl, .inl rfl, H0.out, Turns.bel (Below.refl _ _)⟩
  case round =>
    obtain ⟨i, j, hmi, hij0, hjb, rfl, rfl, hl, hr, hBi, hTi⟩ := Hid.out hrel
    have HLR : Hid ((i = a ∨ ¬ LkL (EnS N S id m) (EnS N S id (i - 1))) ∧ (j = m ∨ LkL (EnS N S id m) (EnS N S id j))) := ⟨hl, hr⟩
    have HT : Hid (Turns (fun z => z = g) V wr) := hTi
    clear hrel hl hr hTi H0 f1 f1n f1m f2
    by_cases hij1 : i < j
    · have q1 : (i : Int) < (j : Int) := by omega
      obtain ⟨ij, hij⟩ : ∃ q : Nat, q = i + j := ⟨_, rfl⟩
      have fij : IntKind.i64.wrap ((i : Int) + (j : Int)) = (ij : Int) := by rw [HW.out _ (by omega) (by omega)]; omega
      obtain ⟨h, hh⟩ : ∃ q : Nat, q = ij / 2 := ⟨_, rfl⟩
      have fu : IntKind.u64.wrap (ij : Int) = (ij : Int) := by rw [IntKind.wrap_u64]; omega
      have fh : (ij : Int) / 2 = (h : Int) := by omega
      have fhw : IntKind.i64.wrap (h : Int) = (h : Int) := HW.out _ (by omega) (by omega)
      have fh1 : IntKind.i64.wrap ((h : Int) + 1) = ((h + 1 : Nat) : Int) := by rw [HW.out _ (by omega) (by omega)]; omega
      have h1 : i ≤ h := by omega
      have h2 : h < j := by omega
      have hhc : h < cap := by omega
      have hhn : (h : Int) < (n : Int) := by omega
      have hh0 : (0 : Int) ≤ (h : Int) := by omega
      clear hij hh
      have HCM : Hid (∀ w : World, Calls Tryz.prog 138 #[.agg #[.int .i64 (N m), .string (S m)], .agg #[.int .i64 (N h), .string (S h)]] w fun e w' => e = .returned (.int .i64 (lcC (N m, S m) (N h, S h))) ∧ Below w.heap.size w w') := fun w => sortCmp_any _ _ _ _ w
      have HLC : Hid (lcC (N m, S m) (N h, S h) < 0 ↔ LkL (EnS N S id m) (EnS N S id h)) := Iff.rfl
      generalize lcC (N m, S m) (N h, S h) = cv at *
      have hBd : Blk wr.drew g 54 (lbC tl cap N S) := hBi.drew
      by_cases hcv : cv < 0
      · have hcd : decide (cv < 0) = true := decide_eq_true hcv
        have HR : Hid (h = m ∨ LkL (EnS N S id m) (EnS N S id h)) := .inr (HLC.out.1 hcv)
        go_wp2_with fail
        refine wp_region_partsS (fun U => Blk U g 54 (lbC tl cap N S)) [([0, 1, 2, 3, 5, 6, 7], 4, true), ([], 8, false), ([], 9, false), ([], 10, false)] [11] [] (by kernel_rfl) (by kernel_rfl) hBd (partsI_yield ?_)
        simp only [sgLHNaSym3]
        go_wp2_with fail
        first
          | refine ⟨rfl, _, .agg #[.int .i64 (N m), .string (S m)], rfl, Or.inl ⟨by rfl, fun U hU => by have hW0 := lb_c0 hU m hmc; have hW1 := lb_c1 hU m hmc; go_simp⟩, partsI_force ?_⟩
          | refine ⟨rfl, .agg #[.int .i64 (N m), .string (S m)], Or.inl ⟨by rfl, fun U hU => by have hW0 := lb_c0 hU m hmc; have hW1 := lb_c1 hU m hmc; go_simp⟩, partsI_force ?_⟩
        simp only [Act.put, sgPHNaSym3]
        simp only [sgLHNaSym3]
        have d0 := lb_c0 hBd h hhc
        have d1 := lb_c1 hBd h hhc
        go_wp2_with fail
        clear d0 d1
        refine ⟨rfl, hBd, partsI_force ?_⟩
        simp only [sgLHNaSym3]
        go_wp2_with fail
        refine (HCM.out _).mono ?_
        rintro e U1 ⟨rfl, hb1⟩
        have hB1 : Blk U1 g 54 (lbC tl cap N S) := hBd.below hb1 hBd.lt
        have hT1 : Turns (fun z => z = g) V U1 := HT.out.drew.tr (Turns.bel hb1)
        clear hb1
        go_wp2_with fail
        refine ⟨rfl, hB1, partsI_force ?_⟩
        simp only [sgLHNaSym3]
        go_wp2_with fail
        refine ⟨rfl, hB1, partsI_last ?_⟩
        simp only [sgLHNaSym3]
        go_wp2_with fail
        refine ⟨rfl, ?_⟩
        have HD : Hid (_ ∧ _) := ⟨hB1, hT1⟩
        clear hBd hBi hB1 hT1 HCM
        go_wp2_with fail
        go_roundw
        case rel => exact ⟨i, h, hmi, h1, by omega, rfl, by first | rfl | go_num | simp, HLR.out.1, HR.out, HD.out.1, HD.out.2⟩
        case measure => simp [intOf]; omega
      · have hcd : decide (cv < 0) = false := decide_eq_false hcv
        have HR : Hid (h + 1 = a ∨ ¬ LkL (EnS N S id m) (EnS N S id (h + 1 - 1))) := .inr (fun q => hcv (HLC.out.2 q))
        go_wp2_with fail
        refine wp_region_partsS (fun U => Blk U g 54 (lbC tl cap N S)) [([0, 1, 2, 3, 5, 6, 7], 4, true), ([], 8, false), ([], 9, false), ([], 10, false)] [11] [] (by kernel_rfl) (by kernel_rfl) hBd (partsI_yield ?_)
        simp only [sgLHNaSym3]
        go_wp2_with fail
        first
          | refine ⟨rfl, _, .agg #[.int .i64 (N m), .string (S m)], rfl, Or.inl ⟨by rfl, fun U hU => by have hW0 := lb_c0 hU m hmc; have hW1 := lb_c1 hU m hmc; go_simp⟩, partsI_force ?_⟩
          | refine ⟨rfl, .agg #[.int .i64 (N m), .string (S m)], Or.inl ⟨by rfl, fun U hU => by have hW0 := lb_c0 hU m hmc; have hW1 := lb_c1 hU m hmc; go_simp⟩, partsI_force ?_⟩
        simp only [Act.put, sgPHNaSym3]
        simp only [sgLHNaSym3]
        have d0 := lb_c0 hBd h hhc
        have d1 := lb_c1 hBd h hhc
        go_wp2_with fail
        clear d0 d1
        refine ⟨rfl, hBd, partsI_force ?_⟩
        simp only [sgLHNaSym3]
        go_wp2_with fail
        refine (HCM.out _).mono ?_
        rintro e U1 ⟨rfl, hb1⟩
        have hB1 : Blk U1 g 54 (lbC tl cap N S) := hBd.below hb1 hBd.lt
        have hT1 : Turns (fun z => z = g) V U1 := HT.out.drew.tr (Turns.bel hb1)
        clear hb1
        go_wp2_with fail
        refine ⟨rfl, hB1, partsI_force ?_⟩
        simp only [sgLHNaSym3]
        go_wp2_with fail
        refine ⟨rfl, hB1, partsI_last ?_⟩
        simp only [sgLHNaSym3]
        go_wp2_with fail
        refine ⟨rfl, ?_⟩
        have HD : Hid (_ ∧ _) := ⟨hB1, hT1⟩
        clear hBd hBi hB1 hT1 HCM
        go_wp2_with fail
        go_roundw
        case rel => exact ⟨h + 1, j, by omega, by omega, hjb, by first | rfl | go_num | simp, rfl, HR.out, HLR.out.2, HD.out.1, HD.out.2⟩
        case measure => simp [intOf]; omega
    · have q1 : ¬ ((i : Int) < (j : Int)) := by omega
      obtain rfl : i = j := by omega
      have HB0 : Hid (Blk wr g 54 (lbC tl cap N S)) := hBi
      clear hBi
      go_wp2_with fail
      go_loopw [17] (fun v17 wr => Hid (∃ (k : Nat), i ≤ k ∧ k ≤ m ∧ v17 = .int .i64 (k : Int) ∧ Blk wr g 54 (lbC tl cap (roF N k m (m + 1)) (roF S k m (m + 1))) ∧ Turns (fun z => z = g) V wr)) (fun v17 _ => (intOf v17).toNat)
      case atStart => exact ⟨m, hjb, Nat.le_refl _, rfl, by rw [ro_self, ro_self]; exact HB0.out, HT.out⟩
      case round =>
        obtain ⟨k, hak, hki, rfl, hBk, hTk⟩ := Hid.out hrel
        have HT2' : Hid (Turns (fun z => z = g) V wr) := hTk
        clear hrel hTk HB0 HT
        obtain ⟨N2, hN2⟩ : ∃ N2, roF N k m (m + 1) = N2 := ⟨_, rfl⟩
        obtain ⟨S2, hS2⟩ : ∃ S2, roF S k m (m + 1) = S2 := ⟨_, rfl⟩
        have HNS : Hid (roF N k m (m + 1) = N2 ∧ roF S k m (m + 1) = S2) := ⟨hN2, hS2⟩
        rw [hN2, hS2] at hBk
        clear hN2 hS2
        by_cases hk1 : i < k
        · have q2 : (i : Int) < (k : Int) := by omega
          obtain ⟨k1, hk1e⟩ : ∃ q, k = q + 1 := ⟨k - 1, by omega⟩
          have fk : IntKind.i64.wrap ((k : Int) - 1) = (k1 : Int) := by rw [HW.out _ (by omega) (by omega)]; omega
          have hkc : k < cap := by omega
          have hk1c : k1 < cap := by omega
          have hkn : (k : Int) < (n : Int) := by omega
          have hk1n : (k1 : Int) < (n : Int) := by omega
          have hk0 : (0 : Int) ≤ (k : Int) := by omega
          have hk10 : (0 : Int) ≤ (k1 : Int) := by omega
          have hne : k1 ≠ k := by omega
          have HK1 : Hid (k = k1 + 1) := hk1e
          clear hk1e
          have hBd : Blk wr.drew g 54 (lbC tl cap N2 S2) := hBk.drew
          have HT2 : Hid (Turns (fun z => z = g) V wr.drew) := HT2'.out.drew
          clear hBk HT2'
          go_wp2_with fail
          refine wp_region_partsS (fun U => ∃ N3 S3, N3 k1 = N2 k1 ∧ S3 k1 = S2 k1 ∧ Blk U g 54 (lbC tl cap N3 S3)) [([0, 1, 2, 3, 5, 6, 10, 11, 12], 4, true), ([], 7, true), ([8], 9, true), ([], 13, false), ([14], 15, false)] [] [16, 17] (by kernel_rfl) (by kernel_rfl) ⟨N2, S2, rfl, rfl, hBd⟩ (partsI_yield ?_)
          simp only [sgLHNaSym3]
          generalize wr.drew = U2 at *
          go_wp2_with fail
          first
            | refine ⟨rfl, _, .int .i64 (k1 : Int), rfl, Or.inl ⟨by rfl, fun U hU => by go_simp⟩, partsI_yield ?_⟩
            | refine ⟨rfl, .int .i64 (k1 : Int), Or.inl ⟨by rfl, fun U hU => by go_simp⟩, partsI_yield ?_⟩
          simp only [Act.put, sgPHNaSym3]
          simp only [sgLHNaSym3]
          go_wp2_with fail
          first
            | refine ⟨rfl, _, .int .i64 (k1 : Int), rfl, Or.inl ⟨by rfl, fun U hU => by go_simp⟩, partsI_yield ?_⟩
            | refine ⟨rfl, .int .i64 (k1 : Int), Or.inl ⟨by rfl, fun U hU => by go_simp⟩, partsI_yield ?_⟩
          simp only [Act.put, sgPHNaSym3]
          simp only [sgLHNaSym3]
          go_wp2_with fail
          first
            | refine ⟨rfl, _, .agg #[.int .i64 (N2 k1), .string (S2 k1)], rfl, Or.inl ⟨by rfl, fun U hU => by obtain ⟨N3, S3, q1, q2, hU⟩ := hU; have hW0 := lb_c0 hU k1 hk1c; have hW1 := lb_c1 hU k1 hk1c; rw [q1] at hW0; rw [q2] at hW1; go_simp⟩, partsI_force ?_⟩
            | refine ⟨rfl, .agg #[.int .i64 (N2 k1), .string (S2 k1)], Or.inl ⟨by rfl, fun U hU => by obtain ⟨N3, S3, q1, q2, hU⟩ := hU; have hW0 := lb_c0 hU k1 hk1c; have hW1 := lb_c1 hU k1 hk1c; rw [q1] at hW0; rw [q2] at hW1; go_simp⟩, partsI_force ?_⟩
          simp only [Act.put, sgPHNaSym3]
          simp only [sgLHNaSym3]
          have d0 := lb_c0 hBd k hkc
          have d1 := lb_c1 hBd k hkc
          go_wp2_with fail
          refine ⟨rfl, ⟨N2, S2, rfl, rfl, hBd⟩, partsI_force ?_⟩
          simp only [sgLHNaSym3]
          have f0 : U2.frozen? ⟨g, k * 2, none⟩ = false := hBd.frozen _
          have f1 : U2.frozen? ⟨g, k * 2 + 1, none⟩ = false := hBd.frozen _
          have kk1 := lb_put hBd k hkc (N2 k1) (S2 k1)
          have kk2 := lb_put kk1 k1 hk1c (N2 k) (S2 k)
          go_wp2_with fail
          refine ⟨rfl, ⟨_, _, by unfold upN; rw [if_neg hne], by unfold upS; rw [if_neg hne], kk1⟩, partsI_last ?_⟩
          simp only [sgLHNaSym3]
          clear d0 d1 f0 f1
          have d0 := lb_c0 kk1 k1 hk1c
          have d1 := lb_c1 kk1 k1 hk1c
          have f0 : ((U2.setCell ⟨g, k * 2, none⟩ (.int .i64 (N2 k1))).setCell ⟨g, k * 2 + 1, none⟩ (.string (S2 k1))).frozen? ⟨g, k1 * 2, none⟩ = false := kk1.frozen _
          have f1 : ((U2.setCell ⟨g, k * 2, none⟩ (.int .i64 (N2 k1))).setCell ⟨g, k * 2 + 1, none⟩ (.string (S2 k1))).frozen? ⟨g, k1 * 2 + 1, none⟩ = false := kk1.frozen _
          have HE : Hid (Blk ((((U2.setCell ⟨g, k * 2, none⟩ (.int .i64 (N2 k1))).setCell ⟨g, k * 2 + 1, none⟩ (.string (S2 k1))).setCell ⟨g, k1 * 2, none⟩ (.int .i64 (N2 k))).setCell ⟨g, k1 * 2 + 1, none⟩ (.string (S2 k))) g 54 (lbC tl cap (upN (upN N2 k (N2 k1)) k1 (N2 k)) (upS (upS S2 k (S2 k1)) k1 (S2 k))) ∧ Turns (fun z => z = g) V ((((U2.setCell ⟨g, k * 2, none⟩ (.int .i64 (N2 k1))).setCell ⟨g, k * 2 + 1, none⟩ (.string (S2 k1))).setCell ⟨g, k1 * 2, none⟩ (.int .i64 (N2 k))).setCell ⟨g, k1 * 2 + 1, none⟩ (.string (S2 k)))) := ⟨kk2, (((HT2.out.tr (Turns.cell _ _ _ _ rfl)).tr (Turns.cell _ _ _ _ rfl)).tr (Turns.cell _ _ _ _ rfl)).tr (Turns.cell _ _ _ _ rfl)⟩
          clear kk1 kk2 hBd
          go_wp2_with fail
          refine ⟨rfl, ?_⟩
          clear d0 d1 f0 f1
          go_wp2_with fail
          go_roundw
          case rel =>
            have hkk := HK1.out
            refine ⟨k1, by omega, by omega, by first | rfl | go_num | simp, ?_, HE.out.2⟩
            have hk := HE.out.1
            have e1 : upN (upN N2 k (N2 k1)) k1 (N2 k) = roF N k1 m (m + 1) := funext fun p => by
              have := ro_down N m k1 (by omega) p
              rw [← this, ← HK1.out, HNS.out.1]
              rfl
            have e2 : upS (upS S2 k (S2 k1)) k1 (S2 k) = roF S k1 m (m + 1) := funext fun p => by
              have := ro_down S m k1 (by omega) p
              rw [← this, ← HK1.out, HNS.out.2]
              rfl
            rw [e1, e2] at hk
            exact hk
          case measure => have := HK1.out; simp [intOf]; omega
        · have q2 : ¬ ((i : Int) < (k : Int)) := by omega
          have HB2 : Hid (Blk wr g 54 (lbC tl cap N2 S2)) := hBk
          obtain rfl : i = k := by omega
          clear hBk
          go_wp2_with fail
          (try simp only [Exit.inBlock, Exit.then])
          refine bodyPost_ret (results_none rfl _ _ _) rfl ?_
          refine ⟨rfl, roF id i m (m + 1), (ro_pm i m (m + 1) (by omega) (by omega)).wide hmi (by rw [HBM.out]; omega), ?_, ?_, HT2'.out⟩
          · have hk := HB2.out
            rw [← HNS.out.1, ← HNS.out.2, ro_at N, ro_at S] at hk
            exact hk
          · have := so_down lk_T lk_A (f := EnS N S id) (a := a) (m := m) (i := i) ⟨hmi, hki⟩ HSO.out HLR.out.1 HLR.out.2
            rw [en_ro] at this
            rw [HBM.out]
            exact this
end Go.Proofs.YtimjggkdpmgpjaaGreatDoor

namespace Go.Proofs.YtimjggkdpmgpjaaGreatDoor
open Go Go.RowKit Go.Nam
set_option linter.unusedVariables false
set_option linter.unusedSimpArgs false
theorem ro_left {α : Type} (f : Nat → α) (m b : Nat) : roF f m m b = f := by
  funext p
  rw [congrFun (ro_at f m m b) p]
  show f (roF id m m b p) = f p
  congr 1
  rcases ro_cases m m b p with ⟨c1, c2, c3⟩ | ⟨c1, c2, c3⟩ | ⟨c1, c3⟩ <;> omega
theorem ro_right {α : Type} (f : Nat → α) (a m : Nat) : roF f a m m = f := by
  funext p
  rw [congrFun (ro_at f a m m) p]
  show f (roF id a m m p) = f p
  congr 1
  rcases ro_cases a m m p with ⟨c1, c2, c3⟩ | ⟨c1, c2, c3⟩ | ⟨c1, c3⟩ <;> omega
/-- what is asked of the calls for the halves -/
def SymIH (tl : Array Value) (g n c cap k : Nat) : Prop := ∀ (a' m' b' : Nat) (N' : Nat → Int) (S' : Nat → ByteArray) (V' : World), b' - a' < k → a' < m' → m' < b' → b' ≤ n → Blk V' g 54 (lbC tl cap N' S') → So LkL (EnS N' S' id) a' m' → So LkL (EnS N' S' id) m' b' → Calls Tryz.prog 192 #[.slice (some ⟨g, 0, none⟩) n c, .int .i64 (a' : Int), .int .i64 (m' : Int), .int .i64 (b' : Int), fvS] V' fun e w' => e = .returned (.tuple #[]) ∧ ∃ s, Pm a' b' s ∧ Blk w' g 54 (lbC tl cap (fun p => N' (s p)) (fun p => S' (s p))) ∧ So LkL (EnS N' S' s) a' b' ∧ Turns (fun z => z = g) V' w'
set_option maxRecDepth 100000 in
set_option maxHeartbeats 8000000 in
theorem sym_gen (tl : Array Value) (g n c cap : Nat) (hnc : n ≤ cap) (hn : n ≤ 1000000000000000) (a m b : Nat) (N : Nat → Int) (S : Nat → ByteArray) (V : World) (ham : a < m) (hmb : m < b) (hma : m ≠ a + 1) (hbm : b ≠ m + 1) (hbn : b ≤ n) (hB : Blk V g 54 (lbC tl cap N S)) (h1 : So LkL (EnS N S id) a m) (h2 : So LkL (EnS N S id) m b) (hIH : SymIH tl g n c cap (b - a)) :
    Calls Tryz.prog 192 #[.slice (some ⟨g, 0, none⟩) n c, .int .i64 (a : Int), .int .i64 (m : Int), .int .i64 (b : Int), fvS] V fun e w' => e = .returned (.tuple #[]) ∧ ∃ s, Pm a b s ∧ Blk w' g 54 (lbC tl cap (fun p => N (s p)) (fun p => S (s p))) ∧ So LkL (EnS N S s) a b ∧ Turns (fun z => z = g) V w' := by
  have nb : (n : Int) ≤ 1000000000000000 := by omega
  have H0 : Hid (Blk V g 54 (lbC tl cap N S)) := hB
  have HSO : Hid (So LkL (EnS N S id) a m ∧ So LkL (EnS N S id) m b) := ⟨h1, h2⟩
  have HIH : Hid (SymIH tl g n c cap (b - a)) := hIH
  have HW : Hid (∀ z : Int, -9000000000000000 ≤ z → z ≤ 9000000000000000 → IntKind.i64.wrap z = z) := fun z h1 h2 => by simp [IntKind.wrap, IntKind.signed, IntKind.bits]; omega
  have HRO : Hid (∀ (x y : Nat) (W : World), x < m → m < y → y ≤ n → Blk W g 54 (lbC tl cap N S) → Calls Tryz.prog 209 #[.slice (some ⟨g, 0, none⟩) n c, .int .i64 (x : Int), .int .i64 (m : Int), .int .i64 (y : Int), fvS] W fun e w' => e = .returned (.tuple #[]) ∧ Blk w' g 54 (lbC tl cap (roF N x m y) (roF S x m y)) ∧ Turns (fun z => z = g) W w') := fun x y W k1 k2 k3 k4 => rotate_any tl g n c cap x m y N S k1 k2 k3 hnc hn fvS W k4
  obtain ⟨ma, hmae⟩ : ∃ q : Nat, m = a + q := ⟨m - a, by omega⟩
  have f1 : IntKind.i64.wrap ((m : Int) - (a : Int)) = (ma : Int) := by rw [HW.out _ (by omega) (by omega)]; omega
  have f1n : ((ma : Int) == 1) = false := by rw [beq_eq_false_iff_ne]; omega
  have f1m : ¬ ((ma : Int) = 1) := by omega
  obtain ⟨bm, hbme⟩ : ∃ q : Nat, b = m + q := ⟨b - m, by omega⟩
  have f2 : IntKind.i64.wrap ((b : Int) - (m : Int)) = (bm : Int) := by rw [HW.out _ (by omega) (by omega)]; omega
  have f2n : ((bm : Int) == 1) = false := by rw [beq_eq_false_iff_ne]; omega
  have f2m : ¬ ((bm : Int) = 1) := by omega
  obtain ⟨ab, habe⟩ : ∃ q : Nat, q = a + b := ⟨_, rfl⟩
  have f3 : IntKind.i64.wrap ((a : Int) + (b : Int)) = (ab : Int) := by rw [HW.out _ (by omega) (by omega)]; omega
  have f4 : IntKind.u64.wrap (ab : Int) = (ab : Int) := by rw [IntKind.wrap_u64]; omega
  obtain ⟨d, hd⟩ : ∃ q : Nat, q = ab / 2 := ⟨_, rfl⟩
  have f5 : (ab : Int) / 2 = (d : Int) := by omega
  have f6 : IntKind.i64.wrap (d : Int) = (d : Int) := HW.out _ (by omega) (by omega)
  have HD : Hid (d = (a + b) / 2) := by show _ = _; omega
  have hd1 : a < d := by omega
  have hd2 : d < b := by omega
  obtain ⟨dn, hdn⟩ : ∃ q : Nat, q = d + m := ⟨_, rfl⟩
  have f7 : IntKind.i64.wrap ((d : Int) + (m : Int)) = (dn : Int) := by rw [HW.out _ (by omega) (by omega)]; omega
  obtain ⟨pp, hpp⟩ : ∃ q : Nat, q = dn - 1 := ⟨_, rfl⟩
  have f8 : IntKind.i64.wrap ((dn : Int) - 1) = (pp : Int) := by rw [HW.out _ (by omega) (by omega)]; omega
  have HPP : Hid (pp + 1 = d + m ∧ dn = d + m) := ⟨by omega, hdn⟩
  obtain ⟨lo, hi, hlo⟩ : ∃ lo hi : Nat, (m ≤ d ∧ lo = a ∧ hi = m) ∨ (d < m ∧ lo = d + m - b ∧ hi = d) := by
    by_cases h : m ≤ d
    · exact ⟨a, m, .inl ⟨h, rfl, rfl⟩⟩
    · exact ⟨d + m - b, d, .inr ⟨by omega, rfl, rfl⟩⟩
  have HLO : Hid ((m ≤ d ∧ lo = a ∧ hi = m) ∨ (d < m ∧ lo = d + m - b ∧ hi = d)) := hlo
  have hlohi : lo ≤ hi := by omega
  have hhic : hi ≤ n := by omega
  have HBND : Hid (∀ x, lo ≤ x → x < hi → x ≤ pp ∧ pp - x < n) := fun x k1 k2 => by omega
  have HLOW : Hid (d < m → IntKind.i64.wrap ((dn : Int) - (b : Int)) = (lo : Int)) := fun h => by rw [HW.out _ (by omega) (by omega)]; omega
  clear hB h1 h2 hIH hmae hbme habe hd hdn hpp hma hbm
  go_enter Tryz.func192, Tryz.ntmps192
  go_upto_if 140 with fail
  go_cut [20, 21] (fun v20 v21 wx => v20 = .int .i64 (lo : Int) ∧ v21 = .int .i64 (hi : Int) ∧ V = wx)
  case first =>
    by_cases hmd : d < m
    · have q : (d : Int) < (m : Int) := by omega
      have e1 : hi = d := by omega
      have HE1 : Hid (hi = d) := e1
      have fl := HLOW.out hmd
      clear hlo e1
      go_wp2_with fail
      go_meet
      exact ⟨rfl, by rw [HE1.out], rfl⟩
    · have q : ¬ ((d : Int) < (m : Int)) := by omega
      have HE1 : Hid (lo = a ∧ hi = m) := by show _ ∧ _; omega
      clear hlo
      go_wp2_with fail
      go_meet
      exact ⟨by rw [HE1.out.1], by rw [HE1.out.2], rfl⟩
  case rest =>
    obtain ⟨rfl, rfl, rfl⟩ := hcut
    clear HLOW hlo f1 f1n f1m f2 f2n f2m f3 f4 f5 f6 f7
    as_aux_lemma =>
    go_wp2_with fail
    go_loopw [20, 21] (fun v20 v21 wr => Hid (∃ (i j : Nat), lo ≤ i ∧ i ≤ j ∧ j ≤ hi ∧ v20 = .int .i64 (i : Int) ∧ v21 = .int .i64 (j : Int) ∧ (i = lo ∨ ¬ LkL (EnS N S id (d + m - i)) (EnS N S id (i - 1))) ∧ (j = hi ∨ LkL (EnS N S id (d + m - 1 - j)) (EnS N S id j)) ∧ Blk wr g 54 (lbC tl cap N S) ∧ Turns (fun z => z = g) V wr)) (fun v20 v21 _ => (intOf v21).toNat - (intOf v20).toNat)
    case atStart => exact ⟨lo, hi, Nat.le_refl _, hlohi, Nat.le_refl _, rfl, rfl, .inl rfl, .inl rfl, H0.out, Turns.bel (Below.refl _ _)⟩
    case round =>
      obtain ⟨i, j, hmi, hij0, hjb, rfl, rfl, hl, hr, hBi, hTi⟩ := Hid.out hrel
      have HLR : Hid ((i = lo ∨ ¬ LkL (EnS N S id (d + m - i)) (EnS N S id (i - 1))) ∧ (j = hi ∨ LkL (EnS N S id (d + m - 1 - j)) (EnS N S id j))) := ⟨hl, hr⟩
      have HT : Hid (Turns (fun z => z = g) V wr) := hTi
      clear hrel hl hr hTi H0 f8
      by_cases hij1 : i < j
      · have q1 : (i : Int) < (j : Int) := by omega
        obtain ⟨ij, hij⟩ : ∃ q : Nat, q = i + j := ⟨_, rfl⟩
        have fij : IntKind.i64.wrap ((i : Int) + (j : Int)) = (ij : Int) := by rw [HW.out _ (by omega) (by omega)]; omega
        obtain ⟨h, hh⟩ : ∃ q : Nat, q = ij / 2 := ⟨_, rfl⟩
        have fu : IntKind.u64.wrap (ij : Int) = (ij : Int) := by rw [IntKind.wrap_u64]; omega
        have fh : (ij : Int) / 2 = (h : Int) := by omega
        have fhw : IntKind.i64.wrap (h : Int) = (h : Int) := HW.out _ (by omega) (by omega)
        have fh1 : IntKind.i64.wrap ((h : Int) + 1) = ((h + 1 : Nat) : Int) := by rw [HW.out _ (by omega) (by omega)]; omega
        have h1 : i ≤ h := by omega
        have h2 : h < j := by omega
        have hbn2 := HBND.out h (by omega) (by omega)
        obtain ⟨x, hx⟩ : ∃ q : Nat, q = pp - h := ⟨_, rfl⟩
        have fx : IntKind.i64.wrap ((pp : Int) - (h : Int)) = (x : Int) := by have := HPP.out; rw [HW.out _ (by omega) (by omega)]; omega
        have HX : Hid (x = d + m - 1 - h ∧ x = d + m - (h + 1)) := by have := HPP.out; show _ ∧ _; omega
        have hxc : x < cap := by omega
        have hxn : (x : Int) < (n : Int) := by omega
        have hx0 : (0 : Int) ≤ (x : Int) := by omega
        have hhc : h < cap := by omega
        have hhn : (h : Int) < (n : Int) := by omega
        have hh0 : (0 : Int) ≤ (h : Int) := by omega
        clear hij hh hx hbn2
        have HCM : Hid (∀ w : World, Calls Tryz.prog 138 #[.agg #[.int .i64 (N x), .string (S x)], .agg #[.int .i64 (N h), .string (S h)]] w fun e w' => e = .returned (.int .i64 (lcC (N x, S x) (N h, S h))) ∧ Below w.heap.size w w') := fun w => sortCmp_any _ _ _ _ w
        have HLC : Hid (lcC (N x, S x) (N h, S h) < 0 ↔ LkL (EnS N S id x) (EnS N S id h)) := Iff.rfl
        generalize lcC (N x, S x) (N h, S h) = cv at *
        have hBd : Blk wr.drew g 54 (lbC tl cap N S) := hBi.drew
        by_cases hcv : cv < 0
        · have hcd : decide (cv < 0) = true := decide_eq_true hcv
          have HR : Hid (h = hi ∨ LkL (EnS N S id (d + m - 1 - h)) (EnS N S id h)) := .inr (by rw [← HX.out.1]; exact HLC.out.1 hcv)
          as_aux_lemma =>
          go_wp2_with fail
          refine wp_region_partsS (fun U => Blk U g 54 (lbC tl cap N S)) [([0, 1, 2, 3, 7, 8, 9], 4, true), ([5], 6, true), ([], 10, false), ([], 11, false), ([], 12, false)] [13] [] (by kernel_rfl) (by kernel_rfl) hBd (partsI_yield ?_)
          simp only [sgLHNaSym3]
          go_wp2_with fail
          first
            | refine ⟨rfl, _, .int .i64 (x : Int), rfl, Or.inl ⟨by rfl, fun U hU => by go_simp⟩, partsI_yield ?_⟩
            | refine ⟨rfl, .int .i64 (x : Int), Or.inl ⟨by rfl, fun U hU => by go_simp⟩, partsI_yield ?_⟩
          simp only [Act.put, sgPHNaSym3]
          simp only [sgLHNaSym3]
          go_wp2_with fail
          first
            | refine ⟨rfl, _, .agg #[.int .i64 (N x), .string (S x)], rfl, Or.inl ⟨by rfl, fun U hU => by have hW0 := lb_c0 hU x hxc; have hW1 := lb_c1 hU x hxc; go_simp⟩, partsI_force ?_⟩
            | refine ⟨rfl, .agg #[.int .i64 (N x), .string (S x)], Or.inl ⟨by rfl, fun U hU => by have hW0 := lb_c0 hU x hxc; have hW1 := lb_c1 hU x hxc; go_simp⟩, partsI_force ?_⟩
          simp only [Act.put, sgPHNaSym3]
          simp only [sgLHNaSym3]
          have d0 := lb_c0 hBd h hhc
          have d1 := lb_c1 hBd h hhc
          go_wp2_with fail
          clear d0 d1
          refine ⟨rfl, hBd, partsI_force ?_⟩
          simp only [sgLHNaSym3]
          go_wp2_with fail
          refine (HCM.out _).mono ?_
          rintro e U1 ⟨rfl, hb1⟩
          have hB1 : Blk U1 g 54 (lbC tl cap N S) := hBd.below hb1 hBd.lt
          have hT1 : Turns (fun z => z = g) V U1 := HT.out.drew.tr (Turns.bel hb1)
          clear hb1
          go_wp2_with fail
          refine ⟨rfl, hB1, partsI_force ?_⟩
          simp only [sgLHNaSym3]
          go_wp2_with fail
          refine ⟨rfl, hB1, partsI_last ?_⟩
          simp only [sgLHNaSym3]
          go_wp2_with fail
          refine ⟨rfl, ?_⟩
          have HDD : Hid (_ ∧ _) := ⟨hB1, hT1⟩
          clear hBd hBi hB1 hT1 HCM
          go_wp2_with fail
          go_roundw
          case rel => exact ⟨i, h, hmi, h1, by omega, rfl, by first | rfl | go_num | simp, HLR.out.1, HR.out, HDD.out.1, HDD.out.2⟩
          case measure => simp [intOf]; omega
        · have hcd : decide (cv < 0) = false := decide_eq_false hcv
          have HR : Hid (h + 1 = lo ∨ ¬ LkL (EnS N S id (d + m - (h + 1))) (EnS N S id (h + 1 - 1))) := .inr (by rw [← HX.out.2]; exact fun q => hcv (HLC.out.2 q))
          as_aux_lemma =>
          go_wp2_with fail
          refine wp_region_partsS (fun U => Blk U g 54 (lbC tl cap N S)) [([0, 1, 2, 3, 7, 8, 9], 4, true), ([5], 6, true), ([], 10, false), ([], 11, false), ([], 12, false)] [13] [] (by kernel_rfl) (by kernel_rfl) hBd (partsI_yield ?_)
          simp only [sgLHNaSym3]
          go_wp2_with fail
          first
            | refine ⟨rfl, _, .int .i64 (x : Int), rfl, Or.inl ⟨by rfl, fun U hU => by go_simp⟩, partsI_yield ?_⟩
            | refine ⟨rfl, .int .i64 (x : Int), Or.inl ⟨by rfl, fun U hU => by go_simp⟩, partsI_yield ?_⟩
          simp only [Act.put, sgPHNaSym3]
          simp only [sgLHNaSym3]
          go_wp2_with fail
          first
            | refine ⟨rfl, _, .agg #[.int .i64 (N x), .string (S x)], rfl, Or.inl ⟨by rfl, fun U hU => by have hW0 := lb_c0 hU x hxc; have hW1 := lb_c1 hU x hxc; go_simp⟩, partsI_force ?_⟩
            | refine ⟨rfl, .agg #[.int .i64 (N x), .string (S x)], Or.inl ⟨by rfl, fun U hU => by have hW0 := lb_c0 hU x hxc; have hW1 := lb_c1 hU x hxc; go_simp⟩, partsI_force ?_⟩
          simp only [Act.put, sgPHNaSym3]
          simp only [sgLHNaSym3]
          have d0 := lb_c0 hBd h hhc
          have d1 := lb_c1 hBd h hhc
          go_wp2_with fail
          clear d0 d1
          refine ⟨rfl, hBd, partsI_force ?_⟩
          simp only [sgLHNaSym3]
          go_wp2_with fail
          refine (HCM.out _).mono ?_
          rintro e U1 ⟨rfl, hb1⟩
          have hB1 : Blk U1 g 54 (lbC tl cap N S) := hBd.below hb1 hBd.lt
          have hT1 : Turns (fun z => z = g) V U1 := HT.out.drew.tr (Turns.bel hb1)
          clear hb1
          go_wp2_with fail
          refine ⟨rfl, hB1, partsI_force ?_⟩
          simp only [sgLHNaSym3]
          go_wp2_with fail
          refine ⟨rfl, hB1, partsI_last ?_⟩
          simp only [sgLHNaSym3]
          go_wp2_with fail
          refine ⟨rfl, ?_⟩
          have HDD : Hid (_ ∧ _) := ⟨hB1, hT1⟩
          clear hBd hBi hB1 hT1 HCM
          go_wp2_with fail
          go_roundw
          case rel => exact ⟨h + 1, j, by omega, by omega, hjb, by first | rfl | go_num | simp, rfl, HR.out, HLR.out.2, HDD.out.1, HDD.out.2⟩
          case measure => simp [intOf]; omega
      · have q1 : ¬ ((i : Int) < (j : Int)) := by omega
        obtain rfl : i = j := by omega
        have HB0 : Hid (Blk wr g 54 (lbC tl cap N S)) := hBi
        obtain ⟨g1, g2, g3, g4, g5, g6, s1, s2, s3, s4, hx⟩ := sym_cut lk_T lk_A (f := EnS N S id) ham hmb HD.out HLO.out HSO.out.1 HSO.out.2 ⟨hmi, hjb⟩ HLR.out.1 HLR.out.2
        obtain ⟨en, hen⟩ : ∃ q : Nat, q = d + m - i := ⟨_, rfl⟩
        rw [← hen] at g4 g5 g6 s1 s2 s3 s4 hx
        rw [en_ro] at s1 s2 s3 s4 hx
        have fe : IntKind.i64.wrap ((dn : Int) - (i : Int)) = (en : Int) := by have := HPP.out; rw [HW.out _ (by omega) (by omega)]; omega
        have hse : i < d ↔ m < en := by omega
        have HS : Hid (So LkL (EnS N S (roF id i m en)) a i ∧ So LkL (EnS N S (roF id i m en)) i d ∧ So LkL (EnS N S (roF id i m en)) d en ∧ So LkL (EnS N S (roF id i m en)) en b ∧ Cr LkL (EnS N S (roF id i m en)) a d b) := ⟨s1, s2, s3, s4, hx⟩
        have HPM : Hid (Pm a b (roF id i m en)) := (ro_pm i m en g2 g4).wide g1 g6
        clear s1 s2 s3 s4 hx hBi hen HLR HSO HLO HBND
        as_aux_lemma =>
        go_upto_region 39 with fail
        go_cut [185] (fun v wx => v = .bool (decide (i < m ∧ m < en)) ∧ wr = wx)
        case first =>
          by_cases hc1 : i < m
          · have r1 : (i : Int) < (m : Int) := by omega
            by_cases hc2 : m < en
            · have r2 : (m : Int) < (en : Int) := by omega
              have e : decide (i < m ∧ m < en) = true := decide_eq_true ⟨hc1, hc2⟩
              go_wp2_with fail
              go_meet
              exact ⟨by rw [e], rfl⟩
            · have r2 : ¬ ((m : Int) < (en : Int)) := by omega
              have e : decide (i < m ∧ m < en) = false := decide_eq_false fun h => hc2 h.2
              go_wp2_with fail
              go_meet
              exact ⟨by rw [e], rfl⟩
          · have r1 : ¬ ((i : Int) < (m : Int)) := by omega
            have e : decide (i < m ∧ m < en) = false := decide_eq_false fun h => hc1 h.1
            go_wp2_with fail
            go_meet
            exact ⟨by rw [e], rfl⟩
        case rest =>
        obtain ⟨rfl, rfl⟩ := hcut
        obtain ⟨bA, hbA⟩ : ∃ x, x = decide (i < m ∧ m < en) := ⟨_, rfl⟩
        have HBA : Hid (bA = decide (i < m ∧ m < en)) := hbA
        rw [← hbA]
        clear hbA
        as_aux_lemma =>
        go_upto_if 185 with fail
        go_cut [20] (fun v20 wx => v20 = .int .i64 (i : Int) ∧ Hid (Blk wx g 54 (lbC tl cap (fun p => N (roF id i m en p)) (fun p => S (roF id i m en p))) ∧ Turns (fun z => z = g) V wx))
        case first =>
          cases bA
          · have hno := of_decide_eq_false HBA.out.symm
            have HF : Hid (Blk wr g 54 (lbC tl cap (fun p => N (roF id i m en p)) (fun p => S (roF id i m en p)))) := by
              show Blk _ _ _ _
              by_cases hc1 : i < m
              · have e2 : en = m := by omega
                rw [e2, ro_right id i m]; exact HB0.out
              · have e2 : i = m := by omega
                rw [e2, ro_left id m en]; exact HB0.out
            clear hno HBA
            go_wp2_with fail
            go_meet
            exact ⟨rfl, HF.out, HT.out⟩
          · obtain ⟨hc1, hc2⟩ := of_decide_eq_true HBA.out.symm
            have HC : Hid (Calls _ _ _ _ _) := HRO.out i en wr hc1 hc2 (by omega) HB0.out
            clear HBA
            go_wp2_with fail
            refine HC.out.mono ?_
            rintro e w2 ⟨rfl, hb2, ht2⟩
            have HF : Hid (_ ∧ _) := ⟨hb2, HT.out.tr ht2⟩
            clear hb2 ht2 HC
            go_wp2_with fail
            go_meet
            refine ⟨rfl, ?_, HF.out.2⟩
            have := HF.out.1
            rw [ro_at N, ro_at S] at this
            exact this
        case rest =>
          obtain ⟨rfl, hf⟩ := hcut
          have HF : Hid (Blk wc g 54 (lbC tl cap (fun p => N (roF id i m en p)) (fun p => S (roF id i m en p))) ∧ Turns (fun z => z = g) V wc) := hf.out
          clear hf HB0 HT HRO HBA bA
          generalize roF id i m en = rho at *
          as_aux_lemma =>
          go_upto_region 41 with fail
          go_cut [199] (fun v wx => v = .bool (decide (a < i ∧ i < d)) ∧ wc = wx)
          case first =>
            by_cases hc1 : a < i
            · have r1 : (a : Int) < (i : Int) := by omega
              by_cases hc2 : i < d
              · have r2 : (i : Int) < (d : Int) := by omega
                have e : decide (a < i ∧ i < d) = true := decide_eq_true ⟨hc1, hc2⟩
                go_wp2_with fail
                go_meet
                exact ⟨by rw [e], rfl⟩
              · have r2 : ¬ ((i : Int) < (d : Int)) := by omega
                have e : decide (a < i ∧ i < d) = false := decide_eq_false fun h => hc2 h.2
                go_wp2_with fail
                go_meet
                exact ⟨by rw [e], rfl⟩
            · have r1 : ¬ ((a : Int) < (i : Int)) := by omega
              have e : decide (a < i ∧ i < d) = false := decide_eq_false fun h => hc1 h.1
              go_wp2_with fail
              go_meet
              exact ⟨by rw [e], rfl⟩
          case rest =>
          obtain ⟨rfl, rfl⟩ := hcut
          obtain ⟨bA, hbA⟩ : ∃ x, x = decide (a < i ∧ i < d) := ⟨_, rfl⟩
          have HBA : Hid (bA = decide (a < i ∧ i < d)) := hbA
          rw [← hbA]
          clear hbA
          as_aux_lemma =>
          go_upto_if 199 with fail
          go_cut [20] (fun v20 wx => v20 = .int .i64 (i : Int) ∧ Hid (∃ s, Pm a d s ∧ Blk wx g 54 (lbC tl cap (fun p => N (rho (s p))) (fun p => S (rho (s p)))) ∧ So LkL (EnS N S (fun p => rho (s p))) a d ∧ Turns (fun z => z = g) V wx))
          case first =>
            cases bA
            · have hno := of_decide_eq_false HBA.out.symm
              have HG : Hid (So LkL (EnS N S rho) a d) := by
                show So _ _ _ _
                by_cases hc1 : a < i
                · have := HS.out.1; rwa [show i = d by omega] at this
                · have := HS.out.2.1; rwa [show i = a by omega] at this
              clear hno HBA
              go_wp2_with fail
              go_meet
              exact ⟨rfl, id, Pm.refl _ _, HF.out.1, HG.out, HF.out.2⟩
            · obtain ⟨hc1, hc2⟩ := of_decide_eq_true HBA.out.symm
              have HC : Hid (Calls _ _ _ _ _) := HIH.out a i d (fun p => N (rho p)) (fun p => S (rho p)) wc (by omega) hc1 hc2 (by omega) HF.out.1 HS.out.1 HS.out.2.1
              clear HBA
              go_wp2_with fail
              refine HC.out.mono ?_
              rintro e w2 ⟨rfl, s, hs, hb2, hso, ht2⟩
              have HG : Hid (_ ∧ _ ∧ _ ∧ _) := ⟨hs, hb2, hso, HF.out.2.tr ht2⟩
              clear hs hb2 hso ht2 HC
              go_wp2_with fail
              go_meet
              exact ⟨rfl, s, HG.out.1, HG.out.2.1, HG.out.2.2.1, HG.out.2.2.2⟩
          case rest =>
            obtain ⟨rfl, hf2⟩ := hcut
            obtain ⟨s, hs1, hs2, hs3, hs4⟩ := hf2.out
            have HG : Hid (_ ∧ _ ∧ _ ∧ _) := ⟨hs1, hs2, hs3, hs4⟩
            clear hf2 hs1 hs2 hs3 hs4 HF HBA bA
            as_aux_lemma =>
            by_cases hc1 : d < en
            · have r1 : (d : Int) < (en : Int) := by omega
              by_cases hc2 : en < b
              · have r2 : (en : Int) < (b : Int) := by omega
                have HC : Hid (Calls _ _ _ _ _) := HIH.out d en b (fun p => N (rho (s p))) (fun p => S (rho (s p))) _ (by omega) hc1 hc2 hbn HG.out.2.1 (HS.out.2.2.1.apart HG.out.1 (.inr (Nat.le_refl _))) (HS.out.2.2.2.1.apart HG.out.1 (.inr (by omega)))
                go_wp2_with fail
                refine HC.out.mono ?_
                rintro e w2 ⟨rfl, t, ht, hb2, hso, ht2⟩
                have HE : Hid (_ ∧ _ ∧ _ ∧ _) := ⟨ht, hb2, hso, HG.out.2.2.2.tr ht2⟩
                clear ht hb2 hso ht2 HC
                go_wp2_with fail
                go_end0
                exact ⟨rfl, fun p => rho (s (t p)), (HPM.out.comp (HG.out.1.wide (Nat.le_refl _) (by omega))).comp (HE.out.1.wide (by omega) (Nat.le_refl _)), HE.out.2.1, sym_done HG.out.1 HE.out.1 HS.out.2.2.2.2 HG.out.2.2.1 HE.out.2.2.1, HE.out.2.2.2⟩
              · have r2 : ¬ ((en : Int) < (b : Int)) := by omega
                have HE : Hid (So LkL (EnS N S (fun p => rho (s p))) d b) := by
                  have := HS.out.2.2.1.apart HG.out.1 (.inr (Nat.le_refl _))
                  rw [show en = b by omega] at this
                  exact this
                go_wp2_with fail
                go_end0
                exact ⟨rfl, fun p => rho (s p), HPM.out.comp (HG.out.1.wide (Nat.le_refl _) (by omega)), HG.out.2.1, sym_done (t := id) HG.out.1 (Pm.refl _ _) HS.out.2.2.2.2 HG.out.2.2.1 HE.out, HG.out.2.2.2⟩
            · have r1 : ¬ ((d : Int) < (en : Int)) := by omega
              have HE : Hid (So LkL (EnS N S (fun p => rho (s p))) d b) := by
                have := HS.out.2.2.2.1.apart HG.out.1 (.inr (by omega))
                rw [show en = d by omega] at this
                exact this
              go_wp2_with fail
              go_end0
              exact ⟨rfl, fun p => rho (s p), HPM.out.comp (HG.out.1.wide (Nat.le_refl _) (by omega)), HG.out.2.1, sym_done (t := id) HG.out.1 (Pm.refl _ _) HS.out.2.2.2.2 HG.out.2.2.1 HE.out, HG.out.2.2.2⟩
theorem sym_any (tl : Array Value) (g n c cap : Nat) (hnc : n ≤ cap) (hn : n ≤ 1000000000000000) : SymC tl g n c cap fvS LkL := by
  have key : ∀ k, SymIH tl g n c cap k := by
    intro k
    induction k with
    | zero => intro a' m' b' N' S' V' hk; omega
    | succ k ih =>
      intro a m b N S V hk ham hmb hbn hB h1 h2
      by_cases c1 : m = a + 1
      · exact sym_one tl g n c cap hnc hn a m b N S V c1 hmb hbn hB h2
      · by_cases c2 : b = m + 1
        · exact sym_last tl g n c cap hnc hn a m b N S V ham c1 c2 hbn hB h1
        · refine sym_gen tl g n c cap hnc hn a m b N S V ham hmb c1 c2 hbn hB h1 h2 ?_
          intro a' m' b' N' S' V' hk'
          exact ih a' m' b' N' S' V' (by omega)
  intro a m b N S V ham hmb hbn hB h1 h2
  exact key (b - a + 1) a m b N S V (by omega) ham hmb hbn hB h1 h2
end Go.Proofs.YtimjggkdpmgpjaaGreatDoor
