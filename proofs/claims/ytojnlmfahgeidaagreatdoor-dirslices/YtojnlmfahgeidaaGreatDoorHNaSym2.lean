/- A sorted stretch and one entry behind it, merged (slices.symMergeCmpFunc). -/
import Derived.Test.YtojnlmfahgeidaaGreatDoorHNaIns
import Derived.Handy

namespace Go.Proofs.YtojnlmfahgeidaaGreatDoor
theorem sgLHNaSym2 : (∀ (α : Type) (a : α) (l r : List α), (a :: l) ++ r = a :: (l ++ r)) ∧ (∀ (α : Type) (l : List α), [] ++ l = l) ∧ (∀ (α : Type) (l : List α), l ++ [] = l) ∧ (∀ (α β : Type) (f : α → Option β) (a : α) (l : List α), (a :: l).filterMap f = match f a with | none => l.filterMap f | some b => b :: l.filterMap f) ∧ (∀ (α β : Type) (f : α → Option β), [].filterMap f = []) ∧ (∀ (α : Type) (l : List α) (i : Nat), l.toArray[i]? = l[i]?) ∧ (∀ (α : Type) (a : α) (l : List α), (a :: l)[0]? = some a) ∧ (∀ (α : Type) (a : α) (l : List α) (i : Nat), (a :: l)[i + 1]? = l[i]?) :=
  ⟨fun _ _ _ _ => List.cons_append, fun _ _ => List.nil_append _, fun _ _ => List.append_nil _, fun _ _ _ _ _ => List.filterMap_cons, fun _ _ _ => List.filterMap_nil, fun _ _ _ => List.getElem?_toArray, fun _ _ _ => List.getElem?_cons_zero, fun _ _ _ _ => List.getElem?_cons_succ⟩
theorem sgPHNaSym2 : (∀ (α : Type) (l : List α) (i : Nat) (a : α), l.toArray.setIfInBounds i a = (l.set i a).toArray) ∧ (∀ (α : Type) (a b : α) (l : List α), (a :: l).set 0 b = b :: l) ∧ (∀ (α : Type) (a b : α) (l : List α) (i : Nat), (a :: l).set (i + 1) b = a :: l.set i b) :=
  ⟨fun _ _ _ _ => List.setIfInBounds_toArray _ _ _, fun _ _ _ _ => List.set_cons_zero, fun _ _ _ _ _ => List.set_cons_succ⟩
end Go.Proofs.YtojnlmfahgeidaaGreatDoor
namespace Go.Proofs.YtojnlmfahgeidaaGreatDoor
open Go Go.RowKit Go.Nam
set_option linter.unusedVariables false
set_option linter.unusedSimpArgs false
set_option maxRecDepth 100000 in
set_option maxHeartbeats 8000000 in
theorem sym_one (tl : Array Value) (g n c cap : Nat) (hnc : n ≤ cap) (hn : n ≤ 1000000000000000) (a m b : Nat) (N : Nat → Int) (S : Nat → ByteArray) (V : World) (hm : m = a + 1) (hmb : m < b) (hbn : b ≤ n) (hB : Blk V g 36 (lbC tl cap N S)) (h2 : So LkL (EnS N S id) m b) :
    Calls Tryz.prog 242 #[.slice (some ⟨g, 0, none⟩) n c, .int .i64 (a : Int), .int .i64 (m : Int), .int .i64 (b : Int), fvS] V fun e w' => e = .returned (.tuple #[]) ∧ ∃ s, Pm a b s ∧ Blk w' g 36 (lbC tl cap (fun p => N (s p)) (fun p => S (s p))) ∧ So LkL (EnS N S s) a b ∧ Turns (fun z => z = g) V w' := by
  have nb : (n : Int) ≤ 1000000000000000 := by omega
  have H0 : Hid (Blk V g 36 (lbC tl cap N S)) := hB
  have HSO : Hid (So LkL (EnS N S id) (a + 1) b) := by rw [← hm]; exact h2
  have HW : Hid (∀ z : Int, -9000000000000000 ≤ z → z ≤ 9000000000000000 → IntKind.i64.wrap z = z) := fun z h1 h2 => by simp [IntKind.wrap, IntKind.signed, IntKind.bits]; omega
  have HM : Hid (m = a + 1) := hm
  have f1 : IntKind.i64.wrap ((m : Int) - (a : Int)) = 1 := by rw [HW.out _ (by omega) (by omega)]; omega
  have ham : a < m := by omega
  have hac : a < cap := by omega
  have han : (a : Int) < (n : Int) := by omega
  have ha0 : (0 : Int) ≤ (a : Int) := by omega
  clear hB h2 hm
  go_enter Tryz.func242, Tryz.ntmps242
  go_wp2_with fail
  go_loopw [10, 11] (fun v10 v11 wr => Hid (∃ (i j : Nat), m ≤ i ∧ i ≤ j ∧ j ≤ b ∧ v10 = .int .i64 (i : Int) ∧ v11 = .int .i64 (j : Int) ∧ (i = a + 1 ∨ LkL (EnS N S id (i - 1)) (EnS N S id a)) ∧ (j = b ∨ ¬ LkL (EnS N S id j) (EnS N S id a)) ∧ Blk wr g 36 (lbC tl cap N S) ∧ Turns (fun z => z = g) V wr)) (fun v10 v11 _ => (intOf v11).toNat - (intOf v10).toNat)
  case atStart => exact ⟨m, b, Nat.le_refl _, by omega, Nat.le_refl _, rfl, rfl, .inl HM.out, .inl rfl, H0.out, Turns.bel (Below.refl _ _)⟩
  case round =>
    obtain ⟨i, j, hmi, hij0, hjb, rfl, rfl, hl, hr, hBi, hTi⟩ := Hid.out hrel
    have HLR : Hid ((i = a + 1 ∨ LkL (EnS N S id (i - 1)) (EnS N S id a)) ∧ (j = b ∨ ¬ LkL (EnS N S id j) (EnS N S id a))) := ⟨hl, hr⟩
    have HT : Hid (Turns (fun z => z = g) V wr) := hTi
    clear hrel hl hr hTi H0 f1
    by_cases hij1 : i < j
    · have q1 : (i : Int) < (j : Int) := by omega
      obtain ⟨ij, hij⟩ : ∃ q : Nat, q = i + j := ⟨_, rfl⟩
      have fij : IntKind.i64.wrap ((i : Int) + (j : Int)) = (ij : Int) := by rw [HW.out _ (by omega) (by omega)]; omega
      obtain ⟨h, hh⟩ : ∃ q : Nat, q = ij / 2 := ⟨_, rfl⟩
      have fu : IntKind.u64.wrap (ij : Int) = (ij : Int) := by rw [IntKind.wrap_u64]; omega
      have fh : (ij : Int) / 2 = (h : Int) := by omega
      have fhw : IntKind.i64.wrap (h : Int) = (h : Int) := HW.out _ (by omega) (by omega)
      have fh1 : IntKind.i64.wrap ((h : Int) + 1) = ((h + 1 : Nat) : Int) := by rw [HW.out _ (by omega) (by omega)]; omega
      have h1 : i ≤ h := by omega
      have h2 : h < j := by omega
      have hhc : h < cap := by omega
      have hhn : (h : Int) < (n : Int) := by omega
      have hh0 : (0 : Int) ≤ (h : Int) := by omega
      clear hij hh
      have HCM : Hid (∀ w : World, Calls Tryz.prog 175 #[.agg #[.int .i64 (N h), .string (S h)], .agg #[.int .i64 (N a), .string (S a)]] w fun e w' => e = .returned (.int .i64 (lcC (N h, S h) (N a, S a))) ∧ Below w.heap.size w w') := fun w => sortCmp_any _ _ _ _ w
      have HLC : Hid (lcC (N h, S h) (N a, S a) < 0 ↔ LkL (EnS N S id h) (EnS N S id a)) := Iff.rfl
      generalize lcC (N h, S h) (N a, S a) = cv at *
      have hBd : Blk wr.drew g 36 (lbC tl cap N S) := hBi.drew
      by_cases hcv : cv < 0
      · have hcd : decide (cv < 0) = true := decide_eq_true hcv
        have HR : Hid (h + 1 = a + 1 ∨ LkL (EnS N S id (h + 1 - 1)) (EnS N S id a)) := .inr (HLC.out.1 hcv)
        go_wp2_with fail
        refine wp_region_partsS (fun U => Blk U g 36 (lbC tl cap N S)) [([0, 1, 2, 3, 5, 6, 7], 4, true), ([], 8, false), ([], 9, false), ([], 10, false)] [] [] (by kernel_rfl) (by kernel_rfl) hBd (partsI_yield ?_)
        simp only [sgLHNaSym2]
        go_wp2_with fail
        first
          | refine ⟨rfl, _, .agg #[.int .i64 (N h), .string (S h)], rfl, Or.inl ⟨by rfl, fun U hU => by have hW0 := lb_c0 hU h hhc; have hW1 := lb_c1 hU h hhc; go_simp⟩, partsI_force ?_⟩
          | refine ⟨rfl, .agg #[.int .i64 (N h), .string (S h)], Or.inl ⟨by rfl, fun U hU => by have hW0 := lb_c0 hU h hhc; have hW1 := lb_c1 hU h hhc; go_simp⟩, partsI_force ?_⟩
        simp only [Act.put, sgPHNaSym2]
        simp only [sgLHNaSym2]
        have d0 := lb_c0 hBd a hac
        have d1 := lb_c1 hBd a hac
        go_wp2_with fail
        clear d0 d1
        refine ⟨rfl, hBd, partsI_force ?_⟩
        simp only [sgLHNaSym2]
        go_wp2_with fail
        refine (HCM.out _).mono ?_
        rintro e U1 ⟨rfl, hb1⟩
        have hB1 : Blk U1 g 36 (lbC tl cap N S) := hBd.below hb1 hBd.lt
        have hT1 : Turns (fun z => z = g) V U1 := HT.out.drew.tr (Turns.bel hb1)
        clear hb1
        go_wp2_with fail
        refine ⟨rfl, hB1, partsI_force ?_⟩
        simp only [sgLHNaSym2]
        go_wp2_with fail
        refine ⟨rfl, hB1, partsI_last ?_⟩
        simp only [sgLHNaSym2]
        go_wp2_with fail
        refine ⟨rfl, ?_⟩
        have HD : Hid (_ ∧ _) := ⟨hB1, hT1⟩
        clear hBd hBi hB1 hT1 HCM
        go_wp2_with fail
        go_roundw
        case rel => exact ⟨h + 1, j, by omega, by omega, hjb, by first | rfl | go_num | simp, rfl, HR.out, HLR.out.2, HD.out.1, HD.out.2⟩
        case measure => simp [intOf]; omega
      · have hcd : decide (cv < 0) = false := decide_eq_false hcv
        have HR : Hid (h = b ∨ ¬ LkL (EnS N S id h) (EnS N S id a)) := .inr (fun q => hcv (HLC.out.2 q))
        go_wp2_with fail
        refine wp_region_partsS (fun U => Blk U g 36 (lbC tl cap N S)) [([0, 1, 2, 3, 5, 6, 7], 4, true), ([], 8, false), ([], 9, false), ([], 10, false)] [] [] (by kernel_rfl) (by kernel_rfl) hBd (partsI_yield ?_)
        simp only [sgLHNaSym2]
        go_wp2_with fail
        first
          | refine ⟨rfl, _, .agg #[.int .i64 (N h), .string (S h)], rfl, Or.inl ⟨by rfl, fun U hU => by have hW0 := lb_c0 hU h hhc; have hW1 := lb_c1 hU h hhc; go_simp⟩, partsI_force ?_⟩
          | refine ⟨rfl, .agg #[.int .i64 (N h), .string (S h)], Or.inl ⟨by rfl, fun U hU => by have hW0 := lb_c0 hU h hhc; have hW1 := lb_c1 hU h hhc; go_simp⟩, partsI_force ?_⟩
        simp only [Act.put, sgPHNaSym2]
        simp only [sgLHNaSym2]
        have d0 := lb_c0 hBd a hac
        have d1 := lb_c1 hBd a hac
        go_wp2_with fail
        clear d0 d1
        refine ⟨rfl, hBd, partsI_force ?_⟩
        simp only [sgLHNaSym2]
        go_wp2_with fail
        refine (HCM.out _).mono ?_
        rintro e U1 ⟨rfl, hb1⟩
        have hB1 : Blk U1 g 36 (lbC tl cap N S) := hBd.below hb1 hBd.lt
        have hT1 : Turns (fun z => z = g) V U1 := HT.out.drew.tr (Turns.bel hb1)
        clear hb1
        go_wp2_with fail
        refine ⟨rfl, hB1, partsI_force ?_⟩
        simp only [sgLHNaSym2]
        go_wp2_with fail
        refine ⟨rfl, hB1, partsI_last ?_⟩
        simp only [sgLHNaSym2]
        go_wp2_with fail
        refine ⟨rfl, ?_⟩
        have HD : Hid (_ ∧ _) := ⟨hB1, hT1⟩
        clear hBd hBi hB1 hT1 HCM
        go_wp2_with fail
        go_roundw
        case rel => exact ⟨i, h, hmi, h1, by omega, rfl, by first | rfl | go_num | simp, HLR.out.1, HR.out, HD.out.1, HD.out.2⟩
        case measure => simp [intOf]; omega
    · have q1 : ¬ ((i : Int) < (j : Int)) := by omega
      obtain rfl : i = j := by omega
      have HB0 : Hid (Blk wr g 36 (lbC tl cap N S)) := hBi
      have fi : IntKind.i64.wrap ((i : Int) - 1) = ((i - 1 : Nat) : Int) := by rw [HW.out _ (by omega) (by omega)]; omega
      obtain ⟨i1, hi1⟩ : ∃ q, q = i - 1 := ⟨_, rfl⟩
      rw [← hi1] at fi
      have HI1 : Hid (i = i1 + 1) := by show _ = _; omega
      have hai : a ≤ i1 := by omega
      clear hBi hi1
      go_wp2_with fail
      go_loopw [13] (fun v13 wr => Hid (∃ (k : Nat), a ≤ k ∧ k ≤ i1 ∧ v13 = .int .i64 (k : Int) ∧ Blk wr g 36 (lbC tl cap (roF N a (a + 1) (k + 1)) (roF S a (a + 1) (k + 1))) ∧ Turns (fun z => z = g) V wr)) (fun v13 _ => i1 - (intOf v13).toNat)
      case atStart =>
        refine ⟨a, Nat.le_refl _, hai, rfl, ?_, HT.out⟩
        have e : ∀ {α : Type} (f : Nat → α), roF f a (a + 1) (a + 1) = f := fun f => funext fun p => by unfold roF; rw [if_neg (by omega)]; split; (congr 1; omega); rfl
        rw [e, e]
        exact HB0.out
      case round =>
        obtain ⟨k, hak, hki, rfl, hBk, hTk⟩ := Hid.out hrel
        have HT2' : Hid (Turns (fun z => z = g) V wr) := hTk
        clear hrel hTk HB0 HT
        obtain ⟨N2, hN2⟩ : ∃ N2, roF N a (a + 1) (k + 1) = N2 := ⟨_, rfl⟩
        obtain ⟨S2, hS2⟩ : ∃ S2, roF S a (a + 1) (k + 1) = S2 := ⟨_, rfl⟩
        have HNS : Hid (roF N a (a + 1) (k + 1) = N2 ∧ roF S a (a + 1) (k + 1) = S2) := ⟨hN2, hS2⟩
        rw [hN2, hS2] at hBk
        clear hN2 hS2
        by_cases hk1 : k < i1
        · have q2 : (k : Int) < (i1 : Int) := by omega
          have hI := HI1.out
          obtain ⟨k1, hk1e⟩ : ∃ q, q = k + 1 := ⟨_, rfl⟩
          have fk : IntKind.i64.wrap ((k : Int) + 1) = (k1 : Int) := by rw [HW.out _ (by omega) (by omega)]; omega
          have hkc : k < cap := by omega
          have hk1c : k1 < cap := by omega
          have hkn : (k : Int) < (n : Int) := by omega
          have hk1n : (k1 : Int) < (n : Int) := by omega
          have hk0 : (0 : Int) ≤ (k : Int) := by omega
          have hk10 : (0 : Int) ≤ (k1 : Int) := by omega
          have hne : k1 ≠ k := by omega
          have HK1 : Hid (k1 = k + 1) := hk1e
          clear hk1e hI
          have hBd : Blk wr.drew g 36 (lbC tl cap N2 S2) := hBk.drew
          have HT2 : Hid (Turns (fun z => z = g) V wr.drew) := HT2'.out.drew
          clear hBk HT2'
          go_wp2_with fail
          refine wp_region_partsS (fun U => ∃ N3 S3, N3 k1 = N2 k1 ∧ S3 k1 = S2 k1 ∧ Blk U g 36 (lbC tl cap N3 S3)) [([0, 1, 2, 3, 5, 6, 10, 11, 12], 4, true), ([], 7, true), ([8], 9, true), ([], 13, false), ([14], 15, false)] [] [16, 17] (by kernel_rfl) (by kernel_rfl) ⟨N2, S2, rfl, rfl, hBd⟩ (partsI_yield ?_)
          simp only [sgLHNaSym2]
          generalize wr.drew = U2 at *
          go_wp2_with fail
          first
            | refine ⟨rfl, _, .int .i64 (k1 : Int), rfl, Or.inl ⟨by rfl, fun U hU => by go_simp⟩, partsI_yield ?_⟩
            | refine ⟨rfl, .int .i64 (k1 : Int), Or.inl ⟨by rfl, fun U hU => by go_simp⟩, partsI_yield ?_⟩
          simp only [Act.put, sgPHNaSym2]
          simp only [sgLHNaSym2]
          go_wp2_with fail
          first
            | refine ⟨rfl, _, .int .i64 (k1 : Int), rfl, Or.inl ⟨by rfl, fun U hU => by go_simp⟩, partsI_yield ?_⟩
            | refine ⟨rfl, .int .i64 (k1 : Int), Or.inl ⟨by rfl, fun U hU => by go_simp⟩, partsI_yield ?_⟩
          simp only [Act.put, sgPHNaSym2]
          simp only [sgLHNaSym2]
          go_wp2_with fail
          first
            | refine ⟨rfl, _, .agg #[.int .i64 (N2 k1), .string (S2 k1)], rfl, Or.inl ⟨by rfl, fun U hU => by obtain ⟨N3, S3, q1, q2, hU⟩ := hU; have hW0 := lb_c0 hU k1 hk1c; have hW1 := lb_c1 hU k1 hk1c; rw [q1] at hW0; rw [q2] at hW1; go_simp⟩, partsI_force ?_⟩
            | refine ⟨rfl, .agg #[.int .i64 (N2 k1), .string (S2 k1)], Or.inl ⟨by rfl, fun U hU => by obtain ⟨N3, S3, q1, q2, hU⟩ := hU; have hW0 := lb_c0 hU k1 hk1c; have hW1 := lb_c1 hU k1 hk1c; rw [q1] at hW0; rw [q2] at hW1; go_simp⟩, partsI_force ?_⟩
          simp only [Act.put, sgPHNaSym2]
          simp only [sgLHNaSym2]
          have d0 := lb_c0 hBd k hkc
          have d1 := lb_c1 hBd k hkc
          go_wp2_with fail
          refine ⟨rfl, ⟨N2, S2, rfl, rfl, hBd⟩, partsI_force ?_⟩
          simp only [sgLHNaSym2]
          have f0 : U2.frozen? ⟨g, k * 2, none⟩ = false := hBd.frozen _
          have f1 : U2.frozen? ⟨g, k * 2 + 1, none⟩ = false := hBd.frozen _
          have kk1 := lb_put hBd k hkc (N2 k1) (S2 k1)
          have kk2 := lb_put kk1 k1 hk1c (N2 k) (S2 k)
          go_wp2_with fail
          refine ⟨rfl, ⟨_, _, by unfold upN; rw [if_neg hne], by unfold upS; rw [if_neg hne], kk1⟩, partsI_last ?_⟩
          simp only [sgLHNaSym2]
          clear d0 d1 f0 f1
          have d0 := lb_c0 kk1 k1 hk1c
          have d1 := lb_c1 kk1 k1 hk1c
          have f0 : ((U2.setCell ⟨g, k * 2, none⟩ (.int .i64 (N2 k1))).setCell ⟨g, k * 2 + 1, none⟩ (.string (S2 k1))).frozen? ⟨g, k1 * 2, none⟩ = false := kk1.frozen _
          have f1 : ((U2.setCell ⟨g, k * 2, none⟩ (.int .i64 (N2 k1))).setCell ⟨g, k * 2 + 1, none⟩ (.string (S2 k1))).frozen? ⟨g, k1 * 2 + 1, none⟩ = false := kk1.frozen _
          have HE : Hid (Blk ((((U2.setCell ⟨g, k * 2, none⟩ (.int .i64 (N2 k1))).setCell ⟨g, k * 2 + 1, none⟩ (.string (S2 k1))).setCell ⟨g, k1 * 2, none⟩ (.int .i64 (N2 k))).setCell ⟨g, k1 * 2 + 1, none⟩ (.string (S2 k))) g 36 (lbC tl cap (upN (upN N2 k (N2 k1)) k1 (N2 k)) (upS (upS S2 k (S2 k1)) k1 (S2 k))) ∧ Turns (fun z => z = g) V ((((U2.setCell ⟨g, k * 2, none⟩ (.int .i64 (N2 k1))).setCell ⟨g, k * 2 + 1, none⟩ (.string (S2 k1))).setCell ⟨g, k1 * 2, none⟩ (.int .i64 (N2 k))).setCell ⟨g, k1 * 2 + 1, none⟩ (.string (S2 k)))) := ⟨kk2, (((HT2.out.tr (Turns.cell _ _ _ _ rfl)).tr (Turns.cell _ _ _ _ rfl)).tr (Turns.cell _ _ _ _ rfl)).tr (Turns.cell _ _ _ _ rfl)⟩
          clear kk1 kk2 hBd
          go_wp2_with fail
          refine ⟨rfl, ?_⟩
          clear d0 d1 f0 f1
          go_wp2_with fail
          go_roundw
          case rel =>
            have hkk := HK1.out
            refine ⟨k1, by omega, by omega, by first | rfl | go_num | simp, ?_, HE.out.2⟩
            have hk := HE.out.1
            have e1 : upN (upN N2 k (N2 k1)) k1 (N2 k) = roF N a (a + 1) (k1 + 1) := funext fun p => by
              have := ro_up N a k hak p
              rw [HK1.out]
              rw [← this, HNS.out.1]
              rfl
            have e2 : upS (upS S2 k (S2 k1)) k1 (S2 k) = roF S a (a + 1) (k1 + 1) := funext fun p => by
              have := ro_up S a k hak p
              rw [HK1.out]
              rw [← this, HNS.out.2]
              rfl
            rw [e1, e2] at hk
            exact hk
          case measure => have := HK1.out; simp [intOf]; omega
        · have q2 : ¬ ((k : Int) < (i1 : Int)) := by omega
          have HB2 : Hid (Blk wr g 36 (lbC tl cap N2 S2)) := hBk
          clear hBk
          go_wp2_with fail
          (try simp only [Exit.inBlock, Exit.then])
          refine bodyPost_ret (results_none rfl _ _ _) rfl ?_
          have hki2 : k + 1 = i := by have := HI1.out; omega
          refine ⟨rfl, roF id a (a + 1) i, (ro_pm a (a + 1) i (by omega) (by have := HI1.out; omega)).wide (Nat.le_refl _) hjb, ?_, ?_, HT2'.out⟩
          · have hk := HB2.out
            rw [← HNS.out.1, ← HNS.out.2, hki2, ro_at N, ro_at S] at hk
            exact hk
          · have := so_up lk_T lk_A (f := EnS N S id) (a := a) (b := b) (i := i) ⟨by have := HI1.out; omega, hjb⟩ HSO.out HLR.out.1 HLR.out.2
            rw [en_ro] at this
            exact this
end Go.Proofs.YtojnlmfahgeidaaGreatDoor

namespace Go.Proofs.YtojnlmfahgeidaaGreatDoor
open Go Go.RowKit Go.Nam
set_option linter.unusedVariables false
set_option linter.unusedSimpArgs false
set_option maxRecDepth 100000 in
set_option maxHeartbeats 8000000 in
theorem sym_last (tl : Array Value) (g n c cap : Nat) (hnc : n ≤ cap) (hn : n ≤ 1000000000000000) (a m b : Nat) (N : Nat → Int) (S : Nat → ByteArray) (V : World) (ham : a < m) (hma : m ≠ a + 1) (hb : b = m + 1) (hbn : b ≤ n) (hB : Blk V g 36 (lbC tl cap N S)) (h1 : So LkL (EnS N S id) a m) :
    Calls Tryz.prog 242 #[.slice (some ⟨g, 0, none⟩) n c, .int .i64 (a : Int), .int .i64 (m : Int), .int .i64 (b : Int), fvS] V fun e w' => e = .returned (.tuple #[]) ∧ ∃ s, Pm a b s ∧ Blk w' g 36 (lbC tl cap (fun p => N (s p)) (fun p => S (s p))) ∧ So LkL (EnS N S s) a b ∧ Turns (fun z => z = g) V w' := by
  have nb : (n : Int) ≤ 1000000000000000 := by omega
  have H0 : Hid (Blk V g 36 (lbC tl cap N S)) := hB
  have HSO : Hid (So LkL (EnS N S id) a m) := h1
  have HW : Hid (∀ z : Int, -9000000000000000 ≤ z → z ≤ 9000000000000000 → IntKind.i64.wrap z = z) := fun z h1 h2 => by simp [IntKind.wrap, IntKind.signed, IntKind.bits]; omega
  have HBM : Hid (b = m + 1) := hb
  obtain ⟨ma, hmae⟩ : ∃ q : Nat, m = a + q := ⟨m - a, by omega⟩
  have f1 : IntKind.i64.wrap ((m : Int) - (a : Int)) = (ma : Int) := by rw [HW.out _ (by omega) (by omega)]; omega
  have f1n : ((ma : Int) == 1) = false := by rw [beq_eq_false_iff_ne]; omega
  have f1m : ¬ ((ma : Int) = 1) := by omega
  have f2 : IntKind.i64.wrap ((b : Int) - (m : Int)) = 1 := by rw [HW.out _ (by omega) (by omega)]; omega
  have hmc : m < cap := by omega
  have hmn : (m : Int) < (n : Int) := by omega
  have hm0 : (0 : Int) ≤ (m : Int) := by omega
  clear hB h1 hb hmae hma
  go_enter Tryz.func242, Tryz.ntmps242
  go_wp2_with fail
  go_loopw [14, 15] (fun v14 v15 wr => Hid (∃ (i j : Nat), a ≤ i ∧ i ≤ j ∧ j ≤ m ∧ v14 = .int .i64 (i : Int) ∧ v15 = .int .i64 (j : Int) ∧ (i = a ∨ ¬ LkL (EnS N S id m) (EnS N S id (i - 1))) ∧ (j = m ∨ LkL (EnS N S id m) (EnS N S id j)) ∧ Blk wr g 36 (lbC tl cap N S) ∧ Turns (fun z => z = g) V wr)) (fun v14 v15 _ => (intOf v15).toNat - (intOf v14).toNat)
  case atStart => exact ⟨a, m, Nat.le_refl _, by omega, Nat.le_refl _, rfl, rfl, .inl rfl, .inl rfl, H0.out, Turns.bel (Below.refl _ _)⟩
  case round =>
    obtain ⟨i, j, hmi, hij0, hjb, rfl, rfl, hl, hr, hBi, hTi⟩ := Hid.out hrel
    have HLR : Hid ((i = a ∨ ¬ LkL (EnS N S id m) (EnS N S id (i - 1))) ∧ (j = m ∨ LkL (EnS N S id m) (EnS N S id j))) := ⟨hl, hr⟩
    have HT : Hid (Turns (fun z => z = g) V wr) := hTi
    clear hrel hl hr hTi H0 f1 f1n f1m f2
    by_cases hij1 : i < j
    · have q1 : (i : Int) < (j : Int) := by omega
      obtain ⟨ij, hij⟩ : ∃ q : Nat, q = i + j := ⟨_, rfl⟩
      have fij : IntKind.i64.wrap ((i : Int) + (j : Int)) = (ij : Int) := by rw [HW.out _ (by omega) (by omega)]; omega
      obtain ⟨h, hh⟩ : ∃ q : Nat, q = ij / 2 := ⟨_, rfl⟩
      have fu : IntKind.u64.wrap (ij : Int) = (ij : Int) := by rw [IntKind.wrap_u64]; omega
      have fh : (ij : Int) / 2 = (h : Int) := by omega
      have fhw : IntKind.i64.wrap (h : Int) = (h : Int) := HW.out _ (by omega) (by omega)
      have fh1 : IntKind.i64.wrap ((h : Int) + 1) = ((h + 1 : Nat) : Int) := by rw [HW.out _ (by omega) (by omega)]; omega
      have h1 : i ≤ h := by omega
      have h2 : h < j := by omega
      have hhc : h < cap := by omega
      have hhn : (h : Int) < (n : Int) := by omega
      have hh0 : (0 : Int) ≤ (h : Int) := by omega
      clear hij hh
      have HCM : Hid (∀ w : World, Calls Tryz.prog 175 #[.agg #[.int .i64 (N m), .string (S m)], .agg #[.int .i64 (N h), .string (S h)]] w fun e w' => e = .returned (.int .i64 (lcC (N m, S m) (N h, S h))) ∧ Below w.heap.size w w') := fun w => sortCmp_any _ _ _ _ w
      have HLC : Hid (lcC (N m, S m) (N h, S h) < 0 ↔ LkL (EnS N S id m) (EnS N S id h)) := Iff.rfl
      generalize lcC (N m, S m) (N h, S h) = cv at *
      have hBd : Blk wr.drew g 36 (lbC tl cap N S) := hBi.drew
      by_cases hcv : cv < 0
      · have hcd : decide (cv < 0) = true := decide_eq_true hcv
        have HR : Hid (h = m ∨ LkL (EnS N S id m) (EnS N S id h)) := .inr (HLC.out.1 hcv)
        go_wp2_with fail
        refine wp_region_partsS (fun U => Blk U g 36 (lbC tl cap N S)) [([0, 1, 2, 3, 5, 6, 7], 4, true), ([], 8, false), ([], 9, false), ([], 10, false)] [11] [] (by kernel_rfl) (by kernel_rfl) hBd (partsI_yield ?_)
        simp only [sgLHNaSym2]
        go_wp2_with fail
        first
          | refine ⟨rfl, _, .agg #[.int .i64 (N m), .string (S m)], rfl, Or.inl ⟨by rfl, fun U hU => by have hW0 := lb_c0 hU m hmc; have hW1 := lb_c1 hU m hmc; go_simp⟩, partsI_force ?_⟩
          | refine ⟨rfl, .agg #[.int .i64 (N m), .string (S m)], Or.inl ⟨by rfl, fun U hU => by have hW0 := lb_c0 hU m hmc; have hW1 := lb_c1 hU m hmc; go_simp⟩, partsI_force ?_⟩
        simp only [Act.put, sgPHNaSym2]
        simp only [sgLHNaSym2]
        have d0 := lb_c0 hBd h hhc
        have d1 := lb_c1 hBd h hhc
        go_wp2_with fail
        clear d0 d1
        refine ⟨rfl, hBd, partsI_force ?_⟩
        simp only [sgLHNaSym2]
        go_wp2_with fail
        refine (HCM.out _).mono ?_
        rintro e U1 ⟨rfl, hb1⟩
        have hB1 : Blk U1 g 36 (lbC tl cap N S) := hBd.below hb1 hBd.lt
        have hT1 : Turns (fun z => z = g) V U1 := HT.out.drew.tr (Turns.bel hb1)
        clear hb1
        go_wp2_with fail
        refine ⟨rfl, hB1, partsI_force ?_⟩
        simp only [sgLHNaSym2]
        go_wp2_with fail
        refine ⟨rfl, hB1, partsI_last ?_⟩
        simp only [sgLHNaSym2]
        go_wp2_with fail
        refine ⟨rfl, ?_⟩
        have HD : Hid (_ ∧ _) := ⟨hB1, hT1⟩
        clear hBd hBi hB1 hT1 HCM
        go_wp2_with fail
        go_roundw
        case rel => exact ⟨i, h, hmi, h1, by omega, rfl, by first | rfl | go_num | simp, HLR.out.1, HR.out, HD.out.1, HD.out.2⟩
        case measure => simp [intOf]; omega
      · have hcd : decide (cv < 0) = false := decide_eq_false hcv
        have HR : Hid (h + 1 = a ∨ ¬ LkL (EnS N S id m) (EnS N S id (h + 1 - 1))) := .inr (fun q => hcv (HLC.out.2 q))
        go_wp2_with fail
        refine wp_region_partsS (fun U => Blk U g 36 (lbC tl cap N S)) [([0, 1, 2, 3, 5, 6, 7], 4, true), ([], 8, false), ([], 9, false), ([], 10, false)] [11] [] (by kernel_rfl) (by kernel_rfl) hBd (partsI_yield ?_)
        simp only [sgLHNaSym2]
        go_wp2_with fail
        first
          | refine ⟨rfl, _, .agg #[.int .i64 (N m), .string (S m)], rfl, Or.inl ⟨by rfl, fun U hU => by have hW0 := lb_c0 hU m hmc; have hW1 := lb_c1 hU m hmc; go_simp⟩, partsI_force ?_⟩
          | refine ⟨rfl, .agg #[.int .i64 (N m), .string (S m)], Or.inl ⟨by rfl, fun U hU => by have hW0 := lb_c0 hU m hmc; have hW1 := lb_c1 hU m hmc; go_simp⟩, partsI_force ?_⟩
        simp only [Act.put, sgPHNaSym2]
        simp only [sgLHNaSym2]
        have d0 := lb_c0 hBd h hhc
        have d1 := lb_c1 hBd h hhc
        go_wp2_with fail
        clear d0 d1
        refine ⟨rfl, hBd, partsI_force ?_⟩
        simp only [sgLHNaSym2]
        go_wp2_with fail
        refine (HCM.out _).mono ?_
        rintro e U1 ⟨rfl, hb1⟩
        have hB1 : Blk U1 g 36 (lbC tl cap N S) := hBd.below hb1 hBd.lt
        have hT1 : Turns (fun z => z = g) V U1 := HT.out.drew.tr (Turns.bel hb1)
        clear hb1
        go_wp2_with fail
        refine ⟨rfl, hB1, partsI_force ?_⟩
        simp only [sgLHNaSym2]
        go_wp2_with fail
        refine ⟨rfl, hB1, partsI_last ?_⟩
        simp only [sgLHNaSym2]
        go_wp2_with fail
        refine ⟨rfl, ?_⟩
        have HD : Hid (_ ∧ _) := ⟨hB1, hT1⟩
        clear hBd hBi hB1 hT1 HCM
        go_wp2_with fail
        go_roundw
        case rel => exact ⟨h + 1, j, by omega, by omega, hjb, by first | rfl | go_num | simp, rfl, HR.out, HLR.out.2, HD.out.1, HD.out.2⟩
        case measure => simp [intOf]; omega
    · have q1 : ¬ ((i : Int) < (j : Int)) := by omega
      obtain rfl : i = j := by omega
      have HB0 : Hid (Blk wr g 36 (lbC tl cap N S)) := hBi
      clear hBi
      go_wp2_with fail
      go_loopw [17] (fun v17 wr => Hid (∃ (k : Nat), i ≤ k ∧ k ≤ m ∧ v17 = .int .i64 (k : Int) ∧ Blk wr g 36 (lbC tl cap (roF N k m (m + 1)) (roF S k m (m + 1))) ∧ Turns (fun z => z = g) V wr)) (fun v17 _ => (intOf v17).toNat)
      case atStart => exact ⟨m, hjb, Nat.le_refl _, rfl, by rw [ro_self, ro_self]; exact HB0.out, HT.out⟩
      case round =>
        obtain ⟨k, hak, hki, rfl, hBk, hTk⟩ := Hid.out hrel
        have HT2' : Hid (Turns (fun z => z = g) V wr) := hTk
        clear hrel hTk HB0 HT
        obtain ⟨N2, hN2⟩ : ∃ N2, roF N k m (m + 1) = N2 := ⟨_, rfl⟩
        obtain ⟨S2, hS2⟩ : ∃ S2, roF S k m (m + 1) = S2 := ⟨_, rfl⟩
        have HNS : Hid (roF N k m (m + 1) = N2 ∧ roF S k m (m + 1) = S2) := ⟨hN2, hS2⟩
        rw [hN2, hS2] at hBk
        clear hN2 hS2
        by_cases hk1 : i < k
        · have q2 : (i : Int) < (k : Int) := by omega
          obtain ⟨k1, hk1e⟩ : ∃ q, k = q + 1 := ⟨k - 1, by omega⟩
          have fk : IntKind.i64.wrap ((k : Int) - 1) = (k1 : Int) := by rw [HW.out _ (by omega) (by omega)]; omega
          have hkc : k < cap := by omega
          have hk1c : k1 < cap := by omega
          have hkn : (k : Int) < (n : Int) := by omega
          have hk1n : (k1 : Int) < (n : Int) := by omega
          have hk0 : (0 : Int) ≤ (k : Int) := by omega
          have hk10 : (0 : Int) ≤ (k1 : Int) := by omega
          have hne : k1 ≠ k := by omega
          have HK1 : Hid (k = k1 + 1) := hk1e
          clear hk1e
          have hBd : Blk wr.drew g 36 (lbC tl cap N2 S2) := hBk.drew
          have HT2 : Hid (Turns (fun z => z = g) V wr.drew) := HT2'.out.drew
          clear hBk HT2'
          go_wp2_with fail
          refine wp_region_partsS (fun U => ∃ N3 S3, N3 k1 = N2 k1 ∧ S3 k1 = S2 k1 ∧ Blk U g 36 (lbC tl cap N3 S3)) [([0, 1, 2, 3, 5, 6, 10, 11, 12], 4, true), ([], 7, true), ([8], 9, true), ([], 13, false), ([14], 15, false)] [] [16, 17] (by kernel_rfl) (by kernel_rfl) ⟨N2, S2, rfl, rfl, hBd⟩ (partsI_yield ?_)
          simp only [sgLHNaSym2]
          generalize wr.drew = U2 at *
          go_wp2_with fail
          first
            | refine ⟨rfl, _, .int .i64 (k1 : Int), rfl, Or.inl ⟨by rfl, fun U hU => by go_simp⟩, partsI_yield ?_⟩
            | refine ⟨rfl, .int .i64 (k1 : Int), Or.inl ⟨by rfl, fun U hU => by go_simp⟩, partsI_yield ?_⟩
          simp only [Act.put, sgPHNaSym2]
          simp only [sgLHNaSym2]
          go_wp2_with fail
          first
            | refine ⟨rfl, _, .int .i64 (k1 : Int), rfl, Or.inl ⟨by rfl, fun U hU => by go_simp⟩, partsI_yield ?_⟩
            | refine ⟨rfl, .int .i64 (k1 : Int), Or.inl ⟨by rfl, fun U hU => by go_simp⟩, partsI_yield ?_⟩
          simp only [Act.put, sgPHNaSym2]
          simp only [sgLHNaSym2]
          go_wp2_with fail
          first
            | refine ⟨rfl, _, .agg #[.int .i64 (N2 k1), .string (S2 k1)], rfl, Or.inl ⟨by rfl, fun U hU => by obtain ⟨N3, S3, q1, q2, hU⟩ := hU; have hW0 := lb_c0 hU k1 hk1c; have hW1 := lb_c1 hU k1 hk1c; rw [q1] at hW0; rw [q2] at hW1; go_simp⟩, partsI_force ?_⟩
            | refine ⟨rfl, .agg #[.int .i64 (N2 k1), .string (S2 k1)], Or.inl ⟨by rfl, fun U hU => by obtain ⟨N3, S3, q1, q2, hU⟩ := hU; have hW0 := lb_c0 hU k1 hk1c; have hW1 := lb_c1 hU k1 hk1c; rw [q1] at hW0; rw [q2] at hW1; go_simp⟩, partsI_force ?_⟩
          simp only [Act.put, sgPHNaSym2]
          simp only [sgLHNaSym2]
          have d0 := lb_c0 hBd k hkc
          have d1 := lb_c1 hBd k hkc
          go_wp2_with fail
          refine ⟨rfl, ⟨N2, S2, rfl, rfl, hBd⟩, partsI_force ?_⟩
          simp only [sgLHNaSym2]
          have f0 : U2.frozen? ⟨g, k * 2, none⟩ = false := hBd.frozen _
          have f1 : U2.frozen? ⟨g, k * 2 + 1, none⟩ = false := hBd.frozen _
          have kk1 := lb_put hBd k hkc (N2 k1) (S2 k1)
          have kk2 := lb_put kk1 k1 hk1c (N2 k) (S2 k)
          go_wp2_with fail
          refine ⟨rfl, ⟨_, _, by unfold upN; rw [if_neg hne], by unfold upS; rw [if_neg hne], kk1⟩, partsI_last ?_⟩
          simp only [sgLHNaSym2]
          clear d0 d1 f0 f1
          have d0 := lb_c0 kk1 k1 hk1c
          have d1 := lb_c1 kk1 k1 hk1c
          have f0 : ((U2.setCell ⟨g, k * 2, none⟩ (.int .i64 (N2 k1))).setCell ⟨g, k * 2 + 1, none⟩ (.string (S2 k1))).frozen? ⟨g, k1 * 2, none⟩ = false := kk1.frozen _
          have f1 : ((U2.setCell ⟨g, k * 2, none⟩ (.int .i64 (N2 k1))).setCell ⟨g, k * 2 + 1, none⟩ (.string (S2 k1))).frozen? ⟨g, k1 * 2 + 1, none⟩ = false := kk1.frozen _
          have HE : Hid (Blk ((((U2.setCell ⟨g, k * 2, none⟩ (.int .i64 (N2 k1))).setCell ⟨g, k * 2 + 1, none⟩ (.string (S2 k1))).setCell ⟨g, k1 * 2, none⟩ (.int .i64 (N2 k))).setCell ⟨g, k1 * 2 + 1, none⟩ (.string (S2 k))) g 36 (lbC tl cap (upN (upN N2 k (N2 k1)) k1 (N2 k)) (upS (upS S2 k (S2 k1)) k1 (S2 k))) ∧ Turns (fun z => z = g) V ((((U2.setCell ⟨g, k * 2, none⟩ (.int .i64 (N2 k1))).setCell ⟨g, k * 2 + 1, none⟩ (.string (S2 k1))).setCell ⟨g, k1 * 2, none⟩ (.int .i64 (N2 k))).setCell ⟨g, k1 * 2 + 1, none⟩ (.string (S2 k)))) := ⟨kk2, (((HT2.out.tr (Turns.cell _ _ _ _ rfl)).tr (Turns.cell _ _ _ _ rfl)).tr (Turns.cell _ _ _ _ rfl)).tr (Turns.cell _ _ _ _ rfl)⟩
          clear kk1 kk2 hBd
          go_wp2_with fail
          refine ⟨rfl, ?_⟩
          clear d0 d1 f0 f1
          go_wp2_with fail
          go_roundw
          case rel =>
            have hkk := HK1.out
            refine ⟨k1, by omega, by omega, by first | rfl | go_num | simp, ?_, HE.out.2⟩
            have hk := HE.out.1
            have e1 : upN (upN N2 k (N2 k1)) k1 (N2 k) = roF N k1 m (m + 1) := funext fun p => by
              have := ro_down N m k1 (by omega) p
              rw [← this, ← HK1.out, HNS.out.1]
              rfl
            have e2 : upS (upS S2 k (S2 k1)) k1 (S2 k) = roF S k1 m (m + 1) := funext fun p => by
              have := ro_down S m k1 (by omega) p
              rw [← this, ← HK1.out, HNS.out.2]
              rfl
            rw [e1, e2] at hk
            exact hk
          case measure => have := HK1.out; simp [intOf]; omega
        · have q2 : ¬ ((i : Int) < (k : Int)) := by omega
          have HB2 : Hid (Blk wr g 36 (lbC tl cap N2 S2)) := hBk
          obtain rfl : i = k := by omega
          clear hBk
          go_wp2_with fail
          (try simp only [Exit.inBlock, Exit.then])
          refine bodyPost_ret (results_none rfl _ _ _) rfl ?_
          refine ⟨rfl, roF id i m (m + 1), (ro_pm i m (m + 1) (by omega) (by omega)).wide hmi (by rw [HBM.out]; omega), ?_, ?_, HT2'.out⟩
          · have hk := HB2.out
            rw [← HNS.out.1, ← HNS.out.2, ro_at N, ro_at S] at hk
            exact hk
          · have := so_down lk_T lk_A (f := EnS N S id) (a := a) (m := m) (i := i) ⟨hmi, hki⟩ HSO.out HLR.out.1 HLR.out.2
            rw [en_ro] at this
            rw [HBM.out]
            exact this
end Go.Proofs.YtojnlmfahgeidaaGreatDoor
