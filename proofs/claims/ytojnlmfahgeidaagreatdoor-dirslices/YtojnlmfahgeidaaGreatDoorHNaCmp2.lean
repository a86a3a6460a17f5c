/- The document's Compare of texts of every length. -/
import Derived.Test.YtojnlmfahgeidaaGreatDoorHNaSym2
import Derived.Deep.DeepCutAuto
import Derived.Deep.Cut
import Derived.Handy
import Derived.Test.YtojnlmfahgeidaaGreatDoorHDiSortM
import Derived.Test.YtojnlmfahgeidaaGreatDoorHDiIndex
import Derived.Test.YtojnlmfahgeidaaGreatDoorHBlkGroups
import Derived.Test.YtojnlmfahgeidaaGreatDoorHNaJoinB
import Derived.Test.YtojnlmfahgeidaaGreatDoorHDiRemove
import Derived.Maps.AppendAt
import Derived.BigQuiet
import Derived.Deep.QuietTactic

namespace Go.Proofs.YtojnlmfahgeidaaGreatDoor
theorem sgLHNaCmp2 : (∀ (α : Type) (a : α) (l r : List α), (a :: l) ++ r = a :: (l ++ r)) ∧ (∀ (α : Type) (l : List α), [] ++ l = l) ∧ (∀ (α : Type) (l : List α), l ++ [] = l) ∧ (∀ (α β : Type) (f : α → Option β) (a : α) (l : List α), (a :: l).filterMap f = match f a with | none => l.filterMap f | some b => b :: l.filterMap f) ∧ (∀ (α β : Type) (f : α → Option β), [].filterMap f = []) ∧ (∀ (α : Type) (l : List α) (i : Nat), l.toArray[i]? = l[i]?) ∧ (∀ (α : Type) (a : α) (l : List α), (a :: l)[0]? = some a) ∧ (∀ (α : Type) (a : α) (l : List α) (i : Nat), (a :: l)[i + 1]? = l[i]?) :=
  ⟨fun _ _ _ _ => List.cons_append, fun _ _ => List.nil_append _, fun _ _ => List.append_nil _, fun _ _ _ _ _ => List.filterMap_cons, fun _ _ _ => List.filterMap_nil, fun _ _ _ => List.getElem?_toArray, fun _ _ _ => List.getElem?_cons_zero, fun _ _ _ _ => List.getElem?_cons_succ⟩
theorem sgPHNaCmp2 : (∀ (α : Type) (l : List α) (i : Nat) (a : α), l.toArray.setIfInBounds i a = (l.set i a).toArray) ∧ (∀ (α : Type) (a b : α) (l : List α), (a :: l).set 0 b = b :: l) ∧ (∀ (α : Type) (a b : α) (l : List α) (i : Nat), (a :: l).set (i + 1) b = a :: l.set i b) :=
  ⟨fun _ _ _ _ => List.setIfInBounds_toArray _ _ _, fun _ _ _ _ => List.set_cons_zero, fun _ _ _ _ _ => List.set_cons_succ⟩
end Go.Proofs.YtojnlmfahgeidaaGreatDoor
namespace Go.Proofs.YtojnlmfahgeidaaGreatDoor
open Go Go.RowKit Go.Nam
set_option linter.unusedVariables false
set_option linter.unusedSimpArgs false
theorem ro_left {α : Type} (f : Nat → α) (m b : Nat) : roF f m m b = f := by
  funext p
  rw [congrFun (ro_at f m m b) p]
  show f (roF id m m b p) = f p
  congr 1
  rcases ro_cases m m b p with ⟨c1, c2, c3⟩ | ⟨c1, c2, c3⟩ | ⟨c1, c3⟩ <;> omega
theorem ro_right {α : Type} (f : Nat → α) (a m : Nat) : roF f a m m = f := by
  funext p
  rw [congrFun (ro_at f a m m) p]
  show f (roF id a m m p) = f p
  congr 1
  rcases ro_cases a m m p with ⟨c1, c2, c3⟩ | ⟨c1, c2, c3⟩ | ⟨c1, c3⟩ <;> omega
/-- what is asked of the calls for the halves -/
def SymIH (tl : Array Value) (g n c cap k : Nat) : Prop := ∀ (a' m' b' : Nat) (N' : Nat → Int) (S' : Nat → ByteArray) (V' : World), b' - a' < k → a' < m' → m' < b' → b' ≤ n → Blk V' g 36 (lbC tl cap N' S') → So LkL (EnS N' S' id) a' m' → So LkL (EnS N' S' id) m' b' → Calls Tryz.prog 242 #[.slice (some ⟨g, 0, none⟩) n c, .int .i64 (a' : Int), .int .i64 (m' : Int), .int .i64 (b' : Int), fvS] V' fun e w' => e = .returned (.tuple #[]) ∧ ∃ s, Pm a' b' s ∧ Blk w' g 36 (lbC tl cap (fun p => N' (s p)) (fun p => S' (s p))) ∧ So LkL (EnS N' S' s) a' b' ∧ Turns (fun z => z = g) V' w'
set_option maxRecDepth 100000 in
set_option maxHeartbeats 8000000 in
theorem sym_gen (tl : Array Value) (g n c cap : Nat) (hnc : n ≤ cap) (hn : n ≤ 1000000000000000) (a m b : Nat) (N : Nat → Int) (S : Nat → ByteArray) (V : World) (ham : a < m) (hmb : m < b) (hma : m ≠ a + 1) (hbm : b ≠ m + 1) (hbn : b ≤ n) (hB : Blk V g 36 (lbC tl cap N S)) (h1 : So LkL (EnS N S id) a m) (h2 : So LkL (EnS N S id) m b) (hIH : SymIH tl g n c cap (b - a)) :
    Calls Tryz.prog 242 #[.slice (some ⟨g, 0, none⟩) n c, .int .i64 (a : Int), .int .i64 (m : Int), .int .i64 (b : Int), fvS] V fun e w' => e = .returned (.tuple #[]) ∧ ∃ s, Pm a b s ∧ Blk w' g 36 (lbC tl cap (fun p => N (s p)) (fun p => S (s p))) ∧ So LkL (EnS N S s) a b ∧ Turns (fun z => z = g) V w' := by
  have nb : (n : Int) ≤ 1000000000000000 := by omega
  have H0 : Hid (Blk V g 36 (lbC tl cap N S)) := hB
  have HSO : Hid (So LkL (EnS N S id) a m ∧ So LkL (EnS N S id) m b) := ⟨h1, h2⟩
  have HIH : Hid (SymIH tl g n c cap (b - a)) := hIH
  have HW : Hid (∀ z : Int, -9000000000000000 ≤ z → z ≤ 9000000000000000 → IntKind.i64.wrap z = z) := fun z h1 h2 => by simp [IntKind.wrap, IntKind.signed, IntKind.bits]; omega
  have HRO : Hid (∀ (x y : Nat) (W : World), x < m → m < y → y ≤ n → Blk W g 36 (lbC tl cap N S) → Calls Tryz.prog 262 #[.slice (some ⟨g, 0, none⟩) n c, .int .i64 (x : Int), .int .i64 (m : Int), .int .i64 (y : Int), fvS] W fun e w' => e = .returned (.tuple #[]) ∧ Blk w' g 36 (lbC tl cap (roF N x m y) (roF S x m y)) ∧ Turns (fun z => z = g) W w') := fun x y W k1 k2 k3 k4 => rotate_any tl g n c cap x m y N S k1 k2 k3 hnc hn fvS W k4
  obtain ⟨ma, hmae⟩ : ∃ q : Nat, m = a + q := ⟨m - a, by omega⟩
  have f1 : IntKind.i64.wrap ((m : Int) - (a : Int)) = (ma : Int) := by rw [HW.out _ (by omega) (by omega)]; omega
  have f1n : ((ma : Int) == 1) = false := by rw [beq_eq_false_iff_ne]; omega
  have f1m : ¬ ((ma : Int) = 1) := by omega
  obtain ⟨bm, hbme⟩ : ∃ q : Nat, b = m + q := ⟨b - m, by omega⟩
  have f2 : IntKind.i64.wrap ((b : Int) - (m : Int)) = (bm : Int) := by rw [HW.out _ (by omega) (by omega)]; omega
  have f2n : ((bm : Int) == 1) = false := by rw [beq_eq_false_iff_ne]; omega
  have f2m : ¬ ((bm : Int) = 1) := by omega
  obtain ⟨ab, habe⟩ : ∃ q : Nat, q = a + b := ⟨_, rfl⟩
  have f3 : IntKind.i64.wrap ((a : Int) + (b : Int)) = (ab : Int) := by rw [HW.out _ (by omega) (by omega)]; omega
  have f4 : IntKind.u64.wrap (ab : Int) = (ab : Int) := by rw [IntKind.wrap_u64]; omega
  obtain ⟨d, hd⟩ : ∃ q : Nat, q = ab / 2 := ⟨_, rfl⟩
  have f5 : (ab : Int) / 2 = (d : Int) := by omega
  have f6 : IntKind.i64.wrap (d : Int) = (d : Int) := HW.out _ (by omega) (by omega)
  have HD : Hid (d = (a + b) / 2) := by show _ = _; omega
  have hd1 : a < d := by omega
  have hd2 : d < b := by omega
  obtain ⟨dn, hdn⟩ : ∃ q : Nat, q = d + m := ⟨_, rfl⟩
  have f7 : IntKind.i64.wrap ((d : Int) + (m : Int)) = (dn : Int) := by rw [HW.out _ (by omega) (by omega)]; omega
  obtain ⟨pp, hpp⟩ : ∃ q : Nat, q = dn - 1 := ⟨_, rfl⟩
  have f8 : IntKind.i64.wrap ((dn : Int) - 1) = (pp : Int) := by rw [HW.out _ (by omega) (by omega)]; omega
  have HPP : Hid (pp + 1 = d + m ∧ dn = d + m) := ⟨by omega, hdn⟩
  obtain ⟨lo, hi, hlo⟩ : ∃ lo hi : Nat, (m ≤ d ∧ lo = a ∧ hi = m) ∨ (d < m ∧ lo = d + m - b ∧ hi = d) := by
    by_cases h : m ≤ d
    · exact ⟨a, m, .inl ⟨h, rfl, rfl⟩⟩
    · exact ⟨d + m - b, d, .inr ⟨by omega, rfl, rfl⟩⟩
  have HLO : Hid ((m ≤ d ∧ lo = a ∧ hi = m) ∨ (d < m ∧ lo = d + m - b ∧ hi = d)) := hlo
  have hlohi : lo ≤ hi := by omega
  have hhic : hi ≤ n := by omega
  have HBND : Hid (∀ x, lo ≤ x → x < hi → x ≤ pp ∧ pp - x < n) := fun x k1 k2 => by omega
  have HLOW : Hid (d < m → IntKind.i64.wrap ((dn : Int) - (b : Int)) = (lo : Int)) := fun h => by rw [HW.out _ (by omega) (by omega)]; omega
  clear hB h1 h2 hIH hmae hbme habe hd hdn hpp hma hbm
  go_enter Tryz.func242, Tryz.ntmps242
  go_upto_if 140 with fail
  go_cut [20, 21] (fun v20 v21 wx => v20 = .int .i64 (lo : Int) ∧ v21 = .int .i64 (hi : Int) ∧ V = wx)
  case first =>
    by_cases hmd : d < m
    · have q : (d : Int) < (m : Int) := by omega
      have e1 : hi = d := by omega
      have HE1 : Hid (hi = d) := e1
      have fl := HLOW.out hmd
      clear hlo e1
      go_wp2_with fail
      go_meet
      exact ⟨rfl, by rw [HE1.out], rfl⟩
    · have q : ¬ ((d : Int) < (m : Int)) := by omega
      have HE1 : Hid (lo = a ∧ hi = m) := by show _ ∧ _; omega
      clear hlo
      go_wp2_with fail
      go_meet
      exact ⟨by rw [HE1.out.1], by rw [HE1.out.2], rfl⟩
  case rest =>
    obtain ⟨rfl, rfl, rfl⟩ := hcut
    clear HLOW hlo f1 f1n f1m f2 f2n f2m f3 f4 f5 f6 f7
    as_aux_lemma =>
    go_wp2_with fail
    go_loopw [20, 21] (fun v20 v21 wr => Hid (∃ (i j : Nat), lo ≤ i ∧ i ≤ j ∧ j ≤ hi ∧ v20 = .int .i64 (i : Int) ∧ v21 = .int .i64 (j : Int) ∧ (i = lo ∨ ¬ LkL (EnS N S id (d + m - i)) (EnS N S id (i - 1))) ∧ (j = hi ∨ LkL (EnS N S id (d + m - 1 - j)) (EnS N S id j)) ∧ Blk wr g 36 (lbC tl cap N S) ∧ Turns (fun z => z = g) V wr)) (fun v20 v21 _ => (intOf v21).toNat - (intOf v20).toNat)
    case atStart => exact ⟨lo, hi, Nat.le_refl _, hlohi, Nat.le_refl _, rfl, rfl, .inl rfl, .inl rfl, H0.out, Turns.bel (Below.refl _ _)⟩
    case round =>
      obtain ⟨i, j, hmi, hij0, hjb, rfl, rfl, hl, hr, hBi, hTi⟩ := Hid.out hrel
      have HLR : Hid ((i = lo ∨ ¬ LkL (EnS N S id (d + m - i)) (EnS N S id (i - 1))) ∧ (j = hi ∨ LkL (EnS N S id (d + m - 1 - j)) (EnS N S id j))) := ⟨hl, hr⟩
      have HT : Hid (Turns (fun z => z = g) V wr) := hTi
      clear hrel hl hr hTi H0 f8
      by_cases hij1 : i < j
      · have q1 : (i : Int) < (j : Int) := by omega
        obtain ⟨ij, hij⟩ : ∃ q : Nat, q = i + j := ⟨_, rfl⟩
        have fij : IntKind.i64.wrap ((i : Int) + (j : Int)) = (ij : Int) := by rw [HW.out _ (by omega) (by omega)]; omega
        obtain ⟨h, hh⟩ : ∃ q : Nat, q = ij / 2 := ⟨_, rfl⟩
        have fu : IntKind.u64.wrap (ij : Int) = (ij : Int) := by rw [IntKind.wrap_u64]; omega
        have fh : (ij : Int) / 2 = (h : Int) := by omega
        have fhw : IntKind.i64.wrap (h : Int) = (h : Int) := HW.out _ (by omega) (by omega)
        have fh1 : IntKind.i64.wrap ((h : Int) + 1) = ((h + 1 : Nat) : Int) := by rw [HW.out _ (by omega) (by omega)]; omega
        have h1 : i ≤ h := by omega
        have h2 : h < j := by omega
        have hbn2 := HBND.out h (by omega) (by omega)
        obtain ⟨x, hx⟩ : ∃ q : Nat, q = pp - h := ⟨_, rfl⟩
        have fx : IntKind.i64.wrap ((pp : Int) - (h : Int)) = (x : Int) := by have := HPP.out; rw [HW.out _ (by omega) (by omega)]; omega
        have HX : Hid (x = d + m - 1 - h ∧ x = d + m - (h + 1)) := by have := HPP.out; show _ ∧ _; omega
        have hxc : x < cap := by omega
        have hxn : (x : Int) < (n : Int) := by omega
        have hx0 : (0 : Int) ≤ (x : Int) := by omega
        have hhc : h < cap := by omega
        have hhn : (h : Int) < (n : Int) := by omega
        have hh0 : (0 : Int) ≤ (h : Int) := by omega
        clear hij hh hx hbn2
        have HCM : Hid (∀ w : World, Calls Tryz.prog 175 #[.agg #[.int .i64 (N x), .string (S x)], .agg #[.int .i64 (N h), .string (S h)]] w fun e w' => e = .returned (.int .i64 (lcC (N x, S x) (N h, S h))) ∧ Below w.heap.size w w') := fun w => sortCmp_any _ _ _ _ w
        have HLC : Hid (lcC (N x, S x) (N h, S h) < 0 ↔ LkL (EnS N S id x) (EnS N S id h)) := Iff.rfl
        generalize lcC (N x, S x) (N h, S h) = cv at *
        have hBd : Blk wr.drew g 36 (lbC tl cap N S) := hBi.drew
        by_cases hcv : cv < 0
        · have hcd : decide (cv < 0) = true := decide_eq_true hcv
          have HR : Hid (h = hi ∨ LkL (EnS N S id (d + m - 1 - h)) (EnS N S id h)) := .inr (by rw [← HX.out.1]; exact HLC.out.1 hcv)
          as_aux_lemma =>
          go_wp2_with fail
          refine wp_region_partsS (fun U => Blk U g 36 (lbC tl cap N S)) [([0, 1, 2, 3, 7, 8, 9], 4, true), ([5], 6, true), ([], 10, false), ([], 11, false), ([], 12, false)] [13] [] (by kernel_rfl) (by kernel_rfl) hBd (partsI_yield ?_)
          simp only [sgLHNaCmp2]
          go_wp2_with fail
          first
            | refine ⟨rfl, _, .int .i64 (x : Int), rfl, Or.inl ⟨by rfl, fun U hU => by go_simp⟩, partsI_yield ?_⟩
            | refine ⟨rfl, .int .i64 (x : Int), Or.inl ⟨by rfl, fun U hU => by go_simp⟩, partsI_yield ?_⟩
          simp only [Act.put, sgPHNaCmp2]
          simp only [sgLHNaCmp2]
          go_wp2_with fail
          first
            | refine ⟨rfl, _, .agg #[.int .i64 (N x), .string (S x)], rfl, Or.inl ⟨by rfl, fun U hU => by have hW0 := lb_c0 hU x hxc; have hW1 := lb_c1 hU x hxc; go_simp⟩, partsI_force ?_⟩
            | refine ⟨rfl, .agg #[.int .i64 (N x), .string (S x)], Or.inl ⟨by rfl, fun U hU => by have hW0 := lb_c0 hU x hxc; have hW1 := lb_c1 hU x hxc; go_simp⟩, partsI_force ?_⟩
          simp only [Act.put, sgPHNaCmp2]
          simp only [sgLHNaCmp2]
          have d0 := lb_c0 hBd h hhc
          have d1 := lb_c1 hBd h hhc
          go_wp2_with fail
          clear d0 d1
          refine ⟨rfl, hBd, partsI_force ?_⟩
          simp only [sgLHNaCmp2]
          go_wp2_with fail
          refine (HCM.out _).mono ?_
          rintro e U1 ⟨rfl, hb1⟩
          have hB1 : Blk U1 g 36 (lbC tl cap N S) := hBd.below hb1 hBd.lt
          have hT1 : Turns (fun z => z = g) V U1 := HT.out.drew.tr (Turns.bel hb1)
          clear hb1
          go_wp2_with fail
          refine ⟨rfl, hB1, partsI_force ?_⟩
          simp only [sgLHNaCmp2]
          go_wp2_with fail
          refine ⟨rfl, hB1, partsI_last ?_⟩
          simp only [sgLHNaCmp2]
          go_wp2_with fail
          refine ⟨rfl, ?_⟩
          have HDD : Hid (_ ∧ _) := ⟨hB1, hT1⟩
          clear hBd hBi hB1 hT1 HCM
          go_wp2_with fail
          go_roundw
          case rel => exact ⟨i, h, hmi, h1, by omega, rfl, by first | rfl | go_num | simp, HLR.out.1, HR.out, HDD.out.1, HDD.out.2⟩
          case measure => simp [intOf]; omega
        · have hcd : decide (cv < 0) = false := decide_eq_false hcv
          have HR : Hid (h + 1 = lo ∨ ¬ LkL (EnS N S id (d + m - (h + 1))) (EnS N S id (h + 1 - 1))) := .inr (by rw [← HX.out.2]; exact fun q => hcv (HLC.out.2 q))
          as_aux_lemma =>
          go_wp2_with fail
          refine wp_region_partsS (fun U => Blk U g 36 (lbC tl cap N S)) [([0, 1, 2, 3, 7, 8, 9], 4, true), ([5], 6, true), ([], 10, false), ([], 11, false), ([], 12, false)] [13] [] (by kernel_rfl) (by kernel_rfl) hBd (partsI_yield ?_)
          simp only [sgLHNaCmp2]
          go_wp2_with fail
          first
            | refine ⟨rfl, _, .int .i64 (x : Int), rfl, Or.inl ⟨by rfl, fun U hU => by go_simp⟩, partsI_yield ?_⟩
            | refine ⟨rfl, .int .i64 (x : Int), Or.inl ⟨by rfl, fun U hU => by go_simp⟩, partsI_yield ?_⟩
          simp only [Act.put, sgPHNaCmp2]
          simp only [sgLHNaCmp2]
          go_wp2_with fail
          first
            | refine ⟨rfl, _, .agg #[.int .i64 (N x), .string (S x)], rfl, Or.inl ⟨by rfl, fun U hU => by have hW0 := lb_c0 hU x hxc; have hW1 := lb_c1 hU x hxc; go_simp⟩, partsI_force ?_⟩
            | refine ⟨rfl, .agg #[.int .i64 (N x), .string (S x)], Or.inl ⟨by rfl, fun U hU => by have hW0 := lb_c0 hU x hxc; have hW1 := lb_c1 hU x hxc; go_simp⟩, partsI_force ?_⟩
          simp only [Act.put, sgPHNaCmp2]
          simp only [sgLHNaCmp2]
          have d0 := lb_c0 hBd h hhc
          have d1 := lb_c1 hBd h hhc
          go_wp2_with fail
          clear d0 d1
          refine ⟨rfl, hBd, partsI_force ?_⟩
          simp only [sgLHNaCmp2]
          go_wp2_with fail
          refine (HCM.out _).mono ?_
          rintro e U1 ⟨rfl, hb1⟩
          have hB1 : Blk U1 g 36 (lbC tl cap N S) := hBd.below hb1 hBd.lt
          have hT1 : Turns (fun z => z = g) V U1 := HT.out.drew.tr (Turns.bel hb1)
          clear hb1
          go_wp2_with fail
          refine ⟨rfl, hB1, partsI_force ?_⟩
          simp only [sgLHNaCmp2]
          go_wp2_with fail
          refine ⟨rfl, hB1, partsI_last ?_⟩
          simp only [sgLHNaCmp2]
          go_wp2_with fail
          refine ⟨rfl, ?_⟩
          have HDD : Hid (_ ∧ _) := ⟨hB1, hT1⟩
          clear hBd hBi hB1 hT1 HCM
          go_wp2_with fail
          go_roundw
          case rel => exact ⟨h + 1, j, by omega, by omega, hjb, by first | rfl | go_num | simp, rfl, HR.out, HLR.out.2, HDD.out.1, HDD.out.2⟩
          case measure => simp [intOf]; omega
      · have q1 : ¬ ((i : Int) < (j : Int)) := by omega
        obtain rfl : i = j := by omega
        have HB0 : Hid (Blk wr g 36 (lbC tl cap N S)) := hBi
        obtain ⟨g1, g2, g3, g4, g5, g6, s1, s2, s3, s4, hx⟩ := sym_cut lk_T lk_A (f := EnS N S id) ham hmb HD.out HLO.out HSO.out.1 HSO.out.2 ⟨hmi, hjb⟩ HLR.out.1 HLR.out.2
        obtain ⟨en, hen⟩ : ∃ q : Nat, q = d + m - i := ⟨_, rfl⟩
        rw [← hen] at g4 g5 g6 s1 s2 s3 s4 hx
        rw [en_ro] at s1 s2 s3 s4 hx
        have fe : IntKind.i64.wrap ((dn : Int) - (i : Int)) = (en : Int) := by have := HPP.out; rw [HW.out _ (by omega) (by omega)]; omega
        have hse : i < d ↔ m < en := by omega
        have HS : Hid (So LkL (EnS N S (roF id i m en)) a i ∧ So LkL (EnS N S (roF id i m en)) i d ∧ So LkL (EnS N S (roF id i m en)) d en ∧ So LkL (EnS N S (roF id i m en)) en b ∧ Cr LkL (EnS N S (roF id i m en)) a d b) := ⟨s1, s2, s3, s4, hx⟩
        have HPM : Hid (Pm a b (roF id i m en)) := (ro_pm i m en g2 g4).wide g1 g6
        clear s1 s2 s3 s4 hx hBi hen HLR HSO HLO HBND
        as_aux_lemma =>
        go_upto_region 39 with fail
        go_cut [185] (fun v wx => v = .bool (decide (i < m ∧ m < en)) ∧ wr = wx)
        case first =>
          by_cases hc1 : i < m
          · have r1 : (i : Int) < (m : Int) := by omega
            by_cases hc2 : m < en
            · have r2 : (m : Int) < (en : Int) := by omega
              have e : decide (i < m ∧ m < en) = true := decide_eq_true ⟨hc1, hc2⟩
              go_wp2_with fail
              go_meet
              exact ⟨by rw [e], rfl⟩
            · have r2 : ¬ ((m : Int) < (en : Int)) := by omega
              have e : decide (i < m ∧ m < en) = false := decide_eq_false fun h => hc2 h.2
              go_wp2_with fail
              go_meet
              exact ⟨by rw [e], rfl⟩
          · have r1 : ¬ ((i : Int) < (m : Int)) := by omega
            have e : decide (i < m ∧ m < en) = false := decide_eq_false fun h => hc1 h.1
            go_wp2_with fail
            go_meet
            exact ⟨by rw [e], rfl⟩
        case rest =>
        obtain ⟨rfl, rfl⟩ := hcut
        obtain ⟨bA, hbA⟩ : ∃ x, x = decide (i < m ∧ m < en) := ⟨_, rfl⟩
        have HBA : Hid (bA = decide (i < m ∧ m < en)) := hbA
        rw [← hbA]
        clear hbA
        as_aux_lemma =>
        go_upto_if 185 with fail
        go_cut [20] (fun v20 wx => v20 = .int .i64 (i : Int) ∧ Hid (Blk wx g 36 (lbC tl cap (fun p => N (roF id i m en p)) (fun p => S (roF id i m en p))) ∧ Turns (fun z => z = g) V wx))
        case first =>
          cases bA
          · have hno := of_decide_eq_false HBA.out.symm
            have HF : Hid (Blk wr g 36 (lbC tl cap (fun p => N (roF id i m en p)) (fun p => S (roF id i m en p)))) := by
              show Blk _ _ _ _
              by_cases hc1 : i < m
              · have e2 : en = m := by omega
                rw [e2, ro_right id i m]; exact HB0.out
              · have e2 : i = m := by omega
                rw [e2, ro_left id m en]; exact HB0.out
            clear hno HBA
            go_wp2_with fail
            go_meet
            exact ⟨rfl, HF.out, HT.out⟩
          · obtain ⟨hc1, hc2⟩ := of_decide_eq_true HBA.out.symm
            have HC : Hid (Calls _ _ _ _ _) := HRO.out i en wr hc1 hc2 (by omega) HB0.out
            clear HBA
            go_wp2_with fail
            refine HC.out.mono ?_
            rintro e w2 ⟨rfl, hb2, ht2⟩
            have HF : Hid (_ ∧ _) := ⟨hb2, HT.out.tr ht2⟩
            clear hb2 ht2 HC
            go_wp2_with fail
            go_meet
            refine ⟨rfl, ?_, HF.out.2⟩
            have := HF.out.1
            rw [ro_at N, ro_at S] at this
            exact this
        case rest =>
          obtain ⟨rfl, hf⟩ := hcut
          have HF : Hid (Blk wc g 36 (lbC tl cap (fun p => N (roF id i m en p)) (fun p => S (roF id i m en p))) ∧ Turns (fun z => z = g) V wc) := hf.out
          clear hf HB0 HT HRO HBA bA
          generalize roF id i m en = rho at *
          as_aux_lemma =>
          go_upto_region 41 with fail
          go_cut [199] (fun v wx => v = .bool (decide (a < i ∧ i < d)) ∧ wc = wx)
          case first =>
            by_cases hc1 : a < i
            · have r1 : (a : Int) < (i : Int) := by omega
              by_cases hc2 : i < d
              · have r2 : (i : Int) < (d : Int) := by omega
                have e : decide (a < i ∧ i < d) = true := decide_eq_true ⟨hc1, hc2⟩
                go_wp2_with fail
                go_meet
                exact ⟨by rw [e], rfl⟩
              · have r2 : ¬ ((i : Int) < (d : Int)) := by omega
                have e : decide (a < i ∧ i < d) = false := decide_eq_false fun h => hc2 h.2
                go_wp2_with fail
                go_meet
                exact ⟨by rw [e], rfl⟩
            · have r1 : ¬ ((a : Int) < (i : Int)) := by omega
              have e : decide (a < i ∧ i < d) = false := decide_eq_false fun h => hc1 h.1
              go_wp2_with fail
              go_meet
              exact ⟨by rw [e], rfl⟩
          case rest =>
          obtain ⟨rfl, rfl⟩ := hcut
          obtain ⟨bA, hbA⟩ : ∃ x, x = decide (a < i ∧ i < d) := ⟨_, rfl⟩
          have HBA : Hid (bA = decide (a < i ∧ i < d)) := hbA
          rw [← hbA]
          clear hbA
          as_aux_lemma =>
          go_upto_if 199 with fail
          go_cut [20] (fun v20 wx => v20 = .int .i64 (i : Int) ∧ Hid (∃ s, Pm a d s ∧ Blk wx g 36 (lbC tl cap (fun p => N (rho (s p))) (fun p => S (rho (s p)))) ∧ So LkL (EnS N S (fun p => rho (s p))) a d ∧ Turns (fun z => z = g) V wx))
          case first =>
            cases bA
            · have hno := of_decide_eq_false HBA.out.symm
              have HG : Hid (So LkL (EnS N S rho) a d) := by
                show So _ _ _ _
                by_cases hc1 : a < i
                · have := HS.out.1; rwa [show i = d by omega] at this
                · have := HS.out.2.1; rwa [show i = a by omega] at this
              clear hno HBA
              go_wp2_with fail
              go_meet
              exact ⟨rfl, id, Pm.refl _ _, HF.out.1, HG.out, HF.out.2⟩
            · obtain ⟨hc1, hc2⟩ := of_decide_eq_true HBA.out.symm
              have HC : Hid (Calls _ _ _ _ _) := HIH.out a i d (fun p => N (rho p)) (fun p => S (rho p)) wc (by omega) hc1 hc2 (by omega) HF.out.1 HS.out.1 HS.out.2.1
              clear HBA
              go_wp2_with fail
              refine HC.out.mono ?_
              rintro e w2 ⟨rfl, s, hs, hb2, hso, ht2⟩
              have HG : Hid (_ ∧ _ ∧ _ ∧ _) := ⟨hs, hb2, hso, HF.out.2.tr ht2⟩
              clear hs hb2 hso ht2 HC
              go_wp2_with fail
              go_meet
              exact ⟨rfl, s, HG.out.1, HG.out.2.1, HG.out.2.2.1, HG.out.2.2.2⟩
          case rest =>
            obtain ⟨rfl, hf2⟩ := hcut
            obtain ⟨s, hs1, hs2, hs3, hs4⟩ := hf2.out
            have HG : Hid (_ ∧ _ ∧ _ ∧ _) := ⟨hs1, hs2, hs3, hs4⟩
            clear hf2 hs1 hs2 hs3 hs4 HF HBA bA
            as_aux_lemma =>
            by_cases hc1 : d < en
            · have r1 : (d : Int) < (en : Int) := by omega
              by_cases hc2 : en < b
              · have r2 : (en : Int) < (b : Int) := by omega
                have HC : Hid (Calls _ _ _ _ _) := HIH.out d en b (fun p => N (rho (s p))) (fun p => S (rho (s p))) _ (by omega) hc1 hc2 hbn HG.out.2.1 (HS.out.2.2.1.apart HG.out.1 (.inr (Nat.le_refl _))) (HS.out.2.2.2.1.apart HG.out.1 (.inr (by omega)))
                go_wp2_with fail
                refine HC.out.mono ?_
                rintro e w2 ⟨rfl, t, ht, hb2, hso, ht2⟩
                have HE : Hid (_ ∧ _ ∧ _ ∧ _) := ⟨ht, hb2, hso, HG.out.2.2.2.tr ht2⟩
                clear ht hb2 hso ht2 HC
                go_wp2_with fail
                go_end0
                exact ⟨rfl, fun p => rho (s (t p)), (HPM.out.comp (HG.out.1.wide (Nat.le_refl _) (by omega))).comp (HE.out.1.wide (by omega) (Nat.le_refl _)), HE.out.2.1, sym_done HG.out.1 HE.out.1 HS.out.2.2.2.2 HG.out.2.2.1 HE.out.2.2.1, HE.out.2.2.2⟩
              · have r2 : ¬ ((en : Int) < (b : Int)) := by omega
                have HE : Hid (So LkL (EnS N S (fun p => rho (s p))) d b) := by
                  have := HS.out.2.2.1.apart HG.out.1 (.inr (Nat.le_refl _))
                  rw [show en = b by omega] at this
                  exact this
                go_wp2_with fail
                go_end0
                exact ⟨rfl, fun p => rho (s p), HPM.out.comp (HG.out.1.wide (Nat.le_refl _) (by omega)), HG.out.2.1, sym_done (t := id) HG.out.1 (Pm.refl _ _) HS.out.2.2.2.2 HG.out.2.2.1 HE.out, HG.out.2.2.2⟩
            · have r1 : ¬ ((d : Int) < (en : Int)) := by omega
              have HE : Hid (So LkL (EnS N S (fun p => rho (s p))) d b) := by
                have := HS.out.2.2.2.1.apart HG.out.1 (.inr (by omega))
                rw [show en = d by omega] at this
                exact this
              go_wp2_with fail
              go_end0
              exact ⟨rfl, fun p => rho (s p), HPM.out.comp (HG.out.1.wide (Nat.le_refl _) (by omega)), HG.out.2.1, sym_done (t := id) HG.out.1 (Pm.refl _ _) HS.out.2.2.2.2 HG.out.2.2.1 HE.out, HG.out.2.2.2⟩
theorem sym_any (tl : Array Value) (g n c cap : Nat) (hnc : n ≤ cap) (hn : n ≤ 1000000000000000) : SymC tl g n c cap fvS LkL := by
  have key : ∀ k, SymIH tl g n c cap k := by
    intro k
    induction k with
    | zero => intro a' m' b' N' S' V' hk; omega
    | succ k ih =>
      intro a m b N S V hk ham hmb hbn hB h1 h2
      by_cases c1 : m = a + 1
      · exact sym_one tl g n c cap hnc hn a m b N S V c1 hmb hbn hB h2
      · by_cases c2 : b = m + 1
        · exact sym_last tl g n c cap hnc hn a m b N S V ham c1 c2 hbn hB h1
        · refine sym_gen tl g n c cap hnc hn a m b N S V ham hmb c1 c2 hbn hB h1 h2 ?_
          intro a' m' b' N' S' V' hk'
          exact ih a' m' b' N' S' V' (by omega)
  intro a m b N S V ham hmb hbn hB h1 h2
  exact key (b - a + 1) a m b N S V (by omega) ham hmb hbn hB h1 h2
end Go.Proofs.YtojnlmfahgeidaaGreatDoor

namespace Go.Proofs.YtojnlmfahgeidaaGreatDoor
set_option maxRecDepth 20000
open Go Go.RowKit
set_option linter.unusedVariables false
set_option linter.unusedSimpArgs false
theorem lkL_at (N : Nat → Int) (S : Nat → ByteArray) : ∀ (n i : Nat), i < n → (lkL N S n)[i * 2]? = some (.int .i64 (N i)) ∧ (lkL N S n)[i * 2 + 1]? = some (.string (S i))
  | 0, i, h => absurd h (Nat.not_lt_zero _)
  | n + 1, i, h => by
    have hl := lkL_len N S n
    by_cases e : i = n
    · subst e
      rw [lkL, List.getElem?_append_right (by omega), List.getElem?_append_right (by omega), hl]
      rw [show i * 2 - i * 2 = 0 from by omega, show i * 2 + 1 - i * 2 = 1 from by omega]
      exact ⟨rfl, rfl⟩
    · rw [lkL, List.getElem?_append_left (by omega), List.getElem?_append_left (by omega)]
      exact lkL_at N S n i (by omega)
theorem own_lk {w : World} {B t g n cap : Nat} {N : Nat → Int} {S : Nat → ByteArray} (h : w.ownsRow B t 2 (.slice (some ⟨g, 0, none⟩) n cap) n (lkL N S n)) : IsLk w g n N S := fun i hi => by
  rw [h.cellAt (i * 2) (by omega), h.cellAt (i * 2 + 1) (by omega)]
  exact lkL_at N S n i hi
end Go.Proofs.YtojnlmfahgeidaaGreatDoor

namespace Go.Proofs.YtojnlmfahgeidaaGreatDoor
open Go Go.RowKit Go.Nam
set_option linter.unusedVariables false
set_option linter.unusedSimpArgs false
theorem va_lb (N : Nat → Int) (S : Nat → ByteArray) : ∀ n, (va (n * 2) (lbF N S)).toList = lkL N S n
  | 0 => by simp [va, lkL]
  | n + 1 => by
    have ih := va_lb N S n
    unfold va at ih ⊢
    rw [show (n + 1) * 2 = n * 2 + 1 + 1 by omega, List.range_succ, List.range_succ]
    simp only [List.map_append, List.map_cons, List.map_nil]
    simp only at ih
    rw [lkL, ← ih, List.append_assoc]
    have e0 : lbF N S (n * 2) = .int .i64 (N n) := by unfold lbF; rw [if_pos (by omega), show n * 2 / 2 = n by omega]
    have e1 : lbF N S (n * 2 + 1) = .string (S n) := by unfold lbF; rw [if_neg (by omega), show (n * 2 + 1) / 2 = n by omega]
    rw [e0, e1]
    rfl
theorem own_lb {w : World} {B n cap g : Nat} {N : Nat → Int} {S : Nat → ByteArray} (h : w.ownsRow B 36 2 (.slice (some ⟨g, 0, none⟩) n cap) n (lkL N S n)) : ∃ tl : Array Value, Blk w g 36 (lbC tl n N S) ∧ tl.size = (cap - n) * 2 ∧ n ≤ cap ∧ cap ≤ maxLen ∧ B ≤ g := by
  rcases h.2 with ⟨hv, _⟩ | ⟨g', cap', cur, hv, hB, hg, hn, hm, hs, ht⟩
  · cases hv
  · cases hv
    refine ⟨(cur.toList.drop (n * 2)).toArray, ?_, ?_, hn, hm, hB⟩
    · have e : lbC (cur.toList.drop (n * 2)).toArray n N S = cur := by
        apply Array.ext'
        unfold lbC
        rw [Array.toList_append, va_lb, ← ht]
        simp
      rw [e]
      exact hg
    · simp
      rw [hs]
      omega
theorem lb_own {w : World} {B n cap g : Nat} {N : Nat → Int} {S : Nat → ByteArray} {tl : Array Value} (h : Blk w g 36 (lbC tl n N S)) (ht : tl.size = (cap - n) * 2) (hn : n ≤ cap) (hm : cap ≤ maxLen) (hB : B ≤ g) : w.ownsRow B 36 2 (.slice (some ⟨g, 0, none⟩) n cap) n (lkL N S n) := by
  refine ⟨lkL_len N S n, .inr ⟨g, cap, _, rfl, hB, h, hn, hm, ?_, ?_⟩⟩
  · unfold lbC
    rw [Array.size_append, va_size, ht]
    omega
  · unfold lbC
    rw [Array.toList_append, va_lb, List.take_append_of_le_length (by rw [lkL_len]; exact Nat.le_refl _), List.take_of_length_le (by rw [lkL_len]; exact Nat.le_refl _)]
theorem own_lkc {w : World} {B t n : Nat} {v : Value} {N : Nat → Int} {S : Nat → ByteArray} (h : w.ownsRow B t 2 v n (lkL N S n)) : ∃ a c, v = .slice a n c ∧ IsLkC w a n N S ∧ (a = none → n = 0 ∧ c = 0) := by
  rcases h.2 with ⟨rfl, rfl⟩ | ⟨g, cap, cur, rfl, hB, hg, hn, hm, hs, ht⟩
  · exact ⟨none, 0, rfl, fun i hi => by omega, fun _ => ⟨rfl, rfl⟩⟩
  · refine ⟨some ⟨g, 0, none⟩, cap, rfl, fun i hi => ⟨g, 0, rfl, (Array.getElem?_eq_some_iff.1 hg).1, ?_, ?_⟩, fun e => by cases e⟩
    · rw [Nat.zero_add]; exact (own_lk h i hi).1
    · rw [Nat.zero_add]; exact (own_lk h i hi).2
theorem eq_lks_nil (d : Nat) (p : Option Addr) (n cap : Nat) (w : World) : (Op.equalIn (d + 1) 49 (.slice p n cap) (.slice none 0 0)).run Tryz.prog w = .ok p.isNone w := by
  cases p <;> simp [Op.equalIn, run_underlying Tryz.underlying49]
theorem lks_nil (p : Option Addr) (n cap : Nat) (w : World) : Sem.run Tryz.prog (binOp .eql 49 (.slice p n cap) (.slice none 0 0)) w = .ok (.bool p.isNone) w := by
  simp only [binOp]
  simp [show Op.equal 49 (.slice p n cap) (.slice none 0 0) = Op.equalIn (9999 + 1) 49 (.slice p n cap) (.slice none 0 0) from rfl, eq_lks_nil 9999 p n cap w]
set_option maxRecDepth 100000 in
set_option maxHeartbeats 4000000 in
theorem clone_lks (a : Option Addr) (n c : Nat) (N : Nat → Int) (S : Nat → ByteArray) (hn : n * 24 ≤ 140737488355328) (w : World) (hI : IsLkC w a n N S) (ha : a = none → n = 0 ∧ c = 0) :
    Calls Tryz.prog 173 #[.slice a n c] w fun e w' => ∃ v, e = .returned v ∧ w'.ownsRow w.heap.size 36 2 v n (lkL N S n) ∧ Below w.heap.size w w' := by
  obtain ⟨i0, hi0, hz0, hz1, hz2⟩ := info_parts infoLk
  cases a with
  | none =>
    obtain ⟨rfl, rfl⟩ := ha rfl
    have hnl := lks_nil none 0 0
    have hin : (none : Option Addr).isNone = true := rfl
    go_enter Tryz.func173, Tryz.ntmps173
    go_wp2_with fail
    go_ret
    exact ⟨_, rfl, World.ownsRow_nil _ _ _ _, Below.refl _ _⟩
  | some ad =>
    have HE : Hid ((w.alloc (.cells #[] 36)).ownsRow w.heap.size 36 2 (.slice (some ⟨w.heap.size, 0, none⟩) 0 0) 0 []) := kown_empty (Blk.new w 36 #[]) (Nat.le_refl _)
    have hb0 : Below w.heap.size w (w.alloc (.cells #[] 36)) := (Below.refl _ w).alloc (Nat.le_refl _) _
    have HI : Hid (IsLkC (w.alloc (.cells #[] 36)) (some ad) n N S) := hI.below hb0
    have HB : Hid (Below w.heap.size w (w.alloc (.cells #[] 36))) := hb0
    have HA : Hid ((some ad : Option Addr) = none → n = 0 ∧ c = 0) := fun h => by cases h
    have hnl := lks_nil (some ad) n c
    have hin : (some ad).isNone = false := rfl
    clear hI hb0 ha
    go_enter Tryz.func173, Tryz.ntmps173
    go_wp2_with (first
      | (at_builtin; refine wpList_append_links rfl _ _ 49 rfl w.heap.size 36 i0 (.agg #[.int .i64 0, .string ⟨#[]⟩]) Tryz.underlying49 hi0 hz0 hz1 hz2 rfl _ rfl HE.out (some ad) n c N S rfl HI.out HA.out hn (by simp) ?_)
      | fail)
    intro v' w' ho hb
    have HO : Hid (w'.ownsRow w.heap.size 36 2 v' n (lkL N S n) ∧ Below w.heap.size w w') := ⟨ho, HB.out.trans (hb.mono (Nat.le_refl _))⟩
    clear ho hb
    go_wp2_with fail
    go_ret
    exact ⟨_, rfl, HO.out.1, HO.out.2⟩
set_option maxRecDepth 100000 in
theorem ins_zero (a : Option Addr) (c : Nat) (V : World) : Calls Tryz.prog 241 #[.slice a 0 c, .int .i64 0, .int .i64 0, fvS] V fun e w' => e = .returned (.tuple #[]) ∧ V = w' := by
  have h1 : IntKind.i64.wrap ((0 : Int) + 1) = 1 := by decide
  go_enter Tryz.func241, Tryz.ntmps241
  go_wp2_with fail
  go_loopw [8] (fun v8 wr => v8 = .int .i64 1 ∧ V = wr) (fun _ _ => 0)
  case atStart => exact ⟨by first | rfl | simp, rfl⟩
  case round =>
    obtain ⟨rfl, rfl⟩ := hrel
    go_wp2_with fail
    go_end0
    exact ⟨rfl, rfl⟩
set_option maxRecDepth 100000 in
theorem sort_zero (a : Option Addr) (c : Nat) (V : World) : Calls Tryz.prog 219 #[.slice a 0 c, .int .i64 0, fvS] V fun e w' => e = .returned (.tuple #[]) ∧ V = w' := by
  have HI : Hid (∀ V : World, Calls Tryz.prog 241 #[.slice a 0 c, .int .i64 0, .int .i64 0, fvS] V fun e w' => e = .returned (.tuple #[]) ∧ V = w') := ins_zero a c
  go_enter Tryz.func219, Tryz.ntmps219
  go_wp2_with fail
  go_loopw [7, 8] (fun v7 v8 wr => v7 = .int .i64 0 ∧ v8 = .int .i64 20 ∧ V = wr) (fun _ _ _ => 0)
  case atStart => exact ⟨by first | rfl | simp, by first | rfl | simp, rfl⟩
  case round =>
    obtain ⟨rfl, rfl, rfl⟩ := hrel
    go_wp2_with fail
    refine (HI.out _).mono ?_
    rintro e w9 ⟨rfl, rfl⟩
    go_wp2_with fail
    go_loopw [6] (fun v6 wr => v6 = .int .i64 20 ∧ V = wr) (fun _ _ => 0)
    case atStart => exact ⟨by first | rfl | simp, rfl⟩
    case round =>
      obtain ⟨rfl, rfl⟩ := hrel
      go_wp2_with fail
      go_end0
      exact ⟨rfl, rfl⟩
/-- entries in place, sorted -/
theorem sortF_any (v : Value) (n B : Nat) (N : Nat → Int) (S : Nat → ByteArray) (hn : n ≤ 1000000000000000) (w : World) (h : w.ownsRow B 36 2 v n (lkL N S n)) :
    Calls Tryz.prog 174 #[v, fvS] w fun e w' => e = .returned (.tuple #[]) ∧ ∃ s, Pm 0 n s ∧ w'.ownsRow B 36 2 v n (lkL (fun p => N (s p)) (fun p => S (s p)) n) ∧ So LkL (EnS N S s) 0 n ∧ Turns (fun z => v.ownBlock = some z) w w' := by
  obtain ⟨a, c, rfl⟩ := kown_slice h
  have HX : Hid (Calls Tryz.prog 219 #[.slice a n c, .int .i64 (n : Int), fvS] w fun e w' => e = .returned (.tuple #[]) ∧ ∃ s, Pm 0 n s ∧ w'.ownsRow B 36 2 (.slice a n c) n (lkL (fun p => N (s p)) (fun p => S (s p)) n) ∧ So LkL (EnS N S s) 0 n ∧ Turns (fun z => (Value.slice a n c).ownBlock = some z) w w') := by
    show Calls _ _ _ _ _
    by_cases h0 : n = 0
    · subst h0
      refine (sort_zero a c w).mono ?_
      rintro e w' ⟨rfl, rfl⟩
      exact ⟨rfl, id, Pm.refl _ _, h, fun p q _ _ h3 => by omega, Turns.bel (Below.refl _ _)⟩
    · obtain ⟨g, cap, e, _⟩ := kown_form h (by omega)
      injection e with e1 _ e3
      subst e1 e3
      obtain ⟨tl, hB, h1, h2, h3, h4⟩ := own_lb h
      refine (stable_any tl g n c n fvS LkL (ins_any tl g n c n (Nat.le_refl _) hn) (sym_any tl g n c n (Nat.le_refl _) hn) N S hn w hB).mono ?_
      rintro e w' ⟨rfl, s, hs, hb, hso, ht⟩
      exact ⟨rfl, s, hs, lb_own hb h1 h2 h3 h4, hso, ⟨ht.os, ht.tape, ht.output, ht.size, fun z hz hq => ht.block z hz fun e => hq (by rw [e]; rfl)⟩⟩
  clear h
  go_enter Tryz.func174, Tryz.ntmps174
  go_wp2_with fail
  refine HX.out.mono ?_
  rintro e w' ⟨rfl, hh⟩
  have HH : Hid _ := hh
  clear hh
  go_wp2_with fail
  go_end0
  exact ⟨rfl, HH.out⟩
set_option maxRecDepth 100000 in
set_option maxHeartbeats 4000000 in
theorem sorted_any (a : Option Addr) (n c : Nat) (N : Nat → Int) (S : Nat → ByteArray) (hn : n * 24 ≤ 140737488355328) (w : World) (hI : IsLkC w a n N S) (ha : a = none → n = 0 ∧ c = 0) :
    Calls Tryz.prog 120 #[.slice a n c] w fun e w' => ∃ v s, e = .returned v ∧ Pm 0 n s ∧ w'.ownsRow w.heap.size 36 2 v n (lkL (fun p => N (s p)) (fun p => S (s p)) n) ∧ So LkL (EnS N S s) 0 n ∧ Below w.heap.size w w' := by
  have HC : Hid (Calls Tryz.prog 173 #[.slice a n c] w fun e w' => ∃ v, e = .returned v ∧ w'.ownsRow w.heap.size 36 2 v n (lkL N S n) ∧ Below w.heap.size w w') := clone_lks a n c N S hn w hI ha
  have hnn : n ≤ 1000000000000000 := by omega
  have HN : Hid (n ≤ 1000000000000000) := hnn
  clear hI ha hn hnn
  go_enter Tryz.func120, Tryz.ntmps120
  go_wp2_with fail
  refine HC.out.mono ?_
  rintro e w1 ⟨v, rfl, ho, hb⟩
  have hlt := ho.lt
  have HS : Hid (_ ∧ ∀ z, v.ownBlock = some z → w.heap.size ≤ z) := ⟨sortF_any v n w.heap.size N S HN.out w1 ho, fun z hz => (hlt z hz).1⟩
  have HB : Hid (Below w.heap.size w w1) := hb
  clear ho hb hlt HC
  go_wp2_with fail
  refine HS.out.1.mono ?_
  rintro e w2 ⟨rfl, s, hs, ho, hso, ht⟩
  have HH : Hid (_ ∧ _ ∧ _ ∧ Below w.heap.size w w2) := ⟨hs, ho, hso, HB.out.trans (ht.below HB.out.size fun z hz => HS.out.2 z hz)⟩
  clear hs ho hso ht
  go_wp2_with fail
  go_ret
  first | exact ⟨_, s, rfl, HH.out.1, HH.out.2.1, HH.out.2.2.1, HH.out.2.2.2⟩ | exact ⟨_, rfl, s, HH.out.1, HH.out.2.1, HH.out.2.2.1, HH.out.2.2.2⟩
end Go.Proofs.YtojnlmfahgeidaaGreatDoor

namespace Go.Proofs.YtojnlmfahgeidaaGreatDoor
open Go Go.RowKit Go.Nam
set_option linter.unusedSimpArgs false
set_option linter.unusedVariables false
theorem wpList_append_lks_at {P : Program} {ops : Array Oper} {rest : List Oper} {o : Oper} {a : Act} {w : World} {Q : Exit → Act → World → Prop} (hgd : o.guard = none) (s x : Operand) (t : TypeId)
    (ho : o.op = .call { callee := .builtin .append, args := #[s, x], argTypes := #[t, t] }) (B : Nat) (e : TypeId) (i : TypeInfo) (z : Value) (ht : P.underlying t = some (.slice e)) (hi : P.info? e = some i) (hz : i.zero = some z) (hsize : i.size = 2) (hby : i.bytes = 24) (hzs : z.cells.size = 2)
    (v : Value) (A : List Lk) (k : Nat) (hk : k = A.length) (hs : a.eval s = v) (hown : w.ownsRow B e 2 v k (lkR A)) (b of m c : Nat) (M : List Lk) (hm : m = M.length) (hx : a.eval x = .slice (some ⟨b, of, none⟩) m c) (hA : IsR w b of M) (hn : (A.length + M.length) * 24 ≤ 140737488355328) (hbase : B ≤ w.heap.size)
    (h : ∀ v' w', w'.ownsRow B e 2 v' (k + m) (lkR (A ++ M)) → w.grownBy w' v.ownBlock → (v'.ownBlock = v.ownBlock ∨ v'.ownBlock = some w.heap.size) → wpList P ops Q rest (a.put o.dst v') w') : wpList P ops Q (o :: rest) a w := by
  refine wpList_append_own_at hgd s x t ho B e i z 2 24 ht hi hz hsize hby hzs (by decide) v k (lkR A) hs hown ⟨b, of, none⟩ m c (lkR M) hx (by rw [lkR_len, hm]) (fun j u hu => ?_) (lkR_mem M) (by unfold maxLen; omega) (by omega) hbase fun v' w' h1 h2 h4 => ?_
  · rw [Addr.add_mid]; exact hA j u hu
  · rw [← lkR_app] at h1
    exact h v' w' h1 h2 h4
theorem thoseA (N : Nat → Int) (S : Nat → ByteArray) (k q : Nat) (h : 4 * q < k) (pr : Lk → Bool) : (liR N S (min (4 * (q + 1)) k)).filter pr = (liR N S (min (4 * q) k)).filter pr ++ (liR (shN N q) (shS S q) (inLf k q)).filter pr := by
  rw [← List.filter_append]
  congr 1
  have e1 : min (4 * q) k = 4 * q := by omega
  have e2 : min (4 * (q + 1)) k = 4 * q + inLf k q := by unfold inLf; omega
  rw [e1, e2]
  unfold liR
  rw [List.range_add, List.map_append, List.map_map]
  rfl
section
variable {w : World} {x mf ml mc : Nat} {cp : Option Addr} {top : Int} {H : Nat → Hd} {D : Nat → Nat → Nat → Nat} {n k st : Nat} {N : Nat → Int} {S : Nat → ByteArray}
end
end Go.Proofs.YtojnlmfahgeidaaGreatDoor

namespace Go.Proofs.YtojnlmfahgeidaaGreatDoor
set_option maxRecDepth 20000
open Go Go.RowKit Go.Nam
set_option linter.unusedVariables false
set_option linter.unusedSimpArgs false
set_option maxHeartbeats 4000000 in
theorem rcompare_big (a b : ByteArray) (ha : a.size ≤ 9223372036854775807) (hb : b.size ≤ 9223372036854775807) (w : World) :
    Calls Tryz.prog 28 #[.string a, .string b] w fun e w' => e = .returned (.int .i64 (Lib.compareBytes a.data.toList b.data.toList)) ∧ ∃ n, w' = w.drewN n := by
  have HAL : Hid (a.size = a.data.toList.length) := Lib.size_eq a
  have HBL : Hid (b.size = b.data.toList.length) := Lib.size_eq b
  generalize hc : Lib.compareBytes a.data.toList b.data.toList = c
  have HC : Hid (Lib.compareBytes a.data.toList b.data.toList = c) := hc
  clear hc
  go_enter Tryz.func28, Tryz.ntmps28
  go_wp2_with fail
  go_loopw [5] (fun v wr => Hid (∃ i : Nat, i ≤ a.size ∧ i ≤ b.size ∧ v = .int .i64 (i : Int) ∧ Lib.compareBytes (a.data.toList.drop i) (b.data.toList.drop i) = c ∧ ∃ n, wr = w.drewN n)) (fun v _ => a.size - (intOf v).toNat)
  case atStart => exact ⟨0, by omega, by omega, rfl, HC.out, 0, rfl⟩
  case round =>
    obtain ⟨i, hia, hib, rfl, hcc, nd, rfl⟩ := Hid.out hrel
    have HI : Hid (Lib.compareBytes (a.data.toList.drop i) (b.data.toList.drop i) = c) := hcc
    clear hrel hcc HC
    have fin : Hid (∀ n, ∃ m, (w.drewN nd).drewN n = w.drewN m) := fun n => ⟨_, World.drewN_drewN _ _ _⟩
    by_cases h1 : i < a.size
    · have i1 : (i : Int) < (a.size : Int) := by omega
      by_cases h2 : i < b.size
      · have i2 : (i : Int) < (b.size : Int) := by omega
        obtain ⟨x, hx⟩ : ∃ x : UInt8, a[i]'h1 = x := ⟨_, rfl⟩
        obtain ⟨y, hy⟩ : ∃ y : UInt8, b[i]'h2 = y := ⟨_, rfl⟩
        have HX : Hid (a.data.toList[i]? = some x) := by show _ = _; rw [← hx]; exact Lib.data_getElem? a i h1
        have HY : Hid (b.data.toList[i]? = some y) := by show _ = _; rw [← hy]; exact Lib.data_getElem? b i h2
        have HN : Hid ((if x < y then (-1 : Int) else if y < x then 1 else Lib.compareBytes (a.data.toList.drop (i + 1)) (b.data.toList.drop (i + 1))) = c) := by
          have := HI.out
          rw [dropAt HX.out, dropAt HY.out] at this
          exact this
        clear HI HX HY
        by_cases c1 : x < y
        · have l1 : (x.toNat : Int) < (y.toNat : Int) := by have := UInt8.lt_iff_toNat_lt.1 c1; omega
          obtain rfl : -1 = c := by have := HN.out; rwa [if_pos c1] at this
          clear HN c1
          go_wp2_with fail
          go_quiet (fail)
          go_wp2_with fail
          go_ret
          exact ⟨rfl, fin.out _⟩
        · have l1 : ¬ ((x.toNat : Int) < (y.toNat : Int)) := by intro h; exact c1 (UInt8.lt_iff_toNat_lt.2 (by omega))
          by_cases c2 : y < x
          · have l2 : (y.toNat : Int) < (x.toNat : Int) := by have := UInt8.lt_iff_toNat_lt.1 c2; omega
            obtain rfl : 1 = c := by have := HN.out; rwa [if_neg c1, if_pos c2] at this
            clear HN c1 c2
            go_wp2_with fail
            go_quiet (fail)
            have fin2 : Hid (∀ n, ∃ m, ((w.drewN nd).drewN nq).drewN n = w.drewN m) := fun n => ⟨_, by rw [World.drewN_drewN, World.drewN_drewN]⟩
            generalize (w.drewN nd).drewN nq = w3 at fin2 ⊢
            go_wp2_with fail
            go_quiet (fail)
            go_wp2_with fail
            go_ret
            exact ⟨rfl, fin2.out _⟩
          · have l2 : ¬ ((y.toNat : Int) < (x.toNat : Int)) := by intro h; exact c2 (UInt8.lt_iff_toNat_lt.2 (by omega))
            have HM : Hid (Lib.compareBytes (a.data.toList.drop (i + 1)) (b.data.toList.drop (i + 1)) = c) := by have := HN.out; rwa [if_neg c1, if_neg c2] at this
            clear HN c1 c2
            go_wp2_with fail
            go_quiet (fail)
            have fin2 : Hid (∀ n, ∃ m, ((w.drewN nd).drewN nq).drewN n = w.drewN m) := fun n => ⟨_, by rw [World.drewN_drewN, World.drewN_drewN]⟩
            generalize (w.drewN nd).drewN nq = w3 at fin2 ⊢
            go_wp2_with fail
            go_quiet (fail)
            go_wp2_with fail
            go_roundw
            case rel => exact ⟨i + 1, by omega, by omega, by first | rfl | go_num | simp, HM.out, fin2.out _⟩
            case measure => simp [intOf]; omega
      · have i2 : ¬ ((i : Int) < (b.size : Int)) := by omega
        obtain rfl : 1 = c := (cmp_nil_drop i (by rw [← HAL.out]; exact h1) (by rw [← HBL.out]; omega)).symm.trans HI.out
        have l1 : ¬ ((a.size : Int) < (b.size : Int)) := by omega
        have l2 : (b.size : Int) < (a.size : Int) := by omega
        go_wp2_with fail
        go_ret
        exact ⟨rfl, nd, rfl⟩
    · have i1 : ¬ ((i : Int) < (a.size : Int)) := by omega
      by_cases h2 : i < b.size
      · obtain rfl : -1 = c := (cmp_drop_nil i (by rw [← HBL.out]; exact h2) (by rw [← HAL.out]; omega)).symm.trans HI.out
        have l1 : (a.size : Int) < (b.size : Int) := by omega
        go_wp2_with fail
        go_ret
        exact ⟨rfl, nd, rfl⟩
      · obtain rfl : 0 = c := (cmp_nil_nil i (by rw [← HAL.out]; omega) (by rw [← HBL.out]; omega)).symm.trans HI.out
        have l1 : ¬ ((a.size : Int) < (b.size : Int)) := by omega
        have l2 : ¬ ((b.size : Int) < (a.size : Int)) := by omega
        go_wp2_with fail
        go_ret
        exact ⟨rfl, nd, rfl⟩
end Go.Proofs.YtojnlmfahgeidaaGreatDoor
