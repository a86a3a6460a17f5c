/- The document's Unlike: reference by reference put where it belongs. -/
import Derived.Test.YtednfpponkaelaaHSegsS
import Derived.Test.YtednfpponkaelaaHBlkOpen
import Derived.Test.YtednfpponkaelaaHSegsP
import Derived.BigQuiet
import Derived.Deep.QuietTactic
import Derived.Handy

namespace Go.Proofs.Ytednfpponkaelaa
open Go Go.RowKit Go.Nam Go.Sort
set_option linter.unusedVariables false
set_option linter.unusedSimpArgs false
theorem nkownBel {w w' : World} {B e size n : Nat} {v : Value} {xs : List Value} (h : w.ownsRow B e size v n xs) (hb : Below w.heap.size w w') : w'.ownsRow B e size v n xs := by
  refine ⟨h.1, ?_⟩
  rcases h.2 with hn | ⟨g, cap, cur, rfl, hg, hgg, rest⟩
  · exact .inl hn
  · exact .inr ⟨g, cap, cur, rfl, hg, (hb.block g (Array.getElem?_eq_some_iff.1 hgg).1).trans hgg, rest⟩
theorem inR_new {R : List Rf} {x : Rf} {k : Nat} (hk : plR R x = k) (h : R[k]? ≠ some x) : inR R x = R.take k ++ ([x] ++ R.drop k) := by
  unfold inR
  rw [hk, if_neg h]
  rfl
theorem inR_old {R : List Rf} {x : Rf} {k : Nat} (hk : plR R x = k) (h : R[k]? = some x) : inR R x = R := by
  unfold inR
  rw [hk, if_pos h]
set_option maxRecDepth 100000 in
set_option maxHeartbeats 8000000 in
theorem runlike_any (b c : Nat) (L : List Rf) (hn : L.length * 36 ≤ 140737488355328) (w : World) (hb : b < w.heap.size) (hI : IsF w b 0 L) :
    Calls Try.prog 8 #[.slice (some ⟨b, 0, none⟩) L.length c] w fun e w' => ∃ (g2 c2 : Nat), e = .returned (.slice (some ⟨g2, 0, none⟩) (unR L).length c2) ∧ w'.ownsRow w.heap.size 27 33 (.slice (some ⟨g2, 0, none⟩) (unR L).length c2) (unR L).length (rfR (unR L)) ∧ Below w.heap.size w w' := by
  obtain ⟨i0, hi0, hz0, hz1, hz2⟩ := info_parts infoQf
  obtain ⟨n, hln⟩ : ∃ n, L.length = n := ⟨_, rfl⟩
  have HI : Hid (IsF w b 0 L ∧ b < w.heap.size ∧ L.length = n) := ⟨hI, hb, hln⟩
  rw [hln] at hn ⊢
  have nb : (n : Int) ≤ 10000000000000 := by omega
  have HO0 : Hid ((w.alloc (.cells #[] 27)).ownsRow w.heap.size 27 33 (.slice (some ⟨w.heap.size, 0, none⟩) 0 0) 0 (rfR []) ∧ Below w.heap.size w (w.alloc (.cells #[] 27))) := ⟨kown_empty (Blk.new w 27 #[]) (Nat.le_refl _), (Below.refl _ w).alloc (Nat.le_refl _) _⟩
  clear hI hb hln
  go_enter Try.func8, Try.ntmps8
  go_wp2_with fail
  go_loopw [3, 4] (fun v3 v4 wr => Hid (∃ (i go r co : Nat) (R : List Rf), i ≤ n ∧ v3 = .slice (some ⟨go, 0, none⟩) r co ∧ v4 = .int .i64 (i : Int) ∧ R.length = r ∧ R = unR (L.take i) ∧ wr.ownsRow w.heap.size 27 33 (.slice (some ⟨go, 0, none⟩) r co) r (rfR R) ∧ Below w.heap.size w wr)) (fun v3 v4 _ => n - (intOf v4).toNat)
  case atStart => exact ⟨0, w.heap.size, 0, 0, [], Nat.zero_le _, rfl, rfl, rfl, rfl, HO0.out.1, HO0.out.2⟩
  case round =>
    obtain ⟨WR, rfl⟩ : ∃ u, u = wr := ⟨_, rfl⟩
    obtain ⟨i, go, r, co, R, hin, rfl, rfl, hRl, hRu, hown, hb⟩ := Hid.out hrel
    have HR : Hid (R.length = r ∧ R = unR (L.take i)) := ⟨hRl, hRu⟩
    have hri : r ≤ i := by
      have h1 := unR_len (L.take i)
      rw [← hRu, List.length_take] at h1
      omega
    have HOW : Hid (WR.ownsRow w.heap.size 27 33 (.slice (some ⟨go, 0, none⟩) r co) r (rfR R)) := hown
    have HB : Hid (Below w.heap.size w WR) := hb
    clear hrel hRl hRu hown hb HO0
    by_cases hi : i < n
    · have i1 : (i : Int) < (n : Int) := by omega
      have i0z : (0 : Int) ≤ (i : Int) := by omega
      obtain ⟨x, hx⟩ : ∃ x, L[i]? = some x := ⟨_, List.getElem?_eq_getElem (by rw [HI.out.2.2]; exact hi)⟩
      have HL : Hid (∀ V : World, Below w.heap.size w V → V.rangeAt b (i * 33) ((List.range 33).map (rfF x.1 x.2))) := fun V hV => by
        have := (HI.out.1.below hV HI.out.2.1).range hx
        rwa [Nat.zero_add] at this
      have HUN : Hid (unR (L.take (i + 1)) = inR R x) := by
        show _ = _
        rw [List.take_add_one, hx, HR.out.2]
        exact unR_snoc _ _
      clear hx
      go_wp2_with fail
      go_loopw [5] (fun v5 wx => Hid (∃ (k : Nat), k ≤ r ∧ v5 = .int .i64 (k : Int) ∧ (∀ j y, j < k → R[j]? = some y → cmR y x < 0) ∧ Gr WR wx)) (fun v5 _ => r - (intOf v5).toNat)
      case atStart => exact ⟨0, Nat.zero_le _, rfl, fun j y hj => absurd hj (by omega), Gr.refl _⟩
      case round =>
        obtain ⟨W1, rfl⟩ : ∃ u, u = wr := ⟨_, rfl⟩
        obtain ⟨k, hki, rfl, hless, hg⟩ := Hid.out hrel
        have HLS : Hid (∀ j y, j < k → R[j]? = some y → cmR y x < 0) := hless
        have HOW1 : Hid (W1.ownsRow w.heap.size 27 33 (.slice (some ⟨go, 0, none⟩) r co) r (rfR R)) := nkownBel HOW.out hg.below
        have HB1 : Hid (Below w.heap.size w W1) := HB.out.trans (hg.below.mono HB.out.size)
        have HG1 : Hid (Gr WR W1) := hg
        clear hrel hless hg
        by_cases hk0 : k < r
        · have hkr : (k : Int) < (r : Int) := by omega
          have hkne : ¬ (k : Int) = (r : Int) := by omega
          have hkz : (0 : Int) ≤ (k : Int) := by omega
          obtain ⟨y, hy⟩ : ∃ y, R[k]? = some y := ⟨_, List.getElem?_eq_getElem (by rw [HR.out.1]; exact hk0)⟩
          have HY : Hid (R[k]? = some y) := hy
          have HRY : Hid (∀ V : World, Gr W1 V → V.rangeAt go (k * 33) ((List.range 33).map (rfF y.1 y.2))) := fun V hV => by
            have := (own_isF (nkownBel HOW1.out hV.below)).range hy
            rwa [Nat.zero_add] at this
          have HLG : Hid (∀ V : World, Gr W1 V → V.rangeAt b (i * 33) ((List.range 33).map (rfF x.1 x.2))) := fun V hV => HL.out V (HB1.out.trans (hV.below.mono HB1.out.size))
          have HC : Hid (∀ V : World, Calls Try.prog 6 #[.agg (va 33 (rfF y.1 y.2)), .agg (va 33 (rfF x.1 x.2))] V fun e w' => e = .returned (.int .i64 (cmR y x)) ∧ Gr V w') := fun V => rcompareN_any y x V
          have HS0 : Hid (Gr W1 W1.drew) := (Gr.refl W1).drew
          obtain ⟨cv, hcv⟩ : ∃ cv, cv = cmR y x := ⟨_, rfl⟩
          rw [← hcv] at HC
          have HCV : Hid (cv = cmR y x) := hcv
          clear hy hcv
          by_cases hlt : cv < 0
          · have hcd : decide (cv < 0) = true := decide_eq_true hlt
            have HLT : Hid (cv < 0) := hlt
            clear hlt
            go_wp2_with fail
            refine wp_region_plan (fun U => Gr W1 U) (.yield [1] 2 (.yield [0] 3 (.yield [4, 5, 6] 7 (.yield [] 8 (.yield [9, 10] 11 (.yield [] 12 (.force [] 13 (.yield [] 14 (.fin [15]))))))))) (by kernel_rfl) (by kernel_rfl) HS0.out (plan_yield ?_)
            simp only [List.cons_append, List.nil_append, List.append_nil, List.filterMap_cons, List.filterMap_nil, List.getElem?_toArray, List.getElem?_cons_zero, List.getElem?_cons_succ]
            go_wp2_with fail
            first | (refine ⟨rfl, _, .int .i64 (r : Int), rfl, Or.inl ⟨by rfl, fun W hW => by go_simp⟩, plan_yield ?_⟩) | (refine ⟨rfl, .int .i64 (r : Int), Or.inl ⟨by rfl, fun W hW => by go_simp⟩, plan_yield ?_⟩)
            simp only [Act.put, List.setIfInBounds_toArray, List.set_cons_zero, List.set_cons_succ]
            simp only [List.cons_append, List.nil_append, List.append_nil, List.filterMap_cons, List.filterMap_nil, List.getElem?_toArray, List.getElem?_cons_zero, List.getElem?_cons_succ]
            go_wp2_with fail
            first | (refine ⟨rfl, _, .bool true, rfl, Or.inl ⟨by rfl, fun W hW => by go_simp⟩, plan_yield ?_⟩) | (refine ⟨rfl, .bool true, Or.inl ⟨by rfl, fun W hW => by go_simp⟩, plan_yield ?_⟩)
            simp only [Act.put, List.setIfInBounds_toArray, List.set_cons_zero, List.set_cons_succ]
            simp only [List.cons_append, List.nil_append, List.append_nil, List.filterMap_cons, List.filterMap_nil, List.getElem?_toArray, List.getElem?_cons_zero, List.getElem?_cons_succ]
            go_wp2_with fail
            first | (refine ⟨rfl, _, .pointer (some ⟨go, k * 33, none⟩), rfl, Or.inl ⟨by rfl, fun W hW => by go_simp⟩, plan_yield ?_⟩) | (refine ⟨rfl, .pointer (some ⟨go, k * 33, none⟩), Or.inl ⟨by rfl, fun W hW => by go_simp⟩, plan_yield ?_⟩)
            simp only [Act.put, List.setIfInBounds_toArray, List.set_cons_zero, List.set_cons_succ]
            simp only [List.cons_append, List.nil_append, List.append_nil, List.filterMap_cons, List.filterMap_nil, List.getElem?_toArray, List.getElem?_cons_zero, List.getElem?_cons_succ]
            go_wp2_with fail
            first | (refine ⟨rfl, _, .agg (va 33 (rfF y.1 y.2)), rfl, nyields_load_at (by rfl) 27 _ (by rfl) go (k * 33) 33 (rfF y.1 y.2) (by rfl) _ (fun W hW => HRY.out W hW) Try.underlying27 rfl sizeRref, plan_yield ?_⟩) | (refine ⟨rfl, .agg (va 33 (rfF y.1 y.2)), nyields_load_at (by rfl) 27 _ (by rfl) go (k * 33) 33 (rfF y.1 y.2) (by rfl) _ (fun W hW => HRY.out W hW) Try.underlying27 rfl sizeRref, plan_yield ?_⟩)
            simp only [Act.put, List.setIfInBounds_toArray, List.set_cons_zero, List.set_cons_succ]
            simp only [List.cons_append, List.nil_append, List.append_nil, List.filterMap_cons, List.filterMap_nil, List.getElem?_toArray, List.getElem?_cons_zero, List.getElem?_cons_succ]
            go_wp2_with fail
            first | (refine ⟨rfl, _, .pointer (some ⟨b, i * 33, none⟩), rfl, Or.inl ⟨by rfl, fun W hW => by go_simp⟩, plan_yield ?_⟩) | (refine ⟨rfl, .pointer (some ⟨b, i * 33, none⟩), Or.inl ⟨by rfl, fun W hW => by go_simp⟩, plan_yield ?_⟩)
            simp only [Act.put, List.setIfInBounds_toArray, List.set_cons_zero, List.set_cons_succ]
            simp only [List.cons_append, List.nil_append, List.append_nil, List.filterMap_cons, List.filterMap_nil, List.getElem?_toArray, List.getElem?_cons_zero, List.getElem?_cons_succ]
            go_wp2_with fail
            first | (refine ⟨rfl, _, .agg (va 33 (rfF x.1 x.2)), rfl, nyields_load_at (by rfl) 27 _ (by rfl) b (i * 33) 33 (rfF x.1 x.2) (by rfl) _ (fun W hW => HLG.out W hW) Try.underlying27 rfl sizeRref, plan_force ?_⟩) | (refine ⟨rfl, .agg (va 33 (rfF x.1 x.2)), nyields_load_at (by rfl) 27 _ (by rfl) b (i * 33) 33 (rfF x.1 x.2) (by rfl) _ (fun W hW => HLG.out W hW) Try.underlying27 rfl sizeRref, plan_force ?_⟩)
            simp only [Act.put, List.setIfInBounds_toArray, List.set_cons_zero, List.set_cons_succ]
            simp only [List.cons_append, List.nil_append, List.append_nil, List.filterMap_cons, List.filterMap_nil, List.getElem?_toArray, List.getElem?_cons_zero, List.getElem?_cons_succ]
            go_wp2_with fail
            refine (HC.out _).mono ?_
            rintro e u ⟨rfl, hg⟩
            go_wp2_with fail
            refine ⟨rfl, HS0.out.trans hg, plan_yield ?_⟩
            simp only [List.cons_append, List.nil_append, List.append_nil, List.filterMap_cons, List.filterMap_nil, List.getElem?_toArray, List.getElem?_cons_zero, List.getElem?_cons_succ]
            go_wp2_with fail
            first | (refine ⟨rfl, _, .bool true, rfl, Or.inl ⟨by rfl, fun W hW => by go_simp⟩, plan_fin ?_⟩) | (refine ⟨rfl, .bool true, Or.inl ⟨by rfl, fun W hW => by go_simp⟩, plan_fin ?_⟩)
            simp only [Act.put, List.setIfInBounds_toArray, List.set_cons_zero, List.set_cons_succ]
            simp only [List.cons_append, List.nil_append, List.append_nil, List.filterMap_cons, List.filterMap_nil, List.getElem?_toArray, List.getElem?_cons_zero, List.getElem?_cons_succ]
            go_wp2_with fail
            refine ⟨rfl, ?_⟩
            go_wp2_with fail
            go_roundw
            case rel => exact ⟨k + 1, by omega, by first | rfl | go_num | simp, fun j z hj hz => by
              rcases Nat.lt_succ_iff_lt_or_eq.1 hj with h | rfl
              · exact HLS.out j z h hz
              · rw [HY.out] at hz
                injection hz with hz
                rw [← hz, ← HCV.out]; exact HLT.out, HG1.out.trans (HS0.out.trans hg)⟩
            case measure => simp [intOf]; omega
          · have hcd : decide (cv < 0) = false := decide_eq_false hlt
            have HPL : Hid (plR R x = k) := plR_at R x k (by rw [HR.out.1]; exact hki) (fun j hj z hz => HLS.out j z hj hz) (fun z hz => by
              rw [HY.out] at hz
              injection hz with hz
              rw [← hz, ← HCV.out]; exact hlt)
            clear hlt
            go_wp2_with fail
            refine wp_region_plan (fun U => Gr W1 U) (.yield [1] 2 (.yield [0] 3 (.yield [4, 5, 6] 7 (.yield [] 8 (.yield [9, 10] 11 (.yield [] 12 (.force [] 13 (.yield [] 14 (.fin [15]))))))))) (by kernel_rfl) (by kernel_rfl) HS0.out (plan_yield ?_)
            simp only [List.cons_append, List.nil_append, List.append_nil, List.filterMap_cons, List.filterMap_nil, List.getElem?_toArray, List.getElem?_cons_zero, List.getElem?_cons_succ]
            go_wp2_with fail
            first | (refine ⟨rfl, _, .int .i64 (r : Int), rfl, Or.inl ⟨by rfl, fun W hW => by go_simp⟩, plan_yield ?_⟩) | (refine ⟨rfl, .int .i64 (r : Int), Or.inl ⟨by rfl, fun W hW => by go_simp⟩, plan_yield ?_⟩)
            simp only [Act.put, List.setIfInBounds_toArray, List.set_cons_zero, List.set_cons_succ]
            simp only [List.cons_append, List.nil_append, List.append_nil, List.filterMap_cons, List.filterMap_nil, List.getElem?_toArray, List.getElem?_cons_zero, List.getElem?_cons_succ]
            go_wp2_with fail
            first | (refine ⟨rfl, _, .bool true, rfl, Or.inl ⟨by rfl, fun W hW => by go_simp⟩, plan_yield ?_⟩) | (refine ⟨rfl, .bool true, Or.inl ⟨by rfl, fun W hW => by go_simp⟩, plan_yield ?_⟩)
            simp only [Act.put, List.setIfInBounds_toArray, List.set_cons_zero, List.set_cons_succ]
            simp only [List.cons_append, List.nil_append, List.append_nil, List.filterMap_cons, List.filterMap_nil, List.getElem?_toArray, List.getElem?_cons_zero, List.getElem?_cons_succ]
            go_wp2_with fail
            first | (refine ⟨rfl, _, .pointer (some ⟨go, k * 33, none⟩), rfl, Or.inl ⟨by rfl, fun W hW => by go_simp⟩, plan_yield ?_⟩) | (refine ⟨rfl, .pointer (some ⟨go, k * 33, none⟩), Or.inl ⟨by rfl, fun W hW => by go_simp⟩, plan_yield ?_⟩)
            simp only [Act.put, List.setIfInBounds_toArray, List.set_cons_zero, List.set_cons_succ]
            simp only [List.cons_append, List.nil_append, List.append_nil, List.filterMap_cons, List.filterMap_nil, List.getElem?_toArray, List.getElem?_cons_zero, List.getElem?_cons_succ]
            go_wp2_with fail
            first | (refine ⟨rfl, _, .agg (va 33 (rfF y.1 y.2)), rfl, nyields_load_at (by rfl) 27 _ (by rfl) go (k * 33) 33 (rfF y.1 y.2) (by rfl) _ (fun W hW => HRY.out W hW) Try.underlying27 rfl sizeRref, plan_yield ?_⟩) | (refine ⟨rfl, .agg (va 33 (rfF y.1 y.2)), nyields_load_at (by rfl) 27 _ (by rfl) go (k * 33) 33 (rfF y.1 y.2) (by rfl) _ (fun W hW => HRY.out W hW) Try.underlying27 rfl sizeRref, plan_yield ?_⟩)
            simp only [Act.put, List.setIfInBounds_toArray, List.set_cons_zero, List.set_cons_succ]
            simp only [List.cons_append, List.nil_append, List.append_nil, List.filterMap_cons, List.filterMap_nil, List.getElem?_toArray, List.getElem?_cons_zero, List.getElem?_cons_succ]
            go_wp2_with fail
            first | (refine ⟨rfl, _, .pointer (some ⟨b, i * 33, none⟩), rfl, Or.inl ⟨by rfl, fun W hW => by go_simp⟩, plan_yield ?_⟩) | (refine ⟨rfl, .pointer (some ⟨b, i * 33, none⟩), Or.inl ⟨by rfl, fun W hW => by go_simp⟩, plan_yield ?_⟩)
            simp only [Act.put, List.setIfInBounds_toArray, List.set_cons_zero, List.set_cons_succ]
            simp only [List.cons_append, List.nil_append, List.append_nil, List.filterMap_cons, List.filterMap_nil, List.getElem?_toArray, List.getElem?_cons_zero, List.getElem?_cons_succ]
            go_wp2_with fail
            first | (refine ⟨rfl, _, .agg (va 33 (rfF x.1 x.2)), rfl, nyields_load_at (by rfl) 27 _ (by rfl) b (i * 33) 33 (rfF x.1 x.2) (by rfl) _ (fun W hW => HLG.out W hW) Try.underlying27 rfl sizeRref, plan_force ?_⟩) | (refine ⟨rfl, .agg (va 33 (rfF x.1 x.2)), nyields_load_at (by rfl) 27 _ (by rfl) b (i * 33) 33 (rfF x.1 x.2) (by rfl) _ (fun W hW => HLG.out W hW) Try.underlying27 rfl sizeRref, plan_force ?_⟩)
            simp only [Act.put, List.setIfInBounds_toArray, List.set_cons_zero, List.set_cons_succ]
            simp only [List.cons_append, List.nil_append, List.append_nil, List.filterMap_cons, List.filterMap_nil, List.getElem?_toArray, List.getElem?_cons_zero, List.getElem?_cons_succ]
            go_wp2_with fail
            refine (HC.out _).mono ?_
            rintro e u ⟨rfl, hg⟩
            go_wp2_with fail
            refine ⟨rfl, HS0.out.trans hg, plan_yield ?_⟩
            simp only [List.cons_append, List.nil_append, List.append_nil, List.filterMap_cons, List.filterMap_nil, List.getElem?_toArray, List.getElem?_cons_zero, List.getElem?_cons_succ]
            go_wp2_with fail
            first | (refine ⟨rfl, _, .bool false, rfl, Or.inl ⟨by rfl, fun W hW => by go_simp⟩, plan_fin ?_⟩) | (refine ⟨rfl, .bool false, Or.inl ⟨by rfl, fun W hW => by go_simp⟩, plan_fin ?_⟩)
            simp only [Act.put, List.setIfInBounds_toArray, List.set_cons_zero, List.set_cons_succ]
            simp only [List.cons_append, List.nil_append, List.append_nil, List.filterMap_cons, List.filterMap_nil, List.getElem?_toArray, List.getElem?_cons_zero, List.getElem?_cons_succ]
            go_wp2_with fail
            refine ⟨rfl, ?_⟩
            go_wp2_with fail
            obtain ⟨W2, rfl⟩ : ∃ v, v = u := ⟨_, rfl⟩
            have HG2 : Hid (Gr W1 W2) := HS0.out.trans hg
            have HRY2 : Hid (∀ V : World, Gr W2 V → V.rangeAt go (k * 33) ((List.range 33).map (rfF y.1 y.2))) := fun V hV => HRY.out V (HG2.out.trans hV)
            have HLG2 : Hid (∀ V : World, Gr W2 V → V.rangeAt b (i * 33) ((List.range 33).map (rfF x.1 x.2))) := fun V hV => HLG.out V (HG2.out.trans hV)
            have HS2 : Hid (Gr W2 W2.drew) := (Gr.refl W2).drew
            have HOWQ : Hid (W2.drew.ownsRow w.heap.size 27 33 (.slice (some ⟨go, 0, none⟩) r co) r (rfR R)) := nkownBel HOW1.out (HG2.out.drew.below)
            have HBQ : Hid (Below w.heap.size w W2.drew) := HB1.out.trans (HG2.out.drew.below.mono HB1.out.size)
            have hq : ∀ W, (Op.equalIn 10000 27 (.agg (va 33 (rfF y.1 y.2))) (.agg (va 33 (rfF x.1 x.2)))).run Try.prog W = .ok (decide (y = x)) W := eq_rref 9997 y x
            clear hg HRY HLG HC HS0 HG1
            by_cases hyx : y = x
            · have hyd : decide (y = x) = true := decide_eq_true hyx
              have HIN : Hid (inR R x = R) := inR_old HPL.out (by rw [HY.out, hyx])
              clear hyx
              rw [hyd] at hq
              refine wp_region_plan (fun U => Gr W2 U) (.yield [1] 2 (.yield [0] 3 (.yield [4, 5, 6] 7 (.yield [] 8 (.yield [9, 10] 11 (.yield [] 12 (.yield [] 13 (.fin [14])))))))) (by kernel_rfl) (by kernel_rfl) HS2.out (plan_yield ?_)
              simp only [List.cons_append, List.nil_append, List.append_nil, List.filterMap_cons, List.filterMap_nil, List.getElem?_toArray, List.getElem?_cons_zero, List.getElem?_cons_succ]
              go_wp2_with fail
              first | (refine ⟨rfl, _, .int .i64 (r : Int), rfl, Or.inl ⟨by rfl, fun W hW => by go_simp⟩, plan_yield ?_⟩) | (refine ⟨rfl, .int .i64 (r : Int), Or.inl ⟨by rfl, fun W hW => by go_simp⟩, plan_yield ?_⟩)
              simp only [Act.put, List.setIfInBounds_toArray, List.set_cons_zero, List.set_cons_succ]
              simp only [List.cons_append, List.nil_append, List.append_nil, List.filterMap_cons, List.filterMap_nil, List.getElem?_toArray, List.getElem?_cons_zero, List.getElem?_cons_succ]
              go_wp2_with fail
              first | (refine ⟨rfl, _, .bool false, rfl, Or.inl ⟨by rfl, fun W hW => by go_simp⟩, plan_yield ?_⟩) | (refine ⟨rfl, .bool false, Or.inl ⟨by rfl, fun W hW => by go_simp⟩, plan_yield ?_⟩)
              simp only [Act.put, List.setIfInBounds_toArray, List.set_cons_zero, List.set_cons_succ]
              simp only [List.cons_append, List.nil_append, List.append_nil, List.filterMap_cons, List.filterMap_nil, List.getElem?_toArray, List.getElem?_cons_zero, List.getElem?_cons_succ]
              go_wp2_with fail
              first | (refine ⟨rfl, _, .pointer (some ⟨go, k * 33, none⟩), rfl, Or.inl ⟨by rfl, fun W hW => by go_simp⟩, plan_yield ?_⟩) | (refine ⟨rfl, .pointer (some ⟨go, k * 33, none⟩), Or.inl ⟨by rfl, fun W hW => by go_simp⟩, plan_yield ?_⟩)
              simp only [Act.put, List.setIfInBounds_toArray, List.set_cons_zero, List.set_cons_succ]
              simp only [List.cons_append, List.nil_append, List.append_nil, List.filterMap_cons, List.filterMap_nil, List.getElem?_toArray, List.getElem?_cons_zero, List.getElem?_cons_succ]
              go_wp2_with fail
              first | (refine ⟨rfl, _, .agg (va 33 (rfF y.1 y.2)), rfl, nyields_load_at (by rfl) 27 _ (by rfl) go (k * 33) 33 (rfF y.1 y.2) (by rfl) _ (fun W hW => HRY2.out W hW) Try.underlying27 rfl sizeRref, plan_yield ?_⟩) | (refine ⟨rfl, .agg (va 33 (rfF y.1 y.2)), nyields_load_at (by rfl) 27 _ (by rfl) go (k * 33) 33 (rfF y.1 y.2) (by rfl) _ (fun W hW => HRY2.out W hW) Try.underlying27 rfl sizeRref, plan_yield ?_⟩)
              simp only [Act.put, List.setIfInBounds_toArray, List.set_cons_zero, List.set_cons_succ]
              simp only [List.cons_append, List.nil_append, List.append_nil, List.filterMap_cons, List.filterMap_nil, List.getElem?_toArray, List.getElem?_cons_zero, List.getElem?_cons_succ]
              go_wp2_with fail
              first | (refine ⟨rfl, _, .pointer (some ⟨b, i * 33, none⟩), rfl, Or.inl ⟨by rfl, fun W hW => by go_simp⟩, plan_yield ?_⟩) | (refine ⟨rfl, .pointer (some ⟨b, i * 33, none⟩), Or.inl ⟨by rfl, fun W hW => by go_simp⟩, plan_yield ?_⟩)
              simp only [Act.put, List.setIfInBounds_toArray, List.set_cons_zero, List.set_cons_succ]
              simp only [List.cons_append, List.nil_append, List.append_nil, List.filterMap_cons, List.filterMap_nil, List.getElem?_toArray, List.getElem?_cons_zero, List.getElem?_cons_succ]
              go_wp2_with fail
              first | (refine ⟨rfl, _, .agg (va 33 (rfF x.1 x.2)), rfl, nyields_load_at (by rfl) 27 _ (by rfl) b (i * 33) 33 (rfF x.1 x.2) (by rfl) _ (fun W hW => HLG2.out W hW) Try.underlying27 rfl sizeRref, plan_yield ?_⟩) | (refine ⟨rfl, .agg (va 33 (rfF x.1 x.2)), nyields_load_at (by rfl) 27 _ (by rfl) b (i * 33) 33 (rfF x.1 x.2) (by rfl) _ (fun W hW => HLG2.out W hW) Try.underlying27 rfl sizeRref, plan_yield ?_⟩)
              simp only [Act.put, List.setIfInBounds_toArray, List.set_cons_zero, List.set_cons_succ]
              simp only [List.cons_append, List.nil_append, List.append_nil, List.filterMap_cons, List.filterMap_nil, List.getElem?_toArray, List.getElem?_cons_zero, List.getElem?_cons_succ]
              go_wp2_with fail
              first | (refine ⟨rfl, _, .bool false, rfl, Or.inl ⟨by rfl, fun W hW => by go_simp⟩, plan_fin ?_⟩) | (refine ⟨rfl, .bool false, Or.inl ⟨by rfl, fun W hW => by go_simp⟩, plan_fin ?_⟩)
              simp only [Act.put, List.setIfInBounds_toArray, List.set_cons_zero, List.set_cons_succ]
              simp only [List.cons_append, List.nil_append, List.append_nil, List.filterMap_cons, List.filterMap_nil, List.getElem?_toArray, List.getElem?_cons_zero, List.getElem?_cons_succ]
              go_wp2_with fail
              refine ⟨rfl, ?_⟩
              go_wp2_with fail
              go_roundw
              case rel => exact ⟨i + 1, go, r, co, R, by omega, rfl, by first | rfl | go_num | simp, HR.out.1, by rw [HUN.out, HIN.out], HOWQ.out, HBQ.out⟩
              case measure => simp [intOf]; omega
            · have hyd : decide (y = x) = false := decide_eq_false hyx
              have HDN : Hid ((R.take k ++ ([x] ++ R.drop k)).length = r + 1 ∧ R.take k ++ ([x] ++ R.drop k) = unR (L.take (i + 1))) := ⟨by have := HR.out.1; simp; omega, by rw [HUN.out, inR_new HPL.out (by rw [HY.out]; simpa using hyx)]⟩
              clear hyx
              rw [hyd] at hq
              refine wp_region_plan (fun U => Gr W2 U) (.yield [1] 2 (.yield [0] 3 (.yield [4, 5, 6] 7 (.yield [] 8 (.yield [9, 10] 11 (.yield [] 12 (.yield [] 13 (.fin [14])))))))) (by kernel_rfl) (by kernel_rfl) HS2.out (plan_yield ?_)
              simp only [List.cons_append, List.nil_append, List.append_nil, List.filterMap_cons, List.filterMap_nil, List.getElem?_toArray, List.getElem?_cons_zero, List.getElem?_cons_succ]
              go_wp2_with fail
              first | (refine ⟨rfl, _, .int .i64 (r : Int), rfl, Or.inl ⟨by rfl, fun W hW => by go_simp⟩, plan_yield ?_⟩) | (refine ⟨rfl, .int .i64 (r : Int), Or.inl ⟨by rfl, fun W hW => by go_simp⟩, plan_yield ?_⟩)
              simp only [Act.put, List.setIfInBounds_toArray, List.set_cons_zero, List.set_cons_succ]
              simp only [List.cons_append, List.nil_append, List.append_nil, List.filterMap_cons, List.filterMap_nil, List.getElem?_toArray, List.getElem?_cons_zero, List.getElem?_cons_succ]
              go_wp2_with fail
              first | (refine ⟨rfl, _, .bool false, rfl, Or.inl ⟨by rfl, fun W hW => by go_simp⟩, plan_yield ?_⟩) | (refine ⟨rfl, .bool false, Or.inl ⟨by rfl, fun W hW => by go_simp⟩, plan_yield ?_⟩)
              simp only [Act.put, List.setIfInBounds_toArray, List.set_cons_zero, List.set_cons_succ]
              simp only [List.cons_append, List.nil_append, List.append_nil, List.filterMap_cons, List.filterMap_nil, List.getElem?_toArray, List.getElem?_cons_zero, List.getElem?_cons_succ]
              go_wp2_with fail
              first | (refine ⟨rfl, _, .pointer (some ⟨go, k * 33, none⟩), rfl, Or.inl ⟨by rfl, fun W hW => by go_simp⟩, plan_yield ?_⟩) | (refine ⟨rfl, .pointer (some ⟨go, k * 33, none⟩), Or.inl ⟨by rfl, fun W hW => by go_simp⟩, plan_yield ?_⟩)
              simp only [Act.put, List.setIfInBounds_toArray, List.set_cons_zero, List.set_cons_succ]
              simp only [List.cons_append, List.nil_append, List.append_nil, List.filterMap_cons, List.filterMap_nil, List.getElem?_toArray, List.getElem?_cons_zero, List.getElem?_cons_succ]
              go_wp2_with fail
              first | (refine ⟨rfl, _, .agg (va 33 (rfF y.1 y.2)), rfl, nyields_load_at (by rfl) 27 _ (by rfl) go (k * 33) 33 (rfF y.1 y.2) (by rfl) _ (fun W hW => HRY2.out W hW) Try.underlying27 rfl sizeRref, plan_yield ?_⟩) | (refine ⟨rfl, .agg (va 33 (rfF y.1 y.2)), nyields_load_at (by rfl) 27 _ (by rfl) go (k * 33) 33 (rfF y.1 y.2) (by rfl) _ (fun W hW => HRY2.out W hW) Try.underlying27 rfl sizeRref, plan_yield ?_⟩)
              simp only [Act.put, List.setIfInBounds_toArray, List.set_cons_zero, List.set_cons_succ]
              simp only [List.cons_append, List.nil_append, List.append_nil, List.filterMap_cons, List.filterMap_nil, List.getElem?_toArray, List.getElem?_cons_zero, List.getElem?_cons_succ]
              go_wp2_with fail
              first | (refine ⟨rfl, _, .pointer (some ⟨b, i * 33, none⟩), rfl, Or.inl ⟨by rfl, fun W hW => by go_simp⟩, plan_yield ?_⟩) | (refine ⟨rfl, .pointer (some ⟨b, i * 33, none⟩), Or.inl ⟨by rfl, fun W hW => by go_simp⟩, plan_yield ?_⟩)
              simp only [Act.put, List.setIfInBounds_toArray, List.set_cons_zero, List.set_cons_succ]
              simp only [List.cons_append, List.nil_append, List.append_nil, List.filterMap_cons, List.filterMap_nil, List.getElem?_toArray, List.getElem?_cons_zero, List.getElem?_cons_succ]
              go_wp2_with fail
              first | (refine ⟨rfl, _, .agg (va 33 (rfF x.1 x.2)), rfl, nyields_load_at (by rfl) 27 _ (by rfl) b (i * 33) 33 (rfF x.1 x.2) (by rfl) _ (fun W hW => HLG2.out W hW) Try.underlying27 rfl sizeRref, plan_yield ?_⟩) | (refine ⟨rfl, .agg (va 33 (rfF x.1 x.2)), nyields_load_at (by rfl) 27 _ (by rfl) b (i * 33) 33 (rfF x.1 x.2) (by rfl) _ (fun W hW => HLG2.out W hW) Try.underlying27 rfl sizeRref, plan_yield ?_⟩)
              simp only [Act.put, List.setIfInBounds_toArray, List.set_cons_zero, List.set_cons_succ]
              simp only [List.cons_append, List.nil_append, List.append_nil, List.filterMap_cons, List.filterMap_nil, List.getElem?_toArray, List.getElem?_cons_zero, List.getElem?_cons_succ]
              go_wp2_with fail
              first | (refine ⟨rfl, _, .bool true, rfl, Or.inl ⟨by rfl, fun W hW => by go_simp⟩, plan_fin ?_⟩) | (refine ⟨rfl, .bool true, Or.inl ⟨by rfl, fun W hW => by go_simp⟩, plan_fin ?_⟩)
              simp only [Act.put, List.setIfInBounds_toArray, List.set_cons_zero, List.set_cons_succ]
              simp only [List.cons_append, List.nil_append, List.append_nil, List.filterMap_cons, List.filterMap_nil, List.getElem?_toArray, List.getElem?_cons_zero, List.getElem?_cons_succ]
              go_wp2_with fail
              refine ⟨rfl, ?_⟩
              clear hq hyd HRY2 HLG2 HG2 HS2
              generalize W2.drew = W0 at *
              have HO2 : Hid (W0.ownsRow w.heap.size 27 33 (.slice (some ⟨go, 0, none⟩) r co) r (rfR R)) := HOWQ.out
              have HB2 : Hid (Below w.heap.size w W0) := HBQ.out
              have hco := HO2.out.2
              have hcap : r ≤ co := by
                rcases hco with ⟨h, h2⟩ | ⟨g, cap, cur, h, _, _, h3, _⟩
                · cases h
                · cases h; exact h3
              clear hco
              obtain ⟨oo, ho3, hoo⟩ : ∃ oo : Nat, (if co = k then some (⟨go, 0, none⟩ : Addr) else some ⟨go, k * 33, none⟩) = some ⟨go, oo, none⟩ ∧ (co = k ∨ oo = 0 + k * 33) := by
                by_cases h : co = k
                · exact ⟨0, by rw [if_pos h], .inl h⟩
                · exact ⟨k * 33, by rw [if_neg h], .inr (by omega)⟩
              have HIR : Hid (IsF W0 go 0 R) := own_isF HO2.out
              have HGO : Hid (go < W0.heap.size) := (HO2.out.lt go rfl).2
              have HOR : Hid (∀ U : World, Below W0.heap.size W0 U → IsF U go 0 (R.take k)) := fun U hU => (HIR.out.take k).below hU HGO.out
              have HOD : Hid (∀ U : World, Below W0.heap.size W0 U → IsF U go oo (R.drop k)) := fun U hU => by
                rcases hoo with h | h
                · have hRl := HR.out.1
                  intro j u hu
                  rw [List.drop_eq_nil_of_le (by omega)] at hu
                  simp [rfR] at hu
                · rw [h]; exact (HIR.out.drop k).below hU HGO.out
              have HTK : Hid (k = (R.take k).length ∧ (([] : List Rf).length + (R.take k).length) * 36 ≤ 140737488355328) := by have := HR.out.1; show _ ∧ _; simp; omega
              have HTK2 : Hid (k = (R.take k).length ∧ ((R.take k).length + [x].length) * 36 ≤ 140737488355328) := by have := HR.out.1; show _ ∧ _; simp; omega
              have HTK3 : Hid (k + 1 = (R.take k ++ [x]).length ∧ r - k = (R.drop k).length ∧ ((R.take k ++ [x]).length + (R.drop k).length) * 36 ≤ 140737488355328) := by have := HR.out.1; show _ ∧ _ ∧ _; simp; omega
              clear hoo
              have hkz2 : (0 : Int) ≤ (k : Int) := by omega
              have hkzi : (k : Int) ≤ (r : Int) := by omega
              have hkzc : (k : Int) ≤ (co : Int) := by omega
              have hizc : (r : Int) ≤ (co : Int) := by omega
              go_wp2_with fail
              refine wp_region_plan (fun U => Below w.heap.size w U) (.yield [1, 2] 3 (.yield [5, 6] 7 (.yield [] 8 (.yield [11, 12] 13 (.fork 0 9 (.fork 4 9 (.force [] 9 (.force [] 10 (.force [] 14 (.fin [15])))) (.force [] 4 (.force [] 10 (.force [] 14 (.fin [15]))))) (.force [] 0 (.force [] 4 (.force [] 10 (.force [] 14 (.fin [15])))))))))) (by kernel_rfl) (by kernel_rfl) HB2.out.drew (plan_yield ?_)
              simp only [List.cons_append, List.nil_append, List.append_nil, List.filterMap_cons, List.filterMap_nil, List.getElem?_toArray, List.getElem?_cons_zero, List.getElem?_cons_succ]
              go_wp2_with fail
              first
                | refine ⟨rfl, _, .slice (some ⟨go, 0, none⟩) k co, rfl, Or.inl ⟨by rfl, fun U hU => by first | (go_simp; done) | (go_simp; exact ho3)⟩, plan_yield ?_⟩
                | refine ⟨rfl, .slice (some ⟨go, 0, none⟩) k co, Or.inl ⟨by rfl, fun U hU => by first | (go_simp; done) | (go_simp; exact ho3)⟩, plan_yield ?_⟩
              simp only [Act.put, List.setIfInBounds_toArray, List.set_cons_zero, List.set_cons_succ]
              simp only [List.cons_append, List.nil_append, List.append_nil, List.filterMap_cons, List.filterMap_nil, List.getElem?_toArray, List.getElem?_cons_zero, List.getElem?_cons_succ]
              go_wp2_with fail
              first
                | refine ⟨rfl, _, .pointer (some ⟨b, i * 33, none⟩), rfl, Or.inl ⟨by rfl, fun U hU => by first | (go_simp; done) | (go_simp; exact ho3)⟩, plan_yield ?_⟩
                | refine ⟨rfl, .pointer (some ⟨b, i * 33, none⟩), Or.inl ⟨by rfl, fun U hU => by first | (go_simp; done) | (go_simp; exact ho3)⟩, plan_yield ?_⟩
              simp only [Act.put, List.setIfInBounds_toArray, List.set_cons_zero, List.set_cons_succ]
              simp only [List.cons_append, List.nil_append, List.append_nil, List.filterMap_cons, List.filterMap_nil, List.getElem?_toArray, List.getElem?_cons_zero, List.getElem?_cons_succ]
              go_wp2_with fail
              first
                | refine ⟨rfl, _, .agg (rfC x), rfl, nyields_load_at (by rfl) 27 _ (by rfl) b (i * 33) 33 (rfF x.1 x.2) (by rfl) _ (fun U hU => HL.out U hU) Try.underlying27 rfl sizeRref, plan_yield ?_⟩
                | refine ⟨rfl, .agg (rfC x), nyields_load_at (by rfl) 27 _ (by rfl) b (i * 33) 33 (rfF x.1 x.2) (by rfl) _ (fun U hU => HL.out U hU) Try.underlying27 rfl sizeRref, plan_yield ?_⟩
              simp only [Act.put, List.setIfInBounds_toArray, List.set_cons_zero, List.set_cons_succ]
              simp only [List.cons_append, List.nil_append, List.append_nil, List.filterMap_cons, List.filterMap_nil, List.getElem?_toArray, List.getElem?_cons_zero, List.getElem?_cons_succ]
              go_wp2_with fail
              first
                | refine ⟨rfl, _, .slice (some ⟨go, oo, none⟩) (r - k) (co - k), rfl, Or.inl ⟨by rfl, fun U hU => by first | (go_simp; done) | (go_simp; exact ho3)⟩, plan_fork ?_ ?_⟩
                | refine ⟨rfl, .slice (some ⟨go, oo, none⟩) (r - k) (co - k), Or.inl ⟨by rfl, fun U hU => by first | (go_simp; done) | (go_simp; exact ho3)⟩, plan_fork ?_ ?_⟩
              · simp only [Act.put, List.setIfInBounds_toArray, List.set_cons_zero, List.set_cons_succ]
                simp only [List.cons_append, List.nil_append, List.append_nil, List.filterMap_cons, List.filterMap_nil, List.getElem?_toArray, List.getElem?_cons_zero, List.getElem?_cons_succ]
                have HE0' : Hid (((W0.alloc (.cells #[] 27)).drew).ownsRow W0.heap.size 27 33 (.slice (some ⟨W0.heap.size, 0, none⟩) 0 0) 0 (rfR [])) := (kown_empty (Blk.new W0 27 #[]) (Nat.le_refl _)).drew
                have HS0 : Hid (Below W0.heap.size W0 ((W0.alloc (.cells #[] 27)).drew)) := ((Below.refl _ W0).alloc (Nat.le_refl _) _).drew
                have HBS0 : Hid (Below w.heap.size w ((W0.alloc (.cells #[] 27)).drew)) := HB2.out.trans (HS0.out.mono HB2.out.size)
                go_wp2_with fail
                refine ⟨rfl, HBS0.out, plan_fork ?_ ?_⟩
                · simp only [List.cons_append, List.nil_append, List.append_nil, List.filterMap_cons, List.filterMap_nil, List.getElem?_toArray, List.getElem?_cons_zero, List.getElem?_cons_succ]
                  have HE0 : Hid _ := HE0'.out
                  have HS1 : Hid _ := HS0.out
                  have HSZ1 : Hid (W0.heap.size ≤ ((W0.alloc (.cells #[] 27)).drew).heap.size) := HS0.out.size
                  refine wpList_append_rfs rfl _ _ 23 rfl W0.heap.size 27 i0 (.agg (rfC rf0)) Try.underlying23 hi0 hz0 hz1 hz2 rf0_cells (.slice (some ⟨W0.heap.size, 0, none⟩) 0 0) [] 0 rfl rfl HE0.out go 0 k co (R.take k) HTK.out.1 rfl (HOR.out _ HS1.out) HTK.out.2 HSZ1.out ?_
                  intro v4 U4 ho4 hb4 hg4
                  rw [Nat.zero_add, List.nil_append] at ho4
                  obtain ⟨q4, c4, rfl⟩ := kown_slice ho4
                  have HO4 : Hid (U4.ownsRow W0.heap.size 27 33 (.slice q4 k c4) k (rfR (R.take k))) := ho4
                  have HS4 : Hid (Below W0.heap.size W0 U4) := HS1.out.trans (hb4.mono (Nat.le_refl _))
                  have HBS4 : Hid (Below w.heap.size w U4) := HB2.out.trans (HS4.out.mono HB2.out.size)
                  clear ho4 hb4 hg4
                  go_wp2_with fail
                  refine ⟨rfl, HBS4.out, plan_force ?_⟩
                  simp only [List.cons_append, List.nil_append, List.append_nil, List.filterMap_cons, List.filterMap_nil, List.getElem?_toArray, List.getElem?_cons_zero, List.getElem?_cons_succ]
                  have HX9 : Hid (IsF (U4.alloc (.cells (rfC x) 27)) U4.heap.size 0 [x]) := isF_new (Blk.new U4 27 (rfC x))
                  have HO4' : Hid ((U4.alloc (.cells (rfC x) 27)).ownsRow W0.heap.size 27 33 (.slice q4 k c4) k (rfR (R.take k))) := HO4.out.alloc _
                  have HS4' : Hid (Below W0.heap.size W0 (U4.alloc (.cells (rfC x) 27))) := HS4.out.alloc HS4.out.size _
                  have HBS4' : Hid (Below w.heap.size w (U4.alloc (.cells (rfC x) 27))) := HB2.out.trans (HS4'.out.mono HB2.out.size)
                  refine wpList_build1 rfl 23 27 _ rfl (rfC x) rfl i0 _ 33 Try.underlying23 hi0 hz0 hz1 (rfC_size _) (by decide) (by decide) ?_
                  simp only [Act.put, List.setIfInBounds_toArray, List.set_cons_zero, List.set_cons_succ]
                  go_wp2_with fail
                  refine ⟨rfl, HBS4'.out, plan_force ?_⟩
                  simp only [List.cons_append, List.nil_append, List.append_nil, List.filterMap_cons, List.filterMap_nil, List.getElem?_toArray, List.getElem?_cons_zero, List.getElem?_cons_succ]
                  clear HO4 HS4 HBS4
                  have HO4 : Hid _ := HO4'.out
                  have HS4 : Hid _ := HS4'.out
                  have HX4 : Hid _ := HX9.out
                  refine wpList_append_rfs rfl _ _ 23 rfl W0.heap.size 27 i0 (.agg (rfC rf0)) Try.underlying23 hi0 hz0 hz1 hz2 rf0_cells (.slice q4 k c4) (R.take k) k HTK2.out.1 rfl HO4.out U4.heap.size 0 1 1 [x] rfl rfl HX4.out HTK2.out.2 HS4.out.size ?_
                  intro v5 U5 ho5 hb5 hg5
                  obtain ⟨q5, c5, rfl⟩ := kown_slice ho5
                  have HO5 : Hid (U5.ownsRow W0.heap.size 27 33 (.slice q5 (k + 1) c5) (k + 1) (rfR (R.take k ++ [x]))) := ho5
                  have HS5 : Hid (Below W0.heap.size W0 U5) := HS4.out.trans (hb5.mono (Nat.le_refl _))
                  have HBS5 : Hid (Below w.heap.size w U5) := HB2.out.trans (HS5.out.mono HB2.out.size)
                  clear ho5 hb5 hg5
                  go_wp2_with fail
                  refine ⟨rfl, HBS5.out, plan_force ?_⟩
                  simp only [List.cons_append, List.nil_append, List.append_nil, List.filterMap_cons, List.filterMap_nil, List.getElem?_toArray, List.getElem?_cons_zero, List.getElem?_cons_succ]
                  refine wpList_append_rfs rfl _ _ 23 rfl W0.heap.size 27 i0 (.agg (rfC rf0)) Try.underlying23 hi0 hz0 hz1 hz2 rf0_cells (.slice q5 (k + 1) c5) (R.take k ++ [x]) (k + 1) HTK3.out.1 rfl HO5.out go oo (r - k) (co - k) (R.drop k) HTK3.out.2.1 rfl (HOD.out _ HS5.out) HTK3.out.2.2 HS5.out.size ?_
                  intro v6 U6 ho6 hb6 hg6
                  have HS6 : Hid (Below W0.heap.size W0 U6) := HS5.out.trans (hb6.mono (Nat.le_refl _))
                  have HBS6 : Hid (Below w.heap.size w U6) := HB2.out.trans (HS6.out.mono HB2.out.size)
                  rw [show k + 1 + (r - k) = r + 1 by omega] at ho6
                  obtain ⟨g6, c6, rfl, _⟩ := kown_form ho6 (by omega)
                  have HO6 : Hid (U6.ownsRow w.heap.size 27 33 (.slice (some ⟨g6, 0, none⟩) (r + 1) c6) (r + 1) (rfR (R.take k ++ ([x] ++ R.drop k)))) := by
                    have := kown_mono ho6 HB2.out.size
                    rw [List.append_assoc] at this
                    exact this
                  clear ho6 hb6 hg6
                  go_wp2_with fail
                  refine ⟨rfl, HBS6.out, plan_fin ?_⟩
                  simp only [List.cons_append, List.nil_append, List.append_nil, List.filterMap_cons, List.filterMap_nil, List.getElem?_toArray, List.getElem?_cons_zero, List.getElem?_cons_succ]
                  go_wp2_with fail
                  refine ⟨rfl, ?_⟩
                  go_wp2_with fail
                  go_roundw
                  case rel => exact ⟨i + 1, g6, r + 1, c6, R.take k ++ ([x] ++ R.drop k), by omega, by first | rfl | go_num | simp, by first | rfl | go_num | simp, HDN.out.1, HDN.out.2, HO6.out, HBS6.out⟩
                  case measure => simp [intOf]; omega
                · simp only [List.cons_append, List.nil_append, List.append_nil, List.filterMap_cons, List.filterMap_nil, List.getElem?_toArray, List.getElem?_cons_zero, List.getElem?_cons_succ]
                  have HX9 : Hid (IsF (((W0.alloc (.cells #[] 27)).alloc (.cells (rfC x) 27)).drew) (W0.heap.size + 1) 0 [x]) := isF_new (Blk.new1 W0 _ 27 (rfC x))
                  have HE0 : Hid ((((W0.alloc (.cells #[] 27)).alloc (.cells (rfC x) 27)).drew).ownsRow W0.heap.size 27 33 (.slice (some ⟨W0.heap.size, 0, none⟩) 0 0) 0 (rfR [])) := ((kown_empty (Blk.new W0 27 #[]) (Nat.le_refl _)).alloc _).drew
                  have HS1 : Hid (Below W0.heap.size W0 (((W0.alloc (.cells #[] 27)).alloc (.cells (rfC x) 27)).drew)) := (((Below.refl _ W0).alloc (Nat.le_refl _) _).alloc (by simp) _).drew
                  have HSZ1 : Hid (W0.heap.size ≤ (((W0.alloc (.cells #[] 27)).alloc (.cells (rfC x) 27)).drew).heap.size) := HS1.out.size
                  have HBS1 : Hid (Below w.heap.size w (((W0.alloc (.cells #[] 27)).alloc (.cells (rfC x) 27)).drew)) := HB2.out.trans (HS1.out.mono HB2.out.size)
                  refine wpList_build1 rfl 23 27 _ rfl (rfC x) rfl i0 _ 33 Try.underlying23 hi0 hz0 hz1 (rfC_size _) (by decide) (by decide) ?_
                  simp only [Act.put, List.setIfInBounds_toArray, List.set_cons_zero, List.set_cons_succ]
                  go_wp2_with fail
                  refine ⟨rfl, HBS1.out, plan_force ?_⟩
                  simp only [List.cons_append, List.nil_append, List.append_nil, List.filterMap_cons, List.filterMap_nil, List.getElem?_toArray, List.getElem?_cons_zero, List.getElem?_cons_succ]
                  refine wpList_append_rfs rfl _ _ 23 rfl W0.heap.size 27 i0 (.agg (rfC rf0)) Try.underlying23 hi0 hz0 hz1 hz2 rf0_cells (.slice (some ⟨W0.heap.size, 0, none⟩) 0 0) [] 0 rfl rfl HE0.out go 0 k co (R.take k) HTK.out.1 rfl (HOR.out _ HS1.out) HTK.out.2 HSZ1.out ?_
                  intro v4 U4 ho4 hb4 hg4
                  rw [Nat.zero_add, List.nil_append] at ho4
                  obtain ⟨q4, c4, rfl⟩ := kown_slice ho4
                  have HO4 : Hid (U4.ownsRow W0.heap.size 27 33 (.slice q4 k c4) k (rfR (R.take k))) := ho4
                  have HS4 : Hid (Below W0.heap.size W0 U4) := HS1.out.trans (hb4.mono (Nat.le_refl _))
                  have HX4 : Hid (IsF U4 (W0.heap.size + 1) 0 [x]) := fun j u hu => hg4.cell (HX9.out j u hu) (by simp [Value.ownBlock])
                  have HBS4 : Hid (Below w.heap.size w U4) := HB2.out.trans (HS4.out.mono HB2.out.size)
                  clear ho4 hb4 hg4
                  go_wp2_with fail
                  refine ⟨rfl, HBS4.out, plan_force ?_⟩
                  simp only [List.cons_append, List.nil_append, List.append_nil, List.filterMap_cons, List.filterMap_nil, List.getElem?_toArray, List.getElem?_cons_zero, List.getElem?_cons_succ]
                  refine wpList_append_rfs rfl _ _ 23 rfl W0.heap.size 27 i0 (.agg (rfC rf0)) Try.underlying23 hi0 hz0 hz1 hz2 rf0_cells (.slice q4 k c4) (R.take k) k HTK2.out.1 rfl HO4.out (W0.heap.size + 1) 0 1 1 [x] rfl rfl HX4.out HTK2.out.2 HS4.out.size ?_
                  intro v5 U5 ho5 hb5 hg5
                  obtain ⟨q5, c5, rfl⟩ := kown_slice ho5
                  have HO5 : Hid (U5.ownsRow W0.heap.size 27 33 (.slice q5 (k + 1) c5) (k + 1) (rfR (R.take k ++ [x]))) := ho5
                  have HS5 : Hid (Below W0.heap.size W0 U5) := HS4.out.trans (hb5.mono (Nat.le_refl _))
                  have HBS5 : Hid (Below w.heap.size w U5) := HB2.out.trans (HS5.out.mono HB2.out.size)
                  clear ho5 hb5 hg5
                  go_wp2_with fail
                  refine ⟨rfl, HBS5.out, plan_force ?_⟩
                  simp only [List.cons_append, List.nil_append, List.append_nil, List.filterMap_cons, List.filterMap_nil, List.getElem?_toArray, List.getElem?_cons_zero, List.getElem?_cons_succ]
                  refine wpList_append_rfs rfl _ _ 23 rfl W0.heap.size 27 i0 (.agg (rfC rf0)) Try.underlying23 hi0 hz0 hz1 hz2 rf0_cells (.slice q5 (k + 1) c5) (R.take k ++ [x]) (k + 1) HTK3.out.1 rfl HO5.out go oo (r - k) (co - k) (R.drop k) HTK3.out.2.1 rfl (HOD.out _ HS5.out) HTK3.out.2.2 HS5.out.size ?_
                  intro v6 U6 ho6 hb6 hg6
                  have HS6 : Hid (Below W0.heap.size W0 U6) := HS5.out.trans (hb6.mono (Nat.le_refl _))
                  have HBS6 : Hid (Below w.heap.size w U6) := HB2.out.trans (HS6.out.mono HB2.out.size)
                  rw [show k + 1 + (r - k) = r + 1 by omega] at ho6
                  obtain ⟨g6, c6, rfl, _⟩ := kown_form ho6 (by omega)
                  have HO6 : Hid (U6.ownsRow w.heap.size 27 33 (.slice (some ⟨g6, 0, none⟩) (r + 1) c6) (r + 1) (rfR (R.take k ++ ([x] ++ R.drop k)))) := by
                    have := kown_mono ho6 HB2.out.size
                    rw [List.append_assoc] at this
                    exact this
                  clear ho6 hb6 hg6
                  go_wp2_with fail
                  refine ⟨rfl, HBS6.out, plan_fin ?_⟩
                  simp only [List.cons_append, List.nil_append, List.append_nil, List.filterMap_cons, List.filterMap_nil, List.getElem?_toArray, List.getElem?_cons_zero, List.getElem?_cons_succ]
                  go_wp2_with fail
                  refine ⟨rfl, ?_⟩
                  go_wp2_with fail
                  go_roundw
                  case rel => exact ⟨i + 1, g6, r + 1, c6, R.take k ++ ([x] ++ R.drop k), by omega, by first | rfl | go_num | simp, by first | rfl | go_num | simp, HDN.out.1, HDN.out.2, HO6.out, HBS6.out⟩
                  case measure => simp [intOf]; omega
              · simp only [Act.put, List.setIfInBounds_toArray, List.set_cons_zero, List.set_cons_succ]
                simp only [List.cons_append, List.nil_append, List.append_nil, List.filterMap_cons, List.filterMap_nil, List.getElem?_toArray, List.getElem?_cons_zero, List.getElem?_cons_succ]
                have HS0 : Hid (Below W0.heap.size W0 ((W0.alloc (.cells (rfC x) 27)).drew)) := ((Below.refl _ W0).alloc (Nat.le_refl _) _).drew
                have HBS0 : Hid (Below w.heap.size w ((W0.alloc (.cells (rfC x) 27)).drew)) := HB2.out.trans (HS0.out.mono HB2.out.size)
                refine wpList_build1 rfl 23 27 _ rfl (rfC x) rfl i0 _ 33 Try.underlying23 hi0 hz0 hz1 (rfC_size _) (by decide) (by decide) ?_
                simp only [Act.put, List.setIfInBounds_toArray, List.set_cons_zero, List.set_cons_succ]
                go_wp2_with fail
                refine ⟨rfl, HBS0.out, plan_force ?_⟩
                simp only [List.cons_append, List.nil_append, List.append_nil, List.filterMap_cons, List.filterMap_nil, List.getElem?_toArray, List.getElem?_cons_zero, List.getElem?_cons_succ]
                have HX9 : Hid (IsF (((W0.alloc (.cells (rfC x) 27)).alloc (.cells #[] 27)).drew) W0.heap.size 0 [x]) := isF_new ((Blk.new W0 27 (rfC x)).alloc _)
                have HE0 : Hid ((((W0.alloc (.cells (rfC x) 27)).alloc (.cells #[] 27)).drew).ownsRow W0.heap.size 27 33 (.slice (some ⟨W0.heap.size + 1, 0, none⟩) 0 0) 0 (rfR [])) := by
                  have := (kown_empty (size := 33) (B := W0.heap.size) (Blk.new (W0.alloc (.cells (rfC x) 27)) 27 #[]) (by simp)).drew
                  show World.ownsRow _ _ _ _ _ _ _
                  simpa [rfR] using this
                have HS1 : Hid (Below W0.heap.size W0 (((W0.alloc (.cells (rfC x) 27)).alloc (.cells #[] 27)).drew)) := (((Below.refl _ W0).alloc (Nat.le_refl _) _).alloc (by simp) _).drew
                have HSZ1 : Hid (W0.heap.size ≤ (((W0.alloc (.cells (rfC x) 27)).alloc (.cells #[] 27)).drew).heap.size) := HS1.out.size
                have HBS1 : Hid (Below w.heap.size w (((W0.alloc (.cells (rfC x) 27)).alloc (.cells #[] 27)).drew)) := HB2.out.trans (HS1.out.mono HB2.out.size)
                go_wp2_with fail
                refine ⟨rfl, HBS1.out, plan_force ?_⟩
                simp only [List.cons_append, List.nil_append, List.append_nil, List.filterMap_cons, List.filterMap_nil, List.getElem?_toArray, List.getElem?_cons_zero, List.getElem?_cons_succ]
                refine wpList_append_rfs rfl _ _ 23 rfl W0.heap.size 27 i0 (.agg (rfC rf0)) Try.underlying23 hi0 hz0 hz1 hz2 rf0_cells (.slice (some ⟨(W0.heap.size + 1), 0, none⟩) 0 0) [] 0 rfl rfl HE0.out go 0 k co (R.take k) HTK.out.1 rfl (HOR.out _ HS1.out) HTK.out.2 HSZ1.out ?_
                intro v4 U4 ho4 hb4 hg4
                rw [Nat.zero_add, List.nil_append] at ho4
                obtain ⟨q4, c4, rfl⟩ := kown_slice ho4
                have HO4 : Hid (U4.ownsRow W0.heap.size 27 33 (.slice q4 k c4) k (rfR (R.take k))) := ho4
                have HS4 : Hid (Below W0.heap.size W0 U4) := HS1.out.trans (hb4.mono (Nat.le_refl _))
                have HX4 : Hid (IsF U4 W0.heap.size 0 [x]) := fun j u hu => hg4.cell (HX9.out j u hu) (by simp [Value.ownBlock])
                have HBS4 : Hid (Below w.heap.size w U4) := HB2.out.trans (HS4.out.mono HB2.out.size)
                clear ho4 hb4 hg4
                go_wp2_with fail
                refine ⟨rfl, HBS4.out, plan_force ?_⟩
                simp only [List.cons_append, List.nil_append, List.append_nil, List.filterMap_cons, List.filterMap_nil, List.getElem?_toArray, List.getElem?_cons_zero, List.getElem?_cons_succ]
                refine wpList_append_rfs rfl _ _ 23 rfl W0.heap.size 27 i0 (.agg (rfC rf0)) Try.underlying23 hi0 hz0 hz1 hz2 rf0_cells (.slice q4 k c4) (R.take k) k HTK2.out.1 rfl HO4.out W0.heap.size 0 1 1 [x] rfl rfl HX4.out HTK2.out.2 HS4.out.size ?_
                intro v5 U5 ho5 hb5 hg5
                obtain ⟨q5, c5, rfl⟩ := kown_slice ho5
                have HO5 : Hid (U5.ownsRow W0.heap.size 27 33 (.slice q5 (k + 1) c5) (k + 1) (rfR (R.take k ++ [x]))) := ho5
                have HS5 : Hid (Below W0.heap.size W0 U5) := HS4.out.trans (hb5.mono (Nat.le_refl _))
                have HBS5 : Hid (Below w.heap.size w U5) := HB2.out.trans (HS5.out.mono HB2.out.size)
                clear ho5 hb5 hg5
                go_wp2_with fail
                refine ⟨rfl, HBS5.out, plan_force ?_⟩
                simp only [List.cons_append, List.nil_append, List.append_nil, List.filterMap_cons, List.filterMap_nil, List.getElem?_toArray, List.getElem?_cons_zero, List.getElem?_cons_succ]
                refine wpList_append_rfs rfl _ _ 23 rfl W0.heap.size 27 i0 (.agg (rfC rf0)) Try.underlying23 hi0 hz0 hz1 hz2 rf0_cells (.slice q5 (k + 1) c5) (R.take k ++ [x]) (k + 1) HTK3.out.1 rfl HO5.out go oo (r - k) (co - k) (R.drop k) HTK3.out.2.1 rfl (HOD.out _ HS5.out) HTK3.out.2.2 HS5.out.size ?_
                intro v6 U6 ho6 hb6 hg6
                have HS6 : Hid (Below W0.heap.size W0 U6) := HS5.out.trans (hb6.mono (Nat.le_refl _))
                have HBS6 : Hid (Below w.heap.size w U6) := HB2.out.trans (HS6.out.mono HB2.out.size)
                rw [show k + 1 + (r - k) = r + 1 by omega] at ho6
                obtain ⟨g6, c6, rfl, _⟩ := kown_form ho6 (by omega)
                have HO6 : Hid (U6.ownsRow w.heap.size 27 33 (.slice (some ⟨g6, 0, none⟩) (r + 1) c6) (r + 1) (rfR (R.take k ++ ([x] ++ R.drop k)))) := by
                  have := kown_mono ho6 HB2.out.size
                  rw [List.append_assoc] at this
                  exact this
                clear ho6 hb6 hg6
                go_wp2_with fail
                refine ⟨rfl, HBS6.out, plan_fin ?_⟩
                simp only [List.cons_append, List.nil_append, List.append_nil, List.filterMap_cons, List.filterMap_nil, List.getElem?_toArray, List.getElem?_cons_zero, List.getElem?_cons_succ]
                go_wp2_with fail
                refine ⟨rfl, ?_⟩
                go_wp2_with fail
                go_roundw
                case rel => exact ⟨i + 1, g6, r + 1, c6, R.take k ++ ([x] ++ R.drop k), by omega, by first | rfl | go_num | simp, by first | rfl | go_num | simp, HDN.out.1, HDN.out.2, HO6.out, HBS6.out⟩
                case measure => simp [intOf]; omega
        · have hkr : ¬ (k : Int) < (r : Int) := by omega
          have HKR : Hid (k = r) := by show _ = _; omega
          have hke : ((k : Int) == (r : Int)) = true := by rw [HKR.out]; simp
          have HPL : Hid (plR R x = k) := plR_at R x k (by rw [HR.out.1]; exact hki) (fun j hj z hz => HLS.out j z hj hz) (fun z hz => by
            have := (List.getElem?_eq_some_iff.1 hz).1
            rw [HR.out.1] at this
            omega)
          have HDN : Hid ((R.take k ++ ([x] ++ R.drop k)).length = r + 1 ∧ R.take k ++ ([x] ++ R.drop k) = unR (L.take (i + 1))) := ⟨by have := HR.out.1; simp; omega, by rw [HUN.out, inR_new HPL.out (by rw [List.getElem?_eq_none (by rw [HR.out.1]; omega)]; simp)]⟩
          have hkd : decide ((k : Int) < (r : Int)) = false := decide_eq_false hkr
          have hkN : decide (k < r) = false := decide_eq_false (by omega)
          have hkE : decide (k = r) = true := decide_eq_true HKR.out
          have hkB : (k == r) = true := by rw [HKR.out]; simp
          have hu0 : (undef = Value.bool false) = False := by simp [undef]
          have hu1 : (undef = Value.bool true) = False := by simp [undef]
          clear hk0
          go_wp2_with fail
          go_quiet (fail)
          generalize hWa : W1.drewN nq = Wa
          have HOWA : Hid (Wa.ownsRow w.heap.size 27 33 (.slice (some ⟨go, 0, none⟩) r co) r (rfR R)) := by rw [← hWa]; exact HOW1.out
          have HBA : Hid (Below w.heap.size w Wa) := by rw [← hWa]; exact HB1.out.trans ⟨rfl, rfl, rfl, Nat.le_refl _, fun _ _ => rfl⟩
          clear hWa
          go_wp2_with fail
          go_quiet (fail)
          generalize hWb : Wa.drewN nq = W0
          have HOWQ : Hid (W0.ownsRow w.heap.size 27 33 (.slice (some ⟨go, 0, none⟩) r co) r (rfR R)) := by rw [← hWb]; exact HOWA.out
          have HBQ : Hid (Below w.heap.size w W0) := by rw [← hWb]; exact HBA.out.trans ⟨rfl, rfl, rfl, Nat.le_refl _, fun _ _ => rfl⟩
          clear hWb
          have HO2 : Hid (W0.ownsRow w.heap.size 27 33 (.slice (some ⟨go, 0, none⟩) r co) r (rfR R)) := HOWQ.out
          have HB2 : Hid (Below w.heap.size w W0) := HBQ.out
          have hco := HO2.out.2
          have hcap : r ≤ co := by
            rcases hco with ⟨h, h2⟩ | ⟨g, cap, cur, h, _, _, h3, _⟩
            · cases h
            · cases h; exact h3
          clear hco
          obtain ⟨oo, ho3, hoo⟩ : ∃ oo : Nat, (if co = k then some (⟨go, 0, none⟩ : Addr) else some ⟨go, k * 33, none⟩) = some ⟨go, oo, none⟩ ∧ (co = k ∨ oo = 0 + k * 33) := by
            by_cases h : co = k
            · exact ⟨0, by rw [if_pos h], .inl h⟩
            · exact ⟨k * 33, by rw [if_neg h], .inr (by omega)⟩
          have HIR : Hid (IsF W0 go 0 R) := own_isF HO2.out
          have HGO : Hid (go < W0.heap.size) := (HO2.out.lt go rfl).2
          have HOR : Hid (∀ U : World, Below W0.heap.size W0 U → IsF U go 0 (R.take k)) := fun U hU => (HIR.out.take k).below hU HGO.out
          have HOD : Hid (∀ U : World, Below W0.heap.size W0 U → IsF U go oo (R.drop k)) := fun U hU => by
            rcases hoo with h | h
            · have hRl := HR.out.1
              intro j u hu
              rw [List.drop_eq_nil_of_le (by omega)] at hu
              simp [rfR] at hu
            · rw [h]; exact (HIR.out.drop k).below hU HGO.out
          have HTK : Hid (k = (R.take k).length ∧ (([] : List Rf).length + (R.take k).length) * 36 ≤ 140737488355328) := by have := HR.out.1; show _ ∧ _; simp; omega
          have HTK2 : Hid (k = (R.take k).length ∧ ((R.take k).length + [x].length) * 36 ≤ 140737488355328) := by have := HR.out.1; show _ ∧ _; simp; omega
          have HTK3 : Hid (k + 1 = (R.take k ++ [x]).length ∧ r - k = (R.drop k).length ∧ ((R.take k ++ [x]).length + (R.drop k).length) * 36 ≤ 140737488355328) := by have := HR.out.1; show _ ∧ _ ∧ _; simp; omega
          clear hoo
          have hkz2 : (0 : Int) ≤ (k : Int) := by omega
          have hkzi : (k : Int) ≤ (r : Int) := by omega
          have hkzc : (k : Int) ≤ (co : Int) := by omega
          have hizc : (r : Int) ≤ (co : Int) := by omega
          go_wp2_with fail
          refine wp_region_plan (fun U => Below w.heap.size w U) (.yield [1, 2] 3 (.yield [5, 6] 7 (.yield [] 8 (.yield [11, 12] 13 (.fork 0 9 (.fork 4 9 (.force [] 9 (.force [] 10 (.force [] 14 (.fin [15])))) (.force [] 4 (.force [] 10 (.force [] 14 (.fin [15]))))) (.force [] 0 (.force [] 4 (.force [] 10 (.force [] 14 (.fin [15])))))))))) (by kernel_rfl) (by kernel_rfl) HB2.out.drew (plan_yield ?_)
          simp only [List.cons_append, List.nil_append, List.append_nil, List.filterMap_cons, List.filterMap_nil, List.getElem?_toArray, List.getElem?_cons_zero, List.getElem?_cons_succ]
          go_wp2_with fail
          first
            | refine ⟨rfl, _, .slice (some ⟨go, 0, none⟩) k co, rfl, Or.inl ⟨by rfl, fun U hU => by first | (go_simp; done) | (go_simp; exact ho3)⟩, plan_yield ?_⟩
            | refine ⟨rfl, .slice (some ⟨go, 0, none⟩) k co, Or.inl ⟨by rfl, fun U hU => by first | (go_simp; done) | (go_simp; exact ho3)⟩, plan_yield ?_⟩
          simp only [Act.put, List.setIfInBounds_toArray, List.set_cons_zero, List.set_cons_succ]
          simp only [List.cons_append, List.nil_append, List.append_nil, List.filterMap_cons, List.filterMap_nil, List.getElem?_toArray, List.getElem?_cons_zero, List.getElem?_cons_succ]
          go_wp2_with fail
          first
            | refine ⟨rfl, _, .pointer (some ⟨b, i * 33, none⟩), rfl, Or.inl ⟨by rfl, fun U hU => by first | (go_simp; done) | (go_simp; exact ho3)⟩, plan_yield ?_⟩
            | refine ⟨rfl, .pointer (some ⟨b, i * 33, none⟩), Or.inl ⟨by rfl, fun U hU => by first | (go_simp; done) | (go_simp; exact ho3)⟩, plan_yield ?_⟩
          simp only [Act.put, List.setIfInBounds_toArray, List.set_cons_zero, List.set_cons_succ]
          simp only [List.cons_append, List.nil_append, List.append_nil, List.filterMap_cons, List.filterMap_nil, List.getElem?_toArray, List.getElem?_cons_zero, List.getElem?_cons_succ]
          go_wp2_with fail
          first
            | refine ⟨rfl, _, .agg (rfC x), rfl, nyields_load_at (by rfl) 27 _ (by rfl) b (i * 33) 33 (rfF x.1 x.2) (by rfl) _ (fun U hU => HL.out U hU) Try.underlying27 rfl sizeRref, plan_yield ?_⟩
            | refine ⟨rfl, .agg (rfC x), nyields_load_at (by rfl) 27 _ (by rfl) b (i * 33) 33 (rfF x.1 x.2) (by rfl) _ (fun U hU => HL.out U hU) Try.underlying27 rfl sizeRref, plan_yield ?_⟩
          simp only [Act.put, List.setIfInBounds_toArray, List.set_cons_zero, List.set_cons_succ]
          simp only [List.cons_append, List.nil_append, List.append_nil, List.filterMap_cons, List.filterMap_nil, List.getElem?_toArray, List.getElem?_cons_zero, List.getElem?_cons_succ]
          go_wp2_with fail
          first
            | refine ⟨rfl, _, .slice (some ⟨go, oo, none⟩) (r - k) (co - k), rfl, Or.inl ⟨by rfl, fun U hU => by first | (go_simp; done) | (go_simp; exact ho3)⟩, plan_fork ?_ ?_⟩
            | refine ⟨rfl, .slice (some ⟨go, oo, none⟩) (r - k) (co - k), Or.inl ⟨by rfl, fun U hU => by first | (go_simp; done) | (go_simp; exact ho3)⟩, plan_fork ?_ ?_⟩
          · simp only [Act.put, List.setIfInBounds_toArray, List.set_cons_zero, List.set_cons_succ]
            simp only [List.cons_append, List.nil_append, List.append_nil, List.filterMap_cons, List.filterMap_nil, List.getElem?_toArray, List.getElem?_cons_zero, List.getElem?_cons_succ]
            have HE0' : Hid (((W0.alloc (.cells #[] 27)).drew).ownsRow W0.heap.size 27 33 (.slice (some ⟨W0.heap.size, 0, none⟩) 0 0) 0 (rfR [])) := (kown_empty (Blk.new W0 27 #[]) (Nat.le_refl _)).drew
            have HS0 : Hid (Below W0.heap.size W0 ((W0.alloc (.cells #[] 27)).drew)) := ((Below.refl _ W0).alloc (Nat.le_refl _) _).drew
            have HBS0 : Hid (Below w.heap.size w ((W0.alloc (.cells #[] 27)).drew)) := HB2.out.trans (HS0.out.mono HB2.out.size)
            go_wp2_with fail
            refine ⟨rfl, HBS0.out, plan_fork ?_ ?_⟩
            · simp only [List.cons_append, List.nil_append, List.append_nil, List.filterMap_cons, List.filterMap_nil, List.getElem?_toArray, List.getElem?_cons_zero, List.getElem?_cons_succ]
              have HE0 : Hid _ := HE0'.out
              have HS1 : Hid _ := HS0.out
              have HSZ1 : Hid (W0.heap.size ≤ ((W0.alloc (.cells #[] 27)).drew).heap.size) := HS0.out.size
              refine wpList_append_rfs rfl _ _ 23 rfl W0.heap.size 27 i0 (.agg (rfC rf0)) Try.underlying23 hi0 hz0 hz1 hz2 rf0_cells (.slice (some ⟨W0.heap.size, 0, none⟩) 0 0) [] 0 rfl rfl HE0.out go 0 k co (R.take k) HTK.out.1 rfl (HOR.out _ HS1.out) HTK.out.2 HSZ1.out ?_
              intro v4 U4 ho4 hb4 hg4
              rw [Nat.zero_add, List.nil_append] at ho4
              obtain ⟨q4, c4, rfl⟩ := kown_slice ho4
              have HO4 : Hid (U4.ownsRow W0.heap.size 27 33 (.slice q4 k c4) k (rfR (R.take k))) := ho4
              have HS4 : Hid (Below W0.heap.size W0 U4) := HS1.out.trans (hb4.mono (Nat.le_refl _))
              have HBS4 : Hid (Below w.heap.size w U4) := HB2.out.trans (HS4.out.mono HB2.out.size)
              clear ho4 hb4 hg4
              go_wp2_with fail
              refine ⟨rfl, HBS4.out, plan_force ?_⟩
              simp only [List.cons_append, List.nil_append, List.append_nil, List.filterMap_cons, List.filterMap_nil, List.getElem?_toArray, List.getElem?_cons_zero, List.getElem?_cons_succ]
              have HX9 : Hid (IsF (U4.alloc (.cells (rfC x) 27)) U4.heap.size 0 [x]) := isF_new (Blk.new U4 27 (rfC x))
              have HO4' : Hid ((U4.alloc (.cells (rfC x) 27)).ownsRow W0.heap.size 27 33 (.slice q4 k c4) k (rfR (R.take k))) := HO4.out.alloc _
              have HS4' : Hid (Below W0.heap.size W0 (U4.alloc (.cells (rfC x) 27))) := HS4.out.alloc HS4.out.size _
              have HBS4' : Hid (Below w.heap.size w (U4.alloc (.cells (rfC x) 27))) := HB2.out.trans (HS4'.out.mono HB2.out.size)
              refine wpList_build1 rfl 23 27 _ rfl (rfC x) rfl i0 _ 33 Try.underlying23 hi0 hz0 hz1 (rfC_size _) (by decide) (by decide) ?_
              simp only [Act.put, List.setIfInBounds_toArray, List.set_cons_zero, List.set_cons_succ]
              go_wp2_with fail
              refine ⟨rfl, HBS4'.out, plan_force ?_⟩
              simp only [List.cons_append, List.nil_append, List.append_nil, List.filterMap_cons, List.filterMap_nil, List.getElem?_toArray, List.getElem?_cons_zero, List.getElem?_cons_succ]
              clear HO4 HS4 HBS4
              have HO4 : Hid _ := HO4'.out
              have HS4 : Hid _ := HS4'.out
              have HX4 : Hid _ := HX9.out
              refine wpList_append_rfs rfl _ _ 23 rfl W0.heap.size 27 i0 (.agg (rfC rf0)) Try.underlying23 hi0 hz0 hz1 hz2 rf0_cells (.slice q4 k c4) (R.take k) k HTK2.out.1 rfl HO4.out U4.heap.size 0 1 1 [x] rfl rfl HX4.out HTK2.out.2 HS4.out.size ?_
              intro v5 U5 ho5 hb5 hg5
              obtain ⟨q5, c5, rfl⟩ := kown_slice ho5
              have HO5 : Hid (U5.ownsRow W0.heap.size 27 33 (.slice q5 (k + 1) c5) (k + 1) (rfR (R.take k ++ [x]))) := ho5
              have HS5 : Hid (Below W0.heap.size W0 U5) := HS4.out.trans (hb5.mono (Nat.le_refl _))
              have HBS5 : Hid (Below w.heap.size w U5) := HB2.out.trans (HS5.out.mono HB2.out.size)
              clear ho5 hb5 hg5
              go_wp2_with fail
              refine ⟨rfl, HBS5.out, plan_force ?_⟩
              simp only [List.cons_append, List.nil_append, List.append_nil, List.filterMap_cons, List.filterMap_nil, List.getElem?_toArray, List.getElem?_cons_zero, List.getElem?_cons_succ]
              refine wpList_append_rfs rfl _ _ 23 rfl W0.heap.size 27 i0 (.agg (rfC rf0)) Try.underlying23 hi0 hz0 hz1 hz2 rf0_cells (.slice q5 (k + 1) c5) (R.take k ++ [x]) (k + 1) HTK3.out.1 rfl HO5.out go oo (r - k) (co - k) (R.drop k) HTK3.out.2.1 rfl (HOD.out _ HS5.out) HTK3.out.2.2 HS5.out.size ?_
              intro v6 U6 ho6 hb6 hg6
              have HS6 : Hid (Below W0.heap.size W0 U6) := HS5.out.trans (hb6.mono (Nat.le_refl _))
              have HBS6 : Hid (Below w.heap.size w U6) := HB2.out.trans (HS6.out.mono HB2.out.size)
              rw [show k + 1 + (r - k) = r + 1 by omega] at ho6
              obtain ⟨g6, c6, rfl, _⟩ := kown_form ho6 (by omega)
              have HO6 : Hid (U6.ownsRow w.heap.size 27 33 (.slice (some ⟨g6, 0, none⟩) (r + 1) c6) (r + 1) (rfR (R.take k ++ ([x] ++ R.drop k)))) := by
                have := kown_mono ho6 HB2.out.size
                rw [List.append_assoc] at this
                exact this
              clear ho6 hb6 hg6
              go_wp2_with fail
              refine ⟨rfl, HBS6.out, plan_fin ?_⟩
              simp only [List.cons_append, List.nil_append, List.append_nil, List.filterMap_cons, List.filterMap_nil, List.getElem?_toArray, List.getElem?_cons_zero, List.getElem?_cons_succ]
              go_wp2_with fail
              refine ⟨rfl, ?_⟩
              go_wp2_with fail
              go_roundw
              case rel => exact ⟨i + 1, g6, r + 1, c6, R.take k ++ ([x] ++ R.drop k), by omega, by first | rfl | go_num | simp, by first | rfl | go_num | simp, HDN.out.1, HDN.out.2, HO6.out, HBS6.out⟩
              case measure => simp [intOf]; omega
            · simp only [List.cons_append, List.nil_append, List.append_nil, List.filterMap_cons, List.filterMap_nil, List.getElem?_toArray, List.getElem?_cons_zero, List.getElem?_cons_succ]
              have HX9 : Hid (IsF (((W0.alloc (.cells #[] 27)).alloc (.cells (rfC x) 27)).drew) (W0.heap.size + 1) 0 [x]) := isF_new (Blk.new1 W0 _ 27 (rfC x))
              have HE0 : Hid ((((W0.alloc (.cells #[] 27)).alloc (.cells (rfC x) 27)).drew).ownsRow W0.heap.size 27 33 (.slice (some ⟨W0.heap.size, 0, none⟩) 0 0) 0 (rfR [])) := ((kown_empty (Blk.new W0 27 #[]) (Nat.le_refl _)).alloc _).drew
              have HS1 : Hid (Below W0.heap.size W0 (((W0.alloc (.cells #[] 27)).alloc (.cells (rfC x) 27)).drew)) := (((Below.refl _ W0).alloc (Nat.le_refl _) _).alloc (by simp) _).drew
              have HSZ1 : Hid (W0.heap.size ≤ (((W0.alloc (.cells #[] 27)).alloc (.cells (rfC x) 27)).drew).heap.size) := HS1.out.size
              have HBS1 : Hid (Below w.heap.size w (((W0.alloc (.cells #[] 27)).alloc (.cells (rfC x) 27)).drew)) := HB2.out.trans (HS1.out.mono HB2.out.size)
              refine wpList_build1 rfl 23 27 _ rfl (rfC x) rfl i0 _ 33 Try.underlying23 hi0 hz0 hz1 (rfC_size _) (by decide) (by decide) ?_
              simp only [Act.put, List.setIfInBounds_toArray, List.set_cons_zero, List.set_cons_succ]
              go_wp2_with fail
              refine ⟨rfl, HBS1.out, plan_force ?_⟩
              simp only [List.cons_append, List.nil_append, List.append_nil, List.filterMap_cons, List.filterMap_nil, List.getElem?_toArray, List.getElem?_cons_zero, List.getElem?_cons_succ]
              refine wpList_append_rfs rfl _ _ 23 rfl W0.heap.size 27 i0 (.agg (rfC rf0)) Try.underlying23 hi0 hz0 hz1 hz2 rf0_cells (.slice (some ⟨W0.heap.size, 0, none⟩) 0 0) [] 0 rfl rfl HE0.out go 0 k co (R.take k) HTK.out.1 rfl (HOR.out _ HS1.out) HTK.out.2 HSZ1.out ?_
              intro v4 U4 ho4 hb4 hg4
              rw [Nat.zero_add, List.nil_append] at ho4
              obtain ⟨q4, c4, rfl⟩ := kown_slice ho4
              have HO4 : Hid (U4.ownsRow W0.heap.size 27 33 (.slice q4 k c4) k (rfR (R.take k))) := ho4
              have HS4 : Hid (Below W0.heap.size W0 U4) := HS1.out.trans (hb4.mono (Nat.le_refl _))
              have HX4 : Hid (IsF U4 (W0.heap.size + 1) 0 [x]) := fun j u hu => hg4.cell (HX9.out j u hu) (by simp [Value.ownBlock])
              have HBS4 : Hid (Below w.heap.size w U4) := HB2.out.trans (HS4.out.mono HB2.out.size)
              clear ho4 hb4 hg4
              go_wp2_with fail
              refine ⟨rfl, HBS4.out, plan_force ?_⟩
              simp only [List.cons_append, List.nil_append, List.append_nil, List.filterMap_cons, List.filterMap_nil, List.getElem?_toArray, List.getElem?_cons_zero, List.getElem?_cons_succ]
              refine wpList_append_rfs rfl _ _ 23 rfl W0.heap.size 27 i0 (.agg (rfC rf0)) Try.underlying23 hi0 hz0 hz1 hz2 rf0_cells (.slice q4 k c4) (R.take k) k HTK2.out.1 rfl HO4.out (W0.heap.size + 1) 0 1 1 [x] rfl rfl HX4.out HTK2.out.2 HS4.out.size ?_
              intro v5 U5 ho5 hb5 hg5
              obtain ⟨q5, c5, rfl⟩ := kown_slice ho5
              have HO5 : Hid (U5.ownsRow W0.heap.size 27 33 (.slice q5 (k + 1) c5) (k + 1) (rfR (R.take k ++ [x]))) := ho5
              have HS5 : Hid (Below W0.heap.size W0 U5) := HS4.out.trans (hb5.mono (Nat.le_refl _))
              have HBS5 : Hid (Below w.heap.size w U5) := HB2.out.trans (HS5.out.mono HB2.out.size)
              clear ho5 hb5 hg5
              go_wp2_with fail
              refine ⟨rfl, HBS5.out, plan_force ?_⟩
              simp only [List.cons_append, List.nil_append, List.append_nil, List.filterMap_cons, List.filterMap_nil, List.getElem?_toArray, List.getElem?_cons_zero, List.getElem?_cons_succ]
              refine wpList_append_rfs rfl _ _ 23 rfl W0.heap.size 27 i0 (.agg (rfC rf0)) Try.underlying23 hi0 hz0 hz1 hz2 rf0_cells (.slice q5 (k + 1) c5) (R.take k ++ [x]) (k + 1) HTK3.out.1 rfl HO5.out go oo (r - k) (co - k) (R.drop k) HTK3.out.2.1 rfl (HOD.out _ HS5.out) HTK3.out.2.2 HS5.out.size ?_
              intro v6 U6 ho6 hb6 hg6
              have HS6 : Hid (Below W0.heap.size W0 U6) := HS5.out.trans (hb6.mono (Nat.le_refl _))
              have HBS6 : Hid (Below w.heap.size w U6) := HB2.out.trans (HS6.out.mono HB2.out.size)
              rw [show k + 1 + (r - k) = r + 1 by omega] at ho6
              obtain ⟨g6, c6, rfl, _⟩ := kown_form ho6 (by omega)
              have HO6 : Hid (U6.ownsRow w.heap.size 27 33 (.slice (some ⟨g6, 0, none⟩) (r + 1) c6) (r + 1) (rfR (R.take k ++ ([x] ++ R.drop k)))) := by
                have := kown_mono ho6 HB2.out.size
                rw [List.append_assoc] at this
                exact this
              clear ho6 hb6 hg6
              go_wp2_with fail
              refine ⟨rfl, HBS6.out, plan_fin ?_⟩
              simp only [List.cons_append, List.nil_append, List.append_nil, List.filterMap_cons, List.filterMap_nil, List.getElem?_toArray, List.getElem?_cons_zero, List.getElem?_cons_succ]
              go_wp2_with fail
              refine ⟨rfl, ?_⟩
              go_wp2_with fail
              go_roundw
              case rel => exact ⟨i + 1, g6, r + 1, c6, R.take k ++ ([x] ++ R.drop k), by omega, by first | rfl | go_num | simp, by first | rfl | go_num | simp, HDN.out.1, HDN.out.2, HO6.out, HBS6.out⟩
              case measure => simp [intOf]; omega
          · simp only [Act.put, List.setIfInBounds_toArray, List.set_cons_zero, List.set_cons_succ]
            simp only [List.cons_append, List.nil_append, List.append_nil, List.filterMap_cons, List.filterMap_nil, List.getElem?_toArray, List.getElem?_cons_zero, List.getElem?_cons_succ]
            have HS0 : Hid (Below W0.heap.size W0 ((W0.alloc (.cells (rfC x) 27)).drew)) := ((Below.refl _ W0).alloc (Nat.le_refl _) _).drew
            have HBS0 : Hid (Below w.heap.size w ((W0.alloc (.cells (rfC x) 27)).drew)) := HB2.out.trans (HS0.out.mono HB2.out.size)
            refine wpList_build1 rfl 23 27 _ rfl (rfC x) rfl i0 _ 33 Try.underlying23 hi0 hz0 hz1 (rfC_size _) (by decide) (by decide) ?_
            simp only [Act.put, List.setIfInBounds_toArray, List.set_cons_zero, List.set_cons_succ]
            go_wp2_with fail
            refine ⟨rfl, HBS0.out, plan_force ?_⟩
            simp only [List.cons_append, List.nil_append, List.append_nil, List.filterMap_cons, List.filterMap_nil, List.getElem?_toArray, List.getElem?_cons_zero, List.getElem?_cons_succ]
            have HX9 : Hid (IsF (((W0.alloc (.cells (rfC x) 27)).alloc (.cells #[] 27)).drew) W0.heap.size 0 [x]) := isF_new ((Blk.new W0 27 (rfC x)).alloc _)
            have HE0 : Hid ((((W0.alloc (.cells (rfC x) 27)).alloc (.cells #[] 27)).drew).ownsRow W0.heap.size 27 33 (.slice (some ⟨W0.heap.size + 1, 0, none⟩) 0 0) 0 (rfR [])) := by
              have := (kown_empty (size := 33) (B := W0.heap.size) (Blk.new (W0.alloc (.cells (rfC x) 27)) 27 #[]) (by simp)).drew
              show World.ownsRow _ _ _ _ _ _ _
              simpa [rfR] using this
            have HS1 : Hid (Below W0.heap.size W0 (((W0.alloc (.cells (rfC x) 27)).alloc (.cells #[] 27)).drew)) := (((Below.refl _ W0).alloc (Nat.le_refl _) _).alloc (by simp) _).drew
            have HSZ1 : Hid (W0.heap.size ≤ (((W0.alloc (.cells (rfC x) 27)).alloc (.cells #[] 27)).drew).heap.size) := HS1.out.size
            have HBS1 : Hid (Below w.heap.size w (((W0.alloc (.cells (rfC x) 27)).alloc (.cells #[] 27)).drew)) := HB2.out.trans (HS1.out.mono HB2.out.size)
            go_wp2_with fail
            refine ⟨rfl, HBS1.out, plan_force ?_⟩
            simp only [List.cons_append, List.nil_append, List.append_nil, List.filterMap_cons, List.filterMap_nil, List.getElem?_toArray, List.getElem?_cons_zero, List.getElem?_cons_succ]
            refine wpList_append_rfs rfl _ _ 23 rfl W0.heap.size 27 i0 (.agg (rfC rf0)) Try.underlying23 hi0 hz0 hz1 hz2 rf0_cells (.slice (some ⟨(W0.heap.size + 1), 0, none⟩) 0 0) [] 0 rfl rfl HE0.out go 0 k co (R.take k) HTK.out.1 rfl (HOR.out _ HS1.out) HTK.out.2 HSZ1.out ?_
            intro v4 U4 ho4 hb4 hg4
            rw [Nat.zero_add, List.nil_append] at ho4
            obtain ⟨q4, c4, rfl⟩ := kown_slice ho4
            have HO4 : Hid (U4.ownsRow W0.heap.size 27 33 (.slice q4 k c4) k (rfR (R.take k))) := ho4
            have HS4 : Hid (Below W0.heap.size W0 U4) := HS1.out.trans (hb4.mono (Nat.le_refl _))
            have HX4 : Hid (IsF U4 W0.heap.size 0 [x]) := fun j u hu => hg4.cell (HX9.out j u hu) (by simp [Value.ownBlock])
            have HBS4 : Hid (Below w.heap.size w U4) := HB2.out.trans (HS4.out.mono HB2.out.size)
            clear ho4 hb4 hg4
            go_wp2_with fail
            refine ⟨rfl, HBS4.out, plan_force ?_⟩
            simp only [List.cons_append, List.nil_append, List.append_nil, List.filterMap_cons, List.filterMap_nil, List.getElem?_toArray, List.getElem?_cons_zero, List.getElem?_cons_succ]
            refine wpList_append_rfs rfl _ _ 23 rfl W0.heap.size 27 i0 (.agg (rfC rf0)) Try.underlying23 hi0 hz0 hz1 hz2 rf0_cells (.slice q4 k c4) (R.take k) k HTK2.out.1 rfl HO4.out W0.heap.size 0 1 1 [x] rfl rfl HX4.out HTK2.out.2 HS4.out.size ?_
            intro v5 U5 ho5 hb5 hg5
            obtain ⟨q5, c5, rfl⟩ := kown_slice ho5
            have HO5 : Hid (U5.ownsRow W0.heap.size 27 33 (.slice q5 (k + 1) c5) (k + 1) (rfR (R.take k ++ [x]))) := ho5
            have HS5 : Hid (Below W0.heap.size W0 U5) := HS4.out.trans (hb5.mono (Nat.le_refl _))
            have HBS5 : Hid (Below w.heap.size w U5) := HB2.out.trans (HS5.out.mono HB2.out.size)
            clear ho5 hb5 hg5
            go_wp2_with fail
            refine ⟨rfl, HBS5.out, plan_force ?_⟩
            simp only [List.cons_append, List.nil_append, List.append_nil, List.filterMap_cons, List.filterMap_nil, List.getElem?_toArray, List.getElem?_cons_zero, List.getElem?_cons_succ]
            refine wpList_append_rfs rfl _ _ 23 rfl W0.heap.size 27 i0 (.agg (rfC rf0)) Try.underlying23 hi0 hz0 hz1 hz2 rf0_cells (.slice q5 (k + 1) c5) (R.take k ++ [x]) (k + 1) HTK3.out.1 rfl HO5.out go oo (r - k) (co - k) (R.drop k) HTK3.out.2.1 rfl (HOD.out _ HS5.out) HTK3.out.2.2 HS5.out.size ?_
            intro v6 U6 ho6 hb6 hg6
            have HS6 : Hid (Below W0.heap.size W0 U6) := HS5.out.trans (hb6.mono (Nat.le_refl _))
            have HBS6 : Hid (Below w.heap.size w U6) := HB2.out.trans (HS6.out.mono HB2.out.size)
            rw [show k + 1 + (r - k) = r + 1 by omega] at ho6
            obtain ⟨g6, c6, rfl, _⟩ := kown_form ho6 (by omega)
            have HO6 : Hid (U6.ownsRow w.heap.size 27 33 (.slice (some ⟨g6, 0, none⟩) (r + 1) c6) (r + 1) (rfR (R.take k ++ ([x] ++ R.drop k)))) := by
              have := kown_mono ho6 HB2.out.size
              rw [List.append_assoc] at this
              exact this
            clear ho6 hb6 hg6
            go_wp2_with fail
            refine ⟨rfl, HBS6.out, plan_fin ?_⟩
            simp only [List.cons_append, List.nil_append, List.append_nil, List.filterMap_cons, List.filterMap_nil, List.getElem?_toArray, List.getElem?_cons_zero, List.getElem?_cons_succ]
            go_wp2_with fail
            refine ⟨rfl, ?_⟩
            go_wp2_with fail
            go_roundw
            case rel => exact ⟨i + 1, g6, r + 1, c6, R.take k ++ ([x] ++ R.drop k), by omega, by first | rfl | go_num | simp, by first | rfl | go_num | simp, HDN.out.1, HDN.out.2, HO6.out, HBS6.out⟩
            case measure => simp [intOf]; omega
    · have i1 : ¬ ((i : Int) < (n : Int)) := by omega
      obtain rfl : i = n := by omega
      have HE : Hid (R = unR L ∧ r = (unR L).length) := by
        have h := HR.out.2
        rw [List.take_of_length_le (by rw [HI.out.2.2]; exact Nat.le_refl _)] at h
        exact ⟨h, by rw [← h]; exact HR.out.1.symm⟩
      obtain ⟨h1, h2⟩ := HE.out
      subst h1
      subst h2
      go_wp2_with fail
      go_ret
      exact ⟨go, co, rfl, HOW.out, HB.out⟩
end Go.Proofs.Ytednfpponkaelaa
