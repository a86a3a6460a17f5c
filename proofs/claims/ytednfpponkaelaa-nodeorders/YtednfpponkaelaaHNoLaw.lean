/- The statement NodeOrders. -/
import Derived.Test.YtednfpponkaelaaHSegsP
import Derived.Test.YtednfpponkaelaaHNdBlock
import Derived.Test.YtednfpponkaelaaHNdAwake
import Derived.Deep.Cut
import Derived.Handy

namespace Go.Proofs.Ytednfpponkaelaa
open Go Go.RowKit Go.Nam
set_option linter.unusedVariables false
set_option linter.unusedSimpArgs false
set_option maxRecDepth 100000 in
set_option maxHeartbeats 16000000 in
theorem nodeOrdersLaw (a : Option Addr) (n c : Nat) (L : List Rf) (hl : L.length = n) (hn : n * 36 ≤ 140737488351232) (hN : a = none → n = 0 ∧ c = 0) (hR : ∀ x ∈ L, Rw x) (w : World) (hI : IsL w a L) :
    Calls Try.prog 3 #[.slice a n c] w fun e w' => e = .returned (.bool true) ∧ Below w.heap.size w w' := by
  obtain ⟨i0, hi0, hz0, hz1, hz2⟩ := info_parts infoRf
  obtain ⟨j0, hj0, hy0, hy1, hy2⟩ := info_parts infoQf
  have HI : Hid (IsL w a L ∧ L.length = n ∧ (a = none → n = 0 ∧ c = 0) ∧ ∀ x ∈ L, Rw x) := ⟨hI, hl, hN, hR⟩
  have nb : (n : Int) ≤ 10000000000000 := by omega
  have HE0 : Hid ((w.alloc (.cells #[] 31)).ownsRow w.heap.size 31 33 (.slice (some ⟨w.heap.size, 0, none⟩) 0 0) 0 []) := kown_empty (Blk.new w 31 #[]) (Nat.le_refl _)
  have HIA : Hid (IsL (w.alloc (.cells #[] 31)) a L) := hI.below ((Below.refl _ w).alloc (Nat.le_refl _) _)
  have HBA : Hid (Below w.heap.size w (w.alloc (.cells #[] 31))) := (Below.refl _ w).alloc (Nat.le_refl _) _
  clear hI hl hN hR
  go_enter Try.func3, Try.ntmps3
  go_upto_region 2 with (first | (refine wpList_append_refsA (by rfl) _ _ 22 (by rfl) w.heap.size 31 i0 _ Try.underlying22 hi0 hz0 hz1 hz2 rf0_cells w.heap.size 0 (by rfl) (by exact HE0.out) a n c L (by exact HI.out.2.1) (by rfl) (by exact HIA.out) (by exact HI.out.2.2.1) (by omega) (by simp) (fun g1 c1 w1 hg1 hgl hi1 hb1 => ?_); simp only [Act.put, List.setIfInBounds_toArray, List.set_cons_zero, List.set_cons_succ]) | fail)
  have HB1 : Hid (Below w.heap.size w w1) := HBA.out.trans (hb1.mono (Nat.le_refl _))
  have HIN : Hid (IsF w1 g1 0 L ∧ g1 < w1.heap.size ∧ w.heap.size ≤ g1) := ⟨hi1, hgl, hg1⟩
  have HIL : Hid (IsL w1 a L) := HI.out.1.below HB1.out
  have HM0 : Hid ((w1.alloc (.cells #[] 27)).ownsRow w1.heap.size 27 33 (.slice (some ⟨w1.heap.size, 0, none⟩) 0 0) 0 (rfR (L.take 0)) ∧ Below w1.heap.size w1 (w1.alloc (.cells #[] 27))) := ⟨kown_empty (Blk.new w1 27 #[]) (Nat.le_refl _), (Below.refl _ w1).alloc (Nat.le_refl _) _⟩
  clear hg1 hgl hi1 hb1 HE0 HIA HBA
  go_wp2_with fail
  go_loopw [4, 5] (fun v4 v5 wr => Hid (∃ (i gm cm : Nat), i ≤ n ∧ v5 = .int .i64 (i : Int) ∧ v4 = .slice (some ⟨gm, 0, none⟩) i cm ∧ wr.ownsRow w1.heap.size 27 33 (.slice (some ⟨gm, 0, none⟩) i cm) i (rfR (L.take i)) ∧ Below w1.heap.size w1 wr)) (fun _ v5 _ => n - (intOf v5).toNat)
  case atStart => exact ⟨0, w1.heap.size, 0, Nat.zero_le _, rfl, rfl, HM0.out.1, HM0.out.2⟩
  case round =>
    obtain ⟨WR, rfl⟩ : ∃ u, u = wr := ⟨_, rfl⟩
    obtain ⟨i, gm, cm, hin, rfl, rfl, hown, hbw⟩ := Hid.out hrel
    have HOW : Hid (WR.ownsRow w1.heap.size 27 33 (.slice (some ⟨gm, 0, none⟩) i cm) i (rfR (L.take i))) := hown
    have HBW : Hid (Below w1.heap.size w1 WR) := hbw
    clear hrel hown hbw HM0
    by_cases hi : i < n
    · have i1 : (i : Int) < (n : Int) := by omega
      have i0z : (0 : Int) ≤ (i : Int) := by omega
      obtain ⟨b, o, rfl, hbl, hfl⟩ : ∃ b o, a = some ⟨b, o, none⟩ ∧ b < w1.heap.size ∧ IsF w1 b o L := by
        rcases HIL.out with h | h
        · have := HI.out.2.1
          rw [h] at this
          simp at this
          omega
        · exact h
      have HF : Hid (b < w1.heap.size ∧ IsF w1 b o L) := ⟨hbl, hfl⟩
      obtain ⟨x, hx⟩ : ∃ x, L[i]? = some x := ⟨_, List.getElem?_eq_getElem (by rw [HI.out.2.1]; exact hi)⟩
      have HLX : Hid (L[i]? = some x ∧ Rw x) := ⟨hx, HI.out.2.2.2 x (List.mem_of_getElem? hx)⟩
      have HX : Hid (WR.rangeAt b (o + i * 33) ((List.range 33).map (rfF x.1 x.2))) := (hfl.below HBW.out hbl).range hx
      have HRF : Hid (∀ V : World, Calls Try.prog 4 #[.agg (va 33 (rfF x.1 x.2))] V fun e w' => e = .returned (.agg (rfC x)) ∧ Below V.heap.size V w') := fun V => refRef_any x V
      clear hx hbl hfl
      go_wp2_with (first | (refine wpList_load_blk (by rfl) 31 _ (by rfl) b (o + i * 33) 33 (rfF x.1 x.2) (by rfl) _ (by exact HX.out) Try.underlying31 rfl slSizeRef ?_; simp only [Act.put, List.setIfInBounds_toArray, List.set_cons_zero, List.set_cons_succ]) | fail)
      refine (HRF.out _).mono ?_
      rintro e W3 ⟨rfl, hb3⟩
      have HB3 : Hid (Below w1.heap.size w1 W3) := HBW.out.trans (hb3.mono HBW.out.size)
      have HX4 : Hid (IsF (W3.alloc (.cells (rfC x) 27)) W3.heap.size 0 [x]) := isF_new (Blk.new W3 27 (rfC x))
      have HO4 : Hid ((W3.alloc (.cells (rfC x) 27)).ownsRow w1.heap.size 27 33 (.slice (some ⟨gm, 0, none⟩) i cm) i (rfR (L.take i))) := (nkownBel HOW.out hb3).alloc _
      have HB4 : Hid (Below w1.heap.size w1 (W3.alloc (.cells (rfC x) 27))) := HB3.out.alloc HB3.out.size _
      have HSZ : Hid (w1.heap.size ≤ (W3.alloc (.cells (rfC x) 27)).heap.size) := HB4.out.size
      have HTL : Hid (i = (L.take i).length) := by
        have := HI.out.2.1
        show _ = _
        rw [List.length_take]
        omega
      have HBND : Hid (((L.take i).length + [x].length) * 36 ≤ 140737488355328) := by
        have := HTL.out
        show _ ≤ _
        rw [← this]
        simp
        omega
      have HTK : Hid (L.take (i + 1) = L.take i ++ [x]) := by
        show _ = _
        rw [List.take_add_one, HLX.out.1]
        rfl
      clear hb3
      go_upto_region 7 with (first | (refine wpList_build1 (by rfl) 23 27 _ (by rfl) (rfC x) (by rfl) j0 _ 33 Try.underlying23 hj0 hy0 hy1 (rfC_size _) (by decide) (by decide) ?_; simp only [Act.put, List.setIfInBounds_toArray, List.set_cons_zero, List.set_cons_succ]) | (refine wpList_append_rfs (by rfl) _ _ 23 (by rfl) w1.heap.size 27 j0 (.agg (rfC rf0)) Try.underlying23 hj0 hy0 hy1 hy2 rf0_cells (.slice (some ⟨gm, 0, none⟩) i cm) (L.take i) i HTL.out (by rfl) (by exact HO4.out) W3.heap.size 0 1 1 [x] rfl (by rfl) (by exact HX4.out) HBND.out HSZ.out (fun v5 U5 ho5 hb5 hg5 => ?_); simp only [Act.put, List.setIfInBounds_toArray, List.set_cons_zero, List.set_cons_succ]) | fail)
      obtain ⟨g5, c5, rfl, _⟩ := kown_form ho5 (by omega)
      have HO5 : Hid (U5.ownsRow w1.heap.size 27 33 (.slice (some ⟨g5, 0, none⟩) (i + 1) c5) (i + 1) (rfR (L.take (i + 1)))) := by rw [HTK.out]; exact ho5
      have HB5 : Hid (Below w1.heap.size w1 U5) := HB4.out.trans hb5
      clear ho5 hb5 hg5 HX HX4 HO4 HB4 HB3 HSZ HBND HTL HRF HOW HBW
      go_wp2_with fail
      go_loopw [6] (fun v6 wx => Hid (∃ k : Nat, k ≤ n ∧ v6 = .int .i64 (k : Int) ∧ Below U5.heap.size U5 wx)) (fun v6 _ => n - (intOf v6).toNat)
      case atStart => exact ⟨0, Nat.zero_le _, rfl, Below.refl _ _⟩
      case round =>
        obtain ⟨W1, rfl⟩ : ∃ u, u = wr := ⟨_, rfl⟩
        obtain ⟨k, hkn, rfl, hbk⟩ := Hid.out hrel
        have HBK : Hid (Below U5.heap.size U5 W1) := hbk
        clear hrel hbk
        by_cases hk : k < n
        · have k1 : (k : Int) < (n : Int) := by omega
          have k0z : (0 : Int) ≤ (k : Int) := by omega
          obtain ⟨y, hy⟩ : ∃ y, L[k]? = some y := ⟨_, List.getElem?_eq_getElem (by rw [HI.out.2.1]; exact hk)⟩
          have hyw := HI.out.2.2.2 y (List.mem_of_getElem? hy)
          have HXR : Hid (∀ W : World, Below U5.heap.size U5 W → W.rangeAt b (o + i * 33) ((List.range 33).map (rfF x.1 x.2))) := fun W hW => ((HF.out.2.below HB5.out HF.out.1).below hW (Nat.lt_of_lt_of_le HF.out.1 HB5.out.size)).range HLX.out.1
          have HYR : Hid (∀ W : World, Below U5.heap.size U5 W → W.rangeAt b (o + k * 33) ((List.range 33).map (rfF y.1 y.2))) := fun W hW => ((HF.out.2.below HB5.out HF.out.1).below hW (Nat.lt_of_lt_of_le HF.out.1 HB5.out.size)).range hy
          have HC1 : Hid (∀ V : World, Calls Try.prog 5 #[.agg (va 33 (rfF x.1 x.2)), .agg (va 33 (rfF y.1 y.2))] V fun e w' => e = .returned (.int .i64 (cmR x y)) ∧ Gr V w') := fun V => ncompare_any x y HLX.out.2 hyw V
          have HC2 : Hid (∀ V : World, Calls Try.prog 6 #[.agg (rfC x), .agg (rfC y)] V fun e w' => e = .returned (.int .i64 (cmR x y)) ∧ Gr V w') := fun V => rcompareN_any x y V
          have HRX : Hid (∀ V : World, Calls Try.prog 4 #[.agg (va 33 (rfF x.1 x.2))] V fun e w' => e = .returned (.agg (rfC x)) ∧ Below V.heap.size V w') := fun V => refRef_any x V
          have HRY : Hid (∀ V : World, Calls Try.prog 4 #[.agg (va 33 (rfF y.1 y.2))] V fun e w' => e = .returned (.agg (rfC y)) ∧ Below V.heap.size V w') := fun V => refRef_any y V
          have HS : Hid (Below U5.heap.size U5 W1.drew) := HBK.out.drew
          clear hy hyw
          generalize cmR x y = cv at *
          go_wp2_with fail
          refine wp_region_plan (fun U => Below U5.heap.size U5 U) (.yield [0, 1] 2 (.yield [] 3 (.yield [4, 5] 6 (.yield [] 7 (.yield [9, 10] 11 (.yield [] 12 (.yield [14, 15] 16 (.yield [] 17 (.force [] 8 (.force [] 13 (.force [] 18 (.force [] 19 (.force [] 20 (.fin [])))))))))))))) (by kernel_rfl) (by kernel_rfl) HS.out (plan_yield ?_)
          simp only [List.cons_append, List.nil_append, List.append_nil, List.filterMap_cons, List.filterMap_nil, List.getElem?_toArray, List.getElem?_cons_zero, List.getElem?_cons_succ]
          go_wp2_with fail
          first | (refine ⟨rfl, _, .pointer (some ⟨b, o + i * 33, none⟩), rfl, Or.inl ⟨by rfl, fun W hW => by go_simp⟩, plan_yield ?_⟩) | (refine ⟨rfl, .pointer (some ⟨b, o + i * 33, none⟩), Or.inl ⟨by rfl, fun W hW => by go_simp⟩, plan_yield ?_⟩)
          simp only [Act.put, List.setIfInBounds_toArray, List.set_cons_zero, List.set_cons_succ]
          simp only [List.cons_append, List.nil_append, List.append_nil, List.filterMap_cons, List.filterMap_nil, List.getElem?_toArray, List.getElem?_cons_zero, List.getElem?_cons_succ]
          go_wp2_with fail
          first | (refine ⟨rfl, _, .agg (va 33 (rfF x.1 x.2)), rfl, nyields_load_at (by rfl) 31 _ (by rfl) b (o + i * 33) 33 (rfF x.1 x.2) (by rfl) _ (fun W hW => HXR.out W hW) Try.underlying31 rfl slSizeRef, plan_yield ?_⟩) | (refine ⟨rfl, .agg (va 33 (rfF x.1 x.2)), nyields_load_at (by rfl) 31 _ (by rfl) b (o + i * 33) 33 (rfF x.1 x.2) (by rfl) _ (fun W hW => HXR.out W hW) Try.underlying31 rfl slSizeRef, plan_yield ?_⟩)
          simp only [Act.put, List.setIfInBounds_toArray, List.set_cons_zero, List.set_cons_succ]
          simp only [List.cons_append, List.nil_append, List.append_nil, List.filterMap_cons, List.filterMap_nil, List.getElem?_toArray, List.getElem?_cons_zero, List.getElem?_cons_succ]
          go_wp2_with fail
          first | (refine ⟨rfl, _, .pointer (some ⟨b, o + k * 33, none⟩), rfl, Or.inl ⟨by rfl, fun W hW => by go_simp⟩, plan_yield ?_⟩) | (refine ⟨rfl, .pointer (some ⟨b, o + k * 33, none⟩), Or.inl ⟨by rfl, fun W hW => by go_simp⟩, plan_yield ?_⟩)
          simp only [Act.put, List.setIfInBounds_toArray, List.set_cons_zero, List.set_cons_succ]
          simp only [List.cons_append, List.nil_append, List.append_nil, List.filterMap_cons, List.filterMap_nil, List.getElem?_toArray, List.getElem?_cons_zero, List.getElem?_cons_succ]
          go_wp2_with fail
          first | (refine ⟨rfl, _, .agg (va 33 (rfF y.1 y.2)), rfl, nyields_load_at (by rfl) 31 _ (by rfl) b (o + k * 33) 33 (rfF y.1 y.2) (by rfl) _ (fun W hW => HYR.out W hW) Try.underlying31 rfl slSizeRef, plan_yield ?_⟩) | (refine ⟨rfl, .agg (va 33 (rfF y.1 y.2)), nyields_load_at (by rfl) 31 _ (by rfl) b (o + k * 33) 33 (rfF y.1 y.2) (by rfl) _ (fun W hW => HYR.out W hW) Try.underlying31 rfl slSizeRef, plan_yield ?_⟩)
          simp only [Act.put, List.setIfInBounds_toArray, List.set_cons_zero, List.set_cons_succ]
          simp only [List.cons_append, List.nil_append, List.append_nil, List.filterMap_cons, List.filterMap_nil, List.getElem?_toArray, List.getElem?_cons_zero, List.getElem?_cons_succ]
          go_wp2_with fail
          first | (refine ⟨rfl, _, .pointer (some ⟨b, o + i * 33, none⟩), rfl, Or.inl ⟨by rfl, fun W hW => by go_simp⟩, plan_yield ?_⟩) | (refine ⟨rfl, .pointer (some ⟨b, o + i * 33, none⟩), Or.inl ⟨by rfl, fun W hW => by go_simp⟩, plan_yield ?_⟩)
          simp only [Act.put, List.setIfInBounds_toArray, List.set_cons_zero, List.set_cons_succ]
          simp only [List.cons_append, List.nil_append, List.append_nil, List.filterMap_cons, List.filterMap_nil, List.getElem?_toArray, List.getElem?_cons_zero, List.getElem?_cons_succ]
          go_wp2_with fail
          first | (refine ⟨rfl, _, .agg (va 33 (rfF x.1 x.2)), rfl, nyields_load_at (by rfl) 31 _ (by rfl) b (o + i * 33) 33 (rfF x.1 x.2) (by rfl) _ (fun W hW => HXR.out W hW) Try.underlying31 rfl slSizeRef, plan_yield ?_⟩) | (refine ⟨rfl, .agg (va 33 (rfF x.1 x.2)), nyields_load_at (by rfl) 31 _ (by rfl) b (o + i * 33) 33 (rfF x.1 x.2) (by rfl) _ (fun W hW => HXR.out W hW) Try.underlying31 rfl slSizeRef, plan_yield ?_⟩)
          simp only [Act.put, List.setIfInBounds_toArray, List.set_cons_zero, List.set_cons_succ]
          simp only [List.cons_append, List.nil_append, List.append_nil, List.filterMap_cons, List.filterMap_nil, List.getElem?_toArray, List.getElem?_cons_zero, List.getElem?_cons_succ]
          go_wp2_with fail
          first | (refine ⟨rfl, _, .pointer (some ⟨b, o + k * 33, none⟩), rfl, Or.inl ⟨by rfl, fun W hW => by go_simp⟩, plan_yield ?_⟩) | (refine ⟨rfl, .pointer (some ⟨b, o + k * 33, none⟩), Or.inl ⟨by rfl, fun W hW => by go_simp⟩, plan_yield ?_⟩)
          simp only [Act.put, List.setIfInBounds_toArray, List.set_cons_zero, List.set_cons_succ]
          simp only [List.cons_append, List.nil_append, List.append_nil, List.filterMap_cons, List.filterMap_nil, List.getElem?_toArray, List.getElem?_cons_zero, List.getElem?_cons_succ]
          go_wp2_with fail
          first | (refine ⟨rfl, _, .agg (va 33 (rfF y.1 y.2)), rfl, nyields_load_at (by rfl) 31 _ (by rfl) b (o + k * 33) 33 (rfF y.1 y.2) (by rfl) _ (fun W hW => HYR.out W hW) Try.underlying31 rfl slSizeRef, plan_force ?_⟩) | (refine ⟨rfl, .agg (va 33 (rfF y.1 y.2)), nyields_load_at (by rfl) 31 _ (by rfl) b (o + k * 33) 33 (rfF y.1 y.2) (by rfl) _ (fun W hW => HYR.out W hW) Try.underlying31 rfl slSizeRef, plan_force ?_⟩)
          simp only [Act.put, List.setIfInBounds_toArray, List.set_cons_zero, List.set_cons_succ]
          simp only [List.cons_append, List.nil_append, List.append_nil, List.filterMap_cons, List.filterMap_nil, List.getElem?_toArray, List.getElem?_cons_zero, List.getElem?_cons_succ]
          go_wp2_with fail
          refine (HC1.out _).mono ?_
          rintro e u1 ⟨rfl, h1⟩
          go_wp2_with fail
          have s1 : Below U5.heap.size U5 u1 := HS.out.trans (h1.below.mono HS.out.size)
          refine ⟨rfl, s1, plan_force ?_⟩
          simp only [List.cons_append, List.nil_append, List.append_nil, List.filterMap_cons, List.filterMap_nil, List.getElem?_toArray, List.getElem?_cons_zero, List.getElem?_cons_succ]
          go_wp2_with fail
          refine (HRX.out _).mono ?_
          rintro e u2 ⟨rfl, h2⟩
          go_wp2_with fail
          have s2 : Below U5.heap.size U5 u2 := s1.trans (h2.mono s1.size)
          refine ⟨rfl, s2, plan_force ?_⟩
          simp only [List.cons_append, List.nil_append, List.append_nil, List.filterMap_cons, List.filterMap_nil, List.getElem?_toArray, List.getElem?_cons_zero, List.getElem?_cons_succ]
          go_wp2_with fail
          refine (HRY.out _).mono ?_
          rintro e u3 ⟨rfl, h3⟩
          go_wp2_with fail
          have s3 : Below U5.heap.size U5 u3 := s2.trans (h3.mono s2.size)
          refine ⟨rfl, s3, plan_force ?_⟩
          simp only [List.cons_append, List.nil_append, List.append_nil, List.filterMap_cons, List.filterMap_nil, List.getElem?_toArray, List.getElem?_cons_zero, List.getElem?_cons_succ]
          go_wp2_with fail
          refine (HC2.out _).mono ?_
          rintro e u4 ⟨rfl, h4⟩
          go_wp2_with fail
          have s4 : Below U5.heap.size U5 u4 := s3.trans (h4.below.mono s3.size)
          refine ⟨rfl, s4, plan_force ?_⟩
          simp only [List.cons_append, List.nil_append, List.append_nil, List.filterMap_cons, List.filterMap_nil, List.getElem?_toArray, List.getElem?_cons_zero, List.getElem?_cons_succ]
          go_wp2_with fail
          refine ⟨rfl, s4, plan_fin ?_⟩
          simp only [List.cons_append, List.nil_append, List.append_nil, List.filterMap_cons, List.filterMap_nil, List.getElem?_toArray, List.getElem?_cons_zero, List.getElem?_cons_succ]
          go_wp2_with fail
          refine ⟨rfl, ?_⟩
          go_wp2_with fail
          go_roundw
          case rel => exact ⟨k + 1, by omega, by first | rfl | go_num | simp, s4⟩
          case measure => simp [intOf]; omega
        · have k1 : ¬ (k : Int) < (n : Int) := by omega
          go_wp2_with fail
          go_roundw
          case rel => exact ⟨i + 1, g5, c5, by omega, by first | rfl | go_num | simp, rfl, nkownBel HO5.out HBK.out, HB5.out.trans (HBK.out.mono HB5.out.size)⟩
          case measure => simp [intOf]; omega
    · have i1 : ¬ ((i : Int) < (n : Int)) := by omega
      obtain rfl : i = n := by omega
      have HTA : Hid (L.take i = L) := by
        show _ = _
        rw [List.take_of_length_le (by rw [HI.out.2.1]; exact Nat.le_refl _)]
      have HU1 : Hid (Calls Try.prog 7 #[.slice (some ⟨g1, 0, none⟩) i c1] WR fun e w' => ∃ (g c2 : Nat), e = .returned (.slice (some ⟨g, 0, none⟩) (unR L).length c2) ∧ WR.heap.size ≤ g ∧ g < w'.heap.size ∧ IsF w' g 0 (unR L) ∧ Below WR.heap.size WR w') := by
        have := unlike_any g1 c1 L HI.out.2.2.2 (by rw [HI.out.2.1]; omega) WR (Nat.lt_of_lt_of_le HIN.out.2.1 HBW.out.size) (HIN.out.1.below HBW.out HIN.out.2.1)
        rw [HI.out.2.1] at this
        exact this
      have HU2 : Hid (∀ V : World, Below WR.heap.size WR V → Calls Try.prog 8 #[.slice (some ⟨gm, 0, none⟩) i cm] V fun e w' => ∃ (g2 c2 : Nat), e = .returned (.slice (some ⟨g2, 0, none⟩) (unR L).length c2) ∧ w'.ownsRow V.heap.size 27 33 (.slice (some ⟨g2, 0, none⟩) (unR L).length c2) (unR L).length (rfR (unR L)) ∧ Below V.heap.size V w') := fun V hV => by
        have h1 := nkownBel HOW.out hV
        have := runlike_any gm cm L (by rw [HI.out.2.1]; omega) V (h1.lt gm rfl).2 (by have := own_isF h1; rw [HTA.out] at this; exact this)
        rw [HI.out.2.1] at this
        exact this
      obtain ⟨r, hr⟩ : ∃ r, (unR L).length = r := ⟨_, rfl⟩
      have hrn : r ≤ i := by
        rw [← hr, ← HI.out.2.1]
        exact unR_len L
      have HRL : Hid ((unR L).length = r) := hr
      rw [hr] at HU1 HU2
      clear hr
      go_wp2_with fail
      refine HU1.out.mono ?_
      rintro e U6 ⟨gx, cx, rfl, _, hgx, hix, hb6⟩
      have HX6 : Hid (IsF U6 gx 0 (unR L) ∧ gx < U6.heap.size) := ⟨hix, hgx⟩
      have HB6 : Hid (Below WR.heap.size WR U6) := hb6
      clear hix hgx hb6
      go_wp2_with fail
      refine (HU2.out U6 HB6.out).mono ?_
      rintro e U7 ⟨gy, cy, rfl, hoy, hb7⟩
      have HY7 : Hid (IsF U7 gy 0 (unR L) ∧ gy < U7.heap.size) := ⟨own_isF hoy, (hoy.lt gy rfl).2⟩
      have HB7 : Hid (Below U6.heap.size U6 U7) := hb7
      clear hoy hb7
      go_wp2_with fail
      refine (awake7_any U7).mono ?_
      rintro e U9 ⟨rfl, hb9⟩
      have HB9 : Hid (Below U7.heap.size U7 U9) := hb9
      have HW9 : Hid (Below WR.heap.size WR U9) := (HB6.out.trans (HB7.out.mono HB6.out.size)).trans (hb9.mono (Nat.le_trans HB6.out.size HB7.out.size))
      have H19 : Hid (Below w1.heap.size w1 U9) := HBW.out.trans (HW9.out.mono HBW.out.size)
      have HX9 : Hid (IsF U9 gx 0 (unR L) ∧ gx < U9.heap.size) := by
        have h1 := HB7.out.size
        have h2 := hb9.size
        have h3 := HX6.out.2
        exact ⟨(HX6.out.1.below HB7.out h3).below hb9 (by omega), by omega⟩
      have HY9 : Hid (IsF U9 gy 0 (unR L) ∧ gy < U9.heap.size) := ⟨HY7.out.1.below hb9 HY7.out.2, Nat.lt_of_lt_of_le HY7.out.2 hb9.size⟩
      have HN9 : Hid (IsF U9 g1 0 L ∧ g1 < U9.heap.size) := ⟨HIN.out.1.below H19.out HIN.out.2.1, Nat.lt_of_lt_of_le HIN.out.2.1 H19.out.size⟩
      have HL9 : Hid (IsL U9 a L) := HIL.out.below H19.out
      have HBE : Hid (Below w.heap.size w U9) := HB1.out.trans (H19.out.mono HB1.out.size)
      clear hb9 HX6 HY7 HB6 HB7 HB9 HW9 HU1 HU2 HIN HIL HOW HBW H19 HB1
      go_wp2_with fail
      go_loopw [9] (fun v9 wx => Hid (∃ k : Nat, k ≤ r ∧ v9 = .int .i64 (k : Int) ∧ Below U9.heap.size U9 wx)) (fun v9 _ => r - (intOf v9).toNat)
      case atStart => exact ⟨0, Nat.zero_le _, rfl, Below.refl _ _⟩
      case round =>
        obtain ⟨W1, rfl⟩ : ∃ u, u = wr := ⟨_, rfl⟩
        obtain ⟨k, hkn, rfl, hbk⟩ := Hid.out hrel
        have HBK : Hid (Below U9.heap.size U9 W1) := hbk
        clear hrel hbk
        by_cases hk : k < r
        · have k1 : (k : Int) < (r : Int) := by omega
          have k0z : (0 : Int) ≤ (k : Int) := by omega
          obtain ⟨z, hz⟩ : ∃ z, (unR L)[k]? = some z := ⟨_, List.getElem?_eq_getElem (by rw [HRL.out]; exact hk)⟩
          have HZX : Hid (∀ W : World, Below U9.heap.size U9 W → W.rangeAt gx (k * 33) ((List.range 33).map (rfF z.1 z.2))) := fun W hW => by
            have := (HX9.out.1.below hW HX9.out.2).range hz
            rwa [Nat.zero_add] at this
          have HZY : Hid (∀ W : World, Below U9.heap.size U9 W → W.rangeAt gy (k * 33) ((List.range 33).map (rfF z.1 z.2))) := fun W hW => by
            have := (HY9.out.1.below hW HY9.out.2).range hz
            rwa [Nat.zero_add] at this
          have HPL : Hid (∀ V : World, Calls Try.prog 10 #[.agg (va 33 (rfF z.1 z.2))] V fun e w' => e = .returned (.agg (va 33 (rfF z.1 z.2))) ∧ Below V.heap.size V w') := fun V => refPlain_any z V
          have HS : Hid (Below U9.heap.size U9 W1.drew) := HBK.out.drew
          have hq : ∀ W, (Op.equalIn 10000 31 (.agg (va 33 (rfF z.1 z.2))) (.agg (va 33 (rfF z.1 z.2)))).run Try.prog W = .ok true W := fun W => by
            have := eq_ref 9997 z z W
            rw [decide_eq_true rfl] at this
            exact this
          clear hz
          go_wp2_with fail
          refine wp_region_plan (fun U => Below U9.heap.size U9 U) (.yield [0, 1] 2 (.yield [] 3 (.yield [4, 5] 6 (.yield [] 7 (.force [] 8 (.force [] 9 (.fin []))))))) (by kernel_rfl) (by kernel_rfl) HS.out (plan_yield ?_)
          simp only [List.cons_append, List.nil_append, List.append_nil, List.filterMap_cons, List.filterMap_nil, List.getElem?_toArray, List.getElem?_cons_zero, List.getElem?_cons_succ]
          go_wp2_with fail
          first | (refine ⟨rfl, _, .pointer (some ⟨gx, k * 33, none⟩), rfl, Or.inl ⟨by rfl, fun W hW => by go_simp⟩, plan_yield ?_⟩) | (refine ⟨rfl, .pointer (some ⟨gx, k * 33, none⟩), Or.inl ⟨by rfl, fun W hW => by go_simp⟩, plan_yield ?_⟩)
          simp only [Act.put, List.setIfInBounds_toArray, List.set_cons_zero, List.set_cons_succ]
          simp only [List.cons_append, List.nil_append, List.append_nil, List.filterMap_cons, List.filterMap_nil, List.getElem?_toArray, List.getElem?_cons_zero, List.getElem?_cons_succ]
          go_wp2_with fail
          first | (refine ⟨rfl, _, .agg (va 33 (rfF z.1 z.2)), rfl, nyields_load_at (by rfl) 31 _ (by rfl) gx (k * 33) 33 (rfF z.1 z.2) (by rfl) _ (fun W hW => HZX.out W hW) Try.underlying31 rfl slSizeRef, plan_yield ?_⟩) | (refine ⟨rfl, .agg (va 33 (rfF z.1 z.2)), nyields_load_at (by rfl) 31 _ (by rfl) gx (k * 33) 33 (rfF z.1 z.2) (by rfl) _ (fun W hW => HZX.out W hW) Try.underlying31 rfl slSizeRef, plan_yield ?_⟩)
          simp only [Act.put, List.setIfInBounds_toArray, List.set_cons_zero, List.set_cons_succ]
          simp only [List.cons_append, List.nil_append, List.append_nil, List.filterMap_cons, List.filterMap_nil, List.getElem?_toArray, List.getElem?_cons_zero, List.getElem?_cons_succ]
          go_wp2_with fail
          first | (refine ⟨rfl, _, .pointer (some ⟨gy, k * 33, none⟩), rfl, Or.inl ⟨by rfl, fun W hW => by go_simp⟩, plan_yield ?_⟩) | (refine ⟨rfl, .pointer (some ⟨gy, k * 33, none⟩), Or.inl ⟨by rfl, fun W hW => by go_simp⟩, plan_yield ?_⟩)
          simp only [Act.put, List.setIfInBounds_toArray, List.set_cons_zero, List.set_cons_succ]
          simp only [List.cons_append, List.nil_append, List.append_nil, List.filterMap_cons, List.filterMap_nil, List.getElem?_toArray, List.getElem?_cons_zero, List.getElem?_cons_succ]
          go_wp2_with fail
          first | (refine ⟨rfl, _, .agg (va 33 (rfF z.1 z.2)), rfl, nyields_load_at (by rfl) 27 _ (by rfl) gy (k * 33) 33 (rfF z.1 z.2) (by rfl) _ (fun W hW => HZY.out W hW) Try.underlying27 rfl sizeRref, plan_force ?_⟩) | (refine ⟨rfl, .agg (va 33 (rfF z.1 z.2)), nyields_load_at (by rfl) 27 _ (by rfl) gy (k * 33) 33 (rfF z.1 z.2) (by rfl) _ (fun W hW => HZY.out W hW) Try.underlying27 rfl sizeRref, plan_force ?_⟩)
          simp only [Act.put, List.setIfInBounds_toArray, List.set_cons_zero, List.set_cons_succ]
          simp only [List.cons_append, List.nil_append, List.append_nil, List.filterMap_cons, List.filterMap_nil, List.getElem?_toArray, List.getElem?_cons_zero, List.getElem?_cons_succ]
          go_wp2_with fail
          refine (HPL.out _).mono ?_
          rintro e u1 ⟨rfl, h1⟩
          go_wp2_with fail
          have s1 : Below U9.heap.size U9 u1 := HS.out.trans (h1.mono HS.out.size)
          refine ⟨rfl, s1, plan_force ?_⟩
          simp only [List.cons_append, List.nil_append, List.append_nil, List.filterMap_cons, List.filterMap_nil, List.getElem?_toArray, List.getElem?_cons_zero, List.getElem?_cons_succ]
          go_wp2_with fail
          refine ⟨rfl, s1, plan_fin ?_⟩
          simp only [List.cons_append, List.nil_append, List.append_nil, List.filterMap_cons, List.filterMap_nil, List.getElem?_toArray, List.getElem?_cons_zero, List.getElem?_cons_succ]
          go_wp2_with fail
          refine ⟨rfl, ?_⟩
          go_wp2_with fail
          go_roundw
          case rel => exact ⟨k + 1, by omega, by first | rfl | go_num | simp, s1⟩
          case measure => simp [intOf]; omega
        · have k1 : ¬ (k : Int) < (r : Int) := by omega
          have HW1 : Hid (Below U9.heap.size U9 W1) := HBK.out
          go_wp2_with fail
          go_loopw [10] (fun v10 wx => Hid (∃ k : Nat, k ≤ i ∧ v10 = .int .i64 (k : Int) ∧ Below U9.heap.size U9 wx)) (fun v10 _ => i - (intOf v10).toNat)
          case atStart => exact ⟨0, Nat.zero_le _, rfl, HW1.out⟩
          case round =>
            obtain ⟨W2, rfl⟩ : ∃ u, u = wr := ⟨_, rfl⟩
            clear HBK HW1 k1 hkn hk
            obtain ⟨k', hkn, rfl, hbk⟩ := Hid.out hrel
            obtain ⟨k, rfl⟩ : ∃ q, q = k' := ⟨_, rfl⟩
            have HBK : Hid (Below U9.heap.size U9 W2) := hbk
            clear hrel hbk
            by_cases hk : k < i
            · have k1 : (k : Int) < (i : Int) := by omega
              have k0z : (0 : Int) ≤ (k : Int) := by omega
              obtain ⟨b, o, rfl, hbl, hfl⟩ : ∃ b o, a = some ⟨b, o, none⟩ ∧ b < U9.heap.size ∧ IsF U9 b o L := by
                rcases HL9.out with h | h
                · have := HI.out.2.1
                  rw [h] at this
                  simp at this
                  omega
                · exact h
              obtain ⟨z, hz⟩ : ∃ z, L[k]? = some z := ⟨_, List.getElem?_eq_getElem (by rw [HI.out.2.1]; exact hk)⟩
              have HZ1 : Hid (∀ W : World, Below U9.heap.size U9 W → W.rangeAt g1 (k * 33) ((List.range 33).map (rfF z.1 z.2))) := fun W hW => by
                have := (HN9.out.1.below hW HN9.out.2).range hz
                rwa [Nat.zero_add] at this
              have HZL : Hid (∀ W : World, Below U9.heap.size U9 W → W.rangeAt b (o + k * 33) ((List.range 33).map (rfF z.1 z.2))) := fun W hW => (hfl.below hW hbl).range hz
              have HS : Hid (Below U9.heap.size U9 W2.drew) := HBK.out.drew
              have hq : ∀ W, (Op.equalIn 10000 31 (.agg (va 33 (rfF z.1 z.2))) (.agg (va 33 (rfF z.1 z.2)))).run Try.prog W = .ok true W := fun W => by
                have := eq_ref 9997 z z W
                rw [decide_eq_true rfl] at this
                exact this
              clear hz hbl hfl
              go_wp2_with fail
              refine wp_region_plan (fun U => Below U9.heap.size U9 U) (.yield [0, 1] 2 (.yield [] 3 (.yield [4, 5] 6 (.yield [] 7 (.force [] 8 (.fin [])))))) (by kernel_rfl) (by kernel_rfl) HS.out (plan_yield ?_)
              simp only [List.cons_append, List.nil_append, List.append_nil, List.filterMap_cons, List.filterMap_nil, List.getElem?_toArray, List.getElem?_cons_zero, List.getElem?_cons_succ]
              go_wp2_with fail
              first | (refine ⟨rfl, _, .pointer (some ⟨g1, k * 33, none⟩), rfl, Or.inl ⟨by rfl, fun W hW => by go_simp⟩, plan_yield ?_⟩) | (refine ⟨rfl, .pointer (some ⟨g1, k * 33, none⟩), Or.inl ⟨by rfl, fun W hW => by go_simp⟩, plan_yield ?_⟩)
              simp only [Act.put, List.setIfInBounds_toArray, List.set_cons_zero, List.set_cons_succ]
              simp only [List.cons_append, List.nil_append, List.append_nil, List.filterMap_cons, List.filterMap_nil, List.getElem?_toArray, List.getElem?_cons_zero, List.getElem?_cons_succ]
              go_wp2_with fail
              first | (refine ⟨rfl, _, .agg (va 33 (rfF z.1 z.2)), rfl, nyields_load_at (by rfl) 31 _ (by rfl) g1 (k * 33) 33 (rfF z.1 z.2) (by rfl) _ (fun W hW => HZ1.out W hW) Try.underlying31 rfl slSizeRef, plan_yield ?_⟩) | (refine ⟨rfl, .agg (va 33 (rfF z.1 z.2)), nyields_load_at (by rfl) 31 _ (by rfl) g1 (k * 33) 33 (rfF z.1 z.2) (by rfl) _ (fun W hW => HZ1.out W hW) Try.underlying31 rfl slSizeRef, plan_yield ?_⟩)
              simp only [Act.put, List.setIfInBounds_toArray, List.set_cons_zero, List.set_cons_succ]
              simp only [List.cons_append, List.nil_append, List.append_nil, List.filterMap_cons, List.filterMap_nil, List.getElem?_toArray, List.getElem?_cons_zero, List.getElem?_cons_succ]
              go_wp2_with fail
              first | (refine ⟨rfl, _, .pointer (some ⟨b, o + k * 33, none⟩), rfl, Or.inl ⟨by rfl, fun W hW => by go_simp⟩, plan_yield ?_⟩) | (refine ⟨rfl, .pointer (some ⟨b, o + k * 33, none⟩), Or.inl ⟨by rfl, fun W hW => by go_simp⟩, plan_yield ?_⟩)
              simp only [Act.put, List.setIfInBounds_toArray, List.set_cons_zero, List.set_cons_succ]
              simp only [List.cons_append, List.nil_append, List.append_nil, List.filterMap_cons, List.filterMap_nil, List.getElem?_toArray, List.getElem?_cons_zero, List.getElem?_cons_succ]
              go_wp2_with fail
              first | (refine ⟨rfl, _, .agg (va 33 (rfF z.1 z.2)), rfl, nyields_load_at (by rfl) 31 _ (by rfl) b (o + k * 33) 33 (rfF z.1 z.2) (by rfl) _ (fun W hW => HZL.out W hW) Try.underlying31 rfl slSizeRef, plan_force ?_⟩) | (refine ⟨rfl, .agg (va 33 (rfF z.1 z.2)), nyields_load_at (by rfl) 31 _ (by rfl) b (o + k * 33) 33 (rfF z.1 z.2) (by rfl) _ (fun W hW => HZL.out W hW) Try.underlying31 rfl slSizeRef, plan_force ?_⟩)
              simp only [Act.put, List.setIfInBounds_toArray, List.set_cons_zero, List.set_cons_succ]
              simp only [List.cons_append, List.nil_append, List.append_nil, List.filterMap_cons, List.filterMap_nil, List.getElem?_toArray, List.getElem?_cons_zero, List.getElem?_cons_succ]
              go_wp2_with fail
              refine ⟨rfl, HS.out, plan_fin ?_⟩
              simp only [List.cons_append, List.nil_append, List.append_nil, List.filterMap_cons, List.filterMap_nil, List.getElem?_toArray, List.getElem?_cons_zero, List.getElem?_cons_succ]
              go_wp2_with fail
              refine ⟨rfl, ?_⟩
              go_wp2_with fail
              go_roundw
              case rel => exact ⟨k + 1, by omega, by first | rfl | go_num | simp, HS.out⟩
              case measure => simp [intOf]; omega
            · have k1 : ¬ (k : Int) < (i : Int) := by omega
              go_wp2_with fail
              go_ret
              exact ⟨rfl, HBE.out.trans (HBK.out.mono HBE.out.size)⟩
end Go.Proofs.Ytednfpponkaelaa
