/- A slice of deeds (three integers each) as an argument, opened: no condition but that it is one. -/
import Derived.Test.YtjbmhocmpgkmoaaDoorHBiNil
import Derived.Test.YtjbmhocmpgkmoaaDoorHBiWith
import Derived.Handy
import Derived.Deep.DeepCutAuto
import Derived.Deep.Cut
import Derived.Deep.CutRange
import Derived.BigQuiet
import Derived.Deep.QuietTactic
import Derived.Test.YtjbmhocmpgkmoaaDoorRows
import Derived.WalkKit
import Derived.ProofKit
import Derived.OpenShut
import Derived.Carry
import Derived.Deep.Slices
import Derived.Lib.SmallJoins
import Derived.SizedLaws

namespace Go.Proofs.YtjbmhocmpgkmoaaDoor
open Go Go.RowKit
set_option linter.unusedVariables false
set_option linter.unusedSimpArgs false
set_option maxHeartbeats 4000000 in
theorem bleaves_no (p : Int) (hp : p < 1 ∨ 8192 < p) (a : Option Addr) (N cc : Nat) (f : Int) (w : World) : Calls Tryd.prog 3 #[.int .i64 p, .slice a N cc, .int .i64 f] w fun e w' => e = .returned (.bool true) ∧ Below w.heap.size w w' := by
  have HP := played_no p hp (.slice a N cc) w
  go_enter Tryd.func3, Tryd.ntmps3
  go_wp2_with fail
  refine HP.mono ?_
  rintro e w1 ⟨rfl, rfl⟩
  go_wp2_with fail
  refine (awake11_any _).mono ?_
  rintro e w2 ⟨rfl, hb2⟩
  go_wp2_with fail
  refine (awake11_any _).mono ?_
  rintro e w3 ⟨rfl, hb3⟩
  go_wp2_with fail
  go_ret
  exact ⟨rfl, hb2.trans (hb3.mono hb2.size)⟩
theorem byL_snoc (Y g : Nat → Nat) (m : Nat) : byL (fun x => if x < m * 256 then Y x else g (x - m * 256)) ((m + 1) * 256) = byL Y (m * 256) ++ (va 256 (iv .u8 g)).toList := by
  rw [Nat.succ_mul, byL_add, va_toList]
  congr 1
  · exact byL_congr fun j hj => by rw [if_pos hj]
  · unfold byL
    refine List.map_congr_left fun j hj => ?_
    show Value.int .u8 ((if m * 256 + j < m * 256 then Y (m * 256 + j) else g (m * 256 + j - m * 256) : Nat) : Int) = Value.int .u8 ((g j : Nat) : Int)
    rw [if_neg (by omega), show m * 256 + j - m * 256 = j by omega]
theorem byL_put (F : Nat → Nat) (m i x : Nat) : (byL F m).set i (.int .u8 ((x : Nat) : Int)) = byL (fun j => if j = i then x else F j) m := by
  unfold byL
  refine List.ext_getElem? fun j => ?_
  rw [List.getElem?_set]
  by_cases h : i = j
  · subst h
    by_cases hm : i < m
    · simp [hm]
    · simp [hm]
  · have h' : ¬ j = i := fun e => h e.symm
    by_cases hm : j < m
    · simp [h, h', hm]
    · simp [h, hm]
set_option maxRecDepth 100000 in
set_option maxHeartbeats 8000000 in
theorem bleaves_ok (n : Nat) (h1 : 1 ≤ n) (h2 : n ≤ 8192) (a : Option Addr) (N cc : Nat) (hN : N ≤ 9223372036854775807) (K A Z : Nat → Int) (f : Int) (w : World) (h0 : 0 < w.heap.size) (hT : TabAt w) (hD : IsDeeds w a N K A Z) : Calls Tryd.prog 3 #[.int .i64 (n : Int), .slice a N cc, .int .i64 f] w fun e w' => e = .returned (.bool true) ∧ Below w.heap.size w w' := by
  have HP := played_ok (n := n) h1 h2 a N cc hN K A Z w hD
  have HT : Hid (∀ V, Below w.heap.size w V → TabAt V ∧ 0 < V.heap.size) := fun V hV => ⟨hT.below h0 hV, Nat.lt_of_lt_of_le h0 hV.size⟩
  have HL8 : Hid (1 ≤ lvN n ∧ lvN n ≤ 8) := ⟨lvN_pos h1, lvN_le h2⟩
  clear hT hD
  go_enter Tryd.func3, Tryd.ntmps3
  go_wp2_with fail
  refine HP.mono ?_
  rintro e w1 ⟨g, k, rfl, ⟨b, c, W, hM⟩, hb1⟩
  go_wp2_with fail
  refine (awake11_any _).mono ?_
  rintro e w2 ⟨rfl, hb2⟩
  have hM2 := hM.below hb2
  have hbw2 : Below w.heap.size w w2 := hb1.trans (hb2.mono hb1.size)
  clear hM hb1 hb2 HP
  have HX := leavesM_any w2 hM2.m
  go_wp2_with fail
  refine HX.mono ?_
  rintro e w3 ⟨xv, rfl, hx3, hb3⟩
  have hM3 := hM2.below hb3
  have hbw3 : Below w.heap.size w w3 := hbw2.trans (hb3.mono hbw2.size)
  have HW := rleaves11 w3 hM3.a
  clear HX hM2 hbw2
  go_wp2_with fail
  refine HW.mono ?_
  rintro e w4 ⟨wv, rfl, hw4, hb4⟩
  have hM4 := hM3.below hb4
  have hbw4 : Below w.heap.size w w4 := hbw3.trans (hb4.mono hbw3.size)
  have hx4 := kown_below hx3 hb4
  obtain ⟨ax, cx, rfl, IX0⟩ := own_blks hx4
  have IX := lvs_blks IX0
  rw [rlA_lvs hM3.m.tail] at hw4
  obtain ⟨kw, cw, rfl, hkw, hkw'⟩ := kown_form hw4 HL8.out.1
  have IW : IsBlks w4 (some ⟨kw, 0, none⟩) (lvN n) fun i j => lfF W i 16 j := by
    obtain ⟨a2, c2, e2, I2⟩ := own_blks hw4
    injection e2 with e2
    subst e2
    exact lvs_blks I2
  have HI : Hid (∀ V, Below w4.heap.size w4 V → IsBlks V ax (lvN n) (fun i j => lfF W i 16 j) ∧ IsBlks V (some ⟨kw, 0, none⟩) (lvN n) (fun i j => lfF W i 16 j)) := fun V hV => ⟨IX.below hV, IW.below hV⟩
  have HM3 : Hid (MK w3 w.heap.size g n b c k W ∧ w3.heap.size ≤ kw ∧ Below w.heap.size w w3 ∧ Below w3.heap.size w3 w4) := ⟨hM3, hkw, hbw3, hb4⟩
  have HW4 : Hid (w4.ownsRow w3.heap.size 32 256 (.slice (some ⟨kw, 0, none⟩) (lvN n) cw) (lvN n) (byL (lvsF W) (lvN n * 256))) := hw4
  clear hx3 hx4 IX0 IX hw4 IW hM3 hM4 hbw3 hbw4 hb3 hb4 HW hkw hkw'
  go_wp2_with fail
  go_loopw [13] (fun t wr => Hid (∃ j : Nat, j ≤ lvN n ∧ t = .int .i64 (j : Int) ∧ Below w4.heap.size w4 wr)) (fun t _ => lvN n - (intOf t).toNat)
  case atStart => exact ⟨0, by omega, rfl, Below.refl _ _⟩
  case round =>
    obtain ⟨j, hj, rfl, hb⟩ := Hid.out hrel
    clear hrel
    by_cases hlt : j < lvN n
    · obtain ⟨b1, o1, rfl, l1, r1⟩ := (HI.out wr hb).1 j hlt
      obtain ⟨b2, o2, e2, l2, r2⟩ := (HI.out wr hb).2 j hlt
      injection e2 with e2
      injection e2 with e2 e3
      subst e2 e3
      have R1 : Hid (wr.rangeAt b1 (o1 + j * 256) ((List.range 256).map (iv .u8 (lfF W j 16)))) := r1
      have R2 : Hid (wr.rangeAt kw (j * 256) ((List.range 256).map (iv .u8 (lfF W j 16)))) := by rw [Nat.zero_add] at r2; exact r2
      have k0 : (0 : Int) ≤ (j : Int) := by omega
      have k1 : (j : Int) < (lvN n : Int) := by omega
      have k2 : (j : Int) < 8 := by have := HL8.out; omega
      have HJ : Hid (j < lvN n) := hlt
      have hq : ∀ w, (Op.equalIn 10000 33 (.agg (va 256 (iv .u8 (lfF W j 16)))) (.agg (va 256 (iv .u8 (lfF W j 16))))).run Tryd.prog w = .ok true w := fun w => by
        have := eq_bk 33 Tryd.underlying33 (lfF W j 16) (lfF W j 16) w
        rw [decide_eq_true (fun _ _ => rfl)] at this
        exact this
      clear r1 r2
      generalize lfF W j 16 = fj at *
      go_wp2_with fail
      refine wp_region_partsI [] [([0, 1, 2, 4, 5, 6], 3, true), ([], 7, false), ([], 8, false)] [] [] (wr.heap.size) (by kernel_rfl) (by kernel_rfl) (fun _ hx => nomatch hx) (partsI_yield ?_)
      simp only [List.cons_append, List.nil_append, List.append_nil, List.filterMap_cons, List.filterMap_nil, List.getElem?_toArray, List.getElem?_cons_zero, List.getElem?_cons_succ]
      have hS : Below (wr.heap.size) wr wr.drew := (Below.refl _ _).drew
      go_wp2_with fail
      refine ⟨rfl, _, .agg (va 256 (iv .u8 fj)), rfl, yieldsIf_load_mid (by rfl) 33 _ (by rfl) (b1) (o1 + j * 256) (by rfl) ((List.range 256).map (iv .u8 fj)) _ (fun W hW => range_below R1.out hW l1) Tryd.underlying33 rfl (sizeBk.trans (by simp)), partsI_force ?_⟩
      simp only [Act.put, List.setIfInBounds_toArray, List.set_cons_zero, List.set_cons_succ]
      simp only [List.cons_append, List.nil_append, List.append_nil, List.filterMap_cons, List.filterMap_nil, List.getElem?_toArray, List.getElem?_cons_zero, List.getElem?_cons_succ]
      refine wpList_load_blk (by rfl) 32 _ (by rfl) (kw) (j * 256) 256 (iv .u8 fj) (by rfl) _ (range_below R2.out hS l2) Tryd.underlying32 rfl sizeRb ?_
      simp only [Act.put, List.setIfInBounds_toArray, List.set_cons_zero, List.set_cons_succ]
      go_wp2_with fail
      refine ⟨rfl, hS, partsI_force ?_⟩
      simp only [List.cons_append, List.nil_append, List.append_nil, List.filterMap_cons, List.filterMap_nil, List.getElem?_toArray, List.getElem?_cons_zero, List.getElem?_cons_succ]
      go_wp2_with fail
      refine ⟨rfl, hS, partsI_last ?_⟩
      simp only [List.cons_append, List.nil_append, List.append_nil, List.filterMap_cons, List.filterMap_nil, List.getElem?_toArray, List.getElem?_cons_zero, List.getElem?_cons_succ]
      refine ⟨rfl, ?_⟩
      go_wp2_with fail
      go_roundw
      case rel => exact ⟨j + 1, HJ.out, by first | rfl | go_num | simp, hb.trans (hS.mono hb.size)⟩
      case measure => simp [intOf]; have := HJ.out; omega
    · obtain rfl : j = lvN n := by omega
      have j1 : ¬ ((lvN n : Int) < (lvN n : Int)) := by omega
      have HF := from_own h1 h2 ax cx HM3.out.1.m.lt HM3.out.1.m.tail wr (HI.out wr hb).1
      have HB4 : Hid (Below w4.heap.size w4 wr) := hb
      clear HI hb
      go_wp2_with fail
      refine HF.mono ?_
      rintro e w5 ⟨g2, b2, c2, rfl, hM5, hb5⟩
      have hb45 := HB4.out.trans (hb5.mono HB4.out.size)
      have hm5 := HM3.out.1.m.below ((HM3.out.2.2.2).trans (hb45.mono HM3.out.2.2.2.size))
      have HS := same_like w5 hM5 hm5
      rw [decide_eq_true (fun p _ => rfl)] at HS
      have HW5 : Hid (w5.ownsRow w3.heap.size 32 256 (.slice (some ⟨kw, 0, none⟩) (lvN n) cw) (lvN n) (byL (lvsF W) (lvN n * 256)) ∧ Below w3.heap.size w3 w5) := ⟨kown_below HW4.out hb45, HM3.out.2.2.2.trans (hb45.mono HM3.out.2.2.2.size)⟩
      clear HF hM5 hm5 hb45 hb5 HB4 HW4
      go_wp2_with fail
      refine HS.mono ?_
      rintro e w6 ⟨rfl, m6, rfl⟩
      have HW6 : Hid ((w5.drewN m6).ownsRow w3.heap.size 32 256 (.slice (some ⟨kw, 0, none⟩) (lvN n) cw) (lvN n) (byL (lvsF W) (lvN n * 256)) ∧ Below w3.heap.size w3 (w5.drewN m6)) := ⟨HW5.out.1, below_dN HW5.out.2 m6⟩
      clear HS HW5
      generalize w5.drewN m6 = w6 at *
      generalize (f.tmod 7 == 1) = mo
      obtain ⟨M1, hM1⟩ : ∃ M1, lvN n = M1 + 1 := ⟨lvN n - 1, by have := HL8.out; omega⟩
      have hM8 : M1 < 8 := by have := HL8.out; omega
      rw [hM1] at HW6 ⊢
      go_upto_region 16 with fail
      go_cut [89] (fun v wx => v = .bool (decide (0 ≤ f ∧ f < 256)) ∧ wx = w6)
      case first =>
        by_cases f0 : 0 ≤ f
        · by_cases f1 : f < 256
          · go_wp2_with fail
            go_meet
            exact ⟨by rw [decide_eq_true (show 0 ≤ f ∧ f < 256 from ⟨f0, f1⟩)], rfl⟩
          · go_wp2_with fail
            go_meet
            exact ⟨by rw [decide_eq_false (show ¬ (0 ≤ f ∧ f < 256) from fun h => by omega)], rfl⟩
        · go_wp2_with fail
          go_meet
          exact ⟨by rw [decide_eq_false (show ¬ (0 ≤ f ∧ f < 256) from fun h => by omega)], rfl⟩
      case rest =>
        obtain ⟨rfl, rfl⟩ := hcut
        go_upto_if 89 with fail
        go_cut [12] (fun v wx => ∃ Z : Nat → Nat, (∀ x, Z x < 256) ∧ v = .slice (some ⟨kw, 0, none⟩) (M1 + 1) cw ∧ wx.ownsRow w3.heap.size 32 256 v (M1 + 1) (byL Z ((M1 + 1) * 256)) ∧ Below w3.heap.size w3 wx)
        case first =>
          by_cases hf : 0 ≤ f ∧ f < 256
          · rw [decide_eq_true hf]
            obtain ⟨fn, rfl⟩ := Int.eq_ofNat_of_zero_le hf.1
            have hfn : fn < 256 := by omega
            have hf0 : (0 : Int) ≤ (fn : Int) := by omega
            have hf1 : (fn : Int) < 256 := hf.2
            have hM9 : (M1 : Int) < 8 := by omega
            have cw6 : wc.cell? ⟨kw, M1 * 256 + fn, none⟩ = some (.int .u8 ((lvsF W (M1 * 256 + fn) : Nat) : Int)) := by
              rw [HW6.out.1.cellAt _ (by omega), byL_at _ _ _ (by omega)]
            have fz6 : wc.frozen? ⟨kw, M1 * 256 + fn, none⟩ = false := HW6.out.1.frozenAt _
            have HXO : Hid (bits .xor .u8 ((lvsF W (M1 * 256 + fn) : Nat) : Int) 128 = ((lvsF W (M1 * 256 + fn) ^^^ 128 : Nat) : Int)) := u8_xor_nat _ 128 (lfT_lt _ _ _) (by decide)
            have HKW : Hid (w3.heap.size ≤ kw) := HM3.out.2.1
            have hS : Below w3.heap.size wc wc.drew := (Below.refl _ _).drew
            clear hf
            go_wp2_with fail
            refine wp_region_partsI [] [([0, 1, 4], 2, false), ([], 3, false), ([5, 6, 9], 7, false), ([], 8, false), ([10], 11, false)] [] [] (w3.heap.size) (by kernel_rfl) (by kernel_rfl) (fun _ hx => nomatch hx) (partsI_force ?_)
            simp only [List.cons_append, List.nil_append, List.append_nil, List.filterMap_cons, List.filterMap_nil, List.getElem?_toArray, List.getElem?_cons_zero, List.getElem?_cons_succ]
            go_wp2_with fail
            refine ⟨rfl, hS, partsI_force ?_⟩
            simp only [List.cons_append, List.nil_append, List.append_nil, List.filterMap_cons, List.filterMap_nil, List.getElem?_toArray, List.getElem?_cons_zero, List.getElem?_cons_succ]
            go_wp2_with fail
            refine ⟨rfl, hS, partsI_force ?_⟩
            simp only [List.cons_append, List.nil_append, List.append_nil, List.filterMap_cons, List.filterMap_nil, List.getElem?_toArray, List.getElem?_cons_zero, List.getElem?_cons_succ]
            go_wp2_with fail
            refine ⟨rfl, hS, partsI_force ?_⟩
            simp only [List.cons_append, List.nil_append, List.append_nil, List.filterMap_cons, List.filterMap_nil, List.getElem?_toArray, List.getElem?_cons_zero, List.getElem?_cons_succ]
            go_wp2_with fail
            rw [HXO.out]
            refine ⟨rfl, hS, partsI_force ?_⟩
            simp only [List.cons_append, List.nil_append, List.append_nil, List.filterMap_cons, List.filterMap_nil, List.getElem?_toArray, List.getElem?_cons_zero, List.getElem?_cons_succ]
            go_wp2_with fail
            have hS2 : Below w3.heap.size wc (wc.drew.setCell ⟨kw, M1 * 256 + fn, none⟩ (.int .u8 ((lvsF W (M1 * 256 + fn) ^^^ 128 : Nat) : Int))) := hS.setCell HKW.out _
            refine ⟨rfl, hS2, partsI_last ?_⟩
            simp only [List.cons_append, List.nil_append, List.append_nil, List.filterMap_cons, List.filterMap_nil, List.getElem?_toArray, List.getElem?_cons_zero, List.getElem?_cons_succ]
            refine ⟨rfl, ?_⟩
            go_wp2_with fail
            go_meet
            have hst := (HW6.out.1.stored (M1 * 256 + fn) (.int .u8 ((lvsF W (M1 * 256 + fn) ^^^ 128 : Nat) : Int))).1
            refine ⟨fun x => if x = M1 * 256 + fn then lvsF W (M1 * 256 + fn) ^^^ 128 else lvsF W x, fun x => ?_, rfl, ?_, HW6.out.2.trans (hS2.mono (Nat.le_refl _))⟩
            · dsimp only
              split
              · exact Nat.xor_lt_two_pow (n := 8) (lfT_lt _ _ _) (by decide)
              · exact lfT_lt _ _ _
            · rw [byL_put] at hst
              exact hst
          · rw [decide_eq_false hf]
            go_wp2_with fail
            go_meet
            exact ⟨lvsF W, fun x => lfT_lt _ _ _, rfl, HW6.out.1, HW6.out.2⟩
        case rest =>
          obtain ⟨Y, hY, rfl, hw7, hb7⟩ := hcut
          clear HW6
          have HY : Hid ((∀ x, Y x < 256) ∧ wc.ownsRow w3.heap.size 32 256 (.slice (some ⟨kw, 0, none⟩) (M1 + 1) cw) (M1 + 1) (byL Y ((M1 + 1) * 256)) ∧ Below w3.heap.size w3 wc) := ⟨hY, hw7, hb7⟩
          clear hY hw7 hb7
          generalize wc = w7 at *
          go_upto_if 101 with fail
          go_cut [12] (fun v wx => ∃ (M ky cy : Nat) (Z : Nat → Nat), v = .slice (some ⟨ky, 0, none⟩) M cy ∧ M ≤ 9 ∧ (∀ x, Z x < 256) ∧ wx.ownsRow w3.heap.size 32 256 v M (byL Z (M * 256)) ∧ Below w3.heap.size w3 wx)
          case first =>
            cases mo
            · go_wp2_with fail
              go_meet
              exact ⟨M1 + 1, kw, cw, Y, rfl, by omega, HY.out.1, HY.out.2.1, HY.out.2.2⟩
            · obtain ⟨i0, hi, hz0, hz1, hz2⟩ := info_parts infoRb
              have hbh := built_hd
              have HLC := byL_snoc Y hd0 (M1 + 1)
              have hs7 : w3.heap.size ≤ w7.heap.size := HY.out.2.2.size
              have HOWN : Hid ((w7.alloc (.cells (va 256 (iv .u8 hd0)) 32)).ownsRow w3.heap.size 32 256 (.slice (some ⟨kw, 0, none⟩) (M1 + 1) cw) (M1 + 1) (byL Y ((M1 + 1) * 256))) := HY.out.2.1.alloc _
              have HNEW : Hid (∀ j u, (va 256 (iv .u8 hd0)).toList[j]? = some u → (w7.alloc (.cells (va 256 (iv .u8 hd0)) 32)).cell? ((⟨w7.heap.size, 0, none⟩ : Addr).add j) = some u) := cells_new w7 _ _
              have HMEM : Hid (∀ u ∈ (va 256 (iv .u8 hd0)).toList, u.oneCell' = true) := kva_mem_one 256 hd0
              have HLEN : Hid ((va 256 (iv .u8 hd0)).toList.length = 1 * 256) := by
                show _ = _
                rw [va_toList]
                simp
              have HV2 := HY.out.2.1.lt
              have hM9 : (M1 : Int) < 8 := by omega
              have HH : Hid (∀ j, hd0 j < 256) := fun j => by
                unfold hd0
                split
                · decide
                · split
                  · decide
                  · split
                    · decide
                    · split <;> decide
              have HLD : Hid (byL (fun x => if x < (M1 + 1) * 256 then Y x else hd0 (x - (M1 + 1) * 256)) ((M1 + 1 + 1) * 256) = byL Y ((M1 + 1) * 256) ++ (va 256 (iv .u8 hd0)).toList) := HLC
              clear HLC
              generalize hd0 = hd at *
              go_wp2_with (first
                | (refine wpList_build4c (by rfl) 32 _ _ _ _ (by rfl) (.int .u8 98) (.int .u8 105) (.int .u8 116) (.int .u8 115) (by rfl) (by rfl) (by rfl) (by rfl) (va 256 (iv .u8 hd)) hbh ?_; simp only [Act.put, List.setIfInBounds_toArray, List.set_cons_zero, List.set_cons_succ])
                | (refine wpList_build1 (by rfl) 30 32 _ (by rfl) (va 256 (iv .u8 hd)) (by rfl) i0 _ 256 Tryd.underlying30 hi hz0 hz1 (va_size _ _) (by decide) (by decide) ?_; simp only [Act.put, List.setIfInBounds_toArray, List.set_cons_zero, List.set_cons_succ])
                | (at_builtin; refine wpList_append_own _ rfl _ _ 30 rfl w3.heap.size 32 i0 (.agg (va 256 (iv .u8 fun _ => 0))) 256 256 Tryd.underlying30 hi hz0 hz1 hz2 (va_size _ _) (by decide) _ _ _ rfl HOWN.out ⟨w7.heap.size, 0, none⟩ 1 1 (va 256 (iv .u8 hd)).toList rfl HLEN.out HNEW.out HMEM.out (by unfold maxLen; omega) (by omega) (by simp; omega) ?_)
                | fail)
              intro v' w8 hown' hgrow _
              have hb8 : Below w3.heap.size w3 w8 := (HY.out.2.2.alloc hs7 _).grown hgrow (by simp; omega) (fun k hk => (HV2 k hk).1)
              rw [← HLD.out] at hown'
              obtain ⟨g8, cap8, rfl, hg8, hg8'⟩ := kown_form hown' (Nat.succ_pos _)
              have HE : Hid (_ ∧ _) := ⟨hown', hb8⟩
              clear HOWN HNEW HMEM HLEN HV2 hgrow hown' hb8
              go_wp2_with fail
              go_meet
              exact ⟨M1 + 1 + 1, g8, cap8, _, rfl, by omega, fun x => by split; exact HY.out.1 _; exact HH.out _, HE.out.1, HE.out.2⟩
          case rest =>
            obtain ⟨M, ky, cy, X, rfl, hM9, hX, hw8, hb8⟩ := hcut
            clear HY
            generalize wc = w8 at *
            have IY : Hid (∀ V, Below w8.heap.size w8 V → IsBlks V (some ⟨ky, 0, none⟩) M fun i j => X (256 * i + j)) := by
              obtain ⟨a2, c2, e2, I2⟩ := own_blks hw8
              injection e2 with e2
              subst e2
              exact fun V hV => I2.below hV
            have HX : Hid ((∀ x, X x < 256) ∧ M ≤ 9 ∧ Below w3.heap.size w3 w8) := ⟨hX, hM9, hb8⟩
            clear hX hb8 hw8
            go_wp2_with fail
            obtain ⟨i0, hi, hz0, hz1, hz2⟩ := info_parts infoBk
            go_loopw [16, 17] (fun v t wr => Hid (∃ (j cap : Nat) (aa : Option Addr), j ≤ M ∧ t = .int .i64 (j : Int) ∧ v = .slice aa j cap ∧ wr.ownsRow w8.heap.size 33 256 v j (byL X (j * 256)) ∧ Below w8.heap.size w8 wr)) (fun _ t _ => M - (intOf t).toNat)
            case atStart => exact ⟨0, 0, _, by omega, rfl, rfl, World.ownsRow_lit w8 #[] 0 (Nat.le_refl _) (by decide) rfl, (Below.refl _ _).alloc (Nat.le_refl _) _⟩
            case round =>
              obtain ⟨j, cap, aa, hj, rfl, rfl, hown, hb⟩ := Hid.out hrel
              clear hrel
              by_cases hlt : j < M
              · obtain ⟨b2, o2, e2, l2, r2⟩ := IY.out wr hb j hlt
                injection e2 with e2
                injection e2 with e2 e3
                subst e2 e3
                have R2 : Hid (wr.rangeAt ky (j * 256) ((List.range 256).map (iv .u8 fun x => X (256 * j + x)))) := by rw [Nat.zero_add] at r2; exact r2
                have HLC : Hid (byL X ((j + 1) * 256) = byL X (j * 256) ++ (va 256 (iv .u8 fun x => X (256 * j + x))).toList) := by
                  show _ = _
                  rw [Nat.succ_mul, byL_add, va_toList]
                  congr 1
                  unfold byL
                  refine List.map_congr_left fun x hx => ?_
                  show Value.int .u8 ((X (j * 256 + x) : Nat) : Int) = Value.int .u8 ((X (256 * j + x) : Nat) : Int)
                  rw [Nat.mul_comm]
                clear r2
                generalize (fun x => X (256 * j + x)) = fj at *
                have k0 : (0 : Int) ≤ (j : Int) := by omega
                have k1 : (j : Int) < (M : Int) := by omega
                have k2 : (j : Int) < 9 := by omega
                have hbs := hb.size
                have HOWN : Hid ((wr.alloc (.cells (va 256 (iv .u8 fj)) 33)).ownsRow w8.heap.size 33 256 (.slice aa j cap) j (byL X (j * 256))) := hown.alloc _
                have HNEW : Hid (∀ j u, (va 256 (iv .u8 fj)).toList[j]? = some u → (wr.alloc (.cells (va 256 (iv .u8 fj)) 33)).cell? ((⟨wr.heap.size, 0, none⟩ : Addr).add j) = some u) := cells_new wr _ _
                have HMEM : Hid (∀ u ∈ (va 256 (iv .u8 fj)).toList, u.oneCell' = true) := kva_mem_one 256 fj
                have HLEN : Hid ((va 256 (iv .u8 fj)).toList.length = 1 * 256) := by
                  show _ = _
                  rw [va_toList]
                  simp
                have HV2 := hown.lt
                have HJ : Hid (j < M ∧ M ≤ 9) := ⟨hlt, hM9⟩
                clear hown
                go_wp2_with (first
                  | (refine wpList_load_blk (by rfl) 32 _ (by rfl) (ky) (j * 256) 256 (iv .u8 fj) (by rfl) _ R2.out Tryd.underlying32 rfl sizeRb ?_; simp only [Act.put, List.setIfInBounds_toArray, List.set_cons_zero, List.set_cons_succ])
                  | (refine wpList_build1 (by rfl) 28 33 _ (by rfl) (va 256 (iv .u8 fj)) (by rfl) i0 _ 256 Tryd.underlying28 hi hz0 hz1 (va_size _ _) (by decide) (by decide) ?_; simp only [Act.put, List.setIfInBounds_toArray, List.set_cons_zero, List.set_cons_succ])
                  | (at_builtin; refine wpList_append_own _ rfl _ _ 28 rfl w8.heap.size 33 i0 (.agg (va 256 (iv .u8 fun _ => 0))) 256 256 Tryd.underlying28 hi hz0 hz1 hz2 (va_size _ _) (by decide) _ _ _ rfl HOWN.out ⟨wr.heap.size, 0, none⟩ 1 1 (va 256 (iv .u8 fj)).toList rfl HLEN.out HNEW.out HMEM.out (by unfold maxLen; omega) (by omega) (by simp; omega) ?_)
                  | fail)
                intro v' w9 hown' hgrow _
                have hb9 : Below w8.heap.size w8 w9 := (hb.alloc hbs _).grown hgrow (by simp; omega) (fun k hk => (HV2 k hk).1)
                rw [← HLC.out] at hown'
                obtain ⟨g9, cap9, rfl, hg9, hg9'⟩ := kown_form hown' (Nat.succ_pos _)
                have HE : Hid (_ ∧ _) := ⟨hown', hb9⟩
                clear HOWN HNEW HMEM HLEN HV2 hgrow hown' hb9
                go_wp2_with fail
                go_roundw
                case rel => exact ⟨j + 1, cap9, _, HJ.out.1, by first | rfl | go_num | simp, rfl, HE.out.1, HE.out.2⟩
                case measure => simp [intOf]; have := HJ.out; omega
              · obtain rfl : j = M := by omega
                have j1 : ¬ ((j : Int) < (j : Int)) := by omega
                have IYY : IsBlks wr aa j fun i x => X (256 * i + x) := by
                  obtain ⟨a2, c2, e2, I2⟩ := own_blks hown
                  injection e2 with e2
                  subst e2
                  exact I2
                have HB : Hid (Below w8.heap.size w8 wr ∧ Below w3.heap.size w3 wr ∧ Below w.heap.size w wr) := ⟨hb, HX.out.2.2.trans (hb.mono HX.out.2.2.size), HM3.out.2.2.1.trans ((HX.out.2.2.trans (hb.mono HX.out.2.2.size)).mono HM3.out.2.2.1.size)⟩
                by_cases hG : GoodL n j fun i x => X (256 * i + x)
                · have HF := from_good h1 h2 aa cap _ (fun i x => HX.out.1 (256 * i + x)) hG wr IYY
                  have HR : Hid (∀ V, Below w8.heap.size w8 V → Calls Tryd.prog 12 #[.int .i64 (n : Int), .slice (some ⟨ky, 0, none⟩) j cy] V fun e w' => ∃ g cap, e = .returned (.tuple #[.slice (some ⟨g, 0, none⟩) n cap, .int .i64 0]) ∧ BA w' V.heap.size g n cap (rbF j fun i x => X (256 * i + x)) ∧ Below V.heap.size V w') := fun V hV => rfrom_good h1 h2 _ cy _ (fun i x => HX.out.1 (256 * i + x)) (by omega) hG V (IY.out V hV)
                  clear hown hb IYY hG IY
                  generalize (fun i x => X (256 * i + x)) = L at *
                  go_wp2_with fail
                  refine HF.mono ?_
                  rintro e w10 ⟨g3, b3, c3, V3, rfl, hM10, ht, hb10⟩
                  have hb8' := HB.out.1.trans (hb10.mono HB.out.1.size)
                  have HRR := HR.out w10 hb8'
                  have HM10 : Hid (BM w10 wr.heap.size g3 n b3 c3 V3 ∧ (∀ p, p < n → rbF j L p = bitF V3 p) ∧ Below wr.heap.size wr w10) := ⟨hM10, ht, hb10⟩
                  clear hM10 ht hb10 hb8' HF HR
                  go_wp2_with fail
                  refine HRR.mono ?_
                  rintro e w11 ⟨g4, cap4, rfl, hA11, hb11⟩
                  have hM11 := HM10.out.1.below hb11
                  have hb011 : Below w.heap.size w w11 := HB.out.2.2.trans ((HM10.out.2.2.trans (hb11.mono HM10.out.2.2.size)).mono HB.out.2.2.size)
                  have HT11 := HT.out w11 hb011
                  have HS := says_any w11 HT11.2 HT11.1 hM11 (hA11.congr HM10.out.2.1) 0
                  clear hA11 hb11 hM11 HT11 HRR HM10
                  go_wp2_with fail
                  refine HS.mono ?_
                  rintro e w12 ⟨rfl, hb12⟩
                  have hbe : Below w.heap.size w w12 := hb011.trans (hb12.mono hb011.size)
                  clear HS hb12 hb011
                  go_wp2_with fail
                  go_ret
                  exact ⟨rfl, hbe⟩
                · have HF := from_bad h1 h2 aa cap _ (fun i x => HX.out.1 (256 * i + x)) hG wr IYY
                  have HR : Hid (∀ V, Below w8.heap.size w8 V → Calls Tryd.prog 12 #[.int .i64 (n : Int), .slice (some ⟨ky, 0, none⟩) j cy] V fun e w' => e = .returned (.tuple #[.slice none 0 0, .int .i64 111]) ∧ Below V.heap.size V w') := fun V hV => rfrom_bad h1 h2 _ cy _ (fun i x => HX.out.1 (256 * i + x)) (by omega) hG V (IY.out V hV)
                  clear hown hb IYY hG IY
                  go_wp2_with fail
                  refine HF.mono ?_
                  rintro e w10 ⟨rfl, hb10⟩
                  have hb8' := HB.out.1.trans (hb10.mono HB.out.1.size)
                  have HRR := HR.out w10 hb8'
                  have HB10 : Hid (Below w.heap.size w w10) := HB.out.2.2.trans (hb10.mono HB.out.2.2.size)
                  clear hb10 hb8' HF HR
                  go_wp2_with fail
                  refine HRR.mono ?_
                  rintro e w11 ⟨rfl, hb11⟩
                  have hbe : Below w.heap.size w w11 := HB10.out.trans (hb11.mono HB10.out.size)
                  clear hb11 HRR
                  go_wp2_with fail
                  go_ret
                  exact ⟨rfl, hbe⟩
theorem bitsLeavesLaw (p : Int) (a : Option Addr) (N cc : Nat) (hN : N ≤ 9223372036854775807) (K A Z : Nat → Int) (f : Int) (w : World) (h0 : 0 < w.heap.size) (hT : TabAt w) (hD : IsDeeds w a N K A Z) : Calls Tryd.prog 3 #[.int .i64 p, .slice a N cc, .int .i64 f] w fun e w' => e = .returned (.bool true) ∧ Below w.heap.size w w' := by
  by_cases hp : p < 1 ∨ 8192 < p
  · exact bleaves_no p hp a N cc f w
  · obtain ⟨n, rfl⟩ := Int.eq_ofNat_of_zero_le (a := p) (by omega)
    exact bleaves_ok n (by omega) (by omega) a N cc hN K A Z f w h0 hT hD
end Go.Proofs.YtjbmhocmpgkmoaaDoor

namespace Go.Proofs.YtjbmhocmpgkmoaaDoor
open Go.ChangeShapes Go.WideShapes Go.ChangeAt Go.RowKit Go.Joins
set_option linter.unusedVariables false
theorem dcell_lt {w : World} {a : Addr} {v : Value} (h : w.cell? a = some v) : a.block < w.heap.size := by
  obtain ⟨e, n, hs, _⟩ := World.shape?_of_cell? h
  unfold World.shape? at hs
  cases hb : w.heap[a.block]? with
  | none => simp [hb] at hs
  | some o => exact (Array.getElem?_eq_some_iff.1 hb).1
set_option maxRecDepth 100000 in
theorem open_deeds {H : Type} {enc : TypeId × Value → H} {W : World} {a0 : Option Addr} {len cap fuel : Nat} {x : DataW H × List MemPlace}
    (hf : DataW.trod enc Tryd.prog W 0 (fun _ => true) true fuel 22 [.slice a0 len cap] = some x) (hsz : ∀ n ∈ x.1.weights Tryd.prog 22, n ≤ reachBytes) :
    ∃ (K A Z : Nat → Int), len ≤ 9223372036854775807 ∧ IsDeeds W a0 len K A Z := by
  rcases Deep.open_slice Tryd.underlying22 hf with ⟨hcs, hx⟩ | ⟨a, len', cap', m, n, D, Pl, hcs, _, hl, hm, hmm, hx, hel⟩
  · simp at hcs
    obtain ⟨rfl, rfl, rfl⟩ := hcs
    exact ⟨fun _ => 0, fun _ => 0, fun _ => 0, by omega, fun i hi => absurd hi (by omega)⟩
  · simp at hcs
    obtain ⟨rfl, rfl, rfl⟩ := hcs
    subst hx
    simp only [if_true] at hmm
    subst hmm
    have hu := Tryd.underlying22
    have hby : Tryd.prog.bytesOf 86 = 24 := by kernel_rfl
    have hw0 := hsz ((((List.range len).map D).length + ((List.range (m - len)).map fun j => D (len + j)).length) * Tryd.prog.bytesOf 86) (by simp [DataW.weights, hu])
    rw [hby] at hw0
    simp only [List.length_map, List.length_range] at hw0
    have hlen4 : len ≤ 9223372036854775807 := by
      unfold reachBytes at hw0
      omega
    have hce : Tryd.prog.cellsOf 86 = 3 := by kernel_rfl
    have hci : Tryd.prog.cellsOf 3 = 1 := by kernel_rfl
    have hsp : 0 < len → a.spot = none := fun h0 => by
      obtain ⟨cs', h1, _⟩ := hel 0 (by omega)
      rw [hce] at h1
      obtain ⟨_, hcl, hcell⟩ := World.cells?_some h1
      match cs', hcl with
      | [v0, v1, v2], _ => simpa [Addr.add] using World.cell?_spot (hcell 0 (by omega))
    have each : ∀ i, ∃ q : Int × Int × Int, i < len → ∃ b o, a = ⟨b, o, none⟩ ∧ b < W.heap.size ∧ W.cell? ⟨b, o + i * 3, none⟩ = some (.int .i64 q.1) ∧ W.cell? ⟨b, o + i * 3 + 1, none⟩ = some (.int .i64 q.2.1) ∧ W.cell? ⟨b, o + i * 3 + 2, none⟩ = some (.int .i64 q.2.2) ∧ (-9223372036854775808 ≤ q.2.1 ∧ q.2.1 ≤ 9223372036854775807) ∧ (-9223372036854775808 ≤ q.2.2 ∧ q.2.2 ≤ 9223372036854775807) := by
      intro i
      by_cases hi : i < len
      · obtain ⟨cs', h1, h2⟩ := hel i (by omega)
        rw [hce] at h1
        obtain ⟨_, hcl, hcell⟩ := World.cells?_some h1
        obtain ⟨xs, k, hk, hxy, _, hxl, hfs⟩ := DataW.trod_struct Tryd.underlying86 h2
        match xs, hxl, cs', hcl with
        | [y0, y1, y2], _, [v0, v1, v2], _ =>
          have g0 := hfs 0 _ rfl
          have g1 := hfs 1 _ rfl
          have g2 := hfs 2 _ rfl
          simp [hci] at g0 g1 g2
          obtain ⟨p, e0, _, w0⟩ := DataW.trod_int Tryd.underlying3 g0
          obtain ⟨q, e1, _, w1⟩ := DataW.trod_int Tryd.underlying3 g1
          obtain ⟨r, e2, _, w2⟩ := DataW.trod_int Tryd.underlying3 g2
          simp at e0 e1 e2
          subst e0 e1 e2
          refine ⟨(p, q, r), fun _ => ?_⟩
          have c0 := hcell 0 (by decide)
          have c1 := hcell 1 (by decide)
          have c2 := hcell 2 (by decide)
          obtain ⟨b, off, spot⟩ := a
          have hspot : spot = none := hsp (by omega)
          subst hspot
          simp only [Addr.add_mid, List.getElem?_cons_zero, List.getElem?_cons_succ] at c0 c1 c2
          exact ⟨b, off, rfl, dcell_lt c0, c0, c1, c2, bounds_i64 w1, bounds_i64 w2⟩
      · exact ⟨(0, 0, 0), fun h => absurd h hi⟩
    refine ⟨fun i => (Classical.choose (each i)).1, fun i => (Classical.choose (each i)).2.1, fun i => (Classical.choose (each i)).2.2, hlen4, fun i hi => ?_⟩
    obtain ⟨b, o, rfl, h1, h2, h3, h4, h5⟩ := Classical.choose_spec (each i) hi
    exact ⟨b, o, rfl, h1, h2, h3, h4, h5⟩
end Go.Proofs.YtjbmhocmpgkmoaaDoor
