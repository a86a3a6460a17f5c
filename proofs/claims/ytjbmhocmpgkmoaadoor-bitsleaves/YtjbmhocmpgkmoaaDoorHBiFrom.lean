/- The map of leaves: the contract of FromLeaves. -/
import Derived.Test.YtjbmhocmpgkmoaaDoorHBiRLv
import Derived.Handy
import Derived.Deep.MidRow
import Derived.Test.YtjbmhocmpgkmoaaDoorHBlkCut
import Derived.Test.YtjbmhocmpgkmoaaDoorHSegsP

namespace Go.Proofs.YtjbmhocmpgkmoaaDoor
set_option maxRecDepth 20000
open Go Go.RowKit
set_option linter.unusedVariables false
set_option linter.unusedSimpArgs false
def hdP (q i j : Nat) : Nat := if j < 4 + i then hdB q j else 0
theorem hd_text (k : Nat) : va 256 (iv .u8 hd0) = va 256 (iv .u8 (hdP k 0)) := va_congr fun j hj => by
  unfold iv
  refine congrArg (fun n : Nat => Value.int .u8 ((n : Nat) : Int)) ?_
  unfold hdP
  by_cases h0 : j < 4
  · rw [if_pos (by omega)]
    unfold hdB
    rw [if_pos h0]
    match j, h0 with
    | 0, _ => rfl
    | 1, _ => rfl
    | 2, _ => rfl
    | 3, _ => rfl
  · rw [if_neg (by omega)]
    unfold hd0
    rw [if_neg (by omega), if_neg (by omega), if_neg (by omega), if_neg (by omega)]
theorem rb4 (n : Nat) (hn : n < 18446744073709551616) (w : World) : Calls Tryd.prog 48 #[.int .u64 (n : Int), .int .i64 4] w fun e w' => ∃ v, e = .returned v ∧ w'.ownsRow w.heap.size 5 1 v 4 (byL (dig n) 4) ∧ Below w.heap.size w w' := by
  have h := refBytes_own n 4 (by decide) hn w
  have e : (digs n 4).map (Value.int .u8) = byL (dig n) 4 := by
    unfold byL digs dig
    rw [List.map_map]
    rfl
  rw [e] at h
  exact h
/-- a byte of a block put: other own slices stay -/
theorem own_put {w : World} {B e size n g T i : Nat} {v u : Value} {xs : List Value} {cs : Array Value} (h : w.ownsRow B e size v n xs) (hb : Blk w g T cs) (hne : v.ownBlock ≠ some g) : (w.setCell ⟨g, i, none⟩ u).ownsRow B e size v n xs := by
  rw [setCell_eq_setRow w g i cs T (0, 0) u hb]
  exact kown_setRow h (fun k _ hk e => hne (by rw [hk, e])) _
theorem pow8 : ∀ k, k < 8 → (2 : Int) ^ k % 256 = ((2 ^ k : Nat) : Int) ∧ 2 ^ k < 256 := by decide
theorem or_shift (x t : Nat) (hx : x < 256) : bits .or .u8 ((x : Nat) : Int) ((2 : Int) ^ (t % 8) % 256) = ((x ||| 2 ^ (t % 8) : Nat) : Int) := by
  obtain ⟨h1, h2⟩ := pow8 (t % 8) (Nat.mod_lt _ (by decide))
  rw [h1, u8_or_nat _ _ hx h2]
theorem rlF_lt (F : Nat → Bool) (n k m j : Nat) : rlF F n k m j < 256 := by
  unfold rlF
  split
  · exact by8_lt _
  · unfold hdB
    split
    · exact tbyte_lt _ _
    · split
      · exact Nat.mod_lt _ (by decide)
      · decide
theorem rlF_end (F : Nat → Bool) (n k m j : Nat) (h : 1024 * k + m = n) (hm : m ≤ 1024) : rlF F n k m j = rlF F n k 1024 j := by
  unfold rlF
  split
  · refine by8_congr fun i hi => ?_
    by_cases e : 8 * (j - 128) + i < m
    · rw [decide_eq_true e, decide_eq_true (show 8 * (j - 128) + i < 1024 by omega)]
    · rw [decide_eq_false e, decide_eq_false (show ¬ 1024 * k + 8 * (j - 128) + i < n by omega)]
      simp
  · rfl
section
variable {w : World} {B k0 n c : Nat} {F : Nat → Bool}
set_option maxHeartbeats 16000000 in
theorem rleaves11 (w : World) (h : BA w B k0 n c F) : Calls Tryd.prog 9 #[.slice (some ⟨k0, 0, none⟩) n c] w fun e w' => ∃ v, e = .returned v ∧ w'.ownsRow w.heap.size 32 256 v (lvN n) (byL (rlA F n) (lvN n * 256)) ∧ Below w.heap.size w w' := by
  obtain ⟨i0, hi, hz0, hz1, hz2⟩ := info_parts infoRb
  have hn2 := h.n2
  have hz := zero_rb
  have hbh := built_hd
  have HM : Hid (∀ V, Below w.heap.size w V → BA V B k0 n c F) := fun V hV => h.below hV
  have HLV : Hid (lvN n = (n + 1023) / 1024) := rfl
  clear h
  go_enter Tryd.func9, Tryd.ntmps9
  go_wp2_with fail
  go_loopw [3, 4] (fun v t wr => Hid (∃ q : Nat, q ≤ lvN n ∧ t = .int .i64 (q : Int) ∧ wr.ownsRow w.heap.size 32 256 v q (byL (rlA F n) (q * 256)) ∧ Below w.heap.size w wr)) (fun _ t _ => lvN n - (intOf t).toNat)
  case atStart => exact ⟨0, by omega, rfl, World.ownsRow_lit w #[] 0 (Nat.le_refl _) (by decide) rfl, (Below.refl _ _).alloc (Nat.le_refl _) _⟩
  case round =>
    obtain ⟨q, hq, rfl, hown, hb⟩ := Hid.out hrel
    clear hrel
    by_cases hlt : q * 1024 < n
    · have j1 : (q : Int) * 1024 < (n : Int) := by omega
      have HQ : Hid (q < lvN n ∧ q < 8) := ⟨by rw [HLV.out]; omega, by omega⟩
      have hwq : IntKind.u64.wrap (q : Int) = (q : Int) := by
        unfold IntKind.wrap
        simp only [IntKind.bits, IntKind.signed]
        have : ((q : Int)) % (2 ^ 64) = (q : Int) := by omega
        simp [this]
        omega
      have q8 : q < 8 := by omega
      have g1 : Blk (wr.alloc (.cells (va 256 (iv .u8 fun _ => 0)) 32)) wr.heap.size 32 (va 256 (iv .u8 fun _ => 0)) := Blk.new _ _ _
      have HG : Hid (Blk ((wr.alloc (.cells (va 256 (iv .u8 fun _ => 0)) 32)).setRow wr.heap.size (va 256 (iv .u8 hd0))) wr.heap.size 32 (va 256 (iv .u8 hd0)) ∧ ((wr.alloc (.cells (va 256 (iv .u8 fun _ => 0)) 32)).setRow wr.heap.size (va 256 (iv .u8 hd0))).ownsRow w.heap.size 32 256 u3 q (byL (rlA F n) (q * 256)) ∧ Below w.heap.size w ((wr.alloc (.cells (va 256 (iv .u8 fun _ => 0)) 32)).setRow wr.heap.size (va 256 (iv .u8 hd0))) ∧ w.heap.size ≤ wr.heap.size ∧ u3.ownBlock ≠ some wr.heap.size) :=
        ⟨g1.set _, kown_setRow (hown.alloc _) (fun k _ hk => by have := (hown.lt k hk).2; omega) _, below_setRow (hb.alloc hb.size _) hb.size _, hb.size, fun e => by have := (hown.lt _ e).2; omega⟩
      clear hown hb
      go_wp2_with (first
        | (refine wpList_build4c (by rfl) 32 _ _ _ _ (by rfl) (.int .u8 98) (.int .u8 105) (.int .u8 116) (.int .u8 115) (by rfl) (by rfl) (by rfl) (by rfl) (va 256 (iv .u8 hd0)) hbh ?_; simp only [Act.put, List.setIfInBounds_toArray, List.set_cons_zero, List.set_cons_succ])
        | (refine wpList_store_row (by rfl) 32 _ _ (by rfl) (wr.heap.size) (va 256 (iv .u8 hd0)) (by rfl) (by rfl) 32 (va 256 (iv .u8 fun _ => 0)) (by exact g1) (sizeRb.trans (by rw [va_size])) (by simp only [va_size]) (iv_one _ _ _) ?_; simp only [Act.put, List.setIfInBounds_toArray, List.set_cons_zero, List.set_cons_succ])
        | fail)
      generalize ((wr.alloc (.cells (va 256 (iv .u8 fun _ => 0)) 32)).setRow wr.heap.size (va 256 (iv .u8 hd0))) = w1 at *
      generalize wr.heap.size = gb at *
      clear g1
      refine (rb4 q (by omega) _).mono ?_
      intro e w2 hw2
      obtain ⟨v6, he2, ho6, hb2⟩ := hw2
      subst he2
      have h6 := ho6.lt
      obtain ⟨g6, c6, rfl, _, _⟩ := kown_form ho6 (by decide)
      have hg6 : w1.heap.size ≤ g6 := (h6 g6 rfl).1
      have hgl : gb < w1.heap.size := HG.out.1.lt
      have HG2 : Hid (Blk w2 gb 32 (va 256 (iv .u8 (hdP q 0))) ∧ w2.ownsRow w.heap.size 32 256 u3 q (byL (rlA F n) (q * 256)) ∧ Below w.heap.size w w2 ∧ w2.ownsRow w1.heap.size 5 1 (.slice (some ⟨g6, 0, none⟩) 4 c6) 4 (byL (dig q) 4)) :=
        ⟨by rw [← hd_text q]; exact HG.out.1.below hb2 hgl, kown_below HG.out.2.1 hb2, HG.out.2.2.1.trans (hb2.mono HG.out.2.2.1.size), ho6⟩
      have HNE : Hid (w.heap.size ≤ gb ∧ u3.ownBlock ≠ some gb) := HG.out.2.2.2
      have h6b : g6 ≠ gb := by omega
      clear HG hb2 ho6 h6
      go_wp2_with fail
      go_loopw [7] (fun t wt => Hid (∃ i : Nat, i ≤ 4 ∧ t = .int .i64 (i : Int) ∧ Blk wt gb 32 (va 256 (iv .u8 (hdP q i))) ∧ wt.ownsRow w.heap.size 32 256 u3 q (byL (rlA F n) (q * 256)) ∧ Below w.heap.size w wt ∧ wt.ownsRow w1.heap.size 5 1 (.slice (some ⟨g6, 0, none⟩) 4 c6) 4 (byL (dig q) 4))) (fun t _ => 4 - (intOf t).toNat)
      case atStart => exact ⟨0, by omega, rfl, HG2.out.1, HG2.out.2.1, HG2.out.2.2.1, HG2.out.2.2.2⟩
      case round =>
        obtain ⟨i, hi4, rfl, hbk, hown, hbel, ho6⟩ := Hid.out hrel
        clear hrel HG2
        by_cases hl4 : i < 4
        · have i1 : (i : Int) < 4 := by omega
          have f1 := hbk.frozen (4 + i)
          obtain ⟨old, e1⟩ : ∃ old : Value, wr.cell? ⟨gb, 4 + i, none⟩ = some old := ⟨_, by rw [hbk.cell]; exact va_at _ (by omega)⟩
          have e2 : wr.cell? ⟨g6, i, none⟩ = some (.int .u8 ((dig q i : Nat) : Int)) := by rw [ho6.cellAt i (by omega), byL_at _ _ _ hl4]
          have HP : Hid (Blk (wr.setCell ⟨gb, 4 + i, none⟩ (.int .u8 ((dig q i : Nat) : Int))) gb 32 (va 256 (iv .u8 (hdP q (i + 1))))) := by
            have hp := hbk.put (4 + i) (.int .u8 ((dig q i : Nat) : Int))
            rw [va_set] at hp
            rw [va_congr (f := iv .u8 (hdP q (i + 1))) (g := upd (iv .u8 (hdP q i)) (4 + i) (.int .u8 ((dig q i : Nat) : Int))) fun j hj => by
              unfold upd iv hdP
              by_cases e : j = 4 + i
              · subst e
                rw [if_pos rfl, if_pos (by omega)]
                unfold hdB
                rw [if_neg (by omega), if_pos (by omega), show 4 + i - 4 = i by omega]
              · rw [if_neg e]
                by_cases e' : j < 4 + i
                · rw [if_pos e', if_pos (by omega)]
                · rw [if_neg e', if_neg (by omega)]]
            exact hp
          have HO : Hid ((wr.setCell ⟨gb, 4 + i, none⟩ (.int .u8 ((dig q i : Nat) : Int))).ownsRow w.heap.size 32 256 u3 q (byL (rlA F n) (q * 256)) ∧ Below w.heap.size w (wr.setCell ⟨gb, 4 + i, none⟩ (.int .u8 ((dig q i : Nat) : Int))) ∧ (wr.setCell ⟨gb, 4 + i, none⟩ (.int .u8 ((dig q i : Nat) : Int))).ownsRow w1.heap.size 5 1 (.slice (some ⟨g6, 0, none⟩) 4 c6) 4 (byL (dig q) 4)) :=
            ⟨own_put hown hbk HNE.out.2, hbel.setCell HNE.out.1 _, own_put ho6 hbk (by simp only [Value.ownBlock]; intro e; injection e; omega)⟩
          have w4i : ((4 : Int) + (i : Int)).toNat = 4 + i := by omega
          have w4l : (4 : Int) + (i : Int) < 256 := by omega
          clear hown hbel ho6 hbk
          go_wp2_with fail
          refine ⟨⟨i + 1, by omega, by simp, HP.out, HO.out.1, HO.out.2.1, HO.out.2.2⟩, ?_⟩
          simp [intOf]; omega
        · obtain rfl : i = 4 := by omega
          have hrz : Blk wr gb 32 (va 256 (iv .u8 (rlF F n q 0))) := by
            rw [va_congr (f := iv .u8 (rlF F n q 0)) (g := iv .u8 (hdP q 4)) fun j hj => by
              unfold iv hdP
              rw [rlF_zero]
              by_cases e : j < 8
              · rw [if_pos (by omega)]
              · rw [if_neg (by omega)]
                unfold hdB
                rw [if_neg (by omega), if_neg (by omega)]]
            exact hbk
          have HG3 : Hid (_ ∧ _ ∧ _) := ⟨hrz, hown, hbel⟩
          clear hbk hown hbel ho6 hrz
          go_wp2_with fail
          go_loopw [8] (fun t wt => Hid (∃ m : Nat, m ≤ 1024 ∧ 1024 * q + m ≤ n ∧ t = .int .i64 (1024 * (q : Int) + (m : Int)) ∧ Blk wt gb 32 (va 256 (iv .u8 (rlF F n q m))) ∧ wt.ownsRow w.heap.size 32 256 u3 q (byL (rlA F n) (q * 256)) ∧ Below w.heap.size w wt)) (fun t _ => 9300 - (intOf t).toNat)
          case atStart => exact ⟨0, by omega, by omega, by simp, HG3.out.1, HG3.out.2.1, HG3.out.2.2⟩
          case round =>
            obtain ⟨m, hm, hmn, rfl, hbk, hown, hbel⟩ := Hid.out hrel
            clear hrel HG3
            by_cases hgo : m < 1024 ∧ 1024 * q + m < n
            · obtain ⟨m1, m2⟩ := hgo
              have p1 : 1024 * (q : Int) + (m : Int) < 1024 * (q : Int) + 1024 := by omega
              have p2 : 1024 * (q : Int) + (m : Int) < (n : Int) := by omega
              have p3 : (1024 * (q : Int) + (m : Int)).toNat = 1024 * q + m := by omega
              have p4 : (0 : Int) ≤ 1024 * (q : Int) + (m : Int) := by omega
              have cF := (HM.out _ hbel).at m2
              cases hF : F (1024 * q + m)
              · rw [hF] at cF
                have HS : Hid (Blk wr gb 32 (va 256 (iv .u8 (rlF F n q (m + 1))))) := by
                  rw [va_congr (f := iv .u8 (rlF F n q (m + 1))) (g := iv .u8 (rlF F n q m)) fun j _ => by unfold iv; rw [rlF_skip F n q m j (Or.inl hF)]]
                  exact hbk
                have HO : Hid (_ ∧ _) := ⟨hown, hbel⟩
                clear hbk hown hbel
                go_wp2_with fail
                refine ⟨⟨m + 1, by omega, by omega, by congr 1 <;> omega, HS.out, HO.out.1, HO.out.2⟩, ?_⟩
                simp [intOf]; omega
              · rw [hF] at cF
                have r0 : m % 1024 / 8 = m / 8 := by omega
                have r4 : 128 + m % 1024 / 8 < 256 := by omega
                have f1 := hbk.frozen (128 + m % 1024 / 8)
                have e1 : wr.cell? ⟨gb, 128 + m % 1024 / 8, none⟩ = some (.int .u8 ((rlF F n q m (128 + m % 1024 / 8) : Nat) : Int)) := hbk.cv (by omega)
                clear r0
                have HV : Hid (bits .or .u8 ((rlF F n q m (128 + m % 1024 / 8) : Nat) : Int) ((2 : Int) ^ ((1024 * q + m) % 8) % 256) = ((rlF F n q (m + 1) (128 + m / 8) : Nat) : Int)) := by
                  show bits .or .u8 ((rlF F n q m (128 + m % 1024 / 8) : Nat) : Int) ((2 : Int) ^ ((1024 * q + m) % 8) % 256) = ((rlF F n q (m + 1) (128 + m / 8) : Nat) : Int)
                  rw [or_shift _ _ (rlF_lt _ _ _ _ _), show (1024 * q + m) % 8 = m % 8 by omega, show m % 1024 / 8 = m / 8 by omega, rlF_bit F n q m m1 m2 hF]
                have HP : Hid (Blk (wr.setCell ⟨gb, 128 + m % 1024 / 8, none⟩ (.int .u8 ((rlF F n q (m + 1) (128 + m / 8) : Nat) : Int))) gb 32 (va 256 (iv .u8 (rlF F n q (m + 1))))) := by
                  have hp := hbk.put (128 + m % 1024 / 8) (.int .u8 ((rlF F n q (m + 1) (128 + m / 8) : Nat) : Int))
                  rw [va_set] at hp
                  rw [va_congr (f := iv .u8 (rlF F n q (m + 1))) (g := upd (iv .u8 (rlF F n q m)) (128 + m % 1024 / 8) (.int .u8 ((rlF F n q (m + 1) (128 + m / 8) : Nat) : Int))) fun j hj => by
                    unfold upd iv
                    by_cases e : j = 128 + m % 1024 / 8
                    · rw [if_pos e, show j = 128 + m / 8 by omega]
                    · rw [if_neg e, rlF_other F n q m j m1 (by omega)]]
                  exact hp
                have HO : Hid ((wr.setCell ⟨gb, 128 + m % 1024 / 8, none⟩ (.int .u8 ((rlF F n q (m + 1) (128 + m / 8) : Nat) : Int))).ownsRow w.heap.size 32 256 u3 q (byL (rlA F n) (q * 256)) ∧ Below w.heap.size w (wr.setCell ⟨gb, 128 + m % 1024 / 8, none⟩ (.int .u8 ((rlF F n q (m + 1) (128 + m / 8) : Nat) : Int)))) := ⟨own_put hown hbk HNE.out.2, hbel.setCell HNE.out.1 _⟩
                clear hbk hown hbel
                go_wp2_with fail
                rw [HV.out]
                refine ⟨⟨m + 1, by omega, by omega, by congr 1 <;> omega, HP.out, HO.out.1, HO.out.2⟩, ?_⟩
                simp [intOf]; omega
            · have hend : m = 1024 ∨ (m < 1024 ∧ 1024 * q + m = n) := by omega
              have c5 : Blk wr gb 32 (va 256 (iv .u8 (rlF F n q 1024))) := by
                rcases hend with rfl | he
                · exact hbk
                · rw [va_congr (f := iv .u8 (rlF F n q 1024)) (g := iv .u8 (rlF F n q m)) fun j _ => by unfold iv; rw [rlF_end F n q m j he.2 hm]]
                  exact hbk
              have HLC : Hid (byL (rlA F n) ((q + 1) * 256) = byL (rlA F n) (q * 256) ++ (va 256 (iv .u8 (rlF F n q 1024))).toList) := rlA_cells F n q
              have HOWN : Hid ((wr.alloc (.cells (va 256 (iv .u8 (rlF F n q 1024))) 32)).ownsRow w.heap.size 32 256 u3 q (byL (rlA F n) (q * 256))) := hown.alloc _
              have HNEW : Hid (∀ j u, (va 256 (iv .u8 (rlF F n q 1024))).toList[j]? = some u → (wr.alloc (.cells (va 256 (iv .u8 (rlF F n q 1024))) 32)).cell? ((⟨wr.heap.size, 0, none⟩ : Addr).add j) = some u) := cells_new wr _ _
              have HMEM : Hid (∀ u ∈ (va 256 (iv .u8 (rlF F n q 1024))).toList, u.oneCell' = true) := kva_mem_one 256 (rlF F n q 1024)
              have HLEN : Hid ((va 256 (iv .u8 (rlF F n q 1024))).toList.length = 1 * 256) := by
                show _ = _
                rw [va_toList]
                simp
              have HV2 := hown.lt
              have HBL : Hid (Below w.heap.size w wr) := hbel
              clear hbk hown hbel hgo
              generalize rlF F n q 1024 = rf at *
              rcases hend with he | he
              · have x1 : ¬ (1024 * (q : Int) + (m : Int) < 1024 * (q : Int) + 1024) := by omega
                go_wp2_with (first
                  | (refine wpList_load_row (by rfl) 32 _ (by rfl) gb (by rfl) 32 (va 256 (iv .u8 rf)) (0, 0) _ (by exact c5) Tryd.underlying32 (by rfl) (sizeRb.trans (by rw [va_size])) ?_; simp only [Act.put, List.setIfInBounds_toArray, List.set_cons_zero, List.set_cons_succ])
                  | (refine wpList_build1 (by rfl) 30 32 _ (by rfl) (va 256 (iv .u8 rf)) (by rfl) i0 _ 256 Tryd.underlying30 hi hz0 hz1 (va_size _ _) (by decide) (by decide) ?_; simp only [Act.put, List.setIfInBounds_toArray, List.set_cons_zero, List.set_cons_succ])
                  | (at_builtin; refine wpList_append_own _ rfl _ _ 30 rfl w.heap.size 32 i0 (.agg (va 256 (iv .u8 fun _ => 0))) 256 256 Tryd.underlying30 hi hz0 hz1 hz2 (va_size _ _) (by decide) _ _ _ rfl HOWN.out ⟨wr.heap.size, 0, none⟩ 1 1 (va 256 (iv .u8 rf)).toList rfl HLEN.out HNEW.out HMEM.out (by unfold maxLen; omega) (by omega) (by have := HBL.out.size; simp; omega) ?_)
                  | fail)
                intro v' w4 hown' hgrow _
                have hb9 := HBL.out.size
                have hb2 : Below w.heap.size w w4 := (HBL.out.alloc hb9 _).grown hgrow (by simp; omega) (fun k hk => (HV2 k hk).1)
                rw [← HLC.out] at hown'
                have HE : Hid (_ ∧ _) := ⟨hown', hb2⟩
                clear HOWN HNEW HMEM HLEN HV2 hgrow hown' hb2 c5
                go_wp2_with fail
                refine ⟨⟨q + 1, HQ.out.1, by simp, HE.out.1, HE.out.2⟩, ?_⟩
                have := HQ.out
                simp [intOf]; omega
              · have x0 : 1024 * (q : Int) + (m : Int) < 1024 * (q : Int) + 1024 := by omega
                have x1 : ¬ (1024 * (q : Int) + (m : Int) < (n : Int)) := by omega
                go_wp2_with (first
                  | (refine wpList_load_row (by rfl) 32 _ (by rfl) gb (by rfl) 32 (va 256 (iv .u8 rf)) (0, 0) _ (by exact c5) Tryd.underlying32 (by rfl) (sizeRb.trans (by rw [va_size])) ?_; simp only [Act.put, List.setIfInBounds_toArray, List.set_cons_zero, List.set_cons_succ])
                  | (refine wpList_build1 (by rfl) 30 32 _ (by rfl) (va 256 (iv .u8 rf)) (by rfl) i0 _ 256 Tryd.underlying30 hi hz0 hz1 (va_size _ _) (by decide) (by decide) ?_; simp only [Act.put, List.setIfInBounds_toArray, List.set_cons_zero, List.set_cons_succ])
                  | (at_builtin; refine wpList_append_own _ rfl _ _ 30 rfl w.heap.size 32 i0 (.agg (va 256 (iv .u8 fun _ => 0))) 256 256 Tryd.underlying30 hi hz0 hz1 hz2 (va_size _ _) (by decide) _ _ _ rfl HOWN.out ⟨wr.heap.size, 0, none⟩ 1 1 (va 256 (iv .u8 rf)).toList rfl HLEN.out HNEW.out HMEM.out (by unfold maxLen; omega) (by omega) (by have := HBL.out.size; simp; omega) ?_)
                  | fail)
                intro v' w4 hown' hgrow _
                have hb9 := HBL.out.size
                have hb2 : Below w.heap.size w w4 := (HBL.out.alloc hb9 _).grown hgrow (by simp; omega) (fun k hk => (HV2 k hk).1)
                rw [← HLC.out] at hown'
                have HE : Hid (_ ∧ _) := ⟨hown', hb2⟩
                clear HOWN HNEW HMEM HLEN HV2 hgrow hown' hb2 c5
                go_wp2_with fail
                refine ⟨⟨q + 1, HQ.out.1, by simp, HE.out.1, HE.out.2⟩, ?_⟩
                have := HQ.out
                simp [intOf]; omega
    · have hqe : q = lvN n := by have := HLV.out; omega
      have j1 : ¬ ((q : Int) * 1024 < (n : Int)) := by omega
      rw [hqe] at hown
      have HE : Hid (_ ∧ _) := ⟨hown, hb⟩
      have q8 : q ≤ 8 := by have := HLV.out; omega
      clear hown hb HM hqe hlt
      go_wp2_with fail
      go_ret
      exact ⟨_, rfl, HE.out.1, HE.out.2⟩
end
end Go.Proofs.YtjbmhocmpgkmoaaDoor

namespace Go.Proofs.YtjbmhocmpgkmoaaDoor
set_option maxRecDepth 20000
open Go Go.RowKit
set_option linter.unusedVariables false
set_option linter.unusedSimpArgs false
theorem yields_load_bi {P : Program} {ops : Array Oper} {S : World → Prop} {op : Oper} {a : Act} (hw : Region.wanted op (yielded ops a.tmps) = true) (ty : TypeId) (x : Operand) (ho : op.op = .load ty x)
    (b o n : Nat) (f : Nat → Value) (hx : a.eval x = .pointer (some ⟨b, o, none⟩)) (d : TypeDesc) (hS : ∀ w, S w → w.rangeAt b o ((List.range n).map f))
    (hu : P.underlying ty = some d) (hd : d.isRow = true) (hi : (P.info? ty).map (·.size) = some n) : YieldsIf P ops S op (.agg (va n f)) a :=
  yieldsIf_load_mid hw ty x ho b o hx _ d hS hu hd (hi.trans (by simp))
/-- 256 bytes in the memory -/
def RngB (W : World) (b o : Nat) (f : Nat → Nat) : Prop := W.rangeAt b o ((List.range 256).map (iv .u8 f))
/-- the bit of a place in the document's leaves; false where there is no leaf -/
def rbF (M : Nat) (L : Nat → Nat → Nat) (p : Nat) : Bool := decide (p / 1024 < M) && decide (L (p / 1024) (128 + p % 1024 / 8) / 2 ^ (p % 8) % 2 = 1)
theorem infoBo : (Tryd.prog.info? 4).map (fun i => (i.zero, i.size, i.bytes)) = some (some (.bool false), 1, 1) := by kernel_rfl
set_option maxHeartbeats 16000000 in
theorem rfrom11_in (n : Nat) (h1 : 1 ≤ n) (h2 : n ≤ 8192) (a : Option Addr) (M c : Nat) (L : Nat → Nat → Nat) (hM : M ≤ 10) (hLb : ∀ i j, L i j < 256) (w : World) (hL : IsBlks w a M L) : Calls Tryd.prog 12 #[.int .i64 (n : Int), .slice a M c] w fun e w' => (∃ g cap, e = .returned (.tuple #[.slice (some ⟨g, 0, none⟩) n cap, .int .i64 0]) ∧ lvN n = M ∧ (∀ k j, k < M → j < 256 → rlF (rbF M L) n k 1024 j = L k j) ∧ BA w' w.heap.size g n cap (rbF M L) ∧ Below w.heap.size w w') ∨ (e = .returned (.tuple #[.slice none 0 0, .int .i64 111]) ∧ ¬ (lvN n = M ∧ ∀ k j, k < M → j < 256 → rlF (rbF M L) n k 1024 j = L k j) ∧ Below w.heap.size w w') := by
  obtain ⟨i0, hi, hz0, hz1, hz2⟩ := info_parts infoBo
  have i1 : ¬ ((n : Int) < 1) := by omega
  have i2 : ¬ ((8192 : Int) < (n : Int)) := by omega
  have HL : Hid (∀ V, Below w.heap.size w V → IsBlks V a M L) := fun V hV => hL.below hV
  clear hL
  go_enter Tryd.func12, Tryd.ntmps12
  go_wp2_with fail
  go_loopw [6, 7] (fun v t wr => Hid (∃ p : Nat, p ≤ n ∧ t = .int .i64 (p : Int) ∧ wr.ownsRow w.heap.size 4 1 v p (boL (rbF M L) p) ∧ Below w.heap.size w wr)) (fun _ t _ => n - (intOf t).toNat)
  case atStart => exact ⟨0, by omega, rfl, World.ownsRow_lit w #[] 0 (Nat.le_refl _) (by decide) rfl, (Below.refl _ _).alloc (Nat.le_refl _) _⟩
  case round =>
    obtain ⟨p, hp, rfl, hown, hb⟩ := Hid.out hrel
    clear hrel
    by_cases hlt : p < n
    · have p1 : (p : Int) < (n : Int) := by omega
      have HB : Hid (boL (rbF M L) (p + 1) = boL (rbF M L) p ++ [.bool (rbF M L p)]) := by
        show boL (rbF M L) (p + 1) = boL (rbF M L) p ++ [.bool (rbF M L p)]
        simp [boL, List.range_succ]
      have hbs := hb.size
      have hv := hown.lt
      by_cases hk : p / 1024 < M
      · have k1 : ((p / 1024 : Nat) : Int) < (M : Int) := by omega
        obtain ⟨b, o, rfl, hbl, hr⟩ := HL.out wr hb (p / 1024) hk
        have e1 : wr.cell? ⟨b, o + p / 1024 * 256 + (128 + p % 1024 / 8), none⟩ = some (.int .u8 ((L (p / 1024) (128 + p % 1024 / 8) : Nat) : Int)) := hr (128 + p % 1024 / 8) _ (by rw [List.getElem?_map, List.getElem?_range (by omega)]; rfl)
        have HL8 := hLb (p / 1024) (128 + p % 1024 / 8)
        generalize hby : L (p / 1024) (128 + p % 1024 / 8) = by_ at *
        clear hr
        have HBV : Hid (rbF M L p = ((((by_ : Nat) : Int) / (2 : Int) ^ (p % 8)).tmod 2 == 1)) := by
          show rbF M L p = ((((by_ : Nat) : Int) / (2 : Int) ^ (p % 8)).tmod 2 == 1)
          unfold rbF
          rw [hby, decide_eq_true hk, Bool.true_and, show ((by_ : Nat) : Int) / (2 : Int) ^ (p % 8) = ((by_ / 2 ^ (p % 8) : Nat) : Int) by simp]
          generalize by_ / 2 ^ (p % 8) = y
          rw [Bool.eq_iff_iff, decide_eq_true_eq, beq_iff_eq, Int.tmod_eq_emod_of_nonneg (by omega)]
          omega
        go_wp2_with (first
          | (at_builtin; refine wpList_append_own _ rfl _ _ 24 rfl w.heap.size 4 i0 (.bool false) 1 1 Tryd.underlying24 hi hz0 hz1 hz2 rfl (by decide) u6 p _ rfl (hown.alloc _) ⟨wr.heap.size, 0, none⟩ 1 1 [.bool ((((by_ : Nat) : Int) / (2 : Int) ^ (p % 8)).tmod 2 == 1)] rfl rfl (cell_one_new _ _ _) (fun x hx => by simp at hx; subst hx; rfl) (by unfold maxLen; omega) (by omega) (by simp; omega) ?_)
          | fail)
        intro v' w1 ho hgr _
        have hb1 : Below w.heap.size w w1 := (hb.alloc hbs _).grown hgr (by simp; omega) (fun k hk => (hv k hk).1)
        have HE : Hid (w1.ownsRow w.heap.size 4 1 v' (p + 1) (boL (rbF M L) (p + 1)) ∧ Below w.heap.size w w1) := ⟨by rw [HB.out, HBV.out]; exact ho, hb1⟩
        clear hown hv hgr hb ho hb1
        go_wp2_with fail
        refine ⟨⟨p + 1, by omega, by simp, HE.out.1, HE.out.2⟩, ?_⟩
        simp [intOf]; omega
      · have k1 : ¬ ((p / 1024 : Nat) : Int) < (M : Int) := by omega
        have HBV : Hid (rbF M L p = false) := by
          show rbF M L p = false
          unfold rbF
          rw [decide_eq_false hk]
          rfl
        go_wp2_with (first
          | (at_builtin; refine wpList_append_own _ rfl _ _ 24 rfl w.heap.size 4 i0 (.bool false) 1 1 Tryd.underlying24 hi hz0 hz1 hz2 rfl (by decide) u6 p _ rfl (hown.alloc _) ⟨wr.heap.size, 0, none⟩ 1 1 [.bool false] rfl rfl (cell_one_new _ _ _) (fun x hx => by simp at hx; subst hx; rfl) (by unfold maxLen; omega) (by omega) (by simp; omega) ?_)
          | fail)
        intro v' w1 ho hgr _
        have hb1 : Below w.heap.size w w1 := (hb.alloc hbs _).grown hgr (by simp; omega) (fun k hk => (hv k hk).1)
        have HE : Hid (w1.ownsRow w.heap.size 4 1 v' (p + 1) (boL (rbF M L) (p + 1)) ∧ Below w.heap.size w w1) := ⟨by rw [HB.out, HBV.out]; exact ho, hb1⟩
        clear hown hv hgr hb ho hb1
        go_wp2_with fail
        refine ⟨⟨p + 1, by omega, by simp, HE.out.1, HE.out.2⟩, ?_⟩
        simp [intOf]; omega
    · have hpn : p = n := by omega
      subst hpn
      have p1 : ¬ ((p : Int) < (p : Int)) := by omega
      obtain ⟨g, cap, rfl, hg1, hg2⟩ := kown_form hown (by omega)
      have hBA : BA wr w.heap.size g p cap (rbF M L) := ⟨h2, hown⟩
      have HRL := rleaves11 wr hBA
      have HB0 : Hid (BA wr w.heap.size g p cap (rbF M L) ∧ Below w.heap.size w wr) := ⟨hBA, hb⟩
      clear hown hb hBA
      go_wp2_with fail
      refine HRL.mono ?_
      intro e w2 hw2
      obtain ⟨v9, he2, ho9, hb2⟩ := hw2
      subst he2
      obtain ⟨a9, c9, rfl, hI9⟩ := own_blks ho9
      have HB1 : Hid (BA w2 w.heap.size g p cap (rbF M L) ∧ Below w.heap.size w w2) := ⟨HB0.out.1.below hb2, HB0.out.2.trans (hb2.mono HB0.out.2.size)⟩
      have HLA : Hid (IsBlks w2 a M L) := HL.out w2 HB1.out.2
      have HI : Hid (IsBlks w2 a9 (lvN p) fun i j => rlA (rbF M L) p (256 * i + j)) := hI9
      clear hb2 ho9 HB0 HRL hI9 HL
      by_cases hlm : lvN p = M
      · have hlm' : ((lvN p : Nat) : Int) = (M : Int) := by omega
        generalize hQ : lvN p = Q at *
        subst hlm
        clear hlm'
        have q8 : Q ≤ 10 := hM
        go_wp2_with fail
        go_loopw [10] (fun t wt => Hid (∃ k : Nat, k ≤ Q ∧ t = .int .i64 (k : Int) ∧ (∀ k' j, k' < k → j < 256 → rlF (rbF Q L) p k' 1024 j = L k' j) ∧ IsBlks wt a9 Q (fun i j => rlA (rbF Q L) p (256 * i + j)) ∧ IsBlks wt a Q L ∧ BA wt w.heap.size g p cap (rbF Q L) ∧ Below w.heap.size w wt)) (fun t _ => Q - (intOf t).toNat)
        case atStart => exact ⟨0, by omega, rfl, fun k' j h => absurd h (by omega), HI.out, HLA.out, HB1.out.1, HB1.out.2⟩
        case round =>
          obtain ⟨k, hk, rfl, hok, hi9, hia, hba, hbw⟩ := Hid.out hrel
          have HR : Hid (IsBlks wr a9 Q (fun i j => rlA (rbF Q L) p (256 * i + j)) ∧ IsBlks wr a Q L ∧ BA wr w.heap.size g p cap (rbF Q L) ∧ Below w.heap.size w wr) := ⟨hi9, hia, hba, hbw⟩
          clear hrel hi9 hia hba hbw HI HLA HB1
          have HOK : Hid (∀ k' j, k' < k → j < 256 → rlF (rbF Q L) p k' 1024 j = L k' j) := hok
          clear hok
          by_cases hkl : k < Q
          · have k1 : (k : Int) < (Q : Int) := by omega
            obtain ⟨b1, o1, rfl, hb1, hr1⟩ := HR.out.1 k hkl
            obtain ⟨b2, o2, rfl, hb2, hr2⟩ := HR.out.2.1 k hkl
            have HF : Hid (∀ j, j < 256 → rlA (rbF Q L) p (256 * k + j) = rlF (rbF Q L) p k 1024 j) := fun j hj => by
              unfold rlA
              rw [show (256 * k + j) / 256 = k by omega, show (256 * k + j) % 256 = j by omega]
            have hS : Hid (RngB wr.drew b1 (o1 + k * 256) (fun j => rlA (rbF Q L) p (256 * k + j)) ∧ RngB wr.drew b2 (o2 + k * 256) (L k)) := ⟨hr1, hr2⟩
            have hqe : ∀ W, (Op.equalIn 10000 32 (.agg (va 256 (iv .u8 (fun j => rlA (rbF Q L) p (256 * k + j))))) (.agg (va 256 (iv .u8 (L k))))).run Tryd.prog W = .ok (decide (bkSame (fun j => rlA (rbF Q L) p (256 * k + j)) (L k))) W := eq_bk 32 Tryd.underlying32 _ _
            clear hr1 hr2
            by_cases hs : bkSame (fun j => rlA (rbF Q L) p (256 * k + j)) (L k)
            · rw [decide_eq_true hs] at hqe
              have HSB : Hid (bkSame (fun j => rlA (rbF Q L) p (256 * k + j)) (L k)) := hs
              clear hs
              go_wp2_with fail
              refine wp_region_partsS (fun W => RngB W b1 (o1 + k * 256) (fun j => rlA (rbF Q L) p (256 * k + j)) ∧ RngB W b2 (o2 + k * 256) (L k)) [([0, 1, 2, 4, 5, 6], 3, true), ([], 7, false), ([], 8, false)] [] [] (by kernel_rfl) (by kernel_rfl) hS.out (partsI_yield ?_)
              simp only [List.cons_append, List.nil_append, List.append_nil, List.filterMap_cons, List.filterMap_nil, List.getElem?_toArray, List.getElem?_cons_zero, List.getElem?_cons_succ]
              go_wp2_with fail
              refine ⟨rfl, _, .agg (va 256 (iv .u8 (fun j => rlA (rbF Q L) p (256 * k + j)))), rfl, yields_load_bi (by rfl) 32 _ (by rfl) b1 (o1 + k * 256) 256 (iv .u8 (fun j => rlA (rbF Q L) p (256 * k + j))) (by rfl) _ (fun W hW => hW.1) Tryd.underlying32 rfl sizeRb, partsI_force ?_⟩
              simp only [Act.put, List.setIfInBounds_toArray, List.set_cons_zero, List.set_cons_succ]
              simp only [List.cons_append, List.nil_append, List.append_nil, List.filterMap_cons, List.filterMap_nil, List.getElem?_toArray, List.getElem?_cons_zero, List.getElem?_cons_succ]
              (refine wpList_load_blk (by rfl) 32 _ (by rfl) b2 (o2 + k * 256) 256 (iv .u8 (L k)) (by rfl) _ (by exact hS.out.2) Tryd.underlying32 rfl sizeRb ?_; simp only [Act.put, List.setIfInBounds_toArray, List.set_cons_zero, List.set_cons_succ])
              go_wp2_with fail
              refine ⟨rfl, hS.out, partsI_force ?_⟩
              simp only [List.cons_append, List.nil_append, List.append_nil, List.filterMap_cons, List.filterMap_nil, List.getElem?_toArray, List.getElem?_cons_zero, List.getElem?_cons_succ]
              go_wp2_with fail
              refine ⟨rfl, hS.out, partsI_last ?_⟩
              simp only [List.cons_append, List.nil_append, List.append_nil, List.filterMap_cons, List.filterMap_nil, List.getElem?_toArray, List.getElem?_cons_zero, List.getElem?_cons_succ]
              go_wp2_with fail
              refine ⟨rfl, ?_⟩
              go_wp2_with fail
              refine ⟨⟨k + 1, by omega, by simp, fun k' j h hj => ?_, HR.out.1, HR.out.2.1, HR.out.2.2.1.dN 1, below_dN HR.out.2.2.2 1⟩, ?_⟩
              · by_cases e : k' = k
                · subst e
                  rw [← HF.out j hj]
                  exact HSB.out j hj
                · exact HOK.out k' j (by omega) hj
              · simp [intOf]; omega
            · rw [decide_eq_false hs] at hqe
              have HSB : Hid (¬ bkSame (fun j => rlA (rbF Q L) p (256 * k + j)) (L k)) := hs
              clear hs
              go_wp2_with fail
              refine wp_region_partsS (fun W => RngB W b1 (o1 + k * 256) (fun j => rlA (rbF Q L) p (256 * k + j)) ∧ RngB W b2 (o2 + k * 256) (L k)) [([0, 1, 2, 4, 5, 6], 3, true), ([], 7, false), ([], 8, false)] [] [] (by kernel_rfl) (by kernel_rfl) hS.out (partsI_yield ?_)
              simp only [List.cons_append, List.nil_append, List.append_nil, List.filterMap_cons, List.filterMap_nil, List.getElem?_toArray, List.getElem?_cons_zero, List.getElem?_cons_succ]
              go_wp2_with fail
              refine ⟨rfl, _, .agg (va 256 (iv .u8 (fun j => rlA (rbF Q L) p (256 * k + j)))), rfl, yields_load_bi (by rfl) 32 _ (by rfl) b1 (o1 + k * 256) 256 (iv .u8 (fun j => rlA (rbF Q L) p (256 * k + j))) (by rfl) _ (fun W hW => hW.1) Tryd.underlying32 rfl sizeRb, partsI_force ?_⟩
              simp only [Act.put, List.setIfInBounds_toArray, List.set_cons_zero, List.set_cons_succ]
              simp only [List.cons_append, List.nil_append, List.append_nil, List.filterMap_cons, List.filterMap_nil, List.getElem?_toArray, List.getElem?_cons_zero, List.getElem?_cons_succ]
              (refine wpList_load_blk (by rfl) 32 _ (by rfl) b2 (o2 + k * 256) 256 (iv .u8 (L k)) (by rfl) _ (by exact hS.out.2) Tryd.underlying32 rfl sizeRb ?_; simp only [Act.put, List.setIfInBounds_toArray, List.set_cons_zero, List.set_cons_succ])
              go_wp2_with fail
              refine ⟨rfl, hS.out, partsI_force ?_⟩
              simp only [List.cons_append, List.nil_append, List.append_nil, List.filterMap_cons, List.filterMap_nil, List.getElem?_toArray, List.getElem?_cons_zero, List.getElem?_cons_succ]
              go_wp2_with fail
              refine ⟨rfl, hS.out, partsI_last ?_⟩
              simp only [List.cons_append, List.nil_append, List.append_nil, List.filterMap_cons, List.filterMap_nil, List.getElem?_toArray, List.getElem?_cons_zero, List.getElem?_cons_succ]
              go_wp2_with fail
              refine ⟨rfl, ?_⟩
              go_wp2_with fail
              go_ret2
              exact Or.inr ⟨rfl, fun h => HSB.out fun j hj => by show rlA (rbF Q L) p (256 * k + j) = L k j; rw [HF.out j hj]; exact h.2 k j hkl hj, below_dN HR.out.2.2.2 1⟩
          · have k1 : ¬ ((k : Int) < (Q : Int)) := by omega
            obtain rfl : k = Q := by omega
            go_wp2_with fail
            go_ret2
            exact Or.inl ⟨g, cap, rfl, HOK.out, HR.out.2.2.1, HR.out.2.2.2⟩
      · have hlm' : ¬ ((lvN p : Nat) : Int) = (M : Int) := by omega
        go_wp2_with fail
        go_ret2
        exact Or.inr ⟨rfl, fun h => hlm h.1, HB1.out.2⟩
end Go.Proofs.YtjbmhocmpgkmoaaDoor

namespace Go.Proofs.YtjbmhocmpgkmoaaDoor
open Go Go.RowKit
set_option linter.unusedVariables false
set_option linter.unusedSimpArgs false
set_option maxRecDepth 100000 in
set_option maxHeartbeats 4000000 in
theorem eqBlks_any (m d d' : Nat) (hm : m ≤ 9223372036854775807) (a a' : Option Addr) (L M : Nat → Nat → Nat) (w : World) (h : IsBlks w a m L) (h' : IsBlks w a' m M) : Calls Tryd.prog 49 #[.slice a m d, .slice a' m d'] w fun e w' => e = .returned (.bool (decide (∀ i, i < m → bkSame (L i) (M i)))) ∧ Below w.heap.size w w' := by
  have HI : Hid (∀ V, Below w.heap.size w V → IsBlks V a m L ∧ IsBlks V a' m M) := fun V hV => ⟨h.below hV, h'.below hV⟩
  clear h h'
  go_enter Tryd.func49, Tryd.ntmps49
  go_wp2_with fail
  go_loopw [13] (fun t wr => Hid (∃ k : Nat, k ≤ m ∧ t = .int .i64 (k : Int) ∧ (∀ i, i < k → bkSame (L i) (M i)) ∧ Below w.heap.size w wr)) (fun t _ => m - (intOf t).toNat)
  case atStart => exact ⟨0, by omega, rfl, fun i hi => by omega, Below.refl _ _⟩
  case round =>
    obtain ⟨k, hk, rfl, hall, hb⟩ := Hid.out hrel
    clear hrel
    by_cases hlt : k < m
    · obtain ⟨b1, o1, rfl, l1, r1⟩ := (HI.out wr hb).1 k hlt
      obtain ⟨b2, o2, rfl, l2, r2⟩ := (HI.out wr hb).2 k hlt
      have R1 : Hid (wr.rangeAt b1 (o1 + k * 256) ((List.range 256).map (iv .u8 (L k)))) := r1
      have R2 : Hid (wr.rangeAt b2 (o2 + k * 256) ((List.range 256).map (iv .u8 (M k)))) := r2
      have k0 : (0 : Int) ≤ (k : Int) := by omega
      have k1 : (k : Int) < (m : Int) := by omega
      have HJ : Hid (k < m ∧ m ≤ 9223372036854775807 ∧ (∀ i, i < k → bkSame (L i) (M i))) := ⟨hlt, hm, hall⟩
      have hq : ∀ w, (Op.equalIn 10000 33 (.agg (va 256 (iv .u8 (L k)))) (.agg (va 256 (iv .u8 (M k))))).run Tryd.prog w = .ok (decide (bkSame (L k) (M k))) w := fun w => eq_bk 33 Tryd.underlying33 (L k) (M k) w
      have HSM : Hid (decide (bkSame (L k) (M k)) = decide (bkSame (L k) (M k))) := rfl
      generalize hsm : decide (bkSame (L k) (M k)) = sm at hq
      have HS : Hid (decide (bkSame (L k) (M k)) = sm) := hsm
      clear r1 r2 hall hsm HSM
      cases sm
      all_goals
        go_wp2_with fail
        refine wp_region_partsI [] [([0, 1, 2, 4, 5, 6], 3, true), ([], 7, false), ([], 8, false)] [] [] (wr.heap.size) (by kernel_rfl) (by kernel_rfl) (fun _ hx => nomatch hx) (partsI_yield ?_)
        simp only [List.cons_append, List.nil_append, List.append_nil, List.filterMap_cons, List.filterMap_nil, List.getElem?_toArray, List.getElem?_cons_zero, List.getElem?_cons_succ]
        have hS : Below (wr.heap.size) wr wr.drew := (Below.refl _ _).drew
        go_wp2_with fail
        refine ⟨rfl, _, .agg (va 256 (iv .u8 (L k))), rfl, yieldsIf_load_mid (by rfl) 33 _ (by rfl) (b1) (o1 + k * 256) (by rfl) ((List.range 256).map (iv .u8 (L k))) _ (fun W hW => range_below R1.out hW l1) Tryd.underlying33 rfl (sizeBk.trans (by simp)), partsI_force ?_⟩
        simp only [Act.put, List.setIfInBounds_toArray, List.set_cons_zero, List.set_cons_succ]
        simp only [List.cons_append, List.nil_append, List.append_nil, List.filterMap_cons, List.filterMap_nil, List.getElem?_toArray, List.getElem?_cons_zero, List.getElem?_cons_succ]
        refine wpList_load_blk (by rfl) 33 _ (by rfl) (b2) (o2 + k * 256) 256 (iv .u8 (M k)) (by rfl) _ (range_below R2.out hS l2) Tryd.underlying33 rfl sizeBk ?_
        simp only [Act.put, List.setIfInBounds_toArray, List.set_cons_zero, List.set_cons_succ]
        go_wp2_with fail
        refine ⟨rfl, hS, partsI_force ?_⟩
        simp only [List.cons_append, List.nil_append, List.append_nil, List.filterMap_cons, List.filterMap_nil, List.getElem?_toArray, List.getElem?_cons_zero, List.getElem?_cons_succ]
        go_wp2_with fail
        refine ⟨rfl, hS, partsI_last ?_⟩
        simp only [List.cons_append, List.nil_append, List.append_nil, List.filterMap_cons, List.filterMap_nil, List.getElem?_toArray, List.getElem?_cons_zero, List.getElem?_cons_succ]
        refine ⟨rfl, ?_⟩
        go_wp2_with fail
      · go_ret
        refine ⟨?_, hb.trans (hS.mono hb.size)⟩
        rw [decide_eq_false (fun hx => (of_decide_eq_false HS.out) (hx k HJ.out.1))]
        rfl
      · go_roundw
        case rel =>
          refine ⟨k + 1, HJ.out.1, by first | rfl | go_num | simp, fun i hi => ?_, hb.trans (hS.mono hb.size)⟩
          by_cases e : i = k
          · rw [e]; exact of_decide_eq_true HS.out
          · exact HJ.out.2.2 i (by omega)
        case measure => simp [intOf]; have := HJ.out; omega
    · obtain rfl : k = m := by omega
      have j1 : ¬ ((k : Int) < (k : Int)) := by omega
      have HA : Hid (∀ i, i < k → bkSame (L i) (M i)) := hall
      clear hall
      go_wp2_with fail
      go_ret
      exact ⟨by rw [decide_eq_true HA.out]; rfl, hb⟩
end Go.Proofs.YtjbmhocmpgkmoaaDoor

namespace Go.Proofs.YtjbmhocmpgkmoaaDoor
open Go Go.RowKit
set_option linter.unusedVariables false
set_option linter.unusedSimpArgs false
/-- the bit of a place, in leaves -/
def bitL (L : Nat → Nat → Nat) (p : Nat) : Bool := (L (p / 1024) (128 + p % 1024 / 8)).testBit (p % 1024 % 8)
theorem and_one_bit (x s : Nat) (hx : x < 256) : (bits .and .u8 ((x : Int) / 2 ^ s) 1 == 1) = x.testBit s := by
  have e : ((x : Int) / 2 ^ s) = ((x / 2 ^ s : Nat) : Int) := by
    rw [Int.natCast_ediv]
    congr 1
  have hlt : x / 2 ^ s < 256 := Nat.lt_of_le_of_lt (Nat.div_le_self _ _) hx
  rw [e, show (1 : Int) = ((1 : Nat) : Int) from rfl, u8_and_nat _ 1 hlt (by decide), Nat.and_one_is_mod, Nat.testBit_eq_decide_div_mod_eq]
  by_cases h : x / 2 ^ s % 2 = 1
  · rw [h]; rfl
  · have h0 : x / 2 ^ s % 2 = 0 := by omega
    rw [h0]; rfl
theorem put_ifL (W : Nat → Nat) (p q : Nat) : bitF (putW W p) q = if q = p then true else bitF W q := by
  rw [bitF_put]; by_cases h : q = p <;> simp [h]
section
variable {w : World} {n : Nat}
theorem from_many (h1 : 1 ≤ n) (h2 : n ≤ 8192) (a : Option Addr) (M cc : Nat) (hM : M ≠ lvN n) (w : World) : Calls Tryd.prog 10 #[.int .i64 (n : Int), .slice a M cc] w fun e w' => e = .returned (.tuple #[.pointer none, .int .i64 111]) ∧ Below w.heap.size w w' := by
  have HN := newM_ok n h1 h2 w
  have hne : ¬ ((M : Int) = (lvN n : Int)) := by omega
  have HV : Hid (∀ w : World, Calls Tryd.prog 45 #[.int .i64 (n : Int)] w fun e w' => e = .returned (.int .i64 (lvN n : Int)) ∧ w' = w) := leaves_any n h2
  go_enter Tryd.func10, Tryd.ntmps10
  go_wp2_with fail
  refine HN.mono ?_
  rintro e w1 ⟨g, b, c, rfl, hM1, hb1⟩
  clear hM1
  go_wp2_with fail
  refine (HV.out _).mono ?_
  rintro e w2 ⟨rfl, rfl⟩
  go_wp2_with fail
  go_ret2
  exact ⟨rfl, hb1⟩
set_option maxRecDepth 100000 in
set_option maxHeartbeats 4000000 in
theorem from_ok (h1 : 1 ≤ n) (h2 : n ≤ 8192) (a : Option Addr) (cc : Nat) (L : Nat → Nat → Nat) (hL : ∀ i j, L i j < 256) (w : World) (hI : IsBlks w a (lvN n) L) : Calls Tryd.prog 10 #[.int .i64 (n : Int), .slice a (lvN n) cc] w fun e w' => ∃ g b c W, BM w' w.heap.size g n b c W ∧ (∀ p, bitF W p = (decide (p < n) && bitL L p)) ∧ e = .returned (if (∀ i, i < lvN n → bkSame (lfF W i 16) (L i)) then .tuple #[.pointer (some ⟨g, 0, none⟩), .int .i64 0] else .tuple #[.pointer none, .int .i64 111]) ∧ Below w.heap.size w w' := by
  have HN := newM_ok n h1 h2 w
  have hl8 := lvN_le h2
  have hge := lvN_ge (n := n)
  have HV : Hid (∀ w : World, Calls Tryd.prog 45 #[.int .i64 (n : Int)] w fun e w' => e = .returned (.int .i64 (lvN n : Int)) ∧ w' = w) := leaves_any n h2
  have HI : Hid (∀ V, Below w.heap.size w V → IsBlks V a (lvN n) L) := fun V hV => hI.below hV
  have HL : Hid (∀ i j, L i j < 256) := hL
  clear hI hL
  go_enter Tryd.func10, Tryd.ntmps10
  go_wp2_with fail
  refine HN.mono ?_
  rintro e w1 ⟨g, b, c, rfl, hM1, hb1⟩
  have HM1 : Hid (BM w1 w.heap.size g n b c (fun _ => 0) ∧ Below w.heap.size w w1) := ⟨hM1, hb1⟩
  clear hM1 hb1 HN
  go_wp2_with fail
  refine (HV.out _).mono ?_
  rintro e w2 ⟨rfl, hw2⟩
  subst hw2
  clear HV
  go_wp2_with fail
  go_loopw [24] (fun t wr => Hid (∃ (j : Nat) (W : Nat → Nat), j ≤ n ∧ t = .int .i64 (j : Int) ∧ BM wr w.heap.size g n b c W ∧ (∀ p, bitF W p = (decide (p < j) && bitL L p)) ∧ Below w.heap.size w wr)) (fun t _ => n - (intOf t).toNat)
  case atStart => exact ⟨0, fun _ => 0, by omega, rfl, HM1.out.1, fun p => by rw [bitF_zero]; simp, HM1.out.2⟩
  case round =>
    obtain ⟨j, W, hj, rfl, hM, hbits, hb⟩ := Hid.out hrel
    clear hrel HM1
    by_cases hlt : j < n
    · have j0 : (0 : Int) ≤ (j : Int) := by omega
      have j1 : (j : Int) < (n : Int) := by omega
      obtain ⟨bb, oo, rfl, hbl, hr⟩ := HI.out wr hb (j / 1024) (by omega)
      have cw : wr.cell? ⟨bb, oo + j / 1024 * 256 + (128 + j % 1024 / 8), none⟩ = some (.int .u8 ((L (j / 1024) (128 + j % 1024 / 8) : Nat) : Int)) := by
        have := hr (128 + j % 1024 / 8) (.int .u8 ((L (j / 1024) (128 + j % 1024 / 8) : Nat) : Int)) (by rw [List.getElem?_map, List.getElem?_range (by omega)]; rfl)
        exact this
      have r1 : (j : Int).tmod 1024 = ((j % 1024 : Nat) : Int) := rfl
      have r2 : (j : Int).tdiv 1024 = ((j / 1024 : Nat) : Int) := rfl
      have r3 : (((j % 1024 : Nat) : Int)).tdiv 8 = ((j % 1024 / 8 : Nat) : Int) := rfl
      have r4 : (((j % 1024 : Nat) : Int)).tmod 8 = ((j % 1024 % 8 : Nat) : Int) := rfl
      have q1 : ((j / 1024 : Nat) : Int) < (lvN n : Int) := by omega
      have q2 : (128 : Int) + ((j % 1024 / 8 : Nat) : Int) < 256 := by omega
      have HBV : Hid ((bits .and .u8 (((L (j / 1024) (128 + j % 1024 / 8) : Nat) : Int) / 2 ^ (j % 8)) 1 == 1) = bitL L j) := by
        show (bits .and .u8 (((L (j / 1024) (128 + j % 1024 / 8) : Nat) : Int) / 2 ^ (j % 8)) 1 == 1) = bitL L j
        rw [and_one_bit _ _ (HL.out _ _)]
        unfold bitL
        rw [show j % 1024 % 8 = j % 8 by omega]
      have HS := set_in wr hM j hlt
      have HJ : Hid (j < n ∧ n ≤ 8192) := ⟨hlt, h2⟩
      have HMM : Hid (BM wr w.heap.size g n b c W ∧ (∀ p, bitF W p = (decide (p < j) && bitL L p)) ∧ Below w.heap.size w wr) := ⟨hM, hbits, hb⟩
      clear hr hM hbits HI hb
      go_wp2_with fail
      · rename_i hh K9 a9
        have hbt : bitL L j = true := HBV.out.symm.trans hh
        clear hh HBV
        refine HS.mono ?_
        rintro e w3 ⟨rfl, hM3, hO3⟩
        have HE : Hid (BM w3 w.heap.size g n b c (putW W j) ∧ (∀ p, bitF (putW W j) p = (decide (p < j + 1) && bitL L p)) ∧ Below w.heap.size w w3) := by
          obtain ⟨q1, q2, q3⟩ := HMM.out
          refine ⟨hM3, fun p => ?_, q3.trans (hO3.below q3.size hM3.blt.1)⟩
          rw [put_ifL, q2]
          by_cases e : p = j
          · subst e
            simp [hbt]
          · rw [if_neg e]
            by_cases e2 : p < j
            · have e3 : p < j + 1 := by omega
              simp [e2, e3]
            · have e3 : ¬ p < j + 1 := by omega
              simp [e2, e3]
        clear hM3 hO3 HS HMM hbt cw
        go_wp2_with fail
        go_roundw
        case rel => exact ⟨j + 1, putW W j, HJ.out.1, by first | rfl | go_num | simp, HE.out.1, HE.out.2.1, HE.out.2.2⟩
        case measure => simp [intOf]; have := HJ.out; omega
      · rename_i hh
        have hbf : bitL L j = false := HBV.out.symm.trans (by assumption)
        have HE : Hid (BM wr w.heap.size g n b c W ∧ (∀ p, bitF W p = (decide (p < j + 1) && bitL L p)) ∧ Below w.heap.size w wr) := by
          obtain ⟨q1, q2, q3⟩ := HMM.out
          refine ⟨q1, fun p => ?_, q3⟩
          rw [q2]
          by_cases e : p = j
          · subst e
            simp [hbf]
          · by_cases e2 : p < j
            · have e3 : p < j + 1 := by omega
              simp [e2, e3]
            · have e3 : ¬ p < j + 1 := by omega
              simp [e2, e3]
        go_roundw
        case rel => exact ⟨j + 1, W, HJ.out.1, by first | rfl | go_num | simp, HE.out.1, HE.out.2.1, HE.out.2.2⟩
        case measure => simp [intOf]; have := HJ.out; omega
    · obtain rfl : j = n := by omega
      have j1 : ¬ ((j : Int) < (j : Int)) := by omega
      have HLV := leavesM_any wr hM
      have HMM : Hid (∀ V, Below wr.heap.size wr V → BM V w.heap.size g j b c W ∧ IsBlks V a (lvN j) L ∧ Below w.heap.size w V) := fun V hV => ⟨hM.below hV, HI.out V (hb.trans (hV.mono hb.size)), hb.trans (hV.mono hb.size)⟩
      have HBT : Hid (∀ p, bitF W p = (decide (p < j) && bitL L p)) := hbits
      have HLL : Hid (lvN j ≤ 8) := hl8
      clear hM hbits HI hb
      go_wp2_with fail
      refine HLV.mono ?_
      rintro e w3 ⟨v, rfl, hown, hb3⟩
      obtain ⟨a2, cap2, rfl, hI2⟩ := own_blks hown
      have hI3 : IsBlks w3 a2 (lvN j) (fun i => lfF W i 16) := fun i hi => by
        obtain ⟨b0, o0, e0, l0, r0⟩ := hI2 i hi
        refine ⟨b0, o0, e0, l0, ?_⟩
        have he : (List.range 256).map (iv .u8 (fun x => lvsF W (256 * i + x))) = (List.range 256).map (iv .u8 (lfF W i 16)) := List.map_congr_left fun x hx => by
          have hx' := List.mem_range.1 hx
          show Value.int .u8 ((lfF W ((256 * i + x) / 256) 16 ((256 * i + x) % 256) : Nat) : Int) = _
          rw [show (256 * i + x) / 256 = i by omega, show (256 * i + x) % 256 = x by omega]
          rfl
        rw [← he]
        exact r0
      have HQ : Hid (Calls Tryd.prog 49 #[.slice a2 (lvN j) cap2, .slice a (lvN j) cc] w3 fun e w' => e = .returned (.bool (decide (∀ i, i < lvN j → bkSame (lfF W i 16) (L i)))) ∧ Below w3.heap.size w3 w') := eqBlks_any (lvN j) cap2 cc (by have := HLL.out; omega) a2 a _ L w3 hI3 (HMM.out w3 hb3).2.1
      have HB3 : Hid (Below wr.heap.size wr w3) := hb3
      clear hown hI2 hI3 hb3 HLV
      go_wp2_with fail
      refine HQ.out.mono ?_
      rintro e w4 ⟨rfl, hb4⟩
      have hb34 := HB3.out.trans (hb4.mono HB3.out.size)
      obtain ⟨hM4, _, hbw4⟩ := HMM.out w4 hb34
      have HF : Hid (BM w4 w.heap.size g j b c W ∧ Below w.heap.size w w4) := ⟨hM4, hbw4⟩
      clear hM4 hbw4 hb34 hb4 HMM HB3 HQ
      by_cases hgd : ∀ i, i < lvN j → bkSame (lfF W i 16) (L i)
      · rw [decide_eq_true hgd]
        have HG : Hid (∀ i, i < lvN j → bkSame (lfF W i 16) (L i)) := hgd
        clear hgd
        go_wp2_with fail
        go_ret2
        exact ⟨g, b, c, W, HF.out.1, HBT.out, by rw [if_pos HG.out]; rfl, HF.out.2⟩
      · rw [decide_eq_false hgd]
        have HG : Hid (¬ ∀ i, i < lvN j → bkSame (lfF W i 16) (L i)) := hgd
        clear hgd
        go_wp2_with fail
        go_ret2
        exact ⟨g, b, c, W, HF.out.1, HBT.out, by rw [if_neg HG.out]; rfl, HF.out.2⟩
end
end Go.Proofs.YtjbmhocmpgkmoaaDoor
