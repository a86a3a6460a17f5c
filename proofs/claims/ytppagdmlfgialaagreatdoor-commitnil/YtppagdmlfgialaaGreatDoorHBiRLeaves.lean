/- Maps of bits in leaves: the document's Leaves, walked. -/
import Derived.Test.YtppagdmlfgialaaGreatDoorHIoRSize
import Derived.Handy

namespace Go.Proofs.YtppagdmlfgialaaGreatDoor
set_option maxRecDepth 20000
open Go Go.RowKit
set_option linter.unusedVariables false
set_option linter.unusedSimpArgs false
def hdP (q i j : Nat) : Nat := if j < 4 + i then hdB q j else 0
theorem hd_text (k : Nat) : va 256 (iv .u8 hd0) = va 256 (iv .u8 (hdP k 0)) := va_congr fun j hj => by
  unfold iv
  refine congrArg (fun n : Nat => Value.int .u8 ((n : Nat) : Int)) ?_
  unfold hdP
  by_cases h0 : j < 4
  · rw [if_pos (by omega)]
    unfold hdB
    rw [if_pos h0]
    match j, h0 with
    | 0, _ => rfl
    | 1, _ => rfl
    | 2, _ => rfl
    | 3, _ => rfl
  · rw [if_neg (by omega)]
    unfold hd0
    rw [if_neg (by omega), if_neg (by omega), if_neg (by omega), if_neg (by omega)]
theorem rb4 (n : Nat) (hn : n < 18446744073709551616) (w : World) : Calls Tryz.prog 92 #[.int .u64 (n : Int), .int .i64 4] w fun e w' => ∃ v, e = .returned v ∧ w'.ownsRow w.heap.size 5 1 v 4 (byL (dig n) 4) ∧ Below w.heap.size w w' := by
  have h := refBytes_own n 4 (by decide) hn w
  have e : (digs n 4).map (Value.int .u8) = byL (dig n) 4 := by
    unfold byL digs dig
    rw [List.map_map]
    rfl
  rw [e] at h
  exact h
/-- a byte of a block put: other own slices stay -/
theorem own_put {w : World} {B e size n g T i : Nat} {v u : Value} {xs : List Value} {cs : Array Value} (h : w.ownsRow B e size v n xs) (hb : Blk w g T cs) (hne : v.ownBlock ≠ some g) : (w.setCell ⟨g, i, none⟩ u).ownsRow B e size v n xs := by
  rw [setCell_eq_setRow w g i cs T (0, 0) u hb]
  exact kown_setRow h (fun k _ hk e => hne (by rw [hk, e])) _
theorem pow8 : ∀ k, k < 8 → (2 : Int) ^ k % 256 = ((2 ^ k : Nat) : Int) ∧ 2 ^ k < 256 := by decide
theorem or_shift (x t : Nat) (hx : x < 256) : bits .or .u8 ((x : Nat) : Int) ((2 : Int) ^ (t % 8) % 256) = ((x ||| 2 ^ (t % 8) : Nat) : Int) := by
  obtain ⟨h1, h2⟩ := pow8 (t % 8) (Nat.mod_lt _ (by decide))
  rw [h1, u8_or_nat _ _ hx h2]
theorem rlF_lt (F : Nat → Bool) (n k m j : Nat) : rlF F n k m j < 256 := by
  unfold rlF
  split
  · exact by8_lt _
  · unfold hdB
    split
    · exact tbyte_lt _ _
    · split
      · exact Nat.mod_lt _ (by decide)
      · decide
theorem rlF_end (F : Nat → Bool) (n k m j : Nat) (h : 1024 * k + m = n) (hm : m ≤ 1024) : rlF F n k m j = rlF F n k 1024 j := by
  unfold rlF
  split
  · refine by8_congr fun i hi => ?_
    by_cases e : 8 * (j - 128) + i < m
    · rw [decide_eq_true e, decide_eq_true (show 8 * (j - 128) + i < 1024 by omega)]
    · rw [decide_eq_false e, decide_eq_false (show ¬ 1024 * k + 8 * (j - 128) + i < n by omega)]
      simp
  · rfl
section
variable {w : World} {B k0 n c : Nat} {F : Nat → Bool}
set_option maxHeartbeats 16000000 in
theorem rleaves11 (w : World) (h : BA w B k0 n c F) : Calls Tryz.prog 45 #[.slice (some ⟨k0, 0, none⟩) n c] w fun e w' => ∃ v, e = .returned v ∧ w'.ownsRow w.heap.size 121 256 v (lvN n) (byL (rlA F n) (lvN n * 256)) ∧ Below w.heap.size w w' := by
  obtain ⟨i0, hi, hz0, hz1, hz2⟩ := info_parts infoRb
  have hn2 := h.n2
  have hz := zero_rb
  have hbh := built_hd
  have HM : Hid (∀ V, Below w.heap.size w V → BA V B k0 n c F) := fun V hV => h.below hV
  have HLV : Hid (lvN n = (n + 1023) / 1024) := rfl
  clear h
  go_enter Tryz.func45, Tryz.ntmps45
  go_wp2_with fail
  go_loopw [3, 4] (fun v t wr => Hid (∃ q : Nat, q ≤ lvN n ∧ t = .int .i64 (q : Int) ∧ wr.ownsRow w.heap.size 121 256 v q (byL (rlA F n) (q * 256)) ∧ Below w.heap.size w wr)) (fun _ t _ => lvN n - (intOf t).toNat)
  case atStart => exact ⟨0, by omega, rfl, World.ownsRow_lit w #[] 0 (Nat.le_refl _) (by decide) rfl, (Below.refl _ _).alloc (Nat.le_refl _) _⟩
  case round =>
    obtain ⟨q, hq, rfl, hown, hb⟩ := Hid.out hrel
    clear hrel
    by_cases hlt : q * 1024 < n
    · have j1 : (q : Int) * 1024 < (n : Int) := by omega
      have HQ : Hid (q < lvN n ∧ q < 8) := ⟨by rw [HLV.out]; omega, by omega⟩
      have hwq : IntKind.u64.wrap (q : Int) = (q : Int) := by
        unfold IntKind.wrap
        simp only [IntKind.bits, IntKind.signed]
        have : ((q : Int)) % (2 ^ 64) = (q : Int) := by omega
        simp [this]
        omega
      have q8 : q < 8 := by omega
      have g1 : Blk (wr.alloc (.cells (va 256 (iv .u8 fun _ => 0)) 121)) wr.heap.size 121 (va 256 (iv .u8 fun _ => 0)) := Blk.new _ _ _
      have HG : Hid (Blk ((wr.alloc (.cells (va 256 (iv .u8 fun _ => 0)) 121)).setRow wr.heap.size (va 256 (iv .u8 hd0))) wr.heap.size 121 (va 256 (iv .u8 hd0)) ∧ ((wr.alloc (.cells (va 256 (iv .u8 fun _ => 0)) 121)).setRow wr.heap.size (va 256 (iv .u8 hd0))).ownsRow w.heap.size 121 256 u3 q (byL (rlA F n) (q * 256)) ∧ Below w.heap.size w ((wr.alloc (.cells (va 256 (iv .u8 fun _ => 0)) 121)).setRow wr.heap.size (va 256 (iv .u8 hd0))) ∧ w.heap.size ≤ wr.heap.size ∧ u3.ownBlock ≠ some wr.heap.size) :=
        ⟨g1.set _, kown_setRow (hown.alloc _) (fun k _ hk => by have := (hown.lt k hk).2; omega) _, below_setRow (hb.alloc hb.size _) hb.size _, hb.size, fun e => by have := (hown.lt _ e).2; omega⟩
      clear hown hb
      go_wp2_with (first
        | (refine wpList_build4c (by rfl) 121 _ _ _ _ (by rfl) (.int .u8 98) (.int .u8 105) (.int .u8 116) (.int .u8 115) (by rfl) (by rfl) (by rfl) (by rfl) (va 256 (iv .u8 hd0)) hbh ?_; simp only [Act.put, List.setIfInBounds_toArray, List.set_cons_zero, List.set_cons_succ])
        | (refine wpList_store_row (by rfl) 121 _ _ (by rfl) (wr.heap.size) (va 256 (iv .u8 hd0)) (by rfl) (by rfl) 121 (va 256 (iv .u8 fun _ => 0)) (by exact g1) (sizeRb.trans (by rw [va_size])) (by simp only [va_size]) (iv_one _ _ _) ?_; simp only [Act.put, List.setIfInBounds_toArray, List.set_cons_zero, List.set_cons_succ])
        | fail)
      generalize ((wr.alloc (.cells (va 256 (iv .u8 fun _ => 0)) 121)).setRow wr.heap.size (va 256 (iv .u8 hd0))) = w1 at *
      generalize wr.heap.size = gb at *
      clear g1
      refine (rb4 q (by omega) _).mono ?_
      intro e w2 hw2
      obtain ⟨v6, he2, ho6, hb2⟩ := hw2
      subst he2
      have h6 := ho6.lt
      obtain ⟨g6, c6, rfl, _, _⟩ := kown_form ho6 (by decide)
      have hg6 : w1.heap.size ≤ g6 := (h6 g6 rfl).1
      have hgl : gb < w1.heap.size := HG.out.1.lt
      have HG2 : Hid (Blk w2 gb 121 (va 256 (iv .u8 (hdP q 0))) ∧ w2.ownsRow w.heap.size 121 256 u3 q (byL (rlA F n) (q * 256)) ∧ Below w.heap.size w w2 ∧ w2.ownsRow w1.heap.size 5 1 (.slice (some ⟨g6, 0, none⟩) 4 c6) 4 (byL (dig q) 4)) :=
        ⟨by rw [← hd_text q]; exact HG.out.1.below hb2 hgl, kown_below HG.out.2.1 hb2, HG.out.2.2.1.trans (hb2.mono HG.out.2.2.1.size), ho6⟩
      have HNE : Hid (w.heap.size ≤ gb ∧ u3.ownBlock ≠ some gb) := HG.out.2.2.2
      have h6b : g6 ≠ gb := by omega
      clear HG hb2 ho6 h6
      go_wp2_with fail
      go_loopw [7] (fun t wt => Hid (∃ i : Nat, i ≤ 4 ∧ t = .int .i64 (i : Int) ∧ Blk wt gb 121 (va 256 (iv .u8 (hdP q i))) ∧ wt.ownsRow w.heap.size 121 256 u3 q (byL (rlA F n) (q * 256)) ∧ Below w.heap.size w wt ∧ wt.ownsRow w1.heap.size 5 1 (.slice (some ⟨g6, 0, none⟩) 4 c6) 4 (byL (dig q) 4))) (fun t _ => 4 - (intOf t).toNat)
      case atStart => exact ⟨0, by omega, rfl, HG2.out.1, HG2.out.2.1, HG2.out.2.2.1, HG2.out.2.2.2⟩
      case round =>
        obtain ⟨i, hi4, rfl, hbk, hown, hbel, ho6⟩ := Hid.out hrel
        clear hrel HG2
        by_cases hl4 : i < 4
        · have i1 : (i : Int) < 4 := by omega
          have f1 := hbk.frozen (4 + i)
          obtain ⟨old, e1⟩ : ∃ old : Value, wr.cell? ⟨gb, 4 + i, none⟩ = some old := ⟨_, by rw [hbk.cell]; exact va_at _ (by omega)⟩
          have e2 : wr.cell? ⟨g6, i, none⟩ = some (.int .u8 ((dig q i : Nat) : Int)) := by rw [ho6.cellAt i (by omega), byL_at _ _ _ hl4]
          have HP : Hid (Blk (wr.setCell ⟨gb, 4 + i, none⟩ (.int .u8 ((dig q i : Nat) : Int))) gb 121 (va 256 (iv .u8 (hdP q (i + 1))))) := by
            have hp := hbk.put (4 + i) (.int .u8 ((dig q i : Nat) : Int))
            rw [va_set] at hp
            rw [va_congr (f := iv .u8 (hdP q (i + 1))) (g := upd (iv .u8 (hdP q i)) (4 + i) (.int .u8 ((dig q i : Nat) : Int))) fun j hj => by
              unfold upd iv hdP
              by_cases e : j = 4 + i
              · subst e
                rw [if_pos rfl, if_pos (by omega)]
                unfold hdB
                rw [if_neg (by omega), if_pos (by omega), show 4 + i - 4 = i by omega]
              · rw [if_neg e]
                by_cases e' : j < 4 + i
                · rw [if_pos e', if_pos (by omega)]
                · rw [if_neg e', if_neg (by omega)]]
            exact hp
          have HO : Hid ((wr.setCell ⟨gb, 4 + i, none⟩ (.int .u8 ((dig q i : Nat) : Int))).ownsRow w.heap.size 121 256 u3 q (byL (rlA F n) (q * 256)) ∧ Below w.heap.size w (wr.setCell ⟨gb, 4 + i, none⟩ (.int .u8 ((dig q i : Nat) : Int))) ∧ (wr.setCell ⟨gb, 4 + i, none⟩ (.int .u8 ((dig q i : Nat) : Int))).ownsRow w1.heap.size 5 1 (.slice (some ⟨g6, 0, none⟩) 4 c6) 4 (byL (dig q) 4)) :=
            ⟨own_put hown hbk HNE.out.2, hbel.setCell HNE.out.1 _, own_put ho6 hbk (by simp only [Value.ownBlock]; intro e; injection e; omega)⟩
          have w4i : ((4 : Int) + (i : Int)).toNat = 4 + i := by omega
          have w4l : (4 : Int) + (i : Int) < 256 := by omega
          clear hown hbel ho6 hbk
          go_wp2_with fail
          refine ⟨⟨i + 1, by omega, by simp, HP.out, HO.out.1, HO.out.2.1, HO.out.2.2⟩, ?_⟩
          simp [intOf]; omega
        · obtain rfl : i = 4 := by omega
          have hrz : Blk wr gb 121 (va 256 (iv .u8 (rlF F n q 0))) := by
            rw [va_congr (f := iv .u8 (rlF F n q 0)) (g := iv .u8 (hdP q 4)) fun j hj => by
              unfold iv hdP
              rw [rlF_zero]
              by_cases e : j < 8
              · rw [if_pos (by omega)]
              · rw [if_neg (by omega)]
                unfold hdB
                rw [if_neg (by omega), if_neg (by omega)]]
            exact hbk
          have HG3 : Hid (_ ∧ _ ∧ _) := ⟨hrz, hown, hbel⟩
          clear hbk hown hbel ho6 hrz
          go_wp2_with fail
          go_loopw [8] (fun t wt => Hid (∃ m : Nat, m ≤ 1024 ∧ 1024 * q + m ≤ n ∧ t = .int .i64 (1024 * (q : Int) + (m : Int)) ∧ Blk wt gb 121 (va 256 (iv .u8 (rlF F n q m))) ∧ wt.ownsRow w.heap.size 121 256 u3 q (byL (rlA F n) (q * 256)) ∧ Below w.heap.size w wt)) (fun t _ => 9300 - (intOf t).toNat)
          case atStart => exact ⟨0, by omega, by omega, by simp, HG3.out.1, HG3.out.2.1, HG3.out.2.2⟩
          case round =>
            obtain ⟨m, hm, hmn, rfl, hbk, hown, hbel⟩ := Hid.out hrel
            clear hrel HG3
            by_cases hgo : m < 1024 ∧ 1024 * q + m < n
            · obtain ⟨m1, m2⟩ := hgo
              have p1 : 1024 * (q : Int) + (m : Int) < 1024 * (q : Int) + 1024 := by omega
              have p2 : 1024 * (q : Int) + (m : Int) < (n : Int) := by omega
              have p3 : (1024 * (q : Int) + (m : Int)).toNat = 1024 * q + m := by omega
              have p4 : (0 : Int) ≤ 1024 * (q : Int) + (m : Int) := by omega
              have cF := (HM.out _ hbel).at m2
              cases hF : F (1024 * q + m)
              · rw [hF] at cF
                have HS : Hid (Blk wr gb 121 (va 256 (iv .u8 (rlF F n q (m + 1))))) := by
                  rw [va_congr (f := iv .u8 (rlF F n q (m + 1))) (g := iv .u8 (rlF F n q m)) fun j _ => by unfold iv; rw [rlF_skip F n q m j (Or.inl hF)]]
                  exact hbk
                have HO : Hid (_ ∧ _) := ⟨hown, hbel⟩
                clear hbk hown hbel
                go_wp2_with fail
                refine ⟨⟨m + 1, by omega, by omega, by congr 1 <;> omega, HS.out, HO.out.1, HO.out.2⟩, ?_⟩
                simp [intOf]; omega
              · rw [hF] at cF
                have r0 : m % 1024 / 8 = m / 8 := by omega
                have r4 : 128 + m % 1024 / 8 < 256 := by omega
                have f1 := hbk.frozen (128 + m % 1024 / 8)
                have e1 : wr.cell? ⟨gb, 128 + m % 1024 / 8, none⟩ = some (.int .u8 ((rlF F n q m (128 + m % 1024 / 8) : Nat) : Int)) := hbk.cv (by omega)
                clear r0
                have HV : Hid (bits .or .u8 ((rlF F n q m (128 + m % 1024 / 8) : Nat) : Int) ((2 : Int) ^ ((1024 * q + m) % 8) % 256) = ((rlF F n q (m + 1) (128 + m / 8) : Nat) : Int)) := by
                  show bits .or .u8 ((rlF F n q m (128 + m % 1024 / 8) : Nat) : Int) ((2 : Int) ^ ((1024 * q + m) % 8) % 256) = ((rlF F n q (m + 1) (128 + m / 8) : Nat) : Int)
                  rw [or_shift _ _ (rlF_lt _ _ _ _ _), show (1024 * q + m) % 8 = m % 8 by omega, show m % 1024 / 8 = m / 8 by omega, rlF_bit F n q m m1 m2 hF]
                have HP : Hid (Blk (wr.setCell ⟨gb, 128 + m % 1024 / 8, none⟩ (.int .u8 ((rlF F n q (m + 1) (128 + m / 8) : Nat) : Int))) gb 121 (va 256 (iv .u8 (rlF F n q (m + 1))))) := by
                  have hp := hbk.put (128 + m % 1024 / 8) (.int .u8 ((rlF F n q (m + 1) (128 + m / 8) : Nat) : Int))
                  rw [va_set] at hp
                  rw [va_congr (f := iv .u8 (rlF F n q (m + 1))) (g := upd (iv .u8 (rlF F n q m)) (128 + m % 1024 / 8) (.int .u8 ((rlF F n q (m + 1) (128 + m / 8) : Nat) : Int))) fun j hj => by
                    unfold upd iv
                    by_cases e : j = 128 + m % 1024 / 8
                    · rw [if_pos e, show j = 128 + m / 8 by omega]
                    · rw [if_neg e, rlF_other F n q m j m1 (by omega)]]
                  exact hp
                have HO : Hid ((wr.setCell ⟨gb, 128 + m % 1024 / 8, none⟩ (.int .u8 ((rlF F n q (m + 1) (128 + m / 8) : Nat) : Int))).ownsRow w.heap.size 121 256 u3 q (byL (rlA F n) (q * 256)) ∧ Below w.heap.size w (wr.setCell ⟨gb, 128 + m % 1024 / 8, none⟩ (.int .u8 ((rlF F n q (m + 1) (128 + m / 8) : Nat) : Int)))) := ⟨own_put hown hbk HNE.out.2, hbel.setCell HNE.out.1 _⟩
                clear hbk hown hbel
                go_wp2_with fail
                rw [HV.out]
                refine ⟨⟨m + 1, by omega, by omega, by congr 1 <;> omega, HP.out, HO.out.1, HO.out.2⟩, ?_⟩
                simp [intOf]; omega
            · have hend : m = 1024 ∨ (m < 1024 ∧ 1024 * q + m = n) := by omega
              have c5 : Blk wr gb 121 (va 256 (iv .u8 (rlF F n q 1024))) := by
                rcases hend with rfl | he
                · exact hbk
                · rw [va_congr (f := iv .u8 (rlF F n q 1024)) (g := iv .u8 (rlF F n q m)) fun j _ => by unfold iv; rw [rlF_end F n q m j he.2 hm]]
                  exact hbk
              have HLC : Hid (byL (rlA F n) ((q + 1) * 256) = byL (rlA F n) (q * 256) ++ (va 256 (iv .u8 (rlF F n q 1024))).toList) := rlA_cells F n q
              have HOWN : Hid ((wr.alloc (.cells (va 256 (iv .u8 (rlF F n q 1024))) 121)).ownsRow w.heap.size 121 256 u3 q (byL (rlA F n) (q * 256))) := hown.alloc _
              have HNEW : Hid (∀ j u, (va 256 (iv .u8 (rlF F n q 1024))).toList[j]? = some u → (wr.alloc (.cells (va 256 (iv .u8 (rlF F n q 1024))) 121)).cell? ((⟨wr.heap.size, 0, none⟩ : Addr).add j) = some u) := cells_new wr _ _
              have HMEM : Hid (∀ u ∈ (va 256 (iv .u8 (rlF F n q 1024))).toList, u.oneCell' = true) := kva_mem_one 256 (rlF F n q 1024)
              have HLEN : Hid ((va 256 (iv .u8 (rlF F n q 1024))).toList.length = 1 * 256) := by
                show _ = _
                rw [va_toList]
                simp
              have HV2 := hown.lt
              have HBL : Hid (Below w.heap.size w wr) := hbel
              clear hbk hown hbel hgo
              generalize rlF F n q 1024 = rf at *
              rcases hend with he | he
              · have x1 : ¬ (1024 * (q : Int) + (m : Int) < 1024 * (q : Int) + 1024) := by omega
                go_wp2_with (first
                  | (refine wpList_load_row (by rfl) 121 _ (by rfl) gb (by rfl) 121 (va 256 (iv .u8 rf)) (0, 0) _ (by exact c5) Tryz.underlying121 (by rfl) (sizeRb.trans (by rw [va_size])) ?_; simp only [Act.put, List.setIfInBounds_toArray, List.set_cons_zero, List.set_cons_succ])
                  | (refine wpList_build1 (by rfl) 65 121 _ (by rfl) (va 256 (iv .u8 rf)) (by rfl) i0 _ 256 Tryz.underlying65 hi hz0 hz1 (va_size _ _) (by decide) (by decide) ?_; simp only [Act.put, List.setIfInBounds_toArray, List.set_cons_zero, List.set_cons_succ])
                  | (at_builtin; refine wpList_append_own _ rfl _ _ 65 rfl w.heap.size 121 i0 (.agg (va 256 (iv .u8 fun _ => 0))) 256 256 Tryz.underlying65 hi hz0 hz1 hz2 (va_size _ _) (by decide) _ _ _ rfl HOWN.out ⟨wr.heap.size, 0, none⟩ 1 1 (va 256 (iv .u8 rf)).toList rfl HLEN.out HNEW.out HMEM.out (by unfold maxLen; omega) (by omega) (by have := HBL.out.size; simp; omega) ?_)
                  | fail)
                intro v' w4 hown' hgrow _
                have hb9 := HBL.out.size
                have hb2 : Below w.heap.size w w4 := (HBL.out.alloc hb9 _).grown hgrow (by simp; omega) (fun k hk => (HV2 k hk).1)
                rw [← HLC.out] at hown'
                have HE : Hid (_ ∧ _) := ⟨hown', hb2⟩
                clear HOWN HNEW HMEM HLEN HV2 hgrow hown' hb2 c5
                go_wp2_with fail
                refine ⟨⟨q + 1, HQ.out.1, by simp, HE.out.1, HE.out.2⟩, ?_⟩
                have := HQ.out
                simp [intOf]; omega
              · have x0 : 1024 * (q : Int) + (m : Int) < 1024 * (q : Int) + 1024 := by omega
                have x1 : ¬ (1024 * (q : Int) + (m : Int) < (n : Int)) := by omega
                go_wp2_with (first
                  | (refine wpList_load_row (by rfl) 121 _ (by rfl) gb (by rfl) 121 (va 256 (iv .u8 rf)) (0, 0) _ (by exact c5) Tryz.underlying121 (by rfl) (sizeRb.trans (by rw [va_size])) ?_; simp only [Act.put, List.setIfInBounds_toArray, List.set_cons_zero, List.set_cons_succ])
                  | (refine wpList_build1 (by rfl) 65 121 _ (by rfl) (va 256 (iv .u8 rf)) (by rfl) i0 _ 256 Tryz.underlying65 hi hz0 hz1 (va_size _ _) (by decide) (by decide) ?_; simp only [Act.put, List.setIfInBounds_toArray, List.set_cons_zero, List.set_cons_succ])
                  | (at_builtin; refine wpList_append_own _ rfl _ _ 65 rfl w.heap.size 121 i0 (.agg (va 256 (iv .u8 fun _ => 0))) 256 256 Tryz.underlying65 hi hz0 hz1 hz2 (va_size _ _) (by decide) _ _ _ rfl HOWN.out ⟨wr.heap.size, 0, none⟩ 1 1 (va 256 (iv .u8 rf)).toList rfl HLEN.out HNEW.out HMEM.out (by unfold maxLen; omega) (by omega) (by have := HBL.out.size; simp; omega) ?_)
                  | fail)
                intro v' w4 hown' hgrow _
                have hb9 := HBL.out.size
                have hb2 : Below w.heap.size w w4 := (HBL.out.alloc hb9 _).grown hgrow (by simp; omega) (fun k hk => (HV2 k hk).1)
                rw [← HLC.out] at hown'
                have HE : Hid (_ ∧ _) := ⟨hown', hb2⟩
                clear HOWN HNEW HMEM HLEN HV2 hgrow hown' hb2 c5
                go_wp2_with fail
                refine ⟨⟨q + 1, HQ.out.1, by simp, HE.out.1, HE.out.2⟩, ?_⟩
                have := HQ.out
                simp [intOf]; omega
    · have hqe : q = lvN n := by have := HLV.out; omega
      have j1 : ¬ ((q : Int) * 1024 < (n : Int)) := by omega
      rw [hqe] at hown
      have HE : Hid (_ ∧ _) := ⟨hown, hb⟩
      have q8 : q ≤ 8 := by have := HLV.out; omega
      clear hown hb HM hqe hlt
      go_wp2_with fail
      go_ret
      exact ⟨_, rfl, HE.out.1, HE.out.2⟩
end
end Go.Proofs.YtppagdmlfgialaaGreatDoor
