/- The law of how a room plays. -/
import Derived.Test.YtkpcgijdokhjkaaDoorHRmBack
import Derived.Handy

namespace Go.Proofs.YtkpcgijdokhjkaaDoor
open Go Go.RowKit
set_option linter.unusedVariables false
set_option linter.unusedSimpArgs false
set_option maxRecDepth 100000 in
set_option maxHeartbeats 32000000 in
theorem plays_ok (n : Nat) (h1 : 16 ≤ n) (h2 : n ≤ 8192) (a : Option Addr) (N cc : Nat) (hN : N ≤ 9223372036854775807) (hN4 : N * 4 ≤ 140737488351232) (hNn : a = none → N = 0 ∧ cc = 0) (A : Nat → Nat) (sa : Option Addr) (M cs : Nat) (hM : M ≤ 9223372036854775807) (K : Nat → Int) (Z : Nat → Nat) (w : World) (h0 : 0 < w.heap.size) (hT : TabAt w) (hD : IsU32s w a N A) (hS : IsActs w sa M K Z) (hG : GoodA A n N) :
    Calls Tryd.prog 6 #[.int .i64 (n : Int), .slice a N cc, .slice sa M cs] w fun e w' => e = .returned (.bool true) ∧ Below w.heap.size w w' := by
  obtain ⟨i0, hi, hz0, hz1, hz2⟩ := info_parts infoU32
  have HA := awake12_any w hT h0
  have HD : Hid (∀ V, Below w.heap.size w V → IsU32s V a N A) := fun V hV => hD.below hV
  have HLT : Hid (∀ j, j < N → A j < 4294967296) := fun j hj => (hD j hj).1
  have HS : Hid (∀ V, Below w.heap.size w V → IsActs V sa M K Z ∧ TabAt V ∧ 0 < V.heap.size) := fun V hV => ⟨hS.below hV, hT.below h0 hV, Nat.lt_of_lt_of_le h0 hV.size⟩
  have HNEW : Hid (∀ V a' c', IsU32s V a' N A → Calls Tryd.prog 29 #[.int .i64 (n : Int), .slice a' N c'] V fun e w' => (∃ r, e = .returned (.tuple #[.pointer (some ⟨r, 0, none⟩), .int .i64 0, .int .i64 0]) ∧ RoomIs w' (fun k => V.heap.size ≤ k) r n (memA A N) (memA A N)) ∧ Below V.heap.size V w') := fun V a' c' hI => by
    refine (rnew_any h1 h2 a' N c' hN A V hI).mono ?_
    rintro e w' ⟨⟨r, rfl, hg, hR⟩ | ⟨m, hm, rfl, _, hbad⟩, hb⟩
    · exact ⟨⟨r, rfl, hR⟩, hb⟩
    · exact absurd (hG m hm) hbad
  have HREF : Hid (∀ V a' c', IsU32s V a' N A → Calls Tryd.prog 30 #[.int .i64 (n : Int), .slice a' N c'] V fun e w' => (∃ k c, e = .returned (.tuple #[.slice (some ⟨k, 0, none⟩) n c, .int .i64 0, .int .i64 0]) ∧ SA w' V.heap.size k n c (newS A N)) ∧ Below V.heap.size V w') := fun V a' c' hI => by
    refine (rref_any h1 h2 a' N c' hN A V hI).mono ?_
    rintro e w' ⟨⟨k, c, rfl, hg, hR⟩ | ⟨m, hm, rfl, _, hbad⟩, hb⟩
    · exact ⟨⟨k, c, rfl, hR⟩, hb⟩
    · exact absurd (hG m hm) hbad
  have HTW : Hid (TabAt w ∧ 0 < w.heap.size) := ⟨hT, h0⟩
  clear hT hD hS hG
  go_enter Tryd.func6, Tryd.ntmps6
  go_wp2_with fail
  refine HA.mono ?_
  rintro e w1 ⟨rfl, hb1⟩
  have hbA : Below w1.heap.size w1 (w1.alloc (.cells #[] 22)) := below_new1 _ _
  have HOWN : Hid ((w1.alloc (.cells #[] 22)).ownsRow w1.heap.size 22 1 (.slice (some ⟨w1.heap.size, 0, none⟩) 0 0) 0 []) := kown_empty (Blk.new w1 22 #[]) (Nat.le_refl _)
  have hbwA := hb1.trans (hbA.mono hb1.size)
  have HD1 : Hid (IsU32s (w1.alloc (.cells #[] 22)) a N A) := HD.out _ hbwA
  have HBA : Hid (Below w.heap.size w w1 ∧ Below w1.heap.size w1 (w1.alloc (.cells #[] 22))) := ⟨hb1, hbA⟩
  clear HA hb1 hbA hbwA
  go_wp2_with (first
    | (at_builtin; refine wpList_append_u32s rfl _ _ 31 rfl w1.heap.size 22 i0 (.int .u32 0) Tryd.underlying31 hi hz0 hz1 hz2 rfl _ rfl HOWN.out a N cc A rfl HD1.out hNn hN4 (by simp) ?_)
    | go_in)
  intro v2 w2 hown2 hb2
  have hbw2 : Below w.heap.size w w2 := HBA.out.1.trans ((HBA.out.2.mono HBA.out.1.size).trans (hb2.mono HBA.out.1.size))
  have hown2' := kown_mono hown2 HBA.out.1.size
  obtain ⟨a2, c2, rfl, hI2⟩ := own_u32s hown2 HLT.out
  have HN2 := HNEW.out w2 a2 c2 hI2
  have HB2 : Hid (Below w.heap.size w w2 ∧ w2.ownsRow w.heap.size 22 1 (.slice a2 N c2) N ((List.range N).map fun j => .int .u32 (A j : Int)) ∧ IsU32s w2 a2 N A) := ⟨hbw2, hown2', hI2⟩
  clear hb2 hbw2 hown2 hown2' hI2 HOWN HD1 HBA HNEW
  go_wp2_with fail
  refine HN2.mono ?_
  rintro e w3 ⟨⟨r, rfl, hR3⟩, hb3⟩
  have hbw3 := HB2.out.1.trans (hb3.mono HB2.out.1.size)
  have HN3 := HREF.out w3 a cc (HD.out w3 hbw3)
  have HR3 : Hid (RoomIs w3 (fun k => w2.heap.size ≤ k) r n (memA A N) (memA A N) ∧ Below w2.heap.size w2 w3) := ⟨hR3, hb3⟩
  clear HN2 hb3 hbw3 HREF hR3
  go_wp2_with fail
  refine HN3.mono ?_
  rintro e w4 ⟨⟨k, c, rfl, hS4⟩, hb4⟩
  have hRS := (RS.made HR3.out.2 HR3.out.1 hb4 hS4).tied fun p hp => tie_new A N hp
  have hb24 := HR3.out.2.trans (hb4.mono HR3.out.2.size)
  have hbw4 := HB2.out.1.trans (hb24.mono HB2.out.1.size)
  have HSM : Hid (Calls Tryd.prog 31 #[.slice a2 N c2, .slice a N cc] w4 fun e w' => e = .returned (.bool true) ∧ Below w4.heap.size w4 w') := by
    have := sameU_any N c2 cc hN a2 a _ _ w4 (HB2.out.2.2.below hb24) (HD.out w4 hbw4)
    rw [decide_eq_true (fun i _ => rfl)] at this
    exact this
  have HE4 : Hid (∀ w5, Below w4.heap.size w4 w5 → ∃ (P : Nat → Prop) (F G : Nat → Bool), RS w w5 P r n F G k c (tieS F G n) ∧ w5.ownsRow w.heap.size 22 1 (.slice a2 N c2) N ((List.range N).map fun j => .int .u32 (A j : Int)) ∧ (∀ g o, a2 = some ⟨g, o, none⟩ → 0 < N → ¬ P g ∧ g ≠ k ∧ w.heap.size ≤ g)) := fun w5 hb5 => by
    refine ⟨_, _, _, (hRS.gap hb5).mono HB2.out.1, kown_below HB2.out.2.1 (hb24.trans (hb5.mono hb24.size)), fun g o e hN0 => ?_⟩
    obtain ⟨g', cap', hv, hg1, hg2⟩ := kown_form HB2.out.2.1 (by omega)
    injection hv with hv1 hv2 hv3
    rw [e] at hv1
    injection hv1 with hv1
    injection hv1 with hg hoo
    subst hg
    refine ⟨(hRS.gap hb5).low g hg2, ?_, hg1⟩
    have := hS4.lt.1
    have := HR3.out.2.size
    omega
  clear HN3 hb4 hbw4 hb24 hRS hS4 HB2 HR3 HD HLT
  go_wp2_with fail
  refine HSM.out.mono ?_
  rintro e w5 ⟨rfl, hb5⟩
  obtain ⟨P, F, G, hRS, hown5, hap⟩ := HE4.out w5 hb5
  have HE5 : Hid (RS w w5 P r n F G k c (tieS F G n) ∧ w5.ownsRow w.heap.size 22 1 (.slice a2 N c2) N ((List.range N).map fun j => .int .u32 (A j : Int))) := ⟨hRS, hown5⟩
  have HAP : Hid (∀ g o, a2 = some ⟨g, o, none⟩ → 0 < N → ¬ P g ∧ g ≠ k ∧ w.heap.size ≤ g) := hap
  clear HSM hb5 HE4 hRS hown5 hap
  go_wp2_with fail
  go_loopw [67] (fun t wr => Hid (∃ (j : Nat) (ys : List Value), j ≤ N ∧ t = .int .i64 (j : Int) ∧ wr.ownsRow w.heap.size 22 1 (.slice a2 N c2) N ys ∧ RS w wr P r n F G k c (tieS F G n))) (fun t _ => N - (intOf t).toNat)
  case atStart => exact ⟨0, _, by omega, rfl, HE5.out.2, HE5.out.1⟩
  case round =>
    clear HE5
    obtain ⟨j, ys, hj, rfl, hown, hRS⟩ := Hid.out hrel
    clear hrel
    by_cases hlt : j < N
    · obtain ⟨gv, capv, hv, hg1, hg2⟩ := kown_form hown (by omega)
      injection hv with hv1 hv2 hv3
      subst hv1
      subst hv3
      have hyl : ys.length = N * 1 := hown.1
      have c3 : wr.cell? ⟨gv, j, none⟩ = some (ys[j]'(by omega)) := by rw [hown.cellAt j (by omega), List.getElem?_eq_getElem (by omega)]
      have f2 := hown.frozenAt j
      have j0 : (0 : Int) ≤ (j : Int) := by omega
      have j1 : (j : Int) < (N : Int) := by omega
      obtain ⟨q1, q2, q3⟩ := HAP.out gv 0 rfl (by omega)
      have HE : Hid (_ ∧ RS w (wr.setCell ⟨gv, j, none⟩ (.int .u32 0)) P r n F G k c (tieS F G n) ∧ j < N) := ⟨(hown.stored j (.int .u32 0)).1, hRS.poke (Only.set wr gv j _) q1 q2 q3, hlt⟩
      generalize (ys[j]'(by omega)) = yv at c3
      clear hown hg1 hg2 hyl hRS q1 q2 q3 HAP
      go_wp2_with fail
      go_roundw
      case rel => exact ⟨j + 1, _, HE.out.2.2, by first | rfl | go_num | simp, HE.out.1, HE.out.2.1⟩
      case measure => simp [intOf]; have := HE.out.2.2; omega
    · have j1 : ¬ ((j : Int) < (N : Int)) := by omega
      have HE : Hid (RS w wr P r n F G k c (tieS F G n)) := hRS
      clear hown hRS HAP
      go_wp2_with fail
      go_loopw [11, 76] (fun l t wr => Hid (∃ (j k c : Nat) (P : Nat → Prop) (F G : Nat → Bool), j ≤ M ∧ t = .int .i64 (j : Int) ∧ l = .slice (some ⟨k, 0, none⟩) n c ∧ RS w wr P r n F G k c (tieS F G n))) (fun _ t _ => M - (intOf t).toNat)
      case atStart => exact ⟨0, k, c, P, F, G, by omega, rfl, rfl, HE.out⟩
      case round =>
        clear HE
        obtain ⟨j, kk, ck, Q, X, Y, hj, rfl, rfl, hRS⟩ := Hid.out hrel
        clear hrel
        by_cases hlt : j < M
        · obtain ⟨hz, hk, b1, o1, rfl, l1, r1, r2⟩ := (HS.out wr hRS.big).1 j hlt
          have j0 : (0 : Int) ≤ (j : Int) := by omega
          have j1 : (j : Int) < (M : Int) := by omega
          have HE : Hid (RS w wr Q r n X Y kk ck (tieS X Y n)) := hRS
          have HJ : Hid (j < M) := hlt
          have HZ : Hid (Z j < 4294967296) := hz
          generalize Z j = z at *
          generalize K j = q at *
          have HRA : Hid (∃ Q1, RA w (wr.alloc (.cells #[.int .i64 q, .int .u32 (z : Int)] 65)) Q1 r n X Y kk ck (tieS X Y n) wr.heap.size z) := ⟨_, hRS.deed q z⟩
          clear hRS HE
          go_wp2_with fail
          · obtain ⟨Q1, hRA⟩ := HRA.out
            clear HRA
            generalize wr.alloc (.cells #[.int .i64 q, .int .u32 (z : Int)] 65) = w6 at *
            generalize wr.heap.size = av at *
            have HT := rtake_any (HS.out w6 hRA.s.big).2.1 (HS.out w6 hRA.s.big).2.2 hRA.s.room
            refine HT.mono ?_
            rintro e w7 (⟨hfr, rfl, hR7, ht7⟩ | ⟨p, hfr, p1, pn, hF, hG, rfl, hR7, ht7⟩)
            · have hRA7 := hRA.turn hR7 ht7
              have HRT := rrtake_any (by omega) hRA7.s.sa
              clear hRA hR7 ht7 HT
              go_wp2_with fail
              refine HRT.mono ?_
              rintro e w8 ⟨⟨hno, rfl⟩ | ⟨p, k', c', hp, hp1, hpl, rfl, _⟩, hb8⟩
              · have hRA8 := hRA7.gap hb8
                clear hRA7 hb8 HRT hno hfr
                have c8 := hRA8.cell
                have HF := four_any HTW.out.1 HTW.out.2 hRA8 HZ.out
                clear hRA8
                go_wp2_with fail
                refine HF.mono ?_
                rintro e w9 ⟨rfl, hRS9⟩
                have HE9 : Hid (RS w w9 _ r n _ _ kk ck _) := hRS9
                clear hRS9 HF c8
                go_wp2_with fail
                go_roundw
                case rel => exact ⟨j + 1, kk, ck, _, _, _, HJ.out, by first | rfl | go_num | simp, rfl, HE9.out⟩
                case measure => simp [intOf]; have := HJ.out; omega
              · exfalso
                have := tie_least hp hp1 hpl
                omega
            · have hRA7 := hRA.turn hR7 ht7
              have HRT := rrtake_any (by omega) hRA7.s.sa
              clear hRA hR7 ht7 HT
              go_wp2_with fail
              refine HRT.mono ?_
              rintro e w8 ⟨⟨hno, rfl⟩ | ⟨p', k', c', hp, hp1, hpl, rfl, hs8⟩, hb8⟩
              · exfalso
                have := tie_none hno
                omega
              · have hpp : p' = p := by
                  have := tie_least hp hp1 hpl
                  omega
                subst hpp
                have hRA8 := (hRA7.next hb8 hs8).tied fun x hx => tie_take p1 hF hx
                clear hRA7 hb8 HRT hp1 hpl hfr hF hG hs8
                have c8 := hRA8.cell
                have HF := four_any HTW.out.1 HTW.out.2 hRA8 HZ.out
                clear hRA8
                go_wp2_with fail
                refine HF.mono ?_
                rintro e w9 ⟨rfl, hRS9⟩
                have HE9 : Hid (RS w w9 _ r n _ _ k' c' _) := hRS9
                clear hRS9 HF c8
                go_wp2_with fail
                go_roundw
                case rel => exact ⟨j + 1, k', c', _, _, _, HJ.out, by first | rfl | go_num | simp, rfl, HE9.out⟩
                case measure => simp [intOf]; have := HJ.out; omega
          · obtain ⟨Q1, hRA⟩ := HRA.out
            clear HRA
            generalize wr.alloc (.cells #[.int .i64 q, .int .u32 (z : Int)] 65) = w6 at *
            generalize wr.heap.size = av at *
            have HT := rtake_any (HS.out w6 hRA.s.big).2.1 (HS.out w6 hRA.s.big).2.2 hRA.s.room
            refine HT.mono ?_
            rintro e w7 (⟨hfr, rfl, hR7, ht7⟩ | ⟨p, hfr, p1, pn, hF, hG, rfl, hR7, ht7⟩)
            · have hRA7 := hRA.turn hR7 ht7
              have HRT := rrtake_any (by omega) hRA7.s.sa
              clear hRA hR7 ht7 HT
              go_wp2_with fail
              refine HRT.mono ?_
              rintro e w8 ⟨⟨hno, rfl⟩ | ⟨p, k', c', hp, hp1, hpl, rfl, _⟩, hb8⟩
              · have hRA8 := hRA7.gap hb8
                clear hRA7 hb8 HRT hno hfr
                have c8 := hRA8.cell
                have HF := four_any HTW.out.1 HTW.out.2 hRA8 HZ.out
                clear hRA8
                go_wp2_with fail
                refine HF.mono ?_
                rintro e w9 ⟨rfl, hRS9⟩
                have HE9 : Hid (RS w w9 _ r n _ _ kk ck _) := hRS9
                clear hRS9 HF c8
                go_wp2_with fail
                go_roundw
                case rel => exact ⟨j + 1, kk, ck, _, _, _, HJ.out, by first | rfl | go_num | simp, rfl, HE9.out⟩
                case measure => simp [intOf]; have := HJ.out; omega
              · exfalso
                have := tie_least hp hp1 hpl
                omega
            · have hRA7 := hRA.turn hR7 ht7
              have HRT := rrtake_any (by omega) hRA7.s.sa
              clear hRA hR7 ht7 HT
              go_wp2_with fail
              refine HRT.mono ?_
              rintro e w8 ⟨⟨hno, rfl⟩ | ⟨p', k', c', hp, hp1, hpl, rfl, hs8⟩, hb8⟩
              · exfalso
                have := tie_none hno
                omega
              · have hpp : p' = p := by
                  have := tie_least hp hp1 hpl
                  omega
                subst hpp
                have hRA8 := (hRA7.next hb8 hs8).tied fun x hx => tie_take p1 hF hx
                clear hRA7 hb8 HRT hp1 hpl hfr hF hG hs8
                have c8 := hRA8.cell
                have HF := four_any HTW.out.1 HTW.out.2 hRA8 HZ.out
                clear hRA8
                go_wp2_with fail
                refine HF.mono ?_
                rintro e w9 ⟨rfl, hRS9⟩
                have HE9 : Hid (RS w w9 _ r n _ _ k' c' _) := hRS9
                clear hRS9 HF c8
                go_wp2_with fail
                go_roundw
                case rel => exact ⟨j + 1, k', c', _, _, _, HJ.out, by first | rfl | go_num | simp, rfl, HE9.out⟩
                case measure => simp [intOf]; have := HJ.out; omega
          · obtain ⟨Q1, hRA⟩ := HRA.out
            clear HRA
            generalize wr.alloc (.cells #[.int .i64 q, .int .u32 (z : Int)] 65) = w6 at *
            generalize wr.heap.size = av at *
            obtain ⟨_, _, hX0, hY0, hXn, hYn⟩ := hRA.s.room.facts
            by_cases hgood : z < n ∧ (tieS X Y n z = 2 ∨ tieS X Y n z = 3)
            · have HLG := rrlet_ok (by omega) hRA.s.sa z HZ.out hgood.1 hgood.2
              have hYz : Y z = true := (tie_let hgood.1 hY0).1 hgood.2
              have z1 : 1 ≤ z := by
                by_cases e : z = 0
                · rw [e, hY0] at hYz; cases hYz
                · omega
              refine HLG.mono ?_
              rintro e w7 ⟨k', c', rfl, hs7, hb7⟩
              have hRA7 := hRA.next hb7 hs7
              have c7 := hRA7.cell
              have HLT := rlet_any hRA7.s.room z HZ.out
              clear hRA hb7 hs7 HLG hX0 hY0 hXn hYn
              go_wp2_with fail
              refine HLT.mono ?_
              rintro e w8 (⟨hno, _, _⟩ | ⟨_, _, rfl, hR8, ht8⟩)
              · rw [hYz] at hno; cases hno
              · have hRA8 := (hRA7.turn hR8 ht8).tied fun x hx => tie_gone z1 hYz hgood.1 hx
                clear hRA7 hR8 ht8 HLT c7 hgood hYz z1
                have c8 := hRA8.cell
                have HF := four_any HTW.out.1 HTW.out.2 hRA8 HZ.out
                clear hRA8
                go_wp2_with fail
                refine HF.mono ?_
                rintro e w9 ⟨rfl, hRS9⟩
                have HE9 : Hid (RS w w9 _ r n _ _ k' c' _) := hRS9
                clear hRS9 HF c8
                go_wp2_with fail
                go_roundw
                case rel => exact ⟨j + 1, k', c', _, _, _, HJ.out, by first | rfl | go_num | simp, rfl, HE9.out⟩
                case measure => simp [intOf]; have := HJ.out; omega
            · have HLG := rrlet_bad hRA.s.sa z HZ.out hgood
              have hYz : Y z = false := by
                cases hy : Y z with
                | false => rfl
                | true =>
                  have hzn : z < n := by
                    by_cases e : z < n
                    · exact e
                    · rw [hYn z (by omega)] at hy; cases hy
                  exact absurd ⟨hzn, (tie_let hzn hY0).2 hy⟩ hgood
              refine HLG.mono ?_
              rintro e w7 ⟨rfl, hw7⟩
              subst hw7
              have c7 := hRA.cell
              have HLT := rlet_any hRA.s.room z HZ.out
              clear HLG hX0 hY0 hXn hYn hgood
              go_wp2_with fail
              refine HLT.mono ?_
              rintro e w8 (⟨_, rfl, m, rfl⟩ | ⟨hyes, _⟩)
              · have hRA8 := hRA.gap (below_dN (Below.refl _ _) m)
                generalize World.drewN _ m = w8 at *
                clear hRA HLT c7 hYz
                have c8 := hRA8.cell
                have HF := four_any HTW.out.1 HTW.out.2 hRA8 HZ.out
                clear hRA8
                go_wp2_with fail
                refine HF.mono ?_
                rintro e w9 ⟨rfl, hRS9⟩
                have HE9 : Hid (RS w w9 _ r n _ _ kk ck _) := hRS9
                clear hRS9 HF c8
                go_wp2_with fail
                go_roundw
                case rel => exact ⟨j + 1, kk, ck, _, _, _, HJ.out, by first | rfl | go_num | simp, rfl, HE9.out⟩
                case measure => simp [intOf]; have := HJ.out; omega
              · rw [hYz] at hyes; cases hyes
          · obtain ⟨Q1, hRA⟩ := HRA.out
            clear HRA
            generalize wr.alloc (.cells #[.int .i64 q, .int .u32 (z : Int)] 65) = w6 at *
            generalize wr.heap.size = av at *
            obtain ⟨_, _, hX0, hY0, hXn, hYn⟩ := hRA.s.room.facts
            by_cases hgood : z < n ∧ (tieS X Y n z = 2 ∨ tieS X Y n z = 3)
            · have HLG := rrlet_ok (by omega) hRA.s.sa z HZ.out hgood.1 hgood.2
              have hYz : Y z = true := (tie_let hgood.1 hY0).1 hgood.2
              have z1 : 1 ≤ z := by
                by_cases e : z = 0
                · rw [e, hY0] at hYz; cases hYz
                · omega
              refine HLG.mono ?_
              rintro e w7 ⟨k', c', rfl, hs7, hb7⟩
              have hRA7 := hRA.next hb7 hs7
              have c7 := hRA7.cell
              have HLT := rlet_any hRA7.s.room z HZ.out
              clear hRA hb7 hs7 HLG hX0 hY0 hXn hYn
              go_wp2_with fail
              refine HLT.mono ?_
              rintro e w8 (⟨hno, _, _⟩ | ⟨_, _, rfl, hR8, ht8⟩)
              · rw [hYz] at hno; cases hno
              · have hRA8 := (hRA7.turn hR8 ht8).tied fun x hx => tie_gone z1 hYz hgood.1 hx
                clear hRA7 hR8 ht8 HLT c7 hgood hYz z1
                have c8 := hRA8.cell
                have HF := four_any HTW.out.1 HTW.out.2 hRA8 HZ.out
                clear hRA8
                go_wp2_with fail
                refine HF.mono ?_
                rintro e w9 ⟨rfl, hRS9⟩
                have HE9 : Hid (RS w w9 _ r n _ _ k' c' _) := hRS9
                clear hRS9 HF c8
                go_wp2_with fail
                go_roundw
                case rel => exact ⟨j + 1, k', c', _, _, _, HJ.out, by first | rfl | go_num | simp, rfl, HE9.out⟩
                case measure => simp [intOf]; have := HJ.out; omega
            · have HLG := rrlet_bad hRA.s.sa z HZ.out hgood
              have hYz : Y z = false := by
                cases hy : Y z with
                | false => rfl
                | true =>
                  have hzn : z < n := by
                    by_cases e : z < n
                    · exact e
                    · rw [hYn z (by omega)] at hy; cases hy
                  exact absurd ⟨hzn, (tie_let hzn hY0).2 hy⟩ hgood
              refine HLG.mono ?_
              rintro e w7 ⟨rfl, hw7⟩
              subst hw7
              have c7 := hRA.cell
              have HLT := rlet_any hRA.s.room z HZ.out
              clear HLG hX0 hY0 hXn hYn hgood
              go_wp2_with fail
              refine HLT.mono ?_
              rintro e w8 (⟨_, rfl, m, rfl⟩ | ⟨hyes, _⟩)
              · have hRA8 := hRA.gap (below_dN (Below.refl _ _) m)
                generalize World.drewN _ m = w8 at *
                clear hRA HLT c7 hYz
                have c8 := hRA8.cell
                have HF := four_any HTW.out.1 HTW.out.2 hRA8 HZ.out
                clear hRA8
                go_wp2_with fail
                refine HF.mono ?_
                rintro e w9 ⟨rfl, hRS9⟩
                have HE9 : Hid (RS w w9 _ r n _ _ kk ck _) := hRS9
                clear hRS9 HF c8
                go_wp2_with fail
                go_roundw
                case rel => exact ⟨j + 1, kk, ck, _, _, _, HJ.out, by first | rfl | go_num | simp, rfl, HE9.out⟩
                case measure => simp [intOf]; have := HJ.out; omega
              · rw [hYz] at hyes; cases hyes
          · obtain ⟨Q1, hRA⟩ := HRA.out
            clear HRA
            generalize wr.alloc (.cells #[.int .i64 q, .int .u32 (z : Int)] 65) = w6 at *
            generalize wr.heap.size = av at *
            have HT := rswing_any hRA.s.room hRA.s.up
            refine HT.mono ?_
            rintro e w7 ⟨⟨v, rfl⟩, hR7, ht7⟩
            have hRA7 := hRA.turn hR7 ht7
            have HRT := rrswing_any (by omega) hRA7.s.sa
            clear hRA hR7 ht7 HT
            go_wp2_with fail
            refine HRT.mono ?_
            rintro e w8 ⟨k', c', rfl, hs8, hb8⟩
            have hRA8 := (hRA7.next hb8 hs8).tied fun x hx => tie_swing hx
            clear hRA7 hb8 hs8 HRT
            have c8 := hRA8.cell
            have HF := four_any HTW.out.1 HTW.out.2 hRA8 HZ.out
            clear hRA8
            go_wp2_with fail
            refine HF.mono ?_
            rintro e w9 ⟨rfl, hRS9⟩
            have HE9 : Hid (RS w w9 _ r n _ _ k' c' _) := hRS9
            clear hRS9 HF c8
            go_wp2_with fail
            go_roundw
            case rel => exact ⟨j + 1, k', c', _, _, _, HJ.out, by first | rfl | go_num | simp, rfl, HE9.out⟩
            case measure => simp [intOf]; have := HJ.out; omega
          · obtain ⟨Q1, hRA⟩ := HRA.out
            clear HRA
            generalize wr.alloc (.cells #[.int .i64 q, .int .u32 (z : Int)] 65) = w6 at *
            generalize wr.heap.size = av at *
            have HT := rback_any hRA.s.room hRA.s.up
            refine HT.mono ?_
            rintro e w7 ⟨⟨v, rfl⟩, hR7, ht7⟩
            have hRA7 := hRA.turn hR7 ht7
            have HRT := rrback_any (by omega) hRA7.s.sa
            clear hRA hR7 ht7 HT
            go_wp2_with fail
            refine HRT.mono ?_
            rintro e w8 ⟨k', c', rfl, hs8, hb8⟩
            have hRA8 := (hRA7.next hb8 hs8).tied fun x hx => tie_back hx
            clear hRA7 hb8 hs8 HRT
            have c8 := hRA8.cell
            have HF := four_any HTW.out.1 HTW.out.2 hRA8 HZ.out
            clear hRA8
            go_wp2_with fail
            refine HF.mono ?_
            rintro e w9 ⟨rfl, hRS9⟩
            have HE9 : Hid (RS w w9 _ r n _ _ k' c' _) := hRS9
            clear hRS9 HF c8
            go_wp2_with fail
            go_roundw
            case rel => exact ⟨j + 1, k', c', _, _, _, HJ.out, by first | rfl | go_num | simp, rfl, HE9.out⟩
            case measure => simp [intOf]; have := HJ.out; omega
          · obtain ⟨Q1, hRA⟩ := HRA.out
            clear HRA
            generalize wr.alloc (.cells #[.int .i64 q, .int .u32 (z : Int)] 65) = w6 at *
            generalize wr.heap.size = av at *
            have HC := rcopy_any hRA.s.room
            refine HC.mono ?_
            rintro e w7 ⟨rc, rfl, hR7, hb7⟩
            have hRA7 := hRA.gap hb7
            have c7 := hRA7.cell
            have HK := ask_any HTW.out.1 HTW.out.2 hR7 hRA7 HZ.out
            clear HC
            go_wp2_with fail
            refine HK.mono ?_
            rintro e w8 ⟨rfl, hb8⟩
            have hRA8 := hRA7.gap hb8
            have hb68 := hb7.trans (hb8.mono hb7.size)
            have HT := rtake_any (HS.out w8 hRA8.s.big).2.1 (HS.out w8 hRA8.s.big).2.2 (hR7.below hb8)
            clear hRA7 hb7 hR7 hb8 HK c7 hRA8
            go_wp2_with fail
            refine HT.mono ?_
            intro e w9 h9
            have HX9 : ∃ v Y9, e = .returned v ∧ RoomIs w9 (fun k => w6.heap.size ≤ k) rc n X Y9 ∧ Touch (fun k => w6.heap.size ≤ k) w8 w9 := by
              rcases h9 with ⟨_, rfl, hR9, ht9⟩ | ⟨p, _, _, _, _, _, rfl, hR9, ht9⟩
              · exact ⟨_, _, rfl, hR9, ht9⟩
              · exact ⟨_, _, rfl, hR9, ht9⟩
            clear h9
            obtain ⟨v9, Y9, rfl, hR9, ht9⟩ := HX9
            have hb69 := hb68.trans (ht9.below hb68.size fun k hk => by omega)
            have HW9 := rswing_any hR9 fun k hk => Nat.le_trans hb69.size hk
            clear hR9 ht9 HT hb68
            go_wp2_with fail
            refine HW9.mono ?_
            rintro e w10 ⟨⟨v10, rfl⟩, _, ht10⟩
            have hRA10 := hRA.gap (hb69.trans (ht10.below hb69.size fun k hk => by omega))
            clear hRA hb69 HW9 ht10
            have c8 := hRA10.cell
            have HF := four_any HTW.out.1 HTW.out.2 hRA10 HZ.out
            clear hRA10
            go_wp2_with fail
            refine HF.mono ?_
            rintro e w9 ⟨rfl, hRS9⟩
            have HE9 : Hid (RS w w9 _ r n _ _ kk ck _) := hRS9
            clear hRS9 HF c8
            go_wp2_with fail
            go_roundw
            case rel => exact ⟨j + 1, kk, ck, _, _, _, HJ.out, by first | rfl | go_num | simp, rfl, HE9.out⟩
            case measure => simp [intOf]; have := HJ.out; omega
          · obtain ⟨Q1, hRA⟩ := HRA.out
            clear HRA
            generalize wr.alloc (.cells #[.int .i64 q, .int .u32 (z : Int)] 65) = w6 at *
            generalize wr.heap.size = av at *
            obtain ⟨_, _, hX0, hY0, hXn, hYn⟩ := hRA.s.room.facts
            have HLV := rleaves_any hRA.s.room
            refine HLV.mono ?_
            rintro e w7 ⟨v7, W7, rfl, hWl, hWb, ho7, hb7⟩
            obtain ⟨a7, c7, rfl, hI7⟩ := own_blks ho7
            have HLD : Hid (Calls Tryd.prog 24 #[.int .i64 (n : Int), .slice a7 (lvN n) c7] w7 fun e w' => (∃ rc, e = .returned (.tuple #[.pointer (some ⟨rc, 0, none⟩), .int .i64 0]) ∧ RoomIs w' (fun k => w7.heap.size ≤ k) rc n Y Y) ∧ Below w7.heap.size w7 w') := by
              refine (rload_ok h1 h2 a7 c7 _ (fun i j => lvs_lt W7 (256 * i + j)) w7 hI7).mono ?_
              rintro e w' ⟨W, hW, hWp, hor, hb⟩
              have hbit : ∀ p, bitF W p = bitF W7 p := fun p => by
                rw [hWp, lvs_bit, hWb]
                by_cases hp : p < n
                · simp [hp]
                · rw [hYn p (by omega)]; simp
              rcases hor with ⟨_, _, rc, rfl, hR⟩ | ⟨hno, _⟩
              · have hWY : bitF W = Y := funext fun p => (hbit p).trans (hWb p)
                rw [hWY] at hR
                exact ⟨⟨rc, rfl, hR⟩, hb⟩
              · exact absurd ⟨lvs_good hWl hW hbit, by rw [hbit, hWb]; exact hY0⟩ hno
            clear hX0 hY0 hXn hYn hWl hWb ho7 hI7 HLV
            go_wp2_with fail
            refine HLD.out.mono ?_
            rintro e w8 ⟨⟨rc, rfl, hR8⟩, hb8⟩
            have hRA8 := hRA.gap (hb7.trans (hb8.mono hb7.size))
            have HL8 := rlist_any (HS.out w8 hRA8.s.big).2.1 (HS.out w8 hRA8.s.big).2.2 hR8 2
            clear hRA hb7 hb8 HLD
            go_wp2_with fail
            refine HL8.mono ?_
            rintro e w9 ⟨v9, rfl, ho9, _, hb9⟩
            have hRA9 := hRA8.gap hb9
            have HSW := rrswing_any (by omega) hRA9.s.sa
            obtain ⟨a9, c9, rfl⟩ := kown_slice ho9
            clear hRA9 HL8
            go_wp2_with fail
            refine HSW.mono ?_
            rintro e w10 ⟨k', c', rfl, hs10, hb10⟩
            have HRL := rrlist_any hs10 2
            rw [show onesL (fun p => decide (turnS 3 2 4 1 (tieS X Y n p) = 2)) n = onesL (inF Y Y n 2) n from ones_eq fun p hp => by rw [tie_swing hp]; exact tie_list 2 hp] at HRL
            clear hs10 HSW
            go_wp2_with fail
            refine HRL.mono ?_
            rintro e w11 ⟨v11, rfl, ho11, hb11⟩
            have hb911 := hb10.trans (hb11.mono hb10.size)
            have hb811 := hb9.trans (hb911.mono hb9.size)
            obtain ⟨a11, c11, rfl, hI11⟩ := own_u32 ho11
            obtain ⟨a10, c10, e10, hI10⟩ := own_u32 (kown_below ho9 hb911)
            injection e10 with e101 e102 e103
            subst e101
            subst e103
            have hll : (onesL (inF Y Y n 2) n).length ≤ 8192 := by
              unfold onesL
              exact Nat.le_trans (List.length_filter_le _ _) (by rw [List.length_range]; exact h2)
            have HSM : Hid (Calls Tryd.prog 31 #[.slice a9 (onesL (inF Y Y n 2) n).length c9, .slice a11 (onesL (inF Y Y n 2) n).length c11] w11 fun e w' => e = .returned (.bool true) ∧ Below w11.heap.size w11 w') := by
              have := sameU_any _ c9 c11 (by omega) a9 a11 _ _ w11 hI10 hI11
              rw [decide_eq_true (fun i _ => rfl)] at this
              exact this
            clear ho9 ho11 hI10 hI11 hb9 hb10 hb11 hb911 HRL
            generalize (onesL (inF Y Y n 2) n).length = ll at *
            go_wp2_with fail
            refine HSM.out.mono ?_
            rintro e w12 ⟨rfl, hb12⟩
            have hb812 := hb811.trans (hb12.mono hb811.size)
            have HC3 := rcountR_any (hR8.below hb812) 3
            rw [cntF_none _ n fun p _ => inF_same Y n 3 (.inl rfl) p] at HC3
            clear HSM hb811 hb12 hll
            go_wp2_with fail
            refine HC3.mono ?_
            rintro e w13 ⟨rfl, hb13⟩
            have hb813 := hb812.trans (hb13.mono hb812.size)
            have HC4 := rcountR_any (hR8.below hb813) 4
            rw [cntF_none _ n fun p _ => inF_same Y n 4 (.inr rfl) p] at HC4
            clear HC3 hb812 hb13
            go_wp2_with fail
            refine HC4.mono ?_
            rintro e w14 ⟨rfl, hb14⟩
            have hRA14 := hRA8.gap (hb813.trans (hb14.mono hb813.size))
            clear HC4 hRA8 hb813 hb14 hR8
            have c8 := hRA14.cell
            have HF := four_any HTW.out.1 HTW.out.2 hRA14 HZ.out
            clear hRA14
            go_wp2_with fail
            refine HF.mono ?_
            rintro e w9 ⟨rfl, hRS9⟩
            have HE9 : Hid (RS w w9 _ r n _ _ kk ck _) := hRS9
            clear hRS9 HF c8
            go_wp2_with fail
            go_roundw
            case rel => exact ⟨j + 1, kk, ck, _, _, _, HJ.out, by first | rfl | go_num | simp, rfl, HE9.out⟩
            case measure => simp [intOf]; have := HJ.out; omega
        · have j1 : ¬ ((j : Int) < (M : Int)) := by omega
          have HST := stands_any (HS.out wr hRS.big).2.1 (HS.out wr hRS.big).2.2 hRS.room hRS.sa (fun p hp => rfl) none 0 0 (by omega) (fun _ => 0) (fun i hi => absurd hi (by omega))
          have HE : Hid (RS w wr Q r n X Y kk ck (tieS X Y n)) := hRS
          clear hRS HS
          go_wp2_with fail
          refine HST.mono ?_
          rintro e w6 ⟨rfl, hb6⟩
          have hbw6 := HE.out.big.trans (hb6.mono HE.out.big.size)
          clear HE HST hb6
          go_wp2_with fail
          go_ret
          exact ⟨rfl, hbw6⟩
end Go.Proofs.YtkpcgijdokhjkaaDoor

namespace Go.Proofs.YtkpcgijdokhjkaaDoor
open Go Go.RowKit Go.ChangeShapes Go.WideShapes Go.ChangeAt Go.Joins
set_option linter.unusedVariables false
theorem open_u32y {H : Type} {enc : TypeId × Value → H} {W : World} {a0 : Option Addr} {len cap fuel : Nat} {x : DataW H × List MemPlace}
    (hf : DataW.trod enc Tryd.prog W 0 (fun _ => true) true fuel 31 [.slice a0 len cap] = some x) (hsz : ∀ n ∈ x.1.weights Tryd.prog 31, n ≤ reachBytes) :
    ∃ (A : Nat → Nat), len ≤ 9223372036854775807 ∧ (len * 4 ≤ 140737488351232 ∧ (a0 = none → len = 0 ∧ cap = 0) ∧ IsU32s W a0 len A) := by
  obtain ⟨A, q1, q2, q3, q4⟩ := open_u32x hf hsz
  exact ⟨A, q1, q2, q3, q4⟩
theorem open_actsy {H : Type} {enc : TypeId × Value → H} {W : World} {a0 : Option Addr} {len cap fuel : Nat} {x : DataW H × List MemPlace}
    (hf : DataW.trod enc Tryd.prog W 0 (fun _ => true) true fuel 57 [.slice a0 len cap] = some x) (hsz : ∀ n ∈ x.1.weights Tryd.prog 57, n ≤ reachBytes) :
    ∃ (KZ : (Nat → Int) × (Nat → Nat)), len ≤ 9223372036854775807 ∧ IsActs W a0 len KZ.1 KZ.2 := by
  obtain ⟨K, Z, q1, q2⟩ := open_acts hf hsz
  exact ⟨(K, Z), q1, q2⟩
theorem roomPlaysLaw {w : World} (p : Int) (a : Option Addr) (N cc : Nat) (hN : N ≤ 9223372036854775807) (A : Nat → Nat) (hD : N * 4 ≤ 140737488351232 ∧ (a = none → N = 0 ∧ cc = 0) ∧ IsU32s w a N A) (sa : Option Addr) (M cs : Nat) (hM : M ≤ 9223372036854775807) (K : Nat → Int) (Z : Nat → Nat) (h0 : 0 < w.heap.size) (hT : TabAt w) (hS : IsActs w sa M K Z) : Calls Tryd.prog 6 #[.int .i64 p, .slice a N cc, .slice sa M cs] w fun e w' => e = .returned (.bool true) ∧ Below w.heap.size w w' := by
  obtain ⟨hN4, hNn, hA⟩ := hD
  by_cases hp : p < 16 ∨ 8192 < p
  · refine plays_bad p a N cc hN hN4 hNn A _ w h0 hT hA 0 120 (by decide) (fun V a' c' _ => ?_) (fun V a' c' _ => ?_)
    · refine (rnew_no p hp _ V).mono ?_
      rintro e w' ⟨rfl, rfl⟩
      exact ⟨rfl, Below.refl _ _⟩
    · refine (rref_no p hp _ V).mono ?_
      rintro e w' ⟨rfl, rfl⟩
      exact ⟨rfl, Below.refl _ _⟩
  · obtain ⟨n, rfl⟩ := Int.eq_ofNat_of_zero_le (a := p) (by omega)
    have h1 : 16 ≤ n := by omega
    have h2 : n ≤ 8192 := by omega
    by_cases hg : GoodA A n N
    · exact plays_ok n h1 h2 a N cc hN hN4 hNn A sa M cs hM K Z w h0 hT hA hS hg
    · have hex : ∃ m, m < N ∧ GoodA A n m ∧ ¬ OkAt A n m := by
        have key : ∀ t, t ≤ N → GoodA A n t ∨ ∃ m, m < N ∧ GoodA A n m ∧ ¬ OkAt A n m := by
          intro t
          induction t with
          | zero => exact fun _ => .inl fun i hi => absurd hi (by omega)
          | succ t ih =>
            intro ht
            rcases ih (by omega) with h | h
            · by_cases hok : OkAt A n t
              · exact .inl (h.succ hok)
              · exact .inr ⟨t, by omega, h, hok⟩
            · exact .inr h
        rcases key N (Nat.le_refl _) with h | h
        · exact absurd h hg
        · exact h
      obtain ⟨m, hm, hgm, hbm⟩ := hex
      have uniq : ∀ m', GoodA A n m' → ¬ OkAt A n m' → m' = m := fun m' g' b' => by
        by_cases l1 : m' < m
        · exact absurd (hgm m' l1) b'
        · by_cases l2 : m < m'
          · exact absurd (g' m l2) hbm
          · omega
      refine plays_bad n a N cc hN hN4 hNn A _ w h0 hT hA m 121 (by decide) (fun V a' c' hI => ?_) (fun V a' c' hI => ?_)
      · refine (rnew_any h1 h2 a' N c' hN A V hI).mono ?_
        rintro e w' ⟨⟨r, rfl, hg', _⟩ | ⟨m', _, rfl, g', b'⟩, hb⟩
        · exact absurd hg' hg
        · rw [uniq m' g' b']; exact ⟨rfl, hb⟩
      · refine (rref_any h1 h2 a' N c' hN A V hI).mono ?_
        rintro e w' ⟨⟨k, c, rfl, hg', _⟩ | ⟨m', _, rfl, g', b'⟩, hb⟩
        · exact absurd hg' hg
        · rw [uniq m' g' b']; exact ⟨rfl, hb⟩
end Go.Proofs.YtkpcgijdokhjkaaDoor
