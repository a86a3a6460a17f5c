/- The document's Parse. -/
import Derived.Test.YtojnlmfahgeidaaGreatDoorHPaForm

namespace Go.Proofs.YtojnlmfahgeidaaGreatDoor
open Go Go.RowKit Go.Shelf
set_option linter.unusedVariables false
set_option linter.unusedSimpArgs false
theorem segL_in (l : List UInt8) (i : Nat) : ∀ (j : Nat), j < (segL l i).length → ∃ b, l[i + j]? = some b ∧ b ≠ 47 := by
  unfold segL
  intro j hj
  rw [← List.getElem?_drop]
  generalize l.drop i = m at *
  induction m generalizing j with
  | nil => simp at hj
  | cons b m ih =>
    rw [List.takeWhile_cons] at hj
    by_cases hb : (b != 47) = true
    · rw [if_pos hb] at hj
      cases j with
      | zero => exact ⟨b, rfl, by simpa using hb⟩
      | succ j =>
        rw [List.length_cons] at hj
        obtain ⟨c, h1, h2⟩ := ih j (by omega)
        exact ⟨c, by simpa using h1, h2⟩
    · rw [if_neg hb] at hj
      simp at hj
theorem ba_seg (s : ByteArray) (i : Nat) : s.extract i (i + (segL s.data.toList i).length) = bsL (segL s.data.toList i) := by
  rw [Lib.extract_eq]
  have := segL_take s.data.toList i
  rw [Nat.add_sub_cancel_left, this]
  rfl
theorem endS_of {l : List UInt8} {n : Nat} (hn : l.length = n + 1) : endS l = decide (l[n]? = some 47) := by
  unfold endS
  rw [List.getLast?_eq_getElem?, hn]
  rfl
/-- at the head of the document's loop -/
def RJ (w : World) (b : Nat) (L : List UInt8) (i : Nat) (wr : World) : Prop :=
  ∃ (pre : List (Nat × ByteArray)) (N : List ByteArray) (d d' : Bool) (g cap : Nat), pts L 0 = pre ++ pts L i ∧ (∀ rest, runP [] false (pre ++ rest) = runP N d rest) ∧ N.length ≤ 32 ∧ ((pre = [] ∧ d' = true ∧ (∀ j, j < i → L[j]? = some 47)) ∨ (pre ≠ [] ∧ d' = d)) ∧
    Blk wr b 90 #[.slice none 0 0, .bool false] ∧ Blk wr (b + 1 + 1) 90 #[.slice (some ⟨g, 0, none⟩) N.length cap, .bool d'] ∧ wr.ownsRow (b + 1) 9 1 (.slice (some ⟨g, 0, none⟩) N.length cap) N.length (N.map Value.string) ∧ Below b w wr ∧ b + 3 ≤ wr.heap.size
theorem rj_next {w wr : World} {b i g cap : Nat} {L : List UInt8} {pre : List (Nat × ByteArray)} {N N' : List ByteArray} {d d' : Bool} (hp : pts L 0 = pre ++ pts L i) (hi : i < L.length) (hs : segL L i ≠ []) (hr : ∀ rest, runP [] false (pre ++ rest) = runP N d rest)
    (hE : badE N (bsL (segL L i)) = 0 ∧ nxtN N (bsL (segL L i)) = N' ∧ dirP (bsL (segL L i)) = d') (hN : N'.length ≤ 32) (k0 : Blk wr b 90 #[.slice none 0 0, .bool false]) (k2 : Blk wr (b + 1 + 1) 90 #[.slice (some ⟨g, 0, none⟩) N'.length cap, .bool d']) (ho : wr.ownsRow (b + 1) 9 1 (.slice (some ⟨g, 0, none⟩) N'.length cap) N'.length (N'.map Value.string)) (hB : Below b w wr) (hz : b + 3 ≤ wr.heap.size) : RJ w b L (i + (segL L i).length) wr :=
  ⟨pre ++ [(i, bsL (segL L i))], N', d', d', g, cap, by rw [hp, pts_part hi hs, ← pts_behind L i]; simp, fun rest => by rw [List.append_assoc, List.singleton_append, hr, runP_good hE.1, hE.2.1, hE.2.2], hN, .inr ⟨by simp, rfl⟩, k0, k2, ho, hB, hz⟩
theorem rj_bad {i : Nat} {L : List UInt8} {pre : List (Nat × ByteArray)} {N : List ByteArray} {d : Bool} {z : Int} (hp : pts L 0 = pre ++ pts L i) (hi : i < L.length) (hs : segL L i ≠ []) (hr : ∀ rest, runP [] false (pre ++ rest) = runP N d rest) (hz : badE N (bsL (segL L i)) = z) (hz0 : z ≠ 0) : runP [] false (pts L 0) = ([], false, i, z) := by
  rw [hp, pts_part hi hs, hr, runP_bad (by show badE N (bsL (segL L i)) ≠ 0; rw [hz]; exact hz0)]
  show ([], false, i, badE N (bsL (segL L i))) = _
  rw [hz]
theorem own_cell_ty {V : World} {base n g j : Nat} {t t' : TypeId} {v : Value} {xs : List Value} {cs : Array Value} (h : V.ownsRow base t 1 v n xs) (hk : Blk V g t' cs) (hne : t' ≠ t) (u : Value) : (V.setCell ⟨g, j, none⟩ u).ownsRow base t 1 v n xs := by
  refine ⟨h.1, ?_⟩
  rcases h.2 with hn | ⟨g', cap, cur, rfl, hg, hgg, rest⟩
  · exact .inl hn
  · refine .inr ⟨g', cap, cur, rfl, hg, (Below.heap_setCell _ _ _ g' (show g' ≠ g from fun e => ?_)).trans hgg, rest⟩
    subst e
    have := (show V.heap[g']? = _ from hk).symm.trans hgg
    simp at this
    exact hne this.2
set_option maxRecDepth 100000 in
set_option maxHeartbeats 4000000 in
theorem rparse_main (s : ByteArray) (h1 : s.size ≤ 1024) (h2 : s.data.toList[0]? = some 47) (w : World) : Calls Tryz.prog 38 #[.string s] w fun e w' => PRet s.data.toList w e w' := by
  have HPr : Hid (prs s.data.toList = (if (runP [] false (pts s.data.toList 0)).2.2.2 = 0 then ((runP [] false (pts s.data.toList 0)).1, (runP [] false (pts s.data.toList 0)).2.1 || endS s.data.toList, 0, 0) else ([], false, (runP [] false (pts s.data.toList 0)).2.2.1, (runP [] false (pts s.data.toList 0)).2.2.2))) := by
    show prs _ = _
    unfold prs
    rw [if_neg (by rw [← Lib.size_eq]; omega), if_pos h2]
  have HSL : Hid (s.size = s.data.toList.length) := Lib.size_eq s
  have hpos : 0 < s.size := by rw [HSL.out]; exact (List.getElem?_eq_some_iff.1 h2).1
  have hz : (s.size : Int) ≤ 1024 := by omega
  have HTL : Hid (s.toList = s.data.toList) := Lib.toList_data s
  have t0 : ¬ s.toList = [] := by rw [HTL.out]; intro e; rw [e] at h2; cases h2
  have x0 := Lib.data_getElem? s 0 hpos
  rw [h2] at x0
  injection x0 with x0
  have hb0 : ((s[0]'hpos).toNat : Int) = 47 := by rw [← x0]; rfl
  go_enter Tryz.func38, Tryz.ntmps38
  have q0 : s.toList.isEmpty = false := by simpa using t0
  have hb3 : Below w.heap.size w (((w.alloc (.cells #[.slice none 0 0, .bool false] 90)).alloc (.cells #[] 9)).alloc (.cells #[.slice (some ⟨w.heap.size + 1, 0, none⟩) 0 0, .bool true] 90)) := (((Below.refl _ w).alloc (Nat.le_refl _) _).alloc (by simp) _).alloc (by simp; omega) _
  have HS : Hid (RJ w w.heap.size s.data.toList 0 (((w.alloc (.cells #[.slice none 0 0, .bool false] 90)).alloc (.cells #[] 9)).alloc (.cells #[.slice (some ⟨w.heap.size + 1, 0, none⟩) 0 0, .bool true] 90))) := by
    refine ⟨[], [], false, true, w.heap.size + 1, 0, rfl, fun _ => rfl, by simp, .inl ⟨rfl, rfl, fun j hj => by omega⟩, ((Blk.new w _ _).alloc _).alloc _, ?_, ?_, hb3, by simp⟩
    · have := Blk.new ((w.alloc (.cells #[.slice none 0 0, .bool false] 90)).alloc (.cells #[] 9)) 90 #[.slice (some ⟨w.heap.size + 1, 0, none⟩) 0 0, .bool true]
      rw [World.size_alloc, World.size_alloc] at this
      exact this
    · have := Blk.new (w.alloc (.cells #[.slice none 0 0, .bool false] 90)) 9 #[]
      rw [World.size_alloc] at this
      exact kown_empty (this.alloc _) (Nat.le_refl _)
  clear hb3
  go_wp2_with fail
  clear hb0 x0
  generalize (((w.alloc (.cells #[.slice none 0 0, .bool false] 90)).alloc (.cells #[] 9)).alloc (.cells #[.slice (some ⟨w.heap.size + 1, 0, none⟩) 0 0, .bool true] 90)) = w3 at *
  go_loopw [6] (fun v wr => Hid (∃ i : Nat, v = .int .i64 (i : Int) ∧ i ≤ s.size ∧ RJ w w.heap.size s.data.toList i wr)) (fun v wr => s.size - (intOf v).toNat)
  case atStart => exact ⟨0, rfl, by omega, HS.out⟩
  case round =>
    obtain ⟨i, rfl, hin, hRJ⟩ := Hid.out hrel
    clear hrel HS
    have HR : Hid (RJ w w.heap.size s.data.toList i wr) := hRJ
    clear hRJ
    by_cases hi : i < s.size
    · have hiz : (i : Int) < (s.size : Int) := by omega
      have hxl := Lib.data_getElem? s i hi
      obtain ⟨x, hx⟩ : ∃ x : UInt8, s[i]'hi = x := ⟨_, rfl⟩
      rw [hx] at hxl
      have HX : Hid (s.data.toList[i]? = some x) := hxl
      clear hxl
      by_cases x1 : x = 47
      · have b1 : ((x.toNat : Int) == 47) = true := by rw [x1]; rfl
        have b2 : (x.toNat : Int) = 47 := by rw [x1]; rfl
        have HN : Hid (RJ w w.heap.size s.data.toList (i + 1) wr) := by
          have hX := HX.out
          rw [x1] at hX
          obtain ⟨pre, N, d, d', g, cap, e1, e2, e3, e4, e5⟩ := HR.out
          refine ⟨pre, N, d, d', g, cap, by rw [e1, pts_slash hX], e2, e3, ?_, e5⟩
          rcases e4 with ⟨f1, f2, f3⟩ | e4
          · refine .inl ⟨f1, f2, fun j hj => ?_⟩
            rcases Nat.lt_succ_iff_lt_or_eq.1 hj with h | rfl
            · exact f3 j h
            · exact hX
          · exact .inr e4
        clear x1
        go_wp2_with fail
        go_roundw
        case rel => exact ⟨i + 1, by first | rfl | go_num | simp, by omega, HN.out⟩
        case measure => simp [intOf]; omega
      · have b1 : ((x.toNat : Int) == 47) = false := ubeq_ne x1
        have b2 : ¬ (x.toNat : Int) = 47 := by simpa using b1
        have hseg : segL s.data.toList i ≠ [] := by rw [segL_byte HX.out x1]; simp
        obtain ⟨n, hn⟩ : ∃ n, (segL s.data.toList i).length = n := ⟨_, rfl⟩
        have hns : i + n ≤ s.size := by have := segL_le s.data.toList i; rw [hn, ← HSL.out] at this; omega
        have HSG : Hid ((segL s.data.toList i).length = n ∧ segL s.data.toList i ≠ []) := ⟨hn, hseg⟩
        have hn0 : 0 < n := by rw [← hn]; exact List.length_pos_iff.2 hseg
        clear x1 hn hseg
        go_wp2_with fail
        go_loop [6] (fun v => Hid (∃ k : Nat, i ≤ k ∧ k ≤ i + n ∧ v = .int .i64 (k : Int))) (fun v => s.size - (intOf v).toNat)
        case atStart => exact ⟨i, Nat.le_refl _, by omega, rfl⟩
        case round =>
          obtain ⟨k, hk1, hk2, rfl⟩ := Hid.out hrel
          clear hrel
          by_cases hk : k < i + n
          · have hks : k < s.size := by omega
            have hkz : (k : Int) < (s.size : Int) := by omega
            have hyl := Lib.data_getElem? s k hks
            obtain ⟨y, hy⟩ : ∃ y : UInt8, s[k]'hks = y := ⟨_, rfl⟩
            rw [hy] at hyl
            obtain ⟨y', hy1, hy2⟩ := segL_in s.data.toList i (k - i) (by rw [HSG.out.1]; omega)
            rw [show i + (k - i) = k by omega, hyl] at hy1
            injection hy1 with hy1
            have hy3 : y ≠ 47 := by rw [hy1]; exact hy2
            have c1 : ((y.toNat : Int) == 47) = false := ubeq_ne hy3
            have c2 : ¬ (y.toNat : Int) = 47 := by simpa using c1
            clear hy1 hy2 hy3 hyl
            go_wp2_with fail
            go_round
            case rel => exact ⟨k + 1, by omega, by omega, by first | rfl | go_num | simp⟩
            case measure => simp [intOf]; omega
          · have hkn : k = i + n := by omega
            have hkz2 : (k : Int) ≤ (s.size : Int) := by omega
            have hki : (i : Int) ≤ (k : Int) := by omega
            have hmeas : i < k := by omega
            by_cases hke : k = s.size
            · have hkz : ¬ (k : Int) < (s.size : Int) := by omega
              clear hk hke
              obtain ⟨p, hpe⟩ : ∃ p, s.extract i k = p := ⟨_, rfl⟩
              have HPE : Hid (bsL (segL s.data.toList i) = p) := by
                show bsL _ = p
                rw [← hpe, hkn, ← HSG.out.1, ba_seg]
              have HIL : Hid (i < s.data.toList.length) := by show i < _; rw [← HSL.out]; exact hi
              have htl : p.toList = p.data.toList := Lib.toList_data p
              have HKN : Hid (k = i + n) := hkn
              clear hkn
              obtain ⟨pre, N, d, d', g, cap, e1, e2, e3, e4, e5, e6, e7, e8, e9⟩ := HR.out
              have HI : Hid (_ ∧ _ ∧ _ ∧ _ ∧ _) := ⟨e1, e2, e7, e8, e9⟩
              have HB0 : Hid (Blk wr w.heap.size 90 #[.slice none 0 0, .bool false]) := e5
              have HB2 : Hid (Blk wr (w.heap.size + 1 + 1) 90 #[.slice (some ⟨g, 0, none⟩) N.length cap, .bool d']) := e6
              have c60 := e6.cell 0
              have c61 := e6.cell 1
              have f60 := e6.frozen 0
              have f61 := e6.frozen 1
              clear e1 e2 e4 e5 e7 e8 e9 HR
              have hcap : N.length ≤ cap := by
                rcases HI.out.2.2.1.2 with ⟨h, _⟩ | ⟨g', cap', cur, hv, _, _, hn, _⟩
                · cases h
                · cases hv; exact hn
              obtain ⟨m, hm⟩ : ∃ m, N.length = m := ⟨_, rfl⟩
              rw [hm] at c60 HB2 e3 e6 hcap
              have HM : Hid (N.length = m) := hm
              clear hm
              by_cases q1 : p.data.toList = [46]
              · have t1 : p.toList = [46] := htl.trans q1
                have HE : Hid (badE N p = 0 ∧ nxtN N p = N ∧ dirP p = true) := ⟨by unfold badE; rw [if_pos q1], by unfold nxtN; rw [if_pos q1], by unfold dirP; rw [decide_eq_true q1]; rfl⟩
                clear q1 htl e6
                go_wp2_with fail
                go_roundw
                case rel =>
                  obtain ⟨e1, e2, e7, e8, e9⟩ := HI.out
                  refine ⟨k, by first | rfl | go_num | simp, by omega, ?_⟩
                  rw [HKN.out, ← HSG.out.1]
                  have hB2 := HB2.out
                  rw [← HM.out] at hB2
                  exact rj_next e1 HIL.out HSG.out.2 e2 (by rw [HPE.out]; exact HE.out) (by rw [HM.out]; exact e3) (HB0.out.put_other _ _ (by omega)) (hB2.put 1 _) (own_cell_ty e7 hB2 (by decide) _) (e8.setCell (p := ⟨w.heap.size + 1 + 1, 1, none⟩) (by show w.heap.size ≤ w.heap.size + 1 + 1; omega) _) (Nat.le_trans e9 (size_cell _ _ _))
                case measure => simp [intOf]; omega
              have t1 : ¬ p.toList = [46] := by rw [htl]; exact q1
              have t1b : (p.toList == [46]) = false := by rw [beq_eq_false_iff_ne]; exact t1
              by_cases q2 : p.data.toList = [46, 46]
              · have t2 : p.toList = [46, 46] := htl.trans q2
                have HE : Hid (badE N p = 0 ∧ nxtN N p = N.dropLast ∧ dirP p = true) := ⟨by unfold badE; rw [if_neg q1, if_pos q2], by unfold nxtN; rw [if_neg q1, if_pos q2], by unfold dirP; rw [decide_eq_true q2]; simp⟩
                have z6 := e6.put 1 (.bool true)
                have c60' := z6.cell 0
                have f60' := z6.frozen 0
                clear q1 q2 htl e6
                rcases List.eq_nil_or_concat N with rfl | ⟨M, y, rfl⟩
                · obtain rfl : m = 0 := HM.out.symm
                  clear z6
                  go_wp2_with fail
                  go_roundw
                  case rel =>
                    obtain ⟨e1, e2, e7, e8, e9⟩ := HI.out
                    refine ⟨k, by first | rfl | go_num | simp, by omega, ?_⟩
                    rw [HKN.out, ← HSG.out.1]
                    exact rj_next e1 HIL.out HSG.out.2 e2 (by rw [HPE.out]; exact HE.out) (by simp) (HB0.out.put_other _ _ (by omega)) (HB2.out.put 1 _) (own_cell_ty e7 HB2.out (by decide) _) (e8.setCell (p := ⟨w.heap.size + 1 + 1, 1, none⟩) (by show w.heap.size ≤ w.heap.size + 1 + 1; omega) _) (Nat.le_trans e9 (size_cell _ _ _))
                  case measure => simp [intOf]; omega
                · rw [List.concat_eq_append] at *
                  have hmM : M.length + 1 = m := by rw [← HM.out]; simp
                  obtain ⟨m', hm'⟩ : ∃ m', M.length = m' := ⟨_, rfl⟩
                  have HM' : Hid (M.length = m') := hm'
                  obtain rfl : m' + 1 = m := by rw [← hm']; exact hmM
                  clear hm' hmM
                  rw [List.dropLast_concat] at HE
                  have hpos1 : ¬ ((m' : Int) + 1 ≤ 0) := by omega
                  have hpos2 : (0 : Int) < (m' : Int) + 1 := by omega
                  have OW : Hid ((wr.setCell ⟨w.heap.size + 1 + 1, 1, none⟩ (.bool true)).ownsRow (w.heap.size + 1) 9 1 (.slice (some ⟨g, 0, none⟩) (m' + 1) cap) (m' + 1) (M.map Value.string ++ [.string y])) := by
                    have e7 := HI.out.2.2.1
                    rw [HM.out, List.map_append] at e7
                    exact own_cell_ty e7 HB2.out (by decide) _
                  have OS : Hid (Blk (wr.setCell ⟨w.heap.size + 1 + 1, 1, none⟩ (.bool true)) w.heap.size 90 #[.slice none 0 0, .bool false] ∧ Below w.heap.size w (wr.setCell ⟨w.heap.size + 1 + 1, 1, none⟩ (.bool true)) ∧ w.heap.size + 3 ≤ (wr.setCell ⟨w.heap.size + 1 + 1, 1, none⟩ (.bool true)).heap.size ∧ Blk (wr.setCell ⟨w.heap.size + 1 + 1, 1, none⟩ (.bool true)) (w.heap.size + 1 + 1) 90 #[.slice (some ⟨g, 0, none⟩) (m' + 1) cap, .bool true]) := ⟨HB0.out.put_other _ _ (by omega), HI.out.2.2.2.1.setCell (p := ⟨w.heap.size + 1 + 1, 1, none⟩) (by show w.heap.size ≤ w.heap.size + 1 + 1; omega) _, Nat.le_trans HI.out.2.2.2.2 (size_cell _ _ _), z6⟩
                  clear z6
                  have z60 := c60'
                  obtain ⟨i0, hi0, hz0, hz1, hz2⟩ := info_parts infoStr
                  have HEM : Hid (((wr.setCell ⟨w.heap.size + 1 + 1, 1, none⟩ (.bool true)).alloc (.cells #[] 9)).ownsRow wr.heap.size 9 1 (.slice (some ⟨wr.heap.size, 0, none⟩) 0 0) 0 []) := by
                    have := Blk.new (wr.setCell ⟨w.heap.size + 1 + 1, 1, none⟩ (.bool true)) 9 #[]
                    rw [World.size_setCell] at this
                    exact kown_empty this (Nat.le_refl _)
                  have HNW : Hid (∀ j u, (M.map Value.string)[j]? = some u → ((wr.setCell ⟨w.heap.size + 1 + 1, 1, none⟩ (.bool true)).alloc (.cells #[] 9)).cell? ((⟨g, 0, none⟩ : Addr).add j) = some u) := fun j u hj => by
                    have := (OW.out.alloc (.cells #[] 9)).cells (g := g) rfl j u
                    refine this ?_
                    rw [List.getElem?_append_left (List.getElem?_eq_some_iff.1 hj).1]
                    exact hj
                  have HLN : Hid ((M.map Value.string).length = m' * 1) := by show _ = _; rw [List.length_map, HM'.out, Nat.mul_one]
                  have hwz : (m' : Int) + 1 - 1 = (m' : Int) := by omega
                  have k60 := (OS.out.2.2.2.alloc (.cells #[] 9)).cell 0
                  go_wp2_with (first
                    | (at_builtin; refine wpList_append_own _ rfl _ _ 46 rfl wr.heap.size 9 i0 (.string ⟨#[]⟩) 1 16 Tryz.underlying46 hi0 hz0 hz1 hz2 rfl (by decide) _ 0 [] rfl HEM.out ⟨g, 0, none⟩ m' cap (M.map Value.string) rfl HLN.out HNW.out (fun y hy => by obtain ⟨z, _, rfl⟩ := List.mem_map.1 hy; rfl) (by unfold maxLen; omega) (by omega) (by simp) ?_)
                    | fail)
                  rintro v' w1 hown' hgrow hnil
                  have WL : w.heap.size + 3 ≤ wr.heap.size := by have := OS.out.2.2.1; rwa [World.size_setCell] at this
                  obtain ⟨g', cap', rfl⟩ : ∃ g' cap', v' = .slice (some ⟨g', 0, none⟩) m' cap' := by
                    rcases hown'.2 with ⟨rfl, h0⟩ | ⟨g', cap', cur, rfl, _⟩
                    · exact (hnil rfl).elim
                    · exact ⟨g', cap', by simp⟩
                  clear hnil
                  have y0 := blk_row HEM.out hgrow (OS.out.1.alloc _) (by omega)
                  have y2 := blk_row HEM.out hgrow (OS.out.2.2.2.alloc _) (by omega)
                  have y8 := below_row HEM.out hgrow (OS.out.2.1.alloc (by rw [World.size_setCell]; omega) _) (by omega) (by simp; omega)
                  have yS : w.heap.size + 3 ≤ w1.heap.size := by have := hgrow.size; simp at this; omega
                  have yc := y2.cell 0
                  have yf := y2.frozen 0
                  have HY : Hid (_ ∧ _ ∧ _ ∧ _ ∧ _) := ⟨y0, y2, y8, yS, hown'⟩
                  clear y0 y2 y8 yS hown' hgrow OS OW HEM HNW HLN
                  go_wp2_with fail
                  go_roundw
                  case rel =>
                    obtain ⟨e1, e2, e7, e8, e9⟩ := HI.out
                    obtain ⟨y0, y2, y8, yS, hown'⟩ := HY.out
                    refine ⟨k, by first | rfl | go_num | simp, by omega, ?_⟩
                    rw [HKN.out, ← HSG.out.1]
                    rw [← HM'.out] at y2 hown' ⊢
                    exact rj_next e1 HIL.out HSG.out.2 e2 (by rw [HPE.out]; exact HE.out) (by rw [HM'.out]; omega) (y0.put_other _ _ (by omega)) (y2.put 0 _) (own_cell_ty (kown_mono hown' (by omega)) y2 (by decide) _) (y8.setCell (p := ⟨w.heap.size + 1 + 1, 0, none⟩) (by show w.heap.size ≤ w.heap.size + 1 + 1; omega) _) (Nat.le_trans yS (size_cell _ _ _))
                  case measure => simp [intOf]; omega
              have t2 : ¬ p.toList = [46, 46] := by rw [htl]; exact q2
              have t2b : (p.toList == [46, 46]) = false := by rw [beq_eq_false_iff_ne]; exact t2
              have HIs : Hid (∀ w : World, Calls Tryz.prog 75 #[.string p] w fun e w' => e = .returned (.bool (isName p.data.toList)) ∧ w' = w) := fun w => is18_any p (by rw [← hpe, ByteArray.size_extract]; omega) w
              have b00 := HB0.out.cell 0
              have b01 := HB0.out.cell 1
              have bf0 := HB0.out.frozen 0
              have bf1 := HB0.out.frozen 1
              have HBD : Hid (badE N p = (if isName p.data.toList = true then (if 32 ≤ N.length then 182 else 0) else 130)) := by
                show badE N p = _
                unfold badE
                simp only [if_neg q1, if_neg q2]
              cases hnm : isName p.data.toList
              · rw [hnm] at HIs HBD
                have hrun : runP [] false (pts s.data.toList 0) = ([], false, i, 130) := rj_bad HI.out.1 HIL.out HSG.out.2 HI.out.2.1 (by rw [HPE.out, HBD.out]; rfl) (by decide)
                have HEND : Hid (PRet s.data.toList w (.returned (.tuple #[.agg #[.slice none 0 0, .bool false], .int .i64 (i : Int), .int .i64 130])) ((wr.setCell ⟨w.heap.size, 0, none⟩ (.slice none 0 0)).setCell ⟨w.heap.size, 1, none⟩ (.bool false))) :=
                  pret_of (by rw [HPr.out, hrun]; rfl) (World.ownsRow_nil _ _ _ _) ((HI.out.2.2.2.1.setCell (p := ⟨w.heap.size, 0, none⟩) (Nat.le_refl _) _).setCell (p := ⟨w.heap.size, 1, none⟩) (Nat.le_refl _) _)
                have HC0 := ((HB0.out.put 0 (.slice none 0 0)).put 1 (.bool false)).cell 0
                have HC1 := ((HB0.out.put 0 (.slice none 0 0)).put 1 (.bool false)).cell 1
                have HCC : Hid (_ ∧ _) := ⟨HC0, HC1⟩
                clear HC0 HC1 hrun hnm e6 q1 q2 htl
                go_wp2_with fail
                refine (HIs.out _).mono ?_
                rintro e w9 ⟨rfl, hw9⟩
                subst w9
                go_wp2_with fail
                obtain ⟨HC0, HC1⟩ := HCC.out
                clear b00 b01 bf0 bf1 c60 c61 f60 f61
                generalize (wr.setCell ⟨w.heap.size, 0, none⟩ (.slice none 0 0)).setCell ⟨w.heap.size, 1, none⟩ (.bool false) = Wf at *
                refine bodyPost_ret (v := .tuple #[.agg #[.slice none 0 0, .bool false], .int .i64 (i : Int), .int .i64 130]) ?_ rfl HEND.out
                simp [results, Tryz.f38, go_sem, HC0, HC1]
              · rw [hnm] at HIs HBD
                by_cases h32 : m = 32
                · have hrun : runP [] false (pts s.data.toList 0) = ([], false, i, 182) := rj_bad HI.out.1 HIL.out HSG.out.2 HI.out.2.1 (by rw [HPE.out, HBD.out, if_pos rfl, if_pos (by rw [HM.out]; omega)]) (by decide)
                  have HEND : Hid (PRet s.data.toList w (.returned (.tuple #[.agg #[.slice none 0 0, .bool false], .int .i64 (i : Int), .int .i64 182])) ((wr.setCell ⟨w.heap.size, 0, none⟩ (.slice none 0 0)).setCell ⟨w.heap.size, 1, none⟩ (.bool false))) :=
                    pret_of (by rw [HPr.out, hrun]; rfl) (World.ownsRow_nil _ _ _ _) ((HI.out.2.2.2.1.setCell (p := ⟨w.heap.size, 0, none⟩) (Nat.le_refl _) _).setCell (p := ⟨w.heap.size, 1, none⟩) (Nat.le_refl _) _)
                  have HC0 := ((HB0.out.put 0 (.slice none 0 0)).put 1 (.bool false)).cell 0
                  have HC1 := ((HB0.out.put 0 (.slice none 0 0)).put 1 (.bool false)).cell 1
                  have HCC : Hid (_ ∧ _) := ⟨HC0, HC1⟩
                  have hmz : (m : Int) = 32 := by omega
                  clear HC0 HC1 hrun hnm e6 q1 q2 htl h32
                  go_wp2_with fail
                  refine (HIs.out _).mono ?_
                  rintro e w9 ⟨rfl, hw9⟩
                  subst w9
                  go_wp2_with fail
                  obtain ⟨HC0, HC1⟩ := HCC.out
                  clear b00 b01 bf0 bf1 c60 c61 f60 f61
                  generalize (wr.setCell ⟨w.heap.size, 0, none⟩ (.slice none 0 0)).setCell ⟨w.heap.size, 1, none⟩ (.bool false) = Wf at *
                  refine bodyPost_ret (v := .tuple #[.agg #[.slice none 0 0, .bool false], .int .i64 (i : Int), .int .i64 182]) ?_ rfl HEND.out
                  simp [results, Tryz.f38, go_sem, HC0, HC1]
                · have hm32 : m < 32 := by omega
                  have HE : Hid (badE N p = 0 ∧ nxtN N p = N ++ [p] ∧ dirP p = false) := ⟨by rw [HBD.out, if_pos rfl, if_neg (by rw [HM.out]; omega)], by unfold nxtN; rw [if_neg q1, if_neg q2], by unfold dirP; rw [decide_eq_false q1, decide_eq_false q2]; rfl⟩
                  have hmz : ¬ (m : Int) = 32 := by omega
                  have hmb : ((m : Int) == 32) = false := by simpa using hmz
                  clear hnm q1 q2 htl h32 b00 b01 bf0 bf1
                  obtain ⟨i0, hi0, hz0, hz1, hz2⟩ := info_parts infoStr
                  have WL : w.heap.size + 3 ≤ wr.heap.size := HI.out.2.2.2.2
                  have HEM : Hid ((wr.alloc (.cells #[] 9)).ownsRow wr.heap.size 9 1 (.slice (some ⟨wr.heap.size, 0, none⟩) 0 0) 0 []) := kown_empty (Blk.new wr 9 #[]) (Nat.le_refl _)
                  have HOW : Hid (wr.ownsRow (w.heap.size + 1) 9 1 (.slice (some ⟨g, 0, none⟩) m cap) m (N.map Value.string)) := by
                    have e7 := HI.out.2.2.1
                    rwa [HM.out] at e7
                  have HNW : Hid (∀ j u, (N.map Value.string)[j]? = some u → (wr.alloc (.cells #[] 9)).cell? ((⟨g, 0, none⟩ : Addr).add j) = some u) := fun j u hj => (HOW.out.alloc (.cells #[] 9)).cells (g := g) rfl j u hj
                  have HLN : Hid ((N.map Value.string).length = m * 1) := by show _ = _; rw [List.length_map, HM.out, Nat.mul_one]
                  have k60 := (e6.alloc (.cells #[] 9)).cell 0
                  clear e6
                  go_wp2_with fail
                  refine (HIs.out _).mono ?_
                  rintro e w9 ⟨rfl, hw9⟩
                  subst w9
                  go_wp2_with (first
                    | (at_builtin; refine wpList_append_own _ rfl _ _ 46 rfl wr.heap.size 9 i0 (.string ⟨#[]⟩) 1 16 Tryz.underlying46 hi0 hz0 hz1 hz2 rfl (by decide) _ 0 [] rfl HEM.out ⟨g, 0, none⟩ m cap (N.map Value.string) rfl HLN.out HNW.out (fun y hy => by obtain ⟨z, _, rfl⟩ := List.mem_map.1 hy; rfl) (by unfold maxLen; omega) (by omega) (by simp) ?_)
                    | fail)
                  rintro v1 w1 hown1 hgrow1 hnil1
                  obtain ⟨g1, cap1, rfl⟩ : ∃ g1 cap1, v1 = .slice (some ⟨g1, 0, none⟩) m cap1 := by
                    rcases hown1.2 with ⟨rfl, h0⟩ | ⟨g', cap', cur, rfl, _⟩
                    · exact (hnil1 rfl).elim
                    · exact ⟨g', cap', by simp⟩
                  clear hnil1
                  have y0 := blk_row HEM.out hgrow1 (HB0.out.alloc _) (by omega)
                  have y2 := blk_row HEM.out hgrow1 (HB2.out.alloc _) (by omega)
                  have y8 := below_row HEM.out hgrow1 (HI.out.2.2.2.1.alloc (by omega) _) (by omega) (by simp; omega)
                  have yS : wr.heap.size + 1 ≤ w1.heap.size := by have := hgrow1.size; simpa using this
                  have hown1' : w1.ownsRow wr.heap.size 9 1 (.slice (some ⟨g1, 0, none⟩) m cap1) m (N.map Value.string) := by simpa using hown1
                  have HOW1 : Hid ((w1.alloc (.cells #[.string p] 9)).ownsRow wr.heap.size 9 1 (.slice (some ⟨g1, 0, none⟩) m cap1) m (N.map Value.string)) := hown1'.alloc _
                  have HY1 : Hid (_ ∧ _ ∧ _ ∧ _) := ⟨y0, y2, y8, yS⟩
                  have hnew := cell_one_new w1 (.string p) 9
                  clear y0 y2 y8 hown1 hown1' hgrow1 HEM HNW HLN HOW k60
                  go_wp2_with (first
                    | (at_builtin; refine wpList_append_own _ rfl _ _ 46 rfl wr.heap.size 9 i0 (.string ⟨#[]⟩) 1 16 Tryz.underlying46 hi0 hz0 hz1 hz2 rfl (by decide) _ _ _ rfl HOW1.out ⟨w1.heap.size, 0, none⟩ 1 1 [.string p] rfl rfl hnew (fun y hy => by simp at hy; subst hy; rfl) (by unfold maxLen; omega) (by omega) (by simp; omega) ?_)
                    | fail)
                  rintro v2 w2 hown2 hgrow2 -
                  obtain ⟨g2, cap2, rfl⟩ := ownsRow_succ hown2
                  obtain ⟨y0, y2, y8, _⟩ := HY1.out
                  have z0 := blk_row HOW1.out hgrow2 (y0.alloc _) (by omega)
                  have z2 := blk_row HOW1.out hgrow2 (y2.alloc _) (by omega)
                  have z8 := below_row HOW1.out hgrow2 (y8.alloc (by omega) _) (by omega) (by simp; omega)
                  have zS : w.heap.size + 3 ≤ w2.heap.size := by have := hgrow2.size; simp at this; omega
                  have zc := z2.cell 0
                  have zf := z2.frozen 0
                  have zd := (z2.put 0 (.slice (some ⟨g2, 0, none⟩) (m + 1) cap2)).cell 1
                  have ze := (z2.put 0 (.slice (some ⟨g2, 0, none⟩) (m + 1) cap2)).frozen 1
                  have HZ : Hid (_ ∧ _ ∧ _ ∧ _ ∧ _) := ⟨z0, z2, z8, zS, hown2⟩
                  clear y0 y2 y8 z0 z2 z8 zS hown2 hgrow2 HOW1 HY1 hnew
                  go_wp2_with fail
                  go_roundw
                  case rel =>
                    obtain ⟨e1, e2, e7, e8, e9⟩ := HI.out
                    obtain ⟨z0, z2, z8, zS, hown2⟩ := HZ.out
                    refine ⟨k, by first | rfl | go_num | simp, by omega, ?_⟩
                    rw [HKN.out, ← HSG.out.1]
                    have hl2 : (N ++ [p]).length = m + 1 := by rw [List.length_append, HM.out]; rfl
                    refine rj_next e1 HIL.out HSG.out.2 e2 (by rw [HPE.out]; exact HE.out) (by rw [hl2]; omega) ((z0.put_other _ _ (by omega)).put_other _ _ (by omega)) (g := g2) (cap := cap2) ?_ ?_ ((z8.setCell (p := ⟨w.heap.size + 1 + 1, 0, none⟩) (by show w.heap.size ≤ w.heap.size + 1 + 1; omega) _).setCell (p := ⟨w.heap.size + 1 + 1, 1, none⟩) (by show w.heap.size ≤ w.heap.size + 1 + 1; omega) _) (Nat.le_trans (Nat.le_trans zS (size_cell _ _ _)) (size_cell _ _ _))
                    · rw [hl2]; exact (z2.put 0 _).put 1 _
                    · rw [hl2, List.map_append]
                      exact own_cell_ty (own_cell_ty (kown_mono hown2 (by omega)) z2 (by decide) _) (z2.put 0 _) (by decide) _
                  case measure => simp [intOf]; omega
            · have hks : k < s.size := by omega
              have hkz : (k : Int) < (s.size : Int) := by omega
              have hy1 : (s[k]'hks) = 47 := by
                have := Lib.data_getElem? s k hks
                rcases segL_next s.data.toList i with h | h
                · rw [HSG.out.1, ← hkn, this] at h; cases h
                · rw [HSG.out.1, ← hkn, this] at h; injection h
              have c1 : (((s[k]'hks).toNat : Int) == 47) = true := by rw [hy1]; rfl
              have c2 : ((s[k]'hks).toNat : Int) = 47 := by rw [hy1]; rfl
              clear hk hke hy1
              obtain ⟨p, hpe⟩ : ∃ p, s.extract i k = p := ⟨_, rfl⟩
              have HPE : Hid (bsL (segL s.data.toList i) = p) := by
                show bsL _ = p
                rw [← hpe, hkn, ← HSG.out.1, ba_seg]
              have HIL : Hid (i < s.data.toList.length) := by show i < _; rw [← HSL.out]; exact hi
              have htl : p.toList = p.data.toList := Lib.toList_data p
              have HKN : Hid (k = i + n) := hkn
              clear hkn
              obtain ⟨pre, N, d, d', g, cap, e1, e2, e3, e4, e5, e6, e7, e8, e9⟩ := HR.out
              have HI : Hid (_ ∧ _ ∧ _ ∧ _ ∧ _) := ⟨e1, e2, e7, e8, e9⟩
              have HB0 : Hid (Blk wr w.heap.size 90 #[.slice none 0 0, .bool false]) := e5
              have HB2 : Hid (Blk wr (w.heap.size + 1 + 1) 90 #[.slice (some ⟨g, 0, none⟩) N.length cap, .bool d']) := e6
              have c60 := e6.cell 0
              have c61 := e6.cell 1
              have f60 := e6.frozen 0
              have f61 := e6.frozen 1
              clear e1 e2 e4 e5 e7 e8 e9 HR
              have hcap : N.length ≤ cap := by
                rcases HI.out.2.2.1.2 with ⟨h, _⟩ | ⟨g', cap', cur, hv, _, _, hn, _⟩
                · cases h
                · cases hv; exact hn
              obtain ⟨m, hm⟩ : ∃ m, N.length = m := ⟨_, rfl⟩
              rw [hm] at c60 HB2 e3 e6 hcap
              have HM : Hid (N.length = m) := hm
              clear hm
              by_cases q1 : p.data.toList = [46]
              · have t1 : p.toList = [46] := htl.trans q1
                have HE : Hid (badE N p = 0 ∧ nxtN N p = N ∧ dirP p = true) := ⟨by unfold badE; rw [if_pos q1], by unfold nxtN; rw [if_pos q1], by unfold dirP; rw [decide_eq_true q1]; rfl⟩
                clear q1 htl e6
                go_wp2_with fail
                go_roundw
                case rel =>
                  obtain ⟨e1, e2, e7, e8, e9⟩ := HI.out
                  refine ⟨k, by first | rfl | go_num | simp, by omega, ?_⟩
                  rw [HKN.out, ← HSG.out.1]
                  have hB2 := HB2.out
                  rw [← HM.out] at hB2
                  exact rj_next e1 HIL.out HSG.out.2 e2 (by rw [HPE.out]; exact HE.out) (by rw [HM.out]; exact e3) (HB0.out.put_other _ _ (by omega)) (hB2.put 1 _) (own_cell_ty e7 hB2 (by decide) _) (e8.setCell (p := ⟨w.heap.size + 1 + 1, 1, none⟩) (by show w.heap.size ≤ w.heap.size + 1 + 1; omega) _) (Nat.le_trans e9 (size_cell _ _ _))
                case measure => simp [intOf]; omega
              have t1 : ¬ p.toList = [46] := by rw [htl]; exact q1
              have t1b : (p.toList == [46]) = false := by rw [beq_eq_false_iff_ne]; exact t1
              by_cases q2 : p.data.toList = [46, 46]
              · have t2 : p.toList = [46, 46] := htl.trans q2
                have HE : Hid (badE N p = 0 ∧ nxtN N p = N.dropLast ∧ dirP p = true) := ⟨by unfold badE; rw [if_neg q1, if_pos q2], by unfold nxtN; rw [if_neg q1, if_pos q2], by unfold dirP; rw [decide_eq_true q2]; simp⟩
                have z6 := e6.put 1 (.bool true)
                have c60' := z6.cell 0
                have f60' := z6.frozen 0
                clear q1 q2 htl e6
                rcases List.eq_nil_or_concat N with rfl | ⟨M, y, rfl⟩
                · obtain rfl : m = 0 := HM.out.symm
                  clear z6
                  go_wp2_with fail
                  go_roundw
                  case rel =>
                    obtain ⟨e1, e2, e7, e8, e9⟩ := HI.out
                    refine ⟨k, by first | rfl | go_num | simp, by omega, ?_⟩
                    rw [HKN.out, ← HSG.out.1]
                    exact rj_next e1 HIL.out HSG.out.2 e2 (by rw [HPE.out]; exact HE.out) (by simp) (HB0.out.put_other _ _ (by omega)) (HB2.out.put 1 _) (own_cell_ty e7 HB2.out (by decide) _) (e8.setCell (p := ⟨w.heap.size + 1 + 1, 1, none⟩) (by show w.heap.size ≤ w.heap.size + 1 + 1; omega) _) (Nat.le_trans e9 (size_cell _ _ _))
                  case measure => simp [intOf]; omega
                · rw [List.concat_eq_append] at *
                  have hmM : M.length + 1 = m := by rw [← HM.out]; simp
                  obtain ⟨m', hm'⟩ : ∃ m', M.length = m' := ⟨_, rfl⟩
                  have HM' : Hid (M.length = m') := hm'
                  obtain rfl : m' + 1 = m := by rw [← hm']; exact hmM
                  clear hm' hmM
                  rw [List.dropLast_concat] at HE
                  have hpos1 : ¬ ((m' : Int) + 1 ≤ 0) := by omega
                  have hpos2 : (0 : Int) < (m' : Int) + 1 := by omega
                  have OW : Hid ((wr.setCell ⟨w.heap.size + 1 + 1, 1, none⟩ (.bool true)).ownsRow (w.heap.size + 1) 9 1 (.slice (some ⟨g, 0, none⟩) (m' + 1) cap) (m' + 1) (M.map Value.string ++ [.string y])) := by
                    have e7 := HI.out.2.2.1
                    rw [HM.out, List.map_append] at e7
                    exact own_cell_ty e7 HB2.out (by decide) _
                  have OS : Hid (Blk (wr.setCell ⟨w.heap.size + 1 + 1, 1, none⟩ (.bool true)) w.heap.size 90 #[.slice none 0 0, .bool false] ∧ Below w.heap.size w (wr.setCell ⟨w.heap.size + 1 + 1, 1, none⟩ (.bool true)) ∧ w.heap.size + 3 ≤ (wr.setCell ⟨w.heap.size + 1 + 1, 1, none⟩ (.bool true)).heap.size ∧ Blk (wr.setCell ⟨w.heap.size + 1 + 1, 1, none⟩ (.bool true)) (w.heap.size + 1 + 1) 90 #[.slice (some ⟨g, 0, none⟩) (m' + 1) cap, .bool true]) := ⟨HB0.out.put_other _ _ (by omega), HI.out.2.2.2.1.setCell (p := ⟨w.heap.size + 1 + 1, 1, none⟩) (by show w.heap.size ≤ w.heap.size + 1 + 1; omega) _, Nat.le_trans HI.out.2.2.2.2 (size_cell _ _ _), z6⟩
                  clear z6
                  have z60 := c60'
                  obtain ⟨i0, hi0, hz0, hz1, hz2⟩ := info_parts infoStr
                  have HEM : Hid (((wr.setCell ⟨w.heap.size + 1 + 1, 1, none⟩ (.bool true)).alloc (.cells #[] 9)).ownsRow wr.heap.size 9 1 (.slice (some ⟨wr.heap.size, 0, none⟩) 0 0) 0 []) := by
                    have := Blk.new (wr.setCell ⟨w.heap.size + 1 + 1, 1, none⟩ (.bool true)) 9 #[]
                    rw [World.size_setCell] at this
                    exact kown_empty this (Nat.le_refl _)
                  have HNW : Hid (∀ j u, (M.map Value.string)[j]? = some u → ((wr.setCell ⟨w.heap.size + 1 + 1, 1, none⟩ (.bool true)).alloc (.cells #[] 9)).cell? ((⟨g, 0, none⟩ : Addr).add j) = some u) := fun j u hj => by
                    have := (OW.out.alloc (.cells #[] 9)).cells (g := g) rfl j u
                    refine this ?_
                    rw [List.getElem?_append_left (List.getElem?_eq_some_iff.1 hj).1]
                    exact hj
                  have HLN : Hid ((M.map Value.string).length = m' * 1) := by show _ = _; rw [List.length_map, HM'.out, Nat.mul_one]
                  have hwz : (m' : Int) + 1 - 1 = (m' : Int) := by omega
                  have k60 := (OS.out.2.2.2.alloc (.cells #[] 9)).cell 0
                  go_wp2_with (first
                    | (at_builtin; refine wpList_append_own _ rfl _ _ 46 rfl wr.heap.size 9 i0 (.string ⟨#[]⟩) 1 16 Tryz.underlying46 hi0 hz0 hz1 hz2 rfl (by decide) _ 0 [] rfl HEM.out ⟨g, 0, none⟩ m' cap (M.map Value.string) rfl HLN.out HNW.out (fun y hy => by obtain ⟨z, _, rfl⟩ := List.mem_map.1 hy; rfl) (by unfold maxLen; omega) (by omega) (by simp) ?_)
                    | fail)
                  rintro v' w1 hown' hgrow hnil
                  have WL : w.heap.size + 3 ≤ wr.heap.size := by have := OS.out.2.2.1; rwa [World.size_setCell] at this
                  obtain ⟨g', cap', rfl⟩ : ∃ g' cap', v' = .slice (some ⟨g', 0, none⟩) m' cap' := by
                    rcases hown'.2 with ⟨rfl, h0⟩ | ⟨g', cap', cur, rfl, _⟩
                    · exact (hnil rfl).elim
                    · exact ⟨g', cap', by simp⟩
                  clear hnil
                  have y0 := blk_row HEM.out hgrow (OS.out.1.alloc _) (by omega)
                  have y2 := blk_row HEM.out hgrow (OS.out.2.2.2.alloc _) (by omega)
                  have y8 := below_row HEM.out hgrow (OS.out.2.1.alloc (by rw [World.size_setCell]; omega) _) (by omega) (by simp; omega)
                  have yS : w.heap.size + 3 ≤ w1.heap.size := by have := hgrow.size; simp at this; omega
                  have yc := y2.cell 0
                  have yf := y2.frozen 0
                  have HY : Hid (_ ∧ _ ∧ _ ∧ _ ∧ _) := ⟨y0, y2, y8, yS, hown'⟩
                  clear y0 y2 y8 yS hown' hgrow OS OW HEM HNW HLN
                  go_wp2_with fail
                  go_roundw
                  case rel =>
                    obtain ⟨e1, e2, e7, e8, e9⟩ := HI.out
                    obtain ⟨y0, y2, y8, yS, hown'⟩ := HY.out
                    refine ⟨k, by first | rfl | go_num | simp, by omega, ?_⟩
                    rw [HKN.out, ← HSG.out.1]
                    rw [← HM'.out] at y2 hown' ⊢
                    exact rj_next e1 HIL.out HSG.out.2 e2 (by rw [HPE.out]; exact HE.out) (by rw [HM'.out]; omega) (y0.put_other _ _ (by omega)) (y2.put 0 _) (own_cell_ty (kown_mono hown' (by omega)) y2 (by decide) _) (y8.setCell (p := ⟨w.heap.size + 1 + 1, 0, none⟩) (by show w.heap.size ≤ w.heap.size + 1 + 1; omega) _) (Nat.le_trans yS (size_cell _ _ _))
                  case measure => simp [intOf]; omega
              have t2 : ¬ p.toList = [46, 46] := by rw [htl]; exact q2
              have t2b : (p.toList == [46, 46]) = false := by rw [beq_eq_false_iff_ne]; exact t2
              have HIs : Hid (∀ w : World, Calls Tryz.prog 75 #[.string p] w fun e w' => e = .returned (.bool (isName p.data.toList)) ∧ w' = w) := fun w => is18_any p (by rw [← hpe, ByteArray.size_extract]; omega) w
              have b00 := HB0.out.cell 0
              have b01 := HB0.out.cell 1
              have bf0 := HB0.out.frozen 0
              have bf1 := HB0.out.frozen 1
              have HBD : Hid (badE N p = (if isName p.data.toList = true then (if 32 ≤ N.length then 182 else 0) else 130)) := by
                show badE N p = _
                unfold badE
                simp only [if_neg q1, if_neg q2]
              cases hnm : isName p.data.toList
              · rw [hnm] at HIs HBD
                have hrun : runP [] false (pts s.data.toList 0) = ([], false, i, 130) := rj_bad HI.out.1 HIL.out HSG.out.2 HI.out.2.1 (by rw [HPE.out, HBD.out]; rfl) (by decide)
                have HEND : Hid (PRet s.data.toList w (.returned (.tuple #[.agg #[.slice none 0 0, .bool false], .int .i64 (i : Int), .int .i64 130])) ((wr.setCell ⟨w.heap.size, 0, none⟩ (.slice none 0 0)).setCell ⟨w.heap.size, 1, none⟩ (.bool false))) :=
                  pret_of (by rw [HPr.out, hrun]; rfl) (World.ownsRow_nil _ _ _ _) ((HI.out.2.2.2.1.setCell (p := ⟨w.heap.size, 0, none⟩) (Nat.le_refl _) _).setCell (p := ⟨w.heap.size, 1, none⟩) (Nat.le_refl _) _)
                have HC0 := ((HB0.out.put 0 (.slice none 0 0)).put 1 (.bool false)).cell 0
                have HC1 := ((HB0.out.put 0 (.slice none 0 0)).put 1 (.bool false)).cell 1
                have HCC : Hid (_ ∧ _) := ⟨HC0, HC1⟩
                clear HC0 HC1 hrun hnm e6 q1 q2 htl
                go_wp2_with fail
                refine (HIs.out _).mono ?_
                rintro e w9 ⟨rfl, hw9⟩
                subst w9
                go_wp2_with fail
                obtain ⟨HC0, HC1⟩ := HCC.out
                clear b00 b01 bf0 bf1 c60 c61 f60 f61
                generalize (wr.setCell ⟨w.heap.size, 0, none⟩ (.slice none 0 0)).setCell ⟨w.heap.size, 1, none⟩ (.bool false) = Wf at *
                refine bodyPost_ret (v := .tuple #[.agg #[.slice none 0 0, .bool false], .int .i64 (i : Int), .int .i64 130]) ?_ rfl HEND.out
                simp [results, Tryz.f38, go_sem, HC0, HC1]
              · rw [hnm] at HIs HBD
                by_cases h32 : m = 32
                · have hrun : runP [] false (pts s.data.toList 0) = ([], false, i, 182) := rj_bad HI.out.1 HIL.out HSG.out.2 HI.out.2.1 (by rw [HPE.out, HBD.out, if_pos rfl, if_pos (by rw [HM.out]; omega)]) (by decide)
                  have HEND : Hid (PRet s.data.toList w (.returned (.tuple #[.agg #[.slice none 0 0, .bool false], .int .i64 (i : Int), .int .i64 182])) ((wr.setCell ⟨w.heap.size, 0, none⟩ (.slice none 0 0)).setCell ⟨w.heap.size, 1, none⟩ (.bool false))) :=
                    pret_of (by rw [HPr.out, hrun]; rfl) (World.ownsRow_nil _ _ _ _) ((HI.out.2.2.2.1.setCell (p := ⟨w.heap.size, 0, none⟩) (Nat.le_refl _) _).setCell (p := ⟨w.heap.size, 1, none⟩) (Nat.le_refl _) _)
                  have HC0 := ((HB0.out.put 0 (.slice none 0 0)).put 1 (.bool false)).cell 0
                  have HC1 := ((HB0.out.put 0 (.slice none 0 0)).put 1 (.bool false)).cell 1
                  have HCC : Hid (_ ∧ _) := ⟨HC0, HC1⟩
                  have hmz : (m : Int) = 32 := by omega
                  clear HC0 HC1 hrun hnm e6 q1 q2 htl h32
                  go_wp2_with fail
                  refine (HIs.out _).mono ?_
                  rintro e w9 ⟨rfl, hw9⟩
                  subst w9
                  go_wp2_with fail
                  obtain ⟨HC0, HC1⟩ := HCC.out
                  clear b00 b01 bf0 bf1 c60 c61 f60 f61
                  generalize (wr.setCell ⟨w.heap.size, 0, none⟩ (.slice none 0 0)).setCell ⟨w.heap.size, 1, none⟩ (.bool false) = Wf at *
                  refine bodyPost_ret (v := .tuple #[.agg #[.slice none 0 0, .bool false], .int .i64 (i : Int), .int .i64 182]) ?_ rfl HEND.out
                  simp [results, Tryz.f38, go_sem, HC0, HC1]
                · have hm32 : m < 32 := by omega
                  have HE : Hid (badE N p = 0 ∧ nxtN N p = N ++ [p] ∧ dirP p = false) := ⟨by rw [HBD.out, if_pos rfl, if_neg (by rw [HM.out]; omega)], by unfold nxtN; rw [if_neg q1, if_neg q2], by unfold dirP; rw [decide_eq_false q1, decide_eq_false q2]; rfl⟩
                  have hmz : ¬ (m : Int) = 32 := by omega
                  have hmb : ((m : Int) == 32) = false := by simpa using hmz
                  clear hnm q1 q2 htl h32 b00 b01 bf0 bf1
                  obtain ⟨i0, hi0, hz0, hz1, hz2⟩ := info_parts infoStr
                  have WL : w.heap.size + 3 ≤ wr.heap.size := HI.out.2.2.2.2
                  have HEM : Hid ((wr.alloc (.cells #[] 9)).ownsRow wr.heap.size 9 1 (.slice (some ⟨wr.heap.size, 0, none⟩) 0 0) 0 []) := kown_empty (Blk.new wr 9 #[]) (Nat.le_refl _)
                  have HOW : Hid (wr.ownsRow (w.heap.size + 1) 9 1 (.slice (some ⟨g, 0, none⟩) m cap) m (N.map Value.string)) := by
                    have e7 := HI.out.2.2.1
                    rwa [HM.out] at e7
                  have HNW : Hid (∀ j u, (N.map Value.string)[j]? = some u → (wr.alloc (.cells #[] 9)).cell? ((⟨g, 0, none⟩ : Addr).add j) = some u) := fun j u hj => (HOW.out.alloc (.cells #[] 9)).cells (g := g) rfl j u hj
                  have HLN : Hid ((N.map Value.string).length = m * 1) := by show _ = _; rw [List.length_map, HM.out, Nat.mul_one]
                  have k60 := (e6.alloc (.cells #[] 9)).cell 0
                  clear e6
                  go_wp2_with fail
                  refine (HIs.out _).mono ?_
                  rintro e w9 ⟨rfl, hw9⟩
                  subst w9
                  go_wp2_with (first
                    | (at_builtin; refine wpList_append_own _ rfl _ _ 46 rfl wr.heap.size 9 i0 (.string ⟨#[]⟩) 1 16 Tryz.underlying46 hi0 hz0 hz1 hz2 rfl (by decide) _ 0 [] rfl HEM.out ⟨g, 0, none⟩ m cap (N.map Value.string) rfl HLN.out HNW.out (fun y hy => by obtain ⟨z, _, rfl⟩ := List.mem_map.1 hy; rfl) (by unfold maxLen; omega) (by omega) (by simp) ?_)
                    | fail)
                  rintro v1 w1 hown1 hgrow1 hnil1
                  obtain ⟨g1, cap1, rfl⟩ : ∃ g1 cap1, v1 = .slice (some ⟨g1, 0, none⟩) m cap1 := by
                    rcases hown1.2 with ⟨rfl, h0⟩ | ⟨g', cap', cur, rfl, _⟩
                    · exact (hnil1 rfl).elim
                    · exact ⟨g', cap', by simp⟩
                  clear hnil1
                  have y0 := blk_row HEM.out hgrow1 (HB0.out.alloc _) (by omega)
                  have y2 := blk_row HEM.out hgrow1 (HB2.out.alloc _) (by omega)
                  have y8 := below_row HEM.out hgrow1 (HI.out.2.2.2.1.alloc (by omega) _) (by omega) (by simp; omega)
                  have yS : wr.heap.size + 1 ≤ w1.heap.size := by have := hgrow1.size; simpa using this
                  have hown1' : w1.ownsRow wr.heap.size 9 1 (.slice (some ⟨g1, 0, none⟩) m cap1) m (N.map Value.string) := by simpa using hown1
                  have HOW1 : Hid ((w1.alloc (.cells #[.string p] 9)).ownsRow wr.heap.size 9 1 (.slice (some ⟨g1, 0, none⟩) m cap1) m (N.map Value.string)) := hown1'.alloc _
                  have HY1 : Hid (_ ∧ _ ∧ _ ∧ _) := ⟨y0, y2, y8, yS⟩
                  have hnew := cell_one_new w1 (.string p) 9
                  clear y0 y2 y8 hown1 hown1' hgrow1 HEM HNW HLN HOW k60
                  go_wp2_with (first
                    | (at_builtin; refine wpList_append_own _ rfl _ _ 46 rfl wr.heap.size 9 i0 (.string ⟨#[]⟩) 1 16 Tryz.underlying46 hi0 hz0 hz1 hz2 rfl (by decide) _ _ _ rfl HOW1.out ⟨w1.heap.size, 0, none⟩ 1 1 [.string p] rfl rfl hnew (fun y hy => by simp at hy; subst hy; rfl) (by unfold maxLen; omega) (by omega) (by simp; omega) ?_)
                    | fail)
                  rintro v2 w2 hown2 hgrow2 -
                  obtain ⟨g2, cap2, rfl⟩ := ownsRow_succ hown2
                  obtain ⟨y0, y2, y8, _⟩ := HY1.out
                  have z0 := blk_row HOW1.out hgrow2 (y0.alloc _) (by omega)
                  have z2 := blk_row HOW1.out hgrow2 (y2.alloc _) (by omega)
                  have z8 := below_row HOW1.out hgrow2 (y8.alloc (by omega) _) (by omega) (by simp; omega)
                  have zS : w.heap.size + 3 ≤ w2.heap.size := by have := hgrow2.size; simp at this; omega
                  have zc := z2.cell 0
                  have zf := z2.frozen 0
                  have zd := (z2.put 0 (.slice (some ⟨g2, 0, none⟩) (m + 1) cap2)).cell 1
                  have ze := (z2.put 0 (.slice (some ⟨g2, 0, none⟩) (m + 1) cap2)).frozen 1
                  have HZ : Hid (_ ∧ _ ∧ _ ∧ _ ∧ _) := ⟨z0, z2, z8, zS, hown2⟩
                  clear y0 y2 y8 z0 z2 z8 zS hown2 hgrow2 HOW1 HY1 hnew
                  go_wp2_with fail
                  go_roundw
                  case rel =>
                    obtain ⟨e1, e2, e7, e8, e9⟩ := HI.out
                    obtain ⟨z0, z2, z8, zS, hown2⟩ := HZ.out
                    refine ⟨k, by first | rfl | go_num | simp, by omega, ?_⟩
                    rw [HKN.out, ← HSG.out.1]
                    have hl2 : (N ++ [p]).length = m + 1 := by rw [List.length_append, HM.out]; rfl
                    refine rj_next e1 HIL.out HSG.out.2 e2 (by rw [HPE.out]; exact HE.out) (by rw [hl2]; omega) ((z0.put_other _ _ (by omega)).put_other _ _ (by omega)) (g := g2) (cap := cap2) ?_ ?_ ((z8.setCell (p := ⟨w.heap.size + 1 + 1, 0, none⟩) (by show w.heap.size ≤ w.heap.size + 1 + 1; omega) _).setCell (p := ⟨w.heap.size + 1 + 1, 1, none⟩) (by show w.heap.size ≤ w.heap.size + 1 + 1; omega) _) (Nat.le_trans (Nat.le_trans zS (size_cell _ _ _)) (size_cell _ _ _))
                    · rw [hl2]; exact (z2.put 0 _).put 1 _
                    · rw [hl2, List.map_append]
                      exact own_cell_ty (own_cell_ty (kown_mono hown2 (by omega)) z2 (by decide) _) (z2.put 0 _) (by decide) _
                  case measure => simp [intOf]; omega
    · obtain rfl : i = s.size := by omega
      have hiz : ¬ (s.size : Int) < (s.size : Int) := by omega
      obtain ⟨n, hn⟩ : ∃ n, s.size = n + 1 := ⟨s.size - 1, by omega⟩
      obtain ⟨pre, N, d, d', g, cap, e1, e2, e3, e4, e5, e6, e7, e8, e9⟩ := HR.out
      have hr := e2 []
      rw [pts_end (i := s.size) (by rw [HSL.out]; exact Nat.le_refl _)] at e1
      rw [List.append_nil] at hr e1
      rw [← e1] at hr
      have HD : Hid ((d || endS s.data.toList) = (d' || endS s.data.toList)) := by
        show (d || endS s.data.toList) = _
        rcases e4 with ⟨f1, f2, f3⟩ | ⟨_, f2⟩
        · have : endS s.data.toList = true := by
            rw [endS_of (n := n) (by rw [← HSL.out]; exact hn)]
            exact decide_eq_true (f3 n (by omega))
          rw [this, Bool.or_true, Bool.or_true]
        · rw [f2]
      have HRR : Hid (prs s.data.toList = (N, d' || endS s.data.toList, 0, 0)) := by
        show prs _ = _
        rw [HPr.out, hr, ← HD.out]
        simp [runP]
      have hns : n < s.size := by omega
      have hyl := Lib.data_getElem? s n hns
      obtain ⟨y, hy⟩ : ∃ y : UInt8, s[n]'hns = y := ⟨_, rfl⟩
      rw [hy] at hyl
      have hE : endS s.data.toList = decide (y = 47) := by
        rw [endS_of (n := n) (by rw [← HSL.out]; exact hn), hyl]
        simp
      rw [hE] at HRR
      have hsz : (s.size : Int) - 1 = (n : Int) := by omega
      have HS1 : Hid (s.size = n + 1) := hn
      clear hn hE hyl HD hr e1 e2 e4 HPr HR h2 hi hin
      have cA0 := e6.cell 0
      have cA1 := e6.cell 1
      have fA0 := e6.frozen 0
      have fA1 := e6.frozen 1
      have cB0 := e5.cell 0
      have cB1 := e5.cell 1
      have fB0 := e5.frozen 0
      have fB1 := e5.frozen 1
      by_cases y1 : y = 47
      · have b1 : ((y.toNat : Int) == 47) = true := by rw [y1]; rfl
        have b2 : (y.toNat : Int) = 47 := by rw [y1]; rfl
        rw [decide_eq_true y1, Bool.or_true] at HRR
        have x5 := e5.put_other (g := w.heap.size + 1 + 1) 1 (.bool true) (by omega)
        have x6 := e6.put 1 (.bool true)
        have dA0 := x6.cell 0
        have dA1 := x6.cell 1
        have dB0 := x5.cell 0
        have dB1 := x5.cell 1
        have dB2 := x5.frozen 0
        have dB3 := x5.frozen 1
        have xx := (x5.put 0 (.slice (some ⟨g, 0, none⟩) N.length cap)).put 1 (.bool true)
        have HEND : Hid (PRet s.data.toList w (.returned (.tuple #[.agg #[.slice (some ⟨g, 0, none⟩) N.length cap, .bool true], .int .i64 ((0 : Nat) : Int), .int .i64 0])) (((wr.setCell ⟨w.heap.size + 1 + 1, 1, none⟩ (.bool true)).setCell ⟨w.heap.size, 0, none⟩ (.slice (some ⟨g, 0, none⟩) N.length cap)).setCell ⟨w.heap.size, 1, none⟩ (.bool true))) :=
          pret_of HRR.out (kown_mono (own_cell (own_cell (own_cell_ty e7 e6 (by decide) _) (by omega) _) (by omega) _) (by omega)) (((e8.setCell (p := ⟨w.heap.size + 1 + 1, 1, none⟩) (by show w.heap.size ≤ w.heap.size + 1 + 1; omega) _).setCell (p := ⟨w.heap.size, 0, none⟩) (Nat.le_refl _) _).setCell (p := ⟨w.heap.size, 1, none⟩) (Nat.le_refl _) _)
        have HCC : Hid (_ ∧ _) := ⟨xx.cell 0, xx.cell 1⟩
        clear x5 x6 xx e5 e6 e7 e8 y1
        go_wp2_with fail
        obtain ⟨HC0, HC1⟩ := HCC.out
        clear cA0 cA1 fA0 fA1 cB0 cB1 fB0 fB1 dA0 dA1 dB0 dB1 dB2 dB3
        generalize (((wr.setCell ⟨w.heap.size + 1 + 1, 1, none⟩ (.bool true)).setCell ⟨w.heap.size, 0, none⟩ (.slice (some ⟨g, 0, none⟩) N.length cap)).setCell ⟨w.heap.size, 1, none⟩ (.bool true)) = Wf at *
        refine bodyPost_ret (v := .tuple #[.agg #[.slice (some ⟨g, 0, none⟩) N.length cap, .bool true], .int .i64 0, .int .i64 0]) ?_ rfl HEND.out
        simp [results, Tryz.f38, go_sem, HC0, HC1]
      · have b1 : ((y.toNat : Int) == 47) = false := ubeq_ne y1
        have b2 : ¬ (y.toNat : Int) = 47 := by simpa using b1
        rw [decide_eq_false y1, Bool.or_false] at HRR
        have xx := (e5.put 0 (.slice (some ⟨g, 0, none⟩) N.length cap)).put 1 (.bool d')
        have HEND : Hid (PRet s.data.toList w (.returned (.tuple #[.agg #[.slice (some ⟨g, 0, none⟩) N.length cap, .bool d'], .int .i64 ((0 : Nat) : Int), .int .i64 0])) ((wr.setCell ⟨w.heap.size, 0, none⟩ (.slice (some ⟨g, 0, none⟩) N.length cap)).setCell ⟨w.heap.size, 1, none⟩ (.bool d'))) :=
          pret_of HRR.out (kown_mono (own_cell (own_cell e7 (by omega) _) (by omega) _) (by omega)) ((e8.setCell (p := ⟨w.heap.size, 0, none⟩) (Nat.le_refl _) _).setCell (p := ⟨w.heap.size, 1, none⟩) (Nat.le_refl _) _)
        have HCC : Hid (_ ∧ _) := ⟨xx.cell 0, xx.cell 1⟩
        clear xx e5 e6 e7 e8 y1
        go_wp2_with fail
        obtain ⟨HC0, HC1⟩ := HCC.out
        clear cA0 cA1 fA0 fA1 cB0 cB1 fB0 fB1
        generalize ((wr.setCell ⟨w.heap.size, 0, none⟩ (.slice (some ⟨g, 0, none⟩) N.length cap)).setCell ⟨w.heap.size, 1, none⟩ (.bool d')) = Wf at *
        refine bodyPost_ret (v := .tuple #[.agg #[.slice (some ⟨g, 0, none⟩) N.length cap, .bool d'], .int .i64 0, .int .i64 0]) ?_ rfl HEND.out
        simp [results, Tryz.f38, go_sem, HC0, HC1]
end Go.Proofs.YtojnlmfahgeidaaGreatDoor
