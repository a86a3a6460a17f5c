/- The statement of patterns of paths. -/
import Derived.Test.YthoohhokoeihiabDoorHPaRParse
import Derived.Test.YthoohhokoeihiabDoorHPaRMat
import Derived.Test.YthoohhokoeihiabDoorHPaParse2
import Derived.Test.YthoohhokoeihiabDoorHPaMatch
import Derived.Handy

namespace Go.Proofs.YthoohhokoeihiabDoor
open Go Go.RowKit Go.Shelf
set_option linter.unusedVariables false
set_option linter.unusedSimpArgs false
set_option maxRecDepth 100000 in
set_option maxHeartbeats 4000000 in
theorem rparse_any (s : ByteArray) (w : World) : Calls Tryd.prog 19 #[.string s] w fun e w' => PRet s.data.toList w e w' := by
  have hb : Below w.heap.size w (w.alloc (.cells #[.slice none 0 0, .bool false] 40)) := (Below.refl _ w).alloc (Nat.le_refl _) _
  have k0 := Blk.new w 40 #[.slice none 0 0, .bool false]
  have c0 := k0.cell 0
  have c1 := k0.cell 1
  by_cases h1 : s.size ≤ 1024
  · by_cases h2 : s.data.toList[0]? = some 47
    · exact rparse_main s h1 h2 w
    · have hz : (s.size : Int) ≤ 1024 := by omega
      have HR : Hid (PRet s.data.toList w (.returned (.tuple #[.agg #[.slice none 0 0, .bool false], .int .i64 ((0 : Nat) : Int), .int .i64 180])) (w.alloc (.cells #[.slice none 0 0, .bool false] 40))) := by
        refine pret_of (N := []) ?_ (World.ownsRow_nil _ _ _ _) hb
        unfold prs
        rw [if_neg (by rw [← Lib.size_eq]; omega), if_neg h2]
      have htl : s.toList = s.data.toList := Lib.toList_data s
      by_cases h3 : s.data.toList = []
      · have t0 : s.toList = [] := htl.trans h3
        have q0 : s.toList.isEmpty = true := by rw [t0]; rfl
        clear h2 h3 htl
        go_enter Tryd.func19, Tryd.ntmps19
        go_wp2_with fail
        generalize w.alloc (.cells #[.slice none 0 0, .bool false] 40) = Wf at *
        refine bodyPost_ret (v := .tuple #[.agg #[.slice none 0 0, .bool false], .int .i64 0, .int .i64 180]) ?_ rfl HR.out
        simp [results, Tryd.f19, go_sem, c0, c1]
      · have t0 : ¬ s.toList = [] := by rw [htl]; exact h3
        have q0 : s.toList.isEmpty = false := by simpa using t0
        have hpos : 0 < s.size := by rw [Lib.size_eq]; exact List.length_pos_iff.2 h3
        have x0 := Lib.data_getElem? s 0 hpos
        have x1 : (s[0]'hpos) ≠ 47 := fun e => h2 (by rw [x0, e])
        have b1 : (((s[0]'hpos).toNat : Int) == 47) = false := ubeq_ne x1
        have b2 : ¬ ((s[0]'hpos).toNat : Int) = 47 := by simpa using b1
        clear h2 h3 htl x0 x1
        go_enter Tryd.func19, Tryd.ntmps19
        go_wp2_with fail
        generalize w.alloc (.cells #[.slice none 0 0, .bool false] 40) = Wf at *
        refine bodyPost_ret (v := .tuple #[.agg #[.slice none 0 0, .bool false], .int .i64 0, .int .i64 180]) ?_ rfl HR.out
        simp [results, Tryd.f19, go_sem, c0, c1]
  · have hz : (1024 : Int) < (s.size : Int) := by omega
    have HR : Hid (PRet s.data.toList w (.returned (.tuple #[.agg #[.slice none 0 0, .bool false], .int .i64 ((1024 : Nat) : Int), .int .i64 181])) (w.alloc (.cells #[.slice none 0 0, .bool false] 40))) := by
      refine pret_of (N := []) ?_ (World.ownsRow_nil _ _ _ _) hb
      unfold prs
      rw [if_pos (by rw [← Lib.size_eq]; omega)]
    go_enter Tryd.func19, Tryd.ntmps19
    go_wp2_with fail
    generalize w.alloc (.cells #[.slice none 0 0, .bool false] 40) = Wf at *
    refine bodyPost_ret (v := .tuple #[.agg #[.slice none 0 0, .bool false], .int .i64 1024, .int .i64 181]) ?_ rfl HR.out
    simp [results, Tryd.f19, go_sem, c0, c1]
end Go.Proofs.YthoohhokoeihiabDoor

namespace Go.Proofs.YthoohhokoeihiabDoor
open Go Go.RowKit Go.Shelf Go.Nam
set_option linter.unusedVariables false
set_option linter.unusedSimpArgs false
theorem rparseD_at (s : ByteArray) {N : List ByteArray} {d : Bool} {i : Nat} {z : Int} (hp : prs s.data.toList = (N, d, i, z)) (w : World) : Calls Tryd.prog 19 #[.string s] w fun e w' => ∃ (a : Option Addr) (c : Nat), e = .returned (.tuple #[.agg #[.slice a N.length c, .bool d], .int .i64 (i : Int), .int .i64 z]) ∧ w'.ownsRow w.heap.size 9 1 (.slice a N.length c) N.length (N.map Value.string) ∧ Below w.heap.size w w' := by
  refine (rparse_any s w).mono ?_
  rintro e w' ⟨v, he, ho, hb⟩
  rw [hp] at he ho
  obtain ⟨a, c, rfl⟩ := kown_slice ho
  exact ⟨a, c, he, ho, hb⟩
/-- at the head of the first loop -/
def QJ (B : Nat) (W1 : World) (L : List UInt8) (u : Value) (i : Nat) (wr : World) : Prop :=
  ∃ (pre : List (Nat × ByteArray)) (g cap : Nat), u = .slice (some ⟨g, 0, none⟩) pre.length cap ∧ pts L 0 = pre ++ pts L i ∧ pre.length ≤ i ∧ wr.ownsRow B 9 1 (.slice (some ⟨g, 0, none⟩) pre.length cap) pre.length (pre.map fun x => Value.string x.2) ∧ Below B W1 wr
theorem pts_size {l : List UInt8} : ∀ {i : Nat} (x : Nat × ByteArray), x ∈ pts l i → x.2.size ≤ l.length := by
  have key : ∀ (n i : Nat), l.length - i ≤ n → ∀ x ∈ pts l i, x.2.size ≤ l.length := by
    intro n
    induction n with
    | zero => intro i h x hx; rw [pts_end (by omega)] at hx; cases hx
    | succ n ih =>
      intro i h x hx
      by_cases hi : i < l.length
      · by_cases hs : segL l i = []
        · rw [pts_skip hi hs] at hx
          exact ih (i + 1) (by omega) x hx
        · rw [pts_part hi hs] at hx
          rcases List.mem_cons.1 hx with rfl | hx
          · show (bsL (segL l i)).size ≤ _
            rw [bsL_size]
            have := segL_le l i
            omega
          · exact ih _ (by omega) x hx
      · rw [pts_end (by omega)] at hx
        cases hx
  intro i x hx
  exact key _ i (Nat.le_refl _) x hx
theorem allM_len : ∀ {X : List (Nat × ByteArray)} {N : List ByteArray}, AllM X N → X.length = N.length
  | [], [], _ => rfl
  | _ :: _, _ :: _, h => congrArg (· + 1) (allM_len h.2)
  | [], _ :: _, h => h.elim
  | _ :: _, [], h => h.elim
set_option maxRecDepth 100000 in
set_option maxHeartbeats 4000000 in
theorem rmatch_main (P s : ByteArray) (hP : P.size ≤ 3000) {N : List ByteArray} {d : Bool} {i : Nat} (hp : prs s.data.toList = (N, d, i, 0)) (hN32 : N.length ≤ 32) (hNs : ∀ x ∈ N, x.size ≤ 56) (h47 : P.data.toList[0]? = some 47) (mb : Bool) (hmb : mb = true ↔ AllM (pts P.data.toList 0) N) (w : World) :
    Calls Tryd.prog 7 #[.string P, .string s] w fun e w' => e = .returned (.bool mb) ∧ Below w.heap.size w w' := by
  have HP := rparseD_at s hp
  have HMB : Hid (mb = true ↔ AllM (pts P.data.toList 0) N) := hmb
  have HNs : Hid (∀ x ∈ N, x.size ≤ 56) := hNs
  have HSL : Hid (P.size = P.data.toList.length) := Lib.size_eq P
  have hpos : 0 < P.size := by rw [HSL.out]; exact (List.getElem?_eq_some_iff.1 h47).1
  have HTL : Hid (P.toList = P.data.toList) := Lib.toList_data P
  have t0 : ¬ P.toList = [] := by rw [HTL.out]; intro e; rw [e] at h47; cases h47
  have q0 : P.toList.isEmpty = false := by simpa using t0
  have x0 := Lib.data_getElem? P 0 hpos
  rw [h47] at x0
  injection x0 with x0
  have hb0 : ((P[0]'hpos).toNat : Int) = 47 := by rw [← x0]; rfl
  have hz0 : (0 : Int) < (P.size : Int) := by omega
  clear hp h47 hmb hNs
  go_enter Tryd.func7, Tryd.ntmps7
  go_wp2_with fail
  refine (HP _).mono ?_
  rintro e w1 ⟨a, c, rfl, ho1, hb1⟩
  have HO : Hid (_ ∧ _) := ⟨ho1, hb1⟩
  clear ho1 hb1
  have HS : Hid (QJ (w1.heap.size + 1) (w1.alloc (.cells #[.slice a N.length c, .bool d] 40)) P.data.toList (.slice (some ⟨w1.heap.size + 1, 0, none⟩) 0 0) 0 ((w1.alloc (.cells #[.slice a N.length c, .bool d] 40)).alloc (.cells #[] 9))) := by
    refine ⟨[], w1.heap.size + 1, 0, rfl, rfl, by simp, ?_, (Below.refl _ _).alloc (by simp) _⟩
    have := Blk.new (w1.alloc (.cells #[.slice a N.length c, .bool d] 40)) 9 #[]
    rw [World.size_alloc] at this
    exact kown_empty this (Nat.le_refl _)
  have HNN : Hid (IsN (w1.alloc (.cells #[.slice a N.length c, .bool d] 40)) a N ∧ Blk (w1.alloc (.cells #[.slice a N.length c, .bool d] 40)) w1.heap.size 40 #[.slice a N.length c, .bool d] ∧ Below w.heap.size w (w1.alloc (.cells #[.slice a N.length c, .bool d] 40)) ∧ (w1.alloc (.cells #[.slice a N.length c, .bool d] 40)).heap.size = w1.heap.size + 1) :=
    ⟨(own_isN HO.out.1).below ((Below.refl _ w1).alloc (Nat.le_refl _) _), Blk.new _ _ _, HO.out.2.alloc HO.out.2.size _, by simp⟩
  have hcap := own_capD HO.out.1
  clear HO
  go_wp2_with fail
  generalize (w1.alloc (.cells #[.slice a N.length c, .bool d] 40)).alloc (.cells #[] 9) = W2 at *
  generalize (w1.alloc (.cells #[.slice a N.length c, .bool d] 40)) = W1 at *
  obtain ⟨B, hB⟩ : ∃ B, w1.heap.size + 1 = B := ⟨_, rfl⟩
  rw [hB] at HS HNN
  clear hb0 x0
  rw [hB]
  go_loopw [8, 9] (fun u v wr => Hid (∃ (i : Nat) (u2 : Value), v = .int .i64 (i : Int) ∧ i ≤ P.size ∧ u2 = u ∧ QJ B W1 P.data.toList u2 i wr)) (fun u v wr => P.size - (intOf v).toNat)
  case atStart => exact ⟨0, _, rfl, by omega, rfl, HS.out⟩
  case round =>
    obtain ⟨i, u, rfl, hin, rfl, hRJ⟩ := Hid.out hrel
    clear hrel HS
    have HR : Hid (QJ B W1 P.data.toList u i wr) := hRJ
    clear hRJ
    by_cases hi : i < P.size
    · have hiz : (i : Int) < (P.size : Int) := by omega
      have hxl := Lib.data_getElem? P i hi
      obtain ⟨x, hx⟩ : ∃ x : UInt8, P[i]'hi = x := ⟨_, rfl⟩
      rw [hx] at hxl
      have HX : Hid (P.data.toList[i]? = some x) := hxl
      clear hxl
      by_cases x1 : x = 47
      · have b1 : ((x.toNat : Int) == 47) = true := by rw [x1]; rfl
        have b2 : (x.toNat : Int) = 47 := by rw [x1]; rfl
        have HN : Hid (QJ B W1 P.data.toList u (i + 1) wr) := by
          have hX := HX.out
          rw [x1] at hX
          obtain ⟨pre, g, cap, e1, e2, e3, e4, e5⟩ := HR.out
          exact ⟨pre, g, cap, e1, by rw [e2, pts_slash hX], by omega, e4, e5⟩
        clear x1
        go_wp2_with fail
        go_roundw
        case rel => exact ⟨i + 1, _, by first | rfl | go_num | simp, by omega, rfl, HN.out⟩
        case measure => simp [intOf]; omega
      · have b1 : ((x.toNat : Int) == 47) = false := ubeq_ne x1
        have b2 : ¬ (x.toNat : Int) = 47 := by simpa using b1
        have hseg : segL P.data.toList i ≠ [] := by rw [segL_byte HX.out x1]; simp
        obtain ⟨n, hn⟩ : ∃ n, (segL P.data.toList i).length = n := ⟨_, rfl⟩
        have hns : i + n ≤ P.size := by have := segL_le P.data.toList i; rw [hn, ← HSL.out] at this; omega
        have HSG : Hid ((segL P.data.toList i).length = n ∧ segL P.data.toList i ≠ []) := ⟨hn, hseg⟩
        have hn0 : 0 < n := by rw [← hn]; exact List.length_pos_iff.2 hseg
        clear x1 hn hseg
        go_wp2_with fail
        go_loop [9] (fun v => Hid (∃ k : Nat, i ≤ k ∧ k ≤ i + n ∧ v = .int .i64 (k : Int))) (fun v => P.size - (intOf v).toNat)
        case atStart => exact ⟨i, Nat.le_refl _, by omega, rfl⟩
        case round =>
          obtain ⟨k, hk1, hk2, rfl⟩ := Hid.out hrel
          clear hrel
          by_cases hk : k < i + n
          · have hks : k < P.size := by omega
            have hkz : (k : Int) < (P.size : Int) := by omega
            have hyl := Lib.data_getElem? P k hks
            obtain ⟨y, hy⟩ : ∃ y : UInt8, P[k]'hks = y := ⟨_, rfl⟩
            rw [hy] at hyl
            obtain ⟨y', hy1, hy2⟩ := segL_in P.data.toList i (k - i) (by rw [HSG.out.1]; omega)
            rw [show i + (k - i) = k by omega, hyl] at hy1
            injection hy1 with hy1
            have hy3 : y ≠ 47 := by rw [hy1]; exact hy2
            have c1 : ((y.toNat : Int) == 47) = false := ubeq_ne hy3
            have c2 : ¬ (y.toNat : Int) = 47 := by simpa using c1
            clear hy1 hy2 hy3 hyl
            go_wp2_with fail
            go_round
            case rel => exact ⟨k + 1, by omega, by omega, by first | rfl | go_num | simp⟩
            case measure => simp [intOf]; omega
          · have hkn : k = i + n := by omega
            have hkz2 : (k : Int) ≤ (P.size : Int) := by omega
            have hki : (i : Int) ≤ (k : Int) := by omega
            have hmeas : i < k := by omega
            by_cases hke : k = P.size
            · have hkz : ¬ (k : Int) < (P.size : Int) := by omega
              clear hk hke
              obtain ⟨p, hpe⟩ : ∃ p, P.extract i k = p := ⟨_, rfl⟩
              have HPE : Hid (bsL (segL P.data.toList i) = p) := by
                show bsL _ = p
                rw [← hpe, hkn, ← HSG.out.1, ba_seg]
              have HIL : Hid (i < P.data.toList.length) := by show i < _; rw [← HSL.out]; exact hi
              have HKN : Hid (k = i + n) := hkn
              clear hkn
              obtain ⟨pre, g, cap, rfl, e1, e2, e7, e8⟩ := HR.out
              obtain ⟨m, hm⟩ : ∃ m, pre.length = m := ⟨_, rfl⟩
              have HM : Hid (pre.length = m) := hm
              rw [hm] at e2 e7
              rw [hm]
              clear hm
              obtain ⟨i0, hi0, hz0, hz1, hz2⟩ := info_parts infoStr
              have HOW1 : Hid ((wr.alloc (.cells #[.string p] 9)).ownsRow B 9 1 (.slice (some ⟨g, 0, none⟩) m cap) m (pre.map fun x => Value.string x.2)) := e7.alloc _
              have HY1 : Hid (_ ∧ _) := ⟨e1, e8⟩
              have hBw : B ≤ wr.heap.size := by have h1 := e8.size; have h2 := HNN.out.2.2.2; omega
              have hnew := cell_one_new wr (.string p) 9
              clear e1 e7 e8 HR
              go_wp2_with (first
                | (at_builtin; refine wpList_append_own _ rfl _ _ 29 rfl B 9 i0 (.string ⟨#[]⟩) 1 16 Tryd.underlying29 hi0 hz0 hz1 hz2 rfl (by decide) _ _ _ rfl HOW1.out ⟨wr.heap.size, 0, none⟩ 1 1 [.string p] rfl rfl hnew (fun y hy => by simp at hy; subst hy; rfl) (by unfold maxLen; omega) (by omega) (by simp; omega) ?_)
                | fail)
              rintro v2 w2 hown2 hgrow2 -
              obtain ⟨g2, cap2, rfl⟩ := ownsRow_succ hown2
              obtain ⟨e1, y8⟩ := HY1.out
              have z8 := below_row HOW1.out hgrow2 (y8.alloc hBw _) (Nat.le_refl _) (by simp; omega)
              have HZ : Hid (_ ∧ _ ∧ _) := ⟨e1, z8, hown2⟩
              clear e1 y8 z8 hown2 hgrow2 HOW1 HY1 hnew
              go_wp2_with fail
              go_roundw
              case rel =>
                obtain ⟨e1, z8, hown2⟩ := HZ.out
                have hl2 : (pre ++ [(i, p)]).length = m + 1 := by rw [List.length_append, HM.out]; rfl
                refine ⟨k, _, by first | rfl | go_num | simp, by omega, rfl, pre ++ [(i, p)], g2, cap2, by rw [hl2], ?_, by rw [hl2]; omega, ?_, z8⟩
                · rw [e1, pts_part HIL.out HSG.out.2, HKN.out, ← HSG.out.1, pts_behind, HPE.out]; simp
                · rw [hl2, List.map_append]; exact hown2
              case measure => simp [intOf]; omega
            · have hks : k < P.size := by omega
              have hkz : (k : Int) < (P.size : Int) := by omega
              have hy1 : (P[k]'hks) = 47 := by
                have := Lib.data_getElem? P k hks
                rcases segL_next P.data.toList i with h | h
                · rw [HSG.out.1, ← hkn, this] at h; cases h
                · rw [HSG.out.1, ← hkn, this] at h; injection h
              have c1 : (((P[k]'hks).toNat : Int) == 47) = true := by rw [hy1]; rfl
              have c2 : ((P[k]'hks).toNat : Int) = 47 := by rw [hy1]; rfl
              clear hk hke hy1
              obtain ⟨p, hpe⟩ : ∃ p, P.extract i k = p := ⟨_, rfl⟩
              have HPE : Hid (bsL (segL P.data.toList i) = p) := by
                show bsL _ = p
                rw [← hpe, hkn, ← HSG.out.1, ba_seg]
              have HIL : Hid (i < P.data.toList.length) := by show i < _; rw [← HSL.out]; exact hi
              have HKN : Hid (k = i + n) := hkn
              clear hkn
              obtain ⟨pre, g, cap, rfl, e1, e2, e7, e8⟩ := HR.out
              obtain ⟨m, hm⟩ : ∃ m, pre.length = m := ⟨_, rfl⟩
              have HM : Hid (pre.length = m) := hm
              rw [hm] at e2 e7
              rw [hm]
              clear hm
              obtain ⟨i0, hi0, hz0, hz1, hz2⟩ := info_parts infoStr
              have HOW1 : Hid ((wr.alloc (.cells #[.string p] 9)).ownsRow B 9 1 (.slice (some ⟨g, 0, none⟩) m cap) m (pre.map fun x => Value.string x.2)) := e7.alloc _
              have HY1 : Hid (_ ∧ _) := ⟨e1, e8⟩
              have hBw : B ≤ wr.heap.size := by have h1 := e8.size; have h2 := HNN.out.2.2.2; omega
              have hnew := cell_one_new wr (.string p) 9
              clear e1 e7 e8 HR
              go_wp2_with (first
                | (at_builtin; refine wpList_append_own _ rfl _ _ 29 rfl B 9 i0 (.string ⟨#[]⟩) 1 16 Tryd.underlying29 hi0 hz0 hz1 hz2 rfl (by decide) _ _ _ rfl HOW1.out ⟨wr.heap.size, 0, none⟩ 1 1 [.string p] rfl rfl hnew (fun y hy => by simp at hy; subst hy; rfl) (by unfold maxLen; omega) (by omega) (by simp; omega) ?_)
                | fail)
              rintro v2 w2 hown2 hgrow2 -
              obtain ⟨g2, cap2, rfl⟩ := ownsRow_succ hown2
              obtain ⟨e1, y8⟩ := HY1.out
              have z8 := below_row HOW1.out hgrow2 (y8.alloc hBw _) (Nat.le_refl _) (by simp; omega)
              have HZ : Hid (_ ∧ _ ∧ _) := ⟨e1, z8, hown2⟩
              clear e1 y8 z8 hown2 hgrow2 HOW1 HY1 hnew
              go_wp2_with fail
              go_roundw
              case rel =>
                obtain ⟨e1, z8, hown2⟩ := HZ.out
                have hl2 : (pre ++ [(i, p)]).length = m + 1 := by rw [List.length_append, HM.out]; rfl
                refine ⟨k, _, by first | rfl | go_num | simp, by omega, rfl, pre ++ [(i, p)], g2, cap2, by rw [hl2], ?_, by rw [hl2]; omega, ?_, z8⟩
                · rw [e1, pts_part HIL.out HSG.out.2, HKN.out, ← HSG.out.1, pts_behind, HPE.out]; simp
                · rw [hl2, List.map_append]; exact hown2
              case measure => simp [intOf]; omega
    · obtain rfl : P.size = i := by omega
      have hiz : ¬ (P.size : Int) < (P.size : Int) := by omega
      obtain ⟨pre, g, cap, rfl, e1, e2, e7, e8⟩ := HR.out
      rw [pts_end (l := P.data.toList) (i := P.size) (by rw [← HSL.out]; exact Nat.le_refl _), List.append_nil] at e1
      have HM0 : Hid (mb = true ↔ AllM pre N) := by have := HMB.out; rwa [e1] at this
      have HPR : Hid (pts P.data.toList 0 = pre) := e1
      clear HMB HR e1
      obtain ⟨n1, k1, b1, s1⟩ := HNN.out
      have n2 := n1.below (s1 ▸ e8)
      have k2 := k1.below e8 (by have := k1.lt; omega)
      have c2 := k2.cell 0
      have bw : Below w.heap.size w wr := b1.trans (e8.mono (s1 ▸ b1.size))
      have p2 : IsN wr (some ⟨g, 0, none⟩) (pre.map Prod.snd) := own_isN (m := pre.length) (c := cap) (n := pre.length) (B := B) (by
        rw [List.map_map]
        exact e7)
      have HE : Hid (_ ∧ _ ∧ _ ∧ _) := ⟨n2, k2, bw, p2⟩
      have hcap2 := own_capD e7
      have HPs : Hid (∀ x ∈ pre, x.2.size ≤ 3000) := fun x hx => Nat.le_trans (pts_size (l := P.data.toList) (i := 0) x (HPR.out ▸ hx)) (by rw [← HSL.out]; exact hP)
      clear n1 k1 b1 s1 n2 k2 bw e7 e8 HNN p2
      by_cases hlen : pre.length = N.length
      · have hlz : ((pre.length : Int) != (N.length : Int)) = false := by rw [hlen]; simp
        have hlb : (pre.length : Int) = (N.length : Int) := by rw [hlen]
        go_wp2_with fail
        go_loopw [68] (fun v wr2 => Hid (∃ j : Nat, j ≤ N.length ∧ v = .int .i64 (j : Int) ∧ IsN wr2 a N ∧ Blk wr2 w1.heap.size 40 #[.slice a N.length c, .bool d] ∧ Below w.heap.size w wr2 ∧ IsN wr2 (some ⟨g, 0, none⟩) (pre.map Prod.snd) ∧ (mb = true ↔ AllM (pre.drop j) (N.drop j)))) (fun v wr2 => N.length - (intOf v).toNat)
        case atStart => exact ⟨0, by omega, rfl, HE.out.1, HE.out.2.1, HE.out.2.2.1, HE.out.2.2.2, HM0.out⟩
        case round =>
          rename World => wr2
          obtain ⟨j, hj, rfl, n2, k2, bw, p2, hM⟩ := Hid.out hrel
          clear hrel HE HM0 c2
          by_cases hjn : j < N.length
          · have hjz : (j : Int) < (N.length : Int) := by omega
            have hj0 : (0 : Int) ≤ (j : Int) := by omega
            have hjp : j < pre.length := by omega
            obtain ⟨ga, oa, rfl, hga, cna⟩ := n2.at hjn
            obtain ⟨gb, ob, hgb, hgb2, cnb⟩ := p2.at (j := j) (by rw [List.length_map]; exact hjp)
            cases hgb
            rw [List.getElem_map, Nat.zero_add] at cnb
            obtain ⟨x, hx⟩ : ∃ x, (pre[j]'hjp).2 = x := ⟨_, rfl⟩
            obtain ⟨y, hy⟩ : ∃ y, N[j]'hjn = y := ⟨_, rfl⟩
            have hxs : x.size ≤ 3000 := by rw [← hx]; exact HPs.out _ (List.getElem_mem _)
            have hys : y.size ≤ 56 := by rw [← hy]; exact HNs.out _ (List.getElem_mem _)
            rw [List.drop_eq_getElem_cons hjp, List.drop_eq_getElem_cons hjn] at hM
            have hM2 : mb = true ↔ Mat x.data.toList y.data.toList ∧ AllM (pre.drop (j + 1)) (N.drop (j + 1)) := by rw [← hx, ← hy]; exact hM
            rw [hx] at cnb
            rw [hy] at cna
            clear hM
            obtain ⟨m2, hm2⟩ : ∃ m2 : Bool, m2 = true ↔ Mat x.data.toList y.data.toList := by
              by_cases h : Mat x.data.toList y.data.toList
              · exact ⟨true, by simp [h]⟩
              · exact ⟨false, by simp [h]⟩
            have HMt : Hid (∀ w : World, Calls Tryd.prog 20 #[.string x, .string y] w fun e w' => e = .returned (.bool m2) ∧ Below w.heap.size w w') := fun w => matches18_any x y hxs (by omega) m2 hm2 w
            have ck := k2.cell 0
            have HI : Hid (_ ∧ _ ∧ _ ∧ _ ∧ _ ∧ _) := ⟨n2, k2, bw, p2, hM2, hm2⟩
            clear n2 k2 bw p2 hM2 hm2 hx hy hga hgb2
            go_wp2_with fail
            go_region_with (go_at_call 20; refine (HMt.out _).mono ?_; rintro e w5 ⟨rfl, hb5⟩)
            all_goals
              obtain ⟨n2, k2, bw, p2, hM2, hm2⟩ := HI.out
              have n5 := IsN.below (show IsN wr2.drew _ _ from n2) hb5
              have k5 := k2.drew.below hb5 k2.lt
              have b5 : Below w.heap.size w w5 := bw.drew.trans (hb5.mono bw.size)
              have p5 := IsN.below (show IsN wr2.drew _ _ from p2) hb5
              clear n2 k2 bw p2
              cases m2
              · obtain rfl : mb = false := by
                  cases mb
                  · rfl
                  · exact absurd (hm2.2 (hM2.1 rfl).1) (by simp)
                clear hM2 hm2 HI
                go_wp2_with fail
                go_ret
                exact ⟨rfl, b5⟩
              · have HN : Hid (mb = true ↔ AllM (pre.drop (j + 1)) (N.drop (j + 1))) := by
                  show _ ↔ _
                  rw [hM2]
                  exact ⟨fun h => h.2, fun h => ⟨hm2.1 rfl, h⟩⟩
                clear hM2 hm2 HI
                have HF : Hid (_ ∧ _ ∧ _ ∧ _) := ⟨n5, k5, b5, p5⟩
                clear n5 k5 b5 p5
                go_wp2_with fail
                go_roundw
                case rel => exact ⟨j + 1, by omega, by first | rfl | go_num | simp, HF.out.1, HF.out.2.1, HF.out.2.2.1, HF.out.2.2.2, HN.out⟩
                case measure => simp [intOf]; omega
          · obtain rfl : j = N.length := by omega
            have hjz : ¬ (N.length : Int) < (N.length : Int) := by omega
            obtain rfl : mb = true := hM.2 (by rw [List.drop_length, ← hlen, List.drop_length]; trivial)
            clear hM n2 k2 p2
            go_wp2_with fail
            go_ret
            exact ⟨rfl, bw⟩
      · have hlz : ((pre.length : Int) != (N.length : Int)) = true := by simp; omega
        have hlb : ¬ (pre.length : Int) = (N.length : Int) := by omega
        obtain rfl : mb = false := by
          cases mb
          · rfl
          · exact absurd (allM_len (HM0.out.1 rfl)) hlen
        clear HM0
        go_wp2_with fail
        go_ret
        exact ⟨rfl, HE.out.2.2.1⟩
end Go.Proofs.YthoohhokoeihiabDoor

namespace Go.Proofs.YthoohhokoeihiabDoor
open Go Go.RowKit Go.Shelf
set_option linter.unusedVariables false
set_option linter.unusedSimpArgs false
theorem prs_awake : prs [47, 97, 47, 47, 98, 47, 46, 47, 99, 47, 46, 46, 47, 100] = ([⟨#[97]⟩, ⟨#[98]⟩, ⟨#[100]⟩], false, 0, 0) := by kernel_rfl
set_option maxRecDepth 100000 in
set_option maxHeartbeats 4000000 in
theorem awake18_any (w : World) : Calls Tryd.prog 5 #[] w fun e w' => e = .returned (.bool true) ∧ Below w.heap.size w w' := by
  have HX : Hid (∀ w : World, Calls Tryd.prog 10 #[.string ⟨#[47, 97, 47, 47, 98, 47, 46, 47, 99, 47, 46, 46, 47, 100]⟩] w fun e w' => ∃ g cap, e = .returned (.tuple #[.agg #[.slice (some ⟨g, 0, none⟩) 3 cap, .bool false], .int .i64 0, .int .i64 0]) ∧ w'.cell? ⟨g, 2, none⟩ = some (.string ⟨#[100]⟩) ∧ g < w'.heap.size ∧ Below w.heap.size w w') := fun w => by
    refine (parse_any _ w).mono ?_
    rintro e w' ⟨v, he, ho, hb⟩
    have e1 : prs ((⟨#[47, 97, 47, 47, 98, 47, 46, 47, 99, 47, 46, 46, 47, 100]⟩ : ByteArray).data.toList) = ([⟨#[97]⟩, ⟨#[98]⟩, ⟨#[100]⟩], false, 0, 0) := prs_awake
    rw [e1] at he ho
    obtain ⟨g, cap, rfl⟩ := ownsRow_succ ho
    exact ⟨g, cap, he, ho.cellAt 2 (by decide), (ho.lt g rfl).2, hb⟩
  go_enter Tryd.func5, Tryd.ntmps5
  go_wp2_with fail
  refine (HX.out _).mono ?_
  rintro e w9 ⟨g, cap, rfl, hc, hg, hb⟩
  have hb2 := hb.alloc hb.size (.cells #[.slice (some ⟨g, 0, none⟩) 3 cap, .bool false] 31)
  have hc2 : (w9.alloc (.cells #[.slice (some ⟨g, 0, none⟩) 3 cap, .bool false] 31)).cell? ⟨g, 2, none⟩ = some (.string ⟨#[100]⟩) := (((Below.refl _ w9).alloc (Nat.le_refl _) _).cell (p := ⟨g, 2, none⟩) hg).trans hc
  go_wp2_with fail
  go_ret
  exact ⟨rfl, hb2⟩
end Go.Proofs.YthoohhokoeihiabDoor

namespace Go.Proofs.YthoohhokoeihiabDoor
open Go Go.RowKit Go.Shelf Go.Nam
set_option linter.unusedVariables false
set_option linter.unusedSimpArgs false
attribute [local go_sem] Oper.semAt_some
theorem runD_good : ∀ (X : List (Nat × ByteArray)) (N : List ByteArray) (d : Bool), N.length ≤ 32 → (∀ x ∈ N, x.size ≤ 56) → (runP N d X).1.length ≤ 32 ∧ ∀ x ∈ (runP N d X).1, x.size ≤ 56
  | [], N, d, h1, h2 => ⟨h1, h2⟩
  | x :: X, N, d, h1, h2 => by
    by_cases hb : badE N x.2 = 0
    · rw [runP_good hb]
      refine runD_good X _ _ ?_ ?_
      · unfold nxtN
        unfold badE at hb
        split
        · exact h1
        split
        · rw [List.length_dropLast]; omega
        · rename_i q1 q2
          rw [if_neg q1, if_neg q2] at hb
          rw [List.length_append]
          split at hb
          · split at hb
            · cases hb
            · show _ + 1 ≤ _; omega
          · cases hb
      · unfold nxtN
        unfold badE at hb
        split
        · exact h2
        split
        · exact fun y hy => h2 y (List.dropLast_subset _ hy)
        · rename_i q1 q2
          rw [if_neg q1, if_neg q2] at hb
          intro y hy
          rcases List.mem_append.1 hy with hy | hy
          · exact h2 y hy
          · rw [List.mem_singleton] at hy
            subst hy
            split at hb
            · rename_i q3
              rw [Lib.size_eq]
              exact (isName_len q3).2
            · cases hb
    · rw [runP_bad hb]
      exact ⟨by simp, by simp⟩
theorem prsD_good (l : List UInt8) : (prs l).1.length ≤ 32 ∧ ∀ x ∈ (prs l).1, x.size ≤ 56 := by
  unfold prs
  split
  · exact ⟨by simp, by simp⟩
  split
  · split
    · exact runD_good _ _ _ (by simp) (by simp)
    · exact ⟨by simp, by simp⟩
  · exact ⟨by simp, by simp⟩
set_option maxRecDepth 100000 in
set_option maxHeartbeats 4000000 in
theorem pmatch_no (P s : ByteArray) {N : List ByteArray} {d : Bool} {i : Nat} {z : Int} (hp : prs s.data.toList = (N, d, i, z)) (hno : z ≠ 0 ∨ P.data.toList[0]? ≠ some 47) (w : World) :
    Calls Tryd.prog 6 #[.string P, .string s] w fun e w' => e = .returned (.bool false) ∧ Below w.heap.size w w' := by
  have HP := parseD_at s hp
  have B0 : Below w.heap.size w (w.alloc (.cells #[.bool false] 4)) := (Below.refl _ w).alloc (Nat.le_refl _) _
  have kr0 := Blk.new w 4 #[.bool false]
  refine (callsIn_wide (n := 4)).1 ?_
  refine callsIn_of_wp_marks Tryd.func6 rfl trivial ?_ rfl
  simp only [Tryd.ntmps6, List.size_toArray, List.length_cons, List.length_nil, Nat.reduceAdd, Nat.reduceSub, Array.replicate_succ, Array.replicate_zero, List.push_toArray, List.append_toArray, List.nil_append, List.cons_append]
  have HI0 : Hid (_ ∧ _) := ⟨kr0, B0⟩
  clear kr0 B0 hp
  gi_wp2
  refine ⟨trivial, ?_⟩
  refine (callsIn_wide.2 (HP _)).mono ?_
  rintro e w1 ⟨a, c, rfl, ho1, hb1⟩
  obtain ⟨kr0, B0⟩ := HI0.out
  have al1 := hb1.alloc hb1.size (.cells #[.slice a N.length c, .bool d] 31)
  have kr1 := kr0.below al1 kr0.lt
  have B1 := B0.trans (al1.mono B0.size)
  have kf := kr1.put 0 (.bool false)
  have Bf := B1.setCell (p := ⟨w.heap.size, 0, none⟩) (Nat.le_refl _) (.bool false)
  have c1 := kr1.cell 0
  have f1 := kr1.frozen 0
  have r0 := kf.cell 0
  have HI : Hid (_ ∧ _) := ⟨r0, Bf⟩
  clear HI0 kr0 B0 al1 kr1 B1 ho1 hb1 kf Bf r0
  by_cases hz : z = 0
  · subst hz
    have h47 : P.data.toList[0]? ≠ some 47 := hno.resolve_left (fun h => h rfl)
    have HX : Hid (∀ w : World, Calls Tryd.prog 16 #[.string P, .string ⟨#[47]⟩] w fun e w' => e = .returned (.bool false) ∧ w' = w) := fun w => by
      have := prefix_any P w
      rwa [decide_eq_false h47] at this
    clear hno h47
    gi_wp2
    refine ⟨trivial, ?_⟩
    refine (callsIn_wide.2 (HX.out _)).mono ?_
    rintro e w9 ⟨rfl, hw9⟩
    subst w9
    gi_wp2
    obtain ⟨r0, Bf⟩ := HI.out
    refine ⟨.bool false, ?_, rfl, Bf⟩
    simp [results, Tryd.f6, go_sem, r0]
  · have hzb : (z == 0) = false := by simpa using hz
    have hzn : (z != 0) = true := by simpa using hz
    clear hno
    gi_wp2
    refine ⟨trivial, ?_⟩
    gi_wp2
    obtain ⟨r0, Bf⟩ := HI.out
    refine ⟨.bool false, ?_, rfl, Bf⟩
    simp [results, Tryd.f6, go_sem, r0]
set_option maxRecDepth 100000 in
set_option maxHeartbeats 4000000 in
theorem rmatch_no (P s : ByteArray) {N : List ByteArray} {d : Bool} {i : Nat} {z : Int} (hP : P.size ≤ 3000) (hp : prs s.data.toList = (N, d, i, z)) (hno : z ≠ 0 ∨ P.data.toList[0]? ≠ some 47) (w : World) :
    Calls Tryd.prog 7 #[.string P, .string s] w fun e w' => e = .returned (.bool false) ∧ Below w.heap.size w w' := by
  have HP := rparseD_at s hp
  clear hp
  go_enter Tryd.func7, Tryd.ntmps7
  go_wp2_with fail
  refine (HP _).mono ?_
  rintro e w1 ⟨a, c, rfl, ho1, hb1⟩
  have HB : Hid (Below w.heap.size w (w1.alloc (.cells #[.slice a N.length c, .bool d] 40))) := hb1.alloc hb1.size _
  clear ho1 hb1
  by_cases hz : z = 0
  · subst hz
    have h47 : P.data.toList[0]? ≠ some 47 := hno.resolve_left (fun h => h rfl)
    have HTL : Hid (P.toList = P.data.toList) := Lib.toList_data P
    clear hno
    by_cases h0 : P.size = 0
    · have t0 : P.toList = [] := by rw [HTL.out]; exact List.length_eq_zero_iff.1 (by rw [← Lib.size_eq]; exact h0)
      have q0 : P.toList.isEmpty = true := by rw [t0]; rfl
      clear h47
      go_wp2_with fail
      go_ret
      exact ⟨rfl, HB.out⟩
    · have hpos : 0 < P.size := by omega
      have t0 : ¬ P.toList = [] := by rw [HTL.out]; intro e; rw [Lib.size_eq, e] at h0; exact h0 rfl
      have q0 : P.toList.isEmpty = false := by simpa using t0
      have x0 := Lib.data_getElem? P 0 hpos
      rw [x0] at h47
      have hb0 : ¬ ((P[0]'hpos).toNat : Int) = 47 := by
        have := ubeq_ne (a := P[0]'hpos) (b := 47) (fun e => h47 (by rw [e]))
        simpa using this
      have hz0 : (0 : Int) < (P.size : Int) := by omega
      clear h47 x0
      go_wp2_with fail
      go_ret
      exact ⟨rfl, HB.out⟩
  · have hzb : (z == 0) = false := by simpa using hz
    have hzn : (z != 0) = true := by simpa using hz
    clear hno
    go_wp2_with fail
    go_ret
    exact ⟨rfl, HB.out⟩
theorem both_at (P s : ByteArray) (hP : P.size ≤ 3000) : ∃ mb : Bool, (∀ w : World, Calls Tryd.prog 6 #[.string P, .string s] w fun e w' => e = .returned (.bool mb) ∧ Below w.heap.size w w') ∧ (∀ w : World, Calls Tryd.prog 7 #[.string P, .string s] w fun e w' => e = .returned (.bool mb) ∧ Below w.heap.size w w') := by
  obtain ⟨N, d, i, z, hp⟩ : ∃ N d i z, prs s.data.toList = (N, d, i, z) := ⟨_, _, _, _, rfl⟩
  by_cases hno : z ≠ 0 ∨ P.data.toList[0]? ≠ some 47
  · exact ⟨false, pmatch_no P s hp hno, rmatch_no P s hP hp hno⟩
  · obtain rfl : z = 0 := Classical.byContradiction fun h => hno (.inl h)
    have h47 : P.data.toList[0]? = some 47 := Classical.byContradiction fun h => hno (.inr h)
    have hg := prsD_good s.data.toList
    rw [hp] at hg
    obtain ⟨mb, hmb⟩ : ∃ mb : Bool, mb = true ↔ AllM (pts P.data.toList 0) N := by
      by_cases h : AllM (pts P.data.toList 0) N
      · exact ⟨true, by simp [h]⟩
      · exact ⟨false, by simp [h]⟩
    exact ⟨mb, pmatch_main P s hP hp hg.1 hg.2 h47 mb hmb, rmatch_main P s hP hp hg.1 hg.2 h47 mb hmb⟩
set_option maxHeartbeats 4000000 in
theorem pathMatchesLaw (P s : ByteArray) (hP2 : P.size ≤ 140737488355327) (w : World) :
    Calls Tryd.prog 3 #[.string P, .string s] w fun e w' => e = .returned (.bool true) ∧ Below w.heap.size w w' := by
  have HA : Hid (∀ w : World, Calls Tryd.prog 5 #[] w fun e w' => e = .returned (.bool true) ∧ Below w.heap.size w w') := awake18_any
  by_cases hP : P.size ≤ 3000
  · obtain ⟨mb, h1, h2⟩ := both_at P s hP
    have HM : Hid (∀ w : World, Calls Tryd.prog 6 #[.string P, .string s] w fun e w' => e = .returned (.bool mb) ∧ Below w.heap.size w w') := h1
    have HR : Hid (∀ w : World, Calls Tryd.prog 7 #[.string P, .string s] w fun e w' => e = .returned (.bool mb) ∧ Below w.heap.size w w') := h2
    clear h1 h2
    have hz : ¬ (3000 : Int) < (P.size : Int) := by omega
    go_enter Tryd.func3, Tryd.ntmps3
    go_wp2_with fail
    refine (HA.out _).mono ?_
    intro e w2 hw2
    obtain ⟨he2, hw2⟩ := hw2
    subst he2
    go_wp2_with fail
    refine (HM.out _).mono ?_
    intro e w3 hw3
    obtain ⟨he3, hw3⟩ := hw3
    subst he3
    have hb3 : Below w.heap.size w w3 := hw2.trans (hw3.mono hw2.size)
    clear hw2 hw3
    go_wp2_with fail
    refine (HR.out _).mono ?_
    intro e w4 hw4
    obtain ⟨he4, hw4⟩ := hw4
    subst he4
    have hb4 : Below w.heap.size w w4 := hb3.trans (hw4.mono hb3.size)
    clear hb3 hw4
    have hbb : (mb == mb) = true := by simp
    go_wp2_with fail
    go_ret
    exact ⟨rfl, hb4⟩
  · have hz : (3000 : Int) < (P.size : Int) := by omega
    go_enter Tryd.func3, Tryd.ntmps3
    go_wp2_with fail
    refine (HA.out _).mono ?_
    intro e w2 hw2
    obtain ⟨he2, hw2⟩ := hw2
    subst he2
    go_wp2_with fail
    go_ret
    exact ⟨rfl, hw2⟩
end Go.Proofs.YthoohhokoeihiabDoor
