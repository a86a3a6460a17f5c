/- The statement of the order in which digits count as numbers. -/
import Derived.Test.YtgpghdhkbliodaaDoorHNaRStr
import Derived.Handy
import Derived.Test.YtgpghdhkbliodaaDoorHNaCmp

namespace Go.Proofs.YtgpghdhkbliodaaDoor
set_option maxRecDepth 20000
open Go Go.RowKit Go.Nam
set_option linter.unusedVariables false
set_option linter.unusedSimpArgs false
theorem cut_list (s : ByteArray) (i n : Nat) (h : i + n ≤ s.size) : (s.extract i (i + n)).data.toList = (s.data.toList.drop i).take n := by
  rw [Lib.extract_data, Nat.add_sub_cancel_left]
theorem bare_le (l : List UInt8) : (bareL l).length ≤ l.length := (List.dropWhile_sublist _).length_le
section
variable (a b : ByteArray)
set_option maxHeartbeats 4000000 in
theorem rdigits_any (ha : a.size ≤ 4611686018427387904) (hb : b.size ≤ 4611686018427387904) (w : World) :
    Calls Tryd.prog 22 #[.string a, .string b] w fun e w' => e = .returned (.int .i64 (digC a.data.toList b.data.toList)) ∧ Below w.heap.size w w' := by
  have HAL : Hid (a.size = a.data.toList.length) := Lib.size_eq a
  have HBL : Hid (b.size = b.data.toList.length) := Lib.size_eq b
  generalize hc : digC a.data.toList b.data.toList = c
  have HC : Hid (digC a.data.toList b.data.toList = c) := hc
  clear hc
  go_enter Tryd.func22, Tryd.ntmps22
  go_wp2_with fail
  go_loopw [5, 6] (fun v5 v6 wr => Hid (∃ i k : Nat, i ≤ a.size ∧ k ≤ b.size ∧ v5 = .int .i64 (i : Int) ∧ v6 = .int .i64 (k : Int) ∧ lx (a.data.toList.drop i) (b.data.toList.drop k) = lx a.data.toList b.data.toList ∧ Below w.heap.size w wr)) (fun v5 _ _ => a.size - (intOf v5).toNat)
  case atStart => exact ⟨0, 0, by omega, by omega, rfl, rfl, by simp, Below.refl _ _⟩
  case round =>
    obtain ⟨i, k, hia, hkb, rfl, rfl, hlx, hbel⟩ := Hid.out hrel
    have HL : Hid (lx (a.data.toList.drop i) (b.data.toList.drop k) = lx a.data.toList b.data.toList) := hlx
    have HB : Hid (Below w.heap.size w wr) := hbel
    clear hrel hlx hbel
    have HV : Hid (∀ v : Int, lx (a.data.toList.drop i) (b.data.toList.drop k) = v → v ≠ 0 → v = c) := fun v h1 h2 => by
      have h6 := HC.out
      have h7 : lexN (encN a.data.toList) (encN b.data.toList) = v := HL.out.symm.trans h1
      unfold digC at h6
      rw [h7, if_pos h2] at h6
      exact h6
    by_cases h1 : i < a.size
    · have i1 : (i : Int) < (a.size : Int) := by omega
      by_cases h2 : k < b.size
      · have i2 : (k : Int) < (b.size : Int) := by omega
        obtain ⟨x0, gx⟩ : ∃ x : UInt8, a[i]'h1 = x := ⟨_, rfl⟩
        obtain ⟨y0, gy⟩ : ∃ x : UInt8, b[k]'h2 = x := ⟨_, rfl⟩
        have hx0 : a.data.toList[i]? = some x0 := by rw [← gx]; exact Lib.data_getElem? a i h1
        have hy0 : b.data.toList[k]? = some y0 := by rw [← gy]; exact Lib.data_getElem? b k h2
        have ea := dropAt hx0
        have eb := dropAt hy0
        obtain ⟨m, hm⟩ : ∃ m, m = stN (a.data.toList.drop i) := ⟨_, rfl⟩
        obtain ⟨n, hn⟩ : ∃ n, n = stN (b.data.toList.drop k) := ⟨_, rfl⟩
        have hml : m ≤ a.size - i := by rw [hm]; have := stN_le (a.data.toList.drop i); rw [List.length_drop, ← HAL.out] at this; exact this
        have hnl : n ≤ b.size - k := by rw [hn]; have := stN_le (b.data.toList.drop k); rw [List.length_drop, ← HBL.out] at this; exact this
        have HS1 : Hid (∀ w : World, Calls Tryd.prog 37 #[.string a, .int .i64 (i : Int)] w fun e w' => e = .returned (.int .i64 (m : Int)) ∧ w' = w) := by
          have := rstretch_any a ha i hia
          rw [← hm] at this
          exact this
        have HS2 : Hid (∀ w : World, Calls Tryd.prog 37 #[.string b, .int .i64 (k : Int)] w fun e w' => e = .returned (.int .i64 (n : Int)) ∧ w' = w) := by
          have := rstretch_any b hb k hkb
          rw [← hn] at this
          exact this
        have hst := lx_step x0 y0 (a.data.toList.drop (i + 1)) (b.data.toList.drop (k + 1))
        rw [← ea, ← eb, ← hm, ← hn] at hst
        by_cases mn : m = 0 ∨ n = 0
        · rw [if_pos mn] at hst
          have HST : Hid (lx (a.data.toList.drop i) (b.data.toList.drop k) = if byteC x0 y0 ≠ 0 then byteC x0 y0 else lx (a.data.toList.drop (i + 1)) (b.data.toList.drop (k + 1))) := hst
          clear hst hm hn ea eb hx0 hy0
          rcases mn with m0 | n0
          · subst m0
            have m1 : ¬ ((0 : Int) < ((0 : Nat) : Int)) := by omega
            go_wp2_with fail
            refine (HS1.out _).mono ?_
            intro e w2 hw2
            obtain ⟨he2, hw2⟩ := hw2
            subst he2
            subst hw2
            go_wp2_with fail
            refine (HS2.out _).mono ?_
            intro e w3 hw3
            obtain ⟨he3, hw3⟩ := hw3
            subst he3
            subst hw3
            by_cases c1 : x0 < y0
            · have l0 : ((x0.toNat : Int) != (y0.toNat : Int)) = true := bne_iff_ne.2 (by have := UInt8.lt_iff_toNat_lt.1 c1; omega)
              have l1 : (x0.toNat : Int) < (y0.toNat : Int) := by have := UInt8.lt_iff_toNat_lt.1 c1; omega
              have hbc : byteC x0 y0 = -1 := if_pos c1
              obtain rfl : -1 = c := HV.out (-1) (by rw [HST.out, hbc]; rfl) (by decide)
              clear c1 hbc
              go_wp2_with fail
              go_quiet (fail)
              have HB5 : Hid (Below w.heap.size w (w3.drewN nq)) := bdrewN HB.out _
              generalize w3.drewN nq = w5 at HB5 ⊢
              go_wp2_with fail
              go_quiet (fail)
              go_wp2_with fail
              go_ret
              exact ⟨rfl, bdrewN HB5.out _⟩
            · by_cases c2 : y0 < x0
              · have l0 : ((x0.toNat : Int) != (y0.toNat : Int)) = true := bne_iff_ne.2 (by have := UInt8.lt_iff_toNat_lt.1 c2; omega)
                have l1 : ¬ ((x0.toNat : Int) < (y0.toNat : Int)) := by have := UInt8.lt_iff_toNat_lt.1 c2; omega
                have hbc : byteC x0 y0 = 1 := by unfold byteC; rw [if_neg c1, if_pos c2]
                obtain rfl : 1 = c := HV.out 1 (by rw [HST.out, hbc]; rfl) (by decide)
                clear c1 c2 hbc
                go_wp2_with fail
                go_quiet (fail)
                have HB5 : Hid (Below w.heap.size w (w3.drewN nq)) := bdrewN HB.out _
                generalize w3.drewN nq = w5 at HB5 ⊢
                go_wp2_with fail
                go_quiet (fail)
                go_wp2_with fail
                go_ret
                exact ⟨rfl, bdrewN HB5.out _⟩
              · have l0 : ((x0.toNat : Int) != (y0.toNat : Int)) = false := by
                  rw [bne_eq_false_iff_eq]
                  have q1 := UInt8.lt_iff_toNat_lt (a := x0) (b := y0)
                  have q2 := UInt8.lt_iff_toNat_lt (a := y0) (b := x0)
                  have : ¬ x0.toNat < y0.toNat := fun h => c1 (q1.2 h)
                  have : ¬ y0.toNat < x0.toNat := fun h => c2 (q2.2 h)
                  omega
                have hbc : byteC x0 y0 = 0 := by unfold byteC; rw [if_neg c1, if_neg c2]
                have HM : Hid (lx (a.data.toList.drop (i + 1)) (b.data.toList.drop (k + 1)) = lx a.data.toList b.data.toList) := by
                  show _ = _
                  rw [← HL.out, HST.out, hbc]; rfl
                clear c1 c2 hbc HST
                go_wp2_with fail
                go_quiet (fail)
                go_wp2_with fail
                go_roundw
                case rel => exact ⟨i + 1, k + 1, by omega, by omega, by first | rfl | go_num | simp, by first | rfl | go_num | simp, HM.out, bdrewN HB.out _⟩
                case measure => simp [intOf]; omega
          · by_cases m0 : m = 0
            · subst m0
              have m1 : ¬ ((0 : Int) < ((0 : Nat) : Int)) := by omega
              go_wp2_with fail
              refine (HS1.out _).mono ?_
              intro e w2 hw2
              obtain ⟨he2, hw2⟩ := hw2
              subst he2
              subst hw2
              go_wp2_with fail
              refine (HS2.out _).mono ?_
              intro e w3 hw3
              obtain ⟨he3, hw3⟩ := hw3
              subst he3
              subst hw3
              by_cases c1 : x0 < y0
              · have l0 : ((x0.toNat : Int) != (y0.toNat : Int)) = true := bne_iff_ne.2 (by have := UInt8.lt_iff_toNat_lt.1 c1; omega)
                have l1 : (x0.toNat : Int) < (y0.toNat : Int) := by have := UInt8.lt_iff_toNat_lt.1 c1; omega
                have hbc : byteC x0 y0 = -1 := if_pos c1
                obtain rfl : -1 = c := HV.out (-1) (by rw [HST.out, hbc]; rfl) (by decide)
                clear c1 hbc
                go_wp2_with fail
                go_quiet (fail)
                have HB5 : Hid (Below w.heap.size w (w3.drewN nq)) := bdrewN HB.out _
                generalize w3.drewN nq = w5 at HB5 ⊢
                go_wp2_with fail
                go_quiet (fail)
                go_wp2_with fail
                go_ret
                exact ⟨rfl, bdrewN HB5.out _⟩
              · by_cases c2 : y0 < x0
                · have l0 : ((x0.toNat : Int) != (y0.toNat : Int)) = true := bne_iff_ne.2 (by have := UInt8.lt_iff_toNat_lt.1 c2; omega)
                  have l1 : ¬ ((x0.toNat : Int) < (y0.toNat : Int)) := by have := UInt8.lt_iff_toNat_lt.1 c2; omega
                  have hbc : byteC x0 y0 = 1 := by unfold byteC; rw [if_neg c1, if_pos c2]
                  obtain rfl : 1 = c := HV.out 1 (by rw [HST.out, hbc]; rfl) (by decide)
                  clear c1 c2 hbc
                  go_wp2_with fail
                  go_quiet (fail)
                  have HB5 : Hid (Below w.heap.size w (w3.drewN nq)) := bdrewN HB.out _
                  generalize w3.drewN nq = w5 at HB5 ⊢
                  go_wp2_with fail
                  go_quiet (fail)
                  go_wp2_with fail
                  go_ret
                  exact ⟨rfl, bdrewN HB5.out _⟩
                · have l0 : ((x0.toNat : Int) != (y0.toNat : Int)) = false := by
                    rw [bne_eq_false_iff_eq]
                    have q1 := UInt8.lt_iff_toNat_lt (a := x0) (b := y0)
                    have q2 := UInt8.lt_iff_toNat_lt (a := y0) (b := x0)
                    have : ¬ x0.toNat < y0.toNat := fun h => c1 (q1.2 h)
                    have : ¬ y0.toNat < x0.toNat := fun h => c2 (q2.2 h)
                    omega
                  have hbc : byteC x0 y0 = 0 := by unfold byteC; rw [if_neg c1, if_neg c2]
                  have HM : Hid (lx (a.data.toList.drop (i + 1)) (b.data.toList.drop (k + 1)) = lx a.data.toList b.data.toList) := by
                    show _ = _
                    rw [← HL.out, HST.out, hbc]; rfl
                  clear c1 c2 hbc HST
                  go_wp2_with fail
                  go_quiet (fail)
                  go_wp2_with fail
                  go_roundw
                  case rel => exact ⟨i + 1, k + 1, by omega, by omega, by first | rfl | go_num | simp, by first | rfl | go_num | simp, HM.out, bdrewN HB.out _⟩
                  case measure => simp [intOf]; omega
            · subst n0
              have m1 : (0 : Int) < (m : Int) := by omega
              have n1 : ¬ ((0 : Int) < ((0 : Nat) : Int)) := by omega
              go_wp2_with fail
              refine (HS1.out _).mono ?_
              intro e w2 hw2
              obtain ⟨he2, hw2⟩ := hw2
              subst he2
              subst hw2
              go_wp2_with fail
              refine (HS2.out _).mono ?_
              intro e w3 hw3
              obtain ⟨he3, hw3⟩ := hw3
              subst he3
              subst hw3
              by_cases c1 : x0 < y0
              · have l0 : ((x0.toNat : Int) != (y0.toNat : Int)) = true := bne_iff_ne.2 (by have := UInt8.lt_iff_toNat_lt.1 c1; omega)
                have l1 : (x0.toNat : Int) < (y0.toNat : Int) := by have := UInt8.lt_iff_toNat_lt.1 c1; omega
                have hbc : byteC x0 y0 = -1 := if_pos c1
                obtain rfl : -1 = c := HV.out (-1) (by rw [HST.out, hbc]; rfl) (by decide)
                clear c1 hbc
                go_wp2_with fail
                go_quiet (fail)
                have HB5 : Hid (Below w.heap.size w (w3.drewN nq)) := bdrewN HB.out _
                generalize w3.drewN nq = w5 at HB5 ⊢
                go_wp2_with fail
                go_quiet (fail)
                go_wp2_with fail
                go_ret
                exact ⟨rfl, bdrewN HB5.out _⟩
              · by_cases c2 : y0 < x0
                · have l0 : ((x0.toNat : Int) != (y0.toNat : Int)) = true := bne_iff_ne.2 (by have := UInt8.lt_iff_toNat_lt.1 c2; omega)
                  have l1 : ¬ ((x0.toNat : Int) < (y0.toNat : Int)) := by have := UInt8.lt_iff_toNat_lt.1 c2; omega
                  have hbc : byteC x0 y0 = 1 := by unfold byteC; rw [if_neg c1, if_pos c2]
                  obtain rfl : 1 = c := HV.out 1 (by rw [HST.out, hbc]; rfl) (by decide)
                  clear c1 c2 hbc
                  go_wp2_with fail
                  go_quiet (fail)
                  have HB5 : Hid (Below w.heap.size w (w3.drewN nq)) := bdrewN HB.out _
                  generalize w3.drewN nq = w5 at HB5 ⊢
                  go_wp2_with fail
                  go_quiet (fail)
                  go_wp2_with fail
                  go_ret
                  exact ⟨rfl, bdrewN HB5.out _⟩
                · have l0 : ((x0.toNat : Int) != (y0.toNat : Int)) = false := by
                    rw [bne_eq_false_iff_eq]
                    have q1 := UInt8.lt_iff_toNat_lt (a := x0) (b := y0)
                    have q2 := UInt8.lt_iff_toNat_lt (a := y0) (b := x0)
                    have : ¬ x0.toNat < y0.toNat := fun h => c1 (q1.2 h)
                    have : ¬ y0.toNat < x0.toNat := fun h => c2 (q2.2 h)
                    omega
                  have hbc : byteC x0 y0 = 0 := by unfold byteC; rw [if_neg c1, if_neg c2]
                  have HM : Hid (lx (a.data.toList.drop (i + 1)) (b.data.toList.drop (k + 1)) = lx a.data.toList b.data.toList) := by
                    show _ = _
                    rw [← HL.out, HST.out, hbc]; rfl
                  clear c1 c2 hbc HST
                  go_wp2_with fail
                  go_quiet (fail)
                  go_wp2_with fail
                  go_roundw
                  case rel => exact ⟨i + 1, k + 1, by omega, by omega, by first | rfl | go_num | simp, by first | rfl | go_num | simp, HM.out, bdrewN HB.out _⟩
                  case measure => simp [intOf]; omega
        · rw [if_neg mn] at hst
          have m1 : (0 : Int) < (m : Int) := by omega
          have n1 : (0 : Int) < (n : Int) := by omega
          have hxl := cut_list a i m (by omega)
          have hyl := cut_list b k n (by omega)
          have HB1 : Hid (∀ w : World, Calls Tryd.prog 38 #[.string (a.extract i (i + m))] w fun e w' => e = .returned (.string ⟨(bareL ((a.data.toList.drop i).take m)).toArray⟩) ∧ w' = w) := fun w => by
            have := bare_any (a.extract i (i + m)) w
            rw [hxl] at this; exact this
          have HB2 : Hid (∀ w : World, Calls Tryd.prog 38 #[.string (b.extract k (k + n))] w fun e w' => e = .returned (.string ⟨(bareL ((b.data.toList.drop k).take n)).toArray⟩) ∧ w' = w) := fun w => by
            have := bare_any (b.extract k (k + n)) w
            rw [hyl] at this; exact this
          clear hxl hyl
          obtain ⟨bx, hbx⟩ : ∃ bx, bx = bareL ((a.data.toList.drop i).take m) := ⟨_, rfl⟩
          obtain ⟨by_, hby⟩ : ∃ bx, bx = bareL ((b.data.toList.drop k).take n) := ⟨_, rfl⟩
          have hnu : numC ((a.data.toList.drop i).take m) ((b.data.toList.drop k).take n) = if bx.length < by_.length then -1 else if by_.length < bx.length then 1 else Lib.compareBytes bx by_ := by rw [hbx, hby]; rfl
          rw [← hbx] at HB1
          rw [← hby] at HB2
          rw [hnu, List.drop_drop, List.drop_drop] at hst
          have HST : Hid (_ = _) := hst
          have lbx : bx.length ≤ 4611686018427387904 := by rw [hbx]; refine Nat.le_trans (bare_le _) ?_; rw [List.length_take]; omega
          have lby : by_.length ≤ 4611686018427387904 := by rw [hby]; refine Nat.le_trans (bare_le _) ?_; rw [List.length_take]; omega
          clear hst hnu hm hn ea eb hx0 hy0 hbx hby
          have zx : (⟨bx.toArray⟩ : ByteArray).size = bx.length := Lib.size_mk _
          have zy : (⟨by_.toArray⟩ : ByteArray).size = by_.length := Lib.size_mk _
          have HRC : Hid (∀ w : World, Calls Tryd.prog 39 #[.string ⟨bx.toArray⟩, .string ⟨by_.toArray⟩] w fun e w' => e = .returned (.int .i64 (Lib.compareBytes bx by_)) ∧ ∃ n, w' = w.drewN n) := fun w => by
            have := rcompare_any ⟨bx.toArray⟩ ⟨by_.toArray⟩ (by rw [zx]; omega) (by rw [zy]; omega) w
            simpa using this
          have heq : (⟨bx.toArray⟩ : ByteArray).toList = bx ∧ (⟨by_.toArray⟩ : ByteArray).toList = by_ := by
            rw [Lib.toList_data, Lib.toList_data]; simp
          have hcz : Lib.compareBytes bx by_ = 0 ↔ bx = by_ := cmp_zero
          obtain ⟨X, hX⟩ : ∃ X, a.extract i (i + m) = X := ⟨_, rfl⟩
          obtain ⟨Y, hY⟩ : ∃ X, b.extract k (k + n) = X := ⟨_, rfl⟩
          rw [hX] at HB1
          rw [hY] at HB2
          obtain ⟨BX, hBX⟩ : ∃ X, (⟨bx.toArray⟩ : ByteArray) = X := ⟨_, rfl⟩
          obtain ⟨BY, hBY⟩ : ∃ X, (⟨by_.toArray⟩ : ByteArray) = X := ⟨_, rfl⟩
          rw [hBX] at HB1 zx HRC heq
          rw [hBY] at HB2 zy HRC heq
          clear hBX hBY
          have HEQ : Hid (_ ∧ _) := ⟨heq, hcz⟩
          clear heq hcz
          have hwm : IntKind.i64.wrap ((i : Int) + (m : Int)) = (i : Int) + (m : Int) := wrap_small _ (by omega) (by omega)
          have hwn : IntKind.i64.wrap ((k : Int) + (n : Int)) = (k : Int) + (n : Int) := wrap_small _ (by omega) (by omega)
          have r3 : (i : Int) ≤ (i : Int) + (m : Int) := by omega
          have r4 : (k : Int) ≤ (k : Int) + (n : Int) := by omega
          have r1 : ((i : Int) + (m : Int)) ≤ (a.size : Int) := by omega
          have r2 : ((k : Int) + (n : Int)) ≤ (b.size : Int) := by omega
          go_wp2_with fail
          refine (HS1.out _).mono ?_
          intro e w2 hw2
          obtain ⟨he2, hw2⟩ := hw2
          subst he2
          subst hw2
          go_wp2_with fail
          refine (HS2.out _).mono ?_
          intro e w3 hw3
          obtain ⟨he3, hw3⟩ := hw3
          subst he3
          subst hw3
          go_wp2_with fail
          go_quiet (first | (go_at_call_of 38 (Value.string X); refine Calls.quiet_of_same (HB1.out _)) | (go_at_call_of 38 (Value.string Y); refine Calls.quiet_of_same (HB2.out _)))
          have HB5 : Hid (Below w.heap.size w (w3.drewN nq)) := bdrewN HB.out _
          generalize w3.drewN nq = w5 at HB5 ⊢
          have lz : Hid (BX.size = bx.length ∧ BY.size = by_.length) := ⟨zx, zy⟩
          by_cases c1 : bx.length < by_.length
          · have d1 : ((BX.size : Int) != (BY.size : Int)) = true := bne_iff_ne.2 (by omega)
            have d2 : (BX.size : Int) < (BY.size : Int) := by omega
            obtain rfl : -1 = c := HV.out (-1) (by rw [HST.out, if_pos c1]; rfl) (by decide)
            clear zx zy
            go_wp2_with fail
            go_ret
            exact ⟨rfl, HB5.out⟩
          · by_cases c2 : by_.length < bx.length
            · have d1 : ((BX.size : Int) != (BY.size : Int)) = true := bne_iff_ne.2 (by omega)
              have d2 : ¬ ((BX.size : Int) < (BY.size : Int)) := by omega
              obtain rfl : 1 = c := HV.out 1 (by rw [HST.out, if_neg c1, if_pos c2]; rfl) (by decide)
              clear zx zy
              go_wp2_with fail
              go_ret
              exact ⟨rfl, HB5.out⟩
            · have d1 : ((BX.size : Int) != (BY.size : Int)) = false := by rw [bne_eq_false_iff_eq]; omega
              clear zx zy
              by_cases hq : bx = by_
              · have hbq : (BX.toList == BY.toList) = true := by rw [HEQ.out.1.1, HEQ.out.1.2, hq]; simp
                have HM : Hid (lx (a.data.toList.drop (i + m)) (b.data.toList.drop (k + n)) = lx a.data.toList b.data.toList) := by
                  show _ = _
                  rw [← HL.out, HST.out, if_neg c1, if_neg c2, if_neg (by simp [HEQ.out.2.2 hq])]
                clear hq
                go_wp2_with fail
                go_roundw
                case rel => exact ⟨i + m, k + n, by omega, by omega, by first | rfl | go_num | simp, by first | rfl | go_num | simp, HM.out, HB5.out⟩
                case measure => simp [intOf]; omega
              · have hbq : (BX.toList == BY.toList) = false := by rw [HEQ.out.1.1, HEQ.out.1.2]; simpa using hq
                have hne : Lib.compareBytes bx by_ ≠ 0 := fun h => hq (HEQ.out.2.1 h)
                obtain rfl : Lib.compareBytes bx by_ = c := HV.out _ (by rw [HST.out, if_neg c1, if_neg c2, if_pos hne]) hne
                clear hq hne
                go_wp2_with fail
                refine (HRC.out _).mono ?_
                intro e w6 hw6
                obtain ⟨he6, hw6⟩ := hw6
                subst he6
                have HB6 : Hid (Below w.heap.size w w6) := by
                  obtain ⟨q, rfl⟩ := hw6
                  exact bdrewN HB5.out q
                clear hw6
                go_wp2_with fail
                go_ret
                exact ⟨rfl, HB6.out⟩
      · have hk : b.size ≤ k := by omega
        have i2 : ¬ ((k : Int) < (b.size : Int)) := by omega
        have hne : lx (a.data.toList.drop i) (b.data.toList.drop k) = 1 := by
          rw [List.drop_eq_nil_of_le (show b.data.toList.length ≤ k by rw [← HBL.out]; exact hk), lx_nil_right, List.drop_eq_getElem_cons (show i < a.data.toList.length by rw [← HAL.out]; exact h1)]; rfl
        obtain rfl : 1 = c := HV.out 1 hne (by decide)
        clear hne
        go_wp2_with fail
        go_ret
        exact ⟨rfl, HB.out⟩
    · have i1 : ¬ ((i : Int) < (a.size : Int)) := by omega
      by_cases h2 : k < b.size
      · have i2 : (k : Int) < (b.size : Int) := by omega
        have hne : lx (a.data.toList.drop i) (b.data.toList.drop k) = -1 := by
          rw [List.drop_eq_nil_of_le (show a.data.toList.length ≤ i by rw [← HAL.out]; omega), lx_nil_left, List.drop_eq_getElem_cons (show k < b.data.toList.length by rw [← HBL.out]; exact h2)]; rfl
        obtain rfl : -1 = c := HV.out (-1) hne (by decide)
        clear hne
        go_wp2_with fail
        go_ret
        exact ⟨rfl, HB.out⟩
      · have i2 : ¬ ((k : Int) < (b.size : Int)) := by omega
        obtain rfl : Lib.compareBytes a.data.toList b.data.toList = c := by
          have h6 := HC.out
          unfold digC at h6
          have h7 : lexN (encN a.data.toList) (encN b.data.toList) = 0 := by
            refine HL.out.symm.trans ?_
            rw [List.drop_eq_nil_of_le (show a.data.toList.length ≤ i by rw [← HAL.out]; omega), List.drop_eq_nil_of_le (show b.data.toList.length ≤ k by rw [← HBL.out]; omega)]; rfl
          rw [h7] at h6
          simpa using h6
        have HRC : Hid (∀ w : World, Calls Tryd.prog 39 #[.string a, .string b] w fun e w' => e = .returned (.int .i64 (Lib.compareBytes a.data.toList b.data.toList)) ∧ ∃ n, w' = w.drewN n) := rcompare_any a b ha hb
        go_wp2_with fail
        refine (HRC.out _).mono ?_
        intro e w6 hw6
        obtain ⟨he6, hw6⟩ := hw6
        subst he6
        have HB6 : Hid (Below w.heap.size w w6) := by
          obtain ⟨q, rfl⟩ := hw6
          exact bdrewN HB.out q
        clear hw6
        go_wp2_with fail
        go_ret
        exact ⟨rfl, HB6.out⟩
end
end Go.Proofs.YtgpghdhkbliodaaDoor

namespace Go.Proofs.YtgpghdhkbliodaaDoor
set_option maxRecDepth 20000
open Go Go.RowKit Go.Nam
set_option linter.unusedVariables false
set_option linter.unusedSimpArgs false
theorem same_text (a b : ByteArray) : (a.toList == b.toList) = decide (a.data.toList = b.data.toList) := by
  rw [Lib.toList_data, Lib.toList_data]
  by_cases h : a.data.toList = b.data.toList
  · rw [decide_eq_true h, h]; simp
  · rw [decide_eq_false h]; simpa using h
set_option maxHeartbeats 4000000 in
theorem nameDigitsLaw (a b c : ByteArray) (ha : a.size ≤ 140737488355327) (hb : b.size ≤ 140737488355327) (hc : c.size ≤ 140737488355327) (w : World) :
    Calls Tryd.prog 6 #[.string a, .string b, .string c] w fun e w' => e = .returned (.bool true) ∧ Below w.heap.size w w' := by
  have HA : Hid (∀ w : World, Calls Tryd.prog 11 #[] w fun e w' => e = .returned (.bool true) ∧ Below w.heap.size w w') := awake13_any
  have H1 : Hid (∀ w : World, Calls Tryd.prog 21 #[.string a, .string b] w fun e w' => e = .returned (.int .i64 (digC a.data.toList b.data.toList)) ∧ Below w.heap.size w w') := digits_any a b (by omega) (by omega)
  have H2 : Hid (∀ w : World, Calls Tryd.prog 21 #[.string b, .string c] w fun e w' => e = .returned (.int .i64 (digC b.data.toList c.data.toList)) ∧ Below w.heap.size w w') := digits_any b c (by omega) (by omega)
  have H3 : Hid (∀ w : World, Calls Tryd.prog 21 #[.string a, .string c] w fun e w' => e = .returned (.int .i64 (digC a.data.toList c.data.toList)) ∧ Below w.heap.size w w') := digits_any a c (by omega) (by omega)
  have H4 : Hid (∀ w : World, Calls Tryd.prog 21 #[.string b, .string a] w fun e w' => e = .returned (.int .i64 (-(digC a.data.toList b.data.toList))) ∧ Below w.heap.size w w') := by
    show ∀ w : World, _
    rw [← digC_flip]
    exact digits_any b a (by omega) (by omega)
  have HR : Hid (∀ w : World, Calls Tryd.prog 22 #[.string a, .string b] w fun e w' => e = .returned (.int .i64 (digC a.data.toList b.data.toList)) ∧ Below w.heap.size w w') := rdigits_any a b (by omega) (by omega)
  have hone := digC_one a.data.toList b.data.toList
  have hz := digC_zero a.data.toList b.data.toList
  have ht := digC_trans a.data.toList b.data.toList c.data.toList
  have hst := same_text a b
  have hdd : decide (a.data.toList = b.data.toList) = decide (digC a.data.toList b.data.toList = 0) := decide_eq_decide.2 hz.symm
  rw [hdd] at hst
  clear hdd hz
  generalize digC a.data.toList b.data.toList = x at *
  generalize digC b.data.toList c.data.toList = y at *
  generalize digC a.data.toList c.data.toList = z at *
  clear ha hb hc
  have hw : IntKind.i64.wrap (-x) = -x := by rcases hone with rfl | rfl | rfl <;> decide
  have hw2 : wrap64 (-x) = -x := by unfold wrap64; omega
  have hxx : (x != x) = false := by simp
  have hnn : (-x != -x) = false := by simp
  have hbx : ∃ q : Bool, (x == 0) = q ∧ (a.toList == b.toList) = q := ⟨_, rfl, by rw [hst]; by_cases h : x = 0 <;> simp [h]⟩
  obtain ⟨q, hq1, hq2⟩ := hbx
  clear hst hone
  have hqq : (q != q) = false := by simp
  go_enter Tryd.func6, Tryd.ntmps6
  go_wp2_with fail
  refine (H1.out _).mono ?_
  intro e w1 hw1
  obtain ⟨he1, hb1⟩ := hw1
  subst he1
  go_wp2_with fail
  refine (H2.out _).mono ?_
  intro e w2 hv2
  obtain ⟨he2, hc2⟩ := hv2
  subst he2
  have hb2 := hb1.trans (hc2.mono hb1.size)
  clear hb1 hc2
  go_wp2_with fail
  refine (H3.out _).mono ?_
  intro e w3 hv3
  obtain ⟨he3, hc3⟩ := hv3
  subst he3
  have hb3 := hb2.trans (hc3.mono hb2.size)
  clear hb2 hc3
  go_wp2_with fail
  refine (HA.out _).mono ?_
  intro e w4 hv4
  obtain ⟨he4, hc4⟩ := hv4
  subst he4
  have hb4 := hb3.trans (hc4.mono hb3.size)
  clear hb3 hc4
  go_wp2_with fail
  refine (HR.out _).mono ?_
  intro e w5 hv5
  obtain ⟨he5, hc5⟩ := hv5
  subst he5
  have hb5 := hb4.trans (hc5.mono hb4.size)
  clear hb4 hc5
  go_wp2_with fail
  refine (H4.out _).mono ?_
  intro e w6 hv6
  obtain ⟨he6, hc6⟩ := hv6
  subst he6
  have HB6 : Hid (Below w.heap.size w w6) := hb5.trans (hc6.mono hb5.size)
  clear hb5 hc6
  have HT : Hid (x ≤ 0 → y ≤ 0 → z ≤ 0) := ht
  clear ht
  by_cases h1 : x ≤ 0
  · by_cases h2 : y ≤ 0
    · have h3 : z ≤ 0 := HT.out h1 h2
      go_wp2_with fail
      go_ret
      exact ⟨rfl, HB6.out⟩
    · go_wp2_with fail
      go_ret
      exact ⟨rfl, HB6.out⟩
  · go_wp2_with fail
    go_ret
    exact ⟨rfl, HB6.out⟩
end Go.Proofs.YtgpghdhkbliodaaDoor
