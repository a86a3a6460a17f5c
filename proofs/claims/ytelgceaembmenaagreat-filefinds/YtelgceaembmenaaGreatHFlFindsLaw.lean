/- The statement FileFinds: its walk. -/
import Derived.Test.YtelgceaembmenaaGreatHFlShiftsLaw
import Derived.Test.YtelgceaembmenaaGreatHFlHoM
import Derived.Handy

namespace Go.Proofs.YtelgceaembmenaaGreat
open Go Go.RowKit
set_option linter.unusedSimpArgs false
set_option linter.unusedVariables false
section
variable {w V : World} {x mf ml mc : Nat} {cp : Option Addr}
theorem FB.holes {s : ByteArray} (h : FB w V x mf ml mc cp s.size (tbyte s)) : Calls Tryz.prog 13 #[.pointer (some ⟨x, 0, none⟩), .int .i64 2] V fun e w' => ∃ v, e = .returned (.tuple #[v, .int .i64 0]) ∧ w'.ownsRow V.heap.size 47 2 v (hoL (zeS s) ((s.size + 255) / 256)).length (ruL (hoL (zeS s) ((s.size + 255) / 256))) ∧ FB w w' x mf ml mc cp s.size (tbyte s) := by
  have h0 := h
  obtain ⟨H, D, st, hI, hf, hG, h4, h5⟩ := h
  have e : zeB D 2 = zeS s := funext fun q => ze_text hf (fun _ _ => rfl) q
  have := hI.holesF hf
  rw [e] at this
  refine this.mono ?_
  rintro e w' ⟨⟨v, rfl, hv⟩, hb⟩
  exact ⟨v, rfl, hv, h0.below hb⟩
theorem FB.findAt {z : Nat} {G : Nat → Nat} (h : FB w V x mf ml mc cp z G) (a : Nat) (ha : a ≤ 9223372036854775807) (t : ByteArray) (ht : t.size ≤ 20000) : Calls Tryz.prog 12 #[.pointer (some ⟨x, 0, none⟩), .int .i64 2, .int .i64 (a : Int), .string t] V fun e w' => ∃ re, e = .returned (.tuple #[.int .i64 re, .int .i64 0]) ∧ FnK t G z a re ∧ FB w w' x mf ml mc cp z G := by
  have h0 := h
  obtain ⟨H, D, st, hI, hf, hG, h4, h5⟩ := h
  refine (hI.findF hf t (by omega) a ha).mono ?_
  rintro e w' ⟨⟨re, rfl, hre⟩, hb⟩
  exact ⟨re, rfl, hre, h0.below hb⟩
theorem FB.findBad {z : Nat} {G : Nat → Nat} (h : FB w V x mf ml mc cp z G) (a : Int) (ha : a < 0) (t : ByteArray) : Calls Tryz.prog 12 #[.pointer (some ⟨x, 0, none⟩), .int .i64 2, .int .i64 a, .string t] V fun e w' => e = .returned (.tuple #[.int .i64 0, .int .i64 1]) ∧ FB w w' x mf ml mc cp z G := by
  have h0 := h
  obtain ⟨H, D, st, hI, hf, hG, h4, h5⟩ := h
  refine (hI.findBadF hf a ha t).mono ?_
  rintro e w' ⟨rfl, hb⟩
  exact ⟨rfl, h0.below hb⟩
end
theorem fn_at {t s : ByteArray} {b i : Nat} {re : Int} (h : FnK t (tbyte s) s.size b re) (hi : b ≤ i) (hz : i + t.size ≤ s.size) (ha : AtK (tbyte t) (tbyte s) t.size i) (hn : ∀ q, b ≤ q → q < i → ¬ AtK (tbyte t) (tbyte s) t.size q) : re = (i : Int) := by
  rcases h with ⟨p, h1, h2, h3, h4, h5⟩ | ⟨_, h5⟩
  · rcases Nat.lt_trichotomy p i with c | c | c
    · exact absurd h4 (hn p h2 c)
    · rw [h1, c]
    · exact absurd ha (h5 i hi c)
  · exact absurd ha (h5 i hi hz)
theorem fn_none {t s : ByteArray} {b : Nat} {re : Int} (h : FnK t (tbyte s) s.size b re) (hn : ∀ q, b ≤ q → q + t.size ≤ s.size → ¬ AtK (tbyte t) (tbyte s) t.size q) : re = -1 := by
  rcases h with ⟨p, h1, h2, h3, h4, h5⟩ | ⟨h1, _⟩
  · exact absurd h4 (hn p h2 h3)
  · exact h1
theorem ex_at {t s : ByteArray} {i : Nat} (hz : i + t.size ≤ s.size) : ((s.extract i (i + t.size)).toList == t.toList) = true ↔ AtK (tbyte t) (tbyte s) t.size i := by
  have hsz : (s.extract i (i + t.size)).size = t.size := by rw [extract_size _ _ _ hz]; omega
  constructor
  · intro h j hj
    have e := fk_text (eq_of_beq h)
    rw [← tbyte_extract s i (i + t.size) j hz (by omega), e]
  · intro h
    have e : s.extract i (i + t.size) = t := text_ext hsz fun j hj => by
      rw [hsz] at hj
      rw [tbyte_extract s i (i + t.size) j hz (by omega)]
      exact h j hj
    rw [e]
    exact beq_self_eq_true _
theorem fd_eq (x y : Int) (w : World) : (Op.equalIn 10000 47 (.agg #[.int .i64 x, .int .i64 y]) (.agg #[.int .i64 x, .int .i64 y])).run Tryz.prog w = .ok true w := by
  have h1 : ∀ (d : Nat) (a : Int), (Op.equalIn (d + 1) 3 (.int .i64 a) (.int .i64 a)).run Tryz.prog w = .ok true w := fun d a => by simp [Op.equalIn, run_underlying Tryz.underlying3]
  have p1 : (part 3 #[.int .i64 x, .int .i64 y] 0).run Tryz.prog w = .ok (.int .i64 x) w := part_int _ _ Tryz.underlying3 _ _ _ (by rfl) w
  have p2 : (part 3 #[.int .i64 x, .int .i64 y] 1).run Tryz.prog w = .ok (.int .i64 y) w := part_int _ _ Tryz.underlying3 _ _ _ (by rfl) w
  exact run_eq_two (d := 9999) (by kernel_rfl) (by kernel_rfl) (by kernel_rfl) p1 p1 p2 p2 (h1 9998 x) (h1 9998 y)
/-- the cells of stretches that were told -/
theorem ru_cells {W V' : World} {B n cap : Nat} {ad : Option Addr} {L : List (Nat × Nat)} (hv : W.ownsRow B 47 2 (.slice ad n cap) L.length (ruL L)) (hb : Below W.heap.size W V') (j : Nat) (r : Nat × Nat) (hj : L[j]? = some r) : ∃ g, ad = some ⟨g, 0, none⟩ ∧ V'.cell? ⟨g, j * 2, none⟩ = some (.int .i64 ((r.1 : Nat) : Int)) ∧ V'.cell? ⟨g, j * 2 + 1, none⟩ = some (.int .i64 ((r.2 : Nat) : Int)) := by
  have hjl : j < L.length := (List.getElem?_eq_some_iff.1 hj).1
  have hv' := kown_below hv hb
  obtain ⟨g, c, e, h1, h2⟩ := kown_form hv' (by omega)
  injection e with e1 e2 e3
  subst e1
  rw [e2] at hv'
  refine ⟨g, rfl, ?_, ?_⟩
  · rw [hv'.cellAt (j * 2) (by omega)]
    exact (ruL_at L j r hj).1
  · rw [hv'.cellAt (j * 2 + 1) (by omega)]
    exact (ruL_at L j r hj).2
set_option maxRecDepth 100000 in
set_option maxHeartbeats 16000000 in
theorem fileFindsLaw (s : ByteArray) (a : Int) (t : ByteArray) (ha : -9223372036854775808 ≤ a ∧ a ≤ 9223372036854775807) (hs : s.size ≤ 140737488355327) (ht : t.size ≤ 140737488355327) (w : World) : Calls Tryz.prog 4 #[.string s, .int .i64 a, .string t] w fun e w' => e = .returned (.bool true) ∧ Below w.heap.size w w' := by
  have HBG := begun_any w
  have HAW : Hid (∀ V : World, Calls Tryz.prog 7 #[] V fun e w' => e = .returned (.bool true) ∧ Below V.heap.size V w') := awake16_any
  have sb : (s.size : Int) ≤ 140737488355327 := by omega
  have tb : (t.size : Int) ≤ 140737488355327 := by omega
  go_enter Tryz.func4, Tryz.ntmps4
  go_wp2_with fail
  refine HBG.mono ?_
  rintro e w1 ⟨x, mf, ml, mc, cp, rfl, hB⟩
  have G1 : Hid (FB w w1 x mf ml mc cp 0 (fun _ => 0)) := FB.start hB
  clear HBG hB
  go_wp2_with fail
  refine (HAW.out _).mono ?_
  rintro e w2 ⟨rfl, hb2⟩
  have G2 : Hid (FB w w2 x mf ml mc cp 0 (fun _ => 0)) := G1.out.below hb2
  clear hb2 G1
  by_cases h1 : 20000 < s.size
  · have g1 : (20000 : Int) < (s.size : Int) := by omega
    go_wp2_with fail
    refine (HAW.out _).mono ?_
    rintro e w3 ⟨rfl, hb3⟩
    have HG3 : Hid (Below w.heap.size w w3) := (G2.out.below hb3).bel
    clear hb3
    go_wp2_with fail
    go_ret
    exact ⟨rfl, HG3.out⟩
  · have g1 : ¬ ((20000 : Int) < (s.size : Int)) := by omega
    by_cases h2 : 20000 < t.size
    · have g2 : (20000 : Int) < (t.size : Int) := by omega
      go_wp2_with fail
      refine (HAW.out _).mono ?_
      rintro e w3 ⟨rfl, hb3⟩
      have HG3 : Hid (Below w.heap.size w w3) := (G2.out.below hb3).bel
      clear hb3
      go_wp2_with fail
      go_ret
      exact ⟨rfl, HG3.out⟩
    · have g2 : ¬ ((20000 : Int) < (t.size : Int)) := by omega
      have HW := G2.out.write s (by omega)
      have HPT : Hid (∀ (q : Nat) (V : World), q ≤ 20000 → Calls Tryz.prog 14 #[.string s, .int .i64 (256 * (q : Int)), .int .i64 256] V fun e w' => e = .returned (.string (prT s (256 * q) 256)) ∧ w' = V) := fun q V hq => by
        have := part_any s (256 * q) 256 (by omega) (by omega) (by decide) V
        rw [show ((256 * q : Nat) : Int) = 256 * (q : Int) by omega] at this
        exact this
      have HZR : Hid (∀ (c : Nat) (V : World), 1 ≤ c → c ≤ 256 → Calls Tryz.prog 15 #[.int .i64 (c : Int)] V fun e w' => e = .returned (.string (strN (fun _ => 0) c)) ∧ Below V.heap.size V w') := fun c V h1 h2 => zeros_some c h1 (by omega) V
      go_wp2_with fail
      refine HW.mono ?_
      rintro e w3 ⟨⟨k0, rfl⟩, hg3⟩
      have G3 : Hid (FB w w3 x mf ml mc cp s.size (tbyte s)) := hg3
      have s20 : s.size ≤ 20000 := by omega
      have t20 : t.size ≤ 20000 := by omega
      clear HW hg3 G2
      by_cases ha0 : a < 0
      · have HFB := G3.out.findBad a ha0 t
        go_wp2_with fail
        refine HFB.mono ?_
        rintro e w4 ⟨rfl, hg4⟩
        have G4 : Hid (FB w w4 x mf ml mc cp s.size (tbyte s)) := hg4
        clear hg4 HFB G3
        go_wp2_with fail
        have HH := G4.out.holes
        refine HH.mono ?_
        rintro e wH ⟨v, rfl, hv, hgH⟩
        obtain ⟨ad, cc, rfl⟩ := kown_slice hv
        have HBH : Hid (Below w.heap.size w wH) := hgH.bel
        obtain ⟨P, hP⟩ : ∃ P, P = (s.size + 255) / 256 := ⟨_, rfl⟩
        rw [← hP] at hv ⊢
        have HV : Hid (wH.ownsRow w4.heap.size 47 2 (.slice ad (hoL (zeS s) P).length cc) (hoL (zeS s) P).length (ruL (hoL (zeS s) P))) := hv
        have HP : Hid (∀ q, q < P ↔ 256 * q < s.size) := fun q => by omega
        have hPb : P ≤ 80 := by omega
        obtain ⟨nL, hnL⟩ : ∃ m, m = (hoL (zeS s) P).length := ⟨_, rfl⟩
        have HNL : Hid (nL = (hoL (zeS s) P).length ∧ nL ≤ P) := ⟨hnL, by rw [hnL]; exact ho_len _ _⟩
        rw [← hnL]
        have nb : (nL : Int) ≤ 80 := by have := HNL.out.2; omega
        clear hv hgH HH G4 hP hnL
        go_wp2_with fail
        go_loopw [17, 18] (fun v17 v18 wr => Hid (∃ i : Nat, i ≤ P ∧ v18 = .int .i64 (i : Int) ∧ v17 = .int .i64 (((hoL (zeS s) i).length : Nat) : Int) ∧ (i < P → zeS s i = true → NeK (zeS s) i) ∧ Below wH.heap.size wH wr)) (fun _ v18 _ => P + 1 - (intOf v18).toNat)
        case atStart => exact ⟨0, Nat.zero_le _, rfl, rfl, fun _ _ => ne_zero, Below.refl _ _⟩
        case round =>
          obtain ⟨i, hiP, rfl, rfl, hne, hbr⟩ := Hid.out hrel
          have HBR : Hid (Below wH.heap.size wH wr) := hbr
          have HNE : Hid (i < P → zeS s i = true → NeK (zeS s) i) := hne
          have hkl := ho_len (zeS s) i
          obtain ⟨k, hk⟩ : ∃ m, m = (hoL (zeS s) i).length := ⟨_, rfl⟩
          have HKK : Hid ((hoL (zeS s) i).length = k) := hk.symm
          rw [← hk] at hkl ⊢
          clear hrel hbr hne hk
          have ib : (i : Int) ≤ 80 := by omega
          have kb : (k : Int) ≤ 80 := by omega
          by_cases hlt : i < P
          · have hsz := (HP.out i).1 hlt
            have i1 : 256 * (i : Int) < (s.size : Int) := by omega
            have HZE := ze_eq s i hsz
            have HPi := HPT.out i
            obtain ⟨X, hX⟩ : ∃ X, X = prT s (256 * i) 256 := ⟨_, rfl⟩
            have hXs : 1 ≤ X.size ∧ X.size ≤ 256 := by
              rw [hX]
              unfold prT
              rw [strN_size]
              unfold thN
              omega
            rw [← hX] at HZE HPi
            have HZi := HZR.out X.size
            obtain ⟨Y, hY⟩ : ∃ Y, Y = strN (fun _ => 0) X.size := ⟨_, rfl⟩
            rw [← hY] at HZE HZi
            have HPH : Hid (∀ V : World, Calls Tryz.prog 14 #[.string s, .int .i64 (256 * (i : Int)), .int .i64 256] V fun e w' => e = .returned (.string X) ∧ w' = V) := fun V => HPi V (by omega)
            have HZH : Hid (∀ V : World, Calls Tryz.prog 15 #[.int .i64 (X.size : Int)] V fun e w' => e = .returned (.string Y) ∧ Below V.heap.size V w') := fun V => HZi V hXs.1 hXs.2
            clear hX hY HPi HZi hXs
            cases hzi : zeS s i with
            | false =>
              rw [hzi] at HZE
              have HST : Hid ((hoL (zeS s) (i + 1)).length = k ∧ NeK (zeS s) (i + 1)) := ⟨by rw [ho_no i hzi]; exact HKK.out, ne_no i hzi⟩
              clear hzi
              go_wp2_with fail
              refine (HPH.out _).mono ?_
              rintro e wa ⟨rfl, hwa⟩
              subst hwa
              go_wp2_with fail
              refine (HPH.out _).mono ?_
              rintro e wb ⟨rfl, hwb⟩
              subst hwb
              go_wp2_with fail
              refine (HZH.out _).mono ?_
              rintro e wc ⟨rfl, hbc⟩
              have HBC : Hid (Below wH.heap.size wH wc) := HBR.out.trans (hbc.mono HBR.out.size)
              clear hbc
              go_wp2_with fail
              go_roundw
              case rel => exact ⟨i + 1, by omega, by first | rfl | go_num | simp, by rw [HST.out.1], fun _ _ => HST.out.2, HBC.out⟩
              case measure => simp [intOf]; omega
            | true =>
              rw [hzi] at HZE
              have hnei := HNE.out hlt hzi
              obtain ⟨e, he1, he2, he3, he4⟩ := ho_far P i hlt hzi
              obtain ⟨m, hm⟩ := ho_split P i e hnei he1 he2 he3 he4
              have HRUN : Hid (hoL (zeS s) (e + 1) = hoL (zeS s) i ++ [(i, e)]) := ho_run i hnei e he1 he3
              have HEND : Hid (e + 1 = P ∨ zeS s (e + 1) = false) := he4
              have HZZ : Hid (∀ q, i ≤ q → q ≤ e → zeS s q = true) := he3
              have HATK : Hid ((hoL (zeS s) P)[k]? = some (i, e) ∧ k < nL) := by
                have e1 : (hoL (zeS s) P)[k]? = some (i, e) := by
                  rw [hm, List.getElem?_append_right (by rw [HKK.out]; omega), HKK.out, Nat.sub_self]
                  rfl
                exact ⟨e1, by rw [HNL.out.1]; exact (List.getElem?_eq_some_iff.1 e1).1⟩
              obtain ⟨g, rfl, _, _⟩ := ru_cells HV.out (Below.refl _ _) k (i, e) HATK.out.1
              have HCG : Hid (∀ V', Below wH.heap.size wH V' → V'.cell? ⟨g, k * 2, none⟩ = some (.int .i64 (i : Int)) ∧ V'.cell? ⟨g, k * 2 + 1, none⟩ = some (.int .i64 (e : Int))) := fun V' hV' => by
                obtain ⟨g', e1, h1, h2⟩ := ru_cells HV.out hV' k (i, e) HATK.out.1
                injection e1 with e1
                injection e1 with e1
                subst e1
                exact ⟨h1, h2⟩
              have HCL : Hid (∀ k', k = k' + 1 → ∃ a b : Nat, b + 1 ≠ i ∧ b ≤ 80 ∧ ∀ V', Below wH.heap.size wH V' → V'.cell? ⟨g, k' * 2, none⟩ = some (.int .i64 (a : Int)) ∧ V'.cell? ⟨g, k' * 2 + 1, none⟩ = some (.int .i64 (b : Int))) := fun k' hk' => by
                rcases List.eq_nil_or_concat (hoL (zeS s) i) with h0 | ⟨l0, ⟨a, b⟩, h0⟩
                · have := HKK.out
                  rw [h0] at this
                  simp at this
                  omega
                · rw [List.concat_eq_append] at h0
                  have hl0 : l0.length = k' := by
                    have := HKK.out
                    rw [h0] at this
                    simp at this
                    omega
                  have hb := ho_le (zeS s) i (a, b) (by rw [h0]; simp)
                  have hb2 : b < i := hb
                  refine ⟨a, b, hnei l0 a b h0, by omega, fun V' hV' => ?_⟩
                  have e1 : (hoL (zeS s) P)[k']? = some (a, b) := by
                    rw [hm, h0, List.append_assoc, List.getElem?_append_right (by omega), hl0, Nat.sub_self]
                    rfl
                  obtain ⟨g', e2, h1, h2⟩ := ru_cells HV.out hV' k' (a, b) e1
                  injection e2 with e2
                  injection e2 with e2
                  subst e2
                  exact ⟨h1, h2⟩
              have k1 : (k : Int) < (nL : Int) := by have := HATK.out.2; omega
              have k2 : ¬ ((nL : Int) ≤ (k : Int)) := by omega
              have eb : (e : Int) ≤ 80 := by omega
              clear he3 he4 hm hnei hzi
              go_wp2_with fail
              refine (HPH.out _).mono ?_
              rintro e' wa ⟨rfl, hwa⟩
              subst hwa
              go_wp2_with fail
              refine (HPH.out _).mono ?_
              rintro e' wb ⟨rfl, hwb⟩
              subst hwb
              go_wp2_with fail
              refine (HZH.out _).mono ?_
              rintro e' wc ⟨rfl, hbc⟩
              have HBC : Hid (Below wH.heap.size wH wc) := HBR.out.trans (hbc.mono HBR.out.size)
              clear hbc HPH HZH
              go_upto_region 25 with fail
              go_cut [143] (fun v wx => v = .bool false ∧ wc = wx)
              case first =>
                rcases Nat.eq_zero_or_pos k with hk0 | hk0
                · have hk0' : ¬ ((0 : Int) < (k : Int)) := by omega
                  clear hk0
                  go_wp2_with fail
                  go_meet
                  exact ⟨rfl, rfl⟩
                · obtain ⟨k', hk'⟩ : ∃ k', k = k' + 1 := ⟨k - 1, by omega⟩
                  obtain ⟨a', b', hb1, hb2, hcl⟩ := HCL.out k' hk'
                  obtain ⟨q0, q1⟩ := hcl wc HBC.out
                  have hk0' : (0 : Int) < (k : Int) := by omega
                  have e5 : (k : Int) - 1 = (k' : Int) := by omega
                  have e6 : (k' : Int) < (nL : Int) := by omega
                  have e7 : ((b' : Int) == (i : Int) - 1) = false := by simp; omega
                  clear hk' hcl HCL hk0
                  go_wp2_with fail
                  go_meet
                  exact ⟨rfl, rfl⟩
              case rest =>
                obtain ⟨rfl, rfl⟩ := hcut
                go_wp2_with fail
                go_loopw [18] (fun v18 wr => Hid (∃ j : Nat, i ≤ j ∧ j ≤ e ∧ v18 = .int .i64 (j : Int) ∧ Below wH.heap.size wH wr)) (fun v18 _ => P + 1 - (intOf v18).toNat)
                case atStart => exact ⟨i, Nat.le_refl _, he1, rfl, HBC.out⟩
                case round =>
                  obtain ⟨j, hij, hje, rfl, hbj⟩ := Hid.out hrel
                  have HBJ : Hid (Below wH.heap.size wH wr) := hbj
                  clear hrel hbj HBC
                  have jb : (j : Int) ≤ 80 := by omega
                  by_cases hjP : j + 1 < P
                  · have hsz2 := (HP.out (j + 1)).1 hjP
                    have j1 : 256 * ((j : Int) + 1) < (s.size : Int) := by omega
                    have HZE2 := ze_eq s (j + 1) hsz2
                    have HPi := HPT.out (j + 1)
                    rw [show ((j + 1 : Nat) : Int) = (j : Int) + 1 by omega] at HPi
                    obtain ⟨X2, hX⟩ : ∃ X, X = prT s (256 * (j + 1)) 256 := ⟨_, rfl⟩
                    have hXs : 1 ≤ X2.size ∧ X2.size ≤ 256 := by
                      rw [hX]
                      unfold prT
                      rw [strN_size]
                      unfold thN
                      omega
                    rw [← hX] at HZE2 HPi
                    have HZi := HZR.out X2.size
                    obtain ⟨Y2, hY⟩ : ∃ Y, Y = strN (fun _ => 0) X2.size := ⟨_, rfl⟩
                    rw [← hY] at HZE2 HZi
                    have HPH : Hid (∀ V : World, Calls Tryz.prog 14 #[.string s, .int .i64 (256 * ((j : Int) + 1)), .int .i64 256] V fun e w' => e = .returned (.string X2) ∧ w' = V) := fun V => HPi V (by omega)
                    have HZH : Hid (∀ V : World, Calls Tryz.prog 15 #[.int .i64 (X2.size : Int)] V fun e w' => e = .returned (.string Y2) ∧ Below V.heap.size V w') := fun V => HZi V hXs.1 hXs.2
                    clear hX hY HPi HZi hXs
                    cases hzj : zeS s (j + 1) with
                    | true =>
                      rw [hzj] at HZE2
                      have hje2 : j + 1 ≤ e := by
                        rcases Nat.lt_or_ge j e with c | c
                        · exact c
                        · obtain rfl : j = e := by omega
                          rcases HEND.out with h | h
                          · omega
                          · rw [h] at hzj
                            cases hzj
                      clear hzj
                      go_wp2_with fail
                      refine (HPH.out _).mono ?_
                      rintro e' wa ⟨rfl, hwa⟩
                      subst hwa
                      go_wp2_with fail
                      refine (HPH.out _).mono ?_
                      rintro e' wb ⟨rfl, hwb⟩
                      subst hwb
                      go_wp2_with fail
                      refine (HZH.out _).mono ?_
                      rintro e' wd ⟨rfl, hbd⟩
                      have HBD : Hid (Below wH.heap.size wH wd) := HBJ.out.trans (hbd.mono HBJ.out.size)
                      clear hbd
                      go_wp2_with fail
                      go_roundw
                      case rel => exact ⟨j + 1, by omega, hje2, by first | rfl | go_num | simp, HBD.out⟩
                      case measure => simp [intOf]; omega
                    | false =>
                      rw [hzj] at HZE2
                      obtain rfl : j = e := by
                        rcases Nat.lt_or_ge j e with c | c
                        · have := HZZ.out (j + 1) (by omega) c
                          rw [hzj] at this
                          cases this
                        · omega
                      clear hzj
                      go_wp2_with fail
                      refine (HPH.out _).mono ?_
                      rintro e' wa ⟨rfl, hwa⟩
                      subst hwa
                      go_wp2_with fail
                      refine (HPH.out _).mono ?_
                      rintro e' wb ⟨rfl, hwb⟩
                      subst hwb
                      go_wp2_with fail
                      refine (HZH.out _).mono ?_
                      rintro e' wd ⟨rfl, hbd⟩
                      have HBD : Hid (Below wH.heap.size wH wd) := HBJ.out.trans (hbd.mono HBJ.out.size)
                      clear hbd
                      have HK2 : Hid ((hoL (zeS s) (j + 1)).length = (hoL (zeS s) i).length + 1) := by
                        show _ = _
                        rw [HRUN.out]
                        simp
                      have eqr : ∀ w, (Op.equalIn 10000 47 (.agg #[.int .i64 (i : Int), .int .i64 (j : Int)]) (.agg #[.int .i64 (i : Int), .int .i64 (j : Int)])).run Tryz.prog w = .ok true w := fun w => fd_eq _ _ w
                      have d0 : wd.cell? ⟨g, k * 2, none⟩ = some (.int .i64 (i : Int)) := (HCG.out wd HBD.out).1
                      have d1 : wd.cell? ⟨g, k * 2 + 1, none⟩ = some (.int .i64 (j : Int)) := (HCG.out wd HBD.out).2
                      have HB9 : Hid (Below wH.heap.size wH wd) := HBD.out
                      go_wp2_with fail
                      go_roundw
                      case rel => exact ⟨j + 1, by omega, by first | rfl | go_num | simp, by rw [HK2.out, HKK.out]; first | rfl | go_num | simp, fun h1 h2 => absurd h2 (by rcases HEND.out with h | h; exact absurd h (by omega); rw [h]; decide), HB9.out⟩
                      case measure => simp [intOf]; omega
                  · have j1 : ¬ (256 * ((j : Int) + 1) < (s.size : Int)) := by
                      have := (HP.out (j + 1))
                      omega
                    obtain rfl : j = e := by omega
                    have HK2 : Hid ((hoL (zeS s) (j + 1)).length = (hoL (zeS s) i).length + 1) := by
                      show _ = _
                      rw [HRUN.out]
                      simp
                    have eqr : ∀ w, (Op.equalIn 10000 47 (.agg #[.int .i64 (i : Int), .int .i64 (j : Int)]) (.agg #[.int .i64 (i : Int), .int .i64 (j : Int)])).run Tryz.prog w = .ok true w := fun w => fd_eq _ _ w
                    have d0 : wr.cell? ⟨g, k * 2, none⟩ = some (.int .i64 (i : Int)) := (HCG.out wr HBJ.out).1
                    have d1 : wr.cell? ⟨g, k * 2 + 1, none⟩ = some (.int .i64 (j : Int)) := (HCG.out wr HBJ.out).2
                    have HB9 : Hid (Below wH.heap.size wH wr) := HBJ.out
                    go_wp2_with fail
                    go_roundw
                    case rel => exact ⟨j + 1, by omega, by first | rfl | go_num | simp, by rw [HK2.out, HKK.out]; first | rfl | go_num | simp, fun h1 h2 => absurd h2 (by rcases HEND.out with h | h; exact absurd h (by omega); rw [h]; decide), HB9.out⟩
                    case measure => simp [intOf]; omega
          · have hsz : ¬ 256 * i < s.size := fun h => hlt ((HP.out i).2 h)
            have i1 : ¬ (256 * (i : Int) < (s.size : Int)) := by omega
            obtain rfl : i = P := by omega
            have e9 : ((k : Int) == (nL : Int)) = true := by
              have h1 := HKK.out
              have h2 := HNL.out.1
              rw [← h1, h2]
              simp
            have HF : Hid (Below w.heap.size w wr) := HBH.out.trans (HBR.out.mono HBH.out.size)
            go_wp2_with fail
            go_ret
            exact ⟨rfl, HF.out⟩
      · obtain ⟨b, rfl⟩ : ∃ b : Nat, a = (b : Int) := ⟨a.toNat, by omega⟩
        have HFA := G3.out.findAt b (by omega) t (by omega)
        go_wp2_with fail
        refine HFA.mono ?_
        rintro e w4 ⟨re, rfl, hre, hg4⟩
        have HRE : Hid (FnK t (tbyte s) s.size b re) := hre
        have G4 : Hid (FB w w4 x mf ml mc cp s.size (tbyte s)) := hg4
        clear hg4 hre HFA G3
        go_wp2_with fail
        go_loop [14, 15] (fun v14 v15 => Hid (∃ i : Nat, v14 = .int .i64 (-1) ∧ v15 = .int .i64 (i : Int) ∧ b ≤ i ∧ i ≤ max b (s.size + 1) ∧ ∀ q, b ≤ q → q < i → ¬ AtK (tbyte t) (tbyte s) t.size q)) (fun _ v15 => s.size + 1 - (intOf v15).toNat)
        case atStart => exact ⟨b, rfl, rfl, Nat.le_refl _, by omega, fun q h1 h2 => absurd h2 (by omega)⟩
        case round =>
          obtain ⟨i, rfl, rfl, hbi, hib, hno⟩ := Hid.out hrel
          have HNO : Hid (∀ q, b ≤ q → q < i → ¬ AtK (tbyte t) (tbyte s) t.size q) := hno
          clear hrel hno
          by_cases hin : (i : Int) ≤ (s.size : Int) - (t.size : Int)
          · have hz : i + t.size ≤ s.size := by omega
            have i0 : (0 : Int) ≤ (i : Int) := by omega
            have i1 : (i : Int) + (t.size : Int) ≤ (s.size : Int) := by omega
            have i2 : (i : Int) ≤ (i : Int) + (t.size : Int) := by omega
            have ib : (i : Int) ≤ 20000 := by omega
            have it : ((i : Int) + (t.size : Int)).toNat = i + t.size := by omega
            by_cases hat : AtK (tbyte t) (tbyte s) t.size i
            · have hq := ex_at hz |>.2 hat
              obtain rfl : re = (i : Int) := fn_at HRE.out hbi hz hat HNO.out
              clear hat HRE
              go_wp2_with fail
              have HH := G4.out.holes
              refine HH.mono ?_
              rintro e wH ⟨v, rfl, hv, hgH⟩
              obtain ⟨ad, cc, rfl⟩ := kown_slice hv
              have HBH : Hid (Below w.heap.size w wH) := hgH.bel
              obtain ⟨P, hP⟩ : ∃ P, P = (s.size + 255) / 256 := ⟨_, rfl⟩
              rw [← hP] at hv ⊢
              have HV : Hid (wH.ownsRow w4.heap.size 47 2 (.slice ad (hoL (zeS s) P).length cc) (hoL (zeS s) P).length (ruL (hoL (zeS s) P))) := hv
              have HP : Hid (∀ q, q < P ↔ 256 * q < s.size) := fun q => by omega
              have hPb : P ≤ 80 := by omega
              obtain ⟨nL, hnL⟩ : ∃ m, m = (hoL (zeS s) P).length := ⟨_, rfl⟩
              have HNL : Hid (nL = (hoL (zeS s) P).length ∧ nL ≤ P) := ⟨hnL, by rw [hnL]; exact ho_len _ _⟩
              rw [← hnL]
              have nb : (nL : Int) ≤ 80 := by have := HNL.out.2; omega
              clear hv hgH HH G4 hP hnL
              go_wp2_with fail
              go_loopw [17, 18] (fun v17 v18 wr => Hid (∃ i : Nat, i ≤ P ∧ v18 = .int .i64 (i : Int) ∧ v17 = .int .i64 (((hoL (zeS s) i).length : Nat) : Int) ∧ (i < P → zeS s i = true → NeK (zeS s) i) ∧ Below wH.heap.size wH wr)) (fun _ v18 _ => P + 1 - (intOf v18).toNat)
              case atStart => exact ⟨0, Nat.zero_le _, rfl, rfl, fun _ _ => ne_zero, Below.refl _ _⟩
              case round =>
                obtain ⟨i, hiP, rfl, rfl, hne, hbr⟩ := Hid.out hrel
                have HBR : Hid (Below wH.heap.size wH wr) := hbr
                have HNE : Hid (i < P → zeS s i = true → NeK (zeS s) i) := hne
                have hkl := ho_len (zeS s) i
                obtain ⟨k, hk⟩ : ∃ m, m = (hoL (zeS s) i).length := ⟨_, rfl⟩
                have HKK : Hid ((hoL (zeS s) i).length = k) := hk.symm
                rw [← hk] at hkl ⊢
                clear hrel hbr hne hk
                have ib : (i : Int) ≤ 80 := by omega
                have kb : (k : Int) ≤ 80 := by omega
                by_cases hlt : i < P
                · have hsz := (HP.out i).1 hlt
                  have i1 : 256 * (i : Int) < (s.size : Int) := by omega
                  have HZE := ze_eq s i hsz
                  have HPi := HPT.out i
                  obtain ⟨X, hX⟩ : ∃ X, X = prT s (256 * i) 256 := ⟨_, rfl⟩
                  have hXs : 1 ≤ X.size ∧ X.size ≤ 256 := by
                    rw [hX]
                    unfold prT
                    rw [strN_size]
                    unfold thN
                    omega
                  rw [← hX] at HZE HPi
                  have HZi := HZR.out X.size
                  obtain ⟨Y, hY⟩ : ∃ Y, Y = strN (fun _ => 0) X.size := ⟨_, rfl⟩
                  rw [← hY] at HZE HZi
                  have HPH : Hid (∀ V : World, Calls Tryz.prog 14 #[.string s, .int .i64 (256 * (i : Int)), .int .i64 256] V fun e w' => e = .returned (.string X) ∧ w' = V) := fun V => HPi V (by omega)
                  have HZH : Hid (∀ V : World, Calls Tryz.prog 15 #[.int .i64 (X.size : Int)] V fun e w' => e = .returned (.string Y) ∧ Below V.heap.size V w') := fun V => HZi V hXs.1 hXs.2
                  clear hX hY HPi HZi hXs
                  cases hzi : zeS s i with
                  | false =>
                    rw [hzi] at HZE
                    have HST : Hid ((hoL (zeS s) (i + 1)).length = k ∧ NeK (zeS s) (i + 1)) := ⟨by rw [ho_no i hzi]; exact HKK.out, ne_no i hzi⟩
                    clear hzi
                    go_wp2_with fail
                    refine (HPH.out _).mono ?_
                    rintro e wa ⟨rfl, hwa⟩
                    subst hwa
                    go_wp2_with fail
                    refine (HPH.out _).mono ?_
                    rintro e wb ⟨rfl, hwb⟩
                    subst hwb
                    go_wp2_with fail
                    refine (HZH.out _).mono ?_
                    rintro e wc ⟨rfl, hbc⟩
                    have HBC : Hid (Below wH.heap.size wH wc) := HBR.out.trans (hbc.mono HBR.out.size)
                    clear hbc
                    go_wp2_with fail
                    go_roundw
                    case rel => exact ⟨i + 1, by omega, by first | rfl | go_num | simp, by rw [HST.out.1], fun _ _ => HST.out.2, HBC.out⟩
                    case measure => simp [intOf]; omega
                  | true =>
                    rw [hzi] at HZE
                    have hnei := HNE.out hlt hzi
                    obtain ⟨e, he1, he2, he3, he4⟩ := ho_far P i hlt hzi
                    obtain ⟨m, hm⟩ := ho_split P i e hnei he1 he2 he3 he4
                    have HRUN : Hid (hoL (zeS s) (e + 1) = hoL (zeS s) i ++ [(i, e)]) := ho_run i hnei e he1 he3
                    have HEND : Hid (e + 1 = P ∨ zeS s (e + 1) = false) := he4
                    have HZZ : Hid (∀ q, i ≤ q → q ≤ e → zeS s q = true) := he3
                    have HATK : Hid ((hoL (zeS s) P)[k]? = some (i, e) ∧ k < nL) := by
                      have e1 : (hoL (zeS s) P)[k]? = some (i, e) := by
                        rw [hm, List.getElem?_append_right (by rw [HKK.out]; omega), HKK.out, Nat.sub_self]
                        rfl
                      exact ⟨e1, by rw [HNL.out.1]; exact (List.getElem?_eq_some_iff.1 e1).1⟩
                    obtain ⟨g, rfl, _, _⟩ := ru_cells HV.out (Below.refl _ _) k (i, e) HATK.out.1
                    have HCG : Hid (∀ V', Below wH.heap.size wH V' → V'.cell? ⟨g, k * 2, none⟩ = some (.int .i64 (i : Int)) ∧ V'.cell? ⟨g, k * 2 + 1, none⟩ = some (.int .i64 (e : Int))) := fun V' hV' => by
                      obtain ⟨g', e1, h1, h2⟩ := ru_cells HV.out hV' k (i, e) HATK.out.1
                      injection e1 with e1
                      injection e1 with e1
                      subst e1
                      exact ⟨h1, h2⟩
                    have HCL : Hid (∀ k', k = k' + 1 → ∃ a b : Nat, b + 1 ≠ i ∧ b ≤ 80 ∧ ∀ V', Below wH.heap.size wH V' → V'.cell? ⟨g, k' * 2, none⟩ = some (.int .i64 (a : Int)) ∧ V'.cell? ⟨g, k' * 2 + 1, none⟩ = some (.int .i64 (b : Int))) := fun k' hk' => by
                      rcases List.eq_nil_or_concat (hoL (zeS s) i) with h0 | ⟨l0, ⟨a, b⟩, h0⟩
                      · have := HKK.out
                        rw [h0] at this
                        simp at this
                        omega
                      · rw [List.concat_eq_append] at h0
                        have hl0 : l0.length = k' := by
                          have := HKK.out
                          rw [h0] at this
                          simp at this
                          omega
                        have hb := ho_le (zeS s) i (a, b) (by rw [h0]; simp)
                        have hb2 : b < i := hb
                        refine ⟨a, b, hnei l0 a b h0, by omega, fun V' hV' => ?_⟩
                        have e1 : (hoL (zeS s) P)[k']? = some (a, b) := by
                          rw [hm, h0, List.append_assoc, List.getElem?_append_right (by omega), hl0, Nat.sub_self]
                          rfl
                        obtain ⟨g', e2, h1, h2⟩ := ru_cells HV.out hV' k' (a, b) e1
                        injection e2 with e2
                        injection e2 with e2
                        subst e2
                        exact ⟨h1, h2⟩
                    have k1 : (k : Int) < (nL : Int) := by have := HATK.out.2; omega
                    have k2 : ¬ ((nL : Int) ≤ (k : Int)) := by omega
                    have eb : (e : Int) ≤ 80 := by omega
                    clear he3 he4 hm hnei hzi
                    go_wp2_with fail
                    refine (HPH.out _).mono ?_
                    rintro e' wa ⟨rfl, hwa⟩
                    subst hwa
                    go_wp2_with fail
                    refine (HPH.out _).mono ?_
                    rintro e' wb ⟨rfl, hwb⟩
                    subst hwb
                    go_wp2_with fail
                    refine (HZH.out _).mono ?_
                    rintro e' wc ⟨rfl, hbc⟩
                    have HBC : Hid (Below wH.heap.size wH wc) := HBR.out.trans (hbc.mono HBR.out.size)
                    clear hbc HPH HZH
                    go_upto_region 25 with fail
                    go_cut [143] (fun v wx => v = .bool false ∧ wc = wx)
                    case first =>
                      rcases Nat.eq_zero_or_pos k with hk0 | hk0
                      · have hk0' : ¬ ((0 : Int) < (k : Int)) := by omega
                        clear hk0
                        go_wp2_with fail
                        go_meet
                        exact ⟨rfl, rfl⟩
                      · obtain ⟨k', hk'⟩ : ∃ k', k = k' + 1 := ⟨k - 1, by omega⟩
                        obtain ⟨a', b', hb1, hb2, hcl⟩ := HCL.out k' hk'
                        obtain ⟨q0, q1⟩ := hcl wc HBC.out
                        have hk0' : (0 : Int) < (k : Int) := by omega
                        have e5 : (k : Int) - 1 = (k' : Int) := by omega
                        have e6 : (k' : Int) < (nL : Int) := by omega
                        have e7 : ((b' : Int) == (i : Int) - 1) = false := by simp; omega
                        clear hk' hcl HCL hk0
                        go_wp2_with fail
                        go_meet
                        exact ⟨rfl, rfl⟩
                    case rest =>
                      obtain ⟨rfl, rfl⟩ := hcut
                      go_wp2_with fail
                      go_loopw [18] (fun v18 wr => Hid (∃ j : Nat, i ≤ j ∧ j ≤ e ∧ v18 = .int .i64 (j : Int) ∧ Below wH.heap.size wH wr)) (fun v18 _ => P + 1 - (intOf v18).toNat)
                      case atStart => exact ⟨i, Nat.le_refl _, he1, rfl, HBC.out⟩
                      case round =>
                        obtain ⟨j, hij, hje, rfl, hbj⟩ := Hid.out hrel
                        have HBJ : Hid (Below wH.heap.size wH wr) := hbj
                        clear hrel hbj HBC
                        have jb : (j : Int) ≤ 80 := by omega
                        by_cases hjP : j + 1 < P
                        · have hsz2 := (HP.out (j + 1)).1 hjP
                          have j1 : 256 * ((j : Int) + 1) < (s.size : Int) := by omega
                          have HZE2 := ze_eq s (j + 1) hsz2
                          have HPi := HPT.out (j + 1)
                          rw [show ((j + 1 : Nat) : Int) = (j : Int) + 1 by omega] at HPi
                          obtain ⟨X2, hX⟩ : ∃ X, X = prT s (256 * (j + 1)) 256 := ⟨_, rfl⟩
                          have hXs : 1 ≤ X2.size ∧ X2.size ≤ 256 := by
                            rw [hX]
                            unfold prT
                            rw [strN_size]
                            unfold thN
                            omega
                          rw [← hX] at HZE2 HPi
                          have HZi := HZR.out X2.size
                          obtain ⟨Y2, hY⟩ : ∃ Y, Y = strN (fun _ => 0) X2.size := ⟨_, rfl⟩
                          rw [← hY] at HZE2 HZi
                          have HPH : Hid (∀ V : World, Calls Tryz.prog 14 #[.string s, .int .i64 (256 * ((j : Int) + 1)), .int .i64 256] V fun e w' => e = .returned (.string X2) ∧ w' = V) := fun V => HPi V (by omega)
                          have HZH : Hid (∀ V : World, Calls Tryz.prog 15 #[.int .i64 (X2.size : Int)] V fun e w' => e = .returned (.string Y2) ∧ Below V.heap.size V w') := fun V => HZi V hXs.1 hXs.2
                          clear hX hY HPi HZi hXs
                          cases hzj : zeS s (j + 1) with
                          | true =>
                            rw [hzj] at HZE2
                            have hje2 : j + 1 ≤ e := by
                              rcases Nat.lt_or_ge j e with c | c
                              · exact c
                              · obtain rfl : j = e := by omega
                                rcases HEND.out with h | h
                                · omega
                                · rw [h] at hzj
                                  cases hzj
                            clear hzj
                            go_wp2_with fail
                            refine (HPH.out _).mono ?_
                            rintro e' wa ⟨rfl, hwa⟩
                            subst hwa
                            go_wp2_with fail
                            refine (HPH.out _).mono ?_
                            rintro e' wb ⟨rfl, hwb⟩
                            subst hwb
                            go_wp2_with fail
                            refine (HZH.out _).mono ?_
                            rintro e' wd ⟨rfl, hbd⟩
                            have HBD : Hid (Below wH.heap.size wH wd) := HBJ.out.trans (hbd.mono HBJ.out.size)
                            clear hbd
                            go_wp2_with fail
                            go_roundw
                            case rel => exact ⟨j + 1, by omega, hje2, by first | rfl | go_num | simp, HBD.out⟩
                            case measure => simp [intOf]; omega
                          | false =>
                            rw [hzj] at HZE2
                            obtain rfl : j = e := by
                              rcases Nat.lt_or_ge j e with c | c
                              · have := HZZ.out (j + 1) (by omega) c
                                rw [hzj] at this
                                cases this
                              · omega
                            clear hzj
                            go_wp2_with fail
                            refine (HPH.out _).mono ?_
                            rintro e' wa ⟨rfl, hwa⟩
                            subst hwa
                            go_wp2_with fail
                            refine (HPH.out _).mono ?_
                            rintro e' wb ⟨rfl, hwb⟩
                            subst hwb
                            go_wp2_with fail
                            refine (HZH.out _).mono ?_
                            rintro e' wd ⟨rfl, hbd⟩
                            have HBD : Hid (Below wH.heap.size wH wd) := HBJ.out.trans (hbd.mono HBJ.out.size)
                            clear hbd
                            have HK2 : Hid ((hoL (zeS s) (j + 1)).length = (hoL (zeS s) i).length + 1) := by
                              show _ = _
                              rw [HRUN.out]
                              simp
                            have eqr : ∀ w, (Op.equalIn 10000 47 (.agg #[.int .i64 (i : Int), .int .i64 (j : Int)]) (.agg #[.int .i64 (i : Int), .int .i64 (j : Int)])).run Tryz.prog w = .ok true w := fun w => fd_eq _ _ w
                            have d0 : wd.cell? ⟨g, k * 2, none⟩ = some (.int .i64 (i : Int)) := (HCG.out wd HBD.out).1
                            have d1 : wd.cell? ⟨g, k * 2 + 1, none⟩ = some (.int .i64 (j : Int)) := (HCG.out wd HBD.out).2
                            have HB9 : Hid (Below wH.heap.size wH wd) := HBD.out
                            go_wp2_with fail
                            go_roundw
                            case rel => exact ⟨j + 1, by omega, by first | rfl | go_num | simp, by rw [HK2.out, HKK.out]; first | rfl | go_num | simp, fun h1 h2 => absurd h2 (by rcases HEND.out with h | h; exact absurd h (by omega); rw [h]; decide), HB9.out⟩
                            case measure => simp [intOf]; omega
                        · have j1 : ¬ (256 * ((j : Int) + 1) < (s.size : Int)) := by
                            have := (HP.out (j + 1))
                            omega
                          obtain rfl : j = e := by omega
                          have HK2 : Hid ((hoL (zeS s) (j + 1)).length = (hoL (zeS s) i).length + 1) := by
                            show _ = _
                            rw [HRUN.out]
                            simp
                          have eqr : ∀ w, (Op.equalIn 10000 47 (.agg #[.int .i64 (i : Int), .int .i64 (j : Int)]) (.agg #[.int .i64 (i : Int), .int .i64 (j : Int)])).run Tryz.prog w = .ok true w := fun w => fd_eq _ _ w
                          have d0 : wr.cell? ⟨g, k * 2, none⟩ = some (.int .i64 (i : Int)) := (HCG.out wr HBJ.out).1
                          have d1 : wr.cell? ⟨g, k * 2 + 1, none⟩ = some (.int .i64 (j : Int)) := (HCG.out wr HBJ.out).2
                          have HB9 : Hid (Below wH.heap.size wH wr) := HBJ.out
                          go_wp2_with fail
                          go_roundw
                          case rel => exact ⟨j + 1, by omega, by first | rfl | go_num | simp, by rw [HK2.out, HKK.out]; first | rfl | go_num | simp, fun h1 h2 => absurd h2 (by rcases HEND.out with h | h; exact absurd h (by omega); rw [h]; decide), HB9.out⟩
                          case measure => simp [intOf]; omega
                · have hsz : ¬ 256 * i < s.size := fun h => hlt ((HP.out i).2 h)
                  have i1 : ¬ (256 * (i : Int) < (s.size : Int)) := by omega
                  obtain rfl : i = P := by omega
                  have e9 : ((k : Int) == (nL : Int)) = true := by
                    have h1 := HKK.out
                    have h2 := HNL.out.1
                    rw [← h1, h2]
                    simp
                  have HF : Hid (Below w.heap.size w wr) := HBH.out.trans (HBR.out.mono HBH.out.size)
                  go_wp2_with fail
                  go_ret
                  exact ⟨rfl, HF.out⟩
            · have hq : ((s.extract i (i + t.size)).toList == t.toList) = false := by
                cases h : ((s.extract i (i + t.size)).toList == t.toList) with
                | false => rfl
                | true => exact absurd (ex_at hz |>.1 h) hat
              have HN2 : Hid (∀ q, b ≤ q → q < i + 1 → ¬ AtK (tbyte t) (tbyte s) t.size q) := fun q h1 h2 => by
                by_cases c : q = i
                · rw [c]; exact hat
                · exact HNO.out q h1 (by omega)
              clear hat
              go_wp2_with fail
              go_round
              case rel => exact ⟨i + 1, rfl, by first | rfl | go_num | simp, by omega, by omega, HN2.out⟩
              case measure => simp [intOf]; omega
          · obtain rfl : re = -1 := fn_none HRE.out (fun q h1 h2 => HNO.out q h1 (by omega))
            clear HRE
            go_wp2_with fail
            have HH := G4.out.holes
            refine HH.mono ?_
            rintro e wH ⟨v, rfl, hv, hgH⟩
            obtain ⟨ad, cc, rfl⟩ := kown_slice hv
            have HBH : Hid (Below w.heap.size w wH) := hgH.bel
            obtain ⟨P, hP⟩ : ∃ P, P = (s.size + 255) / 256 := ⟨_, rfl⟩
            rw [← hP] at hv ⊢
            have HV : Hid (wH.ownsRow w4.heap.size 47 2 (.slice ad (hoL (zeS s) P).length cc) (hoL (zeS s) P).length (ruL (hoL (zeS s) P))) := hv
            have HP : Hid (∀ q, q < P ↔ 256 * q < s.size) := fun q => by omega
            have hPb : P ≤ 80 := by omega
            obtain ⟨nL, hnL⟩ : ∃ m, m = (hoL (zeS s) P).length := ⟨_, rfl⟩
            have HNL : Hid (nL = (hoL (zeS s) P).length ∧ nL ≤ P) := ⟨hnL, by rw [hnL]; exact ho_len _ _⟩
            rw [← hnL]
            have nb : (nL : Int) ≤ 80 := by have := HNL.out.2; omega
            clear hv hgH HH G4 hP hnL
            go_wp2_with fail
            go_loopw [17, 18] (fun v17 v18 wr => Hid (∃ i : Nat, i ≤ P ∧ v18 = .int .i64 (i : Int) ∧ v17 = .int .i64 (((hoL (zeS s) i).length : Nat) : Int) ∧ (i < P → zeS s i = true → NeK (zeS s) i) ∧ Below wH.heap.size wH wr)) (fun _ v18 _ => P + 1 - (intOf v18).toNat)
            case atStart => exact ⟨0, Nat.zero_le _, rfl, rfl, fun _ _ => ne_zero, Below.refl _ _⟩
            case round =>
              obtain ⟨i, hiP, rfl, rfl, hne, hbr⟩ := Hid.out hrel
              have HBR : Hid (Below wH.heap.size wH wr) := hbr
              have HNE : Hid (i < P → zeS s i = true → NeK (zeS s) i) := hne
              have hkl := ho_len (zeS s) i
              obtain ⟨k, hk⟩ : ∃ m, m = (hoL (zeS s) i).length := ⟨_, rfl⟩
              have HKK : Hid ((hoL (zeS s) i).length = k) := hk.symm
              rw [← hk] at hkl ⊢
              clear hrel hbr hne hk
              have ib : (i : Int) ≤ 80 := by omega
              have kb : (k : Int) ≤ 80 := by omega
              by_cases hlt : i < P
              · have hsz := (HP.out i).1 hlt
                have i1 : 256 * (i : Int) < (s.size : Int) := by omega
                have HZE := ze_eq s i hsz
                have HPi := HPT.out i
                obtain ⟨X, hX⟩ : ∃ X, X = prT s (256 * i) 256 := ⟨_, rfl⟩
                have hXs : 1 ≤ X.size ∧ X.size ≤ 256 := by
                  rw [hX]
                  unfold prT
                  rw [strN_size]
                  unfold thN
                  omega
                rw [← hX] at HZE HPi
                have HZi := HZR.out X.size
                obtain ⟨Y, hY⟩ : ∃ Y, Y = strN (fun _ => 0) X.size := ⟨_, rfl⟩
                rw [← hY] at HZE HZi
                have HPH : Hid (∀ V : World, Calls Tryz.prog 14 #[.string s, .int .i64 (256 * (i : Int)), .int .i64 256] V fun e w' => e = .returned (.string X) ∧ w' = V) := fun V => HPi V (by omega)
                have HZH : Hid (∀ V : World, Calls Tryz.prog 15 #[.int .i64 (X.size : Int)] V fun e w' => e = .returned (.string Y) ∧ Below V.heap.size V w') := fun V => HZi V hXs.1 hXs.2
                clear hX hY HPi HZi hXs
                cases hzi : zeS s i with
                | false =>
                  rw [hzi] at HZE
                  have HST : Hid ((hoL (zeS s) (i + 1)).length = k ∧ NeK (zeS s) (i + 1)) := ⟨by rw [ho_no i hzi]; exact HKK.out, ne_no i hzi⟩
                  clear hzi
                  go_wp2_with fail
                  refine (HPH.out _).mono ?_
                  rintro e wa ⟨rfl, hwa⟩
                  subst hwa
                  go_wp2_with fail
                  refine (HPH.out _).mono ?_
                  rintro e wb ⟨rfl, hwb⟩
                  subst hwb
                  go_wp2_with fail
                  refine (HZH.out _).mono ?_
                  rintro e wc ⟨rfl, hbc⟩
                  have HBC : Hid (Below wH.heap.size wH wc) := HBR.out.trans (hbc.mono HBR.out.size)
                  clear hbc
                  go_wp2_with fail
                  go_roundw
                  case rel => exact ⟨i + 1, by omega, by first | rfl | go_num | simp, by rw [HST.out.1], fun _ _ => HST.out.2, HBC.out⟩
                  case measure => simp [intOf]; omega
                | true =>
                  rw [hzi] at HZE
                  have hnei := HNE.out hlt hzi
                  obtain ⟨e, he1, he2, he3, he4⟩ := ho_far P i hlt hzi
                  obtain ⟨m, hm⟩ := ho_split P i e hnei he1 he2 he3 he4
                  have HRUN : Hid (hoL (zeS s) (e + 1) = hoL (zeS s) i ++ [(i, e)]) := ho_run i hnei e he1 he3
                  have HEND : Hid (e + 1 = P ∨ zeS s (e + 1) = false) := he4
                  have HZZ : Hid (∀ q, i ≤ q → q ≤ e → zeS s q = true) := he3
                  have HATK : Hid ((hoL (zeS s) P)[k]? = some (i, e) ∧ k < nL) := by
                    have e1 : (hoL (zeS s) P)[k]? = some (i, e) := by
                      rw [hm, List.getElem?_append_right (by rw [HKK.out]; omega), HKK.out, Nat.sub_self]
                      rfl
                    exact ⟨e1, by rw [HNL.out.1]; exact (List.getElem?_eq_some_iff.1 e1).1⟩
                  obtain ⟨g, rfl, _, _⟩ := ru_cells HV.out (Below.refl _ _) k (i, e) HATK.out.1
                  have HCG : Hid (∀ V', Below wH.heap.size wH V' → V'.cell? ⟨g, k * 2, none⟩ = some (.int .i64 (i : Int)) ∧ V'.cell? ⟨g, k * 2 + 1, none⟩ = some (.int .i64 (e : Int))) := fun V' hV' => by
                    obtain ⟨g', e1, h1, h2⟩ := ru_cells HV.out hV' k (i, e) HATK.out.1
                    injection e1 with e1
                    injection e1 with e1
                    subst e1
                    exact ⟨h1, h2⟩
                  have HCL : Hid (∀ k', k = k' + 1 → ∃ a b : Nat, b + 1 ≠ i ∧ b ≤ 80 ∧ ∀ V', Below wH.heap.size wH V' → V'.cell? ⟨g, k' * 2, none⟩ = some (.int .i64 (a : Int)) ∧ V'.cell? ⟨g, k' * 2 + 1, none⟩ = some (.int .i64 (b : Int))) := fun k' hk' => by
                    rcases List.eq_nil_or_concat (hoL (zeS s) i) with h0 | ⟨l0, ⟨a, b⟩, h0⟩
                    · have := HKK.out
                      rw [h0] at this
                      simp at this
                      omega
                    · rw [List.concat_eq_append] at h0
                      have hl0 : l0.length = k' := by
                        have := HKK.out
                        rw [h0] at this
                        simp at this
                        omega
                      have hb := ho_le (zeS s) i (a, b) (by rw [h0]; simp)
                      have hb2 : b < i := hb
                      refine ⟨a, b, hnei l0 a b h0, by omega, fun V' hV' => ?_⟩
                      have e1 : (hoL (zeS s) P)[k']? = some (a, b) := by
                        rw [hm, h0, List.append_assoc, List.getElem?_append_right (by omega), hl0, Nat.sub_self]
                        rfl
                      obtain ⟨g', e2, h1, h2⟩ := ru_cells HV.out hV' k' (a, b) e1
                      injection e2 with e2
                      injection e2 with e2
                      subst e2
                      exact ⟨h1, h2⟩
                  have k1 : (k : Int) < (nL : Int) := by have := HATK.out.2; omega
                  have k2 : ¬ ((nL : Int) ≤ (k : Int)) := by omega
                  have eb : (e : Int) ≤ 80 := by omega
                  clear he3 he4 hm hnei hzi
                  go_wp2_with fail
                  refine (HPH.out _).mono ?_
                  rintro e' wa ⟨rfl, hwa⟩
                  subst hwa
                  go_wp2_with fail
                  refine (HPH.out _).mono ?_
                  rintro e' wb ⟨rfl, hwb⟩
                  subst hwb
                  go_wp2_with fail
                  refine (HZH.out _).mono ?_
                  rintro e' wc ⟨rfl, hbc⟩
                  have HBC : Hid (Below wH.heap.size wH wc) := HBR.out.trans (hbc.mono HBR.out.size)
                  clear hbc HPH HZH
                  go_upto_region 25 with fail
                  go_cut [143] (fun v wx => v = .bool false ∧ wc = wx)
                  case first =>
                    rcases Nat.eq_zero_or_pos k with hk0 | hk0
                    · have hk0' : ¬ ((0 : Int) < (k : Int)) := by omega
                      clear hk0
                      go_wp2_with fail
                      go_meet
                      exact ⟨rfl, rfl⟩
                    · obtain ⟨k', hk'⟩ : ∃ k', k = k' + 1 := ⟨k - 1, by omega⟩
                      obtain ⟨a', b', hb1, hb2, hcl⟩ := HCL.out k' hk'
                      obtain ⟨q0, q1⟩ := hcl wc HBC.out
                      have hk0' : (0 : Int) < (k : Int) := by omega
                      have e5 : (k : Int) - 1 = (k' : Int) := by omega
                      have e6 : (k' : Int) < (nL : Int) := by omega
                      have e7 : ((b' : Int) == (i : Int) - 1) = false := by simp; omega
                      clear hk' hcl HCL hk0
                      go_wp2_with fail
                      go_meet
                      exact ⟨rfl, rfl⟩
                  case rest =>
                    obtain ⟨rfl, rfl⟩ := hcut
                    go_wp2_with fail
                    go_loopw [18] (fun v18 wr => Hid (∃ j : Nat, i ≤ j ∧ j ≤ e ∧ v18 = .int .i64 (j : Int) ∧ Below wH.heap.size wH wr)) (fun v18 _ => P + 1 - (intOf v18).toNat)
                    case atStart => exact ⟨i, Nat.le_refl _, he1, rfl, HBC.out⟩
                    case round =>
                      obtain ⟨j, hij, hje, rfl, hbj⟩ := Hid.out hrel
                      have HBJ : Hid (Below wH.heap.size wH wr) := hbj
                      clear hrel hbj HBC
                      have jb : (j : Int) ≤ 80 := by omega
                      by_cases hjP : j + 1 < P
                      · have hsz2 := (HP.out (j + 1)).1 hjP
                        have j1 : 256 * ((j : Int) + 1) < (s.size : Int) := by omega
                        have HZE2 := ze_eq s (j + 1) hsz2
                        have HPi := HPT.out (j + 1)
                        rw [show ((j + 1 : Nat) : Int) = (j : Int) + 1 by omega] at HPi
                        obtain ⟨X2, hX⟩ : ∃ X, X = prT s (256 * (j + 1)) 256 := ⟨_, rfl⟩
                        have hXs : 1 ≤ X2.size ∧ X2.size ≤ 256 := by
                          rw [hX]
                          unfold prT
                          rw [strN_size]
                          unfold thN
                          omega
                        rw [← hX] at HZE2 HPi
                        have HZi := HZR.out X2.size
                        obtain ⟨Y2, hY⟩ : ∃ Y, Y = strN (fun _ => 0) X2.size := ⟨_, rfl⟩
                        rw [← hY] at HZE2 HZi
                        have HPH : Hid (∀ V : World, Calls Tryz.prog 14 #[.string s, .int .i64 (256 * ((j : Int) + 1)), .int .i64 256] V fun e w' => e = .returned (.string X2) ∧ w' = V) := fun V => HPi V (by omega)
                        have HZH : Hid (∀ V : World, Calls Tryz.prog 15 #[.int .i64 (X2.size : Int)] V fun e w' => e = .returned (.string Y2) ∧ Below V.heap.size V w') := fun V => HZi V hXs.1 hXs.2
                        clear hX hY HPi HZi hXs
                        cases hzj : zeS s (j + 1) with
                        | true =>
                          rw [hzj] at HZE2
                          have hje2 : j + 1 ≤ e := by
                            rcases Nat.lt_or_ge j e with c | c
                            · exact c
                            · obtain rfl : j = e := by omega
                              rcases HEND.out with h | h
                              · omega
                              · rw [h] at hzj
                                cases hzj
                          clear hzj
                          go_wp2_with fail
                          refine (HPH.out _).mono ?_
                          rintro e' wa ⟨rfl, hwa⟩
                          subst hwa
                          go_wp2_with fail
                          refine (HPH.out _).mono ?_
                          rintro e' wb ⟨rfl, hwb⟩
                          subst hwb
                          go_wp2_with fail
                          refine (HZH.out _).mono ?_
                          rintro e' wd ⟨rfl, hbd⟩
                          have HBD : Hid (Below wH.heap.size wH wd) := HBJ.out.trans (hbd.mono HBJ.out.size)
                          clear hbd
                          go_wp2_with fail
                          go_roundw
                          case rel => exact ⟨j + 1, by omega, hje2, by first | rfl | go_num | simp, HBD.out⟩
                          case measure => simp [intOf]; omega
                        | false =>
                          rw [hzj] at HZE2
                          obtain rfl : j = e := by
                            rcases Nat.lt_or_ge j e with c | c
                            · have := HZZ.out (j + 1) (by omega) c
                              rw [hzj] at this
                              cases this
                            · omega
                          clear hzj
                          go_wp2_with fail
                          refine (HPH.out _).mono ?_
                          rintro e' wa ⟨rfl, hwa⟩
                          subst hwa
                          go_wp2_with fail
                          refine (HPH.out _).mono ?_
                          rintro e' wb ⟨rfl, hwb⟩
                          subst hwb
                          go_wp2_with fail
                          refine (HZH.out _).mono ?_
                          rintro e' wd ⟨rfl, hbd⟩
                          have HBD : Hid (Below wH.heap.size wH wd) := HBJ.out.trans (hbd.mono HBJ.out.size)
                          clear hbd
                          have HK2 : Hid ((hoL (zeS s) (j + 1)).length = (hoL (zeS s) i).length + 1) := by
                            show _ = _
                            rw [HRUN.out]
                            simp
                          have eqr : ∀ w, (Op.equalIn 10000 47 (.agg #[.int .i64 (i : Int), .int .i64 (j : Int)]) (.agg #[.int .i64 (i : Int), .int .i64 (j : Int)])).run Tryz.prog w = .ok true w := fun w => fd_eq _ _ w
                          have d0 : wd.cell? ⟨g, k * 2, none⟩ = some (.int .i64 (i : Int)) := (HCG.out wd HBD.out).1
                          have d1 : wd.cell? ⟨g, k * 2 + 1, none⟩ = some (.int .i64 (j : Int)) := (HCG.out wd HBD.out).2
                          have HB9 : Hid (Below wH.heap.size wH wd) := HBD.out
                          go_wp2_with fail
                          go_roundw
                          case rel => exact ⟨j + 1, by omega, by first | rfl | go_num | simp, by rw [HK2.out, HKK.out]; first | rfl | go_num | simp, fun h1 h2 => absurd h2 (by rcases HEND.out with h | h; exact absurd h (by omega); rw [h]; decide), HB9.out⟩
                          case measure => simp [intOf]; omega
                      · have j1 : ¬ (256 * ((j : Int) + 1) < (s.size : Int)) := by
                          have := (HP.out (j + 1))
                          omega
                        obtain rfl : j = e := by omega
                        have HK2 : Hid ((hoL (zeS s) (j + 1)).length = (hoL (zeS s) i).length + 1) := by
                          show _ = _
                          rw [HRUN.out]
                          simp
                        have eqr : ∀ w, (Op.equalIn 10000 47 (.agg #[.int .i64 (i : Int), .int .i64 (j : Int)]) (.agg #[.int .i64 (i : Int), .int .i64 (j : Int)])).run Tryz.prog w = .ok true w := fun w => fd_eq _ _ w
                        have d0 : wr.cell? ⟨g, k * 2, none⟩ = some (.int .i64 (i : Int)) := (HCG.out wr HBJ.out).1
                        have d1 : wr.cell? ⟨g, k * 2 + 1, none⟩ = some (.int .i64 (j : Int)) := (HCG.out wr HBJ.out).2
                        have HB9 : Hid (Below wH.heap.size wH wr) := HBJ.out
                        go_wp2_with fail
                        go_roundw
                        case rel => exact ⟨j + 1, by omega, by first | rfl | go_num | simp, by rw [HK2.out, HKK.out]; first | rfl | go_num | simp, fun h1 h2 => absurd h2 (by rcases HEND.out with h | h; exact absurd h (by omega); rw [h]; decide), HB9.out⟩
                        case measure => simp [intOf]; omega
              · have hsz : ¬ 256 * i < s.size := fun h => hlt ((HP.out i).2 h)
                have i1 : ¬ (256 * (i : Int) < (s.size : Int)) := by omega
                obtain rfl : i = P := by omega
                have e9 : ((k : Int) == (nL : Int)) = true := by
                  have h1 := HKK.out
                  have h2 := HNL.out.1
                  rw [← h1, h2]
                  simp
                have HF : Hid (Below w.heap.size w wr) := HBH.out.trans (HBR.out.mono HBH.out.size)
                go_wp2_with fail
                go_ret
                exact ⟨rfl, HF.out⟩
end Go.Proofs.YtelgceaembmenaaGreat
