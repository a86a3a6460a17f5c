/- The statement FileBack: its walk. -/
import Derived.Test.YtojbgggkfahkfaaGreatHFlState
import Derived.Handy

namespace Go.Proofs.YtojbgggkfahkfaaGreat
open Go Go.RowKit
set_option linter.unusedSimpArgs false
set_option linter.unusedVariables false
theorem beg_state {w w' : World} {x mf ml mc : Nat} {cp : Option Addr} (h : Beg w w' x mf ml mc cp) : BS w w' x mf ml mc cp 2 bgH bgD 2 0 1 (fun _ => 0) := ⟨⟨bgH, bgD, h.2.1, bg_file, fun _ _ => ⟨rfl, rfl⟩⟩, h.2.2, h.1.2.2.1, h.1.2.1, fun _ _ => by decide⟩
theorem wz_first (s : ByteArray) : wzN 0 0 s.size = s.size := by unfold wzN; split <;> omega
theorem wr_first (s : ByteArray) (p : Nat) (hp : p < s.size) : tbyte s p = wrF (fun _ => 0) 0 s 0 p := by
  unfold wrF
  rw [if_pos (by omega), Nat.sub_zero]
theorem r_all (s : ByteArray) : strN (fun j => tbyte s (0 + j)) (thN s.size 0 s.size) = s := by
  have : thN s.size 0 s.size = s.size := by unfold thN; omega
  rw [this, strN_congr (g := tbyte s) fun j _ => by rw [Nat.zero_add]]
  exact strN_text s
theorem r_mid (F : Nat → Nat) (z a : Nat) (t : ByteArray) : strN (fun j => wrF F z t a (a + j)) (thN (wzN z a t.size) a t.size) = t := by
  have : thN (wzN z a t.size) a t.size = t.size := by unfold thN wzN; split <;> omega
  rw [this, strN_congr (g := tbyte t) fun j hj => by
    unfold wrF
    rw [if_pos (by omega)]
    congr 1
    omega]
  exact strN_text t
theorem r_head (s t : ByteArray) (a m : Nat) (hm : m = min a s.size) : strN (fun j => wrF (tbyte s) s.size t a (0 + j)) (thN (wzN s.size a t.size) 0 m) = s.extract 0 m := by
  have h1 : thN (wzN s.size a t.size) 0 m = m := by unfold thN wzN; split <;> omega
  rw [h1]
  have hz := extract_size s 0 m (by omega)
  refine text_ext (by rw [strN_size, hz]; rfl) fun j hj => ?_
  rw [strN_size] at hj
  have e : wrF (tbyte s) s.size t a (0 + j) = tbyte s j := by
    unfold wrF
    rw [if_neg (by omega), if_pos (by omega), Nat.zero_add]
  rw [strN_at (fun j => wrF (tbyte s) s.size t a (0 + j)) _ j hj (by rw [e]; exact tbyte_lt _ _), e, tbyte_extract _ _ _ _ (by omega) (by omega), Nat.zero_add]
theorem r_tail (s t : ByteArray) (a en : Nat) (he : a + t.size = en) (hl : en < s.size) (ht : t.size ≠ 0) : strN (fun j => wrF (tbyte s) s.size t a (en + j)) (thN (wzN s.size a t.size) en s.size) = s.extract en s.size := by
  have h1 : thN (wzN s.size a t.size) en s.size = s.size - en := by unfold thN wzN; rw [if_neg ht]; omega
  rw [h1]
  have hz := extract_size s en s.size (Nat.le_refl _)
  refine text_ext (by rw [strN_size, hz]) fun j hj => ?_
  rw [strN_size] at hj
  have e : wrF (tbyte s) s.size t a (en + j) = tbyte s (en + j) := by
    unfold wrF
    rw [if_neg (by omega), if_pos (by omega)]
  rw [strN_at (fun j => wrF (tbyte s) s.size t a (en + j)) _ j hj (by rw [e]; exact tbyte_lt _ _), e, tbyte_extract _ _ _ _ (by omega) (by omega)]
theorem r_zero (G : Nat → Nat) (a en k : Nat) (he : a + k = en) : strN (fun j => fzF G a (a + j)) (thN en a (k + 1)) = strN (fun _ => 0) k := by
  have h1 : thN en a (k + 1) = k := by unfold thN; omega
  rw [h1]
  exact strN_congr fun j hj => by unfold fzF; rw [if_neg (by omega)]
set_option maxRecDepth 100000 in
set_option maxHeartbeats 8000000 in
theorem fileBackLaw (a : Int) (s t : ByteArray) (ha : -9223372036854775808 ≤ a ∧ a ≤ 9223372036854775807) (hs : s.size ≤ 140737488355328) (ht : t.size ≤ 140737488355328) (w : World) : Calls Tryz.prog 5 #[.int .i64 a, .string s, .string t] w fun e w' => e = .returned (.bool true) ∧ Below w.heap.size w w' := by
  have HB := begun_any w
  have HAW : Hid (∀ w : World, Calls Tryz.prog 7 #[] w fun e w' => e = .returned (.bool true) ∧ Below w.heap.size w w') := awake16_any
  obtain ⟨S, hS⟩ : ∃ S : Nat, s.size = S := ⟨_, rfl⟩
  obtain ⟨T, hT⟩ : ∃ T : Nat, t.size = T := ⟨_, rfl⟩
  have HST : Hid (s.size = S ∧ t.size = T ∧ s.size ≤ 140737488355328 ∧ t.size ≤ 140737488355328) := ⟨hS, hT, hs, ht⟩
  rw [hS] at hs
  rw [hT] at ht
  go_enter Tryz.func5, Tryz.ntmps5
  go_wp2_with fail
  refine HB.mono ?_
  rintro e w1 ⟨x, mf, ml, mc, cp, rfl, hBeg⟩
  have h1 := beg_state hBeg
  have HA1 := HAW.out w1
  clear HB hBeg
  go_wp2_with fail
  refine HA1.mono ?_
  rintro e w2 ⟨rfl, hb2⟩
  have h2 := h1.below hb2
  clear HA1 h1 hb2
  by_cases hbig : 3000000 < S ∨ 3000000 < T
  · have HA2 := HAW.out w2
    have HE : Hid (Below w.heap.size w w2) := h2.bel
    clear h2
    by_cases hb1 : 3000000 < S
    · have t1 : (3000000 : Int) < (S : Int) := by omega
      clear hbig hb1
      go_wp2_with fail
      refine HA2.mono ?_
      rintro e w3 ⟨rfl, hb3⟩
      have HE3 : Hid (Below w.heap.size w w3) := HE.out.trans (hb3.mono HE.out.size)
      clear HA2 hb3
      go_wp2_with fail
      go_ret
      exact ⟨rfl, HE3.out⟩
    · have t1 : ¬ ((3000000 : Int) < (S : Int)) := by omega
      have t2 : (3000000 : Int) < (T : Int) := by omega
      clear hbig hb1
      go_wp2_with fail
      refine HA2.mono ?_
      rintro e w3 ⟨rfl, hb3⟩
      have HE3 : Hid (Below w.heap.size w w3) := HE.out.trans (hb3.mono HE.out.size)
      clear HA2 hb3
      go_wp2_with fail
      go_ret
      exact ⟨rfl, HE3.out⟩
  · have t1 : ¬ ((3000000 : Int) < (S : Int)) := by omega
    have t2 : ¬ ((3000000 : Int) < (T : Int)) := by omega
    clear hbig
    by_cases hsb : 1048576 < S
    · have HW := h2.writeErr 0 (by decide) s HST.out.2.2.1 (.inr (by have := HST.out; omega)) 2
      have HE : Hid (Below w.heap.size w w2) := h2.bel
      rw [if_neg (by decide)] at HW
      have t3 : (1048576 : Int) < (S : Int) := by omega
      clear h2 hsb
      go_wp2_with fail
      refine HW.mono ?_
      rintro e w3 ⟨rfl, hb3⟩
      have HE3 : Hid (Below w.heap.size w w3) := HE.out.trans (hb3.mono HE.out.size)
      clear HW hb3
      go_wp2_with fail
      go_ret
      exact ⟨rfl, HE3.out⟩
    · have HW := h2.write 0 s (by have := HST.out; omega) 2
      rw [wz_first, Nat.zero_add] at HW
      have hS2 : S ≤ 1048576 := by omega
      clear h2 hsb
      go_wp2_with fail
      refine HW.mono ?_
      rintro e w3 ⟨rfl, h3'⟩
      have h3 := h3'.congr (G := tbyte s) fun p hp => wr_first s p hp
      obtain ⟨st3, hst3⟩ : ∃ st3, (if s.size = 0 then 1 else 2) = st3 := ⟨_, rfl⟩
      rw [hst3] at h3
      clear HW h3' hst3
      by_cases hte : a < 0 ∨ 1048576 < a + (T : Int)
      · have HW := h3.writeErr a ha.2 t HST.out.2.2.2 (by have := HST.out; omega) 3
        obtain ⟨er, her⟩ : ∃ er : Int, (if a < 0 then 1 else 160) = er := ⟨_, rfl⟩
        have er0 : er ≠ 0 := by rw [← her]; split <;> decide
        rw [her] at HW
        clear her hte
        go_wp2_with fail
        refine HW.mono ?_
        rintro e w4 ⟨rfl, hb4⟩
        have h4 := h3.below hb4
        have HR := h4.read 0 S (by decide) (by omega)
        rw [← hS, r_all s, hS] at HR
        have HE : Hid (Below w.heap.size w w4) := h4.bel
        clear HW h3 hb4 h4
        go_wp2_with fail
        refine HR.mono ?_
        rintro e w5 ⟨rfl, hb5⟩
        have HE5 : Hid (Below w.heap.size w w5) := HE.out.trans (hb5.mono HE.out.size)
        clear HR hb5
        go_wp2_with fail
        go_ret
        exact ⟨rfl, HE5.out⟩
      · obtain ⟨b, rfl⟩ : ∃ b : Nat, a = (b : Int) := ⟨a.toNat, by omega⟩
        obtain ⟨en, hen⟩ : ∃ en : Nat, b + T = en := ⟨_, rfl⟩
        obtain ⟨m, hm⟩ : ∃ m : Nat, min b S = m := ⟨_, rfl⟩
        have hen2 : en ≤ 1048576 := by omega
        have hb2 : b ≤ 1048576 := by omega
        have e1 : (b : Int) + (T : Int) = (en : Int) := by omega
        have e2 : min (b : Int) (S : Int) = (m : Int) := by omega
        have m0 : (0 : Int) ≤ (m : Int) := by omega
        have m1 : (m : Int) ≤ (S : Int) := by omega
        have b0 : (0 : Int) ≤ (b : Int) := by omega
        have HEN : Hid (b + T = en ∧ min b S = m) := ⟨hen, hm⟩
        have HW := h3.write b t (by have := HST.out; omega) 3
        obtain ⟨st4, hst4⟩ : ∃ st4, (if t.size = 0 then st3 else 3) = st4 := ⟨_, rfl⟩
        rw [hst4, hT, hen] at HW
        have RM := r_mid (tbyte s) s.size b t
        rw [hT] at RM
        have RH := r_head s t b m (by rw [hS]; omega)
        rw [hT] at RH
        have neS : ((en : Int) != (en : Int)) = false := by simp
        clear hte ha hst4 hen hm
        go_wp2_with fail
        refine HW.mono ?_
        rintro e w4 ⟨rfl, h4⟩
        have HR := h4.read b T (by omega) (by omega)
        rw [RM] at HR
        clear HW h3 RM
        go_wp2_with fail
        refine HR.mono ?_
        rintro e w5 ⟨rfl, hb5⟩
        have h5 := h4.below hb5
        have HR := h5.read 0 m (by decide) (by omega)
        rw [RH] at HR
        clear h4 hb5 RH
        go_wp2_with fail
        refine HR.mono ?_
        rintro e w6 ⟨rfl, hb6⟩
        have h6 := h5.below hb6
        clear h5 hb6 HR
        by_cases hT0 : T = 0
        · have z0 : (T : Int) = 0 := by omega
          have HE : Hid (Below w.heap.size w w6) := h6.bel
          clear hT0 h6
          go_wp2_with fail
          go_ret
          exact ⟨rfl, HE.out⟩
        · have z0 : ¬ ((T : Int) = 0) := by omega
          by_cases hlt : en < S
          · have t3 : (en : Int) < (S : Int) := by omega
            have s0 : (0 : Int) ≤ (en : Int) := by omega
            have s1 : (en : Int) ≤ (S : Int) := by omega
            have RT := r_tail s t b en (by have := HEN.out; have := HST.out; omega) (by omega) (by have := HST.out; omega)
            rw [hT, hS] at RT
            rw [hS] at h6
            have HR := h6.read en S (by omega) (by omega)
            rw [RT] at HR
            clear RT hlt hT0
            go_wp2_with fail
            refine HR.mono ?_
            rintro e w7 ⟨rfl, hb7⟩
            have h7 := h6.below hb7
            clear h6 hb7 HR
            have HTR := h7.trunc b 4 hb2
            go_wp2_with fail
            refine HTR.mono ?_
            rintro e w8 ⟨rfl, h8⟩
            have HTR2 := h8.trunc en 5 hen2
            clear HTR h7
            go_wp2_with fail
            refine HTR2.mono ?_
            rintro e w9 ⟨rfl, h9⟩
            have HR := h9.read b (T + 1) (by omega) (by omega)
            rw [r_zero _ b en T HEN.out.1] at HR
            obtain ⟨T1, hT1⟩ : ∃ T1 : Nat, T + 1 = T1 := ⟨_, rfl⟩
            have e3 : (T : Int) + 1 = (T1 : Int) := by omega
            have b3 : T1 ≤ 3000001 := by omega
            rw [hT1] at HR
            have HT1 : Hid (T ≠ 0) := by show T ≠ 0; omega
            clear HTR2 h8 hT1
            go_wp2_with fail
            refine HR.mono ?_
            rintro e w10 ⟨rfl, hb10⟩
            have h10 := h9.below hb10
            have HSF := h10.self
            clear h9 hb10 HR
            go_wp2_with fail
            refine HSF.mono ?_
            rintro e w11 ⟨rfl, hb11⟩
            have h11 := h10.below hb11
            have HZ := zeros_some T (by have := HT1.out; omega) (by have := HST.out; omega) w11
            have HE : Hid (Below w.heap.size w w11) := h11.bel
            clear h10 hb11 HSF h11
            go_wp2_with fail
            refine HZ.mono ?_
            rintro e w12 ⟨rfl, hb12⟩
            have HE12 : Hid (Below w.heap.size w w12) := HE.out.trans (hb12.mono HE.out.size)
            clear HZ hb12
            go_wp2_with fail
            go_ret
            exact ⟨rfl, HE12.out⟩
          · have t3 : ¬ ((en : Int) < (S : Int)) := by omega
            have h7 := h6
            clear h6 hlt hT0
            have HTR := h7.trunc b 4 hb2
            go_wp2_with fail
            refine HTR.mono ?_
            rintro e w8 ⟨rfl, h8⟩
            have HTR2 := h8.trunc en 5 hen2
            clear HTR h7
            go_wp2_with fail
            refine HTR2.mono ?_
            rintro e w9 ⟨rfl, h9⟩
            have HR := h9.read b (T + 1) (by omega) (by omega)
            rw [r_zero _ b en T HEN.out.1] at HR
            obtain ⟨T1, hT1⟩ : ∃ T1 : Nat, T + 1 = T1 := ⟨_, rfl⟩
            have e3 : (T : Int) + 1 = (T1 : Int) := by omega
            have b3 : T1 ≤ 3000001 := by omega
            rw [hT1] at HR
            have HT1 : Hid (T ≠ 0) := by show T ≠ 0; omega
            clear HTR2 h8 hT1
            go_wp2_with fail
            refine HR.mono ?_
            rintro e w10 ⟨rfl, hb10⟩
            have h10 := h9.below hb10
            have HSF := h10.self
            clear h9 hb10 HR
            go_wp2_with fail
            refine HSF.mono ?_
            rintro e w11 ⟨rfl, hb11⟩
            have h11 := h10.below hb11
            have HZ := zeros_some T (by have := HT1.out; omega) (by have := HST.out; omega) w11
            have HE : Hid (Below w.heap.size w w11) := h11.bel
            clear h10 hb11 HSF h11
            go_wp2_with fail
            refine HZ.mono ?_
            rintro e w12 ⟨rfl, hb12⟩
            have HE12 : Hid (Below w.heap.size w w12) := HE.out.trans (hb12.mono HE.out.size)
            clear HZ hb12
            go_wp2_with fail
            go_ret
            exact ⟨rfl, HE12.out⟩
end Go.Proofs.YtojbgggkfahkfaaGreat
