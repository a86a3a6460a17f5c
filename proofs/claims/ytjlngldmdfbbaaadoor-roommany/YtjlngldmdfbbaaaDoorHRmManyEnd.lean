/- The law of many blocks, and how the struct of a number and a slice opens. -/
import Derived.Test.YtjlngldmdfbbaaaDoorHRmManyKit
import Derived.Deep.DeepCutAuto
import Derived.Deep.CutBlock
import Derived.Deep.Cut
import Derived.BigQuiet
import Derived.Deep.QuietTactic
import Derived.Handy
import Derived.Test.YtjlngldmdfbbaaaDoorRows
import Derived.WalkKit
import Derived.ProofKit
import Derived.OpenShut
import Derived.Carry
import Derived.Deep.Slices
import Derived.Lib.SmallJoins
import Derived.SizedLaws
import Derived.Test.YtjlngldmdfbbaaaDoorHBiPlay

namespace Go.Proofs.YtjlngldmdfbbaaaDoor
open Go Go.RowKit
set_option linter.unusedVariables false
set_option linter.unusedSimpArgs false
set_option maxRecDepth 100000 in
set_option maxHeartbeats 4000000 in
theorem many_bad (p : Int) (a : Option Addr) (N cc : Nat) (A : Nat → Nat) (xN : Int) (al : Option Addr) (NL cl : Nat) (w : World) (h0 : 0 < w.heap.size) (hT : TabAt w) (hD : IsU32s w a N A) (m er : Int) (her : er ≠ 0)
    (hNew : ∀ V, IsU32s V a N A → Calls Tryd.prog 4 #[.int .i64 p, .slice a N cc] V fun e w' => e = .returned (.tuple #[.pointer none, .int .i64 m, .int .i64 er]) ∧ Below V.heap.size V w')
    (hRef : ∀ V, IsU32s V a N A → Calls Tryd.prog 5 #[.int .i64 p, .slice a N cc] V fun e w' => e = .returned (.tuple #[.slice none 0 0, .int .i64 m, .int .i64 er]) ∧ Below V.heap.size V w') :
    Calls Tryd.prog 3 #[.int .i64 p, .slice a N cc, .agg #[.int .i64 xN, .slice al NL cl]] w fun e w' => e = .returned (.bool true) ∧ Below w.heap.size w w' := by
  have HD : Hid (∀ V, Below w.heap.size w V → IsU32s V a N A) := fun V hV => hD.below hV
  have HT : Hid (TabAt w) := hT
  have HNEW : Hid _ := hNew
  have HREF : Hid _ := hRef
  have hee : (er == er) = true := by simp
  have hen : (er != er) = false := by simp
  have her0 : (er == 0) = false := by simp [her]
  have her1 : (er != 0) = true := by simp [her]
  clear hT hD hNew hRef
  go_enter Tryd.func3, Tryd.ntmps3
  go_wp2_with fail
  have hb1 : Below w.heap.size w (w.alloc (.cells #[.int .i64 xN, .slice al NL cl] 24)) := (Below.refl _ w).alloc (Nat.le_refl _) _
  have HB1 : Hid (Below w.heap.size w (w.alloc (.cells #[.int .i64 xN, .slice al NL cl] 24))) := hb1
  clear hb1
  refine (HNEW.out _ (HD.out _ HB1.out)).mono ?_
  rintro e w2 ⟨rfl, hb⟩
  have HB2 : Hid (Below w.heap.size w w2) := HB1.out.trans (hb.mono HB1.out.size)
  clear hb
  go_wp2_with fail
  refine (HREF.out _ (HD.out _ HB2.out)).mono ?_
  rintro e w3 ⟨rfl, hb⟩
  have HB3 : Hid (Below w.heap.size w w3) := HB2.out.trans (hb.mono HB2.out.size)
  clear hb
  have HA : Hid (Calls _ _ _ _ _) := awake12_any w3 (HT.out.below h0 HB3.out) (Nat.lt_of_lt_of_le h0 HB3.out.size)
  go_wp2_with fail
  refine HA.out.mono ?_
  rintro e w4 ⟨rfl, hb⟩
  have HB4 : Hid (Below w.heap.size w w4) := HB3.out.trans (hb.mono HB3.out.size)
  clear hb HA
  go_wp2_with fail
  go_ret
  exact ⟨by first | rfl | simp, HB4.out⟩
set_option maxRecDepth 100000 in
set_option maxHeartbeats 16000000 in
theorem many_ok (n : Nat) (h1 : 16 ≤ n) (h2 : n ≤ 8192) (a : Option Addr) (N cc : Nat) (hN : N ≤ 9223372036854775807) (A : Nat → Nat) (hGA : GoodA A n N) (xN : Int) (al : Option Addr) (NL cl : Nat) (hNL : NL ≤ 9223372036854775807) (hcl : NL ≤ cl) (AL : Nat → Nat) (w : World) (h0 : 0 < w.heap.size) (hT : TabAt w) (hD : IsU32s w a N A) (hDL : IsU32s w al NL AL) :
    Calls Tryd.prog 3 #[.int .i64 (n : Int), .slice a N cc, .agg #[.int .i64 xN, .slice al NL cl]] w fun e w' => e = .returned (.bool true) ∧ Below w.heap.size w w' := by
  have HD : Hid (∀ V, Below w.heap.size w V → IsU32s V a N A) := fun V hV => hD.below hV
  have HDL : Hid (∀ V, Below w.heap.size w V → IsU32s V al NL AL) := fun V hV => hDL.below hV
  have HAL : Hid (0 < NL → ∀ b o, al = some ⟨b, o, none⟩ → b < w.heap.size) := fun hn b o e => by
    obtain ⟨_, b', o', e', hb', _⟩ := hDL 0 hn
    rw [e] at e'
    injection e' with e'
    injection e' with e1
    rw [e1]; exact hb'
  have HT : Hid (TabAt w) := hT
  have HGA : Hid (GoodA A n N) := hGA
  clear hT hD hDL hGA
  go_enter Tryd.func3, Tryd.ntmps3
  go_wp2_with fail
  have hb1 : Below w.heap.size w (w.alloc (.cells #[.int .i64 xN, .slice al NL cl] 24)) := (Below.refl _ w).alloc (Nat.le_refl _) _
  have HK1 : Hid (Below w.heap.size w (w.alloc (.cells #[.int .i64 xN, .slice al NL cl] 24)) ∧ Blk (w.alloc (.cells #[.int .i64 xN, .slice al NL cl] 24)) w.heap.size 24 #[.int .i64 xN, .slice al NL cl]) := ⟨hb1, Blk.new w _ _⟩
  clear hb1
  refine (rnew_any h1 h2 a N cc hN A _ (HD.out _ HK1.out.1)).mono ?_
  rintro e V ⟨(⟨r, rfl, _, hR⟩ | ⟨m, hm, rfl, _, hno⟩), hb⟩
  case inr => exact absurd (HGA.out m hm) hno
  obtain ⟨F, hF⟩ : ∃ F, memA A N = F := ⟨_, rfl⟩
  rw [hF] at hR
  have HMR : Hid (MR w V V.heap.size r n F F xN al NL cl) := by
    have hsz : (w.alloc (.cells #[.int .i64 xN, .slice al NL cl] 24)).heap.size = w.heap.size + 1 := by simp
    refine ⟨hR.reown fun k hk hp => ⟨?_, hk⟩, HK1.out.1.trans (hb.mono HK1.out.1.size), HK1.out.2.below hb HK1.out.2.lt, Nat.le_refl _, ?_⟩
    · have hp' : (w.alloc (.cells #[.int .i64 xN, .slice al NL cl] 24)).heap.size ≤ k := hp
      omega
    · have := hb.size
      omega
  clear hR hb HK1
  go_wp2_with fail
  refine (rref_any h1 h2 a N cc hN A V (HD.out _ HMR.out.big)).mono ?_
  rintro e w2 ⟨(⟨k, c, rfl, _, hS⟩ | ⟨m, hm, rfl, _, hno⟩), hb⟩
  case inr => exact absurd (HGA.out m hm) hno
  have HS2 : Hid (MR w w2 V.heap.size r n F F xN al NL cl ∧ SA w2 V.heap.size k n c (tieS F F n)) := ⟨HMR.out.go hb, hS.congr fun p hp => by rw [tie_new A N hp, hF]⟩
  clear hS hb HMR hF
  generalize V.heap.size = B at *
  have HA : Hid (Calls _ _ _ _ _) := awake12_any w2 (HS2.out.1.tab HT.out h0) (HS2.out.1.pos h0)
  go_wp2_with fail
  refine HA.out.mono ?_
  rintro e w3 ⟨rfl, hb⟩
  have HS3 : Hid (MR w w3 B r n F F xN al NL cl ∧ SA w3 B k n c (tieS F F n)) := ⟨HS2.out.1.go hb, HS2.out.2.below hb⟩
  have cx := HS3.out.1.box.cell 0
  have HTM : Hid (Calls _ _ _ _ _) := takemany_all HT.out h0 HS3.out.1
  clear hb HA HS2
  go_wp2_with fail
  clear cx
  refine HTM.out.mono ?_
  rintro e w4 ⟨vt, er, G1, rfl, htk, hR4, ht4⟩
  have HS4 : Hid (MR w w4 B r n F G1 xN al NL cl ∧ SA w4 B k n c (tieS F F n) ∧ TkD F F n xN w4 B vt er G1) := ⟨HS3.out.1.turn hR4 ht4, MR.sa HS3.out.2 ht4, htk⟩
  have HLI : Hid (Calls _ _ _ _ _) := rrlist_any HS4.out.2.1 1
  obtain ⟨fr, hfr⟩ : ∃ fr, (onesL (fun p => decide (tieS F F n p = 1)) n).length = fr := ⟨_, rfl⟩
  have HFR : Hid (fr = cntF (inF F F n 1) n) := by
    show _ = _
    rw [← hfr, ones_eq (fun p hp => tie_list 1 hp), ones_len]
  rw [hfr] at HLI
  clear htk hR4 ht4 HTM HS3 hfr
  go_wp2_with fail
  refine HLI.out.mono ?_
  rintro e w5 ⟨vl, rfl, hol, hb⟩
  obtain ⟨al2, cl2, rfl⟩ := kown_slice hol
  have HS5 : Hid (MR w w5 B r n F G1 xN al NL cl ∧ SA w5 B k n c (tieS F F n) ∧ TkD F F n xN w5 B vt er G1) := ⟨HS4.out.1.go hb, HS4.out.2.1.below hb, HS4.out.2.2.go hb⟩
  have hfr8 : fr ≤ 8192 := by
    rw [HFR.out]
    have := all_cnt (F := F) (G := F) (n := n) (by omega)
    omega
  clear hol hb HLI HS4
  go_upto_block 0 with fail
  go_cut [10] (fun v10 wx => ∃ k c, v10 = .slice (some ⟨k, 0, none⟩) n c ∧ Hid (MR w wx B r n F G1 xN al NL cl ∧ SA wx B k n c (tieS F G1 n)))
  case first =>
    have hcx := HS5.out.1.box.cell 0
    rcases HS5.out.2.2 with ⟨hx, hv, he, hG⟩ | ⟨hx0, hx1, hv, he, hG⟩ | ⟨m, g, hx, hm, hv, he, hG, hgB, hbk, hall⟩
    · subst hv he hG
      have HE : Hid (_ ∧ _) := ⟨HS5.out.1, HS5.out.2.1⟩
      clear HS5 HFR
      go_wp2_with fail
      go_meet
      exact ⟨k, c, rfl, HE.out.1, HE.out.2⟩
    · subst hv he hG
      have HE : Hid (_ ∧ _) := ⟨HS5.out.1, HS5.out.2.1⟩
      have q1 : ¬ xN < 0 := by omega
      have q2 : (fr : Int) < xN := by rw [HFR.out]; exact hx1
      clear HS5 HFR hx1
      go_wp2_with fail
      go_meet
      exact ⟨k, c, rfl, HE.out.1, HE.out.2⟩
    · subst hx hv he
      have q1 : ¬ (m : Int) < 0 := by omega
      have q2 : ¬ (fr : Int) < (m : Int) := by rw [HFR.out]; omega
      have HM : Hid (m ≤ 8192) := by show _ ≤ _; have := HFR.out; omega
      have hm8 : m ≤ 8192 := HM.out
      have HG : Hid (G1 = tkG F n F m) := hG
      have HAL2 : Hid (∀ j, j < m → freeF F (tkG F n F j) n = (tkP F n F j : Int) ∧ tkP F n F j < n) := hall
      have HE : Hid (MR w w5 B r n F G1 (m : Int) al NL cl ∧ SA w5 B k n c (tieS F F n) ∧ Blk w5 g 36 (va m (tkC (tkP F n F) m))) := ⟨HS5.out.1, HS5.out.2.1, hbk⟩
      clear HS5 HFR hm hall hbk hG
      go_wp2_with fail
      clear hcx q2
      go_loopw [10, 73] (fun v10 v73 wr => Hid (∃ i k c : Nat, i ≤ m ∧ v10 = .slice (some ⟨k, 0, none⟩) n c ∧ v73 = .int .i64 (i : Int) ∧ MR w wr B r n F G1 (m : Int) al NL cl ∧ SA wr B k n c (tieS F (tkG F n F i) n) ∧ Blk wr g 36 (va m (tkC (tkP F n F) m)))) (fun _ v73 _ => m - (intOf v73).toNat)
      case atStart => exact ⟨0, k, c, Nat.zero_le _, rfl, rfl, HE.out.1, HE.out.2.1, HE.out.2.2⟩
      case round =>
        obtain ⟨i, k2, c2, him, rfl, rfl, hMR, hSA, hBk⟩ := Hid.out hrel
        have HI : Hid (MR w wr B r n F G1 (m : Int) al NL cl ∧ SA wr B k2 n c2 (tieS F (tkG F n F i) n) ∧ Blk wr g 36 (va m (tkC (tkP F n F) m))) := ⟨hMR, hSA, hBk⟩
        clear hrel hMR hSA hBk HE
        by_cases hi : i < m
        · have i1 : (i : Int) < (m : Int) := by omega
          have i0 : (0 : Int) ≤ (i : Int) := by omega
          have i2 : ¬ ((m : Int) ≤ (i : Int)) := by omega
          go_wp2_with fail
          refine (rrtake_any (by omega) HI.out.2.1).mono ?_
          rintro e w6 ⟨(⟨hno, rfl⟩ | ⟨p, k3, c3, hp, hp1, hpl, rfl, hS6⟩), hb6⟩
          · exfalso
            have h3 := tie_none hno
            have h4 := (HAL2.out i hi).1
            omega
          · have hfr := tie_least hp hp1 hpl
            obtain ⟨p1, hFp, _⟩ := (tie_free hp).1 hp1
            have hpe : tkP F n F i = p := tkP_eq hfr
            have hbk6 := HI.out.2.2.below hb6 HI.out.2.2.lt
            have ca : w6.cell? ⟨g, i, none⟩ = some (.int .u32 (p : Int)) := by
              have := hbk6.cv (n := m) (f := tkC (tkP F n F) m) (i := i) hi
              unfold tkC at this
              rw [if_pos hi, hpe] at this
              exact this
            have HI6 : Hid (MR w w6 B r n F G1 (m : Int) al NL cl ∧ SA w6 B k3 n c3 (tieS F (tkG F n F (i + 1)) n) ∧ Blk w6 g 36 (va m (tkC (tkP F n F) m))) := by
              refine ⟨HI.out.1.go hb6, ?_, hbk6⟩
              rw [tkG_succ hfr]
              exact (hS6.mono HI.out.1.hB).congr fun q hq => tie_take p1 hFp hq
            have hpp : ((p : Int) == (p : Int)) = true := by simp
            have hpn : ((p : Int) != (p : Int)) = false := by simp
            clear hS6 hb6 hbk6 hfr hFp hpe hp1 hpl HI
            go_wp2_with fail
            go_roundw
            case rel => exact ⟨i + 1, k3, c3, by omega, by first | rfl | go_num | simp, by first | rfl | go_num | simp, HI6.out.1, HI6.out.2.1, HI6.out.2.2⟩
            case measure => simp [intOf]; omega
        · have i1 : ¬ ((i : Int) < (m : Int)) := by omega
          obtain rfl : i = m := by omega
          have hcx := HI.out.1.box.cell 0
          go_wp2_with fail
          go_meet
          exact ⟨k2, c2, rfl, HI.out.1, by rw [HG.out]; exact HI.out.2.1⟩
  case rest =>
    obtain ⟨k1, c1, rfl, hcut⟩ := hcut
    have HS6 : Hid (MR w wc B r n F G1 xN al NL cl ∧ SA wc B k1 n c1 (tieS F G1 n)) := hcut.out
    clear hcut HS5 HFR hfr8
    obtain ⟨pl, kE, bad, hdec⟩ : ∃ (pl kE : Nat) (bad : Bool), (bad = true ∧ pl < NL ∧ kE = pl ∧ LtOk AL G1 pl ∧ ltG AL G1 pl (AL pl) = false) ∨ (bad = false ∧ pl = 0 ∧ kE = NL ∧ LtOk AL G1 NL) := by
      by_cases hq : LtOk AL G1 NL
      · exact ⟨0, NL, false, .inr ⟨rfl, rfl, rfl, hq⟩⟩
      · obtain ⟨pl, q1, q2, q3⟩ := lt_first NL hq
        exact ⟨pl, pl, true, .inl ⟨rfl, q1, rfl, q2, q3⟩⟩
    have HDC : Hid ((bad = true ∧ pl < NL ∧ kE = pl ∧ LtOk AL G1 pl ∧ ltG AL G1 pl (AL pl) = false) ∨ (bad = false ∧ pl = 0 ∧ kE = NL ∧ LtOk AL G1 NL)) := hdec
    have HLK : Hid (LtOk AL G1 kE ∧ kE ≤ NL) := by
      rcases hdec with ⟨_, q1, rfl, q2, _⟩ | ⟨_, _, rfl, q2⟩
      · exact ⟨q2, by omega⟩
      · exact ⟨q2, Nat.le_refl _⟩
    have hkE : kE ≤ NL := HLK.out.2
    clear hdec
    have hcx1 := HS6.out.1.box.cell 1
    go_upto_block 3 with fail
    clear hcx1
    go_cut [17, 18, 19] (fun v17 v18 v19 wx => v17 = .int .i64 (pl : Int) ∧ v18 = .bool bad ∧ ∃ k2 c2, v19 = .slice (some ⟨k2, 0, none⟩) n c2 ∧ Hid (MR w wx B r n F G1 xN al NL cl ∧ SA wx B k1 n c1 (tieS F G1 n) ∧ SA wx B k2 n c2 (tieS F (ltG AL G1 kE) n)))
    case first =>
      go_wp2_with fail
      go_loopw [17, 18, 19, 131] (fun v17 v18 v19 v131 wr => Hid (∃ i k2 c2 : Nat, i ≤ kE ∧ v17 = .int .i64 0 ∧ v18 = .bool false ∧ v19 = .slice (some ⟨k2, 0, none⟩) n c2 ∧ v131 = .int .i64 (i : Int) ∧ MR w wr B r n F G1 xN al NL cl ∧ SA wr B k1 n c1 (tieS F G1 n) ∧ SA wr B k2 n c2 (tieS F (ltG AL G1 i) n))) (fun _ _ _ v131 _ => NL - (intOf v131).toNat)
      case atStart => exact ⟨0, k1, c1, Nat.zero_le _, rfl, rfl, rfl, rfl, HS6.out.1, HS6.out.2, HS6.out.2⟩
      case round =>
        obtain ⟨i, k2, c2, hik, rfl, rfl, rfl, rfl, hMR, hS1, hS2⟩ := Hid.out hrel
        have HI : Hid (MR w wr B r n F G1 xN al NL cl ∧ SA wr B k1 n c1 (tieS F G1 n) ∧ SA wr B k2 n c2 (tieS F (ltG AL G1 i) n)) := ⟨hMR, hS1, hS2⟩
        clear hrel hMR hS1 hS2 HS6
        by_cases hiN : i < NL
        · have j1 : (i : Int) < (NL : Int) := by omega
          have j0 : (0 : Int) ≤ (i : Int) := by omega
          have j2 : (i : Int) ≤ (NL : Int) := by omega
          have j3 : (i : Int) ≤ (cl : Int) := by omega
          obtain ⟨hx32, b, o, hal, hbb, cA⟩ := HDL.out wr HI.out.1.big i hiN
          have HCE : Hid (∀ t, t < i → wr.cell? ⟨b, o + t, none⟩ = some (.int .u32 (AL t : Int))) := fun t ht => by
            obtain ⟨_, b', o', e', _, hc'⟩ := HDL.out wr HI.out.1.big t (by omega)
            rw [hal] at e'
            injection e' with e'
            injection e' with e1 e2
            rw [e1, e2]; exact hc'
          subst hal
          have hcx1 := HI.out.1.box.cell 1
          obtain ⟨x, hx⟩ : ∃ x, AL i = x := ⟨_, rfl⟩
          rw [hx] at cA hx32
          have HX : Hid (AL i = x) := hx
          clear hbb hx
          go_wp2_with fail
          clear hcx1 cA
          go_loopw [22, 141] (fun v22 v141 wx => Hid (∃ t : Nat, t ≤ i ∧ v141 = .int .i64 (t : Int) ∧ v22 = .bool (decide (∃ j, j < t ∧ AL j = x)) ∧ wr = wx)) (fun _ v141 _ => i - (intOf v141).toNat)
          case atStart => exact ⟨0, Nat.zero_le _, rfl, by rw [decide_eq_false (fun ⟨j, hj, _⟩ => by omega)], rfl⟩
          case round =>
            obtain ⟨t, hti, rfl, rfl, rfl⟩ := Hid.out hrel
            clear hrel
            by_cases htl : t < i
            · have t1 : (t : Int) < (i : Int) := by omega
              have t0 : (0 : Int) ≤ (t : Int) := by omega
              have ct := HCE.out t htl
              obtain ⟨sb, hsb⟩ : ∃ sb, decide (∃ j, j < t ∧ AL j = x) = sb := ⟨_, rfl⟩
              have HSB : Hid (decide (∃ j, j < t + 1 ∧ AL j = x) = (sb || decide (AL t = x))) := by
                show _ = _
                rw [← hsb, ← Bool.decide_or, decide_eq_decide]
                constructor
                · rintro ⟨j, hj, e⟩
                  by_cases c : j = t
                  · subst c; exact .inr e
                  · exact .inl ⟨j, by omega, e⟩
                · rintro (⟨j, hj, e⟩ | e)
                  · exact ⟨j, by omega, e⟩
                  · exact ⟨t, by omega, e⟩
              rw [hsb]
              clear hsb
              cases sb
              · by_cases hq : AL t = x
                · have hqi : ((AL t : Int) == (x : Int)) = true := by simp [hq]
                  have HS3 : Hid (decide (∃ j, j < t + 1 ∧ AL j = x) = true) := by show _ = _; rw [HSB.out, decide_eq_true hq]; rfl
                  rw [hq] at ct
                  have hxx : ((x : Int) == (x : Int)) = true := by simp
                  clear hqi
                  go_wp2_with fail
                  go_roundw
                  case rel => exact ⟨t + 1, by omega, by first | rfl | go_num | simp, by first | (rw [HS3.out]; done) | (rw [HS3.out]; first | rfl | simp), by first | exact trivial | rfl⟩
                  case measure => simp [intOf]; omega
                · have hqi : ((AL t : Int) == (x : Int)) = false := by rw [beq_eq_false_iff_ne]; omega
                  have hqn : ¬ ((AL t : Int) = (x : Int)) := by omega
                  have HS3 : Hid (decide (∃ j, j < t + 1 ∧ AL j = x) = false) := by show _ = _; rw [HSB.out, decide_eq_false hq]; rfl
                  generalize AL t = y at *
                  go_wp2_with fail
                  go_roundw
                  case rel => exact ⟨t + 1, by omega, by first | rfl | go_num | simp, by first | (rw [HS3.out]; done) | (rw [HS3.out]; first | rfl | simp), by first | exact trivial | rfl⟩
                  case measure => simp [intOf]; omega
              · have HS3 : Hid (decide (∃ j, j < t + 1 ∧ AL j = x) = true) := by show _ = _; rw [HSB.out]; rfl
                go_wp2_with fail
                go_roundw
                case rel => exact ⟨t + 1, by omega, by first | rfl | go_num | simp, by first | (rw [HS3.out]; done) | (rw [HS3.out]; first | rfl | simp), by first | exact trivial | rfl⟩
                case measure => simp [intOf]; omega
            · have t1 : ¬ ((t : Int) < (i : Int)) := by omega
              obtain rfl : t = i := by omega
              have hfa := HI.out.1.room.facts
              by_cases hlt : t < kE
              · have hG : ltG AL G1 t x = true := by have := HLK.out.1 t hlt; rwa [HX.out] at this
                have hxn : x < n := Nat.lt_of_not_le fun q => by rw [ltG_out hfa.2.2.2.2.2 t x q] at hG; cases hG
                have hx1 : 1 ≤ x := by
                  rcases Nat.eq_zero_or_pos x with q | q
                  · rw [q, ltG_zero hfa.2.2.2.1 t] at hG; cases hG
                  · exact q
                have hse : decide (∃ j, j < t ∧ AL j = x) = false := decide_eq_false fun ⟨j, hj, e⟩ => lt_seen t hG j hj e
                rw [hse]
                have HLG : Hid (Calls _ _ _ _ _) := rrlet_ok (by omega) HI.out.2.2 x hx32 hxn ((tie_let hxn (ltG_zero hfa.2.2.2.1 t)).2 hG)
                have HGG : Hid (ltG AL G1 t x = true ∧ x < n ∧ 1 ≤ x) := ⟨hG, hxn, hx1⟩
                clear hG hse hfa hx1
                go_wp2_with fail
                refine HLG.out.mono ?_
                rintro e w7 ⟨k3, c3, rfl, hS7, hb7⟩
                have HI7 : Hid (MR w w7 B r n F G1 xN (some ⟨b, o, none⟩) NL cl ∧ SA w7 B k1 n c1 (tieS F G1 n) ∧ SA w7 B k3 n c3 (tieS F (ltG AL G1 (t + 1)) n)) := by
                  refine ⟨HI.out.1.go hb7, HI.out.2.1.below hb7, ?_⟩
                  have := (hS7.mono HI.out.1.hB).congr fun q hq => tie_gone HGG.out.2.2 HGG.out.1 HGG.out.2.1 hq
                  show SA w7 B k3 n c3 (tieS F (fun q => if q = AL t then false else ltG AL G1 t q) n)
                  rw [HX.out]
                  exact this
                clear hS7 hb7 HLG
                go_wp2_with fail
                go_roundw
                case rel => exact ⟨t + 1, k3, c3, by omega, rfl, rfl, by first | rfl | go_num | simp, by first | rfl | go_num | simp, HI7.out.1, HI7.out.2.1, HI7.out.2.2⟩
                case measure => simp [intOf]; omega
              · have hte : t = kE := by omega
                rcases HDC.out with ⟨hbad, hpl, hkp, hok, hno⟩ | ⟨_, _, hkN, _⟩
                · have htp : t = pl := by omega
                  subst htp
                  rw [HX.out] at hno
                  have HLG : Hid (Calls _ _ _ _ _) := rrlet_bad HI.out.2.2 x hx32 (by
                    rintro ⟨q1, q2⟩
                    rw [(tie_let q1 (ltG_zero hfa.2.2.2.1 t)).1 q2] at hno
                    cases hno)
                  have HBAD : Hid (bad = true ∧ kE = t) := ⟨hbad, hkp⟩
                  generalize decide (∃ j, j < t ∧ AL j = x) = sb at *
                  clear hno hfa hbad hkp hok hte
                  go_wp2_with fail
                  refine HLG.out.mono ?_
                  rintro e w7 ⟨rfl, hw7⟩
                  subst w7
                  go_wp2_with fail
                  go_meet
                  exact ⟨rfl, by rw [HBAD.out.1], k2, c2, rfl, HI.out.1, HI.out.2.1, by rw [HBAD.out.2]; exact HI.out.2.2⟩
                · exfalso; omega
        · have j1 : ¬ ((i : Int) < (NL : Int)) := by omega
          have hiN2 : i = NL := by omega
          rcases HDC.out with ⟨hbad, hpl, hkp, hok, hno⟩ | ⟨hbad, hp0, hkN, _⟩
          · exfalso; omega
          · have HBAD : Hid (bad = false ∧ pl = 0 ∧ kE = i) := ⟨hbad, hp0, by omega⟩
            clear hbad hp0 hkN hiN2
            go_wp2_with fail
            go_meet
            exact ⟨by rw [HBAD.out.2.1]; rfl, by rw [HBAD.out.1], k2, c2, rfl, HI.out.1, HI.out.2.1, by rw [HBAD.out.2.2]; exact HI.out.2.2⟩
    case rest =>
      obtain ⟨rfl, rfl, k2, c2, rfl, hcut⟩ := hcut
      have HS7 : Hid (_ ∧ _ ∧ _) := hcut.out
      clear hcut HS6
      have hcx1 := HS7.out.1.box.cell 1
      have HLA : Hid (Calls _ _ _ _ _) := rletall_any (cc := cl) HS7.out.1.room al NL hNL AL (HDL.out _ HS7.out.1.big) (fun hn b o e => ⟨fun hp => by have := HAL.out hn b o e; have := hp.1; omega, Nat.lt_of_lt_of_le (HAL.out hn b o e) HS7.out.1.big.size⟩) (fun j hj => Nat.lt_of_lt_of_le hj.2 HS7.out.1.hB)
      go_wp2_with fail
      clear hcx1
      refine HLA.out.mono ?_
      rintro e w8 ⟨kk, z, rfl, hh, hT8⟩
      have HK8 : Hid (kk = pl ∧ ((bad = true ∧ z = 121 ∧ MR w w8 B r n F G1 xN al NL cl) ∨ (bad = false ∧ z = 0 ∧ kE = NL ∧ pl = 0 ∧ MR w w8 B r n F (ltG AL G1 NL) xN al NL cl))) := by
        rcases HDC.out with ⟨hbad, hpl, hkp, hok, hno⟩ | ⟨hbad, hp0, hkN, hok⟩
        · rcases hh with ⟨hk, hz, hok2, hno2, hR⟩ | ⟨_, _, hok2, _⟩
          · exact ⟨lt_uniq hok2 hno2 hok hno, .inl ⟨hbad, hz, HS7.out.1.turn hR hT8⟩⟩
          · have := hok2 pl hpl
            rw [hno] at this
            cases this
        · rcases hh with ⟨hk, hz, hok2, hno2, hR⟩ | ⟨hk, hz, hok2, hR⟩
          · have := hok kk hk
            rw [hno2] at this
            cases this
          · exact ⟨by omega, .inr ⟨hbad, hz, hkN, hp0, HS7.out.1.turn hR hT8⟩⟩
      have HSA8 : Hid (SA w8 B k1 n c1 (tieS F G1 n) ∧ SA w8 B k2 n c2 (tieS F (ltG AL G1 kE) n)) := ⟨MR.sa HS7.out.2.1 hT8, MR.sa HS7.out.2.2 hT8⟩
      clear hh hT8 HLA HS7 HDC HLK hkE
      go_upto_if 172 with fail
      go_cut [10] (fun v10 wx => ∃ k3 c3, v10 = .slice (some ⟨k3, 0, none⟩) n c3 ∧ Hid (∃ G2, MR w wx B r n F G2 xN al NL cl ∧ SA wx B k3 n c3 (tieS F G2 n)))
      case first =>
        obtain ⟨hkk, hh⟩ := HK8.out
        subst hkk
        have hkb : ((kk : Int) == (kk : Int)) = true := by simp
        have hkn : ((kk : Int) != (kk : Int)) = false := by simp
        rcases hh with ⟨hbad, hz, hMR⟩ | ⟨hbad, hz, hkN, hp0, hMR⟩
        · subst hbad hz
          have HE : Hid (_ ∧ _) := ⟨hMR, HSA8.out.1⟩
          clear hMR HSA8 HK8
          go_wp2_with fail
          go_meet
          exact ⟨k1, c1, rfl, G1, HE.out.1, HE.out.2⟩
        · subst hbad hz
          have HE : Hid (MR w w8 B r n F (ltG AL G1 NL) xN al NL cl ∧ SA w8 B k2 n c2 (tieS F (ltG AL G1 NL) n)) := ⟨hMR, by rw [← hkN]; exact HSA8.out.2⟩
          have hkz : ((kk : Int) == 0) = true := by rw [hp0]; rfl
          have hkz2 : ((kk : Int) != 0) = false := by rw [hp0]; rfl
          clear hMR HSA8 HK8 hkN hkb hkn hp0
          go_wp2_with fail
          go_meet
          exact ⟨k2, c2, rfl, _, HE.out.1, HE.out.2⟩
      case rest =>
        obtain ⟨k3, c3, rfl, hcut⟩ := hcut
        obtain ⟨G2, hMR, hSA⟩ := hcut.out
        have HS9 : Hid (_ ∧ _) := ⟨hMR, hSA⟩
        clear hcut hMR hSA HK8 HSA8
        go_wp2_with fail
        go_loopw [27] (fun v27 wr => Hid (∃ s : Int, -1 ≤ s ∧ s ≤ 6 ∧ v27 = .int .i64 s ∧ MR w wr B r n F G2 xN al NL cl ∧ SA wr B k3 n c3 (tieS F G2 n))) (fun v27 _ => (6 - intOf v27).toNat)
        case atStart => exact ⟨-1, by decide, by decide, rfl, HS9.out.1, HS9.out.2⟩
        case round =>
          obtain ⟨s, hs1, hs2, rfl, hMR, hSA⟩ := Hid.out hrel
          have HI : Hid (MR w wr B r n F G2 xN al NL cl ∧ SA wr B k3 n c3 (tieS F G2 n)) := ⟨hMR, hSA⟩
          clear hrel hMR hSA HS9
          by_cases hs5 : s ≤ 5
          · have HR1 : Hid (Calls _ _ _ _ _) := rmruns_any (HI.out.1.tab HT.out h0) (HI.out.1.pos h0) HI.out.1.room s
            have HTO : Hid (∀ x ∈ runsL (inF F G2 n s) n, x.1 ≤ x.2 ∧ x.2 < n) := fun x hx => by have := runsL_to _ n x hx; exact ⟨this.2.2, this.2.1⟩
            have HEQ : Hid (runsL (fun p => decide (tieS F G2 n p = s)) n = runsL (inF F G2 n s) n) := runsL_congr fun p hp => tie_list s hp
            have hlen := runsL_len (inF F G2 n s) n
            have HLG : Hid (∀ W, MR w W B r n F G2 xN al NL cl → Calls Tryd.prog 14 #[.pointer (some ⟨r, 0, none⟩), .int .i64 s] W fun e w' => e = .returned (.tuple #[.int .u32 ((lonF (runsL (inF F G2 n s) n)).1 : Int), .int .i64 ((lonF (runsL (inF F G2 n s) n)).2 : Int)]) ∧ Below W.heap.size W w') := fun W hW => rlongest_any (hW.tab HT.out h0) (hW.pos h0) hW.room s
            have HLR : Hid (∀ W, SA W B k3 n c3 (tieS F G2 n) → Calls Tryd.prog 13 #[.slice (some ⟨k3, 0, none⟩) n c3, .int .i64 s] W fun e w' => ∃ v, e = .returned v ∧ w'.ownsRow W.heap.size 47 2 v (runsL (inF F G2 n s) n).length (rnL (runsL (inF F G2 n s) n)) ∧ Below W.heap.size W w') := fun W hW => by
              have := lawRuns_any hW s
              rwa [HEQ.out] at this
            obtain ⟨L, hL⟩ : ∃ L, runsL (inF F G2 n s) n = L := ⟨_, rfl⟩
            rw [hL] at HR1 HTO hlen HLG HLR
            clear hL HEQ
            go_wp2_with fail
            refine HR1.out.mono ?_
            rintro e w9 ⟨v1, rfl, ho1, hb1⟩
            have HI9 : Hid (MR w w9 B r n F G2 xN al NL cl ∧ SA w9 B k3 n c3 (tieS F G2 n) ∧ w9.ownsRow wr.heap.size 47 2 v1 L.length (rnL L)) := ⟨HI.out.1.go hb1, HI.out.2.below hb1, ho1⟩
            clear ho1 hb1 HR1
            go_wp2_with fail
            refine (HLR.out _ HI9.out.2.1).mono ?_
            rintro e w10 ⟨v2, rfl, ho2, hb2⟩
            have ho1 := kown_below HI9.out.2.2 hb2
            obtain ⟨ga, ca, rfl⟩ := kown_slice ho1
            obtain ⟨gb, cb, rfl⟩ := kown_slice ho2
            have HI10 : Hid (MR w w10 B r n F G2 xN al NL cl ∧ SA w10 B k3 n c3 (tieS F G2 n) ∧ w10.ownsRow wr.heap.size 47 2 (.slice ga L.length ca) L.length (rnL L) ∧ w10.ownsRow w9.heap.size 47 2 (.slice gb L.length cb) L.length (rnL L)) := ⟨HI9.out.1.go hb2, HI9.out.2.1.below hb2, ho1, ho2⟩
            obtain ⟨m, hm⟩ : ∃ m, L.length = m := ⟨_, rfl⟩
            have HM : Hid (L.length = m) := hm
            rw [hm] at hlen HI10 ⊢
            have hmm : ((m : Int) == (m : Int)) = true := by simp
            have hmn : ((m : Int) != (m : Int)) = false := by simp
            clear ho1 ho2 hb2 HI9 HLR hm
            go_wp2_with fail
            clear hmm hmn
            go_loopw [30, 31, 204] (fun v30 v31 v204 wx => Hid (∃ i x y : Nat, i ≤ m ∧ (x, y) = lonF (L.take i) ∧ x ≤ 8192 ∧ y ≤ 8192 ∧ v30 = .int .u32 (x : Int) ∧ v31 = .int .i64 (y : Int) ∧ v204 = .int .i64 (i : Int) ∧ ∃ q, wx = w10.drewN q)) (fun _ _ v204 _ => m - (intOf v204).toNat)
            case atStart => exact ⟨0, 0, 0, Nat.zero_le _, rfl, by omega, by omega, rfl, rfl, rfl, 0, rfl⟩
            case round =>
              obtain ⟨i, fx, fy, hi, hab, ha8, hb8, rfl, rfl, rfl, q, rfl⟩ := Hid.out hrel
              have HAB : Hid ((fx, fy) = lonF (L.take i)) := hab
              clear hrel hab
              obtain ⟨W1, hW1⟩ : ∃ W1, w10.drewN q = W1 := ⟨_, rfl⟩
              have HW1 : Hid (w10.drewN q = W1) := hW1
              have HI1 : Hid (MR w W1 B r n F G2 xN al NL cl ∧ SA W1 B k3 n c3 (tieS F G2 n) ∧ W1.ownsRow wr.heap.size 47 2 (.slice ga m ca) m (rnL L) ∧ W1.ownsRow w9.heap.size 47 2 (.slice gb m cb) m (rnL L)) := by
                rw [← hW1]
                exact ⟨HI10.out.1.go (below_dN (Below.refl _ _) q), HI10.out.2.1.below (below_dN (Below.refl _ _) q), kown_below HI10.out.2.2.1 (below_dN (Below.refl _ _) q), kown_below HI10.out.2.2.2 (below_dN (Below.refl _ _) q)⟩
              rw [hW1]
              clear hW1
              by_cases him : i < m
              · have i1 : (i : Int) < (m : Int) := by omega
                have i2 : (0 : Int) ≤ (i : Int) := by omega
                have hiL : i < L.length := by rw [HM.out]; exact him
                obtain ⟨x, y, hxy⟩ : ∃ x y, L[i]? = some (x, y) := ⟨_, _, List.getElem?_eq_getElem hiL⟩
                have hxyb := HTO.out (x, y) (List.mem_of_getElem? hxy)
                have o1 := HI1.out.2.2.1
                have o2 := HI1.out.2.2.2
                obtain ⟨gl, cl1, e1, _, _⟩ := kown_form o1 (by omega)
                obtain ⟨gm, cl3, e2, _, _⟩ := kown_form o2 (by omega)
                injection e1 with e11 _ e13
                injection e2 with e21 _ e23
                subst e11 e13 e21 e23
                obtain ⟨q0, q1⟩ := rnL_at L i (x, y) hxy
                have c0 : W1.cell? ⟨gl, i * 2, none⟩ = some (.int .i64 (x : Int)) := by rw [o1.cellAt _ (by omega)]; exact q0
                have c1' : W1.cell? ⟨gl, i * 2 + 1, none⟩ = some (.int .i64 (y : Int)) := by rw [o1.cellAt _ (by omega)]; exact q1
                have d0 : W1.cell? ⟨gm, i * 2, none⟩ = some (.int .i64 (x : Int)) := by rw [o2.cellAt _ (by omega)]; exact q0
                have d1 : W1.cell? ⟨gm, i * 2 + 1, none⟩ = some (.int .i64 (y : Int)) := by rw [o2.cellAt _ (by omega)]; exact q1
                have hx8 : x ≤ y := hxyb.1
                have hy8 : y < 8192 := by have := hxyb.2; simp only at this; omega
                obtain ⟨z, hz⟩ : ∃ z : Nat, z = y - x + 1 := ⟨_, rfl⟩
                have f1 : IntKind.i64.wrap ((y : Int) - (x : Int)) = ((y - x : Nat) : Int) := by rw [IntKind.wrap_i64]; omega
                have f2 : IntKind.i64.wrap (((y - x : Nat) : Int) + 1) = (z : Int) := by rw [IntKind.wrap_i64]; omega
                have f3 : ((y : Int) - (x : Int)) = ((y - x : Nat) : Int) := by omega
                have f4 : (((y - x : Nat) : Int) + 1) = (z : Int) := by omega
                have f5 : (x : Int) % 4294967296 = (x : Int) := by omega
                have hxx : ((x : Int) == (x : Int)) = true := by simp
                have hyy : ((y : Int) == (y : Int)) = true := by simp
                have htk : L.take (i + 1) = L.take i ++ [(x, y)] := by
                  have e2 := (List.getElem?_eq_some_iff.1 hxy).2
                  rw [← e2]
                  exact (List.take_append_getElem hiL).symm
                have HST : Hid (lonF (L.take (i + 1)) = if fy < z then (x, z) else (fx, fy)) := by
                  show _ = _
                  rw [htk, lonF_snoc, ← HAB.out, hz]
                  rfl
                have hz8 : z ≤ 8192 := by omega
                clear o1 o2 hxyb hxy q0 q1 hiL htk hz
                go_wp2_with fail
                go_quiet (fail)
                obtain ⟨W2, hW2⟩ : ∃ W2, W1.drewN nq = W2 := ⟨_, rfl⟩
                have HW2 : Hid (w10.drewN (q + nq) = W2) := by show _ = _; rw [← hW2, ← HW1.out, World.drewN_drewN]
                have g0 : W2.cell? ⟨gm, i * 2, none⟩ = some (.int .i64 (x : Int)) := by rw [← hW2]; exact d0
                have g1 : W2.cell? ⟨gm, i * 2 + 1, none⟩ = some (.int .i64 (y : Int)) := by rw [← hW2]; exact d1
                rw [hW2]
                clear hW2 c0 c1' d0 d1 HI1 HW1
                generalize q + nq = q2 at *
                go_wp2_with fail
                go_quiet (fail)
                by_cases hbz : fy < z
                · have qz : (fy : Int) < (z : Int) := by omega
                  have HS2 : Hid ((x, z) = lonF (L.take (i + 1))) := by show _ = _; rw [HST.out, if_pos hbz]
                  go_wp2_with fail
                  go_roundw
                  case rel => exact ⟨i + 1, x, z, by omega, HS2.out, by omega, hz8, by first | rfl | go_num | simp, by first | rfl | go_num | simp, by first | rfl | go_num | simp, q2 + nq, by rw [← HW2.out, World.drewN_drewN]⟩
                  case measure => simp [intOf]; omega
                · have qz : ¬ ((fy : Int) < (z : Int)) := by omega
                  have HS2 : Hid ((fx, fy) = lonF (L.take (i + 1))) := by show _ = _; rw [HST.out, if_neg hbz]
                  go_wp2_with fail
                  go_roundw
                  case rel => exact ⟨i + 1, fx, fy, by omega, HS2.out, ha8, hb8, by first | rfl | go_num | simp, by first | rfl | go_num | simp, by first | rfl | go_num | simp, q2 + nq, by rw [← HW2.out, World.drewN_drewN]⟩
                  case measure => simp [intOf]; omega
              · have i1 : ¬ ((i : Int) < (m : Int)) := by omega
                obtain rfl : i = m := by omega
                have HE : Hid (lonF L = (fx, fy)) := by
                  show _ = _
                  rw [HAB.out, List.take_of_length_le (by rw [HM.out]; exact Nat.le_refl _)]
                have HL1 : Hid (Calls Tryd.prog 14 #[.pointer (some ⟨r, 0, none⟩), .int .i64 s] W1 fun e w' => e = .returned (.tuple #[.int .u32 (fx : Int), .int .i64 (fy : Int)]) ∧ Below W1.heap.size W1 w') := by
                  have := HLG.out W1 HI1.out.1
                  rw [HE.out] at this
                  exact this
                have x1 : ((fx : Int) == (fx : Int)) = true := by simp
                have x2 : ((fx : Int) != (fx : Int)) = false := by simp
                have y1 : ((fy : Int) == (fy : Int)) = true := by simp
                have y2 : ((fy : Int) != (fy : Int)) = false := by simp
                have fs : IntKind.i64.wrap (s + 1) = s + 1 := by rw [IntKind.wrap_i64]; omega
                clear HW1 HE HI10
                go_wp2_with fail
                refine HL1.out.mono ?_
                rintro e w11 ⟨rfl, hb11⟩
                have HI11 : Hid (MR w w11 B r n F G2 xN al NL cl ∧ SA w11 B k3 n c3 (tieS F G2 n)) := ⟨HI1.out.1.go hb11, HI1.out.2.1.below hb11⟩
                clear hb11 HL1 HI1
                go_wp2_with fail
                go_roundw
                case rel => exact ⟨s + 1, by omega, by omega, by first | rfl | go_num | simp, HI11.out.1, HI11.out.2⟩
                case measure => simp [intOf]; omega
          · have hs6 : ¬ s ≤ 5 := hs5
            have hcx1 := HI.out.1.box.cell 1
            have HST : Hid (Calls _ _ _ _ _) := stands_any (cc := cl) (HI.out.1.tab HT.out h0) (HI.out.1.pos h0) HI.out.1.room HI.out.2 (fun p hp => rfl) al NL hNL AL (HDL.out _ HI.out.1.big)
            go_wp2_with fail
            refine HST.out.mono ?_
            rintro e w12 ⟨rfl, hb12⟩
            have HBE : Hid (Below w.heap.size w w12) := HI.out.1.big.trans (hb12.mono HI.out.1.big.size)
            clear hb12 HST hcx1
            go_wp2_with fail
            go_ret
            exact ⟨rfl, HBE.out⟩
end Go.Proofs.YtjlngldmdfbbaaaDoor

namespace Go.Proofs.YtjlngldmdfbbaaaDoor
open Go.ChangeShapes Go.WideShapes Go.ChangeAt Go.RowKit Go.Joins
set_option linter.unusedVariables false
theorem ucell_lt {w : World} {a : Addr} {v : Value} (h : w.cell? a = some v) : a.block < w.heap.size := by
  obtain ⟨e, n, hs, _⟩ := World.shape?_of_cell? h
  unfold World.shape? at hs
  cases hb : w.heap[a.block]? with
  | none => simp [hb] at hs
  | some o => exact (Array.getElem?_eq_some_iff.1 hb).1
set_option maxRecDepth 100000 in
theorem open_u32s {H : Type} {enc : TypeId × Value → H} {W : World} {a0 : Option Addr} {len cap fuel : Nat} {x : DataW H × List MemPlace}
    (hf : DataW.trod enc Tryd.prog W 0 (fun _ => true) true fuel 22 [.slice a0 len cap] = some x) (hsz : ∀ n ∈ x.1.weights Tryd.prog 22, n ≤ reachBytes) :
    ∃ (A : Nat → Nat), len ≤ 9223372036854775807 ∧ IsU32s W a0 len A := by
  rcases Deep.open_slice Tryd.underlying22 hf with ⟨hcs, hx⟩ | ⟨a, len', cap', m, n, D, Pl, hcs, _, hl, hm, hmm, hx, hel⟩
  · simp at hcs
    obtain ⟨rfl, rfl, rfl⟩ := hcs
    exact ⟨fun _ => 0, by omega, fun i hi => absurd hi (by omega)⟩
  · simp at hcs
    obtain ⟨rfl, rfl, rfl⟩ := hcs
    subst hx
    simp only [if_true] at hmm
    subst hmm
    have hu := Tryd.underlying22
    have hby : Tryd.prog.bytesOf 36 = 4 := by kernel_rfl
    have hw0 := hsz ((((List.range len).map D).length + ((List.range (m - len)).map fun j => D (len + j)).length) * Tryd.prog.bytesOf 36) (by simp [DataW.weights, hu])
    rw [hby] at hw0
    simp only [List.length_map, List.length_range] at hw0
    have hlen4 : len ≤ 9223372036854775807 := by
      unfold reachBytes at hw0
      omega
    have hce : Tryd.prog.cellsOf 36 = 1 := by kernel_rfl
    have hsp : 0 < len → a.spot = none := fun h0 => by
      obtain ⟨cs', h1, _⟩ := hel 0 (by omega)
      rw [hce] at h1
      obtain ⟨_, hcl, hcell⟩ := World.cells?_some h1
      match cs', hcl with
      | [v0], _ => simpa [Addr.add] using World.cell?_spot (hcell 0 (by omega))
    have each : ∀ i, ∃ q : Nat, i < len → q < 4294967296 ∧ ∃ b o, a = ⟨b, o, none⟩ ∧ b < W.heap.size ∧ W.cell? ⟨b, o + i, none⟩ = some (.int .u32 (q : Int)) := by
      intro i
      by_cases hi : i < len
      · obtain ⟨cs', h1, h2⟩ := hel i (by omega)
        rw [hce] at h1
        obtain ⟨_, hcl, hcell⟩ := World.cells?_some h1
        match cs', hcl with
        | [v0], _ =>
          obtain ⟨p, e0, _, w0⟩ := DataW.trod_int Tryd.underlying36 h2
          simp at e0
          subst e0
          have hbd := bounds_u32 w0
          obtain ⟨q, rfl⟩ := Int.eq_ofNat_of_zero_le hbd.1
          refine ⟨q, fun _ => ⟨by omega, ?_⟩⟩
          have c0 := hcell 0 (by decide)
          obtain ⟨b, off, spot⟩ := a
          have hspot : spot = none := hsp (by omega)
          subst hspot
          simp only [Addr.add_mid, List.getElem?_cons_zero, Nat.mul_one, Nat.add_zero] at c0
          exact ⟨b, off, rfl, ucell_lt c0, c0⟩
      · exact ⟨0, fun h => absurd h hi⟩
    refine ⟨fun i => Classical.choose (each i), hlen4, fun i hi => ?_⟩
    obtain ⟨hq, b, o, rfl, h1, h2⟩ := Classical.choose_spec (each i) hi
    exact ⟨hq, b, o, rfl, h1, h2⟩
end Go.Proofs.YtjlngldmdfbbaaaDoor

namespace Go.Proofs.YtjlngldmdfbbaaaDoor
open Go Go.RowKit Go.ChangeShapes Go.WideShapes Go.ChangeAt Go.Joins
set_option linter.unusedVariables false
set_option maxRecDepth 100000 in
theorem open_manyc {H : Type} {enc : TypeId × Value → H} {W : World} {base : Nat} {v : Value} {d : DataW H} {p : List MemPlace} (hval : Value.okWide Tryd.prog W .any base 24 v)
    (h : DataW.Trod enc Tryd.prog W 0 (fun _ => true) true 24 v d p) (hsz : ∀ n ∈ d.weights Tryd.prog 24, n ≤ reachBytes) :
    ∃ (i : Int) (a : Option Addr) (N c : Nat) (A : Nat → Nat), v = .agg #[.int .i64 i, .slice a N c] ∧ (Lit.int .i64 i).wf = true ∧ N ≤ 9223372036854775807 ∧ (N ≤ c ∧ IsU32s W a N A) := by
  obtain ⟨c0, c1, y0, y1, m, rfl, rfl, rfl, hy0, hy1⟩ := open_agg2 Tryd.underlying24 (by kernel_rfl) (show Tryd.prog.cellsOf 24 = 2 by kernel_rfl) hval h
  obtain ⟨i, e0, _, w0⟩ := DataW.trod_int Tryd.underlying3 hy0
  simp at e0
  subst e0
  have hsz1 : ∀ n ∈ y1.1.weights Tryd.prog 22, n ≤ reachBytes := fun n hn => by
    refine hsz n ?_
    simp [DataW.weights, Tryd.underlying24]
    exact DataW.weights_mem_each (j := 1) (t := 22) (d := y1.fst) rfl rfl n hn
  have hfm : ∃ a N c, c1 = .slice a N c ∧ N ≤ c := by
    rcases Deep.open_slice Tryd.underlying22 hy1 with ⟨hcs, _⟩ | ⟨a, len', cap', _, _, _, _, hcs, _, hl, _⟩
    · simp at hcs
      exact ⟨_, _, _, hcs, Nat.le_refl _⟩
    · simp at hcs
      exact ⟨_, _, _, hcs, hl⟩
  obtain ⟨a, N, c, rfl, hNc⟩ := hfm
  obtain ⟨A, hN, hD⟩ := open_u32s hy1 hsz1
  exact ⟨i, a, N, c, A, rfl, w0, hN, hNc, hD⟩
theorem roomManyLaw {w : World} (p : Int) (a : Option Addr) (N cc : Nat) (hN : N ≤ 9223372036854775807) (A : Nat → Nat) (hA : IsU32s w a N A) (xN : Int) (al : Option Addr) (NL cl : Nat) (hNL : NL ≤ 9223372036854775807) (AL : Nat → Nat) (hDL : NL ≤ cl ∧ IsU32s w al NL AL) (h0 : 0 < w.heap.size) (hT : TabAt w) :
    Calls Tryd.prog 3 #[.int .i64 p, .slice a N cc, .agg #[.int .i64 xN, .slice al NL cl]] w fun e w' => e = .returned (.bool true) ∧ Below w.heap.size w w' := by
  by_cases hp : p < 16 ∨ 8192 < p
  · refine many_bad p a N cc A xN al NL cl w h0 hT hA 0 120 (by decide) (fun V _ => ?_) (fun V _ => ?_)
    · refine (rnew_no p hp _ V).mono ?_
      rintro e w' ⟨rfl, rfl⟩
      exact ⟨rfl, Below.refl _ _⟩
    · refine (rref_no p hp _ V).mono ?_
      rintro e w' ⟨rfl, rfl⟩
      exact ⟨rfl, Below.refl _ _⟩
  · obtain ⟨n, rfl⟩ := Int.eq_ofNat_of_zero_le (a := p) (by omega)
    have h1 : 16 ≤ n := by omega
    have h2 : n ≤ 8192 := by omega
    by_cases hg : GoodA A n N
    · exact many_ok n h1 h2 a N cc hN A hg xN al NL cl hNL hDL.1 AL w h0 hT hA hDL.2
    · have hex : ∃ m, m < N ∧ GoodA A n m ∧ ¬ OkAt A n m := by
        have key : ∀ t, t ≤ N → GoodA A n t ∨ ∃ m, m < N ∧ GoodA A n m ∧ ¬ OkAt A n m := by
          intro t
          induction t with
          | zero => exact fun _ => .inl fun i hi => absurd hi (by omega)
          | succ t ih =>
            intro ht
            rcases ih (by omega) with h | h
            · by_cases hok : OkAt A n t
              · exact .inl (h.succ hok)
              · exact .inr ⟨t, by omega, h, hok⟩
            · exact .inr h
        rcases key N (Nat.le_refl _) with h | h
        · exact absurd h hg
        · exact h
      obtain ⟨m, hm, hgm, hbm⟩ := hex
      have uniq : ∀ m', GoodA A n m' → ¬ OkAt A n m' → m' = m := fun m' g' b' => by
        by_cases l1 : m' < m
        · exact absurd (hgm m' l1) b'
        · by_cases l2 : m < m'
          · exact absurd (g' m l2) hbm
          · omega
      refine many_bad n a N cc A xN al NL cl w h0 hT hA m 121 (by decide) (fun V hI => ?_) (fun V hI => ?_)
      · refine (rnew_any h1 h2 a N cc hN A V hI).mono ?_
        rintro e w' ⟨⟨r, rfl, hg', _⟩ | ⟨m', _, rfl, g', b'⟩, hb⟩
        · exact absurd hg' hg
        · rw [uniq m' g' b']; exact ⟨rfl, hb⟩
      · refine (rref_any h1 h2 a N cc hN A V hI).mono ?_
        rintro e w' ⟨⟨k, c, rfl, hg', _⟩ | ⟨m', _, rfl, g', b'⟩, hb⟩
        · exact absurd hg' hg
        · rw [uniq m' g' b']; exact ⟨rfl, hb⟩
end Go.Proofs.YtjlngldmdfbbaaaDoor
