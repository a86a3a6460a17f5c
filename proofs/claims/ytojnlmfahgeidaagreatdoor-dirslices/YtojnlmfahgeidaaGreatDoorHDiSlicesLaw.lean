/- DirSlices: entries behind a name, with a beginning, of a pattern; of any number. -/
import Derived.Test.YtojnlmfahgeidaaGreatDoorHDiThoseE
import Derived.Test.YtojnlmfahgeidaaGreatDoorHDiPage
import Derived.Test.YtojnlmfahgeidaaGreatDoorHNaRMatch
import Derived.Test.YtojnlmfahgeidaaGreatDoorHMath
import Derived.Deep.Cut
import Derived.Deep.DeepCutAuto
import Derived.Handy

namespace Go.Proofs.YtojnlmfahgeidaaGreatDoor
theorem sgLHDiSlicesLaw : (∀ (α : Type) (a : α) (l r : List α), (a :: l) ++ r = a :: (l ++ r)) ∧ (∀ (α : Type) (l : List α), [] ++ l = l) ∧ (∀ (α : Type) (l : List α), l ++ [] = l) ∧ (∀ (α β : Type) (f : α → Option β) (a : α) (l : List α), (a :: l).filterMap f = match f a with | none => l.filterMap f | some b => b :: l.filterMap f) ∧ (∀ (α β : Type) (f : α → Option β), [].filterMap f = []) ∧ (∀ (α : Type) (l : List α) (i : Nat), l.toArray[i]? = l[i]?) ∧ (∀ (α : Type) (a : α) (l : List α), (a :: l)[0]? = some a) ∧ (∀ (α : Type) (a : α) (l : List α) (i : Nat), (a :: l)[i + 1]? = l[i]?) :=
  ⟨fun _ _ _ _ => List.cons_append, fun _ _ => List.nil_append _, fun _ _ => List.append_nil _, fun _ _ _ _ _ => List.filterMap_cons, fun _ _ _ => List.filterMap_nil, fun _ _ _ => List.getElem?_toArray, fun _ _ _ => List.getElem?_cons_zero, fun _ _ _ _ => List.getElem?_cons_succ⟩
theorem sgPHDiSlicesLaw : (∀ (α : Type) (l : List α) (i : Nat) (a : α), l.toArray.setIfInBounds i a = (l.set i a).toArray) ∧ (∀ (α : Type) (a b : α) (l : List α), (a :: l).set 0 b = b :: l) ∧ (∀ (α : Type) (a b : α) (l : List α) (i : Nat), (a :: l).set (i + 1) b = a :: l.set i b) :=
  ⟨fun _ _ _ _ => List.setIfInBounds_toArray _ _ _, fun _ _ _ _ => List.set_cons_zero, fun _ _ _ _ _ => List.set_cons_succ⟩
end Go.Proofs.YtojnlmfahgeidaaGreatDoor
namespace Go.Proofs.YtojnlmfahgeidaaGreatDoor
open Go Go.RowKit Go.Nam
set_option linter.unusedSimpArgs false
set_option linter.unusedVariables false
theorem encE_56 {i : Int} {s : ByteArray} (h : encE i s = 0) : s.size ≤ 56 := by
  unfold encE at h
  by_cases h1 : i < 1 ∨ 4096 < i
  · rw [if_pos h1] at h
    exact absurd h (by decide)
  · rw [if_neg h1] at h
    by_cases h2 : isName s.data.toList = true
    · rw [Lib.size_eq]
      exact (isName_len h2).2
    · rw [if_neg h2] at h
      exact absurd h (by decide)
set_option maxRecDepth 100000 in
set_option maxHeartbeats 32000000 in
theorem dirSlicesLaw (a : Option Addr) (n c : Nat) (hn : n ≤ 9223372036854775807) (X : Nat → A7) (hX : ∀ i, i < n → (X i).ok) (nn : Int) (hnn : -9223372036854775808 ≤ nn ∧ nn ≤ 9223372036854775807) (sa sb sp : ByteArray) (hsa : sa.size ≤ 9223372036854775807) (hsp : sp.size ≤ 4611686018427387904) (sq : Int) (w : World) (hI : IsA17 w a n X) :
    Calls Tryz.prog 5 #[.slice a n c, .int .i64 nn, .agg #[.string sa, .string sb, .string sp, .int .i64 sq]] w fun e w' => e = .returned (.bool true) ∧ Below w.heap.size w w' := by
  have p0 : Blk (w.alloc (.cells #[.string sa, .string sb, .string sp, .int .i64 sq] 63)) w.heap.size 63 #[.string sa, .string sb, .string sp, .int .i64 sq] := Blk.new _ _ _
  have hb0 : Below w.heap.size w (w.alloc (.cells #[.string sa, .string sb, .string sp, .int .i64 sq] 63)) := below_new1 _ _
  have HIA : Hid (IsA17 (w.alloc (.cells #[.string sa, .string sb, .string sp, .int .i64 sq] 63)) a n X ∧ ∀ i, i < n → (X i).ok) := ⟨hI.below hb0, hX⟩
  have HP0 : Hid (Blk (w.alloc (.cells #[.string sa, .string sb, .string sp, .int .i64 sq] 63)) w.heap.size 63 #[.string sa, .string sb, .string sp, .int .i64 sq] ∧ Below w.heap.size w (w.alloc (.cells #[.string sa, .string sb, .string sp, .int .i64 sq] 63))) := ⟨p0, hb0⟩
  have HBG := begun17_any (w.alloc (.cells #[.string sa, .string sb, .string sp, .int .i64 sq] 63))
  have HNN : Hid (-9223372036854775808 ≤ nn ∧ nn ≤ 9223372036854775807) := hnn
  have HSA : Hid (sa.size ≤ 9223372036854775807) := hsa
  have HSP : Hid (sp.size ≤ 4611686018427387904) := hsp
  clear hI hX p0 hb0 hnn hsp hsa
  go_enter Tryz.func5, Tryz.ntmps5
  go_wp2_with fail
  generalize (w.alloc (.cells #[.string sa, .string sb, .string sp, .int .i64 sq] 63)) = w0 at *
  have HAW : Hid (∀ V : World, Calls Tryz.prog 11 #[] V fun e w' => e = .returned (.bool true) ∧ Below V.heap.size V w') := awake17_any
  refine HBG.mono ?_
  rintro e w1 ⟨x, mf, ml, mc, cp, rfl, hB⟩
  have HD1 : Hid (DL w0 (w1.alloc (.cells #[.slice none 0 0, .slice none 0 0, .slice none 0 0, .int .u64 0, .int .u64 1, .int .u64 1] 31)) w1.heap.size x mf ml mc cp (fun _ => none) (fun _ => 0) (fun _ => 0) (fun _ => 1) (fun _ _ => 0) (fun _ _ => ⟨#[]⟩)) := DL.begin hB
  clear HBG hB
  go_wp2_with fail
  generalize (w1.alloc (.cells #[.slice none 0 0, .slice none 0 0, .slice none 0 0, .int .u64 0, .int .u64 1, .int .u64 1] 31)) = w2 at *
  generalize w1.heap.size = gs at *
  refine (HAW.out _).mono ?_
  rintro e w3 ⟨rfl, hb3⟩
  have HD3 : Hid (DL w0 w3 gs x mf ml mc cp (fun _ => none) (fun _ => 0) (fun _ => 0) (fun _ => 1) (fun _ _ => 0) (fun _ _ => ⟨#[]⟩)) := HD1.out.below hb3
  clear HD1 HAW hb3
  go_wp2_with fail
  go_loopw [8, 10] (fun v4 v6 wr => Hid (∃ (i : Nat) (A : Nat → Option Addr) (K C T : Nat → Nat) (N : Nat → Nat → Int) (S : Nat → Nat → ByteArray), i ≤ n ∧ v4 = .bool true ∧ v6 = .int .i64 (i : Int) ∧ DL w0 wr gs x mf ml mc cp A K C T N S)) (fun _ v6 _ => n - (intOf v6).toNat)
  case atStart => exact ⟨0, _, _, _, _, _, _, Nat.zero_le _, rfl, rfl, HD3.out⟩
  case round =>
    obtain ⟨i, A, K, C, T, N, S, hi, rfl, rfl, hg⟩ := Hid.out hrel
    have HG : Hid (DL w0 wr gs x mf ml mc cp A K C T N S) := hg
    clear hrel hg HD3
    by_cases hin : i < n
    · have i1 : (i : Int) < (n : Int) := by omega
      have i0 : (0 : Int) ≤ (i : Int) := by omega
      obtain ⟨b1, o1, ea, _⟩ := HIA.out.1 i hin
      subst ea
      have hsd : Blk wr.drew gs 31 (sdC A K C T) := HG.out.sd.drew
      have HA8 : Hid (IsA17 wr.drew (some ⟨b1, o1, none⟩) n X) := (HIA.out.1.below HG.out.bl).below (Below.refl _ _).drew
      have hok := HIA.out.2 i hin
      obtain ⟨⟨KI, DI, II, SI, TI⟩, eX⟩ : ∃ y, X i = y := ⟨_, rfl⟩
      rw [eX] at hok
      have HG' : Hid (DL w0 wr.drew gs x mf ml mc cp A K C T N S) := HG.out.below (Below.refl _ _).drew
      clear HG
      have HG : Hid (DL w0 wr.drew gs x mf ml mc cp A K C T N S) := HG'.out
      clear HG'
      have H8 := HG.out.pd.one KI DI II TI SI hok.2.1
      clear hok
      go_wp2_with fail
      refine wp_region_plan (fun U => Hid (IsA17 U (some ⟨b1, o1, none⟩) n X)) (.yield [0, 2, 3, 4] 5 (.force [] 1 (.force [] 6 (.yield [7, 8] 9 (.force [] 10 (.fin [11])))))) (by kernel_rfl) (by kernel_rfl) HA8 (plan_yield ?_)
      simp only [sgLHDiSlicesLaw]
      go_wp2_with fail
      refine ⟨rfl, _, .agg (aeC KI DI II SI ((TI : Nat) : Int)), rfl, Or.inl ⟨by rfl, fun W hW => by obtain ⟨q1, q2, q3, q4, q5⟩ := (Hid.out hW).cs hin; rw [eX] at q1 q2 q3 q4 q5; go_simp; rfl⟩, plan_force ?_⟩
      simp only [Act.put, sgPHDiSlicesLaw]
      simp only [sgLHDiSlicesLaw]
      clear eX
      refine wpList_load_row (by rfl) 31 _ (by rfl) (gs) (by rfl) 31 (sdC A K C T) (0, 0) _ (by exact hsd) Tryz.underlying31 (by rfl) (size_sd.trans (by rfl)) ?_
      simp only [Act.put, sgPHDiSlicesLaw]
      go_wp2_with fail
      refine ⟨rfl, HA8, plan_force ?_⟩
      simp only [sgLHDiSlicesLaw]
      go_wp2_with fail
      refine H8.mono ?_
      rintro e w9 ⟨A9, K9, C9, T9, N9, S9, rfl, hp9, hT9⟩
      obtain ⟨hD9, hs9, hb9⟩ := HG.out.did hp9 hT9
      have HD9 : Hid (DL w0 (w9.setRow gs (sdC A9 K9 C9 T9)) gs x mf ml mc cp A9 K9 C9 T9 N9 S9) := hD9
      have HA9 : Hid (IsA17 w9 (some ⟨b1, o1, none⟩) n X) := HIA.out.1.below hb9
      have HA10 : Hid (IsA17 (w9.setRow gs (sdC A9 K9 C9 T9)) (some ⟨b1, o1, none⟩) n X) := HIA.out.1.below hD9.bl
      clear hp9 hT9 hD9 hb9 H8 HA8
      go_wp2_with fail
      refine ⟨rfl, HA9, plan_yield ?_⟩
      simp only [sgLHDiSlicesLaw]
      go_wp2_with fail
      refine ⟨rfl, _, .bool true, rfl, Or.inl ⟨by rfl, fun W hW => by go_simp⟩, plan_force ?_⟩
      simp only [Act.put, sgPHDiSlicesLaw]
      simp only [sgLHDiSlicesLaw]
      refine wpList_store_row (by rfl) 31 _ _ (by rfl) (gs) (sdC A9 K9 C9 T9) (by rfl) (by rfl) 31 (sdC A K C T) (by exact hs9) (size_sd.trans (by rfl)) (by rfl) (sd_all _ _ _ _) ?_
      simp only [Act.put, sgPHDiSlicesLaw]
      go_wp2_with fail
      refine ⟨rfl, HA10, plan_fin ?_⟩
      simp only [sgLHDiSlicesLaw]
      go_wp2_with fail
      refine ⟨rfl, ?_⟩
      go_wp2_with fail
      go_wp2_with fail
      go_roundw
      case rel => exact ⟨i + 1, A9, K9, C9, T9, N9, S9, by omega, rfl, by first | rfl | go_num | simp, HD9.out⟩
      case measure => simp [intOf]; omega
    · have i1 : ¬ (i : Int) < (n : Int) := by omega
      by_cases hz : refD nn = 0
      · clear i1
        obtain ⟨d, ed, hd⟩ : ∃ d : Nat, nn = (d : Int) ∧ (d = 1 ∨ d = 2) := by
          rcases refD_zero hz with e | e
          · exact ⟨1, e, .inl rfl⟩
          · exact ⟨2, e, .inr rfl⟩
        subst ed
        obtain ⟨H, D, hI, h3, hD⟩ := HG.out.pd.im
        have hDd := hD d hd
        have hle := hDd.le
        have kl : (K d : Int) ≤ 16384 := by omega
        have g0 : (0 : Int) ≤ (d : Int) := by omega
        have g3 : (d : Int) < 3 := by omega
        have p1 := HP0.out.1.below HG.out.bl HP0.out.1.lt
        have HBW : Hid (Below w.heap.size w wr) := HP0.out.2.trans (HG.out.bl.mono HP0.out.2.size)
        have HIV : Hid (∀ V, Below wr.heap.size wr V → IM V x mf ml mc cp 3 H D ∧ Di H D d (K d) (T d) (N d) (S d)) := fun V hV => ⟨hI.below hV, hDd⟩
        have HF : Hid (∀ V, Below wr.heap.size wr V → Calls Tryz.prog 24 #[.pointer (some ⟨x, 0, none⟩), .int .i64 (d : Int), .string sa, .int .i64 sq] V fun e w' => ∃ al c m mo er R, e = .returned (.tuple #[.slice al m c, .bool mo, .int .i64 er]) ∧ m ≤ 16384 ∧ IsLkC w' al m (fun i => (R.getD i (0, ⟨#[]⟩)).1) (fun i => (R.getD i (0, ⟨#[]⟩)).2) ∧ ((sq < 0 ∧ m = 0 ∧ mo = false ∧ er = 1) ∨ (0 ≤ sq ∧ m = min sq.toNat R.length ∧ mo = decide (sq < (R.length : Int)) ∧ er = 0 ∧ SoR R ∧ R.Perm ((liR (N d) (S d) (K d)).filter fun y => bhB y.2 sa))) ∧ Below V.heap.size V w') := fun V hV => by
          by_cases h : sq < 0
          · refine ((HIV.out V hV).1.pageNeg (HIV.out V hV).2 sa sq h).mono ?_
            rintro e w1 ⟨rfl, hb⟩
            exact ⟨none, 0, 0, false, 1, [], rfl, by omega, fun j hj => by omega, .inl ⟨h, rfl, rfl, rfl⟩, hb⟩
          · refine ((HIV.out V hV).1.pageD (HIV.out V hV).2 sa sq (by omega)).mono ?_
            rintro e w1 ⟨al, c, R, rfl, hl, hs, hp, hb⟩
            have hR : R.length ≤ 16384 := by
              have h1 := hp.length_eq
              have h2 := List.length_filter_le (fun y : Lk => bhB y.2 sa) (liR (N d) (S d) (K d))
              rw [liR_len] at h2
              omega
            exact ⟨al, c, _, _, 0, R, rfl, by omega, hl, .inr ⟨by omega, rfl, rfl, rfl, hs, hp⟩, hb⟩
        have HE : Hid (∀ V, Below wr.heap.size wr V → Calls Tryz.prog 25 #[.pointer (some ⟨x, 0, none⟩), .int .i64 (d : Int), .string sb] V fun e w' => ∃ v R, e = .returned (.tuple #[v, .int .i64 0]) ∧ w'.ownsRow V.heap.size 36 2 v R.length (lkR R) ∧ SoR R ∧ R.Perm ((liR (N d) (S d) (K d)).filter fun y => pfB y.2 sb) ∧ Below V.heap.size V w') := fun V hV => (HIV.out V hV).1.beginsD (HIV.out V hV).2 sb
        have HN : Hid (∀ V, Below wr.heap.size wr V → Calls Tryz.prog 26 #[.pointer (some ⟨x, 0, none⟩), .int .i64 (d : Int), .string sp] V fun e w' => ∃ v R, e = .returned (.tuple #[v, .int .i64 0]) ∧ w'.ownsRow V.heap.size 36 2 v R.length (lkR R) ∧ SoR R ∧ R.Perm ((liR (N d) (S d) (K d)).filter fun y => maB y.2 sp) ∧ Below V.heap.size V w') := fun V hV => (HIV.out V hV).1.matchesD (HIV.out V hV).2 sp HSP.out
        have HRR : Hid (∀ V : World, Calls Tryz.prog 19 #[.int .i64 (d : Int)] V fun e w' => e = .returned (.int .i64 0) ∧ w' = V) := fun V => by
          have h := refused_any (d : Int) V
          rw [hz] at h
          exact h
        have HNS : Hid (∀ i, i < K d → encE (N d i) (S d i) = 0) := hDd.ok
        clear hI h3 hD hDd hz HIV
        have c0 := (p1.cell 0).trans rfl
        have c3 := (p1.cell 3).trans rfl
        have H1 := HF.out wr (Below.refl _ _)
        clear HF
        go_wp2_with fail
        refine H1.mono ?_
        rintro e w10 ⟨al, ac, m1, mo, er, R1, rfl, hm1, hl10, hpg, hb10⟩
        have HPG : Hid ((sq < 0 ∧ m1 = 0 ∧ mo = false ∧ er = 1) ∨ (0 ≤ sq ∧ m1 = min sq.toNat R1.length ∧ mo = decide (sq < (R1.length : Int)) ∧ er = 0 ∧ SoR R1 ∧ R1.Perm ((liR (N d) (S d) (K d)).filter fun y => bhB y.2 sa))) := hpg
        have p10 := p1.below hb10 p1.lt
        have c1 := (p10.cell 1).trans rfl
        have H2 := HE.out w10 hb10
        clear HE H1 c0 c3 p1 hpg
        go_wp2_with fail
        refine H2.mono ?_
        rintro e w11 ⟨v2, R2, rfl, ho2, hs2, hp2, hb11⟩
        obtain ⟨bl, bc, rfl, hl11, _⟩ := own_lkcR ho2 rfl
        have hb1 := hb10.trans (hb11.mono hb10.size)
        have p11 := p10.below hb11 p10.lt
        have c2 := (p11.cell 2).trans rfl
        have a11 := hl10.below hb11
        have HR2 : Hid (SoR R2 ∧ R2.Perm ((liR (N d) (S d) (K d)).filter fun y => pfB y.2 sb)) := ⟨hs2, hp2⟩
        have H3 := HN.out _ hb1
        clear c1 H2 hb10 hb11 p10 HN ho2 hs2 hp2 hl10
        go_wp2_with fail
        refine H3.mono ?_
        rintro e w13 ⟨v3, R3, rfl, ho3, hs3, hp3, hb13⟩
        obtain ⟨cl, cc, rfl, hl13, _⟩ := own_lkcR ho3 rfl
        have hb3 := hb1.trans (hb13.mono hb1.size)
        have HR3 : Hid (SoR R3 ∧ R3.Perm ((liR (N d) (S d) (K d)).filter fun y => maB y.2 sp)) := ⟨hs3, hp3⟩
        have HBE : Hid (Below w.heap.size w w13) := HBW.out.trans (hb3.mono HBW.out.size)
        have p13 := p11.below hb13 p11.lt
        have a13 := a11.below hb13
        have b13 := hl11.below hb13
        have HG3 : Hid (DL w0 w13 gs x mf ml mc cp A K C T N S) := HG.out.below hb3
        clear c2 H3 hb13 hb1 hb3 p11 HBW ho3 hs3 hp3 a11 hl11 HG
        go_wp2_with fail
        refine (HRR.out _).mono ?_
        rintro e w16 ⟨rfl, hw⟩
        subst w16
        clear HRR
        obtain ⟨e1, e2⟩ := sd_cs HG3.out.sd hd
        have H4 := rsorted_any (A d) (K d) (C d) (by omega) (N d) (S d) (fun i hi => enc_size (HNS.out i hi)) w13 (HG3.out.pd.ls d hd).1
        go_wp2_with fail
        refine H4.mono ?_
        rintro e w17 ⟨ga, ca, Q, rfl, hlQ, hsQ, hpQ, hoQ, hb17⟩
        obtain ⟨qa, qc, eq1, hq17, _⟩ := own_lkcR hoQ hlQ
        injection eq1 with eq1 _ eq2
        subst eq1 eq2
        have p17 := p13.below hb17 p13.lt
        have a17 := a13.below hb17
        have b17 := b13.below hb17
        have c17 := hl13.below hb17
        have HBF : Hid (Below w.heap.size w w17) := HBE.out.trans (hb17.mono HBE.out.size)
        have HQ2 : Hid (R2 = Q.filter fun y => pfB y.2 sb) := soR_eq HR2.out.1 (soR_filter hsQ _) (HR2.out.2.trans (hpQ.filter _).symm)
        have HQ3 : Hid (R3 = Q.filter fun y => maB y.2 sp) := soR_eq HR3.out.1 (soR_filter hsQ _) (HR3.out.2.trans (hpQ.filter _).symm)
        have HQ1 : Hid (0 ≤ sq → R1 = Q.filter fun y => bhB y.2 sa) := fun h => by
          rcases HPG.out with h1 | h1
          · omega
          · exact soR_eq h1.2.2.2.2.1 (soR_filter hsQ _) (h1.2.2.2.2.2.trans (hpQ.filter _).symm)
        have HQE : Hid (∀ j, j < K d → encE (Q.getD j (0, ⟨#[]⟩)).1 (Q.getD j (0, ⟨#[]⟩)).2 = 0) := fun j hj => by
          have h1 : Q.getD j (0, ⟨#[]⟩) ∈ liR (N d) (S d) (K d) := by
            refine hpQ.mem_iff.1 ?_
            rw [List.getD_eq_getElem?_getD, List.getElem?_eq_getElem (by omega)]
            exact List.getElem_mem _
          unfold liR at h1
          obtain ⟨i, hi, e⟩ := List.mem_map.1 h1
          rw [← e]
          exact HNS.out i (List.mem_range.1 hi)
        have HQL : Hid (Q.length = K d) := hlQ
        clear e1 e2 H4 hb17 hlQ hsQ hpQ hoQ p13 a13 b13 hl13 HBE HG3 HR2 HR3 HNS
        have HO0 : Hid (O3 (((w17.alloc (.cells #[] 58)).alloc (.cells #[] 58)).alloc (.cells #[] 58)) w17.heap.size (.slice (some ⟨w17.heap.size, 0, none⟩) 0 0) (.slice (some ⟨w17.heap.size + 1, 0, none⟩) 0 0) (.slice (some ⟨w17.heap.size + 2, 0, none⟩) 0 0) [] [] []) := by
          have z1 : (w17.alloc (.cells #[] 58)).heap.size = w17.heap.size + 1 := by simp
          have z2 : ((w17.alloc (.cells #[] 58)).alloc (.cells #[] 58)).heap.size = w17.heap.size + 2 := by simp
          have y1 := ((Blk.new w17 58 #[]).alloc (.cells #[] 58)).alloc (.cells #[] 58)
          have y2 := (Blk.new (w17.alloc (.cells #[] 58)) 58 #[]).alloc (.cells #[] 58)
          have y3 := Blk.new ((w17.alloc (.cells #[] 58)).alloc (.cells #[] 58)) 58 #[]
          rw [z1] at y2
          rw [z2] at y3
          exact ⟨kown_empty y1 (Nat.le_refl _), kown_empty y2 (by omega), kown_empty y3 (by omega), fun k h1 h2 => by simp [Value.ownBlock] at h1 h2; omega, fun k h1 h2 => by simp [Value.ownBlock] at h1 h2; omega, fun k h1 h2 => by simp [Value.ownBlock] at h1 h2; omega⟩
        have HB0 : Hid (Below w17.heap.size w17 (((w17.alloc (.cells #[] 58)).alloc (.cells #[] 58)).alloc (.cells #[] 58))) := (((Below.refl _ w17).alloc (Nat.le_refl _) _).alloc (by simp) _).alloc (by simp; omega) _
        go_wp2_with fail
        generalize (((w17.alloc (.cells #[] 58)).alloc (.cells #[] 58)).alloc (.cells #[] 58)) = w18 at *
        obtain ⟨i0, hi0, hz0, hz1, hz2⟩ := info_parts infoRLk
        go_loopw [20, 21, 22, 23] (fun v20 v21 v22 v23 wr => Hid (∃ j : Nat, j ≤ K d ∧ v23 = .int .i64 (j : Int) ∧ O3 wr w17.heap.size v20 v21 v22 ((Q.take j).filter fun y => bhB y.2 sa) ((Q.take j).filter fun y => pfB y.2 sb) ((Q.take j).filter fun y => maB y.2 sp) ∧ Below w17.heap.size w17 wr)) (fun _ _ _ v23 _ => K d - (intOf v23).toNat)
        case atStart => exact ⟨0, Nat.zero_le _, rfl, HO0.out, HB0.out⟩
        case round =>
          obtain ⟨j, hj, rfl, ho, hb⟩ := Hid.out hrel
          have HO : Hid (O3 wr w17.heap.size u20 u21 u22 ((Q.take j).filter fun y => bhB y.2 sa) ((Q.take j).filter fun y => pfB y.2 sb) ((Q.take j).filter fun y => maB y.2 sp)) := ho
          have HB : Hid (Below w17.heap.size w17 wr) := hb
          clear hrel ho hb HO0 HB0
          by_cases hin2 : j < K d
          · have i1 : (j : Int) < (K d : Int) := by omega
            have i2 : (0 : Int) ≤ (j : Int) := by omega
            have HTT : Hid (∀ f : Lk → Bool, (Q.take (j + 1)).filter f = (Q.take j).filter f ++ (if f (Q.getD j (0, ⟨#[]⟩)) then [Q.getD j (0, ⟨#[]⟩)] else [])) := fun f => flt_take Q f j (by rw [HQL.out]; exact hin2)
            have hez := HQE.out j hin2
            have HCL : Hid (∀ V, Below w17.heap.size w17 V → V.cell? ⟨ga, j * 2, none⟩ = some (.int .i64 (Q.getD j (0, ⟨#[]⟩)).1) ∧ V.cell? ⟨ga, j * 2 + 1, none⟩ = some (.string (Q.getD j (0, ⟨#[]⟩)).2) ∧ V.cell? ⟨w.heap.size, 0, none⟩ = some (.string sa) ∧ V.cell? ⟨w.heap.size, 1, none⟩ = some (.string sb) ∧ V.cell? ⟨w.heap.size, 2, none⟩ = some (.string sp)) := fun V hV => by
              obtain ⟨h1, h2⟩ := (hq17.below hV).cs hin2
              rw [Nat.zero_add] at h1 h2
              have h3 := p17.below hV p17.lt
              exact ⟨h1, h2, (h3.cell 0).trans rfl, (h3.cell 1).trans rfl, (h3.cell 2).trans rfl⟩
            generalize Q.getD j (0, ⟨#[]⟩) = en at *
            obtain ⟨ei, es⟩ := en
            have hes := enc_size hez
            have HT1 : Hid (((Q.take (j + 1)).filter fun y => bhB y.2 sa) = ((Q.take j).filter fun y => bhB y.2 sa) ++ (if bhB es sa then [(ei, es)] else [])) := HTT.out _
            have HT2 : Hid (((Q.take (j + 1)).filter fun y => pfB y.2 sb) = ((Q.take j).filter fun y => pfB y.2 sb) ++ (if pfB es sb then [(ei, es)] else [])) := HTT.out _
            have HT3 : Hid (((Q.take (j + 1)).filter fun y => maB y.2 sp) = ((Q.take j).filter fun y => maB y.2 sp) ++ (if maB es sp then [(ei, es)] else [])) := HTT.out _
            have HCM : Hid (∀ V : World, Calls Tryz.prog 28 #[.string es, .string sa] V fun e w' => e = .returned (.int .i64 (Lib.compareBytes es.data.toList sa.data.toList)) ∧ Below V.heap.size V w') := fun V => by
              refine (rcompare_big es sa hes HSA.out V).mono ?_
              rintro e w1 ⟨rfl, n, rfl⟩
              exact ⟨rfl, rfl, rfl, rfl, Nat.le_refl _, fun _ _ => rfl⟩
            have HMA : Hid (∀ V : World, Calls Tryz.prog 29 #[.string sp, .string es] V fun e w' => e = .returned (.bool (maB es sp)) ∧ Below V.heap.size V w') := fun V => rmatch_any sp es (maB es sp) (maB_iff es sp) HSP.out (by
              have h1 : es.size ≤ 56 := encE_56 hez
              omega) V
            have HBH : Hid (bhB es sa = decide (0 < Lib.compareBytes es.data.toList sa.data.toList)) := rfl
            clear HTT hez hes
            generalize Lib.compareBytes es.data.toList sa.data.toList = pz at *
            generalize maB es sp = mb at *
            obtain ⟨q0, q1, r0, r1, r2⟩ := HCL.out wr HB.out
            go_wp2_with fail
            refine (HCM.out _).mono ?_
            rintro e w19 ⟨rfl, hb19⟩
            have HO9 : Hid (O3 w19 w17.heap.size u20 u21 u22 ((Q.take j).filter fun y => bhB y.2 sa) ((Q.take j).filter fun y => pfB y.2 sb) ((Q.take j).filter fun y => maB y.2 sp)) := HO.out.below hb19
            have HB9 : Hid (Below w17.heap.size w17 w19) := HB.out.trans (hb19.mono HB.out.size)
            clear HO HB hb19 q0 q1 r0 r1 r2 HCM
            by_cases hpz : 0 < pz
            · rw [HBH.out, decide_eq_true hpz, if_pos rfl] at HT1
              obtain ⟨q0, q1, r0, r1, r2⟩ := HCL.out w19 HB9.out
              have HOa : Hid (O3 (w19.alloc (.cells #[.int .i64 ei, .string es] 58)) w17.heap.size u20 u21 u22 ((Q.take j).filter fun y => bhB y.2 sa) ((Q.take j).filter fun y => pfB y.2 sb) ((Q.take j).filter fun y => maB y.2 sp)) := HO9.out.alloc _
              have HXa : Hid (IsR (w19.alloc (.cells #[.int .i64 ei, .string es] 58)) w19.heap.size 0 [(ei, es)]) := fun j u hu => by
                have := cells_new2L w19 (.int .i64 ei) (.string es) 58 j u hu
                rwa [Addr.add_mid] at this
              have HBa : Hid (Below w17.heap.size w17 (w19.alloc (.cells #[.int .i64 ei, .string es] 58))) := HB9.out.alloc HB9.out.size _
              have HLa : Hid ((((Q.take j).filter fun y => bhB y.2 sa).length + [((ei, es) : Lk)].length) * 24 ≤ 140737488355328) := by
                have h1 := List.length_filter_le (fun y : Lk => bhB y.2 sa) (Q.take j)
                have h2 : (Q.take j).length ≤ Q.length := by rw [List.length_take]; omega
                have h3 := HQL.out
                show _ ≤ _
                simp only [List.length_cons, List.length_nil]
                omega
              go_wp2_with (first | (refine wpList_append_lks_at (by rfl) _ _ 28 (by rfl) w17.heap.size 58 i0 (.agg #[.int .i64 0, .string ⟨#[]⟩]) Tryz.underlying28 hi0 hz0 hz1 hz2 rfl u20 ((Q.take j).filter fun y => bhB y.2 sa) ((Q.take j).filter fun y => bhB y.2 sa).length rfl (by rfl) (by exact HOa.out.o1) w19.heap.size 0 1 1 [(ei, es)] rfl (by rfl) (by exact HXa.out) HLa.out HBa.out.size (fun x1 U1 ho1 hg1 hl1 => ?_); (have HB1 : Hid (Below w17.heap.size w17 U1) := HBa.out.trans ((Below.refl _ _).grown hg1 HBa.out.size (fun b hb => (HOa.out.o1.lt b hb).1))); (obtain ⟨t0, t1, s0, s1, s2⟩ := HCL.out U1 HB1.out); simp only [Act.put, sgPHDiSlicesLaw]) | fail)
              have HO1 : Hid (O3 U1 w17.heap.size x1 u21 u22 ((Q.take (j + 1)).filter fun y => bhB y.2 sa) ((Q.take j).filter fun y => pfB y.2 sb) ((Q.take j).filter fun y => maB y.2 sp)) := by
                have h1 := HOa.out.app1 ho1 hg1 hl1
                rw [← HT1.out] at h1
                exact h1
              clear HOa HXa HBa HLa ho1 hg1 hl1 HO9 HB9 q0 q1 r0 r1 r2 t0 t1 s0 s1 s2
              by_cases hsz : sb.size ≤ es.size
              · have hsi : (sb.size : Int) ≤ (es.size : Int) := by omega
                have HPF : Hid (pfB es sb = ((es.extract 0 sb.size).toList == sb.toList)) := by
                  show _ = _
                  unfold pfB
                  rw [decide_eq_true hsz, Bool.true_and]
                cases hx : ((es.extract 0 sb.size).toList == sb.toList)
                · rw [HPF.out, hx, if_neg (by decide), List.append_nil] at HT2
                  obtain ⟨q0, q1, r0, r1, r2⟩ := HCL.out U1 HB1.out
                  go_wp2_with fail
                  go_quiet (fail)
                  have HOd2 : Hid (O3 (U1.drewN nq) w17.heap.size x1 u21 u22 ((Q.take (j + 1)).filter fun y => bhB y.2 sa) ((Q.take j).filter fun y => pfB y.2 sb) ((Q.take j).filter fun y => maB y.2 sp)) := HO1.out.below ⟨rfl, rfl, rfl, Nat.le_refl _, fun _ _ => rfl⟩
                  have HBd2 : Hid (Below w17.heap.size w17 (U1.drewN nq)) := HB1.out.trans ⟨rfl, rfl, rfl, Nat.le_refl _, fun _ _ => rfl⟩
                  clear HO1 HB1 q0 q1 r0 r1 r2
                  generalize U1.drewN nq = Y2 at *
                  have HO3 : Hid (O3 Y2 w17.heap.size x1 u21 u22 ((Q.take (j + 1)).filter fun y => bhB y.2 sa) ((Q.take (j + 1)).filter fun y => pfB y.2 sb) ((Q.take j).filter fun y => maB y.2 sp)) := by
                    have h1 := HOd2.out
                    rw [HT2.out]
                    exact h1
                  clear HOd2
                  obtain ⟨q0, q1, r0, r1, r2⟩ := HCL.out Y2 HBd2.out
                  go_wp2_with fail
                  refine (HMA.out _).mono ?_
                  rintro e Z4 ⟨rfl, hbz⟩
                  have HOz4 : Hid (O3 Z4 w17.heap.size x1 u21 u22 ((Q.take (j + 1)).filter fun y => bhB y.2 sa) ((Q.take (j + 1)).filter fun y => pfB y.2 sb) ((Q.take j).filter fun y => maB y.2 sp)) := HO3.out.below hbz
                  have HBz4 : Hid (Below w17.heap.size w17 Z4) := HBd2.out.trans (hbz.mono HBd2.out.size)
                  clear HO3 HBd2 hbz q0 q1 r0 r1 r2 HMA
                  cases mb
                  · rw [if_neg (by decide), List.append_nil] at HT3
                    have HO5 : Hid (O3 Z4 w17.heap.size x1 u21 u22 ((Q.take (j + 1)).filter fun y => bhB y.2 sa) ((Q.take (j + 1)).filter fun y => pfB y.2 sb) ((Q.take (j + 1)).filter fun y => maB y.2 sp)) := by
                      have h1 := HOz4.out
                      rw [HT3.out]
                      exact h1
                    clear HOz4
                    go_wp2_with fail
                    go_roundw
                    case rel => exact ⟨j + 1, by omega, by first | rfl | go_num | simp, HO5.out, HBz4.out⟩
                    case measure => simp [intOf]; omega
                  · rw [if_pos rfl] at HT3
                    obtain ⟨q0, q1, r0, r1, r2⟩ := HCL.out Z4 HBz4.out
                    have HOa : Hid (O3 (Z4.alloc (.cells #[.int .i64 ei, .string es] 58)) w17.heap.size x1 u21 u22 ((Q.take (j + 1)).filter fun y => bhB y.2 sa) ((Q.take (j + 1)).filter fun y => pfB y.2 sb) ((Q.take j).filter fun y => maB y.2 sp)) := HOz4.out.alloc _
                    have HXa : Hid (IsR (Z4.alloc (.cells #[.int .i64 ei, .string es] 58)) Z4.heap.size 0 [(ei, es)]) := fun j u hu => by
                      have := cells_new2L Z4 (.int .i64 ei) (.string es) 58 j u hu
                      rwa [Addr.add_mid] at this
                    have HBa : Hid (Below w17.heap.size w17 (Z4.alloc (.cells #[.int .i64 ei, .string es] 58))) := HBz4.out.alloc HBz4.out.size _
                    have HLa : Hid ((((Q.take j).filter fun y => maB y.2 sp).length + [((ei, es) : Lk)].length) * 24 ≤ 140737488355328) := by
                      have h1 := List.length_filter_le (fun y : Lk => maB y.2 sp) (Q.take j)
                      have h2 : (Q.take j).length ≤ Q.length := by rw [List.length_take]; omega
                      have h3 := HQL.out
                      show _ ≤ _
                      simp only [List.length_cons, List.length_nil]
                      omega
                    go_wp2_with (first | (refine wpList_append_lks_at (by rfl) _ _ 28 (by rfl) w17.heap.size 58 i0 (.agg #[.int .i64 0, .string ⟨#[]⟩]) Tryz.underlying28 hi0 hz0 hz1 hz2 rfl u22 ((Q.take j).filter fun y => maB y.2 sp) ((Q.take j).filter fun y => maB y.2 sp).length rfl (by rfl) (by exact HOa.out.o3) Z4.heap.size 0 1 1 [(ei, es)] rfl (by rfl) (by exact HXa.out) HLa.out HBa.out.size (fun x6 U6 ho6 hg6 hl6 => ?_); (have HB6 : Hid (Below w17.heap.size w17 U6) := HBa.out.trans ((Below.refl _ _).grown hg6 HBa.out.size (fun b hb => (HOa.out.o3.lt b hb).1))); (obtain ⟨t0, t1, s0, s1, s2⟩ := HCL.out U6 HB6.out); simp only [Act.put, sgPHDiSlicesLaw]) | fail)
                    have HO6 : Hid (O3 U6 w17.heap.size x1 u21 x6 ((Q.take (j + 1)).filter fun y => bhB y.2 sa) ((Q.take (j + 1)).filter fun y => pfB y.2 sb) ((Q.take (j + 1)).filter fun y => maB y.2 sp)) := by
                      have h1 := HOa.out.app3 ho6 hg6 hl6
                      rw [← HT3.out] at h1
                      exact h1
                    clear HOa HXa HBa HLa ho6 hg6 hl6 HOz4 HBz4 q0 q1 r0 r1 r2 t0 t1 s0 s1 s2
                    go_wp2_with fail
                    go_roundw
                    case rel => exact ⟨j + 1, by omega, by first | rfl | go_num | simp, HO6.out, HB6.out⟩
                    case measure => simp [intOf]; omega
                · rw [HPF.out, hx, if_pos rfl] at HT2
                  obtain ⟨q0, q1, r0, r1, r2⟩ := HCL.out U1 HB1.out
                  go_wp2_with fail
                  go_quiet (fail)
                  have HOd7 : Hid (O3 (U1.drewN nq) w17.heap.size x1 u21 u22 ((Q.take (j + 1)).filter fun y => bhB y.2 sa) ((Q.take j).filter fun y => pfB y.2 sb) ((Q.take j).filter fun y => maB y.2 sp)) := HO1.out.below ⟨rfl, rfl, rfl, Nat.le_refl _, fun _ _ => rfl⟩
                  have HBd7 : Hid (Below w17.heap.size w17 (U1.drewN nq)) := HB1.out.trans ⟨rfl, rfl, rfl, Nat.le_refl _, fun _ _ => rfl⟩
                  clear HO1 HB1 q0 q1 r0 r1 r2
                  generalize U1.drewN nq = Y7 at *
                  obtain ⟨q0, q1, r0, r1, r2⟩ := HCL.out Y7 HBd7.out
                  have HOa : Hid (O3 (Y7.alloc (.cells #[.int .i64 ei, .string es] 58)) w17.heap.size x1 u21 u22 ((Q.take (j + 1)).filter fun y => bhB y.2 sa) ((Q.take j).filter fun y => pfB y.2 sb) ((Q.take j).filter fun y => maB y.2 sp)) := HOd7.out.alloc _
                  have HXa : Hid (IsR (Y7.alloc (.cells #[.int .i64 ei, .string es] 58)) Y7.heap.size 0 [(ei, es)]) := fun j u hu => by
                    have := cells_new2L Y7 (.int .i64 ei) (.string es) 58 j u hu
                    rwa [Addr.add_mid] at this
                  have HBa : Hid (Below w17.heap.size w17 (Y7.alloc (.cells #[.int .i64 ei, .string es] 58))) := HBd7.out.alloc HBd7.out.size _
                  have HLa : Hid ((((Q.take j).filter fun y => pfB y.2 sb).length + [((ei, es) : Lk)].length) * 24 ≤ 140737488355328) := by
                    have h1 := List.length_filter_le (fun y : Lk => pfB y.2 sb) (Q.take j)
                    have h2 : (Q.take j).length ≤ Q.length := by rw [List.length_take]; omega
                    have h3 := HQL.out
                    show _ ≤ _
                    simp only [List.length_cons, List.length_nil]
                    omega
                  go_wp2_with (first | (refine wpList_append_lks_at (by rfl) _ _ 28 (by rfl) w17.heap.size 58 i0 (.agg #[.int .i64 0, .string ⟨#[]⟩]) Tryz.underlying28 hi0 hz0 hz1 hz2 rfl u21 ((Q.take j).filter fun y => pfB y.2 sb) ((Q.take j).filter fun y => pfB y.2 sb).length rfl (by rfl) (by exact HOa.out.o2) Y7.heap.size 0 1 1 [(ei, es)] rfl (by rfl) (by exact HXa.out) HLa.out HBa.out.size (fun x8 U8 ho8 hg8 hl8 => ?_); (have HB8 : Hid (Below w17.heap.size w17 U8) := HBa.out.trans ((Below.refl _ _).grown hg8 HBa.out.size (fun b hb => (HOa.out.o2.lt b hb).1))); (obtain ⟨t0, t1, s0, s1, s2⟩ := HCL.out U8 HB8.out); simp only [Act.put, sgPHDiSlicesLaw]) | fail)
                  have HO8 : Hid (O3 U8 w17.heap.size x1 x8 u22 ((Q.take (j + 1)).filter fun y => bhB y.2 sa) ((Q.take (j + 1)).filter fun y => pfB y.2 sb) ((Q.take j).filter fun y => maB y.2 sp)) := by
                    have h1 := HOa.out.app2 ho8 hg8 hl8
                    rw [← HT2.out] at h1
                    exact h1
                  clear HOa HXa HBa HLa ho8 hg8 hl8 HOd7 HBd7 q0 q1 r0 r1 r2 t0 t1 s0 s1 s2
                  obtain ⟨q0, q1, r0, r1, r2⟩ := HCL.out U8 HB8.out
                  refine (HMA.out _).mono ?_
                  rintro e Z9 ⟨rfl, hbz⟩
                  have HOz9 : Hid (O3 Z9 w17.heap.size x1 x8 u22 ((Q.take (j + 1)).filter fun y => bhB y.2 sa) ((Q.take (j + 1)).filter fun y => pfB y.2 sb) ((Q.take j).filter fun y => maB y.2 sp)) := HO8.out.below hbz
                  have HBz9 : Hid (Below w17.heap.size w17 Z9) := HB8.out.trans (hbz.mono HB8.out.size)
                  clear HO8 HB8 hbz q0 q1 r0 r1 r2 HMA
                  cases mb
                  · rw [if_neg (by decide), List.append_nil] at HT3
                    have HO10 : Hid (O3 Z9 w17.heap.size x1 x8 u22 ((Q.take (j + 1)).filter fun y => bhB y.2 sa) ((Q.take (j + 1)).filter fun y => pfB y.2 sb) ((Q.take (j + 1)).filter fun y => maB y.2 sp)) := by
                      have h1 := HOz9.out
                      rw [HT3.out]
                      exact h1
                    clear HOz9
                    go_wp2_with fail
                    go_roundw
                    case rel => exact ⟨j + 1, by omega, by first | rfl | go_num | simp, HO10.out, HBz9.out⟩
                    case measure => simp [intOf]; omega
                  · rw [if_pos rfl] at HT3
                    obtain ⟨q0, q1, r0, r1, r2⟩ := HCL.out Z9 HBz9.out
                    have HOa : Hid (O3 (Z9.alloc (.cells #[.int .i64 ei, .string es] 58)) w17.heap.size x1 x8 u22 ((Q.take (j + 1)).filter fun y => bhB y.2 sa) ((Q.take (j + 1)).filter fun y => pfB y.2 sb) ((Q.take j).filter fun y => maB y.2 sp)) := HOz9.out.alloc _
                    have HXa : Hid (IsR (Z9.alloc (.cells #[.int .i64 ei, .string es] 58)) Z9.heap.size 0 [(ei, es)]) := fun j u hu => by
                      have := cells_new2L Z9 (.int .i64 ei) (.string es) 58 j u hu
                      rwa [Addr.add_mid] at this
                    have HBa : Hid (Below w17.heap.size w17 (Z9.alloc (.cells #[.int .i64 ei, .string es] 58))) := HBz9.out.alloc HBz9.out.size _
                    have HLa : Hid ((((Q.take j).filter fun y => maB y.2 sp).length + [((ei, es) : Lk)].length) * 24 ≤ 140737488355328) := by
                      have h1 := List.length_filter_le (fun y : Lk => maB y.2 sp) (Q.take j)
                      have h2 : (Q.take j).length ≤ Q.length := by rw [List.length_take]; omega
                      have h3 := HQL.out
                      show _ ≤ _
                      simp only [List.length_cons, List.length_nil]
                      omega
                    go_wp2_with (first | (refine wpList_append_lks_at (by rfl) _ _ 28 (by rfl) w17.heap.size 58 i0 (.agg #[.int .i64 0, .string ⟨#[]⟩]) Tryz.underlying28 hi0 hz0 hz1 hz2 rfl u22 ((Q.take j).filter fun y => maB y.2 sp) ((Q.take j).filter fun y => maB y.2 sp).length rfl (by rfl) (by exact HOa.out.o3) Z9.heap.size 0 1 1 [(ei, es)] rfl (by rfl) (by exact HXa.out) HLa.out HBa.out.size (fun x11 U11 ho11 hg11 hl11 => ?_); (have HB11 : Hid (Below w17.heap.size w17 U11) := HBa.out.trans ((Below.refl _ _).grown hg11 HBa.out.size (fun b hb => (HOa.out.o3.lt b hb).1))); (obtain ⟨t0, t1, s0, s1, s2⟩ := HCL.out U11 HB11.out); simp only [Act.put, sgPHDiSlicesLaw]) | fail)
                    have HO11 : Hid (O3 U11 w17.heap.size x1 x8 x11 ((Q.take (j + 1)).filter fun y => bhB y.2 sa) ((Q.take (j + 1)).filter fun y => pfB y.2 sb) ((Q.take (j + 1)).filter fun y => maB y.2 sp)) := by
                      have h1 := HOa.out.app3 ho11 hg11 hl11
                      rw [← HT3.out] at h1
                      exact h1
                    clear HOa HXa HBa HLa ho11 hg11 hl11 HOz9 HBz9 q0 q1 r0 r1 r2 t0 t1 s0 s1 s2
                    go_wp2_with fail
                    go_roundw
                    case rel => exact ⟨j + 1, by omega, by first | rfl | go_num | simp, HO11.out, HB11.out⟩
                    case measure => simp [intOf]; omega
              · have hsi : ¬ (sb.size : Int) ≤ (es.size : Int) := by omega
                have HPF : Hid (pfB es sb = false) := by
                  show _ = _
                  unfold pfB
                  rw [decide_eq_false hsz, Bool.false_and]
                rw [HPF.out, if_neg (by decide), List.append_nil] at HT2
                obtain ⟨q0, q1, r0, r1, r2⟩ := HCL.out U1 HB1.out
                go_wp2_with fail
                go_quiet (fail)
                have HOd12 : Hid (O3 (U1.drewN nq) w17.heap.size x1 u21 u22 ((Q.take (j + 1)).filter fun y => bhB y.2 sa) ((Q.take j).filter fun y => pfB y.2 sb) ((Q.take j).filter fun y => maB y.2 sp)) := HO1.out.below ⟨rfl, rfl, rfl, Nat.le_refl _, fun _ _ => rfl⟩
                have HBd12 : Hid (Below w17.heap.size w17 (U1.drewN nq)) := HB1.out.trans ⟨rfl, rfl, rfl, Nat.le_refl _, fun _ _ => rfl⟩
                clear HO1 HB1 q0 q1 r0 r1 r2
                generalize U1.drewN nq = Y12 at *
                have HO13 : Hid (O3 Y12 w17.heap.size x1 u21 u22 ((Q.take (j + 1)).filter fun y => bhB y.2 sa) ((Q.take (j + 1)).filter fun y => pfB y.2 sb) ((Q.take j).filter fun y => maB y.2 sp)) := by
                  have h1 := HOd12.out
                  rw [HT2.out]
                  exact h1
                clear HOd12
                obtain ⟨q0, q1, r0, r1, r2⟩ := HCL.out Y12 HBd12.out
                go_wp2_with fail
                refine (HMA.out _).mono ?_
                rintro e Z14 ⟨rfl, hbz⟩
                have HOz14 : Hid (O3 Z14 w17.heap.size x1 u21 u22 ((Q.take (j + 1)).filter fun y => bhB y.2 sa) ((Q.take (j + 1)).filter fun y => pfB y.2 sb) ((Q.take j).filter fun y => maB y.2 sp)) := HO13.out.below hbz
                have HBz14 : Hid (Below w17.heap.size w17 Z14) := HBd12.out.trans (hbz.mono HBd12.out.size)
                clear HO13 HBd12 hbz q0 q1 r0 r1 r2 HMA
                cases mb
                · rw [if_neg (by decide), List.append_nil] at HT3
                  have HO15 : Hid (O3 Z14 w17.heap.size x1 u21 u22 ((Q.take (j + 1)).filter fun y => bhB y.2 sa) ((Q.take (j + 1)).filter fun y => pfB y.2 sb) ((Q.take (j + 1)).filter fun y => maB y.2 sp)) := by
                    have h1 := HOz14.out
                    rw [HT3.out]
                    exact h1
                  clear HOz14
                  go_wp2_with fail
                  go_roundw
                  case rel => exact ⟨j + 1, by omega, by first | rfl | go_num | simp, HO15.out, HBz14.out⟩
                  case measure => simp [intOf]; omega
                · rw [if_pos rfl] at HT3
                  obtain ⟨q0, q1, r0, r1, r2⟩ := HCL.out Z14 HBz14.out
                  have HOa : Hid (O3 (Z14.alloc (.cells #[.int .i64 ei, .string es] 58)) w17.heap.size x1 u21 u22 ((Q.take (j + 1)).filter fun y => bhB y.2 sa) ((Q.take (j + 1)).filter fun y => pfB y.2 sb) ((Q.take j).filter fun y => maB y.2 sp)) := HOz14.out.alloc _
                  have HXa : Hid (IsR (Z14.alloc (.cells #[.int .i64 ei, .string es] 58)) Z14.heap.size 0 [(ei, es)]) := fun j u hu => by
                    have := cells_new2L Z14 (.int .i64 ei) (.string es) 58 j u hu
                    rwa [Addr.add_mid] at this
                  have HBa : Hid (Below w17.heap.size w17 (Z14.alloc (.cells #[.int .i64 ei, .string es] 58))) := HBz14.out.alloc HBz14.out.size _
                  have HLa : Hid ((((Q.take j).filter fun y => maB y.2 sp).length + [((ei, es) : Lk)].length) * 24 ≤ 140737488355328) := by
                    have h1 := List.length_filter_le (fun y : Lk => maB y.2 sp) (Q.take j)
                    have h2 : (Q.take j).length ≤ Q.length := by rw [List.length_take]; omega
                    have h3 := HQL.out
                    show _ ≤ _
                    simp only [List.length_cons, List.length_nil]
                    omega
                  go_wp2_with (first | (refine wpList_append_lks_at (by rfl) _ _ 28 (by rfl) w17.heap.size 58 i0 (.agg #[.int .i64 0, .string ⟨#[]⟩]) Tryz.underlying28 hi0 hz0 hz1 hz2 rfl u22 ((Q.take j).filter fun y => maB y.2 sp) ((Q.take j).filter fun y => maB y.2 sp).length rfl (by rfl) (by exact HOa.out.o3) Z14.heap.size 0 1 1 [(ei, es)] rfl (by rfl) (by exact HXa.out) HLa.out HBa.out.size (fun x16 U16 ho16 hg16 hl16 => ?_); (have HB16 : Hid (Below w17.heap.size w17 U16) := HBa.out.trans ((Below.refl _ _).grown hg16 HBa.out.size (fun b hb => (HOa.out.o3.lt b hb).1))); (obtain ⟨t0, t1, s0, s1, s2⟩ := HCL.out U16 HB16.out); simp only [Act.put, sgPHDiSlicesLaw]) | fail)
                  have HO16 : Hid (O3 U16 w17.heap.size x1 u21 x16 ((Q.take (j + 1)).filter fun y => bhB y.2 sa) ((Q.take (j + 1)).filter fun y => pfB y.2 sb) ((Q.take (j + 1)).filter fun y => maB y.2 sp)) := by
                    have h1 := HOa.out.app3 ho16 hg16 hl16
                    rw [← HT3.out] at h1
                    exact h1
                  clear HOa HXa HBa HLa ho16 hg16 hl16 HOz14 HBz14 q0 q1 r0 r1 r2 t0 t1 s0 s1 s2
                  go_wp2_with fail
                  go_roundw
                  case rel => exact ⟨j + 1, by omega, by first | rfl | go_num | simp, HO16.out, HB16.out⟩
                  case measure => simp [intOf]; omega
            · rw [HBH.out, decide_eq_false hpz, if_neg (by decide), List.append_nil] at HT1
              have HO17 : Hid (O3 w19 w17.heap.size u20 u21 u22 ((Q.take (j + 1)).filter fun y => bhB y.2 sa) ((Q.take j).filter fun y => pfB y.2 sb) ((Q.take j).filter fun y => maB y.2 sp)) := by
                have h1 := HO9.out
                rw [HT1.out]
                exact h1
              clear HO9
              by_cases hsz : sb.size ≤ es.size
              · have hsi : (sb.size : Int) ≤ (es.size : Int) := by omega
                have HPF : Hid (pfB es sb = ((es.extract 0 sb.size).toList == sb.toList)) := by
                  show _ = _
                  unfold pfB
                  rw [decide_eq_true hsz, Bool.true_and]
                cases hx : ((es.extract 0 sb.size).toList == sb.toList)
                · rw [HPF.out, hx, if_neg (by decide), List.append_nil] at HT2
                  obtain ⟨q0, q1, r0, r1, r2⟩ := HCL.out w19 HB9.out
                  go_wp2_with fail
                  go_quiet (fail)
                  have HOd18 : Hid (O3 (w19.drewN nq) w17.heap.size u20 u21 u22 ((Q.take (j + 1)).filter fun y => bhB y.2 sa) ((Q.take j).filter fun y => pfB y.2 sb) ((Q.take j).filter fun y => maB y.2 sp)) := HO17.out.below ⟨rfl, rfl, rfl, Nat.le_refl _, fun _ _ => rfl⟩
                  have HBd18 : Hid (Below w17.heap.size w17 (w19.drewN nq)) := HB9.out.trans ⟨rfl, rfl, rfl, Nat.le_refl _, fun _ _ => rfl⟩
                  clear HO17 HB9 q0 q1 r0 r1 r2
                  generalize w19.drewN nq = Y18 at *
                  have HO19 : Hid (O3 Y18 w17.heap.size u20 u21 u22 ((Q.take (j + 1)).filter fun y => bhB y.2 sa) ((Q.take (j + 1)).filter fun y => pfB y.2 sb) ((Q.take j).filter fun y => maB y.2 sp)) := by
                    have h1 := HOd18.out
                    rw [HT2.out]
                    exact h1
                  clear HOd18
                  obtain ⟨q0, q1, r0, r1, r2⟩ := HCL.out Y18 HBd18.out
                  go_wp2_with fail
                  refine (HMA.out _).mono ?_
                  rintro e Z20 ⟨rfl, hbz⟩
                  have HOz20 : Hid (O3 Z20 w17.heap.size u20 u21 u22 ((Q.take (j + 1)).filter fun y => bhB y.2 sa) ((Q.take (j + 1)).filter fun y => pfB y.2 sb) ((Q.take j).filter fun y => maB y.2 sp)) := HO19.out.below hbz
                  have HBz20 : Hid (Below w17.heap.size w17 Z20) := HBd18.out.trans (hbz.mono HBd18.out.size)
                  clear HO19 HBd18 hbz q0 q1 r0 r1 r2 HMA
                  cases mb
                  · rw [if_neg (by decide), List.append_nil] at HT3
                    have HO21 : Hid (O3 Z20 w17.heap.size u20 u21 u22 ((Q.take (j + 1)).filter fun y => bhB y.2 sa) ((Q.take (j + 1)).filter fun y => pfB y.2 sb) ((Q.take (j + 1)).filter fun y => maB y.2 sp)) := by
                      have h1 := HOz20.out
                      rw [HT3.out]
                      exact h1
                    clear HOz20
                    go_wp2_with fail
                    go_roundw
                    case rel => exact ⟨j + 1, by omega, by first | rfl | go_num | simp, HO21.out, HBz20.out⟩
                    case measure => simp [intOf]; omega
                  · rw [if_pos rfl] at HT3
                    obtain ⟨q0, q1, r0, r1, r2⟩ := HCL.out Z20 HBz20.out
                    have HOa : Hid (O3 (Z20.alloc (.cells #[.int .i64 ei, .string es] 58)) w17.heap.size u20 u21 u22 ((Q.take (j + 1)).filter fun y => bhB y.2 sa) ((Q.take (j + 1)).filter fun y => pfB y.2 sb) ((Q.take j).filter fun y => maB y.2 sp)) := HOz20.out.alloc _
                    have HXa : Hid (IsR (Z20.alloc (.cells #[.int .i64 ei, .string es] 58)) Z20.heap.size 0 [(ei, es)]) := fun j u hu => by
                      have := cells_new2L Z20 (.int .i64 ei) (.string es) 58 j u hu
                      rwa [Addr.add_mid] at this
                    have HBa : Hid (Below w17.heap.size w17 (Z20.alloc (.cells #[.int .i64 ei, .string es] 58))) := HBz20.out.alloc HBz20.out.size _
                    have HLa : Hid ((((Q.take j).filter fun y => maB y.2 sp).length + [((ei, es) : Lk)].length) * 24 ≤ 140737488355328) := by
                      have h1 := List.length_filter_le (fun y : Lk => maB y.2 sp) (Q.take j)
                      have h2 : (Q.take j).length ≤ Q.length := by rw [List.length_take]; omega
                      have h3 := HQL.out
                      show _ ≤ _
                      simp only [List.length_cons, List.length_nil]
                      omega
                    go_wp2_with (first | (refine wpList_append_lks_at (by rfl) _ _ 28 (by rfl) w17.heap.size 58 i0 (.agg #[.int .i64 0, .string ⟨#[]⟩]) Tryz.underlying28 hi0 hz0 hz1 hz2 rfl u22 ((Q.take j).filter fun y => maB y.2 sp) ((Q.take j).filter fun y => maB y.2 sp).length rfl (by rfl) (by exact HOa.out.o3) Z20.heap.size 0 1 1 [(ei, es)] rfl (by rfl) (by exact HXa.out) HLa.out HBa.out.size (fun x22 U22 ho22 hg22 hl22 => ?_); (have HB22 : Hid (Below w17.heap.size w17 U22) := HBa.out.trans ((Below.refl _ _).grown hg22 HBa.out.size (fun b hb => (HOa.out.o3.lt b hb).1))); (obtain ⟨t0, t1, s0, s1, s2⟩ := HCL.out U22 HB22.out); simp only [Act.put, sgPHDiSlicesLaw]) | fail)
                    have HO22 : Hid (O3 U22 w17.heap.size u20 u21 x22 ((Q.take (j + 1)).filter fun y => bhB y.2 sa) ((Q.take (j + 1)).filter fun y => pfB y.2 sb) ((Q.take (j + 1)).filter fun y => maB y.2 sp)) := by
                      have h1 := HOa.out.app3 ho22 hg22 hl22
                      rw [← HT3.out] at h1
                      exact h1
                    clear HOa HXa HBa HLa ho22 hg22 hl22 HOz20 HBz20 q0 q1 r0 r1 r2 t0 t1 s0 s1 s2
                    go_wp2_with fail
                    go_roundw
                    case rel => exact ⟨j + 1, by omega, by first | rfl | go_num | simp, HO22.out, HB22.out⟩
                    case measure => simp [intOf]; omega
                · rw [HPF.out, hx, if_pos rfl] at HT2
                  obtain ⟨q0, q1, r0, r1, r2⟩ := HCL.out w19 HB9.out
                  go_wp2_with fail
                  go_quiet (fail)
                  have HOd23 : Hid (O3 (w19.drewN nq) w17.heap.size u20 u21 u22 ((Q.take (j + 1)).filter fun y => bhB y.2 sa) ((Q.take j).filter fun y => pfB y.2 sb) ((Q.take j).filter fun y => maB y.2 sp)) := HO17.out.below ⟨rfl, rfl, rfl, Nat.le_refl _, fun _ _ => rfl⟩
                  have HBd23 : Hid (Below w17.heap.size w17 (w19.drewN nq)) := HB9.out.trans ⟨rfl, rfl, rfl, Nat.le_refl _, fun _ _ => rfl⟩
                  clear HO17 HB9 q0 q1 r0 r1 r2
                  generalize w19.drewN nq = Y23 at *
                  obtain ⟨q0, q1, r0, r1, r2⟩ := HCL.out Y23 HBd23.out
                  have HOa : Hid (O3 (Y23.alloc (.cells #[.int .i64 ei, .string es] 58)) w17.heap.size u20 u21 u22 ((Q.take (j + 1)).filter fun y => bhB y.2 sa) ((Q.take j).filter fun y => pfB y.2 sb) ((Q.take j).filter fun y => maB y.2 sp)) := HOd23.out.alloc _
                  have HXa : Hid (IsR (Y23.alloc (.cells #[.int .i64 ei, .string es] 58)) Y23.heap.size 0 [(ei, es)]) := fun j u hu => by
                    have := cells_new2L Y23 (.int .i64 ei) (.string es) 58 j u hu
                    rwa [Addr.add_mid] at this
                  have HBa : Hid (Below w17.heap.size w17 (Y23.alloc (.cells #[.int .i64 ei, .string es] 58))) := HBd23.out.alloc HBd23.out.size _
                  have HLa : Hid ((((Q.take j).filter fun y => pfB y.2 sb).length + [((ei, es) : Lk)].length) * 24 ≤ 140737488355328) := by
                    have h1 := List.length_filter_le (fun y : Lk => pfB y.2 sb) (Q.take j)
                    have h2 : (Q.take j).length ≤ Q.length := by rw [List.length_take]; omega
                    have h3 := HQL.out
                    show _ ≤ _
                    simp only [List.length_cons, List.length_nil]
                    omega
                  go_wp2_with (first | (refine wpList_append_lks_at (by rfl) _ _ 28 (by rfl) w17.heap.size 58 i0 (.agg #[.int .i64 0, .string ⟨#[]⟩]) Tryz.underlying28 hi0 hz0 hz1 hz2 rfl u21 ((Q.take j).filter fun y => pfB y.2 sb) ((Q.take j).filter fun y => pfB y.2 sb).length rfl (by rfl) (by exact HOa.out.o2) Y23.heap.size 0 1 1 [(ei, es)] rfl (by rfl) (by exact HXa.out) HLa.out HBa.out.size (fun x24 U24 ho24 hg24 hl24 => ?_); (have HB24 : Hid (Below w17.heap.size w17 U24) := HBa.out.trans ((Below.refl _ _).grown hg24 HBa.out.size (fun b hb => (HOa.out.o2.lt b hb).1))); (obtain ⟨t0, t1, s0, s1, s2⟩ := HCL.out U24 HB24.out); simp only [Act.put, sgPHDiSlicesLaw]) | fail)
                  have HO24 : Hid (O3 U24 w17.heap.size u20 x24 u22 ((Q.take (j + 1)).filter fun y => bhB y.2 sa) ((Q.take (j + 1)).filter fun y => pfB y.2 sb) ((Q.take j).filter fun y => maB y.2 sp)) := by
                    have h1 := HOa.out.app2 ho24 hg24 hl24
                    rw [← HT2.out] at h1
                    exact h1
                  clear HOa HXa HBa HLa ho24 hg24 hl24 HOd23 HBd23 q0 q1 r0 r1 r2 t0 t1 s0 s1 s2
                  obtain ⟨q0, q1, r0, r1, r2⟩ := HCL.out U24 HB24.out
                  refine (HMA.out _).mono ?_
                  rintro e Z25 ⟨rfl, hbz⟩
                  have HOz25 : Hid (O3 Z25 w17.heap.size u20 x24 u22 ((Q.take (j + 1)).filter fun y => bhB y.2 sa) ((Q.take (j + 1)).filter fun y => pfB y.2 sb) ((Q.take j).filter fun y => maB y.2 sp)) := HO24.out.below hbz
                  have HBz25 : Hid (Below w17.heap.size w17 Z25) := HB24.out.trans (hbz.mono HB24.out.size)
                  clear HO24 HB24 hbz q0 q1 r0 r1 r2 HMA
                  cases mb
                  · rw [if_neg (by decide), List.append_nil] at HT3
                    have HO26 : Hid (O3 Z25 w17.heap.size u20 x24 u22 ((Q.take (j + 1)).filter fun y => bhB y.2 sa) ((Q.take (j + 1)).filter fun y => pfB y.2 sb) ((Q.take (j + 1)).filter fun y => maB y.2 sp)) := by
                      have h1 := HOz25.out
                      rw [HT3.out]
                      exact h1
                    clear HOz25
                    go_wp2_with fail
                    go_roundw
                    case rel => exact ⟨j + 1, by omega, by first | rfl | go_num | simp, HO26.out, HBz25.out⟩
                    case measure => simp [intOf]; omega
                  · rw [if_pos rfl] at HT3
                    obtain ⟨q0, q1, r0, r1, r2⟩ := HCL.out Z25 HBz25.out
                    have HOa : Hid (O3 (Z25.alloc (.cells #[.int .i64 ei, .string es] 58)) w17.heap.size u20 x24 u22 ((Q.take (j + 1)).filter fun y => bhB y.2 sa) ((Q.take (j + 1)).filter fun y => pfB y.2 sb) ((Q.take j).filter fun y => maB y.2 sp)) := HOz25.out.alloc _
                    have HXa : Hid (IsR (Z25.alloc (.cells #[.int .i64 ei, .string es] 58)) Z25.heap.size 0 [(ei, es)]) := fun j u hu => by
                      have := cells_new2L Z25 (.int .i64 ei) (.string es) 58 j u hu
                      rwa [Addr.add_mid] at this
                    have HBa : Hid (Below w17.heap.size w17 (Z25.alloc (.cells #[.int .i64 ei, .string es] 58))) := HBz25.out.alloc HBz25.out.size _
                    have HLa : Hid ((((Q.take j).filter fun y => maB y.2 sp).length + [((ei, es) : Lk)].length) * 24 ≤ 140737488355328) := by
                      have h1 := List.length_filter_le (fun y : Lk => maB y.2 sp) (Q.take j)
                      have h2 : (Q.take j).length ≤ Q.length := by rw [List.length_take]; omega
                      have h3 := HQL.out
                      show _ ≤ _
                      simp only [List.length_cons, List.length_nil]
                      omega
                    go_wp2_with (first | (refine wpList_append_lks_at (by rfl) _ _ 28 (by rfl) w17.heap.size 58 i0 (.agg #[.int .i64 0, .string ⟨#[]⟩]) Tryz.underlying28 hi0 hz0 hz1 hz2 rfl u22 ((Q.take j).filter fun y => maB y.2 sp) ((Q.take j).filter fun y => maB y.2 sp).length rfl (by rfl) (by exact HOa.out.o3) Z25.heap.size 0 1 1 [(ei, es)] rfl (by rfl) (by exact HXa.out) HLa.out HBa.out.size (fun x27 U27 ho27 hg27 hl27 => ?_); (have HB27 : Hid (Below w17.heap.size w17 U27) := HBa.out.trans ((Below.refl _ _).grown hg27 HBa.out.size (fun b hb => (HOa.out.o3.lt b hb).1))); (obtain ⟨t0, t1, s0, s1, s2⟩ := HCL.out U27 HB27.out); simp only [Act.put, sgPHDiSlicesLaw]) | fail)
                    have HO27 : Hid (O3 U27 w17.heap.size u20 x24 x27 ((Q.take (j + 1)).filter fun y => bhB y.2 sa) ((Q.take (j + 1)).filter fun y => pfB y.2 sb) ((Q.take (j + 1)).filter fun y => maB y.2 sp)) := by
                      have h1 := HOa.out.app3 ho27 hg27 hl27
                      rw [← HT3.out] at h1
                      exact h1
                    clear HOa HXa HBa HLa ho27 hg27 hl27 HOz25 HBz25 q0 q1 r0 r1 r2 t0 t1 s0 s1 s2
                    go_wp2_with fail
                    go_roundw
                    case rel => exact ⟨j + 1, by omega, by first | rfl | go_num | simp, HO27.out, HB27.out⟩
                    case measure => simp [intOf]; omega
              · have hsi : ¬ (sb.size : Int) ≤ (es.size : Int) := by omega
                have HPF : Hid (pfB es sb = false) := by
                  show _ = _
                  unfold pfB
                  rw [decide_eq_false hsz, Bool.false_and]
                rw [HPF.out, if_neg (by decide), List.append_nil] at HT2
                obtain ⟨q0, q1, r0, r1, r2⟩ := HCL.out w19 HB9.out
                go_wp2_with fail
                go_quiet (fail)
                have HOd28 : Hid (O3 (w19.drewN nq) w17.heap.size u20 u21 u22 ((Q.take (j + 1)).filter fun y => bhB y.2 sa) ((Q.take j).filter fun y => pfB y.2 sb) ((Q.take j).filter fun y => maB y.2 sp)) := HO17.out.below ⟨rfl, rfl, rfl, Nat.le_refl _, fun _ _ => rfl⟩
                have HBd28 : Hid (Below w17.heap.size w17 (w19.drewN nq)) := HB9.out.trans ⟨rfl, rfl, rfl, Nat.le_refl _, fun _ _ => rfl⟩
                clear HO17 HB9 q0 q1 r0 r1 r2
                generalize w19.drewN nq = Y28 at *
                have HO29 : Hid (O3 Y28 w17.heap.size u20 u21 u22 ((Q.take (j + 1)).filter fun y => bhB y.2 sa) ((Q.take (j + 1)).filter fun y => pfB y.2 sb) ((Q.take j).filter fun y => maB y.2 sp)) := by
                  have h1 := HOd28.out
                  rw [HT2.out]
                  exact h1
                clear HOd28
                obtain ⟨q0, q1, r0, r1, r2⟩ := HCL.out Y28 HBd28.out
                go_wp2_with fail
                refine (HMA.out _).mono ?_
                rintro e Z30 ⟨rfl, hbz⟩
                have HOz30 : Hid (O3 Z30 w17.heap.size u20 u21 u22 ((Q.take (j + 1)).filter fun y => bhB y.2 sa) ((Q.take (j + 1)).filter fun y => pfB y.2 sb) ((Q.take j).filter fun y => maB y.2 sp)) := HO29.out.below hbz
                have HBz30 : Hid (Below w17.heap.size w17 Z30) := HBd28.out.trans (hbz.mono HBd28.out.size)
                clear HO29 HBd28 hbz q0 q1 r0 r1 r2 HMA
                cases mb
                · rw [if_neg (by decide), List.append_nil] at HT3
                  have HO31 : Hid (O3 Z30 w17.heap.size u20 u21 u22 ((Q.take (j + 1)).filter fun y => bhB y.2 sa) ((Q.take (j + 1)).filter fun y => pfB y.2 sb) ((Q.take (j + 1)).filter fun y => maB y.2 sp)) := by
                    have h1 := HOz30.out
                    rw [HT3.out]
                    exact h1
                  clear HOz30
                  go_wp2_with fail
                  go_roundw
                  case rel => exact ⟨j + 1, by omega, by first | rfl | go_num | simp, HO31.out, HBz30.out⟩
                  case measure => simp [intOf]; omega
                · rw [if_pos rfl] at HT3
                  obtain ⟨q0, q1, r0, r1, r2⟩ := HCL.out Z30 HBz30.out
                  have HOa : Hid (O3 (Z30.alloc (.cells #[.int .i64 ei, .string es] 58)) w17.heap.size u20 u21 u22 ((Q.take (j + 1)).filter fun y => bhB y.2 sa) ((Q.take (j + 1)).filter fun y => pfB y.2 sb) ((Q.take j).filter fun y => maB y.2 sp)) := HOz30.out.alloc _
                  have HXa : Hid (IsR (Z30.alloc (.cells #[.int .i64 ei, .string es] 58)) Z30.heap.size 0 [(ei, es)]) := fun j u hu => by
                    have := cells_new2L Z30 (.int .i64 ei) (.string es) 58 j u hu
                    rwa [Addr.add_mid] at this
                  have HBa : Hid (Below w17.heap.size w17 (Z30.alloc (.cells #[.int .i64 ei, .string es] 58))) := HBz30.out.alloc HBz30.out.size _
                  have HLa : Hid ((((Q.take j).filter fun y => maB y.2 sp).length + [((ei, es) : Lk)].length) * 24 ≤ 140737488355328) := by
                    have h1 := List.length_filter_le (fun y : Lk => maB y.2 sp) (Q.take j)
                    have h2 : (Q.take j).length ≤ Q.length := by rw [List.length_take]; omega
                    have h3 := HQL.out
                    show _ ≤ _
                    simp only [List.length_cons, List.length_nil]
                    omega
                  go_wp2_with (first | (refine wpList_append_lks_at (by rfl) _ _ 28 (by rfl) w17.heap.size 58 i0 (.agg #[.int .i64 0, .string ⟨#[]⟩]) Tryz.underlying28 hi0 hz0 hz1 hz2 rfl u22 ((Q.take j).filter fun y => maB y.2 sp) ((Q.take j).filter fun y => maB y.2 sp).length rfl (by rfl) (by exact HOa.out.o3) Z30.heap.size 0 1 1 [(ei, es)] rfl (by rfl) (by exact HXa.out) HLa.out HBa.out.size (fun x32 U32 ho32 hg32 hl32 => ?_); (have HB32 : Hid (Below w17.heap.size w17 U32) := HBa.out.trans ((Below.refl _ _).grown hg32 HBa.out.size (fun b hb => (HOa.out.o3.lt b hb).1))); (obtain ⟨t0, t1, s0, s1, s2⟩ := HCL.out U32 HB32.out); simp only [Act.put, sgPHDiSlicesLaw]) | fail)
                  have HO32 : Hid (O3 U32 w17.heap.size u20 u21 x32 ((Q.take (j + 1)).filter fun y => bhB y.2 sa) ((Q.take (j + 1)).filter fun y => pfB y.2 sb) ((Q.take (j + 1)).filter fun y => maB y.2 sp)) := by
                    have h1 := HOa.out.app3 ho32 hg32 hl32
                    rw [← HT3.out] at h1
                    exact h1
                  clear HOa HXa HBa HLa ho32 hg32 hl32 HOz30 HBz30 q0 q1 r0 r1 r2 t0 t1 s0 s1 s2
                  go_wp2_with fail
                  go_roundw
                  case rel => exact ⟨j + 1, by omega, by first | rfl | go_num | simp, HO32.out, HB32.out⟩
                  case measure => simp [intOf]; omega
          · have i1 : ¬ (j : Int) < (K d : Int) := by omega
            have hO : O3 wr w17.heap.size u20 u21 u22 (Q.filter fun y => bhB y.2 sa) R2 R3 := by
              have h := HO.out
              rw [List.take_of_length_le (by rw [HQL.out]; omega), ← HQ2.out, ← HQ3.out] at h
              exact h
            have hr2 : R2.length ≤ 16384 := by
              have h1 := List.length_filter_le (fun y : Lk => pfB y.2 sb) Q
              rw [← HQ2.out, HQL.out] at h1
              omega
            have hr3 : R3.length ≤ 16384 := by
              have h1 := List.length_filter_le (fun y : Lk => maB y.2 sp) Q
              rw [← HQ3.out, HQL.out] at h1
              omega
            have hr1 : (Q.filter fun y => bhB y.2 sa).length ≤ 16384 := by
              have h1 := List.length_filter_le (fun y : Lk => bhB y.2 sa) Q
              rw [HQL.out] at h1
              omega
            obtain ⟨d1, f1, e1, k1, _⟩ := own_lkcR hO.o1 rfl
            obtain ⟨d2, f2, e2, k2, _⟩ := own_lkcR hO.o2 rfl
            obtain ⟨d3, f3, e3, k3, _⟩ := own_lkcR hO.o3 rfl
            subst e1 e2 e3
            have hcap := own_cap hO.o1
            have HAA : Hid (∀ V, Below wr.heap.size wr V → Calls Tryz.prog 30 #[.slice bl R2.length bc, .slice d2 R2.length f2] V fun e w' => e = .returned (.bool true) ∧ Below V.heap.size V w') := fun V hV => alike_same bl d2 R2.length bc f2 hr2 _ _ V ((b17.below HB.out).below hV) (k2.below hV)
            have HAB : Hid (∀ V, Below wr.heap.size wr V → Calls Tryz.prog 30 #[.slice cl R3.length cc, .slice d3 R3.length f3] V fun e w' => e = .returned (.bool true) ∧ Below V.heap.size V w') := fun V hV => alike_same cl d3 R3.length cc f3 hr3 _ _ V ((c17.below HB.out).below hV) (k3.below hV)
            have HAC : Hid (∀ m c f, m ≤ (Q.filter fun y => bhB y.2 sa).length → IsLkC wr al m (fun i => ((Q.filter fun y => bhB y.2 sa).getD i (0, ⟨#[]⟩)).1) (fun i => ((Q.filter fun y => bhB y.2 sa).getD i (0, ⟨#[]⟩)).2) → ∀ V, Below wr.heap.size wr V → Calls Tryz.prog 30 #[.slice al m c, .slice d1 m f] V fun e w' => e = .returned (.bool true) ∧ Below V.heap.size V w') := fun m c f hm hl V hV => alike_same al d1 m c f (by omega) _ _ V (hl.below hV) (fun i hi => (k1.below hV) i (by omega))
            have r3 : wr.cell? ⟨w.heap.size, 3, none⟩ = some (.int .i64 sq) := ((p17.below HB.out p17.lt).cell 3).trans rfl
            have HAL : Hid (IsLkC wr al m1 (fun i => (R1.getD i (0, ⟨#[]⟩)).1) (fun i => (R1.getD i (0, ⟨#[]⟩)).2)) := a17.below HB.out
            have HBR : Hid (Below w.heap.size w wr) := HBF.out.trans (HB.out.mono HBF.out.size)
            clear hO k1 k2 k3 HO HB p17 a17 b17 c17 hq17 HQ2 HQ3 HQE HBF
            generalize R2.length = m2 at *
            generalize R3.length = m3 at *
            by_cases hs : sq < 0
            · obtain ⟨h1, h2, h3⟩ : m1 = 0 ∧ mo = false ∧ er = 1 := by
                rcases HPG.out with h | h
                · exact h.2
                · omega
              subst h1 h2 h3
              have HZ0 : Hid (Below wr.heap.size wr wr) := Below.refl _ _
              clear HPG HQ1 HAC HAL
              go_wp2_with fail
              refine (HAA.out _ HZ0.out).mono ?_
              rintro e z1 ⟨rfl, hz1⟩
              have H9 := HAB.out _ (HZ0.out.trans (hz1.mono HZ0.out.size))
              have HZ1 : Hid (Below w.heap.size w z1) := (HBR.out.trans (HZ0.out.mono HBR.out.size)).trans (hz1.mono (Nat.le_trans HBR.out.size HZ0.out.size))
              clear HAA HAB hz1
              go_wp2_with fail
              refine H9.mono ?_
              rintro e z2 ⟨rfl, hz2⟩
              have HZ2 : Hid (Below w.heap.size w z2) := HZ1.out.trans (hz2.mono HZ1.out.size)
              clear H9 hz2 HZ1
              go_wp2_with fail
              go_ret
              exact ⟨rfl, HZ2.out⟩
            · have hge : 0 ≤ sq := by omega
              have eR := HQ1.out hge
              obtain ⟨em, h2, h3⟩ : m1 = min sq.toNat R1.length ∧ mo = decide (sq < (R1.length : Int)) ∧ er = 0 := by
                rcases HPG.out with h | h
                · omega
                · exact ⟨h.2.1, h.2.2.1, h.2.2.2.1⟩
              subst h2 h3
              rw [← eR] at HAC hcap hr1 ⊢
              clear HPG HQ1 eR
              by_cases hlt : sq < (R1.length : Int)
              · have e1 : m1 = sq.toNat := by omega
                obtain ⟨r, rfl⟩ : ∃ r : Nat, sq = (r : Int) := ⟨sq.toNat, by omega⟩
                rw [Int.toNat_natCast] at e1
                subst e1
                have HZA : Hid (∀ V, Below wr.heap.size wr V → Calls Tryz.prog 30 #[.slice al m1 ac, .slice d1 m1 f1] V fun e w' => e = .returned (.bool true) ∧ Below V.heap.size V w') := HAC.out m1 ac f1 (by omega) HAL.out
                clear HAC HAL em
                generalize R1.length = l1 at *
                have hrr : m1 < l1 := by omega
                have hrc : m1 ≤ f1 := by omega
                go_wp2_with fail
                refine (HZA.out _ (Below.refl _ _)).mono ?_
                rintro e z0 ⟨rfl, hz0⟩
                have HZ0 : Hid (Below wr.heap.size wr z0) := hz0
                clear HZA hz0
                go_wp2_with fail
                refine (HAA.out _ HZ0.out).mono ?_
                rintro e z1 ⟨rfl, hz1⟩
                have H9 := HAB.out _ (HZ0.out.trans (hz1.mono HZ0.out.size))
                have HZ1 : Hid (Below w.heap.size w z1) := (HBR.out.trans (HZ0.out.mono HBR.out.size)).trans (hz1.mono (Nat.le_trans HBR.out.size HZ0.out.size))
                clear HAA HAB hz1
                go_wp2_with fail
                refine H9.mono ?_
                rintro e z2 ⟨rfl, hz2⟩
                have HZ2 : Hid (Below w.heap.size w z2) := HZ1.out.trans (hz2.mono HZ1.out.size)
                clear H9 hz2 HZ1
                go_wp2_with fail
                go_ret
                exact ⟨rfl, HZ2.out⟩
              · have e1 : m1 = R1.length := by omega
                have HZA : Hid (∀ V, Below wr.heap.size wr V → Calls Tryz.prog 30 #[.slice al m1 ac, .slice d1 R1.length f1] V fun e w' => e = .returned (.bool true) ∧ Below V.heap.size V w') := by
                  have h := HAC.out m1 ac f1 (by omega) HAL.out
                  rw [← e1]
                  exact h
                clear HAC HAL em
                generalize R1.length = l1 at *
                subst e1
                go_wp2_with fail
                refine (HZA.out _ (Below.refl _ _)).mono ?_
                rintro e z0 ⟨rfl, hz0⟩
                have HZ0 : Hid (Below wr.heap.size wr z0) := hz0
                clear HZA hz0
                go_wp2_with fail
                refine (HAA.out _ HZ0.out).mono ?_
                rintro e z1 ⟨rfl, hz1⟩
                have H9 := HAB.out _ (HZ0.out.trans (hz1.mono HZ0.out.size))
                have HZ1 : Hid (Below w.heap.size w z1) := (HBR.out.trans (HZ0.out.mono HBR.out.size)).trans (hz1.mono (Nat.le_trans HBR.out.size HZ0.out.size))
                clear HAA HAB hz1
                go_wp2_with fail
                refine H9.mono ?_
                rintro e z2 ⟨rfl, hz2⟩
                have HZ2 : Hid (Below w.heap.size w z2) := HZ1.out.trans (hz2.mono HZ1.out.size)
                clear H9 hz2 HZ1
                go_wp2_with fail
                go_ret
                exact ⟨rfl, HZ2.out⟩
      · clear i1
        obtain ⟨H, D, hI, h3, hD⟩ := HG.out.pd.im
        have p1 := HP0.out.1.below HG.out.bl HP0.out.1.lt
        have HDR : Hid (∀ V, Below wr.heap.size wr V → Calls Tryz.prog 57 #[.pointer (some ⟨x, 0, none⟩), .int .i64 nn] V fun e w' => e = .returned (.tuple #[.agg nf0, .int .i64 (refD nn)]) ∧ Below V.heap.size V w') := fun V hV => (hI.below hV).dirRef h3 nn HNN.out hz
        have HBW : Hid (Below w.heap.size w wr) := HP0.out.2.trans (HG.out.bl.mono HP0.out.2.size)
        have HRF := fun V : World => refused_any nn V
        clear HG hI h3 hD
        generalize refD nn = r at *
        have hr : r ≠ 0 := hz
        have HF : Hid (∀ V, Below wr.heap.size wr V → Calls Tryz.prog 24 #[.pointer (some ⟨x, 0, none⟩), .int .i64 nn, .string sa, .int .i64 sq] V fun e w' => e = .returned (.tuple #[.slice none 0 0, .bool false, .int .i64 r]) ∧ Below V.heap.size V w') := fun V hV => page_err sa sq r hr fun U hU => HDR.out U (hV.trans (hU.mono hV.size))
        have HE : Hid (∀ V, Below wr.heap.size wr V → Calls Tryz.prog 25 #[.pointer (some ⟨x, 0, none⟩), .int .i64 nn, .string sb] V fun e w' => e = .returned (.tuple #[.slice none 0 0, .int .i64 r]) ∧ Below V.heap.size V w') := fun V hV => begins_err sb r hr fun U hU => HDR.out U (hV.trans (hU.mono hV.size))
        have HN : Hid (∀ V, Below wr.heap.size wr V → Calls Tryz.prog 26 #[.pointer (some ⟨x, 0, none⟩), .int .i64 nn, .string sp] V fun e w' => e = .returned (.tuple #[.slice none 0 0, .int .i64 r]) ∧ Below V.heap.size V w') := fun V hV => matches_err sp r hr fun U hU => HDR.out U (hV.trans (hU.mono hV.size))
        have HRR : Hid (∀ V : World, Calls Tryz.prog 19 #[.int .i64 nn] V fun e w' => e = .returned (.int .i64 r) ∧ w' = V) := HRF
        clear HDR hz HRF
        have c0 := (p1.cell 0).trans rfl
        have c3 := (p1.cell 3).trans rfl
        have H1 := HF.out wr (Below.refl _ _)
        clear HF
        go_wp2_with fail
        refine H1.mono ?_
        rintro e w10 ⟨rfl, hb10⟩
        have p10 := p1.below hb10 p1.lt
        have c1 := (p10.cell 1).trans rfl
        have H2 := HE.out w10 hb10
        clear HE H1 c0 c3 p1
        go_wp2_with fail
        refine H2.mono ?_
        rintro e w11 ⟨rfl, hb11⟩
        have hb1 := hb10.trans (hb11.mono hb10.size)
        have p11 := p10.below hb11 p10.lt
        have c2 := (p11.cell 2).trans rfl
        have H3 := HN.out _ hb1
        clear c1 H2 hb10 hb11 p10 HN
        go_wp2_with fail
        refine H3.mono ?_
        rintro e w13 ⟨rfl, hb13⟩
        have hb3 := hb1.trans (hb13.mono hb1.size)
        have HBE : Hid (Below w.heap.size w w13) := HBW.out.trans (hb3.mono HBW.out.size)
        clear c2 H3 hb13 hb1 hb3 p11 HBW
        go_wp2_with fail
        refine (HRR.out _).mono ?_
        rintro e w16 ⟨rfl, hw⟩
        subst w16
        clear HRR
        go_wp2_with fail
        go_ret
        exact ⟨rfl, HBE.out⟩
end Go.Proofs.YtojnlmfahgeidaaGreatDoor
