/- The statement SlotPlays, called with whatever cuts and deeds, up to 1048576 of them: it returns true. -/
import Derived.Test.YtdhbjcnbdfidcaaHSlActs
import Derived.Deep.DeepCutAuto
import Derived.Deep.Cut
import Derived.Deep.CutBlock
import Derived.Handy

namespace Go.Proofs.Ytdhbjcnbdfidcaa
open Go Go.RowKit
set_option linter.unusedSimpArgs false
set_option linter.unusedVariables false

theorem few_more (D : Nat → Int × Bool) (i : Nat) (q : QD) (hev : q.ev = 0) : cutMore q (fewL D i) (D i).1 (D i).2 = fewL D (i + 1) := by
  unfold cutMore
  show _ = if 0 ≤ (D i).1 ∧ (fewL D i).length < 64 then fewL D i ++ [D i] else fewL D i
  rw [hev]
  by_cases h : 0 ≤ (D i).1 ∧ (fewL D i).length < 64
  · rw [if_pos h, if_neg (by omega)]
  · rw [if_neg h, if_pos (by omega)]
theorem zero_act6 (w : World) : (zeroValue 46).run Try.prog w = .ok (.agg (va 35 (acF 0 0 0 (Vector.replicate 32 0)))) w := by
  have h : (Try.prog.info? 46).bind (·.zero) = some (.agg (va 35 (acF 0 0 0 (Vector.replicate 32 0)))) := by kernel_rfl
  cases hq : Try.prog.info? 46 with
  | none => simp [hq] at h
  | some i =>
    have hi : i.zero = some (.agg (va 35 (acF 0 0 0 (Vector.replicate 32 0)))) := by simpa [hq] using h
    simp [zeroValue, typeInfo, hq, hi]
theorem sizeAct6 : (Try.prog.info? 46).map (·.size) = some 35 := by kernel_rfl
theorem acF_one (k y : Int) (a : Nat) (d : Vector Nat 32) : (va 35 (acF k y a d)).all (·.oneCell') = true := va_one fun i _ => by
  unfold acF
  split
  · rfl
  · split
    · rfl
    · split <;> rfl
set_option maxRecDepth 100000 in
set_option maxHeartbeats 32000000 in
theorem slotPlaysLaw (a0 : Option Addr) (n0 c0 : Nat) (hn0 : n0 ≤ 1048576) (Dc : Nat → Int × Bool) (a1 : Option Addr) (n1 c1 : Nat) (hn1 : n1 ≤ 1048576) (K Y : Nat → Int) (A : Nat → Nat) (Dg : Nat → Vector Nat 32) (w : World) (hI0 : IsCuts w a0 n0 Dc) (hI1 : IsActs6 w a1 n1 K Y A Dg) :
    Calls Try.prog 3 #[.slice a0 n0 c0, .slice a1 n1 c1] w fun e w' => e = .returned (.bool true) ∧ Below w.heap.size w w' := by
  have hz := zero_rg
  have hza := zero_act6
  have HI0 : Hid (IsCuts w a0 n0 Dc) := hI0
  have HI1 : Hid (IsActs6 w a1 n1 K Y A Dg) := hI1
  have hN : Hid (∀ w : World, Calls Try.prog 5 #[.int .i64 16] w fun e w' => ∃ g q, e = .returned (.tuple #[.pointer (some ⟨g, 0, none⟩), .int .i64 0]) ∧ DiskQ w' w.heap.size g 16 (fun _ => 0) 0 0 q ∧ Quiet q 0 ∧ Below w.heap.size w w') := fun w => diskNew_any 16 (by decide) (by decide) w
  have hR : Hid (∀ (p : Option Addr) (w : World), Calls Try.prog 7 #[.pointer p] w fun e w' => ∃ r m, e = .returned (.pointer (some ⟨r, 0, none⟩)) ∧ RegAt w' w.heap.size r m p (.slice none 0 0) [] ∧ Below w.heap.size w w') := newReg_any
  have hAw : Hid (∀ w : World, Calls Try.prog 6 #[] w fun e w' => e = .returned (.bool true) ∧ Below w.heap.size w w') := awake6_any
  clear hI0 hI1
  go_enter Try.func3, Try.ntmps3
  go_wp2_with fail
  refine (hN.out _).mono ?_
  rintro e w1 ⟨g, q0, rfl, hd1, hq1, hb1⟩
  have HD1 : Hid (DiskQ w1 w.heap.size g 16 (fun _ => 0) 0 0 q0) := hd1
  have HQ1 : Hid (Quiet q0 0) := hq1
  have HE0 : Hid (q0.ev = 0) := by
    have h1 := hq1.ev0
    have h2 := hq1.ev1
    show _ = _
    omega
  clear hd1 hq1
  go_wp2_with fail
  refine (hAw.out _).mono ?_
  rintro e w2 ⟨rfl, hb⟩
  have HD2 : Hid (DiskQ w2 w.heap.size g 16 (fun _ => 0) 0 0 q0) := HD1.out.below hb
  have hb2 : Below w.heap.size w w2 := hb1.trans (hb.mono hb1.size)
  clear hb hb1 HD1
  go_wp2_with fail
  refine (hR.out _ _).mono ?_
  rintro e w3 ⟨r, m, rfl, hr3, hb⟩
  have HRD3 : Hid (RD w3 w.heap.size g 16 (fun _ => 0) 0 0 q0 [] r m (.slice none 0 0) []) := RD.new HD2.out HQ1.out hb2.size hr3 hb
  have hb3 : Below w.heap.size w w3 := hb2.trans (hb.mono hb2.size)
  clear hr3 hb hb2 HD2
  have k0 := Blk.new w3 39 (rgC sl0 (.slice none 0 0))
  have k1 := k0.set (rgC sl0 (.slice none 0 0))
  have hb4 : Below w.heap.size w ((w3.alloc (.cells (rgC sl0 (.slice none 0 0)) 39)).setRow w3.heap.size (rgC sl0 (.slice none 0 0))) := below_setRow (hb3.alloc hb3.size _) hb3.size _
  have HRD4 : Hid (RD ((w3.alloc (.cells (rgC sl0 (.slice none 0 0)) 39)).setRow w3.heap.size (rgC sl0 (.slice none 0 0))) w.heap.size g 16 (fun _ => 0) 0 0 q0 [] r m (.slice none 0 0) []) := HRD3.out.below (below_setRow (below_new1 _ _) (Nat.le_refl _) _)
  have HNE : Hid (¬ rdfoot g 16 q0 r m (.slice none 0 0) w3.heap.size) := HRD3.out.new_ne (Nat.le_refl _)
  have HWB : Hid (w.heap.size ≤ w3.heap.size) := hb3.size
  go_wp2_with (first
    | (refine wpList_store_row (by rfl) 39 _ _ (by rfl) (w3.heap.size) (rgC sl0 (.slice none 0 0)) (by rfl) (by rfl) 39 (_) (by exact k0) (rgSize.trans (by rw [rgC_size])) (by simp only [rgC_size]) (rgC_all _ _ _ _) ?_; simp only [Act.put, List.setIfInBounds_toArray, List.set_cons_zero, List.set_cons_succ])
    | fail)
  clear k0 HRD3 hb3
  generalize ((w3.alloc (.cells (rgC sl0 (.slice none 0 0)) 39)).setRow w3.heap.size (rgC sl0 (.slice none 0 0))) = w4 at *
  generalize w3.heap.size = bm at *
  go_loopw [37] (fun t wr => ∃ i : Nat, i ≤ n0 ∧ t = .int .i64 (i : Int) ∧ ∃ q : QD, RD wr w.heap.size g 16 (fun _ => 0) 0 0 q (fewL Dc i) r m (.slice none 0 0) [] ∧ QuietC q.cu false q 0 ∧ q.ev = 0 ∧ Blk wr bm 39 (rgC sl0 (.slice none 0 0)) ∧ (¬ rdfoot g 16 q r m (.slice none 0 0) bm) ∧ Below w.heap.size w wr) (fun t _ => n0 - (intOf t).toNat)
  case atStart => exact ⟨0, Nat.zero_le _, rfl, q0, HRD4.out, (by rw [HQ1.out.cu]; exact HQ1.out), HE0.out, k1, HNE.out, hb4⟩
  case round =>
    clear HRD4 HQ1 k1 HNE hb4 HE0
    obtain ⟨i, hin, rfl, q, hrd, hq, hev, kb, hne, hb⟩ := hrel
    by_cases hlt : i < n0
    · obtain ⟨b, o, ha, hbl, d0, d1⟩ := (HI0.out.below hb fun b o e => by
        obtain ⟨b', o', e', h', _⟩ := HI0.out i hlt
        rw [e] at e'
        injection e' with e'
        injection e' with e'
        omega) i hlt
      subst ha
      have HRD : Hid (RD wr w.heap.size g 16 (fun _ => 0) 0 0 q (fewL Dc i) r m (.slice none 0 0) []) := hrd
      have HQ : Hid (QuietC q.cu false q 0) := hq
      have HEV : Hid (q.ev = 0) := hev
      have HNE : Hid (¬ rdfoot g 16 q r m (.slice none 0 0) bm) := hne
      have i0 : (0 : Int) ≤ (i : Int) := by omega
      have i1 : (i : Int) < (n0 : Int) := by omega
      clear hrd hq hev hne hbl
      have HRD1 : Hid (RD (wr.alloc (.cells #[.int .i64 (Dc i).1, .bool (Dc i).2] 41)) w.heap.size g 16 (fun _ => 0) 0 0 q (fewL Dc i) r m (.slice none 0 0) []) := HRD.out.below (below_new1 _ _)
      have kb1 : Blk (wr.alloc (.cells #[.int .i64 (Dc i).1, .bool (Dc i).2] 41)) bm 39 (rgC sl0 (.slice none 0 0)) := kb.alloc _
      have hbA : Below w.heap.size w (wr.alloc (.cells #[.int .i64 (Dc i).1, .bool (Dc i).2] 41)) := hb.alloc hb.size _
      clear HRD kb hb
      go_wp2_with fail
      generalize (wr.alloc (.cells #[.int .i64 (Dc i).1, .bool (Dc i).2] 41)) = wc at *
      refine (rdCut (d0 := false) (mm := 0) (fewL_len Dc i) HQ.out (Dc i).1 (Dc i).2 wc hbA.size HRD1.out).mono ?_
      rintro e w5 ⟨rfl, q5, h5, hq5, hev5, hT5, hF5⟩
      rw [few_more Dc i q HEV.out] at h5
      have hnf : ¬ footC g 16 q bm := fun z => by
        rcases z with z | z
        · exact HNE.out (.inl z)
        · exact own_ne HRD1.out.c kb1 (by decide) z
      have k5 : Blk w5 bm 39 (rgC sl0 (.slice none 0 0)) := (hT5.block bm kb1.lt hnf).trans kb1
      have HN5 : Hid (¬ rdfoot g 16 q5 r m (.slice none 0 0) bm) := fun z => by
        rcases z with z | z
        · rcases hF5 bm (.inl z) with u | u
          · exact hnf u
          · have := kb1.lt
            omega
        · exact HNE.out (.inr z)
      have HR5 : Hid (RD w5 w.heap.size g 16 (fun _ => 0) 0 0 q5 (fewL Dc (i + 1)) r m (.slice none 0 0) []) := h5
      have HQ5 : Hid (QuietC q5.cu false q5 0) := hq5
      have HE5 : Hid (q5.ev = 0) := hev5.trans HEV.out
      have hb5 : Below w.heap.size w w5 := hbA.trans (HRD1.out.lowC hbA.size hT5)
      clear h5 hq5 hev5 hT5 hF5 hnf kb1 hbA HRD1 HQ HEV HNE
      go_wp2_with fail
      go_roundw
      case rel => exact ⟨i + 1, hlt, by congr 1, q5, HR5.out, HQ5.out, HE5.out, k5, HN5.out, hb5⟩
      case measure =>
        simp only [intOf]
        omega
    · have hni : i = n0 := by omega
      subst hni
      have HRD : Hid (RD wr w.heap.size g 16 (fun _ => 0) 0 0 q (fewL Dc i) r m (.slice none 0 0) []) := hrd
      have HQ : Hid (QuietC q.cu false q 0) := hq
      have HEV : Hid (q.ev = 0) := hev
      have HNE : Hid (¬ rdfoot g 16 q r m (.slice none 0 0) bm) := hne
      have HIr : Hid (IsCuts wr a0 i Dc) := fun j hj => (HI0.out.below hb fun b o e => by
        obtain ⟨b', o', e', h', _⟩ := HI0.out j hj
        rw [e] at e'
        injection e' with e'
        injection e' with e'
        omega) j hj
      clear hrd hq hev hne
      go_wp2_with fail
      refine (few_any a0 i c0 Dc (by omega) wr HIr.out).mono ?_
      rintro e w6 ⟨acu, ccu, rfl, hcu6, hb6⟩
      obtain ⟨C, hCd⟩ : ∃ C, C = fewL Dc i := ⟨_, rfl⟩
      have HCL : Hid (C.length ≤ 64) := by
        rw [hCd]
        exact fewL_len Dc i
      rw [← hCd] at hcu6 HRD
      have HPS0 : Hid (PS w w6 g r m bm C acu ccu 0 [] q (.slice none 0 0) none 0) := by
        have h6 := HRD.out.below hb6
        have hdd := HQ.out.dd
        refine ⟨⟨_, 0, 0, h6, Nat.le_refl _, Nat.le_refl _⟩, by rw [hdd]; exact HQ.out, Cnt.nil, Nat.le_refl _, kb.below hb6 kb.lt, HNE.out, World.ownsRow_nil _ _ _ _, (fun x hx => by cases hx), kown_mono hcu6 hb.size, fun x hx => HRD.out.new_ne (hcu6.lt x hx).1, HWB.out, hb.trans (hb6.mono hb.size)⟩
      have HEV6 : Hid (q.ev = 0) := HEV.out
      have HDD6 : Hid (q.dd = false) := HQ.out.dd
      rw [← hCd]
      clear hCd hcu6 hb6 kb hb HRD HQ HEV HNE HIr
      go_wp2_with fail
      go_loopw [11, 12, 49] (fun ev dd t wr => ∃ j : Nat, j ≤ n1 ∧ t = .int .i64 (j : Int) ∧ ∃ (L : List Sl) (q : QD) (v : Value) (a2 : Option Addr) (c2 : Nat), ev = .int .i64 q.ev ∧ dd = .bool q.dd ∧ PS w wr g r m bm C acu ccu j L q v a2 c2) (fun _ _ t _ => n1 - (intOf t).toNat)
      case atStart => exact ⟨0, Nat.zero_le _, rfl, [], q, _, none, 0, by rw [HEV6.out], by rw [HDD6.out], HPS0.out⟩
      case round =>
        clear HPS0 HEV6 HDD6
        obtain ⟨j, hjn, rfl, L, qq, v, a2, c2, rfl, rfl, hps⟩ := hrel
        by_cases hjl : j < n1
        · obtain ⟨b, o, ha, hbl, hrg, hkb, hyb, hab⟩ := HI1.out j hjl
          subst ha
          have HRG : Hid (wr.rangeAt b (o + j * 35) ((List.range 35).map (acF (K j) (Y j) (A j) (Dg j)))) := range_below hrg hps.low hbl
          have j0 : (0 : Int) ≤ (j : Int) := by omega
          have j1 : (j : Int) < (n1 : Int) := by omega
          have x0 := Blk.new wr 46 (va 35 (acF 0 0 0 (Vector.replicate 32 0)))
          have x1 := x0.set (va 35 (acF (K j) (Y j) (A j) (Dg j)))
          have HP1 : Hid (PS w ((wr.alloc (.cells (va 35 (acF 0 0 0 (Vector.replicate 32 0))) 46)).setRow wr.heap.size (va 35 (acF (K j) (Y j) (A j) (Dg j)))) g r m bm C acu ccu j L qq v a2 c2) := hps.below (below_setRow (below_new1 _ _) (Nat.le_refl _) _)
          have HXN : Hid (¬ rdfoot g 16 qq r m v wr.heap.size) := by
            obtain ⟨F, k, lg, h1, _, _⟩ := hps.rd
            exact h1.new_ne (Nat.le_refl _)
          have HBX : Hid (bm ≠ wr.heap.size) := Nat.ne_of_lt hps.mb.lt
          have y0 : ((wr.alloc (.cells (va 35 (acF 0 0 0 (Vector.replicate 32 0))) 46)).setRow wr.heap.size (va 35 (acF (K j) (Y j) (A j) (Dg j)))).cell? ⟨wr.heap.size, 0, none⟩ = some (.int .i64 (K j)) := (x1.cell 0).trans (va_at (acF (K j) (Y j) (A j) (Dg j)) (by decide))
          have y1 : ((wr.alloc (.cells (va 35 (acF 0 0 0 (Vector.replicate 32 0))) 46)).setRow wr.heap.size (va 35 (acF (K j) (Y j) (A j) (Dg j)))).cell? ⟨wr.heap.size, 1, none⟩ = some (.int .i64 (Y j)) := (x1.cell 1).trans (va_at (acF (K j) (Y j) (A j) (Dg j)) (by decide))
          have y2 : ((wr.alloc (.cells (va 35 (acF 0 0 0 (Vector.replicate 32 0))) 46)).setRow wr.heap.size (va 35 (acF (K j) (Y j) (A j) (Dg j)))).cell? ⟨wr.heap.size, 2, none⟩ = some (.int .u32 (A j : Int)) := (x1.cell 2).trans (va_at (acF (K j) (Y j) (A j) (Dg j)) (by decide))
          clear hrg hbl hps
          obtain ⟨t0, ht0⟩ : ∃ t0, t0 = Int.tmod (K j) 6 := ⟨_, rfl⟩
          have t1 : -6 < t0 := by
            rw [ht0]
            have := Int.lt_tmod_of_pos (K j) (show (0 : Int) < 6 by decide)
            exact this
          have t2 : t0 < 6 := by
            rw [ht0]
            exact Int.tmod_lt_of_pos (K j) (by decide)
          go_upto_block 4 with (first
            | (refine wpList_load_blk (by rfl) 46 _ (by rfl) (b) (o + j * 35) 35 (acF (K j) (Y j) (A j) (Dg j)) (by rfl) _ (by exact HRG.out) Try.underlying46 rfl sizeAct6 ?_; simp only [Act.put, List.setIfInBounds_toArray, List.set_cons_zero, List.set_cons_succ])
            | (refine wpList_store_row (by rfl) 46 _ _ (by rfl) (wr.heap.size) (va 35 (acF (K j) (Y j) (A j) (Dg j))) (by rfl) (by rfl) 46 _ (by exact x0) (sizeAct6.trans (by rw [va_size])) (by simp only [va_size]) (acF_one _ _ _ _) ?_; simp only [Act.put, List.setIfInBounds_toArray, List.set_cons_zero, List.set_cons_succ])
            | fail)
          clear x0 HRG
          generalize hWX : ((wr.alloc (.cells (va 35 (acF 0 0 0 (Vector.replicate 32 0))) 46)).setRow wr.heap.size (va 35 (acF (K j) (Y j) (A j) (Dg j)))) = wx at *
          clear hWX
          obtain ⟨kd, hkd⟩ : ∃ kd : Int, kd = ((K j).tmod 6 + 6) % 6 := ⟨_, rfl⟩
          have kd0 : 0 ≤ kd := by omega
          have kd6 : kd < 6 := by omega
          rw [← hkd]
          clear hkd ht0 t1 t2 t0 hkb
          go_cut [11, 12] (fun ev dd wy => ∃ (L : List Sl) (q : QD) (v : Value) (a2 : Option Addr) (c2 : Nat), ev = .int .i64 q.ev ∧ dd = .bool q.dd ∧ PS w wy g r m bm C acu ccu (j + 1) L q v a2 c2)
          case first =>
            clear y0
            by_cases hk3 : kd = 3
            · subst hk3
              clear y1 y2 x1
              go_wp2_with fail
              refine (ps_revive wx HP1.out).mono ?_
              rintro e wv ⟨rfl, q3, hp3, hev3, hdd3⟩
              have HP3 : Hid (PS w wv g r m bm C acu ccu (j + 1) L q3 v a2 c2) := hp3
              have HE3 : Hid (q3.ev = qq.ev) := hev3
              have HD3 : Hid (q3.dd = false) := hdd3
              clear hp3 hev3 hdd3
              go_wp2_with fail
              go_meet
              exact ⟨L, q3, v, a2, c2, by rw [HE3.out], by rw [HD3.out], HP3.out⟩
            by_cases hk4 : kd = 4
            · subst hk4
              have z1 : wx.cell? ⟨bm, 0, none⟩ = some (.int .u64 ((lastS L).1 : Int)) := rg_now _ _ HP1.out.mb
              have hlc : ((lastS L).1 : Int) ≤ 1048576 := by
                have h1 := HP1.out.cn.last
                have h2 := HP1.out.len
                omega
              obtain ⟨lc, hlcd⟩ : ∃ lc, lc = (lastS L).1 := ⟨_, rfl⟩
              rw [← hlcd] at z1 hlc
              have HLC : Hid (lc = L.length) := hlcd.trans HP1.out.cn.last
              have HB1 : Hid (Try.prog.built 48 [(0, .int .u32 1)] = some (va 33 (rfF 1 (Vector.replicate 32 0)))) := built_ref1 1
              have HB2 : Hid (Try.prog.built 50 [(0, .int .u64 ((lc : Int) + 1)), (1, .agg (va 33 (rfF 1 (Vector.replicate 32 0))))] = some (slC (lc + 1, 1, Vector.replicate 32 0))) := built_slot (lc + 1) 1 (Vector.replicate 32 0)
              generalize Vector.replicate 32 0 = z32 at *
              clear y1 y2 x1 hlcd
              go_wp2_with (first
                | (refine sl_build1 (by rfl) 48 _ (by rfl) (.int .u32 1) (by rfl) (va 33 (rfF 1 z32)) (by exact HB1.out) ?_; simp only [Act.put, List.setIfInBounds_toArray, List.set_cons_zero, List.set_cons_succ])
                | (refine wpList_build2 (by rfl) 50 _ _ (by rfl) (.int .u64 ((lc : Int) + 1)) (.agg (va 33 (rfF 1 z32))) (by rfl) (by rfl) (slC (lc + 1, 1, z32)) (by exact HB2.out) ?_; simp only [Act.put, List.setIfInBounds_toArray, List.set_cons_zero, List.set_cons_succ])
                | fail)
              refine (ps_was (lc + 1, 1, z32) (by have := HLC.out; show L.length < lc + 1; omega) wx HP1.out).mono ?_
              rintro e wv ⟨rfl, hb⟩
              have HP3 : Hid (PS w wv g r m bm C acu ccu j L qq v a2 c2) := HP1.out.below hb
              clear hb z1
              go_wp2_with fail
              go_meet
              exact ⟨L, qq, v, a2, c2, rfl, rfl, HP3.out.mono (Nat.le_succ _)⟩
            by_cases hk2 : kd = 2
            · subst hk2
              obtain ⟨dd, hdd⟩ : ∃ dd, dd = qq.dd := ⟨_, rfl⟩
              obtain ⟨dv, hdv⟩ : ∃ dv, dv = evD C qq.ev := ⟨_, rfl⟩
              obtain ⟨tv, htv⟩ : ∃ tv, tv = evT C qq.ev := ⟨_, rfl⟩
              have HAT : Hid (Calls Try.prog 10 #[.slice acu C.length ccu, .int .i64 qq.ev] wx fun e W' => e = .returned (.agg #[.bool tv, .bool dv]) ∧ Below wx.heap.size wx W') := by
                rw [htv, hdv]
                exact ps_at HCL.out wx HP1.out
              have HWR : Hid (∀ W : World, PS w W g r m bm C acu ccu j L qq v a2 c2 → Calls Try.prog 14 #[.pointer (some ⟨g, 0, none⟩), .int .i64 3, .agg (va 256 (iv .u8 fun _ => 0))] W fun e W' => e = .returned (.int .i64 (if (dd || dv) = true then 4 else 0)) ∧ ∃ q', PS w W' g r m bm C acu ccu (j + 1) L q' v a2 c2 ∧ q'.ev = (if dd = true then qq.ev else qq.ev + 1) ∧ q'.dd = (dd || dv) ∧ ∀ x t cs, Blk W x t cs → ¬ rdfoot g 16 qq r m v x → Blk W' x t cs) := by
                rw [hdd, hdv]
                exact fun W h => ps_write HCL.out (by omega) W h fun _ => 0
              have ev0 : 0 ≤ qq.ev := HP1.out.qt.ev0
              have ev1 : qq.ev ≤ 1048576 := by
                have := HP1.out.qt.ev1
                omega
              have hzb := zero_bk
              have hzv := zero_ev
              rw [← hdd]
              clear hdd hdv htv y1 y2 x1
              cases dd with
              | true =>
                cases dv with
                | true =>
                  go_wp2_with fail
                  refine HAT.out.mono ?_
                  rintro e wa ⟨rfl, hb⟩
                  have HPb : Hid (PS w (wa.alloc (.cells #[.bool tv, .bool true] 52)) g r m bm C acu ccu j L qq v a2 c2) := (HP1.out.below hb).below (below_new1 _ _)
                  have ke : Blk (wa.alloc (.cells #[.bool tv, .bool true] 52)) wa.heap.size 52 #[.bool tv, .bool true] := Blk.new _ _ _
                  have HNe : Hid (¬ rdfoot g 16 qq r m v wa.heap.size) := by
                    obtain ⟨F, k, lg, h1, _, _⟩ := (HP1.out.below hb).rd
                    exact h1.new_ne (Nat.le_refl _)
                  clear hb
                  go_wp2_with fail
                  generalize (wa.alloc (.cells #[.bool tv, .bool true] 52)) = we at *
                  generalize wa.heap.size = xe at *
                  refine (HWR.out we HPb.out).mono ?_
                  rintro e wv ⟨rfl, q3, hp3, hev3, hdd3, hkp⟩
                  have kv := hkp _ _ _ ke HNe.out
                  have zv : wv.cell? ⟨xe, 1, none⟩ = some (.bool true) := (kv.cell 1).trans rfl
                  have HP3 : Hid (PS w wv g r m bm C acu ccu (j + 1) L q3 v a2 c2) := hp3
                  have HE3 : Hid (q3.ev = qq.ev) := hev3
                  have HD3 : Hid (q3.dd = true) := hdd3
                  clear hp3 hev3 hdd3 hkp ke kv HPb
                  go_wp2_with fail
                  go_meet
                  exact ⟨L, q3, v, a2, c2, by rw [HE3.out], by rw [HD3.out], HP3.out⟩
                | false =>
                  go_wp2_with fail
                  refine HAT.out.mono ?_
                  rintro e wa ⟨rfl, hb⟩
                  have HPb : Hid (PS w (wa.alloc (.cells #[.bool tv, .bool false] 52)) g r m bm C acu ccu j L qq v a2 c2) := (HP1.out.below hb).below (below_new1 _ _)
                  have ke : Blk (wa.alloc (.cells #[.bool tv, .bool false] 52)) wa.heap.size 52 #[.bool tv, .bool false] := Blk.new _ _ _
                  have HNe : Hid (¬ rdfoot g 16 qq r m v wa.heap.size) := by
                    obtain ⟨F, k, lg, h1, _, _⟩ := (HP1.out.below hb).rd
                    exact h1.new_ne (Nat.le_refl _)
                  clear hb
                  go_wp2_with fail
                  generalize (wa.alloc (.cells #[.bool tv, .bool false] 52)) = we at *
                  generalize wa.heap.size = xe at *
                  refine (HWR.out we HPb.out).mono ?_
                  rintro e wv ⟨rfl, q3, hp3, hev3, hdd3, hkp⟩
                  have kv := hkp _ _ _ ke HNe.out
                  have zv : wv.cell? ⟨xe, 1, none⟩ = some (.bool false) := (kv.cell 1).trans rfl
                  have HP3 : Hid (PS w wv g r m bm C acu ccu (j + 1) L q3 v a2 c2) := hp3
                  have HE3 : Hid (q3.ev = qq.ev) := hev3
                  have HD3 : Hid (q3.dd = true) := hdd3
                  clear hp3 hev3 hdd3 hkp ke kv HPb
                  go_wp2_with fail
                  go_meet
                  exact ⟨L, q3, v, a2, c2, by rw [HE3.out], by rw [HD3.out], HP3.out⟩
              | false =>
                cases dv with
                | true =>
                  go_wp2_with fail
                  refine HAT.out.mono ?_
                  rintro e wa ⟨rfl, hb⟩
                  have HPb : Hid (PS w (wa.alloc (.cells #[.bool tv, .bool true] 52)) g r m bm C acu ccu j L qq v a2 c2) := (HP1.out.below hb).below (below_new1 _ _)
                  have ke : Blk (wa.alloc (.cells #[.bool tv, .bool true] 52)) wa.heap.size 52 #[.bool tv, .bool true] := Blk.new _ _ _
                  have HNe : Hid (¬ rdfoot g 16 qq r m v wa.heap.size) := by
                    obtain ⟨F, k, lg, h1, _, _⟩ := (HP1.out.below hb).rd
                    exact h1.new_ne (Nat.le_refl _)
                  clear hb
                  go_wp2_with fail
                  generalize (wa.alloc (.cells #[.bool tv, .bool true] 52)) = we at *
                  generalize wa.heap.size = xe at *
                  refine (HWR.out we HPb.out).mono ?_
                  rintro e wv ⟨rfl, q3, hp3, hev3, hdd3, hkp⟩
                  have kv := hkp _ _ _ ke HNe.out
                  have zv : wv.cell? ⟨xe, 1, none⟩ = some (.bool true) := (kv.cell 1).trans rfl
                  have HP3 : Hid (PS w wv g r m bm C acu ccu (j + 1) L q3 v a2 c2) := hp3
                  have HE3 : Hid (q3.ev = (qq.ev + 1)) := hev3
                  have HD3 : Hid (q3.dd = true) := hdd3
                  clear hp3 hev3 hdd3 hkp ke kv HPb
                  go_wp2_with fail
                  go_meet
                  exact ⟨L, q3, v, a2, c2, by rw [HE3.out], by rw [HD3.out], HP3.out⟩
                | false =>
                  go_wp2_with fail
                  refine HAT.out.mono ?_
                  rintro e wa ⟨rfl, hb⟩
                  have HPb : Hid (PS w (wa.alloc (.cells #[.bool tv, .bool false] 52)) g r m bm C acu ccu j L qq v a2 c2) := (HP1.out.below hb).below (below_new1 _ _)
                  have ke : Blk (wa.alloc (.cells #[.bool tv, .bool false] 52)) wa.heap.size 52 #[.bool tv, .bool false] := Blk.new _ _ _
                  have HNe : Hid (¬ rdfoot g 16 qq r m v wa.heap.size) := by
                    obtain ⟨F, k, lg, h1, _, _⟩ := (HP1.out.below hb).rd
                    exact h1.new_ne (Nat.le_refl _)
                  clear hb
                  go_wp2_with fail
                  generalize (wa.alloc (.cells #[.bool tv, .bool false] 52)) = we at *
                  generalize wa.heap.size = xe at *
                  refine (HWR.out we HPb.out).mono ?_
                  rintro e wv ⟨rfl, q3, hp3, hev3, hdd3, hkp⟩
                  have kv := hkp _ _ _ ke HNe.out
                  have zv : wv.cell? ⟨xe, 1, none⟩ = some (.bool false) := (kv.cell 1).trans rfl
                  have HP3 : Hid (PS w wv g r m bm C acu ccu (j + 1) L q3 v a2 c2) := hp3
                  have HE3 : Hid (q3.ev = (qq.ev + 1)) := hev3
                  have HD3 : Hid (q3.dd = false) := hdd3
                  clear hp3 hev3 hdd3 hkp ke kv HPb
                  go_wp2_with fail
                  go_meet
                  exact ⟨L, q3, v, a2, c2, by rw [HE3.out], by rw [HD3.out], HP3.out⟩
            by_cases hk5 : kd = 5
            · subst hk5
              have hm16 : (A j : Int) % 16 = ((A j % 16 : Nat) : Int) := by omega
              have hmw : IntKind.i64.wrap ((A j : Int) % 16) = (A j : Int) % 16 := by
                rw [IntKind.wrap_i64]
                omega
              have HRD5 : Hid (Calls Try.prog 17 #[.pointer (some ⟨g, 0, none⟩), .int .i64 ((A j : Int) % 16)] wx fun e W' => (∃ f er, e = .returned (.tuple #[.agg (va 256 (iv .u8 f)), .int .i64 er])) ∧ ∃ q', PS w W' g r m bm C acu ccu (j + 1) L q' v a2 c2 ∧ q'.ev = qq.ev ∧ q'.dd = qq.dd) := by
                show Calls _ _ _ _ _
                rw [hm16]
                exact ps_read (A j % 16) (by omega) (by omega) wx HP1.out
              clear y1 x1 hm16
              go_wp2_with fail
              refine HRD5.out.mono ?_
              rintro e wv ⟨⟨f5, er5, rfl⟩, q3, hp3, hev3, hdd3⟩
              have HP3 : Hid (PS w wv g r m bm C acu ccu (j + 1) L q3 v a2 c2) := hp3
              have HE3 : Hid (q3.ev = qq.ev) := hev3
              have HD3 : Hid (q3.dd = qq.dd) := hdd3
              clear hp3 hev3 hdd3 HRD5
              go_wp2_with fail
              go_meet
              exact ⟨L, q3, v, a2, c2, by rw [HE3.out], by rw [HD3.out], HP3.out⟩
            have z1 : wx.cell? ⟨bm, 0, none⟩ = some (.int .u64 ((lastS L).1 : Int)) := rg_now _ _ HP1.out.mb
            obtain ⟨lc, hlcd⟩ : ∃ lc, lc = (lastS L).1 := ⟨_, rfl⟩
            rw [← hlcd] at z1
            have hlc : (lc : Int) ≤ 1048576 := by
              have h1 := HP1.out.cn.last
              have h2 := HP1.out.len
              omega
            clear hlcd
            obtain ⟨ct, hct⟩ : ∃ ct : Nat, IntKind.u64.wrap ((lc : Int) + 1 + IntKind.u64.wrap (Y j)) = (ct : Int) := ⟨(IntKind.u64.wrap ((lc : Int) + 1 + IntKind.u64.wrap (Y j))).toNat, by rw [IntKind.wrap_u64]; omega⟩
            have hct64 : ct < 18446744073709551616 := by
              have : IntKind.u64.wrap ((lc : Int) + 1 + IntKind.u64.wrap (Y j)) < 18446744073709551616 := by
                rw [IntKind.wrap_u64]
                omega
              omega
            obtain ⟨dd, hdd⟩ : ∃ dd, dd = qq.dd := ⟨_, rfl⟩
            obtain ⟨dv, hdv⟩ : ∃ dv, dv = evD C qq.ev := ⟨_, rfl⟩
            obtain ⟨tv, htv⟩ : ∃ tv, tv = evT C qq.ev := ⟨_, rfl⟩
            obtain ⟨fr, came, L', hw1, hw2⟩ := ps_slot2 HCL.out (by omega) (ct, A j, Dg j) hct64 wx HP1.out
            rw [← hdd, ← hdv, ← htv] at hw1
            rw [← hdd, ← hdv] at hw2
            have HW1 : Hid (∀ W', PS w W' g r m bm C acu ccu j L qq v a2 c2 → Calls Try.prog 11 #[.agg (rgC (lastS L) (.slice a2 L.length c2)), .agg (slC (ct, A j, Dg j)), .bool dd, .agg #[.bool tv, .bool dv]] W' fun e W'' => ∃ a3 c3, e = .returned (.tuple #[.agg (rgC (lastS L') (.slice a3 L'.length c3)), .bool came, .int .i64 fr]) ∧ NewOwn w W'' g r m qq v L' a3 c3 ∧ Below W'.heap.size W' W'') := hw1
            have HW2 : Hid (∀ W' a3 c3, PS w W' g r m bm C acu ccu j L qq v a2 c2 → NewOwn w W' g r m qq v L' a3 c3 → Calls Try.prog 13 #[.pointer (some ⟨r, 0, none⟩), .agg (slC (ct, A j, Dg j))] W' fun e W'' => e = .returned (.int .i64 fr) ∧ ∃ q' v', PS w (W''.setRow bm (rgC (lastS L') (.slice a3 L'.length c3))) g r m bm C acu ccu (j + 1) L' q' v' a3 c3 ∧ q'.ev = (if came = true then qq.ev + 1 else qq.ev) ∧ q'.dd = (if came = true then dv else dd) ∧ (∀ x t cs, Blk W' x t cs → ¬ rdfoot g 16 qq r m v x → Blk W'' x t cs)) := hw2
            clear hw1 hw2
            have HAT : Hid (∀ W, PS w W g r m bm C acu ccu j L qq v a2 c2 → Calls Try.prog 10 #[.slice acu C.length ccu, .int .i64 qq.ev] W fun e W' => e = .returned (.agg #[.bool tv, .bool dv]) ∧ Below W.heap.size W W') := by
              show ∀ W, _
              rw [htv, hdv]
              exact fun W h => ps_at HCL.out W h
            have HR3 : Hid (wx.rangeAt wr.heap.size 3 ((List.range 32).map (iv .u8 (dF (Dg j))))) := by
              have h := x1.range 3 32 (by decide)
              have e : (fun i => acF (K j) (Y j) (A j) (Dg j) (3 + i)) = iv .u8 (dF (Dg j)) := by
                funext i
                unfold acF iv
                rw [if_neg (by omega), if_neg (by omega), if_neg (by omega), show 3 + i - 3 = i by omega]
              rw [e] at h
              exact h
            have HB1 : Hid (Try.prog.built 48 [(0, .int .u32 (A j : Int)), (1, .agg (va 32 (iv .u8 (dF (Dg j)))))] = some (va 33 (rfF (A j) (Dg j)))) := built_refD _ _
            have HB2 : Hid (Try.prog.built 50 [(0, .int .u64 (IntKind.u64.wrap ((lc : Int) + 1 + IntKind.u64.wrap (Y j)))), (1, .agg (va 33 (rfF (A j) (Dg j))))] = some (slC (ct, A j, Dg j))) := by
              show _ = _
              rw [hct]
              exact built_slot _ _ _
            have ev0 : 0 ≤ qq.ev := HP1.out.qt.ev0
            have ev1 : qq.ev ≤ 1048576 := by
              have := HP1.out.qt.ev1
              omega
            rw [← hdd]
            clear hdd hdv htv hct hct64
            obtain hk01 | hk01 : kd = 0 ∨ kd = 1 := by omega
            · subst hk01
              have hzs := zero_slot
              have hzg := zero_rg
              have hzv := zero_ev
              have s0 := Blk.new wx 50 (slC sl0)
              have s1 := s0.set (slC (ct, A j, Dg j))
              have HPs : Hid (PS w ((wx.alloc (.cells (slC sl0) 50)).setRow wx.heap.size (slC (ct, A j, Dg j))) g r m bm C acu ccu j L qq v a2 c2) := HP1.out.below (below_setRow (below_new1 _ _) (Nat.le_refl _) _)
              have HXs : Hid (¬ rdfoot g 16 qq r m v wx.heap.size) := by
                obtain ⟨F, k, lg, h1, _, _⟩ := HP1.out.rd
                exact h1.new_ne (Nat.le_refl _)
              go_wp2_with (first
                | (refine wpList_load_blk (by rfl) 44 _ (by rfl) (wr.heap.size) 3 32 (iv .u8 (dF (Dg j))) (by rfl) _ (by exact HR3.out) Try.underlying44 rfl sizeSm ?_; simp only [Act.put, List.setIfInBounds_toArray, List.set_cons_zero, List.set_cons_succ])
                | (refine wpList_build2 (by rfl) 48 _ _ (by rfl) (.int .u32 (A j : Int)) (.agg (va 32 (iv .u8 (dF (Dg j))))) (by rfl) (by rfl) (va 33 (rfF (A j) (Dg j))) (by exact HB1.out) ?_; simp only [Act.put, List.setIfInBounds_toArray, List.set_cons_zero, List.set_cons_succ])
                | (refine wpList_build2 (by rfl) 50 _ _ (by rfl) (.int .u64 (IntKind.u64.wrap ((lc : Int) + 1 + IntKind.u64.wrap (Y j)))) (.agg (va 33 (rfF (A j) (Dg j)))) (by rfl) (by rfl) ((slC (ct, A j, Dg j))) (by exact HB2.out) ?_; simp only [Act.put, List.setIfInBounds_toArray, List.set_cons_zero, List.set_cons_succ])
                | (refine wpList_store_row (by rfl) 50 _ _ (by rfl) (wx.heap.size) ((slC (ct, A j, Dg j))) (by rfl) (by rfl) 50 (_) (by exact s0) (sizeSlot.trans (by rw [slC_size])) (by simp only [slC_size]) (slC_all _) ?_; simp only [Act.put, List.setIfInBounds_toArray, List.set_cons_zero, List.set_cons_succ])
                | fail)
              clear s0 HP1 x1 HR3 HB1 HB2
              generalize ((wx.alloc (.cells (slC sl0) 50)).setRow wx.heap.size (slC (ct, A j, Dg j))) = ws at *
              generalize wx.heap.size = xs at *
              refine (HAT.out ws HPs.out).mono ?_
              rintro e wa ⟨rfl, hb⟩
              have HPE : Hid (PS w (wa.alloc (.cells #[.bool tv, .bool dv] 52)) g r m bm C acu ccu j L qq v a2 c2) := (HPs.out.below hb).below (below_new1 _ _)
              have ke : Blk (wa.alloc (.cells #[.bool tv, .bool dv] 52)) wa.heap.size 52 #[.bool tv, .bool dv] := Blk.new _ _ _
              have HNe : Hid (¬ rdfoot g 16 qq r m v wa.heap.size) := by
                obtain ⟨F, k, lg, h1, _, _⟩ := (HPs.out.below hb).rd
                exact h1.new_ne (Nat.le_refl _)
              have s3 : Blk (wa.alloc (.cells #[.bool tv, .bool dv] 52)) xs 50 (slC (ct, A j, Dg j)) := (s1.below hb s1.lt).alloc _
              clear hb s1 HPs
              go_wp2_with fail
              generalize (wa.alloc (.cells #[.bool tv, .bool dv] 52)) = we at *
              generalize wa.heap.size = xe at *
              go_cut [17, 18, 19] (fun v17 v18 v19 wy => v18 = .bool came ∧ v19 = .int .i64 fr ∧ ∃ xk a3 c3, v17 = .pointer (some ⟨xk, 0, none⟩) ∧ we.heap.size ≤ xk ∧ Blk wy xk 39 (rgC (lastS L') (.slice a3 L'.length c3)) ∧ NewOwn w wy g r m qq v L' a3 c3 ∧ Below we.heap.size we wy)
              case first =>
                have hwd : Below we.heap.size we we.drew := (Below.refl _ _).drew
                refine wp_region_plan (fun W => Below we.heap.size we W) (.yield [3] 0 (.yield [] 1 (.yield [] 4 (.fork 2 10 (.fork 5 10 (.force [6, 7, 8, 9] 10 (.force [] 11 (.fin [12, 13]))) (.force [] 5 (.yield [6, 7, 8] 9 (.force [] 11 (.fin [12, 13]))))) (.force [] 2 (.force [] 5 (.yield [6, 7, 8] 9 (.force [] 11 (.fin [12, 13]))))))))) (by kernel_rfl) (by kernel_rfl) hwd (plan_yield ?_)
                generalize we.drew = wd at *
                simp only [List.cons_append, List.nil_append, List.append_nil, List.filterMap_cons, List.filterMap_nil, List.getElem?_toArray, List.getElem?_cons_zero, List.getElem?_cons_succ]
                go_wp2_with fail
                refine ⟨rfl, _, .agg (rgC (lastS L) (.slice a2 L.length c2)), rfl, kyields_load (by rfl) 39 _ (by rfl) bm 35 (rgF (lastS L) (.slice a2 L.length c2)) (by rfl) _ 39 (fun W hW => HPE.out.mb.below hW HPE.out.mb.lt) Try.underlying39 rfl rgSize, plan_yield ?_⟩
                simp only [Act.put, List.setIfInBounds_toArray, List.set_cons_zero, List.set_cons_succ]
                simp only [List.cons_append, List.nil_append, List.append_nil, List.filterMap_cons, List.filterMap_nil, List.getElem?_toArray, List.getElem?_cons_zero, List.getElem?_cons_succ]
                go_wp2_with fail
                refine ⟨rfl, _, .agg (slC (ct, A j, Dg j)), rfl, kyields_load (by rfl) 50 _ (by rfl) xs 34 (slF (ct, A j, Dg j)) (by rfl) _ 50 (fun W hW => s3.below hW s3.lt) Try.underlying50 rfl sizeSlot, plan_yield ?_⟩
                simp only [Act.put, List.setIfInBounds_toArray, List.set_cons_zero, List.set_cons_succ]
                simp only [List.cons_append, List.nil_append, List.append_nil, List.filterMap_cons, List.filterMap_nil, List.getElem?_toArray, List.getElem?_cons_zero, List.getElem?_cons_succ]
                go_wp2_with fail
                refine ⟨rfl, _, .agg #[.bool tv, .bool dv], rfl, Or.inl ⟨by rfl, fun W hW => by have e0 : W.cell? ⟨xe, 0, none⟩ = some (.bool tv) := ((ke.below hW ke.lt).cell 0).trans rfl; have e1 : W.cell? ⟨xe, 1, none⟩ = some (.bool dv) := ((ke.below hW ke.lt).cell 1).trans rfl; go_simp⟩, plan_fork ?_ ?_⟩
                simp only [Act.put, List.setIfInBounds_toArray, List.set_cons_zero, List.set_cons_succ]
                · simp only [List.cons_append, List.nil_append, List.append_nil, List.filterMap_cons, List.filterMap_nil, List.getElem?_toArray, List.getElem?_cons_zero, List.getElem?_cons_succ]
                  go_wp2_with fail
                  refine (given_any (ct, A j, Dg j) wd).mono ?_
                  rintro e w2 ⟨rfl, hbw2⟩
                  have hb2 : Below we.heap.size we w2 := hwd.trans (hbw2.mono hwd.size)
                  go_wp2_with fail
                  refine ⟨rfl, hb2, plan_fork ?_ ?_⟩
                  · simp only [List.cons_append, List.nil_append, List.append_nil, List.filterMap_cons, List.filterMap_nil, List.getElem?_toArray, List.getElem?_cons_zero, List.getElem?_cons_succ]
                    go_wp2_with fail
                    refine (HW1.out w2 (HPE.out.below hb2)).mono ?_
                    rintro e w3 ⟨a3, c3, rfl, how3, hbw3⟩
                    have hb3 : Below we.heap.size we w3 := hb2.trans (hbw3.mono hb2.size)
                    go_wp2_with fail
                    refine ⟨rfl, hb3, plan_force ?_⟩
                    simp only [List.cons_append, List.nil_append, List.append_nil, List.filterMap_cons, List.filterMap_nil, List.getElem?_toArray, List.getElem?_cons_zero, List.getElem?_cons_succ]
                    have q0 := Blk.new w3 39 (rgC sl0 (.slice none 0 0))
                    go_wp2_with fail
                    refine ⟨rfl, hb3.alloc hb3.size _, plan_force ?_⟩
                    simp only [List.cons_append, List.nil_append, List.append_nil, List.filterMap_cons, List.filterMap_nil, List.getElem?_toArray, List.getElem?_cons_zero, List.getElem?_cons_succ]
                    refine wpList_store_row (by rfl) 39 _ _ (by rfl) (w3.heap.size) (rgC (lastS L') (.slice a3 L'.length c3)) (by rfl) (by rfl) 39 (rgC sl0 (.slice none 0 0)) q0 (rgSize.trans (by rw [rgC_size])) (by simp only [rgC_size]) (rgC_all _ _ _ _) ?_
                    simp only [Act.put, List.setIfInBounds_toArray, List.set_cons_zero, List.set_cons_succ]
                    go_wp2_with fail
                    refine ⟨rfl, below_setRow (hb3.alloc hb3.size _) hb3.size _, plan_fin ?_⟩
                    simp only [List.cons_append, List.nil_append, List.append_nil, List.filterMap_cons, List.filterMap_nil, List.getElem?_toArray, List.getElem?_cons_zero, List.getElem?_cons_succ]
                    go_wp2_with fail
                    refine ⟨rfl, ?_⟩
                    go_wp2_with fail
                    go_meet
                    exact ⟨rfl, rfl, w3.heap.size, a3, c3, rfl, hb3.size, q0.set _, how3.below (below_setRow (below_new1 _ _) (Nat.le_refl _) _), below_setRow (hb3.alloc hb3.size _) hb3.size _⟩
                  · simp only [List.cons_append, List.nil_append, List.append_nil, List.filterMap_cons, List.filterMap_nil, List.getElem?_toArray, List.getElem?_cons_zero, List.getElem?_cons_succ]
                    have q0 := Blk.new w2 39 (rgC sl0 (.slice none 0 0))
                    have hb3 : Below we.heap.size we (w2.alloc (.cells (rgC sl0 (.slice none 0 0)) 39)) := hb2.alloc hb2.size _
                    go_wp2_with fail
                    refine ⟨rfl, hb3, plan_force ?_⟩
                    simp only [List.cons_append, List.nil_append, List.append_nil, List.filterMap_cons, List.filterMap_nil, List.getElem?_toArray, List.getElem?_cons_zero, List.getElem?_cons_succ]
                    go_wp2_with fail
                    refine (HW1.out _ (HPE.out.below hb3)).mono ?_
                    rintro e w4 ⟨a3, c3, rfl, how4, hbw4⟩
                    have hb4 : Below we.heap.size we w4 := hb3.trans (hbw4.mono hb3.size)
                    have q4 := q0.below hbw4 q0.lt
                    go_wp2_with fail
                    refine ⟨rfl, hb4, plan_yield ?_⟩
                    simp only [List.cons_append, List.nil_append, List.append_nil, List.filterMap_cons, List.filterMap_nil, List.getElem?_toArray, List.getElem?_cons_zero, List.getElem?_cons_succ]
                    go_wp2_with fail
                    refine ⟨rfl, _, .int .i64 fr, rfl, Or.inl ⟨by rfl, fun W hW => by go_simp⟩, plan_force ?_⟩
                    simp only [Act.put, List.setIfInBounds_toArray, List.set_cons_zero, List.set_cons_succ]
                    simp only [List.cons_append, List.nil_append, List.append_nil, List.filterMap_cons, List.filterMap_nil, List.getElem?_toArray, List.getElem?_cons_zero, List.getElem?_cons_succ]
                    refine wpList_store_row (by rfl) 39 _ _ (by rfl) (w2.heap.size) (rgC (lastS L') (.slice a3 L'.length c3)) (by rfl) (by rfl) 39 (rgC sl0 (.slice none 0 0)) q4 (rgSize.trans (by rw [rgC_size])) (by simp only [rgC_size]) (rgC_all _ _ _ _) ?_
                    simp only [Act.put, List.setIfInBounds_toArray, List.set_cons_zero, List.set_cons_succ]
                    go_wp2_with fail
                    refine ⟨rfl, below_setRow hb4 hb2.size _, plan_fin ?_⟩
                    simp only [List.cons_append, List.nil_append, List.append_nil, List.filterMap_cons, List.filterMap_nil, List.getElem?_toArray, List.getElem?_cons_zero, List.getElem?_cons_succ]
                    go_wp2_with fail
                    refine ⟨rfl, ?_⟩
                    go_wp2_with fail
                    go_meet
                    exact ⟨rfl, rfl, w2.heap.size, a3, c3, rfl, hb2.size, q4.set _, how4.setOther q4 _, below_setRow hb4 hb2.size _⟩
                · simp only [List.cons_append, List.nil_append, List.append_nil, List.filterMap_cons, List.filterMap_nil, List.getElem?_toArray, List.getElem?_cons_zero, List.getElem?_cons_succ]
                  have q0 := Blk.new wd 39 (rgC sl0 (.slice none 0 0))
                  have hb2 : Below we.heap.size we (wd.alloc (.cells (rgC sl0 (.slice none 0 0)) 39)) := hwd.alloc hwd.size _
                  go_wp2_with fail
                  refine ⟨rfl, hb2, plan_force ?_⟩
                  simp only [List.cons_append, List.nil_append, List.append_nil, List.filterMap_cons, List.filterMap_nil, List.getElem?_toArray, List.getElem?_cons_zero, List.getElem?_cons_succ]
                  go_wp2_with fail
                  refine (given_any (ct, A j, Dg j) _).mono ?_
                  rintro e w3 ⟨rfl, hbw3⟩
                  have hb3 : Below we.heap.size we w3 := hb2.trans (hbw3.mono hb2.size)
                  have q3 := q0.below hbw3 q0.lt
                  go_wp2_with fail
                  refine ⟨rfl, hb3, plan_force ?_⟩
                  simp only [List.cons_append, List.nil_append, List.append_nil, List.filterMap_cons, List.filterMap_nil, List.getElem?_toArray, List.getElem?_cons_zero, List.getElem?_cons_succ]
                  go_wp2_with fail
                  refine (HW1.out _ (HPE.out.below hb3)).mono ?_
                  rintro e w4 ⟨a3, c3, rfl, how4, hbw4⟩
                  have hb4 : Below we.heap.size we w4 := hb3.trans (hbw4.mono hb3.size)
                  have q4 := q3.below hbw4 q3.lt
                  go_wp2_with fail
                  refine ⟨rfl, hb4, plan_yield ?_⟩
                  simp only [List.cons_append, List.nil_append, List.append_nil, List.filterMap_cons, List.filterMap_nil, List.getElem?_toArray, List.getElem?_cons_zero, List.getElem?_cons_succ]
                  go_wp2_with fail
                  refine ⟨rfl, _, .int .i64 fr, rfl, Or.inl ⟨by rfl, fun W hW => by go_simp⟩, plan_force ?_⟩
                  simp only [Act.put, List.setIfInBounds_toArray, List.set_cons_zero, List.set_cons_succ]
                  simp only [List.cons_append, List.nil_append, List.append_nil, List.filterMap_cons, List.filterMap_nil, List.getElem?_toArray, List.getElem?_cons_zero, List.getElem?_cons_succ]
                  refine wpList_store_row (by rfl) 39 _ _ (by rfl) (wd.heap.size) (rgC (lastS L') (.slice a3 L'.length c3)) (by rfl) (by rfl) 39 (rgC sl0 (.slice none 0 0)) q4 (rgSize.trans (by rw [rgC_size])) (by simp only [rgC_size]) (rgC_all _ _ _ _) ?_
                  simp only [Act.put, List.setIfInBounds_toArray, List.set_cons_zero, List.set_cons_succ]
                  go_wp2_with fail
                  refine ⟨rfl, below_setRow hb4 hwd.size _, plan_fin ?_⟩
                  simp only [List.cons_append, List.nil_append, List.append_nil, List.filterMap_cons, List.filterMap_nil, List.getElem?_toArray, List.getElem?_cons_zero, List.getElem?_cons_succ]
                  go_wp2_with fail
                  refine ⟨rfl, ?_⟩
                  go_wp2_with fail
                  go_meet
                  exact ⟨rfl, rfl, wd.heap.size, a3, c3, rfl, hwd.size, q4.set _, how4.setOther q4 _, below_setRow hb4 hwd.size _⟩
              case rest =>
                obtain ⟨rfl, rfl, xk, a3, c3, rfl, hxk, kk, ho, hbe⟩ := hcut
                rename World => wy
                have HPY : Hid (PS w wy g r m bm C acu ccu j L qq v a2 c2) := HPE.out.below hbe
                have ke1 := ke.below hbe ke.lt
                have s4 := s3.below hbe s3.lt
                have HOY : Hid (NewOwn w wy g r m qq v L' a3 c3) := ho
                have HNk : Hid (¬ rdfoot g 16 qq r m v xk) := by
                  obtain ⟨F, k, lg, h1, _, _⟩ := HPE.out.rd
                  exact h1.new_ne hxk
                clear ke s3 ho hbe hxk HPE
                go_wp2_with (first
                  | (refine wpList_load_rowg (by rfl) 50 _ (by rfl) (xs) (by rfl) 50 ((slC (ct, A j, Dg j))) (0, 0) _ (by exact s4) Try.underlying50 (by rfl) (sizeSlot.trans (by rw [slC_size])) ?_; simp only [Act.put, List.setIfInBounds_toArray, List.set_cons_zero, List.set_cons_succ])
                  | fail)
                refine (HW2.out wy a3 c3 HPY.out HOY.out).mono ?_
                rintro e wv ⟨rfl, q3, v3, hp3, hev3, hdd3, hkp⟩
                have kk1 := hkp _ _ _ kk HNk.out
                have kb1 := hkp _ _ _ HPY.out.mb HPY.out.nbm
                have kv := hkp _ _ _ ke1 HNe.out
                have zv : wv.cell? ⟨xe, 1, none⟩ = some (.bool dv) := (kv.cell 1).trans rfl
                have HP3 : Hid (PS w (wv.setRow bm (rgC (lastS L') (.slice a3 L'.length c3))) g r m bm C acu ccu (j + 1) L' q3 v3 a3 c3) := hp3
                clear hp3 hkp HPY HOY kk ke1 s4 kv
                cases came with
                | true =>
                  have HE3 : Hid (q3.ev = qq.ev + 1) := by
                    show _ = _
                    simpa using hev3
                  have HD3 : Hid (q3.dd = dv) := by
                    show _ = _
                    simpa using hdd3
                  clear hev3 hdd3
                  go_wp2_with (first
                    | (refine wpList_load_rowg (by rfl) 39 _ (by rfl) (xk) (by rfl) 39 (rgC (lastS L') (.slice a3 L'.length c3)) (0, 0) _ (by exact kk1) Try.underlying39 (by rfl) (rgSize.trans (by rw [rgC_size])) ?_; simp only [Act.put, List.setIfInBounds_toArray, List.set_cons_zero, List.set_cons_succ])
                    | (refine wpList_store_row (by rfl) 39 _ _ (by rfl) (bm) (rgC (lastS L') (.slice a3 L'.length c3)) (by rfl) (by rfl) 39 (_) (by exact kb1) (rgSize.trans (by rw [rgC_size])) (by simp only [rgC_size]) (rgC_all _ _ _ _) ?_; simp only [Act.put, List.setIfInBounds_toArray, List.set_cons_zero, List.set_cons_succ])
                    | fail)
                  go_meet
                  exact ⟨L', q3, v3, a3, c3, by rw [HE3.out], by rw [HD3.out], HP3.out⟩
                | false =>
                  have HE3 : Hid (q3.ev = qq.ev) := by
                    show _ = _
                    simpa using hev3
                  have HD3 : Hid (q3.dd = dd) := by
                    show _ = _
                    simpa using hdd3
                  clear hev3 hdd3
                  go_wp2_with (first
                    | (refine wpList_load_rowg (by rfl) 39 _ (by rfl) (xk) (by rfl) 39 (rgC (lastS L') (.slice a3 L'.length c3)) (0, 0) _ (by exact kk1) Try.underlying39 (by rfl) (rgSize.trans (by rw [rgC_size])) ?_; simp only [Act.put, List.setIfInBounds_toArray, List.set_cons_zero, List.set_cons_succ])
                    | (refine wpList_store_row (by rfl) 39 _ _ (by rfl) (bm) (rgC (lastS L') (.slice a3 L'.length c3)) (by rfl) (by rfl) 39 (_) (by exact kb1) (rgSize.trans (by rw [rgC_size])) (by simp only [rgC_size]) (rgC_all _ _ _ _) ?_; simp only [Act.put, List.setIfInBounds_toArray, List.set_cons_zero, List.set_cons_succ])
                    | fail)
                  go_meet
                  exact ⟨L', q3, v3, a3, c3, by rw [HE3.out], by rw [HD3.out], HP3.out⟩
            · subst hk01
              have hzs := zero_slot
              have hzg := zero_rg
              have hzv := zero_ev
              have s0 := Blk.new wx 50 (slC sl0)
              have s1 := s0.set (slC (ct, A j, Dg j))
              have HPs : Hid (PS w ((wx.alloc (.cells (slC sl0) 50)).setRow wx.heap.size (slC (ct, A j, Dg j))) g r m bm C acu ccu j L qq v a2 c2) := HP1.out.below (below_setRow (below_new1 _ _) (Nat.le_refl _) _)
              have HXs : Hid (¬ rdfoot g 16 qq r m v wx.heap.size) := by
                obtain ⟨F, k, lg, h1, _, _⟩ := HP1.out.rd
                exact h1.new_ne (Nat.le_refl _)
              go_wp2_with (first
                | (refine wpList_load_blk (by rfl) 44 _ (by rfl) (wr.heap.size) 3 32 (iv .u8 (dF (Dg j))) (by rfl) _ (by exact HR3.out) Try.underlying44 rfl sizeSm ?_; simp only [Act.put, List.setIfInBounds_toArray, List.set_cons_zero, List.set_cons_succ])
                | (refine wpList_build2 (by rfl) 48 _ _ (by rfl) (.int .u32 (A j : Int)) (.agg (va 32 (iv .u8 (dF (Dg j))))) (by rfl) (by rfl) (va 33 (rfF (A j) (Dg j))) (by exact HB1.out) ?_; simp only [Act.put, List.setIfInBounds_toArray, List.set_cons_zero, List.set_cons_succ])
                | (refine wpList_build2 (by rfl) 50 _ _ (by rfl) (.int .u64 (IntKind.u64.wrap ((lc : Int) + 1 + IntKind.u64.wrap (Y j)))) (.agg (va 33 (rfF (A j) (Dg j)))) (by rfl) (by rfl) ((slC (ct, A j, Dg j))) (by exact HB2.out) ?_; simp only [Act.put, List.setIfInBounds_toArray, List.set_cons_zero, List.set_cons_succ])
                | (refine wpList_store_row (by rfl) 50 _ _ (by rfl) (wx.heap.size) ((slC (ct, A j, Dg j))) (by rfl) (by rfl) 50 (_) (by exact s0) (sizeSlot.trans (by rw [slC_size])) (by simp only [slC_size]) (slC_all _) ?_; simp only [Act.put, List.setIfInBounds_toArray, List.set_cons_zero, List.set_cons_succ])
                | fail)
              clear s0 HP1 x1 HR3 HB1 HB2
              generalize ((wx.alloc (.cells (slC sl0) 50)).setRow wx.heap.size (slC (ct, A j, Dg j))) = ws at *
              generalize wx.heap.size = xs at *
              refine (HAT.out ws HPs.out).mono ?_
              rintro e wa ⟨rfl, hb⟩
              have HPE : Hid (PS w (wa.alloc (.cells #[.bool tv, .bool dv] 52)) g r m bm C acu ccu j L qq v a2 c2) := (HPs.out.below hb).below (below_new1 _ _)
              have ke : Blk (wa.alloc (.cells #[.bool tv, .bool dv] 52)) wa.heap.size 52 #[.bool tv, .bool dv] := Blk.new _ _ _
              have HNe : Hid (¬ rdfoot g 16 qq r m v wa.heap.size) := by
                obtain ⟨F, k, lg, h1, _, _⟩ := (HPs.out.below hb).rd
                exact h1.new_ne (Nat.le_refl _)
              have s3 : Blk (wa.alloc (.cells #[.bool tv, .bool dv] 52)) xs 50 (slC (ct, A j, Dg j)) := (s1.below hb s1.lt).alloc _
              clear hb s1 HPs
              go_wp2_with fail
              generalize (wa.alloc (.cells #[.bool tv, .bool dv] 52)) = we at *
              generalize wa.heap.size = xe at *
              go_cut [17, 18, 19] (fun v17 v18 v19 wy => v18 = .bool came ∧ v19 = .int .i64 fr ∧ ∃ xk a3 c3, v17 = .pointer (some ⟨xk, 0, none⟩) ∧ we.heap.size ≤ xk ∧ Blk wy xk 39 (rgC (lastS L') (.slice a3 L'.length c3)) ∧ NewOwn w wy g r m qq v L' a3 c3 ∧ Below we.heap.size we wy)
              case first =>
                have hwd : Below we.heap.size we we.drew := (Below.refl _ _).drew
                refine wp_region_plan (fun W => Below we.heap.size we W) (.yield [3] 0 (.yield [] 1 (.yield [] 4 (.fork 2 10 (.fork 5 10 (.force [6, 7, 8, 9] 10 (.force [] 11 (.fin [12, 13]))) (.force [] 5 (.yield [6, 7, 8] 9 (.force [] 11 (.fin [12, 13]))))) (.force [] 2 (.force [] 5 (.yield [6, 7, 8] 9 (.force [] 11 (.fin [12, 13]))))))))) (by kernel_rfl) (by kernel_rfl) hwd (plan_yield ?_)
                generalize we.drew = wd at *
                simp only [List.cons_append, List.nil_append, List.append_nil, List.filterMap_cons, List.filterMap_nil, List.getElem?_toArray, List.getElem?_cons_zero, List.getElem?_cons_succ]
                go_wp2_with fail
                refine ⟨rfl, _, .agg (rgC (lastS L) (.slice a2 L.length c2)), rfl, kyields_load (by rfl) 39 _ (by rfl) bm 35 (rgF (lastS L) (.slice a2 L.length c2)) (by rfl) _ 39 (fun W hW => HPE.out.mb.below hW HPE.out.mb.lt) Try.underlying39 rfl rgSize, plan_yield ?_⟩
                simp only [Act.put, List.setIfInBounds_toArray, List.set_cons_zero, List.set_cons_succ]
                simp only [List.cons_append, List.nil_append, List.append_nil, List.filterMap_cons, List.filterMap_nil, List.getElem?_toArray, List.getElem?_cons_zero, List.getElem?_cons_succ]
                go_wp2_with fail
                refine ⟨rfl, _, .agg (slC (ct, A j, Dg j)), rfl, kyields_load (by rfl) 50 _ (by rfl) xs 34 (slF (ct, A j, Dg j)) (by rfl) _ 50 (fun W hW => s3.below hW s3.lt) Try.underlying50 rfl sizeSlot, plan_yield ?_⟩
                simp only [Act.put, List.setIfInBounds_toArray, List.set_cons_zero, List.set_cons_succ]
                simp only [List.cons_append, List.nil_append, List.append_nil, List.filterMap_cons, List.filterMap_nil, List.getElem?_toArray, List.getElem?_cons_zero, List.getElem?_cons_succ]
                go_wp2_with fail
                refine ⟨rfl, _, .agg #[.bool tv, .bool dv], rfl, Or.inl ⟨by rfl, fun W hW => by have e0 : W.cell? ⟨xe, 0, none⟩ = some (.bool tv) := ((ke.below hW ke.lt).cell 0).trans rfl; have e1 : W.cell? ⟨xe, 1, none⟩ = some (.bool dv) := ((ke.below hW ke.lt).cell 1).trans rfl; go_simp⟩, plan_fork ?_ ?_⟩
                simp only [Act.put, List.setIfInBounds_toArray, List.set_cons_zero, List.set_cons_succ]
                · simp only [List.cons_append, List.nil_append, List.append_nil, List.filterMap_cons, List.filterMap_nil, List.getElem?_toArray, List.getElem?_cons_zero, List.getElem?_cons_succ]
                  go_wp2_with fail
                  refine (given_any (ct, A j, Dg j) wd).mono ?_
                  rintro e w2 ⟨rfl, hbw2⟩
                  have hb2 : Below we.heap.size we w2 := hwd.trans (hbw2.mono hwd.size)
                  go_wp2_with fail
                  refine ⟨rfl, hb2, plan_fork ?_ ?_⟩
                  · simp only [List.cons_append, List.nil_append, List.append_nil, List.filterMap_cons, List.filterMap_nil, List.getElem?_toArray, List.getElem?_cons_zero, List.getElem?_cons_succ]
                    go_wp2_with fail
                    refine (HW1.out w2 (HPE.out.below hb2)).mono ?_
                    rintro e w3 ⟨a3, c3, rfl, how3, hbw3⟩
                    have hb3 : Below we.heap.size we w3 := hb2.trans (hbw3.mono hb2.size)
                    go_wp2_with fail
                    refine ⟨rfl, hb3, plan_force ?_⟩
                    simp only [List.cons_append, List.nil_append, List.append_nil, List.filterMap_cons, List.filterMap_nil, List.getElem?_toArray, List.getElem?_cons_zero, List.getElem?_cons_succ]
                    have q0 := Blk.new w3 39 (rgC sl0 (.slice none 0 0))
                    go_wp2_with fail
                    refine ⟨rfl, hb3.alloc hb3.size _, plan_force ?_⟩
                    simp only [List.cons_append, List.nil_append, List.append_nil, List.filterMap_cons, List.filterMap_nil, List.getElem?_toArray, List.getElem?_cons_zero, List.getElem?_cons_succ]
                    refine wpList_store_row (by rfl) 39 _ _ (by rfl) (w3.heap.size) (rgC (lastS L') (.slice a3 L'.length c3)) (by rfl) (by rfl) 39 (rgC sl0 (.slice none 0 0)) q0 (rgSize.trans (by rw [rgC_size])) (by simp only [rgC_size]) (rgC_all _ _ _ _) ?_
                    simp only [Act.put, List.setIfInBounds_toArray, List.set_cons_zero, List.set_cons_succ]
                    go_wp2_with fail
                    refine ⟨rfl, below_setRow (hb3.alloc hb3.size _) hb3.size _, plan_fin ?_⟩
                    simp only [List.cons_append, List.nil_append, List.append_nil, List.filterMap_cons, List.filterMap_nil, List.getElem?_toArray, List.getElem?_cons_zero, List.getElem?_cons_succ]
                    go_wp2_with fail
                    refine ⟨rfl, ?_⟩
                    go_wp2_with fail
                    go_meet
                    exact ⟨rfl, rfl, w3.heap.size, a3, c3, rfl, hb3.size, q0.set _, how3.below (below_setRow (below_new1 _ _) (Nat.le_refl _) _), below_setRow (hb3.alloc hb3.size _) hb3.size _⟩
                  · simp only [List.cons_append, List.nil_append, List.append_nil, List.filterMap_cons, List.filterMap_nil, List.getElem?_toArray, List.getElem?_cons_zero, List.getElem?_cons_succ]
                    have q0 := Blk.new w2 39 (rgC sl0 (.slice none 0 0))
                    have hb3 : Below we.heap.size we (w2.alloc (.cells (rgC sl0 (.slice none 0 0)) 39)) := hb2.alloc hb2.size _
                    go_wp2_with fail
                    refine ⟨rfl, hb3, plan_force ?_⟩
                    simp only [List.cons_append, List.nil_append, List.append_nil, List.filterMap_cons, List.filterMap_nil, List.getElem?_toArray, List.getElem?_cons_zero, List.getElem?_cons_succ]
                    go_wp2_with fail
                    refine (HW1.out _ (HPE.out.below hb3)).mono ?_
                    rintro e w4 ⟨a3, c3, rfl, how4, hbw4⟩
                    have hb4 : Below we.heap.size we w4 := hb3.trans (hbw4.mono hb3.size)
                    have q4 := q0.below hbw4 q0.lt
                    go_wp2_with fail
                    refine ⟨rfl, hb4, plan_yield ?_⟩
                    simp only [List.cons_append, List.nil_append, List.append_nil, List.filterMap_cons, List.filterMap_nil, List.getElem?_toArray, List.getElem?_cons_zero, List.getElem?_cons_succ]
                    go_wp2_with fail
                    refine ⟨rfl, _, .int .i64 fr, rfl, Or.inl ⟨by rfl, fun W hW => by go_simp⟩, plan_force ?_⟩
                    simp only [Act.put, List.setIfInBounds_toArray, List.set_cons_zero, List.set_cons_succ]
                    simp only [List.cons_append, List.nil_append, List.append_nil, List.filterMap_cons, List.filterMap_nil, List.getElem?_toArray, List.getElem?_cons_zero, List.getElem?_cons_succ]
                    refine wpList_store_row (by rfl) 39 _ _ (by rfl) (w2.heap.size) (rgC (lastS L') (.slice a3 L'.length c3)) (by rfl) (by rfl) 39 (rgC sl0 (.slice none 0 0)) q4 (rgSize.trans (by rw [rgC_size])) (by simp only [rgC_size]) (rgC_all _ _ _ _) ?_
                    simp only [Act.put, List.setIfInBounds_toArray, List.set_cons_zero, List.set_cons_succ]
                    go_wp2_with fail
                    refine ⟨rfl, below_setRow hb4 hb2.size _, plan_fin ?_⟩
                    simp only [List.cons_append, List.nil_append, List.append_nil, List.filterMap_cons, List.filterMap_nil, List.getElem?_toArray, List.getElem?_cons_zero, List.getElem?_cons_succ]
                    go_wp2_with fail
                    refine ⟨rfl, ?_⟩
                    go_wp2_with fail
                    go_meet
                    exact ⟨rfl, rfl, w2.heap.size, a3, c3, rfl, hb2.size, q4.set _, how4.setOther q4 _, below_setRow hb4 hb2.size _⟩
                · simp only [List.cons_append, List.nil_append, List.append_nil, List.filterMap_cons, List.filterMap_nil, List.getElem?_toArray, List.getElem?_cons_zero, List.getElem?_cons_succ]
                  have q0 := Blk.new wd 39 (rgC sl0 (.slice none 0 0))
                  have hb2 : Below we.heap.size we (wd.alloc (.cells (rgC sl0 (.slice none 0 0)) 39)) := hwd.alloc hwd.size _
                  go_wp2_with fail
                  refine ⟨rfl, hb2, plan_force ?_⟩
                  simp only [List.cons_append, List.nil_append, List.append_nil, List.filterMap_cons, List.filterMap_nil, List.getElem?_toArray, List.getElem?_cons_zero, List.getElem?_cons_succ]
                  go_wp2_with fail
                  refine (given_any (ct, A j, Dg j) _).mono ?_
                  rintro e w3 ⟨rfl, hbw3⟩
                  have hb3 : Below we.heap.size we w3 := hb2.trans (hbw3.mono hb2.size)
                  have q3 := q0.below hbw3 q0.lt
                  go_wp2_with fail
                  refine ⟨rfl, hb3, plan_force ?_⟩
                  simp only [List.cons_append, List.nil_append, List.append_nil, List.filterMap_cons, List.filterMap_nil, List.getElem?_toArray, List.getElem?_cons_zero, List.getElem?_cons_succ]
                  go_wp2_with fail
                  refine (HW1.out _ (HPE.out.below hb3)).mono ?_
                  rintro e w4 ⟨a3, c3, rfl, how4, hbw4⟩
                  have hb4 : Below we.heap.size we w4 := hb3.trans (hbw4.mono hb3.size)
                  have q4 := q3.below hbw4 q3.lt
                  go_wp2_with fail
                  refine ⟨rfl, hb4, plan_yield ?_⟩
                  simp only [List.cons_append, List.nil_append, List.append_nil, List.filterMap_cons, List.filterMap_nil, List.getElem?_toArray, List.getElem?_cons_zero, List.getElem?_cons_succ]
                  go_wp2_with fail
                  refine ⟨rfl, _, .int .i64 fr, rfl, Or.inl ⟨by rfl, fun W hW => by go_simp⟩, plan_force ?_⟩
                  simp only [Act.put, List.setIfInBounds_toArray, List.set_cons_zero, List.set_cons_succ]
                  simp only [List.cons_append, List.nil_append, List.append_nil, List.filterMap_cons, List.filterMap_nil, List.getElem?_toArray, List.getElem?_cons_zero, List.getElem?_cons_succ]
                  refine wpList_store_row (by rfl) 39 _ _ (by rfl) (wd.heap.size) (rgC (lastS L') (.slice a3 L'.length c3)) (by rfl) (by rfl) 39 (rgC sl0 (.slice none 0 0)) q4 (rgSize.trans (by rw [rgC_size])) (by simp only [rgC_size]) (rgC_all _ _ _ _) ?_
                  simp only [Act.put, List.setIfInBounds_toArray, List.set_cons_zero, List.set_cons_succ]
                  go_wp2_with fail
                  refine ⟨rfl, below_setRow hb4 hwd.size _, plan_fin ?_⟩
                  simp only [List.cons_append, List.nil_append, List.append_nil, List.filterMap_cons, List.filterMap_nil, List.getElem?_toArray, List.getElem?_cons_zero, List.getElem?_cons_succ]
                  go_wp2_with fail
                  refine ⟨rfl, ?_⟩
                  go_wp2_with fail
                  go_meet
                  exact ⟨rfl, rfl, wd.heap.size, a3, c3, rfl, hwd.size, q4.set _, how4.setOther q4 _, below_setRow hb4 hwd.size _⟩
              case rest =>
                obtain ⟨rfl, rfl, xk, a3, c3, rfl, hxk, kk, ho, hbe⟩ := hcut
                rename World => wy
                have HPY : Hid (PS w wy g r m bm C acu ccu j L qq v a2 c2) := HPE.out.below hbe
                have ke1 := ke.below hbe ke.lt
                have s4 := s3.below hbe s3.lt
                have HOY : Hid (NewOwn w wy g r m qq v L' a3 c3) := ho
                have HNk : Hid (¬ rdfoot g 16 qq r m v xk) := by
                  obtain ⟨F, k, lg, h1, _, _⟩ := HPE.out.rd
                  exact h1.new_ne hxk
                clear ke s3 ho hbe hxk HPE
                go_wp2_with (first
                  | (refine wpList_load_rowg (by rfl) 50 _ (by rfl) (xs) (by rfl) 50 ((slC (ct, A j, Dg j))) (0, 0) _ (by exact s4) Try.underlying50 (by rfl) (sizeSlot.trans (by rw [slC_size])) ?_; simp only [Act.put, List.setIfInBounds_toArray, List.set_cons_zero, List.set_cons_succ])
                  | fail)
                refine (HW2.out wy a3 c3 HPY.out HOY.out).mono ?_
                rintro e wv ⟨rfl, q3, v3, hp3, hev3, hdd3, hkp⟩
                have kk1 := hkp _ _ _ kk HNk.out
                have kb1 := hkp _ _ _ HPY.out.mb HPY.out.nbm
                have kv := hkp _ _ _ ke1 HNe.out
                have zv : wv.cell? ⟨xe, 1, none⟩ = some (.bool dv) := (kv.cell 1).trans rfl
                have HP3 : Hid (PS w (wv.setRow bm (rgC (lastS L') (.slice a3 L'.length c3))) g r m bm C acu ccu (j + 1) L' q3 v3 a3 c3) := hp3
                clear hp3 hkp HPY HOY kk ke1 s4 kv
                cases came with
                | true =>
                  have HE3 : Hid (q3.ev = qq.ev + 1) := by
                    show _ = _
                    simpa using hev3
                  have HD3 : Hid (q3.dd = dv) := by
                    show _ = _
                    simpa using hdd3
                  clear hev3 hdd3
                  go_wp2_with (first
                    | (refine wpList_load_rowg (by rfl) 39 _ (by rfl) (xk) (by rfl) 39 (rgC (lastS L') (.slice a3 L'.length c3)) (0, 0) _ (by exact kk1) Try.underlying39 (by rfl) (rgSize.trans (by rw [rgC_size])) ?_; simp only [Act.put, List.setIfInBounds_toArray, List.set_cons_zero, List.set_cons_succ])
                    | (refine wpList_store_row (by rfl) 39 _ _ (by rfl) (bm) (rgC (lastS L') (.slice a3 L'.length c3)) (by rfl) (by rfl) 39 (_) (by exact kb1) (rgSize.trans (by rw [rgC_size])) (by simp only [rgC_size]) (rgC_all _ _ _ _) ?_; simp only [Act.put, List.setIfInBounds_toArray, List.set_cons_zero, List.set_cons_succ])
                    | fail)
                  go_meet
                  exact ⟨L', q3, v3, a3, c3, by rw [HE3.out], by rw [HD3.out], HP3.out⟩
                | false =>
                  have HE3 : Hid (q3.ev = qq.ev) := by
                    show _ = _
                    simpa using hev3
                  have HD3 : Hid (q3.dd = dd) := by
                    show _ = _
                    simpa using hdd3
                  clear hev3 hdd3
                  go_wp2_with (first
                    | (refine wpList_load_rowg (by rfl) 39 _ (by rfl) (xk) (by rfl) 39 (rgC (lastS L') (.slice a3 L'.length c3)) (0, 0) _ (by exact kk1) Try.underlying39 (by rfl) (rgSize.trans (by rw [rgC_size])) ?_; simp only [Act.put, List.setIfInBounds_toArray, List.set_cons_zero, List.set_cons_succ])
                    | (refine wpList_store_row (by rfl) 39 _ _ (by rfl) (bm) (rgC (lastS L') (.slice a3 L'.length c3)) (by rfl) (by rfl) 39 (_) (by exact kb1) (rgSize.trans (by rw [rgC_size])) (by simp only [rgC_size]) (rgC_all _ _ _ _) ?_; simp only [Act.put, List.setIfInBounds_toArray, List.set_cons_zero, List.set_cons_succ])
                    | fail)
                  go_meet
                  exact ⟨L', q3, v3, a3, c3, by rw [HE3.out], by rw [HD3.out], HP3.out⟩
          case rest =>
            obtain ⟨L2, q2, v2, a3, c3, rfl, rfl, hps2⟩ := hcut
            rename World => wy
            have HP2 : Hid (PS w wy g r m bm C acu ccu (j + 1) L2 q2 v2 a3 c3) := hps2
            have kk := hps2.mb
            clear hps2 HP1 HXN HBX y0 y1 y2 x1
            go_wp2_with (first
              | (refine wpList_load_rowg (by rfl) 39 _ (by rfl) (bm) (by rfl) 39 (rgC (lastS L2) (.slice a3 L2.length c3)) (0, 0) _ (by exact kk) Try.underlying39 (by rfl) (rgSize.trans (by rw [rgC_size])) ?_; simp only [Act.put, List.setIfInBounds_toArray, List.set_cons_zero, List.set_cons_succ])
              | fail)
            refine (ps_stands (by omega) wy HP2.out).mono ?_
            rintro e wA ⟨rfl, hb⟩
            have HPA : Hid (PS w wA g r m bm C acu ccu (j + 1) L2 q2 v2 a3 c3) := HP2.out.below hb
            clear hb kk HP2
            go_wp2_with fail
            refine (ps_events wA HPA.out).mono ?_
            rintro e _ ⟨rfl, rfl⟩
            go_wp2_with fail
            refine (ps_dead wA HPA.out).mono ?_
            rintro e _ ⟨rfl, rfl⟩
            go_wp2_with fail
            go_roundw
            case rel => exact ⟨j + 1, hjl, by congr 1, L2, q2, v2, a3, c3, rfl, rfl, HPA.out⟩
            case measure =>
              simp only [intOf]
              omega
        · go_wp2_with fail
          go_ret
          exact ⟨rfl, hps.low⟩
end Go.Proofs.Ytdhbjcnbdfidcaa
