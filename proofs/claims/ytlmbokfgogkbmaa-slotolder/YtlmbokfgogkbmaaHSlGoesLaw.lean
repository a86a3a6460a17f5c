/- The statement SlotGoes, called with whatever cut and digests, up to 1048576 of them: it returns true. -/
import Derived.Test.YtlmbokfgogkbmaaHSlSums
import Derived.Deep.DeepCutAuto
import Derived.Deep.Cut
import Derived.Handy

namespace Go.Proofs.Ytlmbokfgogkbmaa
open Go Go.RowKit
set_option linter.unusedSimpArgs false
set_option linter.unusedVariables false

/-- the zero digest's cells -/
def zsC : Array Value := va 32 (iv .u8 (dF (Vector.replicate 32 0)))
theorem zsC_size : zsC.size = 32 := va_size _ _
theorem zero_sm (w : World) : (zeroValue 44).run Try.prog w = .ok (.agg (zsC)) w := by
  have h : (Try.prog.info? 44).bind (·.zero) = some (.agg (zsC)) := by kernel_rfl
  cases hq : Try.prog.info? 44 with
  | none => simp [hq] at h
  | some i =>
    have hi : i.zero = some (.agg (zsC)) := by simpa [hq] using h
    simp [zeroValue, typeInfo, hq, hi]
set_option maxRecDepth 100000 in
set_option maxHeartbeats 32000000 in
theorem slotGoesLaw (ev : Int) (af : Bool) (a0 : Option Addr) (n c0 : Nat) (hn : n ≤ 1048576) (D : Nat → Vector Nat 32) (w : World) (hI : IsSums w a0 n D) :
    Calls Try.prog 5 #[.int .i64 ev, .bool af, .slice a0 n c0] w fun e w' => e = .returned (.bool true) ∧ Below w.heap.size w w' := by
  have hz := zero_slot
  have hzs := zero_sm
  have HI : Hid (IsSums w a0 n D) := hI
  have hN : Hid (∀ w : World, Calls Try.prog 8 #[.int .i64 16] w fun e w' => ∃ g q, e = .returned (.tuple #[.pointer (some ⟨g, 0, none⟩), .int .i64 0]) ∧ DiskQ w' w.heap.size g 16 (fun _ => 0) 0 0 q ∧ Quiet q 0 ∧ Below w.heap.size w w') := fun w => diskNew_any 16 (by decide) (by decide) w
  have hR : Hid (∀ (p : Option Addr) (w : World), Calls Try.prog 10 #[.pointer p] w fun e w' => ∃ r m, e = .returned (.pointer (some ⟨r, 0, none⟩)) ∧ RegAt w' w.heap.size r m p (.slice none 0 0) [] ∧ Below w.heap.size w w') := newReg_any
  have hAw : Hid (∀ w : World, Calls Try.prog 9 #[] w fun e w' => e = .returned (.bool true) ∧ Below w.heap.size w w') := awake6_any
  clear hI
  go_enter Try.func5, Try.ntmps5
  go_wp2_with fail
  refine (hN.out _).mono ?_
  rintro e w1 ⟨g, q0, rfl, hd1, hq1, hb1⟩
  have HD1 : Hid (DiskQ w1 w.heap.size g 16 (fun _ => 0) 0 0 q0) := hd1
  have HQ1 : Hid (Quiet q0 0) := hq1
  clear hd1 hq1
  go_wp2_with fail
  refine (hAw.out _).mono ?_
  rintro e w2 ⟨rfl, hb2⟩
  have HD2 : Hid (DiskQ w2 w.heap.size g 16 (fun _ => 0) 0 0 q0) := HD1.out.below hb2
  have hb2' : Below w.heap.size w w2 := hb1.trans (hb2.mono hb1.size)
  clear hb2 hb1 HD1
  go_wp2_with fail
  refine (hR.out _ _).mono ?_
  rintro e w3 ⟨r, m, rfl, hr3, hb3⟩
  have HRD3 : Hid (RD w3 w.heap.size g 16 (fun _ => 0) 0 0 q0 [] r m (.slice none 0 0) []) := RD.new HD2.out HQ1.out hb2'.size hr3 hb3
  have hb3' : Below w.heap.size w w3 := hb2'.trans (hb3.mono hb2'.size)
  clear hr3 hb3 hb2' HD2
  go_wp2_with fail
  refine (rdCut (d0 := false) (mm := 0) (by decide) (by rw [HQ1.out.cu]; exact HQ1.out) ev af w3 hb3'.size HRD3.out).mono ?_
  rintro e w4 ⟨rfl, q4, h4, hq4, hev4, hT4, hF4⟩
  obtain ⟨C, hC⟩ : ∃ C, C = cutMore q0 [] ev af := ⟨_, rfl⟩
  rw [← hC] at h4
  have HCL : Hid (C.length ≤ 64) := by
    rw [hC]
    exact cutMore_len _ _ _ _ (by decide)
  have HRD4 : Hid (RD w4 w.heap.size g 16 (fun _ => 0) 0 0 q4 C r m (.slice none 0 0) []) := h4
  have HQ4 : Hid (QuietC q4.cu false q4 0) := hq4
  have hb4 : Below w.heap.size w w4 := hb3'.trans (HRD3.out.lowC hb3'.size hT4)
  clear h4 hq4 hev4 hT4 hF4 HRD3 hb3' hC HQ1
  have k0 := Blk.new w4 50 (slC sl0)
  have k1 := k0.set (slC sl0)
  have hb5 : Below w.heap.size w ((w4.alloc (.cells (slC sl0) 50)).setRow w4.heap.size (slC sl0)) := below_setRow (hb4.alloc hb4.size _) hb4.size _
  have HRD5 : Hid (RD ((w4.alloc (.cells (slC sl0) 50)).setRow w4.heap.size (slC sl0)) w.heap.size g 16 (fun _ => 0) 0 0 q4 C r m (.slice none 0 0) []) := HRD4.out.below (below_setRow (below_new1 _ _) (Nat.le_refl _) _)
  have HNE : Hid (¬ rdfoot g 16 q4 r m (.slice none 0 0) w4.heap.size) := HRD4.out.new_ne (Nat.le_refl _)
  have hblw : w.heap.size ≤ w4.heap.size := hb4.size
  go_wp2_with (first
    | (refine wpList_store_row (by rfl) 50 _ _ (by rfl) (w4.heap.size) (slC sl0) (by rfl) (by rfl) 50 _ k0 (sizeSlot.trans (by rw [slC_size])) (by simp only [slC_size]) (slC_all _) ?_; simp only [Act.put, List.setIfInBounds_toArray, List.set_cons_zero, List.set_cons_succ])
    | fail)
  clear k0 HRD4 hb4
  generalize ((w4.alloc (.cells (slC sl0) 50)).setRow w4.heap.size (slC sl0)) = w5 at *
  generalize w4.heap.size = bl at *
  go_loopw [41] (fun t wx => ∃ i : Nat, i ≤ n ∧ t = .int .i64 (i : Int) ∧ ∃ (L : List Sl) (q : QD) (v : Value) (lg : Nat), RD wx w.heap.size g 16 (fun _ => 0) 0 lg q C r m v L ∧ QuietC q.cu false q i ∧ Cnt L ∧ GoodS (lastS L) ∧ (L.length ≤ i ∧ lg ≤ i) ∧ Blk wx bl 50 (slC (lastS L)) ∧ (¬ rdfoot g 16 q r m v bl) ∧ Below w.heap.size w wx) (fun t _ => n - (intOf t).toNat)
  case atStart => exact ⟨0, Nat.zero_le _, rfl, [], q4, _, 0, HRD5.out, HQ4.out, Cnt.nil, good_sl0, ⟨Nat.le_refl _, Nat.le_refl _⟩, k1, HNE.out, hb5⟩
  case round =>
    clear HRD5 HQ4 k1 HNE hb5
    obtain ⟨i, hin, rfl, L, q, v, lg, hrd, hq, hcn, hgd, ⟨hLi, hlg⟩, hbl, hne, hb⟩ := hrel
    have HRD : Hid (RD wr w.heap.size g 16 (fun _ => 0) 0 lg q C r m v L) := hrd
    have HQ : Hid (QuietC q.cu false q i) := hq
    have HCN : Hid (Cnt L) := hcn
    have HGD : Hid (GoodS (lastS L)) := hgd
    have HNE : Hid (¬ rdfoot g 16 q r m v bl) := hne
    clear hrd hq hcn hgd hne
    by_cases hlt : i < n
    · obtain ⟨b, o, ha0, hbw, hrg, hby⟩ := HI.out i hlt
      subst ha0
      have HRG : Hid (wr.rangeAt b (o + i * 32) ((List.range 32).map (iv .u8 (dF (D i))))) := sums_range hrg hbw hb
      have HBY : Hid (∀ j, j < 32 → dF (D i) j < 256) := hby
      clear hrg hby
      have i0 : (0 : Int) ≤ (i : Int) := by omega
      have i1 : (i : Int) < (n : Int) := by omega
      obtain ⟨lc, hlc⟩ : ∃ lc, lc = (lastS L).1 := ⟨_, rfl⟩
      have HLC : Hid (lc = (lastS L).1) := hlc
      have HLL : Hid (lc = L.length) := hlc.trans HCN.out.last
      have e1 : (lc : Int) ≤ 1048576 := by have := HLL.out; omega
      have e0 : (0 : Int) ≤ (lc : Int) := by omega
      obtain ⟨nx, hnx⟩ : ∃ nx : Sl, nx = (lc + 1, i % 200 + 1, D i) := ⟨_, rfl⟩
      have HNX : Hid (nx = (lc + 1, i % 200 + 1, D i)) := hnx
      have hbt1 : Hid (Try.prog.built 48 [(0, .int .u32 ((i : Int) % 200 + 1)), (1, .agg (va 32 (iv .u8 (dF (D i)))))] = some (va 33 (rfF (i % 200 + 1) (D i)))) := by
        show _ = _
        have := built_refD (i % 200 + 1) (D i)
        rw [show (((i % 200 + 1 : Nat)) : Int) = (i : Int) % 200 + 1 by omega] at this
        exact this
      have hbt2 : Hid (Try.prog.built 50 [(0, .int .u64 ((lc : Int) + 1)), (1, .agg (va 33 (rfF (i % 200 + 1) (D i))))] = some (slC nx)) := by
        show _ = _
        have := built_slot (lc + 1) (i % 200 + 1) (D i)
        rw [hnx]
        rw [show (((lc + 1 : Nat)) : Int) = (lc : Int) + 1 by omega] at this
        exact this
      clear hnx
      have x0 : Blk (wr.alloc (.cells (zsC) 44)) wr.heap.size 44 (zsC) := Blk.new _ _ _
      have xA : Blk ((wr.alloc (.cells (zsC) 44)).setRow wr.heap.size (va 32 (iv .u8 (dF (D i))))) wr.heap.size 44 (va 32 (iv .u8 (dF (D i)))) := x0.set _
      have blA : Blk ((wr.alloc (.cells (zsC) 44)).setRow wr.heap.size (va 32 (iv .u8 (dF (D i))))) bl 50 (slC (lastS L)) := (hbl.alloc _).other _ (Nat.ne_of_lt hbl.lt)
      have hbA : Below wr.heap.size wr ((wr.alloc (.cells (zsC) 44)).setRow wr.heap.size (va 32 (iv .u8 (dF (D i))))) := below_setRow (below_new1 _ _) (Nat.le_refl _) _
      have szA : ((wr.alloc (.cells (zsC) 44)).setRow wr.heap.size (va 32 (iv .u8 (dF (D i))))).heap.size = wr.heap.size + 1 := by rw [setRow_size]; simp
      have zA : ((wr.alloc (.cells (zsC) 44)).setRow wr.heap.size (va 32 (iv .u8 (dF (D i))))).cell? ⟨bl, 0, none⟩ = some (.int .u64 (lc : Int)) := by
        rw [blA.cell, hlc]
        exact va_at (slF (lastS L)) (by decide)
      have n0 : Blk (((wr.alloc (.cells (zsC) 44)).setRow wr.heap.size (va 32 (iv .u8 (dF (D i))))).alloc (.cells (slC sl0) 50)) (wr.heap.size + 1) 50 (slC sl0) := by
        have := Blk.new ((wr.alloc (.cells (zsC) 44)).setRow wr.heap.size (va 32 (iv .u8 (dF (D i))))) 50 (slC sl0)
        rw [szA] at this
        exact this
      have nB : Blk ((((wr.alloc (.cells (zsC) 44)).setRow wr.heap.size (va 32 (iv .u8 (dF (D i))))).alloc (.cells (slC sl0) 50)).setRow (wr.heap.size + 1) (slC nx)) (wr.heap.size + 1) 50 (slC nx) := n0.set _
      have blB : Blk ((((wr.alloc (.cells (zsC) 44)).setRow wr.heap.size (va 32 (iv .u8 (dF (D i))))).alloc (.cells (slC sl0) 50)).setRow (wr.heap.size + 1) (slC nx)) bl 50 (slC (lastS L)) := (blA.alloc _).other _ (by have := hbl.lt; omega)
      have hbB : Below wr.heap.size wr ((((wr.alloc (.cells (zsC) 44)).setRow wr.heap.size (va 32 (iv .u8 (dF (D i))))).alloc (.cells (slC sl0) 50)).setRow (wr.heap.size + 1) (slC nx)) := below_setRow (hbA.alloc (by omega) _) (by omega) _
      have HRB : Hid (RD ((((wr.alloc (.cells (zsC) 44)).setRow wr.heap.size (va 32 (iv .u8 (dF (D i))))).alloc (.cells (slC sl0) 50)).setRow (wr.heap.size + 1) (slC nx)) w.heap.size g 16 (fun _ => 0) 0 lg q C r m v L) := HRD.out.below hbB
      have HNB : Hid (¬ rdfoot g 16 q r m v (wr.heap.size + 1)) := HRD.out.new_ne (by omega)
      have hbW : Below w.heap.size w ((((wr.alloc (.cells (zsC) 44)).setRow wr.heap.size (va 32 (iv .u8 (dF (D i))))).alloc (.cells (slC sl0) 50)).setRow (wr.heap.size + 1) (slC nx)) := hb.trans (hbB.mono hb.size)
      clear hbA hbB szA hlc
      go_wp2_with (first
        | (refine wpList_load_blk (by rfl) 44 _ (by rfl) (b) (o + i * 32) 32 (iv .u8 (dF (D i))) (by rfl) _ (by exact HRG.out) Try.underlying44 rfl sizeSm ?_; simp only [Act.put, List.setIfInBounds_toArray, List.set_cons_zero, List.set_cons_succ])
        | (refine wpList_store_row (by rfl) 44 _ _ (by rfl) (wr.heap.size) (va 32 (iv .u8 (dF (D i)))) (by rfl) (by rfl) 44 (zsC) (by exact x0) (sizeSm.trans (by rw [va_size])) (by rw [zsC_size, va_size]) (iv_one _ _ _) ?_; simp only [Act.put, List.setIfInBounds_toArray, List.set_cons_zero, List.set_cons_succ])
        | (refine wpList_load_rowg (by rfl) 44 _ (by rfl) (wr.heap.size) (by rfl) 44 (va 32 (iv .u8 (dF (D i)))) (0, 0) _ (by exact xA) Try.underlying44 (by rfl) (sizeSm.trans (by rw [va_size])) ?_; simp only [Act.put, List.setIfInBounds_toArray, List.set_cons_zero, List.set_cons_succ])
        | (refine wpList_build2 (by rfl) 48 _ _ (by rfl) (.int .u32 ((i : Int) % 200 + 1)) (.agg (va 32 (iv .u8 (dF (D i))))) (by rfl) (by rfl) (va 33 (rfF (i % 200 + 1) (D i))) (by exact hbt1.out) ?_; simp only [Act.put, List.setIfInBounds_toArray, List.set_cons_zero, List.set_cons_succ])
        | (refine wpList_build2 (by rfl) 50 _ _ (by rfl) (.int .u64 ((lc : Int) + 1)) (.agg (va 33 (rfF (i % 200 + 1) (D i)))) (by rfl) (by rfl) (slC nx) (by exact hbt2.out) ?_; simp only [Act.put, List.setIfInBounds_toArray, List.set_cons_zero, List.set_cons_succ])
        | (refine wpList_store_row (by rfl) 50 _ _ (by rfl) (wr.heap.size + 1) (slC nx) (by rfl) (by rfl) 50 (slC sl0) (by exact n0) (sizeSlot.trans (by rw [slC_size])) (by simp only [slC_size]) (slC_all _) ?_; simp only [Act.put, List.setIfInBounds_toArray, List.set_cons_zero, List.set_cons_succ])
        | (refine wpList_load_rowg (by rfl) 50 _ (by rfl) (wr.heap.size + 1) (by rfl) 50 (slC nx) (0, 0) _ (by exact nB) Try.underlying50 (by rfl) (sizeSlot.trans (by rw [slC_size])) ?_; simp only [Act.put, List.setIfInBounds_toArray, List.set_cons_zero, List.set_cons_succ])
        | fail)
      generalize ((((wr.alloc (.cells (zsC) 44)).setRow wr.heap.size (va 32 (iv .u8 (dF (D i))))).alloc (.cells (slC sl0) 50)).setRow (wr.heap.size + 1) (slC nx)) = wb at *
      clear x0 xA blA zA n0 HRG hbt1 hbt2 hbl hb HRD
      have HHT : Hid (nx.1 < 18446744073709551616 ∧ nx.2.1 ≠ 0 ∧ nx.1 = (lastS L).1 + 1 ∧ nx ∉ L) := by
        have h1 := HLL.out
        have h2 := HLC.out
        refine ⟨?_, ?_, ?_, HCN.out.fresh nx ?_⟩
        · rw [HNX.out]
          show lc + 1 < _
          omega
        · rw [HNX.out]
          show i % 200 + 1 ≠ 0
          omega
        · rw [HNX.out, ← h2]
        · rw [HNX.out]
          show L.length < lc + 1
          omega
      refine (rdWrite_go HCL.out (mm := i) HQ.out (by omega) (by omega) (by omega) nx HHT.out.1 HHT.out.2.1 HHT.out.2.2.1 HHT.out.2.2.2 wb hbW.size HRB.out).mono ?_
      rintro e wc ⟨rfl, q1, lg1, v1, h1, hq1, hev1, hlg1, hm1⟩
      obtain ⟨nC, HNC0⟩ := hm1.blk nB HNB.out
      obtain ⟨blC, HNbl0⟩ := hm1.blk blB HNE.out
      have HNC : Hid (¬ rdfoot g 16 q1 r m v1 (wr.heap.size + 1)) := HNC0
      have HNbl : Hid (¬ rdfoot g 16 q1 r m v1 bl) := HNbl0
      have hbc : Below w.heap.size w wc := hbW.trans (HRB.out.low hbW.size hm1)
      have HLG1 : Hid (lg1 ≤ lg + 1) := hlg1
      have hq1' : QuietC q1.cu (ahB q C || bhB q C) q1 (i + 1) := by
        rw [← hq1.cu] at hq1
        exact hq1
      have hcase : ((if (ahB q C || bhB q C) = true then (4 : Int) else 0) = 0 ∧ (if ahB q C = true then L else L ++ [nx]) = L ++ [nx]) ∨ ((if (ahB q C || bhB q C) = true then (4 : Int) else 0) = 4 ∧ (if ahB q C = true then L else L ++ [nx]) = L ++ [nx]) ∨ ((if (ahB q C || bhB q C) = true then (4 : Int) else 0) = 4 ∧ (if ahB q C = true then L else L ++ [nx]) = L) := by
        cases ahB q C <;> cases bhB q C <;> simp
      clear HNC0 HNbl0 hbW HRB HNB HNE hev1 hlg1 hm1 hq1 nB blB HQ
      generalize (ahB q C || bhB q C) = dd1 at *
      generalize (if ahB q C = true then L else L ++ [nx]) = L1 at *
      generalize (if dd1 = true then (4 : Int) else 0) = er at *
      have HRC : Hid (RD wc w.heap.size g 16 (fun _ => 0) 0 lg1 q1 C r m v1 L1) := h1
      have HQ1 : Hid (QuietC q1.cu dd1 q1 (i + 1)) := hq1'
      clear h1 hq1'
      have HGN : Hid (GoodS nx) := by
        have h1 := HHT.out.1
        refine ⟨h1, ?_, ?_, fun h => absurd h HHT.out.2.1⟩
        · rw [HNX.out]
          show i % 200 + 1 < _
          omega
        · rw [HNX.out]
          exact HBY.out
      have HCN1 : Hid (Cnt L1) := by
        rcases hcase with ⟨_, h⟩ | ⟨_, h⟩ | ⟨_, h⟩
        · rw [h]; exact HCN.out.snoc nx (by rw [HHT.out.2.2.1, HCN.out.last])
        · rw [h]; exact HCN.out.snoc nx (by rw [HHT.out.2.2.1, HCN.out.last])
        · rw [h]; exact HCN.out
      have HGD1 : Hid (GoodS (lastS L1)) := by
        rcases hcase with ⟨_, h⟩ | ⟨_, h⟩ | ⟨_, h⟩
        · rw [h, lastS_snoc]; exact HGN.out
        · rw [h, lastS_snoc]; exact HGN.out
        · rw [h]; exact HGD.out
      have HLL1 : Hid (L1.length ≤ i + 1) := by
        show L1.length ≤ i + 1
        rcases hcase with ⟨_, h⟩ | ⟨_, h⟩ | ⟨_, h⟩
        · rw [h, List.length_append]; simp; omega
        · rw [h, List.length_append]; simp; omega
        · rw [h]; omega
      obtain ⟨ls, hls⟩ : ∃ ls, ls = lastS L1 := ⟨_, rfl⟩
      have HLS : Hid (ls = lastS L1) := hls
      have HEN : Hid (∀ w, Calls Try.prog 24 #[.agg (slC ls)] w fun e w' => e = .returned (.string (strN (encF ls) 44)) ∧ Below w.heap.size w w') := fun w => by
        have := HGD1.out
        rw [← hls] at this
        exact encode_any ls this.1 this.2.1 w
      have HDN : Hid (∀ w, Calls Try.prog 27 #[.string (strN (encF ls) 44)] w fun e w' => e = .returned (.tuple #[.agg (slC ls), .int .i64 0]) ∧ Below w.heap.size w w') := fun w => by
        have h1 := HGD1.out
        rw [← hls] at h1
        have := decode_any (strN (encF ls) 44) w
        rw [dec_enc ls h1] at this
        exact this
      have HAN : Hid (∀ w, Calls Try.prog 26 #[.agg (slC (lastS L)), .agg (slC ls)] w fun e w' => e = .returned (.bool false) ∧ Below w.heap.size w w') := fun w => by
        have := ahead_any (lastS L) ls w
        rw [decide_eq_false (by
          rw [hls]
          rcases hcase with ⟨_, h⟩ | ⟨_, h⟩ | ⟨_, h⟩
          · rw [h, lastS_snoc, HHT.out.2.2.1]; omega
          · rw [h, lastS_snoc, HHT.out.2.2.1]; omega
          · rw [h]; omega)] at this
        exact this
      generalize strN (encF ls) 44 = tx at *
      rcases hcase with ⟨rfl, hL1⟩ | ⟨rfl, hL1⟩ | ⟨rfl, hL1⟩
      · have HLN : Hid (ls = nx) := by
          show ls = nx
          rw [hls, hL1, lastS_snoc]
        clear hls hL1
        have heq1 : ∀ W, (Op.equalIn 10000 50 (.agg (slC ls)) (.agg (slC nx))).run Try.prog W = .ok true W := fun W => by
          have := eq_slot ls nx W
          rw [decide_eq_true HLN.out] at this
          exact this
        have heq3 : ∀ W, (Op.equalIn 10000 50 (.agg (slC ls)) (.agg (slC ls))).run Try.prog W = .ok true W := fun W => by
          have := eq_slot ls ls W
          rw [decide_eq_true rfl] at this
          exact this
        go_wp2_with fail
        refine (rdRevive HQ1.out wc HRC.out).mono ?_
        rintro e wd ⟨rfl, q2, h2, hq2, hev2, hm2⟩
        have HRDd : Hid (RD wd w.heap.size g 16 (fun _ => 0) 0 lg1 q2 C r m v1 L1) := h2
        have HQ2 : Hid (QuietC q2.cu false q2 (i + 1)) := hq2
        obtain ⟨nD, HND0⟩ := hm2.blk nC HNC.out
        obtain ⟨blD, HNbl0⟩ := hm2.blk blC HNbl.out
        have HNbl2 : Hid (¬ rdfoot g 16 q2 r m v1 bl) := HNbl0
        have hbd : Below w.heap.size w wd := hbc.trans (HRC.out.low hbc.size hm2)
        have HRE : Hid (Calls Try.prog 29 #[.pointer (some ⟨r, 0, none⟩)] wd fun e w' => e = .returned (.tuple #[.agg (slC ls), .int .i64 0]) ∧ Below wd.heap.size wd w') := by
          have := rdRead (by have := HLL1.out; omega) wd HRDd.out
          rw [HQ2.out.dd] at this
          rw [HLS.out]
          exact this
        clear h2 hq2 hev2 hm2 nC blC HNC HNbl HRC HQ1 hbc HNbl0 HND0
        go_wp2_with fail
        refine HRE.out.mono ?_
        rintro e we ⟨rfl, hbe⟩
        have HRDe : Hid (RD we w.heap.size g 16 (fun _ => 0) 0 lg1 q2 C r m v1 L1) := HRDd.out.below hbe
        have nE := nD.below hbe nD.lt
        have blE := blD.below hbe blD.lt
        have hbE : Below w.heap.size w we := hbd.trans (hbe.mono hbd.size)
        clear HRE hbe hbd nD blD HRDd
        have s0 := Blk.new we 50 (slC sl0)
        have sF := s0.set (slC ls)
        have nF : Blk ((we.alloc (.cells (slC sl0) 50)).setRow we.heap.size (slC ls)) (wr.heap.size + 1) 50 (slC nx) := (nE.alloc _).other _ (Nat.ne_of_lt nE.lt)
        have blF : Blk ((we.alloc (.cells (slC sl0) 50)).setRow we.heap.size (slC ls)) bl 50 (slC (lastS L)) := (blE.alloc _).other _ (Nat.ne_of_lt blE.lt)
        have hbF : Below w.heap.size w ((we.alloc (.cells (slC sl0) 50)).setRow we.heap.size (slC ls)) := below_setRow (hbE.alloc hbE.size _) hbE.size _
        have HRDf : Hid (RD ((we.alloc (.cells (slC sl0) 50)).setRow we.heap.size (slC ls)) w.heap.size g 16 (fun _ => 0) 0 lg1 q2 C r m v1 L1) := HRDe.out.below (below_setRow (below_new1 _ _) (Nat.le_refl _) _)
        go_wp2_with (first
          | (refine wpList_store_row (by rfl) 50 _ _ (by rfl) (we.heap.size) (slC ls) (by rfl) (by rfl) 50 (slC sl0) (by exact s0) (sizeSlot.trans (by rw [slC_size])) (by simp only [slC_size]) (slC_all _) ?_; simp only [Act.put, List.setIfInBounds_toArray, List.set_cons_zero, List.set_cons_succ])
          | (refine wpList_load_rowg (by rfl) 50 _ (by rfl) (we.heap.size) (by rfl) 50 (slC ls) (0, 0) _ (by exact sF) Try.underlying50 (by rfl) (sizeSlot.trans (by rw [slC_size])) ?_; simp only [Act.put, List.setIfInBounds_toArray, List.set_cons_zero, List.set_cons_succ])
          | (refine wpList_load_rowg (by rfl) 50 _ (by rfl) (wr.heap.size + 1) (by rfl) 50 (slC nx) (0, 0) _ (by exact nF) Try.underlying50 (by rfl) (sizeSlot.trans (by rw [slC_size])) ?_; simp only [Act.put, List.setIfInBounds_toArray, List.set_cons_zero, List.set_cons_succ])
          | (refine wpList_load_rowg (by rfl) 50 _ (by rfl) (bl) (by rfl) 50 (slC (lastS L)) (0, 0) _ (by exact blF) Try.underlying50 (by rfl) (sizeSlot.trans (by rw [slC_size])) ?_; simp only [Act.put, List.setIfInBounds_toArray, List.set_cons_zero, List.set_cons_succ])
          | fail)
        clear s0 nE blE hbE HRDe
        generalize ((we.alloc (.cells (slC sl0) 50)).setRow we.heap.size (slC ls)) = wf at *
        refine (HEN.out wf).mono ?_
        rintro e wg ⟨rfl, hbg⟩
        have HRDg : Hid (RD wg w.heap.size g 16 (fun _ => 0) 0 lg1 q2 C r m v1 L1) := HRDf.out.below hbg
        have sG := sF.below hbg sF.lt
        have blG := blF.below hbg blF.lt
        have hbG : Below w.heap.size w wg := hbF.trans (hbg.mono hbF.size)
        clear hbg sF nF blF hbF HRDf
        go_wp2_with fail
        refine (HDN.out wg).mono ?_
        rintro e wh ⟨rfl, hbh⟩
        have HRDh : Hid (RD wh w.heap.size g 16 (fun _ => 0) 0 lg1 q2 C r m v1 L1) := HRDg.out.below hbh
        have sH := sG.below hbh sG.lt
        have blH := blG.below hbh blG.lt
        have hbH : Below w.heap.size w wh := hbG.trans (hbh.mono hbG.size)
        clear hbh sG blG hbG HRDg
        have c0 := Blk.new wh 50 (slC sl0)
        have cJ := c0.set (slC ls)
        have sJ : Blk ((wh.alloc (.cells (slC sl0) 50)).setRow wh.heap.size (slC ls)) we.heap.size 50 (slC ls) := (sH.alloc _).other _ (Nat.ne_of_lt sH.lt)
        have blJ : Blk ((wh.alloc (.cells (slC sl0) 50)).setRow wh.heap.size (slC ls)) bl 50 (slC (lastS L)) := (blH.alloc _).other _ (Nat.ne_of_lt blH.lt)
        have hbJ : Below w.heap.size w ((wh.alloc (.cells (slC sl0) 50)).setRow wh.heap.size (slC ls)) := below_setRow (hbH.alloc hbH.size _) hbH.size _
        have HRDj : Hid (RD ((wh.alloc (.cells (slC sl0) 50)).setRow wh.heap.size (slC ls)) w.heap.size g 16 (fun _ => 0) 0 lg1 q2 C r m v1 L1) := HRDh.out.below (below_setRow (below_new1 _ _) (Nat.le_refl _) _)
        go_wp2_with (first
          | (refine wpList_store_row (by rfl) 50 _ _ (by rfl) (wh.heap.size) (slC ls) (by rfl) (by rfl) 50 (slC sl0) (by exact c0) (sizeSlot.trans (by rw [slC_size])) (by simp only [slC_size]) (slC_all _) ?_; simp only [Act.put, List.setIfInBounds_toArray, List.set_cons_zero, List.set_cons_succ])
          | (refine wpList_load_rowg (by rfl) 50 _ (by rfl) (wh.heap.size) (by rfl) 50 (slC ls) (0, 0) _ (by exact cJ) Try.underlying50 (by rfl) (sizeSlot.trans (by rw [slC_size])) ?_; simp only [Act.put, List.setIfInBounds_toArray, List.set_cons_zero, List.set_cons_succ])
          | (refine wpList_load_rowg (by rfl) 50 _ (by rfl) (we.heap.size) (by rfl) 50 (slC ls) (0, 0) _ (by exact sJ) Try.underlying50 (by rfl) (sizeSlot.trans (by rw [slC_size])) ?_; simp only [Act.put, List.setIfInBounds_toArray, List.set_cons_zero, List.set_cons_succ])
          | (refine wpList_load_rowg (by rfl) 50 _ (by rfl) (bl) (by rfl) 50 (slC (lastS L)) (0, 0) _ (by exact blJ) Try.underlying50 (by rfl) (sizeSlot.trans (by rw [slC_size])) ?_; simp only [Act.put, List.setIfInBounds_toArray, List.set_cons_zero, List.set_cons_succ])
          | fail)
        clear c0 cJ sH blH hbH HRDh
        generalize ((wh.alloc (.cells (slC sl0) 50)).setRow wh.heap.size (slC ls)) = wj at *
        refine (HAN.out wj).mono ?_
        rintro e wk ⟨rfl, hbk⟩
        have HRDk : Hid (RD wk w.heap.size g 16 (fun _ => 0) 0 lg1 q2 C r m v1 L1) := HRDj.out.below hbk
        have sK := sJ.below hbk sJ.lt
        have blK := blJ.below hbk blJ.lt
        have hbK : Below w.heap.size w wk := hbJ.trans (hbk.mono hbJ.size)
        clear hbk sJ blJ hbJ HRDj
        have HRDl : Hid (RD (wk.setRow bl (slC ls)) w.heap.size g 16 (fun _ => 0) 0 lg1 q2 C r m v1 L1) := HRDk.out.setRow blK HNbl2.out _
        have HblL : Hid (Blk (wk.setRow bl (slC ls)) bl 50 (slC (lastS L1))) := by
          rw [← HLS.out]
          exact blK.set _
        have hbL : Below w.heap.size w (wk.setRow bl (slC ls)) := below_setRow hbK hblw _
        go_wp2_with (first
          | (refine wpList_load_rowg (by rfl) 50 _ (by rfl) (we.heap.size) (by rfl) 50 (slC ls) (0, 0) _ (by exact sK) Try.underlying50 (by rfl) (sizeSlot.trans (by rw [slC_size])) ?_; simp only [Act.put, List.setIfInBounds_toArray, List.set_cons_zero, List.set_cons_succ])
          | (refine wpList_store_row (by rfl) 50 _ _ (by rfl) (bl) (slC ls) (by rfl) (by rfl) 50 (slC (lastS L)) (by exact blK) (sizeSlot.trans (by rw [slC_size])) (by simp only [slC_size]) (slC_all _) ?_; simp only [Act.put, List.setIfInBounds_toArray, List.set_cons_zero, List.set_cons_succ])
          | fail)
        refine ⟨⟨i + 1, by omega, by simp, L1, q2, v1, lg1, HRDl.out, HQ2.out, HCN1.out, HGD1.out, ⟨HLL1.out, by have := HLG1.out; omega⟩, HblL.out, HNbl2.out, hbL⟩, ?_⟩
        simp [intOf]
        try omega
      · have HLN : Hid (ls = nx) := by
          show ls = nx
          rw [hls, hL1, lastS_snoc]
        clear hls hL1
        have heq1 : ∀ W, (Op.equalIn 10000 50 (.agg (slC ls)) (.agg (slC nx))).run Try.prog W = .ok true W := fun W => by
          have := eq_slot ls nx W
          rw [decide_eq_true HLN.out] at this
          exact this
        have heq3 : ∀ W, (Op.equalIn 10000 50 (.agg (slC ls)) (.agg (slC ls))).run Try.prog W = .ok true W := fun W => by
          have := eq_slot ls ls W
          rw [decide_eq_true rfl] at this
          exact this
        go_wp2_with fail
        refine (rdRevive HQ1.out wc HRC.out).mono ?_
        rintro e wd ⟨rfl, q2, h2, hq2, hev2, hm2⟩
        have HRDd : Hid (RD wd w.heap.size g 16 (fun _ => 0) 0 lg1 q2 C r m v1 L1) := h2
        have HQ2 : Hid (QuietC q2.cu false q2 (i + 1)) := hq2
        obtain ⟨nD, HND0⟩ := hm2.blk nC HNC.out
        obtain ⟨blD, HNbl0⟩ := hm2.blk blC HNbl.out
        have HNbl2 : Hid (¬ rdfoot g 16 q2 r m v1 bl) := HNbl0
        have hbd : Below w.heap.size w wd := hbc.trans (HRC.out.low hbc.size hm2)
        have HRE : Hid (Calls Try.prog 29 #[.pointer (some ⟨r, 0, none⟩)] wd fun e w' => e = .returned (.tuple #[.agg (slC ls), .int .i64 0]) ∧ Below wd.heap.size wd w') := by
          have := rdRead (by have := HLL1.out; omega) wd HRDd.out
          rw [HQ2.out.dd] at this
          rw [HLS.out]
          exact this
        clear h2 hq2 hev2 hm2 nC blC HNC HNbl HRC HQ1 hbc HNbl0 HND0
        go_wp2_with fail
        refine HRE.out.mono ?_
        rintro e we ⟨rfl, hbe⟩
        have HRDe : Hid (RD we w.heap.size g 16 (fun _ => 0) 0 lg1 q2 C r m v1 L1) := HRDd.out.below hbe
        have nE := nD.below hbe nD.lt
        have blE := blD.below hbe blD.lt
        have hbE : Below w.heap.size w we := hbd.trans (hbe.mono hbd.size)
        clear HRE hbe hbd nD blD HRDd
        have s0 := Blk.new we 50 (slC sl0)
        have sF := s0.set (slC ls)
        have nF : Blk ((we.alloc (.cells (slC sl0) 50)).setRow we.heap.size (slC ls)) (wr.heap.size + 1) 50 (slC nx) := (nE.alloc _).other _ (Nat.ne_of_lt nE.lt)
        have blF : Blk ((we.alloc (.cells (slC sl0) 50)).setRow we.heap.size (slC ls)) bl 50 (slC (lastS L)) := (blE.alloc _).other _ (Nat.ne_of_lt blE.lt)
        have hbF : Below w.heap.size w ((we.alloc (.cells (slC sl0) 50)).setRow we.heap.size (slC ls)) := below_setRow (hbE.alloc hbE.size _) hbE.size _
        have HRDf : Hid (RD ((we.alloc (.cells (slC sl0) 50)).setRow we.heap.size (slC ls)) w.heap.size g 16 (fun _ => 0) 0 lg1 q2 C r m v1 L1) := HRDe.out.below (below_setRow (below_new1 _ _) (Nat.le_refl _) _)
        go_wp2_with (first
          | (refine wpList_store_row (by rfl) 50 _ _ (by rfl) (we.heap.size) (slC ls) (by rfl) (by rfl) 50 (slC sl0) (by exact s0) (sizeSlot.trans (by rw [slC_size])) (by simp only [slC_size]) (slC_all _) ?_; simp only [Act.put, List.setIfInBounds_toArray, List.set_cons_zero, List.set_cons_succ])
          | (refine wpList_load_rowg (by rfl) 50 _ (by rfl) (we.heap.size) (by rfl) 50 (slC ls) (0, 0) _ (by exact sF) Try.underlying50 (by rfl) (sizeSlot.trans (by rw [slC_size])) ?_; simp only [Act.put, List.setIfInBounds_toArray, List.set_cons_zero, List.set_cons_succ])
          | (refine wpList_load_rowg (by rfl) 50 _ (by rfl) (wr.heap.size + 1) (by rfl) 50 (slC nx) (0, 0) _ (by exact nF) Try.underlying50 (by rfl) (sizeSlot.trans (by rw [slC_size])) ?_; simp only [Act.put, List.setIfInBounds_toArray, List.set_cons_zero, List.set_cons_succ])
          | (refine wpList_load_rowg (by rfl) 50 _ (by rfl) (bl) (by rfl) 50 (slC (lastS L)) (0, 0) _ (by exact blF) Try.underlying50 (by rfl) (sizeSlot.trans (by rw [slC_size])) ?_; simp only [Act.put, List.setIfInBounds_toArray, List.set_cons_zero, List.set_cons_succ])
          | fail)
        clear s0 nE blE hbE HRDe
        generalize ((we.alloc (.cells (slC sl0) 50)).setRow we.heap.size (slC ls)) = wf at *
        refine (HEN.out wf).mono ?_
        rintro e wg ⟨rfl, hbg⟩
        have HRDg : Hid (RD wg w.heap.size g 16 (fun _ => 0) 0 lg1 q2 C r m v1 L1) := HRDf.out.below hbg
        have sG := sF.below hbg sF.lt
        have blG := blF.below hbg blF.lt
        have hbG : Below w.heap.size w wg := hbF.trans (hbg.mono hbF.size)
        clear hbg sF nF blF hbF HRDf
        go_wp2_with fail
        refine (HDN.out wg).mono ?_
        rintro e wh ⟨rfl, hbh⟩
        have HRDh : Hid (RD wh w.heap.size g 16 (fun _ => 0) 0 lg1 q2 C r m v1 L1) := HRDg.out.below hbh
        have sH := sG.below hbh sG.lt
        have blH := blG.below hbh blG.lt
        have hbH : Below w.heap.size w wh := hbG.trans (hbh.mono hbG.size)
        clear hbh sG blG hbG HRDg
        have c0 := Blk.new wh 50 (slC sl0)
        have cJ := c0.set (slC ls)
        have sJ : Blk ((wh.alloc (.cells (slC sl0) 50)).setRow wh.heap.size (slC ls)) we.heap.size 50 (slC ls) := (sH.alloc _).other _ (Nat.ne_of_lt sH.lt)
        have blJ : Blk ((wh.alloc (.cells (slC sl0) 50)).setRow wh.heap.size (slC ls)) bl 50 (slC (lastS L)) := (blH.alloc _).other _ (Nat.ne_of_lt blH.lt)
        have hbJ : Below w.heap.size w ((wh.alloc (.cells (slC sl0) 50)).setRow wh.heap.size (slC ls)) := below_setRow (hbH.alloc hbH.size _) hbH.size _
        have HRDj : Hid (RD ((wh.alloc (.cells (slC sl0) 50)).setRow wh.heap.size (slC ls)) w.heap.size g 16 (fun _ => 0) 0 lg1 q2 C r m v1 L1) := HRDh.out.below (below_setRow (below_new1 _ _) (Nat.le_refl _) _)
        go_wp2_with (first
          | (refine wpList_store_row (by rfl) 50 _ _ (by rfl) (wh.heap.size) (slC ls) (by rfl) (by rfl) 50 (slC sl0) (by exact c0) (sizeSlot.trans (by rw [slC_size])) (by simp only [slC_size]) (slC_all _) ?_; simp only [Act.put, List.setIfInBounds_toArray, List.set_cons_zero, List.set_cons_succ])
          | (refine wpList_load_rowg (by rfl) 50 _ (by rfl) (wh.heap.size) (by rfl) 50 (slC ls) (0, 0) _ (by exact cJ) Try.underlying50 (by rfl) (sizeSlot.trans (by rw [slC_size])) ?_; simp only [Act.put, List.setIfInBounds_toArray, List.set_cons_zero, List.set_cons_succ])
          | (refine wpList_load_rowg (by rfl) 50 _ (by rfl) (we.heap.size) (by rfl) 50 (slC ls) (0, 0) _ (by exact sJ) Try.underlying50 (by rfl) (sizeSlot.trans (by rw [slC_size])) ?_; simp only [Act.put, List.setIfInBounds_toArray, List.set_cons_zero, List.set_cons_succ])
          | (refine wpList_load_rowg (by rfl) 50 _ (by rfl) (bl) (by rfl) 50 (slC (lastS L)) (0, 0) _ (by exact blJ) Try.underlying50 (by rfl) (sizeSlot.trans (by rw [slC_size])) ?_; simp only [Act.put, List.setIfInBounds_toArray, List.set_cons_zero, List.set_cons_succ])
          | fail)
        clear c0 cJ sH blH hbH HRDh
        generalize ((wh.alloc (.cells (slC sl0) 50)).setRow wh.heap.size (slC ls)) = wj at *
        refine (HAN.out wj).mono ?_
        rintro e wk ⟨rfl, hbk⟩
        have HRDk : Hid (RD wk w.heap.size g 16 (fun _ => 0) 0 lg1 q2 C r m v1 L1) := HRDj.out.below hbk
        have sK := sJ.below hbk sJ.lt
        have blK := blJ.below hbk blJ.lt
        have hbK : Below w.heap.size w wk := hbJ.trans (hbk.mono hbJ.size)
        clear hbk sJ blJ hbJ HRDj
        have HRDl : Hid (RD (wk.setRow bl (slC ls)) w.heap.size g 16 (fun _ => 0) 0 lg1 q2 C r m v1 L1) := HRDk.out.setRow blK HNbl2.out _
        have HblL : Hid (Blk (wk.setRow bl (slC ls)) bl 50 (slC (lastS L1))) := by
          rw [← HLS.out]
          exact blK.set _
        have hbL : Below w.heap.size w (wk.setRow bl (slC ls)) := below_setRow hbK hblw _
        go_wp2_with (first
          | (refine wpList_load_rowg (by rfl) 50 _ (by rfl) (we.heap.size) (by rfl) 50 (slC ls) (0, 0) _ (by exact sK) Try.underlying50 (by rfl) (sizeSlot.trans (by rw [slC_size])) ?_; simp only [Act.put, List.setIfInBounds_toArray, List.set_cons_zero, List.set_cons_succ])
          | (refine wpList_store_row (by rfl) 50 _ _ (by rfl) (bl) (slC ls) (by rfl) (by rfl) 50 (slC (lastS L)) (by exact blK) (sizeSlot.trans (by rw [slC_size])) (by simp only [slC_size]) (slC_all _) ?_; simp only [Act.put, List.setIfInBounds_toArray, List.set_cons_zero, List.set_cons_succ])
          | fail)
        refine ⟨⟨i + 1, by omega, by simp, L1, q2, v1, lg1, HRDl.out, HQ2.out, HCN1.out, HGD1.out, ⟨HLL1.out, by have := HLG1.out; omega⟩, HblL.out, HNbl2.out, hbL⟩, ?_⟩
        simp [intOf]
        try omega
      · have HLO : Hid (ls = lastS L) := by
          show ls = lastS L
          rw [hls, hL1]
        have HLN : Hid (¬ ls = nx) := fun h => by
          have h1 := HHT.out.2.2.1
          rw [← h, HLO.out] at h1
          omega
        clear hls hL1
        have heq1 : ∀ W, (Op.equalIn 10000 50 (.agg (slC ls)) (.agg (slC nx))).run Try.prog W = .ok false W := fun W => by
          have := eq_slot ls nx W
          rw [decide_eq_false HLN.out] at this
          exact this
        have heq2 : ∀ W, (Op.equalIn 10000 50 (.agg (slC ls)) (.agg (slC (lastS L)))).run Try.prog W = .ok true W := fun W => by
          have := eq_slot ls (lastS L) W
          rw [decide_eq_true HLO.out] at this
          exact this
        have heq3 : ∀ W, (Op.equalIn 10000 50 (.agg (slC ls)) (.agg (slC ls))).run Try.prog W = .ok true W := fun W => by
          have := eq_slot ls ls W
          rw [decide_eq_true rfl] at this
          exact this
        go_wp2_with fail
        refine (rdRevive HQ1.out wc HRC.out).mono ?_
        rintro e wd ⟨rfl, q2, h2, hq2, hev2, hm2⟩
        have HRDd : Hid (RD wd w.heap.size g 16 (fun _ => 0) 0 lg1 q2 C r m v1 L1) := h2
        have HQ2 : Hid (QuietC q2.cu false q2 (i + 1)) := hq2
        obtain ⟨nD, HND0⟩ := hm2.blk nC HNC.out
        obtain ⟨blD, HNbl0⟩ := hm2.blk blC HNbl.out
        have HNbl2 : Hid (¬ rdfoot g 16 q2 r m v1 bl) := HNbl0
        have hbd : Below w.heap.size w wd := hbc.trans (HRC.out.low hbc.size hm2)
        have HRE : Hid (Calls Try.prog 29 #[.pointer (some ⟨r, 0, none⟩)] wd fun e w' => e = .returned (.tuple #[.agg (slC ls), .int .i64 0]) ∧ Below wd.heap.size wd w') := by
          have := rdRead (by have := HLL1.out; omega) wd HRDd.out
          rw [HQ2.out.dd] at this
          rw [HLS.out]
          exact this
        clear h2 hq2 hev2 hm2 nC blC HNC HNbl HRC HQ1 hbc HNbl0 HND0
        go_wp2_with fail
        refine HRE.out.mono ?_
        rintro e we ⟨rfl, hbe⟩
        have HRDe : Hid (RD we w.heap.size g 16 (fun _ => 0) 0 lg1 q2 C r m v1 L1) := HRDd.out.below hbe
        have nE := nD.below hbe nD.lt
        have blE := blD.below hbe blD.lt
        have hbE : Below w.heap.size w we := hbd.trans (hbe.mono hbd.size)
        clear HRE hbe hbd nD blD HRDd
        have s0 := Blk.new we 50 (slC sl0)
        have sF := s0.set (slC ls)
        have nF : Blk ((we.alloc (.cells (slC sl0) 50)).setRow we.heap.size (slC ls)) (wr.heap.size + 1) 50 (slC nx) := (nE.alloc _).other _ (Nat.ne_of_lt nE.lt)
        have blF : Blk ((we.alloc (.cells (slC sl0) 50)).setRow we.heap.size (slC ls)) bl 50 (slC (lastS L)) := (blE.alloc _).other _ (Nat.ne_of_lt blE.lt)
        have hbF : Below w.heap.size w ((we.alloc (.cells (slC sl0) 50)).setRow we.heap.size (slC ls)) := below_setRow (hbE.alloc hbE.size _) hbE.size _
        have HRDf : Hid (RD ((we.alloc (.cells (slC sl0) 50)).setRow we.heap.size (slC ls)) w.heap.size g 16 (fun _ => 0) 0 lg1 q2 C r m v1 L1) := HRDe.out.below (below_setRow (below_new1 _ _) (Nat.le_refl _) _)
        go_wp2_with (first
          | (refine wpList_store_row (by rfl) 50 _ _ (by rfl) (we.heap.size) (slC ls) (by rfl) (by rfl) 50 (slC sl0) (by exact s0) (sizeSlot.trans (by rw [slC_size])) (by simp only [slC_size]) (slC_all _) ?_; simp only [Act.put, List.setIfInBounds_toArray, List.set_cons_zero, List.set_cons_succ])
          | (refine wpList_load_rowg (by rfl) 50 _ (by rfl) (we.heap.size) (by rfl) 50 (slC ls) (0, 0) _ (by exact sF) Try.underlying50 (by rfl) (sizeSlot.trans (by rw [slC_size])) ?_; simp only [Act.put, List.setIfInBounds_toArray, List.set_cons_zero, List.set_cons_succ])
          | (refine wpList_load_rowg (by rfl) 50 _ (by rfl) (wr.heap.size + 1) (by rfl) 50 (slC nx) (0, 0) _ (by exact nF) Try.underlying50 (by rfl) (sizeSlot.trans (by rw [slC_size])) ?_; simp only [Act.put, List.setIfInBounds_toArray, List.set_cons_zero, List.set_cons_succ])
          | (refine wpList_load_rowg (by rfl) 50 _ (by rfl) (bl) (by rfl) 50 (slC (lastS L)) (0, 0) _ (by exact blF) Try.underlying50 (by rfl) (sizeSlot.trans (by rw [slC_size])) ?_; simp only [Act.put, List.setIfInBounds_toArray, List.set_cons_zero, List.set_cons_succ])
          | fail)
        clear s0 nE blE hbE HRDe
        generalize ((we.alloc (.cells (slC sl0) 50)).setRow we.heap.size (slC ls)) = wf at *
        refine (HEN.out wf).mono ?_
        rintro e wg ⟨rfl, hbg⟩
        have HRDg : Hid (RD wg w.heap.size g 16 (fun _ => 0) 0 lg1 q2 C r m v1 L1) := HRDf.out.below hbg
        have sG := sF.below hbg sF.lt
        have blG := blF.below hbg blF.lt
        have hbG : Below w.heap.size w wg := hbF.trans (hbg.mono hbF.size)
        clear hbg sF nF blF hbF HRDf
        go_wp2_with fail
        refine (HDN.out wg).mono ?_
        rintro e wh ⟨rfl, hbh⟩
        have HRDh : Hid (RD wh w.heap.size g 16 (fun _ => 0) 0 lg1 q2 C r m v1 L1) := HRDg.out.below hbh
        have sH := sG.below hbh sG.lt
        have blH := blG.below hbh blG.lt
        have hbH : Below w.heap.size w wh := hbG.trans (hbh.mono hbG.size)
        clear hbh sG blG hbG HRDg
        have c0 := Blk.new wh 50 (slC sl0)
        have cJ := c0.set (slC ls)
        have sJ : Blk ((wh.alloc (.cells (slC sl0) 50)).setRow wh.heap.size (slC ls)) we.heap.size 50 (slC ls) := (sH.alloc _).other _ (Nat.ne_of_lt sH.lt)
        have blJ : Blk ((wh.alloc (.cells (slC sl0) 50)).setRow wh.heap.size (slC ls)) bl 50 (slC (lastS L)) := (blH.alloc _).other _ (Nat.ne_of_lt blH.lt)
        have hbJ : Below w.heap.size w ((wh.alloc (.cells (slC sl0) 50)).setRow wh.heap.size (slC ls)) := below_setRow (hbH.alloc hbH.size _) hbH.size _
        have HRDj : Hid (RD ((wh.alloc (.cells (slC sl0) 50)).setRow wh.heap.size (slC ls)) w.heap.size g 16 (fun _ => 0) 0 lg1 q2 C r m v1 L1) := HRDh.out.below (below_setRow (below_new1 _ _) (Nat.le_refl _) _)
        go_wp2_with (first
          | (refine wpList_store_row (by rfl) 50 _ _ (by rfl) (wh.heap.size) (slC ls) (by rfl) (by rfl) 50 (slC sl0) (by exact c0) (sizeSlot.trans (by rw [slC_size])) (by simp only [slC_size]) (slC_all _) ?_; simp only [Act.put, List.setIfInBounds_toArray, List.set_cons_zero, List.set_cons_succ])
          | (refine wpList_load_rowg (by rfl) 50 _ (by rfl) (wh.heap.size) (by rfl) 50 (slC ls) (0, 0) _ (by exact cJ) Try.underlying50 (by rfl) (sizeSlot.trans (by rw [slC_size])) ?_; simp only [Act.put, List.setIfInBounds_toArray, List.set_cons_zero, List.set_cons_succ])
          | (refine wpList_load_rowg (by rfl) 50 _ (by rfl) (we.heap.size) (by rfl) 50 (slC ls) (0, 0) _ (by exact sJ) Try.underlying50 (by rfl) (sizeSlot.trans (by rw [slC_size])) ?_; simp only [Act.put, List.setIfInBounds_toArray, List.set_cons_zero, List.set_cons_succ])
          | (refine wpList_load_rowg (by rfl) 50 _ (by rfl) (bl) (by rfl) 50 (slC (lastS L)) (0, 0) _ (by exact blJ) Try.underlying50 (by rfl) (sizeSlot.trans (by rw [slC_size])) ?_; simp only [Act.put, List.setIfInBounds_toArray, List.set_cons_zero, List.set_cons_succ])
          | fail)
        clear c0 cJ sH blH hbH HRDh
        generalize ((wh.alloc (.cells (slC sl0) 50)).setRow wh.heap.size (slC ls)) = wj at *
        refine (HAN.out wj).mono ?_
        rintro e wk ⟨rfl, hbk⟩
        have HRDk : Hid (RD wk w.heap.size g 16 (fun _ => 0) 0 lg1 q2 C r m v1 L1) := HRDj.out.below hbk
        have sK := sJ.below hbk sJ.lt
        have blK := blJ.below hbk blJ.lt
        have hbK : Below w.heap.size w wk := hbJ.trans (hbk.mono hbJ.size)
        clear hbk sJ blJ hbJ HRDj
        have HRDl : Hid (RD (wk.setRow bl (slC ls)) w.heap.size g 16 (fun _ => 0) 0 lg1 q2 C r m v1 L1) := HRDk.out.setRow blK HNbl2.out _
        have HblL : Hid (Blk (wk.setRow bl (slC ls)) bl 50 (slC (lastS L1))) := by
          rw [← HLS.out]
          exact blK.set _
        have hbL : Below w.heap.size w (wk.setRow bl (slC ls)) := below_setRow hbK hblw _
        go_wp2_with (first
          | (refine wpList_load_rowg (by rfl) 50 _ (by rfl) (we.heap.size) (by rfl) 50 (slC ls) (0, 0) _ (by exact sK) Try.underlying50 (by rfl) (sizeSlot.trans (by rw [slC_size])) ?_; simp only [Act.put, List.setIfInBounds_toArray, List.set_cons_zero, List.set_cons_succ])
          | (refine wpList_store_row (by rfl) 50 _ _ (by rfl) (bl) (slC ls) (by rfl) (by rfl) 50 (slC (lastS L)) (by exact blK) (sizeSlot.trans (by rw [slC_size])) (by simp only [slC_size]) (slC_all _) ?_; simp only [Act.put, List.setIfInBounds_toArray, List.set_cons_zero, List.set_cons_succ])
          | fail)
        refine ⟨⟨i + 1, by omega, by simp, L1, q2, v1, lg1, HRDl.out, HQ2.out, HCN1.out, HGD1.out, ⟨HLL1.out, by have := HLG1.out; omega⟩, HblL.out, HNbl2.out, hbL⟩, ?_⟩
        simp [intOf]
        try omega
    · have i1 : ¬ (i : Int) < (n : Int) := by omega
      obtain ⟨k, hk⟩ : ∃ k, k = L.length := ⟨_, rfl⟩
      have HK : Hid (k = L.length) := hk
      have hkb : k ≤ 1048576 := by omega
      have HWR : Hid (Calls Try.prog 30 #[.pointer (some ⟨r, 0, none⟩)] wr fun e w' => ∃ a c, e = .returned (.slice a k c) ∧ w'.ownsRow wr.heap.size 50 34 (.slice a k c) k (slL L) ∧ Below wr.heap.size wr w') := by
        rw [hk]
        exact written_at wr (by omega) HRD.out.reg
      have HLK : Hid ((lastS L).1 = k) := by
        show (lastS L).1 = k
        rw [hk]
        exact HCN.out.last
      clear hk hlt hLi hlg hin
      go_wp2_with fail
      refine HWR.out.mono ?_
      rintro e ww ⟨aw, cw, rfl, how, hbw⟩
      have HOW : Hid (ww.ownsRow wr.heap.size 50 34 (.slice aw k cw) k (slL L)) := how
      have HREG : Hid (RegAt ww w.heap.size r m (some ⟨g, 0, none⟩) v L) := HRD.out.reg.below hbw
      have blW := hbl.below hbw hbl.lt
      have hbW : Below w.heap.size w ww := hb.trans (hbw.mono hb.size)
      clear how hbw HWR HRD HQ HNE hbl hb
      go_wp2_with fail
      go_loopw [112] (fun t wx => ∃ j : Nat, j ≤ k ∧ t = .int .i64 (j : Int) ∧ Below ww.heap.size ww wx) (fun t _ => k - (intOf t).toNat)
      case atStart => exact ⟨0, Nat.zero_le _, rfl, Below.refl _ _⟩
      case round =>
        obtain ⟨j, hjk, rfl, hbx⟩ := hrel
        by_cases hj : j < k
        · obtain ⟨sj, hsj⟩ : ∃ sj, L[j]? = some sj := ⟨_, List.getElem?_eq_getElem (by rw [← HK.out]; exact hj)⟩
          obtain ⟨g5, c5, hv5, hg5, hg6⟩ := kown_form HOW.out (by omega)
          injection hv5 with hv5 _ hv6
          subst hv5 hv6
          have HRX : Hid (wr.rangeAt g5 (j * 34) ((List.range 34).map (slF sj))) := by
            have h1 := kown_below HOW.out hbx
            have h2 := HK.out
            rw [h2] at h1
            exact own_slot h1 j sj hsj
          have j0 : (0 : Int) ≤ (j : Int) := by omega
          have j1 : (j : Int) < (k : Int) := by omega
          have HCJ : Hid (sj.1 = j + 1) := HCN.out j sj hsj
          have l0 := Blk.new wr 50 (slC sl0)
          have l1 := l0.set (slC sj)
          have x0 : ((wr.alloc (.cells (slC sl0) 50)).setRow wr.heap.size (slC sj)).cell? ⟨wr.heap.size, 0, none⟩ = some (.int .u64 ((j : Int) + 1)) := by
            rw [l1.cell]
            refine (va_at (slF sj) (by decide)).trans ?_
            show some (Value.int .u64 ((sj.1 : Nat) : Int)) = _
            rw [HCJ.out]
            rfl
          have e5 : (j : Int) % 18446744073709551616 = (j : Int) := by omega
          have hbl5 : Below ww.heap.size ww ((wr.alloc (.cells (slC sl0) 50)).setRow wr.heap.size (slC sj)) := below_setRow (hbx.alloc hbx.size _) hbx.size _
          have HWS : Hid (∀ W, Below ww.heap.size ww W → Calls Try.prog 19 #[.pointer (some ⟨r, 0, none⟩), .agg (slC sj)] W fun e w' => e = .returned (.bool true) ∧ Below W.heap.size W w') := fun W hW => by
            have := was_at sj W (HREG.out.below hW)
            rw [decide_eq_true (List.mem_of_getElem? hsj)] at this
            exact this
          clear hsj
          go_wp2_with (first
            | (refine wpList_load_blk (by rfl) 50 _ (by rfl) (g5) (j * 34) 34 (slF sj) (by rfl) _ (by exact HRX.out) Try.underlying50 rfl sizeSlot ?_; simp only [Act.put, List.setIfInBounds_toArray, List.set_cons_zero, List.set_cons_succ])
            | (refine wpList_store_row (by rfl) 50 _ _ (by rfl) (wr.heap.size) (slC sj) (by rfl) (by rfl) 50 (slC sl0) (by exact l0) (sizeSlot.trans (by rw [slC_size])) (by simp only [slC_size]) (slC_all _) ?_; simp only [Act.put, List.setIfInBounds_toArray, List.set_cons_zero, List.set_cons_succ])
            | (refine wpList_load_rowg (by rfl) 50 _ (by rfl) (wr.heap.size) (by rfl) 50 (slC sj) (0, 0) _ (by exact l1) Try.underlying50 (by rfl) (sizeSlot.trans (by rw [slC_size])) ?_; simp only [Act.put, List.setIfInBounds_toArray, List.set_cons_zero, List.set_cons_succ])
            | fail)
          clear l0 l1 x0
          generalize ((wr.alloc (.cells (slC sl0) 50)).setRow wr.heap.size (slC sj)) = wl at *
          refine (HWS.out wl hbl5).mono ?_
          rintro e wm ⟨rfl, hbm⟩
          have hbM : Below ww.heap.size ww wm := hbl5.trans (hbm.mono hbl5.size)
          go_wp2_with fail
          refine ⟨⟨j + 1, by omega, by simp, hbM⟩, ?_⟩
          simp [intOf]
          try omega
        · have j1 : ¬ (j : Int) < (k : Int) := by omega
          have blX := blW.below hbx blW.lt
          have x0 : wr.cell? ⟨bl, 0, none⟩ = some (.int .u64 (k : Int)) := by
            rw [blX.cell]
            refine (va_at (slF (lastS L)) (by decide)).trans ?_
            show some (Value.int .u64 (((lastS L).1 : Nat) : Int)) = _
            rw [HLK.out]
          have HSW : Hid (Calls Try.prog 31 #[.pointer (some ⟨r, 0, none⟩)] wr fun e w' => e = .returned (.int .i64 (k : Int)) ∧ wr = w') := by
            rw [HK.out]
            exact swings_at wr (HREG.out.below hbx)
          have hbE : Below w.heap.size w wr := hbW.trans (hbx.mono hbW.size)
          clear hj hjk blX
          go_wp2_with fail
          refine HSW.out.mono ?_
          rintro e _ ⟨rfl, rfl⟩
          go_wp2_with fail
          go_ret
          exact ⟨rfl, hbE⟩
end Go.Proofs.Ytlmbokfgogkbmaa
