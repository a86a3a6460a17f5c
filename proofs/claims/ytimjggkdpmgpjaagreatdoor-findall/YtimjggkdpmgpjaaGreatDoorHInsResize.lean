/- Inodes in the memory alone: resize. -/
import Derived.Test.YtimjggkdpmgpjaaGreatDoorHInsSetC
import Derived.Handy

namespace Go.Proofs.YtimjggkdpmgpjaaGreatDoor
theorem sgLHInsResize : (∀ (α : Type) (a : α) (l r : List α), (a :: l) ++ r = a :: (l ++ r)) ∧ (∀ (α : Type) (l : List α), [] ++ l = l) ∧ (∀ (α : Type) (l : List α), l ++ [] = l) ∧ (∀ (α β : Type) (f : α → Option β) (a : α) (l : List α), (a :: l).filterMap f = match f a with | none => l.filterMap f | some b => b :: l.filterMap f) ∧ (∀ (α β : Type) (f : α → Option β), [].filterMap f = []) ∧ (∀ (α : Type) (l : List α) (i : Nat), l.toArray[i]? = l[i]?) ∧ (∀ (α : Type) (a : α) (l : List α), (a :: l)[0]? = some a) ∧ (∀ (α : Type) (a : α) (l : List α) (i : Nat), (a :: l)[i + 1]? = l[i]?) :=
  ⟨fun _ _ _ _ => List.cons_append, fun _ _ => List.nil_append _, fun _ _ => List.append_nil _, fun _ _ _ _ _ => List.filterMap_cons, fun _ _ _ => List.filterMap_nil, fun _ _ _ => List.getElem?_toArray, fun _ _ _ => List.getElem?_cons_zero, fun _ _ _ _ => List.getElem?_cons_succ⟩
theorem sgPHInsResize : (∀ (α : Type) (l : List α) (i : Nat) (a : α), l.toArray.setIfInBounds i a = (l.set i a).toArray) ∧ (∀ (α : Type) (a b : α) (l : List α), (a :: l).set 0 b = b :: l) ∧ (∀ (α : Type) (a b : α) (l : List α) (i : Nat), (a :: l).set (i + 1) b = a :: l.set i b) :=
  ⟨fun _ _ _ _ => List.setIfInBounds_toArray _ _ _, fun _ _ _ _ => List.set_cons_zero, fun _ _ _ _ _ => List.set_cons_succ⟩
end Go.Proofs.YtimjggkdpmgpjaaGreatDoor
namespace Go.Proofs.YtimjggkdpmgpjaaGreatDoor
open Go Go.RowKit
set_option linter.unusedSimpArgs false
set_option linter.unusedVariables false
/-- what is behind a size is gone -/
def rsD (D : Nat → Nat → Nat → Nat) (n sz : Nat) : Nat → Nat → Nat → Nat := fun m q i => if m = n then (if 256 * q + i < sz then D n q i else 0) else D m q i
/-- leaves from one on, up to another one, are none -/
def goD (D : Nat → Nat → Nat → Nat) (n a j : Nat) : Nat → Nat → Nat → Nat := fun m q i => if m = n ∧ a ≤ q ∧ q < j then 0 else D m q i
theorem hd_putF {w : World} {b t : Nat} {y : Hd} (H : Blk w b t (hdC y)) (l : Int) : Blk (w.setCell ⟨b, 43, none⟩ (.int .i64 l)) b t (hdC ((⟨y.o, y.n, y.k, y.l, y.s, y.t, l, y.set⟩ : Hd))) := by
  have := H.put 43 (.int .i64 l)
  rw [show (hdC y).setIfInBounds 43 (.int .i64 l) = hdC ((⟨y.o, y.n, y.k, y.l, y.s, y.t, l, y.set⟩ : Hd)) from ?_] at this
  · exact this
  · unfold hdC
    rw [va_set]
    refine va_congr fun i hi => ?_
    unfold upd hdF
    by_cases e : i = 43
    · subst e
      rfl
    · rw [if_neg e]
      by_cases h1 : i < 38
      · rw [if_pos h1, if_pos h1]
        try rfl
      · rw [if_neg h1, if_neg h1]
        by_cases h2 : i < 43
        · rw [if_pos h2, if_pos h2]
          try rfl
        · rw [if_neg h2, if_neg h2, if_neg (by omega), if_neg (by omega)]
section
variable {w w' : World} {x mf ml mc : Nat} {cp : Option Addr} {top : Int} {H : Nat → Hd} {D : Nat → Nat → Nat → Nat}
theorem IM.congr {D' : Nat → Nat → Nat → Nat} (h : IM w x mf ml mc cp top H D) (e : ∀ m q i, i < 256 → D m q i = D' m q i) : IM w x mf ml mc cp top H D' := by
  obtain ⟨M, l1, l2⟩ := h.lm
  exact ⟨h.ix, h.fm, ⟨M, l1, fun m q i hi => (l2 m q i hi).trans (e m q i hi)⟩, h.cm, h.ne⟩
/-- a leaf taken away -/
theorem IM.del (h : IM w x mf ml mc cp top H D) (n a j : Nat) : ∃ w', (∀ ty, (Builtin.delete_ #[133, 188] ty #[.map (some ml), .agg #[.int .i64 (n : Int), .int .i64 0, .int .i64 (j : Int)]]).run Tryz.prog w = .ok (.tuple #[]) w') ∧ IM w' x mf ml mc cp top H (fun m q i => if m = n ∧ q = j then 0 else D m q i) ∧ Keeps ml w w' := by
  obtain ⟨M, l1, l2⟩ := h.lm
  obtain ⟨w', g1, g2, g3⟩ := l1.del Tryz.underlying133 pk_key ((n : Int), 0, (j : Int))
  have hl := h.lts
  have hn := h.ne
  refine ⟨w', g1, ⟨g3.blk h.ix hn.2.1, ?_, ⟨_, g2, fun m q i hi => ?_⟩, ?_, hn⟩, g3⟩
  · obtain ⟨M', m1, m2⟩ := h.fm
    exact ⟨M', m1.keep (g3.2 mf hn.2.2.2.1 hl.2.1), m2⟩
  · by_cases e : m = n ∧ q = j
    · rw [if_pos e, if_pos (by rw [e.1, e.2])]
    · rw [if_neg e, if_neg (fun c => e (by
        injection c with c1 c2
        injection c2 with c2 c3
        exact ⟨by omega, by omega⟩))]
      exact l2 m q i hi
  · obtain ⟨c, hc⟩ := h.cm
    exact ⟨c, (g3.2 mc (Ne.symm hn.2.2.2.2.2) hl.2.2.2).trans hc⟩
set_option maxRecDepth 100000 in
set_option maxHeartbeats 16000000 in
theorem IM.resize (h : IM w x mf ml mc cp top H D) (n b : Nat) (y : Hd) (o sz : Nat) (hy : y.n = (n : Int)) (hl : y.left = 0) (ho : y.s = (o : Int)) (hob : o ≤ 1048576) (hsb : sz ≤ 1048576) (hZ : ∀ q i, i < 256 → o ≤ 256 * q + i → D n q i = 0) (hB : Blk w b 140 (hdC y)) (hb : b ≠ x ∧ b ≠ mf ∧ b ≠ ml ∧ b ≠ mc) : Calls Tryz.prog 87 #[.pointer (some ⟨x, 0, none⟩), .pointer (some ⟨b, 0, none⟩), .int .i64 (sz : Int)] w fun e w' => e = .returned (.int .i64 0) ∧ IM w' x mf ml mc cp top H (rsD D n sz) ∧ Blk w' b 140 (hdC (hdZ (if 0 < sz % 256 ∧ sz < o then hdS y else y) (sz : Int))) ∧ Turns (fun z => z = ml ∨ z = b) w w' := by
  have HLV : Hid (∀ k : Nat, k ≤ 1048576 → ∀ w : World, Calls Tryz.prog 112 #[.int .i64 (k : Int)] w fun e w' => e = .returned (.int .i64 (((k + 255) / 256 : Nat) : Int)) ∧ w' = w) := leavesOf_any
  have HLA : Hid (∀ (j : Nat) (w : World), Calls Tryz.prog 76 #[.int .i64 (n : Int), .int .i64 (j : Int)] w fun e w' => e = .returned (.agg #[.int .i64 (n : Int), .int .i64 0, .int .i64 (j : Int)]) ∧ Below w.heap.size w w') := fun j => leafAt_any (n : Int) (j : Int)
  have HNB : Hid (b ≠ x ∧ b ≠ mf ∧ b ≠ ml ∧ b ≠ mc) := hb
  have HOB : Hid (o ≤ 1048576 ∧ sz ≤ 1048576) := ⟨hob, hsb⟩
  have r1 : (sz : Int).tmod 256 = ((sz % 256 : Nat) : Int) := rfl
  have r2 : (sz : Int).tdiv 256 = ((sz / 256 : Nat) : Int) := rfl
  by_cases hT : 0 < sz % 256 ∧ sz < o
  · rw [if_pos hT]
    have hL : (sz + 255) / 256 = sz / 256 + 1 := by omega
    have HD0 : Hid (∀ m q i, i < 256 → goD (dU D n (sz / 256) (upF (D n (sz / 256)) (sz % 256))) n ((sz + 255) / 256) ((o + 255) / 256) m q i = rsD D n sz m q i) := fun m q i hi => by
      unfold goD rsD dU upF
      by_cases e : m = n
      · subst e
        rw [if_pos rfl]
        by_cases g2 : (sz + 255) / 256 ≤ q ∧ q < (o + 255) / 256
        · rw [if_pos ⟨rfl, g2⟩, if_neg (by omega)]
        · rw [if_neg (fun c => g2 c.2)]
          by_cases g3 : q = sz / 256
          · rw [if_pos ⟨rfl, g3⟩, g3]
            by_cases g4 : i < sz % 256
            · rw [if_pos g4, if_pos (by omega)]
            · rw [if_neg g4, if_neg (by omega)]
          · rw [if_neg (fun c => g3 c.2)]
            by_cases g4 : 256 * q + i < sz
            · rw [if_pos g4]
            · rw [if_neg g4]
              exact hZ q i hi (by omega)
      · rw [if_neg e, if_neg (fun c => e c.1), if_neg (fun c => e c.1)]
    obtain ⟨lq, hlq⟩ : ∃ lq : Nat, sz / 256 = lq := ⟨_, rfl⟩
    obtain ⟨pt, hpt⟩ : ∃ pt : Nat, sz % 256 = pt := ⟨_, rfl⟩
    have HD1 : Hid (∀ m q i, i < 256 → goD (dU D n lq (upF (D n lq) pt)) n ((sz + 255) / 256) ((o + 255) / 256) m q i = rsD D n sz m q i) := by
      have := HD0
      rw [hlq, hpt] at this
      exact this
    have u1 : (sz : Int).tmod 256 = (pt : Int) := by rw [← hpt]; rfl
    have u2 : (sz : Int).tdiv 256 = (lq : Int) := by rw [← hlq]; rfl
    have u3 : (sz : Int) % 256 = (pt : Int) := by omega
    have u4 : (sz : Int) / 256 = (lq : Int) := by omega
    have u5 : (lq : Int) ≤ 4096 := by omega
    have u6 : (pt : Int) < 256 := by omega
    have u7 : (sz : Int) ≤ 1048576 := by omega
    have hT1 : 0 < pt := by omega
    have hT2 : sz < o := hT.2
    clear r1 r2 HD0
    have c41 := (hd_c41 hB).trans (show some (Value.int .i64 y.s) = some (.int .i64 (o : Int)) by rw [ho])
    have i3 : (0 : Int) < (pt : Int) := by omega
    have i2 : (sz : Int) < (o : Int) := by omega
    have HLO := h.leafOf n lq y hy (by rw [hl]; omega)
    have HUP : Hid (∀ V : World, Calls Tryz.prog 111 #[.agg (va 256 (iv .u8 (D n lq))), .int .i64 (pt : Int)] V fun e w' => e = .returned (.agg (va 256 (iv .u8 (upF (D n lq) pt)))) ∧ Below V.heap.size V w') := upTo_any _ pt (by omega)
    have HSE : Hid (∀ V, IM V x mf ml mc cp top H D → Blk V b 140 (hdC y) → Calls Tryz.prog 110 #[.pointer (some ⟨x, 0, none⟩), .pointer (some ⟨b, 0, none⟩), .int .i64 (lq : Int), .agg (va 256 (iv .u8 (upF (D n lq) pt)))] V fun e w' => e = .returned (.tuple #[]) ∧ IM w' x mf ml mc cp top H (dU D n lq (upF (D n lq) pt)) ∧ Blk w' b 140 (hdC (hdS y)) ∧ Turns (fun z => z = ml ∨ z = b) V w') := fun V h1 h2 => h1.set n lq b y hy _ h2 hb
    have HS0 : Hid (IM w x mf ml mc cp top H D ∧ Blk w b 140 (hdC y)) := ⟨h, hB⟩
    have HYY : Hid ((hdS y).n = (n : Int) ∧ (hdS y).left = 0 ∧ (hdS y).s = (o : Int)) := ⟨hy, hl, ho⟩
    have hz := zero_bk
    clear h hob hsb hZ hy hl ho hL hb hT hlq hpt
    go_enter Tryz.func87, Tryz.ntmps87
    go_wp2_with (first
      | (refine wpList_load_rowg (by rfl) 140 _ (by rfl) (b) (by rfl) 140 (hdC y) (0, 0) _ (by exact hB) Tryz.underlying140 (by rfl) (sizeHd.trans (by rw [hdC_size])) ?_; simp only [Act.put, sgPHInsResize])
      | fail)
    refine HLO.mono ?_
    rintro e w2 ⟨rfl, hb2⟩
    generalize hdf : D n lq = df at *
    have q3 : Blk (w2.alloc (.cells (va 256 (iv .u8 fun _ => 0)) 207)) w2.heap.size 207 (va 256 (iv .u8 fun _ => 0)) := Blk.new _ _ _
    have q3' := q3.set (va 256 (iv .u8 df))
    have hb3' : Below w2.heap.size w2 ((w2.alloc (.cells (va 256 (iv .u8 fun _ => 0)) 207)).setRow w2.heap.size (va 256 (iv .u8 df))) := below_setRow (below_new1 _ _) (Nat.le_refl _) _
    have hb3 := hb2.trans (hb3'.mono hb2.size)
    have HB3 : Hid (Below w.heap.size w ((w2.alloc (.cells (va 256 (iv .u8 fun _ => 0)) 207)).setRow w2.heap.size (va 256 (iv .u8 df)))) := hb3
    clear HLO hb2 hb3 hb3' hB c41
    go_wp2_with (first
      | (refine wpList_store_row (by rfl) 207 _ _ (by rfl) (w2.heap.size) (va 256 (iv .u8 df)) (by rfl) (by rfl) 207 (va 256 (iv .u8 fun _ => 0)) (by exact q3) (sizeBk.trans (by rw [va_size])) (by simp only [va_size]) (iv_one _ _ _) ?_; simp only [Act.put, sgPHInsResize])
      | (refine wpList_load_rowg (by rfl) 207 _ (by rfl) (w2.heap.size) (by rfl) 207 (va 256 (iv .u8 df)) (0, 0) _ (by exact q3') Tryz.underlying207 (by rfl) (sizeBk.trans (by rw [va_size])) ?_; simp only [Act.put, sgPHInsResize])
      | fail)
    clear q3
    generalize ((w2.alloc (.cells (va 256 (iv .u8 fun _ => 0)) 207)).setRow w2.heap.size (va 256 (iv .u8 df))) = w3 at *
    refine (HUP.out w3).mono ?_
    rintro e w4 ⟨rfl, hb4⟩
    have hb04 := HB3.out.trans (hb4.mono HB3.out.size)
    have HS4 := HSE.out w4 (HS0.out.1.below hb04) (HS0.out.2.below hb04 HS0.out.2.lt)
    have HB4 : Hid (Below w.heap.size w w4) := hb04
    clear hb4 hb04 HUP HSE q3' HB3
    go_wp2_with fail
    refine HS4.mono ?_
    rintro e w5 ⟨rfl, hI5, hB5, ht5⟩
    subst hdf
    have HST : Hid (IM w5 x mf ml mc cp top H (dU D n lq (upF (D n lq) pt)) ∧ Blk w5 b 140 (hdC (hdS y))) := ⟨hI5, hB5⟩
    have HTU : Hid (Turns (fun z => z = ml ∨ z = b) w w5) := (Turns.bel HB4.out).tr ht5
    clear hI5 hB5 ht5 HS4 HB4 HS0
    go_wp2_with fail
    refine (HLV.out sz HOB.out.2 _).mono ?_
    rintro e w9 ⟨rfl, hw9⟩
    subst w9
    go_wp2_with fail
    go_loopw [11] (fun t wr => Hid (∃ j : Nat, ((sz + 255) / 256) ≤ j ∧ (j ≤ ((o + 255) / 256) ∨ j = ((sz + 255) / 256)) ∧ t = .int .i64 (j : Int) ∧ IM wr x mf ml mc cp top H (goD (dU D n lq (upF (D n lq) pt)) n ((sz + 255) / 256) j) ∧ Blk wr b 140 (hdC (hdS y)) ∧ Turns (fun z => z = ml ∨ z = b) w wr)) (fun t _ => ((o + 255) / 256) - (intOf t).toNat)
    case atStart => exact ⟨_, Nat.le_refl _, .inr rfl, rfl, HST.out.1.congr fun m q i hi => by unfold goD; rw [if_neg (by omega)], HST.out.2, HTU.out⟩
    case round =>
      obtain ⟨j, hj1, hj2, rfl, hI, hB, ht⟩ := Hid.out hrel
      clear hrel
      have d41 := (hd_c41 hB).trans (show some (Value.int .i64 (hdS y).s) = some (.int .i64 (o : Int)) by rw [HYY.out.2.2])
      have HR : Hid (IM wr x mf ml mc cp top H (goD (dU D n lq (upF (D n lq) pt)) n ((sz + 255) / 256) j) ∧ Blk wr b 140 (hdC (hdS y)) ∧ Turns (fun z => z = ml ∨ z = b) w wr) := ⟨hI, hB, ht⟩
      clear hI hB ht
      have jb : (j : Int) ≤ 4097 := by have := HOB.out; omega
      go_wp2_with fail
      refine (HLV.out o HOB.out.1 _).mono ?_
      rintro e w9 ⟨rfl, hw9⟩
      subst w9
      by_cases hlt : j < ((o + 255) / 256)
      · have hlt' : (j : Int) < ((((o + 255) / 256) : Nat) : Int) := by omega
        have HJ : Hid (((sz + 255) / 256) ≤ j ∧ j < ((o + 255) / 256)) := ⟨hj1, hlt⟩
        go_wp2_with fail
        have hSd : Blk wr.drew x 136 (ixC cp 0 rf0 0 top mf ml mc) ∧ Blk wr.drew b 140 (hdC (hdS y)) := ⟨HR.out.1.ix, HR.out.2.1⟩
        have HRD : Hid (IM wr.drew x mf ml mc cp top H (goD (dU D n lq (upF (D n lq) pt)) n ((sz + 255) / 256) j) ∧ Turns (fun z => z = ml ∨ z = b) w wr.drew) := ⟨HR.out.1.below ((Below.refl _ _).drew), HR.out.2.2.tr (Turns.bel ((Below.refl _ _).drew))⟩
        refine wp_region_partsS (fun W => Blk W x 136 (ixC cp 0 rf0 0 top mf ml mc) ∧ Blk W b 140 (hdC (hdS y))) [([0, 4, 9], 1, true), ([], 2, true), ([], 3, true), ([], 5, false), ([], 6, false), ([], 7, false), ([], 8, false), ([], 10, false)] [] [11] (by kernel_rfl) (by kernel_rfl) hSd (partsI_yield ?_)
        generalize wr.drew = w6 at *
        simp only [sgLHInsResize]
        go_wp2_with fail
        refine ⟨rfl, _, .pointer (some ⟨x, 0, none⟩), rfl, Or.inl ⟨by rfl, fun W hW => by go_simp⟩, partsI_yield ?_⟩
        simp only [Act.put, sgPHInsResize]
        simp only [sgLHInsResize]
        go_wp2_with fail
        refine ⟨rfl, _, .pointer (some ⟨x, 38, none⟩), rfl, Or.inl ⟨by rfl, fun W hW => by go_simp⟩, partsI_yield ?_⟩
        simp only [Act.put, sgPHInsResize]
        simp only [sgLHInsResize]
        go_wp2_with fail
        refine ⟨rfl, _, .map (some ml), rfl, Or.inl ⟨by rfl, fun W hW => by have hW1 := ix_c38 hW.1; go_simp⟩, partsI_force ?_⟩
        simp only [Act.put, sgPHInsResize]
        simp only [sgLHInsResize]
        go_wp2_with fail
        refine ⟨rfl, hSd, partsI_force ?_⟩
        simp only [sgLHInsResize]
        go_wp2_with fail
        refine ⟨rfl, hSd, partsI_force ?_⟩
        simp only [sgLHInsResize]
        go_wp2_with fail
        refine ⟨rfl, hSd, partsI_force ?_⟩
        simp only [sgLHInsResize]
        have d38 := (hd_c38 hSd.2).trans (show some (Value.int .i64 (hdS y).n) = some (.int .i64 (n : Int)) by rw [HYY.out.1])
        go_wp2_with fail
        clear d38
        refine ⟨rfl, hSd, partsI_force ?_⟩
        simp only [sgLHInsResize]
        go_wp2_with fail
        refine (HLA.out j _).mono ?_
        rintro e w7 ⟨rfl, hb7⟩
        have S7 : Blk w7 x 136 (ixC cp 0 rf0 0 top mf ml mc) ∧ Blk w7 b 140 (hdC (hdS y)) := ⟨hSd.1.below hb7 hSd.1.lt, hSd.2.below hb7 hSd.2.lt⟩
        go_wp2_with fail
        refine ⟨rfl, S7, partsI_last ?_⟩
        simp only [sgLHInsResize]
        have hI7 := HRD.out.1.below hb7
        obtain ⟨w8, hdl, hI8, hk8⟩ := hI7.del n ((sz + 255) / 256) j
        have HE : Hid (IM w8 x mf ml mc cp top H (goD (dU D n lq (upF (D n lq) pt)) n ((sz + 255) / 256) (j + 1)) ∧ Blk w8 b 140 (hdC (hdS y)) ∧ Turns (fun z => z = ml ∨ z = b) w w8) := ⟨hI8.congr fun m q i hi => by
          unfold goD
          by_cases e : m = n ∧ q = j
          · rw [if_pos e, if_pos ⟨e.1, by have := HJ.out; omega, by omega⟩]
          · rw [if_neg e]
            by_cases e2 : m = n ∧ ((sz + 255) / 256) ≤ q ∧ q < j
            · rw [if_pos e2, if_pos ⟨e2.1, e2.2.1, by omega⟩]
            · rw [if_neg e2, if_neg (fun c => e2 ⟨c.1, c.2.1, by
                have : ¬ q = j := fun h => e ⟨c.1, h⟩
                omega⟩)], hk8.blk S7.2 HNB.out.2.2.1, HRD.out.2.tr ((Turns.bel hb7).tr ((Turns.keeps hk8).wider fun z _ hz => .inl hz))⟩
        clear hI7 hI8 hk8 hb7 S7 hSd
        go_wp2_with fail
        refine ⟨rfl, ?_⟩
        go_wp2_with fail
        go_roundw
        case rel => exact ⟨j + 1, by have := HJ.out; omega, .inl HJ.out.2, by first | rfl | go_num | simp, HE.out.1, HE.out.2.1, HE.out.2.2⟩
        case measure => simp [intOf]; have := HJ.out; omega
      · have hlt' : ¬ (j : Int) < ((((o + 255) / 256) : Nat) : Int) := by omega
        have HJ : Hid ((((o + 255) / 256) ≤ ((sz + 255) / 256) ∧ j = ((sz + 255) / 256)) ∨ j = ((o + 255) / 256)) := by
          show _ ∨ _
          omega
        go_wp2_with fail
        have hSd : Blk wr.drew b 140 (hdC (hdS y)) := HR.out.2.1
        refine wp_region_partsS (fun W => Blk W b 140 (hdC (hdS y))) [([0, 1, 5], 2, true), ([], 3, true), ([], 4, true), ([], 6, false), ([], 7, false), ([], 8, false), ([], 9, false)] [] [10] (by kernel_rfl) (by kernel_rfl) hSd (partsI_yield ?_)
        have HID : Hid (IM wr.drew x mf ml mc cp top H (goD (dU D n lq (upF (D n lq) pt)) n ((sz + 255) / 256) j) ∧ Turns (fun z => z = ml ∨ z = b) w wr.drew) := ⟨HR.out.1.below ((Below.refl _ _).drew), HR.out.2.2.tr (Turns.bel ((Below.refl _ _).drew))⟩
        generalize wr.drew = w6 at *
        have g43 := hd_c43 hSd
        have k43 : w6.frozen? ⟨b, 43, none⟩ = false := hSd.frozen 43
        simp only [sgLHInsResize]
        go_wp2_with fail
        refine ⟨rfl, _, .pointer (some ⟨b, 0, none⟩), rfl, Or.inl ⟨by rfl, fun W hW => by go_simp⟩, partsI_yield ?_⟩
        simp only [Act.put, sgPHInsResize]
        simp only [sgLHInsResize]
        go_wp2_with fail
        refine ⟨rfl, _, .pointer (some ⟨b, 43, none⟩), rfl, Or.inl ⟨by rfl, fun W hW => by go_simp⟩, partsI_yield ?_⟩
        simp only [Act.put, sgPHInsResize]
        simp only [sgLHInsResize]
        go_wp2_with fail
        refine ⟨rfl, _, .int .i64 0, rfl, Or.inl ⟨by rfl, fun W hW => by have hW1 := (hd_c43 hW).trans (show some (Value.int .i64 (hdS y).left) = some (.int .i64 0) by rw [HYY.out.2.1]); go_simp⟩, partsI_force ?_⟩
        simp only [Act.put, sgPHInsResize]
        simp only [sgLHInsResize]
        go_wp2_with fail
        refine (HLV.out sz HOB.out.2 _).mono ?_
        rintro e w9 ⟨rfl, hw9⟩
        subst w9
        go_wp2_with fail
        refine ⟨rfl, hSd, partsI_force ?_⟩
        simp only [sgLHInsResize]
        go_wp2_with fail
        refine ⟨rfl, hSd, partsI_force ?_⟩
        simp only [sgLHInsResize]
        go_wp2_with fail
        refine ⟨rfl, hSd, partsI_force ?_⟩
        simp only [sgLHInsResize]
        go_wp2_with fail
        refine ⟨rfl, hSd, partsI_last ?_⟩
        simp only [sgLHInsResize]
        have q7 : Blk (w6.setCell ⟨b, 43, none⟩ (.int .i64 0)) b 140 (hdC (hdS y)) := by
          have := hd_putF hSd 0
          rw [show (⟨(hdS y).o, (hdS y).n, (hdS y).k, (hdS y).l, (hdS y).s, (hdS y).t, 0, (hdS y).set⟩ : Hd) = (hdS y) by rw [← HYY.out.2.1]] at this
          exact this
        have q8 := hd_putZ q7 (sz : Int)
        have HI8 : Hid (IM ((w6.setCell ⟨b, 43, none⟩ (.int .i64 0)).setCell ⟨b, 41, none⟩ (.int .i64 (sz : Int))) x mf ml mc cp top H (goD (dU D n lq (upF (D n lq) pt)) n ((sz + 255) / 256) j) ∧ Blk ((w6.setCell ⟨b, 43, none⟩ (.int .i64 0)).setCell ⟨b, 41, none⟩ (.int .i64 (sz : Int))) b 140 (hdC (hdZ (hdS y) (sz : Int))) ∧ Turns (fun z => z = ml ∨ z = b) w ((w6.setCell ⟨b, 43, none⟩ (.int .i64 0)).setCell ⟨b, 41, none⟩ (.int .i64 (sz : Int)))) := ⟨(HID.out.1.other b 43 _ HNB.out).other b 41 _ HNB.out, q8, (HID.out.2.tr (Turns.cell _ b 43 _ (.inr rfl))).tr (Turns.cell _ b 41 _ (.inr rfl))⟩
        have g41 := hd_c41 q7
        have k41 : (w6.setCell ⟨b, 43, none⟩ (.int .i64 0)).frozen? ⟨b, 41, none⟩ = false := q7.frozen 41
        have l0 : (0 : Int) ≤ (((((sz + 255) / 256) : Nat)) : Int) := by omega
        have hmin : min (0 : Int) (((sz : Int) + 255) / 256) = 0 := by omega
        clear q8 hSd
        go_wp2_with fail
        refine ⟨rfl, ?_⟩
        go_upto_region 14 with fail
        clear g41 k41 g43 k43 q7
        generalize ((w6.setCell ⟨b, 43, none⟩ (.int .i64 0)).setCell ⟨b, 41, none⟩ (.int .i64 (sz : Int))) = w8 at *
        have S8 : Blk w8.drew x 136 (ixC cp 0 rf0 0 top mf ml mc) ∧ Blk w8.drew b 140 (hdC (hdZ (hdS y) (sz : Int))) := ⟨HI8.out.1.ix, HI8.out.2.1⟩
        have hde : ∀ ty, (Builtin.delete_ #[134, 3] ty #[.map (some mc), .int .i64 (n : Int)]).run Tryz.prog w8.drew = .ok (.tuple #[]) w8.drew := fun ty => del_empty (W := w8.drew) (n : Int) HI8.out.1.cm ty
        have HE : Hid (IM w8.drew x mf ml mc cp top H (rsD D n sz) ∧ Blk w8.drew b 140 (hdC (hdZ (hdS y) (sz : Int))) ∧ Turns (fun z => z = ml ∨ z = b) w w8.drew) := ⟨(HI8.out.1.below ((Below.refl _ _).drew)).congr fun m q i hi => by
          rw [← HD1.out m q i hi]
          unfold goD
          rcases HJ.out with ⟨hj, hj'⟩ | hj
          · rw [if_neg (by omega), if_neg (by omega)]
          · rw [hj], S8.2, HI8.out.2.2.tr (Turns.bel ((Below.refl _ _).drew))⟩
        clear HI8
        refine wp_region_partsS (fun W => Blk W x 136 (ixC cp 0 rf0 0 top mf ml mc) ∧ Blk W b 140 (hdC (hdZ (hdS y) (sz : Int)))) [([0, 4], 1, true), ([], 2, true), ([], 3, true), ([], 5, false), ([], 6, false), ([], 7, false), ([], 8, false)] [] [9] (by kernel_rfl) (by kernel_rfl) S8 (partsI_yield ?_)
        generalize w8.drew = w10 at *
        simp only [sgLHInsResize]
        go_wp2_with fail
        refine ⟨rfl, _, .pointer (some ⟨x, 0, none⟩), rfl, Or.inl ⟨by rfl, fun W hW => by go_simp⟩, partsI_yield ?_⟩
        simp only [Act.put, sgPHInsResize]
        simp only [sgLHInsResize]
        go_wp2_with fail
        refine ⟨rfl, _, .pointer (some ⟨x, 39, none⟩), rfl, Or.inl ⟨by rfl, fun W hW => by go_simp⟩, partsI_yield ?_⟩
        simp only [Act.put, sgPHInsResize]
        simp only [sgLHInsResize]
        go_wp2_with fail
        refine ⟨rfl, _, .map (some mc), rfl, Or.inl ⟨by rfl, fun W hW => by have hW1 := ix_c39 hW.1; go_simp⟩, partsI_force ?_⟩
        simp only [Act.put, sgPHInsResize]
        simp only [sgLHInsResize]
        go_wp2_with fail
        refine ⟨rfl, S8, partsI_force ?_⟩
        simp only [sgLHInsResize]
        go_wp2_with fail
        refine ⟨rfl, S8, partsI_force ?_⟩
        simp only [sgLHInsResize]
        go_wp2_with fail
        refine ⟨rfl, S8, partsI_force ?_⟩
        simp only [sgLHInsResize]
        have e38 := (hd_c38 S8.2).trans (show some (Value.int .i64 (hdS y).n) = some (.int .i64 (n : Int)) by rw [HYY.out.1])
        go_wp2_with fail
        clear e38
        refine ⟨rfl, S8, partsI_last ?_⟩
        simp only [sgLHInsResize]
        go_wp2_with fail
        refine ⟨rfl, ?_⟩
        go_wp2_with fail
        go_ret
        exact ⟨rfl, HE.out.1, HE.out.2.1, HE.out.2.2⟩
  · rw [if_neg hT]
    have HD1 : Hid (∀ m q i, i < 256 → goD D n ((sz + 255) / 256) ((o + 255) / 256) m q i = rsD D n sz m q i) := fun m q i hi => by
      unfold goD rsD
      by_cases e : m = n
      · subst e
        rw [if_pos rfl]
        by_cases g : 256 * q + i < sz
        · rw [if_pos g, if_neg (by omega)]
        · rw [if_neg g]
          by_cases g2 : (sz + 255) / 256 ≤ q ∧ q < (o + 255) / 256
          · rw [if_pos ⟨rfl, g2⟩]
          · rw [if_neg (fun c => g2 c.2)]
            refine hZ q i hi ?_
            by_cases g3 : o ≤ sz
            · omega
            · have : sz % 256 = 0 := by omega
              omega
      · rw [if_neg e, if_neg (fun c => e c.1)]
    have c41 := (hd_c41 hB).trans (show some (Value.int .i64 y.s) = some (.int .i64 (o : Int)) by rw [ho])
    have i1 : 0 < sz % 256 → ¬ ((sz : Int) < (o : Int)) := by omega
    have HST : Hid (IM w x mf ml mc cp top H D ∧ Blk w b 140 (hdC y)) := ⟨h, hB⟩
    have HYY : Hid (y.n = (n : Int) ∧ y.left = 0 ∧ y.s = (o : Int)) := ⟨hy, hl, ho⟩
    clear h hB hb hob hsb hZ hy hl ho
    go_enter Tryz.func87, Tryz.ntmps87
    by_cases hp : 0 < sz % 256
    · have i2 := i1 hp
      have i3 : (0 : Int) < ((sz % 256 : Nat) : Int) := by omega
      have HTU : Hid (Turns (fun z => z = ml ∨ z = b) w w) := Turns.bel (Below.refl _ _)
      go_wp2_with fail
      refine (HLV.out sz HOB.out.2 _).mono ?_
      rintro e w9 ⟨rfl, hw9⟩
      subst w9
      go_wp2_with fail
      go_loopw [11] (fun t wr => Hid (∃ j : Nat, ((sz + 255) / 256) ≤ j ∧ (j ≤ ((o + 255) / 256) ∨ j = ((sz + 255) / 256)) ∧ t = .int .i64 (j : Int) ∧ IM wr x mf ml mc cp top H (goD D n ((sz + 255) / 256) j) ∧ Blk wr b 140 (hdC y) ∧ Turns (fun z => z = ml ∨ z = b) w wr)) (fun t _ => ((o + 255) / 256) - (intOf t).toNat)
      case atStart => exact ⟨_, Nat.le_refl _, .inr rfl, rfl, HST.out.1.congr fun m q i hi => by unfold goD; rw [if_neg (by omega)], HST.out.2, HTU.out⟩
      case round =>
        obtain ⟨j, hj1, hj2, rfl, hI, hB, ht⟩ := Hid.out hrel
        clear hrel
        have d41 := (hd_c41 hB).trans (show some (Value.int .i64 y.s) = some (.int .i64 (o : Int)) by rw [HYY.out.2.2])
        have HR : Hid (IM wr x mf ml mc cp top H (goD D n ((sz + 255) / 256) j) ∧ Blk wr b 140 (hdC y) ∧ Turns (fun z => z = ml ∨ z = b) w wr) := ⟨hI, hB, ht⟩
        clear hI hB ht
        have jb : (j : Int) ≤ 4097 := by have := HOB.out; omega
        go_wp2_with fail
        refine (HLV.out o HOB.out.1 _).mono ?_
        rintro e w9 ⟨rfl, hw9⟩
        subst w9
        by_cases hlt : j < ((o + 255) / 256)
        · exact absurd hlt (by omega)
        · have hlt' : ¬ (j : Int) < ((((o + 255) / 256) : Nat) : Int) := by omega
          have HJ : Hid ((((o + 255) / 256) ≤ ((sz + 255) / 256) ∧ j = ((sz + 255) / 256)) ∨ j = ((o + 255) / 256)) := by
            show _ ∨ _
            omega
          go_wp2_with fail
          have hSd : Blk wr.drew b 140 (hdC y) := HR.out.2.1
          refine wp_region_partsS (fun W => Blk W b 140 (hdC y)) [([0, 1, 5], 2, true), ([], 3, true), ([], 4, true), ([], 6, false), ([], 7, false), ([], 8, false), ([], 9, false)] [] [10] (by kernel_rfl) (by kernel_rfl) hSd (partsI_yield ?_)
          have HID : Hid (IM wr.drew x mf ml mc cp top H (goD D n ((sz + 255) / 256) j) ∧ Turns (fun z => z = ml ∨ z = b) w wr.drew) := ⟨HR.out.1.below ((Below.refl _ _).drew), HR.out.2.2.tr (Turns.bel ((Below.refl _ _).drew))⟩
          generalize wr.drew = w6 at *
          have g43 := hd_c43 hSd
          have k43 : w6.frozen? ⟨b, 43, none⟩ = false := hSd.frozen 43
          simp only [sgLHInsResize]
          go_wp2_with fail
          refine ⟨rfl, _, .pointer (some ⟨b, 0, none⟩), rfl, Or.inl ⟨by rfl, fun W hW => by go_simp⟩, partsI_yield ?_⟩
          simp only [Act.put, sgPHInsResize]
          simp only [sgLHInsResize]
          go_wp2_with fail
          refine ⟨rfl, _, .pointer (some ⟨b, 43, none⟩), rfl, Or.inl ⟨by rfl, fun W hW => by go_simp⟩, partsI_yield ?_⟩
          simp only [Act.put, sgPHInsResize]
          simp only [sgLHInsResize]
          go_wp2_with fail
          refine ⟨rfl, _, .int .i64 0, rfl, Or.inl ⟨by rfl, fun W hW => by have hW1 := (hd_c43 hW).trans (show some (Value.int .i64 y.left) = some (.int .i64 0) by rw [HYY.out.2.1]); go_simp⟩, partsI_force ?_⟩
          simp only [Act.put, sgPHInsResize]
          simp only [sgLHInsResize]
          go_wp2_with fail
          refine (HLV.out sz HOB.out.2 _).mono ?_
          rintro e w9 ⟨rfl, hw9⟩
          subst w9
          go_wp2_with fail
          refine ⟨rfl, hSd, partsI_force ?_⟩
          simp only [sgLHInsResize]
          go_wp2_with fail
          refine ⟨rfl, hSd, partsI_force ?_⟩
          simp only [sgLHInsResize]
          go_wp2_with fail
          refine ⟨rfl, hSd, partsI_force ?_⟩
          simp only [sgLHInsResize]
          go_wp2_with fail
          refine ⟨rfl, hSd, partsI_last ?_⟩
          simp only [sgLHInsResize]
          have q7 : Blk (w6.setCell ⟨b, 43, none⟩ (.int .i64 0)) b 140 (hdC y) := by
            have := hd_putF hSd 0
            rw [show (⟨y.o, y.n, y.k, y.l, y.s, y.t, 0, y.set⟩ : Hd) = y by rw [← HYY.out.2.1]] at this
            exact this
          have q8 := hd_putZ q7 (sz : Int)
          have HI8 : Hid (IM ((w6.setCell ⟨b, 43, none⟩ (.int .i64 0)).setCell ⟨b, 41, none⟩ (.int .i64 (sz : Int))) x mf ml mc cp top H (goD D n ((sz + 255) / 256) j) ∧ Blk ((w6.setCell ⟨b, 43, none⟩ (.int .i64 0)).setCell ⟨b, 41, none⟩ (.int .i64 (sz : Int))) b 140 (hdC (hdZ y (sz : Int))) ∧ Turns (fun z => z = ml ∨ z = b) w ((w6.setCell ⟨b, 43, none⟩ (.int .i64 0)).setCell ⟨b, 41, none⟩ (.int .i64 (sz : Int)))) := ⟨(HID.out.1.other b 43 _ HNB.out).other b 41 _ HNB.out, q8, (HID.out.2.tr (Turns.cell _ b 43 _ (.inr rfl))).tr (Turns.cell _ b 41 _ (.inr rfl))⟩
          have g41 := hd_c41 q7
          have k41 : (w6.setCell ⟨b, 43, none⟩ (.int .i64 0)).frozen? ⟨b, 41, none⟩ = false := q7.frozen 41
          have l0 : (0 : Int) ≤ (((((sz + 255) / 256) : Nat)) : Int) := by omega
          have hmin : min (0 : Int) (((sz : Int) + 255) / 256) = 0 := by omega
          clear q8 hSd
          go_wp2_with fail
          refine ⟨rfl, ?_⟩
          go_upto_region 14 with fail
          clear g41 k41 g43 k43 q7
          generalize ((w6.setCell ⟨b, 43, none⟩ (.int .i64 0)).setCell ⟨b, 41, none⟩ (.int .i64 (sz : Int))) = w8 at *
          have S8 : Blk w8.drew x 136 (ixC cp 0 rf0 0 top mf ml mc) ∧ Blk w8.drew b 140 (hdC (hdZ y (sz : Int))) := ⟨HI8.out.1.ix, HI8.out.2.1⟩
          have hde : ∀ ty, (Builtin.delete_ #[134, 3] ty #[.map (some mc), .int .i64 (n : Int)]).run Tryz.prog w8.drew = .ok (.tuple #[]) w8.drew := fun ty => del_empty (W := w8.drew) (n : Int) HI8.out.1.cm ty
          have HE : Hid (IM w8.drew x mf ml mc cp top H (rsD D n sz) ∧ Blk w8.drew b 140 (hdC (hdZ y (sz : Int))) ∧ Turns (fun z => z = ml ∨ z = b) w w8.drew) := ⟨(HI8.out.1.below ((Below.refl _ _).drew)).congr fun m q i hi => by
            rw [← HD1.out m q i hi]
            unfold goD
            rcases HJ.out with ⟨hj, hj'⟩ | hj
            · rw [if_neg (by omega), if_neg (by omega)]
            · rw [hj], S8.2, HI8.out.2.2.tr (Turns.bel ((Below.refl _ _).drew))⟩
          clear HI8
          refine wp_region_partsS (fun W => Blk W x 136 (ixC cp 0 rf0 0 top mf ml mc) ∧ Blk W b 140 (hdC (hdZ y (sz : Int)))) [([0, 4], 1, true), ([], 2, true), ([], 3, true), ([], 5, false), ([], 6, false), ([], 7, false), ([], 8, false)] [] [9] (by kernel_rfl) (by kernel_rfl) S8 (partsI_yield ?_)
          generalize w8.drew = w10 at *
          simp only [sgLHInsResize]
          go_wp2_with fail
          refine ⟨rfl, _, .pointer (some ⟨x, 0, none⟩), rfl, Or.inl ⟨by rfl, fun W hW => by go_simp⟩, partsI_yield ?_⟩
          simp only [Act.put, sgPHInsResize]
          simp only [sgLHInsResize]
          go_wp2_with fail
          refine ⟨rfl, _, .pointer (some ⟨x, 39, none⟩), rfl, Or.inl ⟨by rfl, fun W hW => by go_simp⟩, partsI_yield ?_⟩
          simp only [Act.put, sgPHInsResize]
          simp only [sgLHInsResize]
          go_wp2_with fail
          refine ⟨rfl, _, .map (some mc), rfl, Or.inl ⟨by rfl, fun W hW => by have hW1 := ix_c39 hW.1; go_simp⟩, partsI_force ?_⟩
          simp only [Act.put, sgPHInsResize]
          simp only [sgLHInsResize]
          go_wp2_with fail
          refine ⟨rfl, S8, partsI_force ?_⟩
          simp only [sgLHInsResize]
          go_wp2_with fail
          refine ⟨rfl, S8, partsI_force ?_⟩
          simp only [sgLHInsResize]
          go_wp2_with fail
          refine ⟨rfl, S8, partsI_force ?_⟩
          simp only [sgLHInsResize]
          have e38 := (hd_c38 S8.2).trans (show some (Value.int .i64 y.n) = some (.int .i64 (n : Int)) by rw [HYY.out.1])
          go_wp2_with fail
          clear e38
          refine ⟨rfl, S8, partsI_last ?_⟩
          simp only [sgLHInsResize]
          go_wp2_with fail
          refine ⟨rfl, ?_⟩
          go_wp2_with fail
          go_ret
          exact ⟨rfl, HE.out.1, HE.out.2.1, HE.out.2.2⟩
    · have i3 : ¬ (0 : Int) < ((sz % 256 : Nat) : Int) := by omega
      have HTU : Hid (Turns (fun z => z = ml ∨ z = b) w w) := Turns.bel (Below.refl _ _)
      go_wp2_with fail
      refine (HLV.out sz HOB.out.2 _).mono ?_
      rintro e w9 ⟨rfl, hw9⟩
      subst w9
      go_wp2_with fail
      go_loopw [11] (fun t wr => Hid (∃ j : Nat, ((sz + 255) / 256) ≤ j ∧ (j ≤ ((o + 255) / 256) ∨ j = ((sz + 255) / 256)) ∧ t = .int .i64 (j : Int) ∧ IM wr x mf ml mc cp top H (goD D n ((sz + 255) / 256) j) ∧ Blk wr b 140 (hdC y) ∧ Turns (fun z => z = ml ∨ z = b) w wr)) (fun t _ => ((o + 255) / 256) - (intOf t).toNat)
      case atStart => exact ⟨_, Nat.le_refl _, .inr rfl, rfl, HST.out.1.congr fun m q i hi => by unfold goD; rw [if_neg (by omega)], HST.out.2, HTU.out⟩
      case round =>
        obtain ⟨j, hj1, hj2, rfl, hI, hB, ht⟩ := Hid.out hrel
        clear hrel
        have d41 := (hd_c41 hB).trans (show some (Value.int .i64 y.s) = some (.int .i64 (o : Int)) by rw [HYY.out.2.2])
        have HR : Hid (IM wr x mf ml mc cp top H (goD D n ((sz + 255) / 256) j) ∧ Blk wr b 140 (hdC y) ∧ Turns (fun z => z = ml ∨ z = b) w wr) := ⟨hI, hB, ht⟩
        clear hI hB ht
        have jb : (j : Int) ≤ 4097 := by have := HOB.out; omega
        go_wp2_with fail
        refine (HLV.out o HOB.out.1 _).mono ?_
        rintro e w9 ⟨rfl, hw9⟩
        subst w9
        by_cases hlt : j < ((o + 255) / 256)
        · have hlt' : (j : Int) < ((((o + 255) / 256) : Nat) : Int) := by omega
          have HJ : Hid (((sz + 255) / 256) ≤ j ∧ j < ((o + 255) / 256)) := ⟨hj1, hlt⟩
          go_wp2_with fail
          have hSd : Blk wr.drew x 136 (ixC cp 0 rf0 0 top mf ml mc) ∧ Blk wr.drew b 140 (hdC y) := ⟨HR.out.1.ix, HR.out.2.1⟩
          have HRD : Hid (IM wr.drew x mf ml mc cp top H (goD D n ((sz + 255) / 256) j) ∧ Turns (fun z => z = ml ∨ z = b) w wr.drew) := ⟨HR.out.1.below ((Below.refl _ _).drew), HR.out.2.2.tr (Turns.bel ((Below.refl _ _).drew))⟩
          refine wp_region_partsS (fun W => Blk W x 136 (ixC cp 0 rf0 0 top mf ml mc) ∧ Blk W b 140 (hdC y)) [([0, 4, 9], 1, true), ([], 2, true), ([], 3, true), ([], 5, false), ([], 6, false), ([], 7, false), ([], 8, false), ([], 10, false)] [] [11] (by kernel_rfl) (by kernel_rfl) hSd (partsI_yield ?_)
          generalize wr.drew = w6 at *
          simp only [sgLHInsResize]
          go_wp2_with fail
          refine ⟨rfl, _, .pointer (some ⟨x, 0, none⟩), rfl, Or.inl ⟨by rfl, fun W hW => by go_simp⟩, partsI_yield ?_⟩
          simp only [Act.put, sgPHInsResize]
          simp only [sgLHInsResize]
          go_wp2_with fail
          refine ⟨rfl, _, .pointer (some ⟨x, 38, none⟩), rfl, Or.inl ⟨by rfl, fun W hW => by go_simp⟩, partsI_yield ?_⟩
          simp only [Act.put, sgPHInsResize]
          simp only [sgLHInsResize]
          go_wp2_with fail
          refine ⟨rfl, _, .map (some ml), rfl, Or.inl ⟨by rfl, fun W hW => by have hW1 := ix_c38 hW.1; go_simp⟩, partsI_force ?_⟩
          simp only [Act.put, sgPHInsResize]
          simp only [sgLHInsResize]
          go_wp2_with fail
          refine ⟨rfl, hSd, partsI_force ?_⟩
          simp only [sgLHInsResize]
          go_wp2_with fail
          refine ⟨rfl, hSd, partsI_force ?_⟩
          simp only [sgLHInsResize]
          go_wp2_with fail
          refine ⟨rfl, hSd, partsI_force ?_⟩
          simp only [sgLHInsResize]
          have d38 := (hd_c38 hSd.2).trans (show some (Value.int .i64 y.n) = some (.int .i64 (n : Int)) by rw [HYY.out.1])
          go_wp2_with fail
          clear d38
          refine ⟨rfl, hSd, partsI_force ?_⟩
          simp only [sgLHInsResize]
          go_wp2_with fail
          refine (HLA.out j _).mono ?_
          rintro e w7 ⟨rfl, hb7⟩
          have S7 : Blk w7 x 136 (ixC cp 0 rf0 0 top mf ml mc) ∧ Blk w7 b 140 (hdC y) := ⟨hSd.1.below hb7 hSd.1.lt, hSd.2.below hb7 hSd.2.lt⟩
          go_wp2_with fail
          refine ⟨rfl, S7, partsI_last ?_⟩
          simp only [sgLHInsResize]
          have hI7 := HRD.out.1.below hb7
          obtain ⟨w8, hdl, hI8, hk8⟩ := hI7.del n ((sz + 255) / 256) j
          have HE : Hid (IM w8 x mf ml mc cp top H (goD D n ((sz + 255) / 256) (j + 1)) ∧ Blk w8 b 140 (hdC y) ∧ Turns (fun z => z = ml ∨ z = b) w w8) := ⟨hI8.congr fun m q i hi => by
            unfold goD
            by_cases e : m = n ∧ q = j
            · rw [if_pos e, if_pos ⟨e.1, by have := HJ.out; omega, by omega⟩]
            · rw [if_neg e]
              by_cases e2 : m = n ∧ ((sz + 255) / 256) ≤ q ∧ q < j
              · rw [if_pos e2, if_pos ⟨e2.1, e2.2.1, by omega⟩]
              · rw [if_neg e2, if_neg (fun c => e2 ⟨c.1, c.2.1, by
                  have : ¬ q = j := fun h => e ⟨c.1, h⟩
                  omega⟩)], hk8.blk S7.2 HNB.out.2.2.1, HRD.out.2.tr ((Turns.bel hb7).tr ((Turns.keeps hk8).wider fun z _ hz => .inl hz))⟩
          clear hI7 hI8 hk8 hb7 S7 hSd
          go_wp2_with fail
          refine ⟨rfl, ?_⟩
          go_wp2_with fail
          go_roundw
          case rel => exact ⟨j + 1, by have := HJ.out; omega, .inl HJ.out.2, by first | rfl | go_num | simp, HE.out.1, HE.out.2.1, HE.out.2.2⟩
          case measure => simp [intOf]; have := HJ.out; omega
        · have hlt' : ¬ (j : Int) < ((((o + 255) / 256) : Nat) : Int) := by omega
          have HJ : Hid ((((o + 255) / 256) ≤ ((sz + 255) / 256) ∧ j = ((sz + 255) / 256)) ∨ j = ((o + 255) / 256)) := by
            show _ ∨ _
            omega
          go_wp2_with fail
          have hSd : Blk wr.drew b 140 (hdC y) := HR.out.2.1
          refine wp_region_partsS (fun W => Blk W b 140 (hdC y)) [([0, 1, 5], 2, true), ([], 3, true), ([], 4, true), ([], 6, false), ([], 7, false), ([], 8, false), ([], 9, false)] [] [10] (by kernel_rfl) (by kernel_rfl) hSd (partsI_yield ?_)
          have HID : Hid (IM wr.drew x mf ml mc cp top H (goD D n ((sz + 255) / 256) j) ∧ Turns (fun z => z = ml ∨ z = b) w wr.drew) := ⟨HR.out.1.below ((Below.refl _ _).drew), HR.out.2.2.tr (Turns.bel ((Below.refl _ _).drew))⟩
          generalize wr.drew = w6 at *
          have g43 := hd_c43 hSd
          have k43 : w6.frozen? ⟨b, 43, none⟩ = false := hSd.frozen 43
          simp only [sgLHInsResize]
          go_wp2_with fail
          refine ⟨rfl, _, .pointer (some ⟨b, 0, none⟩), rfl, Or.inl ⟨by rfl, fun W hW => by go_simp⟩, partsI_yield ?_⟩
          simp only [Act.put, sgPHInsResize]
          simp only [sgLHInsResize]
          go_wp2_with fail
          refine ⟨rfl, _, .pointer (some ⟨b, 43, none⟩), rfl, Or.inl ⟨by rfl, fun W hW => by go_simp⟩, partsI_yield ?_⟩
          simp only [Act.put, sgPHInsResize]
          simp only [sgLHInsResize]
          go_wp2_with fail
          refine ⟨rfl, _, .int .i64 0, rfl, Or.inl ⟨by rfl, fun W hW => by have hW1 := (hd_c43 hW).trans (show some (Value.int .i64 y.left) = some (.int .i64 0) by rw [HYY.out.2.1]); go_simp⟩, partsI_force ?_⟩
          simp only [Act.put, sgPHInsResize]
          simp only [sgLHInsResize]
          go_wp2_with fail
          refine (HLV.out sz HOB.out.2 _).mono ?_
          rintro e w9 ⟨rfl, hw9⟩
          subst w9
          go_wp2_with fail
          refine ⟨rfl, hSd, partsI_force ?_⟩
          simp only [sgLHInsResize]
          go_wp2_with fail
          refine ⟨rfl, hSd, partsI_force ?_⟩
          simp only [sgLHInsResize]
          go_wp2_with fail
          refine ⟨rfl, hSd, partsI_force ?_⟩
          simp only [sgLHInsResize]
          go_wp2_with fail
          refine ⟨rfl, hSd, partsI_last ?_⟩
          simp only [sgLHInsResize]
          have q7 : Blk (w6.setCell ⟨b, 43, none⟩ (.int .i64 0)) b 140 (hdC y) := by
            have := hd_putF hSd 0
            rw [show (⟨y.o, y.n, y.k, y.l, y.s, y.t, 0, y.set⟩ : Hd) = y by rw [← HYY.out.2.1]] at this
            exact this
          have q8 := hd_putZ q7 (sz : Int)
          have HI8 : Hid (IM ((w6.setCell ⟨b, 43, none⟩ (.int .i64 0)).setCell ⟨b, 41, none⟩ (.int .i64 (sz : Int))) x mf ml mc cp top H (goD D n ((sz + 255) / 256) j) ∧ Blk ((w6.setCell ⟨b, 43, none⟩ (.int .i64 0)).setCell ⟨b, 41, none⟩ (.int .i64 (sz : Int))) b 140 (hdC (hdZ y (sz : Int))) ∧ Turns (fun z => z = ml ∨ z = b) w ((w6.setCell ⟨b, 43, none⟩ (.int .i64 0)).setCell ⟨b, 41, none⟩ (.int .i64 (sz : Int)))) := ⟨(HID.out.1.other b 43 _ HNB.out).other b 41 _ HNB.out, q8, (HID.out.2.tr (Turns.cell _ b 43 _ (.inr rfl))).tr (Turns.cell _ b 41 _ (.inr rfl))⟩
          have g41 := hd_c41 q7
          have k41 : (w6.setCell ⟨b, 43, none⟩ (.int .i64 0)).frozen? ⟨b, 41, none⟩ = false := q7.frozen 41
          have l0 : (0 : Int) ≤ (((((sz + 255) / 256) : Nat)) : Int) := by omega
          have hmin : min (0 : Int) (((sz : Int) + 255) / 256) = 0 := by omega
          clear q8 hSd
          go_wp2_with fail
          refine ⟨rfl, ?_⟩
          go_upto_region 14 with fail
          clear g41 k41 g43 k43 q7
          generalize ((w6.setCell ⟨b, 43, none⟩ (.int .i64 0)).setCell ⟨b, 41, none⟩ (.int .i64 (sz : Int))) = w8 at *
          have S8 : Blk w8.drew x 136 (ixC cp 0 rf0 0 top mf ml mc) ∧ Blk w8.drew b 140 (hdC (hdZ y (sz : Int))) := ⟨HI8.out.1.ix, HI8.out.2.1⟩
          have hde : ∀ ty, (Builtin.delete_ #[134, 3] ty #[.map (some mc), .int .i64 (n : Int)]).run Tryz.prog w8.drew = .ok (.tuple #[]) w8.drew := fun ty => del_empty (W := w8.drew) (n : Int) HI8.out.1.cm ty
          have HE : Hid (IM w8.drew x mf ml mc cp top H (rsD D n sz) ∧ Blk w8.drew b 140 (hdC (hdZ y (sz : Int))) ∧ Turns (fun z => z = ml ∨ z = b) w w8.drew) := ⟨(HI8.out.1.below ((Below.refl _ _).drew)).congr fun m q i hi => by
            rw [← HD1.out m q i hi]
            unfold goD
            rcases HJ.out with ⟨hj, hj'⟩ | hj
            · rw [if_neg (by omega), if_neg (by omega)]
            · rw [hj], S8.2, HI8.out.2.2.tr (Turns.bel ((Below.refl _ _).drew))⟩
          clear HI8
          refine wp_region_partsS (fun W => Blk W x 136 (ixC cp 0 rf0 0 top mf ml mc) ∧ Blk W b 140 (hdC (hdZ y (sz : Int)))) [([0, 4], 1, true), ([], 2, true), ([], 3, true), ([], 5, false), ([], 6, false), ([], 7, false), ([], 8, false)] [] [9] (by kernel_rfl) (by kernel_rfl) S8 (partsI_yield ?_)
          generalize w8.drew = w10 at *
          simp only [sgLHInsResize]
          go_wp2_with fail
          refine ⟨rfl, _, .pointer (some ⟨x, 0, none⟩), rfl, Or.inl ⟨by rfl, fun W hW => by go_simp⟩, partsI_yield ?_⟩
          simp only [Act.put, sgPHInsResize]
          simp only [sgLHInsResize]
          go_wp2_with fail
          refine ⟨rfl, _, .pointer (some ⟨x, 39, none⟩), rfl, Or.inl ⟨by rfl, fun W hW => by go_simp⟩, partsI_yield ?_⟩
          simp only [Act.put, sgPHInsResize]
          simp only [sgLHInsResize]
          go_wp2_with fail
          refine ⟨rfl, _, .map (some mc), rfl, Or.inl ⟨by rfl, fun W hW => by have hW1 := ix_c39 hW.1; go_simp⟩, partsI_force ?_⟩
          simp only [Act.put, sgPHInsResize]
          simp only [sgLHInsResize]
          go_wp2_with fail
          refine ⟨rfl, S8, partsI_force ?_⟩
          simp only [sgLHInsResize]
          go_wp2_with fail
          refine ⟨rfl, S8, partsI_force ?_⟩
          simp only [sgLHInsResize]
          go_wp2_with fail
          refine ⟨rfl, S8, partsI_force ?_⟩
          simp only [sgLHInsResize]
          have e38 := (hd_c38 S8.2).trans (show some (Value.int .i64 y.n) = some (.int .i64 (n : Int)) by rw [HYY.out.1])
          go_wp2_with fail
          clear e38
          refine ⟨rfl, S8, partsI_last ?_⟩
          simp only [sgLHInsResize]
          go_wp2_with fail
          refine ⟨rfl, ?_⟩
          go_wp2_with fail
          go_ret
          exact ⟨rfl, HE.out.1, HE.out.2.1, HE.out.2.2⟩
end
end Go.Proofs.YtimjggkdpmgpjaaGreatDoor
