/- Directories: Remove. -/
import Derived.Test.YtojnlmfahgeidaaGreatDoorHDiFillK
import Derived.Handy
import Derived.Test.YtojnlmfahgeidaaGreatDoorHMath
import Derived.Test.YtojnlmfahgeidaaGreatDoorHDiLay

namespace Go.Proofs.YtojnlmfahgeidaaGreatDoor
theorem sgLHDiRemove : (∀ (α : Type) (a : α) (l r : List α), (a :: l) ++ r = a :: (l ++ r)) ∧ (∀ (α : Type) (l : List α), [] ++ l = l) ∧ (∀ (α : Type) (l : List α), l ++ [] = l) ∧ (∀ (α β : Type) (f : α → Option β) (a : α) (l : List α), (a :: l).filterMap f = match f a with | none => l.filterMap f | some b => b :: l.filterMap f) ∧ (∀ (α β : Type) (f : α → Option β), [].filterMap f = []) ∧ (∀ (α : Type) (l : List α) (i : Nat), l.toArray[i]? = l[i]?) ∧ (∀ (α : Type) (a : α) (l : List α), (a :: l)[0]? = some a) ∧ (∀ (α : Type) (a : α) (l : List α) (i : Nat), (a :: l)[i + 1]? = l[i]?) :=
  ⟨fun _ _ _ _ => List.cons_append, fun _ _ => List.nil_append _, fun _ _ => List.append_nil _, fun _ _ _ _ _ => List.filterMap_cons, fun _ _ _ => List.filterMap_nil, fun _ _ _ => List.getElem?_toArray, fun _ _ _ => List.getElem?_cons_zero, fun _ _ _ _ => List.getElem?_cons_succ⟩
theorem sgPHDiRemove : (∀ (α : Type) (l : List α) (i : Nat) (a : α), l.toArray.setIfInBounds i a = (l.set i a).toArray) ∧ (∀ (α : Type) (a b : α) (l : List α), (a :: l).set 0 b = b :: l) ∧ (∀ (α : Type) (a b : α) (l : List α) (i : Nat), (a :: l).set (i + 1) b = a :: l.set i b) :=
  ⟨fun _ _ _ _ => List.setIfInBounds_toArray _ _ _, fun _ _ _ _ => List.set_cons_zero, fun _ _ _ _ _ => List.set_cons_succ⟩
end Go.Proofs.YtojnlmfahgeidaaGreatDoor
namespace Go.Proofs.YtojnlmfahgeidaaGreatDoor
open Go Go.RowKit
set_option linter.unusedSimpArgs false
set_option linter.unusedVariables false
theorem IsLk.putN {W : World} {g m : Nat} {N : Nat → Int} {S : Nat → ByteArray} (h : IsLk W g m N S) (r : Nat) (hr : r < m) (i : Int) : IsLk (W.setCell ⟨g, r * 2, none⟩ (.int .i64 i)) g m (upN N r i) S := fun j hj => by
  have a0 := (h j hj).1
  have a1 := (h j hj).2
  unfold upN
  by_cases c : j = r
  · subst c
    rw [if_pos rfl]
    refine ⟨sc_same _ _ _ _ a0, ?_⟩
    rw [sc_other _ _ _ _ (ad_ne (.inr (by omega)))]
    exact a1
  · rw [if_neg c, sc_other _ _ _ _ (ad_ne (.inr (by omega))), sc_other _ _ _ _ (ad_ne (.inr (by omega)))]
    exact ⟨a0, a1⟩
section
variable {w : World} {x mf ml mc : Nat} {cp : Option Addr} {top : Int} {H : Nat → Hd} {D : Nat → Nat → Nat → Nat} {n k st : Nat} {N : Nat → Int} {S : Nat → ByteArray}
set_option maxRecDepth 100000 in
set_option maxHeartbeats 8000000 in
theorem IM.swapOk (h : IM w x mf ml mc cp top H D) (hd : Di H D n k st N S) (i : Int) (s : ByteArray) (hi : encE i s = 0) (p : Nat) (hp : FirstN S k p s) (hpk : p < k) (st' : Nat) : Calls Tryz.prog 54 #[.pointer (some ⟨x, 0, none⟩), .int .i64 (n : Int), .agg #[.int .i64 i, .string s], .int .u64 ((st' : Nat) : Int)] w fun e w' => e = .returned (.tuple #[.int .i64 (N p), .int .i64 0]) ∧ (∃ H' D', IM w' x mf ml mc cp top H' D' ∧ Di H' D' n k st' (upN N p i) S ∧ OthD H H' D D' n) ∧ Turns (fun z => z = ml ∨ z = mf) w w' := by
  have hle := hd.le
  have hlts := h.lts
  obtain ⟨r0, hr⟩ : ∃ r0 : Int, r0 = if p < k then (p : Int) else 0 := ⟨_, rfl⟩
  obtain ⟨er, her⟩ : ∃ er : Int, er = if p < k then 0 else 171 := ⟨_, rfl⟩
  have hSp : S p = s := hp.2.2 hpk
  have hd1 := hd.put p hpk i s hi st'
  have hd2 := hd1.congr (N' := upN N p i) (S' := S) fun q hq => ⟨rfl, by
    unfold upS
    by_cases c : q = p
    · rw [if_pos c, c, hSp]
    · rw [if_neg c]⟩
  have hq : lastQ k p = p / 4 := by unfold lastQ; omega
  have hm4 : p % 4 < inLf k (p / 4) ∧ inLf k (p / 4) ≤ 4 := by unfold inLf; omega
  have HLY : Hid (∀ V, IM V x mf ml mc cp top H D → ∀ (g c : Nat), g < V.heap.size → IsLk V g (inLf k (p / 4)) (upN (shN N (p / 4)) (p % 4) i) (shS S (p / 4)) → Calls Tryz.prog 111 #[.pointer (some ⟨x, 0, none⟩), .int .i64 (n : Int), .int .i64 ((p / 4 : Nat) : Int), .slice (some ⟨g, 0, none⟩) (inLf k (p / 4)) c, .int .u64 ((st' : Nat) : Int)] V fun e w' => e = .returned (.int .i64 0) ∧ (∃ H' D', IM w' x mf ml mc cp top H' D' ∧ Di H' D' n k st' (upN N p i) S ∧ OthD H H' D D' n) ∧ Turns (fun z => z = ml ∨ z = mf) V w') := fun V hV g c hg hI => by
    have hI2 : IsLk V g (inLf k (p / 4)) (shN (upN N p i) (p / 4)) (shS (upS S p s) (p / 4)) := hI.same (Nat.le_refl _) fun j hj => ⟨(sh_up N S p i s j).1.symm, by
      unfold shS upS
      by_cases c : 4 * (p / 4) + j = p
      · rw [if_pos c, c, hSp]
      · rw [if_neg c]⟩
    refine (hV.layD n (p / 4) hd.n1 hd.n2 (by rw [hd.kd]; decide) hd.no (64 * k) st' hd.s (by omega) (by omega) (some ⟨g, 0, none⟩) _ c hm4.2 (fun _ => ⟨g, rfl, hg, hI2⟩) (hd1.four (p / 4))).mono ?_
    rintro e w' ⟨rfl, hI', ht⟩
    exact ⟨rfl, ⟨_, _, hI', hd2, fun m hm => ⟨hUnot _ _ _ _ hm, dUnot _ _ _ _ _ hm⟩⟩, ht⟩
  have HX : Hid ((x < w.heap.size ∧ mf < w.heap.size ∧ ml < w.heap.size ∧ mc < w.heap.size) ∧ p % 4 < inLf k (p / 4) ∧ shN N (p / 4) (p % 4) = N p ∧ IM w x mf ml mc cp top H D) := ⟨hlts, hm4.1, by unfold shN; rw [show 4 * (p / 4) + p % 4 = p by omega], h⟩
  have p1 : (p : Int) < 16384 := by omega
  have e4 : (p : Int) % 4 = ((p % 4 : Nat) : Int) := by omega
  have e5 : (p : Int) / 4 = ((p / 4 : Nat) : Int) := by omega
  have hr4 : p % 4 < 4 := by omega
  have HDR : Hid (∀ V, Below w.heap.size w V → Calls Tryz.prog 57 #[.pointer (some ⟨x, 0, none⟩), .int .i64 (n : Int)] V fun e w' => e = .returned (.tuple #[.agg (nfC (n : Int) 2 (H n).l ((64 * k : Nat) : Int) st), .int .i64 0]) ∧ Below V.heap.size V w') := fun V hV => (h.below hV).dirD hd
  have hzi : ∀ w, (zeroValue 86).run Tryz.prog w = .ok (.agg nf0) w := zero_nf
  have HEN : Hid (∀ V : World, Calls Tryz.prog 109 #[.agg #[.int .i64 i, .string s]] V fun e w' => e = .returned (.tuple #[.string (encT i s), .int .i64 0]) ∧ Below V.heap.size V w') := fun V => by
    have := encode_any i s V
    rw [hi] at this
    exact this
  have HSE : Hid (∀ V, Below w.heap.size w V → Calls Tryz.prog 59 #[.pointer (some ⟨x, 0, none⟩), .agg (nfC (n : Int) 2 (H n).l ((64 * k : Nat) : Int) st), .string s] V fun e w' => ∃ v, e = .returned (.tuple #[.int .i64 r0, v, .int .i64 er]) ∧ w'.ownsRow V.heap.size 36 2 v (inLf k (lastQ k p)) (lkL (shN N (lastQ k p)) (shS S (lastQ k p)) (inLf k (lastQ k p))) ∧ Below V.heap.size V w') := fun V hV => (h.below hV).search hd (H n).l s p hp r0 er hr her
  rw [if_pos hpk] at hr her
  subst hr her
  rw [hq] at HSE
  clear hd1 hd2 hSp hq hlts hle hm4 hp hi
  have HB1 : Hid (Below w.heap.size w (w.alloc (.cells #[.int .i64 i, .string s] 36)) ∧ Blk (w.alloc (.cells #[.int .i64 i, .string s] 36)) w.heap.size 36 #[.int .i64 i, .string s]) := ⟨below_new1 _ _, Blk.new _ _ _⟩
  clear h hd
  generalize (H n).l = l at *
  generalize ((64 * k : Nat) : Int) = z at *
  go_enter Tryz.func54, Tryz.ntmps54
  go_wp2_with fail
  generalize (w.alloc (.cells #[.int .i64 i, .string s] 36)) = w1 at *
  refine (HDR.out w1 HB1.out.1).mono ?_
  rintro e w2 ⟨rfl, hb2⟩
  have u1 : Blk (w2.alloc (.cells nf0 86)) w2.heap.size 86 nf0 := Blk.new _ _ _
  have u2 := u1.set (nfC (n : Int) 2 l z st)
  have p2 : Blk ((w2.alloc (.cells nf0 86)).setRow w2.heap.size (nfC (n : Int) 2 l z st)) w.heap.size 36 #[.int .i64 i, .string s] := ((HB1.out.2.below hb2 HB1.out.2.lt).alloc _).other _ (by have := (HB1.out.2.below hb2 HB1.out.2.lt).lt; omega)
  have hb12 := HB1.out.1.trans (hb2.mono HB1.out.1.size)
  have hb3 : Below w.heap.size w ((w2.alloc (.cells nf0 86)).setRow w2.heap.size (nfC (n : Int) 2 l z st)) := below_setRow (hb12.alloc hb12.size _) hb12.size _
  have l0 : ((w2.alloc (.cells nf0 86)).setRow w2.heap.size (nfC (n : Int) 2 l z st)).cell? ⟨w.heap.size, 0, none⟩ = some (.int .i64 i) := (p2.cell 0).trans rfl
  have l1 : ((w2.alloc (.cells nf0 86)).setRow w2.heap.size (nfC (n : Int) 2 l z st)).cell? ⟨w.heap.size, 1, none⟩ = some (.string s) := (p2.cell 1).trans rfl
  have HB3 : Hid (Below w.heap.size w ((w2.alloc (.cells nf0 86)).setRow w2.heap.size (nfC (n : Int) 2 l z st)) ∧ Blk ((w2.alloc (.cells nf0 86)).setRow w2.heap.size (nfC (n : Int) 2 l z st)) w.heap.size 36 #[.int .i64 i, .string s] ∧ Blk ((w2.alloc (.cells nf0 86)).setRow w2.heap.size (nfC (n : Int) 2 l z st)) w2.heap.size 86 (nfC (n : Int) 2 l z st)) := ⟨hb3, p2, u2⟩
  clear hb2 hb12 hb3 p2 u2 HB1 HDR
  go_wp2_with (first
    | (refine wpList_store_row (by rfl) 86 _ _ (by rfl) (w2.heap.size) (nfC (n : Int) 2 l z st) (by rfl) (by rfl) 86 (nf0) (by exact u1) (size_nf.trans (by rfl)) (by rfl) (nf_all _ _ _ _ _) ?_; simp only [Act.put, sgPHDiRemove])
    | fail)
  clear u1 l0 l1
  generalize ((w2.alloc (.cells nf0 86)).setRow w2.heap.size (nfC (n : Int) 2 l z st)) = w3 at *
  refine (HEN.out _).mono ?_
  rintro e w4 ⟨rfl, hb4⟩
  have HB4 : Hid (Below w.heap.size w w4 ∧ Blk w4 w.heap.size 36 #[.int .i64 i, .string s] ∧ Blk w4 w2.heap.size 86 (nfC (n : Int) 2 l z st)) := ⟨HB3.out.1.trans (hb4.mono HB3.out.1.size), HB3.out.2.1.below hb4 HB3.out.2.1.lt, HB3.out.2.2.below hb4 HB3.out.2.2.lt⟩
  have u4 := HB4.out.2.2
  have l1 : w4.cell? ⟨w.heap.size, 1, none⟩ = some (.string s) := (HB4.out.2.1.cell 1).trans rfl
  clear hb4 HB3 HEN
  go_wp2_with (first
    | (refine wpList_load_row (by rfl) 86 _ (by rfl) (w2.heap.size) (by rfl) 86 (nfC (n : Int) 2 l z st) (0, 0) _ (by exact u4) Tryz.underlying86 (by rfl) (size_nf.trans (by rfl)) ?_; simp only [Act.put, sgPHDiRemove])
    | fail)
  refine (HSE.out w4 HB4.out.1).mono ?_
  rintro e w5 ⟨v, rfl, hv5, hb5⟩
  have HB5 : Hid (Below w.heap.size w w5 ∧ Blk w5 w.heap.size 36 #[.int .i64 i, .string s] ∧ Blk w5 w2.heap.size 86 (nfC (n : Int) 2 l z st) ∧ w5.ownsRow w.heap.size 36 2 v (inLf k (p / 4)) (lkL (shN N (p / 4)) (shS S (p / 4)) (inLf k (p / 4)))) := ⟨HB4.out.1.trans (hb5.mono HB4.out.1.size), HB4.out.2.1.below hb5 HB4.out.2.1.lt, HB4.out.2.2.below hb5 HB4.out.2.2.lt, kown_mono hv5 HB4.out.1.size⟩
  have u5 := HB5.out.2.2.1
  clear hb5 hv5 HB4 HSE u4 l1
  obtain ⟨g, c, rfl, hg, hgw⟩ := kown_form HB5.out.2.2.2 (by have := HX.out.2.1; omega)
  generalize hm : inLf k (p / 4) = m at *
  clear hm
  obtain ⟨r, hr⟩ : ∃ r, r = p % 4 := ⟨_, rfl⟩
  obtain ⟨qq, hqq⟩ : ∃ r, r = p / 4 := ⟨_, rfl⟩
  rw [← hr] at e4 hr4 HX HLY
  rw [← hqq] at e5 HX HLY HB5
  clear hr hqq
  have hIv : IsLk w5 g m (shN N qq) (shS S qq) := fun j hj => by
    rw [HB5.out.2.2.2.cellAt (j * 2) (by omega), HB5.out.2.2.2.cellAt (j * 2 + 1) (by omega)]
    exact dlk_at _ _ _ j hj
  have c0 : w5.cell? ⟨g, r * 2, none⟩ = some (.int .i64 (N p)) := by
    rw [(hIv r HX.out.2.1).1, HX.out.2.2.1]
  have f0 : w5.frozen? ⟨g, r * 2, none⟩ = false := HB5.out.2.2.2.frozenAt _
  have l0 : w5.cell? ⟨w.heap.size, 0, none⟩ = some (.int .i64 i) := (HB5.out.2.1.cell 0).trans rfl
  have rm : (r : Int) < (m : Int) := by have := HX.out.2.1; omega
  have HG : Hid (w.heap.size ≤ g ∧ g < w5.heap.size) := ⟨hg, hgw⟩
  have hIM5 : IM w5 x mf ml mc cp top H D := HX.out.2.2.2.below HB5.out.1
  have hng : g ≠ x ∧ g ≠ mf ∧ g ≠ ml ∧ g ≠ mc := by have := HX.out.1; omega
  have HE : Hid (IM (w5.setCell ⟨g, r * 2, none⟩ (.int .i64 i)) x mf ml mc cp top H D ∧ IsLk (w5.setCell ⟨g, r * 2, none⟩ (.int .i64 i)) g m (upN (shN N qq) r i) (shS S qq) ∧ Turns (fun z => z = ml ∨ z = mf) w (w5.setCell ⟨g, r * 2, none⟩ (.int .i64 i)) ∧ g < (w5.setCell ⟨g, r * 2, none⟩ (.int .i64 i)).heap.size) := by
    have t1 : Turns (fun z => z = g) w5 (w5.setCell ⟨g, r * 2, none⟩ (.int .i64 i)) := Turns.cell _ g _ _ rfl
    refine ⟨hIM5.other g _ _ hng, hIv.putN r HX.out.2.1 i, (Turns.bel HB5.out.1).trans t1 fun b hb => .inr (by rw [hb]; exact hg), Nat.lt_of_lt_of_le hgw t1.size⟩
  have H6 := HLY.out _ HE.out.1 g c HE.out.2.2.2 HE.out.2.1
  clear hIv hIM5 hng hg hgw HB5 HLY u5
  go_wp2_with fail
  refine H6.mono ?_
  rintro e w6 ⟨rfl, hI6, ht6⟩
  have HF : Hid (_ ∧ Turns (fun z => z = ml ∨ z = mf) w w6) := ⟨hI6, HE.out.2.2.1.tr ht6⟩
  clear hI6 ht6 H6 HE c0 f0 l0
  go_wp2_with fail
  go_ret2
  exact ⟨rfl, HF.out.1, HF.out.2⟩
end
end Go.Proofs.YtojnlmfahgeidaaGreatDoor

namespace Go.Proofs.YtojnlmfahgeidaaGreatDoor
open Go Go.RowKit
set_option linter.unusedSimpArgs false
set_option linter.unusedVariables false
section
variable {w : World} {x mf ml mc : Nat} {cp : Option Addr} {top : Int} {H : Nat → Hd} {D : Nat → Nat → Nat → Nat} {n k st : Nat} {N : Nat → Int} {S : Nat → ByteArray}
set_option maxRecDepth 100000 in
set_option maxHeartbeats 8000000 in
theorem IM.fillD (h : IM w x mf ml mc cp top H D) (hd : Di H D n (k + 1) st N S) (l : Int) (p : Nat) (hp : p ≤ k) (B g c : Nat) (hv : w.ownsRow B 36 2 (.slice (some ⟨g, 0, none⟩) (inLf (k + 1) (p / 4)) c) (inLf (k + 1) (p / 4)) (lkL (shN N (p / 4)) (shS S (p / 4)) (inLf (k + 1) (p / 4)))) (hng : g ≠ x ∧ g ≠ mf ∧ g ≠ ml ∧ g ≠ mc) (st' : Nat) : Calls Tryz.prog 113 #[.pointer (some ⟨x, 0, none⟩), .agg (nfC (n : Int) 2 l ((64 * (k + 1) : Nat) : Int) st), .int .i64 (p : Int), .slice (some ⟨g, 0, none⟩) (inLf (k + 1) (p / 4)) c, .int .u64 ((st' : Nat) : Int)] w fun e w' => e = .returned (.int .i64 0) ∧ (∃ H' D', IM w' x mf ml mc cp top H' D' ∧ Di H' D' n k st' (mvN N k p) (mvS S k p) ∧ OthD H H' D D' n) ∧ Turns (fun z => z = ml ∨ z = mf ∨ z = g) w w' := by
  have hle := hd.le
  have hlts := h.lts
  have hgw : g < w.heap.size := (hv.lt g rfl).2
  have hm1 : p % 4 < inLf (k + 1) (p / 4) ∧ inLf (k + 1) (p / 4) ≤ 4 := by unfold inLf; omega
  have hIv : IsLk w g (inLf (k + 1) (p / 4)) (shN N (p / 4)) (shS S (p / 4)) := by
    obtain ⟨a, cc, e, hI, _⟩ := own_lks hv
    injection e with e1 e2 e3
    obtain ⟨g', e4, _, hI'⟩ := hI (by omega)
    rw [← e1] at e4
    injection e4 with e4
    injection e4 with e4
    subst e4
    exact hI'
  have hcc : inLf (k + 1) (p / 4) ≤ c := by
    obtain ⟨a, cc, e, _, h3⟩ := own_lks hv
    injection e with e1 e2 e3
    omega
  have hd1 := hd.put p (by omega) (N k) (S k) (hd.ok k (by omega)) st'
  obtain ⟨H1, hH1⟩ : ∃ H1, H1 = hU H n (hdT (hdS (H n)) st') := ⟨_, rfl⟩
  obtain ⟨D1, hD1⟩ : ∃ D1, D1 = dU D n (p / 4) (upF (leF (shN (mvN N k p) (p / 4)) (shS (mvS S k p) (p / 4)) (inLf (k + 1) (p / 4))) (64 * (k + 1) - p / 4 * 256)) := ⟨_, rfl⟩
  have hd1' : Di H1 D1 n (k + 1) st' (mvN N k p) (mvS S k p) := by rw [hH1, hD1]; exact hd1
  obtain ⟨H2, hH2⟩ : ∃ H2, H2 = hU H1 n (hdT (hdS (H1 n)) st') := ⟨_, rfl⟩
  obtain ⟨D2, hD2⟩ : ∃ D2, D2 = dU D1 n (k / 4) (upF (leF (shN (mvN N k p) (k / 4)) (shS (mvS S k p) (k / 4)) (k % 4)) (64 * (k + 1) - k / 4 * 256)) := ⟨_, rfl⟩
  have hH2n : H2 n = hdT (hdS (H1 n)) st' := by rw [hH2, hUat]
  have HL1 : Hid (∀ V, IM V x mf ml mc cp top H D → g < V.heap.size → IsLk V g (inLf (k + 1) (p / 4)) (shN (mvN N k p) (p / 4)) (shS (mvS S k p) (p / 4)) → Calls Tryz.prog 111 #[.pointer (some ⟨x, 0, none⟩), .int .i64 (n : Int), .int .i64 ((p / 4 : Nat) : Int), .slice (some ⟨g, 0, none⟩) (inLf (k + 1) (p / 4)) c, .int .u64 ((st' : Nat) : Int)] V fun e w' => e = .returned (.int .i64 0) ∧ IM w' x mf ml mc cp top H1 D1 ∧ Turns (fun z => z = ml ∨ z = mf) V w') := fun V hV hgV hI => by
    rw [hH1, hD1]
    exact hV.layD n (p / 4) hd.n1 hd.n2 (by rw [hd.kd]; decide) hd.no (64 * (k + 1)) st' hd.s (by omega) (by omega) (some ⟨g, 0, none⟩) _ c hm1.2 (fun _ => ⟨g, rfl, hgV, hI⟩) (hd1'.four (p / 4))
  have HL2 : Hid (∀ V, IM V x mf ml mc cp top H1 D1 → ∀ (a : Option Addr) (c : Nat), IsLks V a (k % 4) (shN (mvN N k p) (k / 4)) (shS (mvS S k p) (k / 4)) → Calls Tryz.prog 111 #[.pointer (some ⟨x, 0, none⟩), .int .i64 (n : Int), .int .i64 ((k / 4 : Nat) : Int), .slice a (k % 4) c, .int .u64 ((st' : Nat) : Int)] V fun e w' => e = .returned (.int .i64 0) ∧ IM w' x mf ml mc cp top H2 D2 ∧ Turns (fun z => z = ml ∨ z = mf) V w') := fun V hV a c hI => by
    rw [hH2, hD2]
    exact hV.layD n (k / 4) hd.n1 hd.n2 (by rw [hd1'.kd]; decide) hd1'.no (64 * (k + 1)) st' hd1'.s (by omega) (by omega) a _ c (by omega) hI (leE_all fun j hj => hd1'.ok (4 * (k / 4) + j) (by omega))
  have HRZ : Hid (∀ V, IM V x mf ml mc cp top H2 D2 → Calls Tryz.prog 110 #[.pointer (some ⟨x, 0, none⟩), .int .i64 (n : Int), .int .i64 ((64 * k : Nat) : Int), .int .u64 ((st' : Nat) : Int)] V fun e w' => e = .returned (.int .i64 0) ∧ (∃ H' D', IM w' x mf ml mc cp top H' D' ∧ Di H' D' n k st' (mvN N k p) (mvS S k p) ∧ OthD H H' D D' n) ∧ Turns (fun z => z = ml ∨ z = mf) V w') := fun V hV => by
    have := hV.resizeM n hd.n1 hd.n2 (64 * (k + 1)) (64 * k) st' (by rw [hH2n]; exact hd1'.no) (by rw [hH2n]; exact hd1'.left) (by rw [hH2n]; exact hd1'.s) (.inr ⟨by rw [hH2n]; exact hd1'.kd, by omega⟩) (by omega) (by omega) (fun q j hj hz => by
      rw [hD2]
      unfold dU
      by_cases cq : q = k / 4
      · rw [if_pos ⟨rfl, cq⟩]
        unfold upF
        rw [if_neg (by omega)]
      · rw [if_neg (fun h => cq h.2)]
        exact hd1'.zero q j hj hz)
    refine this.mono ?_
    rintro e w' ⟨rfl, hI', ht⟩
    refine ⟨rfl, ⟨_, _, hI', ?_, ?_⟩, ht⟩
    · have := hd1'.cut st' st' (64 * (k + 1))
      rw [hH2n]
      rw [hH2, hD2]
      exact this
    · intro m hm
      refine ⟨?_, ?_⟩
      · rw [hUnot _ _ _ _ hm, hH2, hUnot _ _ _ _ hm, hH1, hUnot _ _ _ _ hm]
      · rw [rsDnot _ _ _ _ hm, hD2, dUnot _ _ _ _ _ hm, hD1, dUnot _ _ _ _ _ hm]
  have HCT : Hid (∀ V : World, Calls Tryz.prog 60 #[.agg (nfC (n : Int) 2 l ((64 * (k + 1) : Nat) : Int) st)] V fun e w' => e = .returned (.int .i64 ((k + 1 : Nat) : Int)) ∧ Below V.heap.size V w') := count_any (n : Int) 2 l (k + 1) st hd.le
  have HEN : Hid (∀ V, Below w.heap.size w V → Calls Tryz.prog 61 #[.pointer (some ⟨x, 0, none⟩), .agg (nfC (n : Int) 2 l ((64 * (k + 1) : Nat) : Int) st), .int .i64 ((k / 4 : Nat) : Int)] V fun e w' => ∃ v, e = .returned (.tuple #[v, .int .i64 0]) ∧ w'.ownsRow V.heap.size 36 2 v (inLf (k + 1) (k / 4)) (lkL (shN N (k / 4)) (shS S (k / 4)) (inLf (k + 1) (k / 4))) ∧ Below V.heap.size V w') := fun V hV => (h.below hV).entries hd l (k / 4) (by omega)
  have HP1 : Hid (∀ W, IsLk W g (inLf (k + 1) (p / 4)) (shN N (p / 4)) (shS S (p / 4)) → IsLk ((W.setCell ⟨g, (p % 4) * 2, none⟩ (.int .i64 (N k))).setCell ⟨g, (p % 4) * 2 + 1, none⟩ (.string (S k))) g (inLf (k + 1) (p / 4)) (shN (mvN N k p) (p / 4)) (shS (mvS S k p) (p / 4))) := fun W hW => (hW.put (p % 4) hm1.1 (N k) (S k)).same (Nat.le_refl _) fun j hj => ⟨(sh_up N S p (N k) (S k) j).1.symm, (sh_up N S p (N k) (S k) j).2.symm⟩
  have hshk : shN N (k / 4) (k % 4) = N k ∧ shS S (k / 4) (k % 4) = S k := by
    unfold shN shS
    rw [show 4 * (k / 4) + k % 4 = k by omega]
    exact ⟨rfl, rfl⟩
  have hm2 : inLf (k + 1) (k / 4) = k % 4 + 1 := by unfold inLf; omega
  have HQ : Hid (¬ k / 4 = p / 4 → ∀ j, j < k % 4 → shN N (k / 4) j = shN (mvN N k p) (k / 4) j ∧ shS S (k / 4) j = shS (mvS S k p) (k / 4) j) := fun hq j hj => by
    unfold shN shS mvN mvS upN upS
    rw [if_neg (by omega), if_neg (by omega)]
    exact ⟨rfl, rfl⟩
  have HX : Hid ((x < w.heap.size ∧ mf < w.heap.size ∧ ml < w.heap.size ∧ mc < w.heap.size) ∧ (g ≠ x ∧ g ≠ mf ∧ g ≠ ml ∧ g ≠ mc) ∧ g < w.heap.size ∧ (p % 4 < inLf (k + 1) (p / 4) ∧ inLf (k + 1) (p / 4) ≤ 4) ∧ inLf (k + 1) (p / 4) ≤ c ∧ (shN N (k / 4) (k % 4) = N k ∧ shS S (k / 4) (k % 4) = S k) ∧ inLf (k + 1) (k / 4) = k % 4 + 1) := ⟨hlts, hng, hgw, hm1, hcc, hshk, hm2⟩
  have HI0 : Hid (IM w x mf ml mc cp top H D ∧ IsLk w g (inLf (k + 1) (p / 4)) (shN N (p / 4)) (shS S (p / 4)) ∧ w.ownsRow B 36 2 (.slice (some ⟨g, 0, none⟩) (inLf (k + 1) (p / 4)) c) (inLf (k + 1) (p / 4)) (lkL (shN N (p / 4)) (shS S (p / 4)) (inLf (k + 1) (p / 4)))) := ⟨h, hIv, hv⟩
  have HM12 : Hid (k / 4 = p / 4 → inLf (k + 1) (p / 4) = inLf (k + 1) (k / 4)) := fun e => by rw [e]
  have k1 : (k : Int) < 16384 := by omega
  have p1' : (p : Int) < 16384 := by omega
  have ek1 : ((k + 1 : Nat) : Int) - 1 = (k : Int) := by omega
  have ez : ((64 * (k + 1) : Nat) : Int) - 64 = ((64 * k : Nat) : Int) := by omega
  have zb : ((64 * (k + 1) : Nat) : Int) ≤ 1048576 := by omega
  have zb0 : (0 : Int) ≤ ((64 * (k + 1) : Nat) : Int) := by omega
  have e1 : (k : Int) / 4 = ((k / 4 : Nat) : Int) := by omega
  have e2 : (p : Int) / 4 = ((p / 4 : Nat) : Int) := by omega
  have e3 : (k : Int) % 4 = ((k % 4 : Nat) : Int) := by omega
  have e4 : (p : Int) % 4 = ((p % 4 : Nat) : Int) := by omega
  have k2 : ((k + 1 : Nat) : Int) ≤ 16385 := by omega
  have hb1 : Below w.heap.size w (w.alloc (.cells (nfC (n : Int) 2 l ((64 * (k + 1) : Nat) : Int) st) 86)) := below_new1 _ _
  have q1 : Blk (w.alloc (.cells (nfC (n : Int) 2 l ((64 * (k + 1) : Nat) : Int) st) 86)) w.heap.size 86 (nfC (n : Int) 2 l ((64 * (k + 1) : Nat) : Int) st) := Blk.new _ _ _
  clear h hd hd1 hd1' hv hIv hle hlts hng hgw hm1 hcc hshk hm2 hp hH1 hD1 hH2 hD2 hH2n
  generalize ((64 * (k + 1) : Nat) : Int) = z at *
  generalize ((64 * k : Nat) : Int) = z2 at *
  generalize ((k + 1 : Nat) : Int) = ks at *
  generalize inLf (k + 1) (p / 4) = m1 at *
  generalize inLf (k + 1) (k / 4) = m2 at *
  obtain ⟨qk, hqk⟩ : ∃ q, q = k / 4 := ⟨_, rfl⟩
  obtain ⟨qp, hqp⟩ : ∃ q, q = p / 4 := ⟨_, rfl⟩
  obtain ⟨rk, hrk⟩ : ∃ q, q = k % 4 := ⟨_, rfl⟩
  obtain ⟨rp, hrp⟩ : ∃ q, q = p % 4 := ⟨_, rfl⟩
  rw [← hqk] at HL2 HEN HX e1 HQ HM12
  rw [← hqp] at HL1 HP1 e2 HQ HI0 HM12
  rw [← hrk] at HL2 HX e3 HQ
  rw [← hrp] at HP1 HX e4
  have rk4 : (rk : Int) < 4 := by omega
  have wqk : IntKind.i64.wrap (qk : Int) = (qk : Int) := by simp [IntKind.wrap, IntKind.signed, IntKind.bits]; omega
  have tmk : (k : Int).tmod 4 = (rk : Int) := by rw [Int.tmod_eq_emod_of_nonneg (by omega)]; exact e3
  have rp4 : (rp : Int) < 4 := by omega
  clear hqk hqp hrk hrp
  go_enter Tryz.func113, Tryz.ntmps113
  go_wp2_with (first
    | (refine wpList_load_row (by rfl) 86 _ (by rfl) (w.heap.size) (by rfl) 86 (nfC (n : Int) 2 l z st) (0, 0) _ (by exact q1) Tryz.underlying86 (by rfl) (size_nf.trans (by rfl)) ?_; simp only [Act.put, sgPHDiRemove])
    | fail)
  have HB1 : Hid (_ ∧ _) := ⟨hb1, q1⟩
  clear hb1 q1
  generalize (w.alloc (.cells (nfC (n : Int) 2 l z st) 86)) = w1 at *
  refine (HCT.out _).mono ?_
  rintro e w2 ⟨rfl, hb2⟩
  have HB2 : Hid (Below w.heap.size w w2 ∧ Blk w2 w.heap.size 86 (nfC (n : Int) 2 l z st)) := ⟨HB1.out.1.trans (hb2.mono HB1.out.1.size), HB1.out.2.below hb2 HB1.out.2.lt⟩
  clear hb2 HB1 HCT
  by_cases hqq : qk = qp
  · subst hqq
    have em : m1 = m2 := HM12.out rfl
    subst em
    have HBW : Hid (Below w.heap.size w w2 ∧ Blk w2 w.heap.size 86 (nfC (n : Int) 2 l z st)) := HB2.out
    have HEND : Hid (IsLk w2 g m1 (shN N qk) (shS S qk)) := fun j hj => ⟨(HB2.out.1.cell HX.out.2.2.1).trans (HI0.out.2.1 j hj).1, (HB2.out.1.cell HX.out.2.2.1).trans (HI0.out.2.1 j hj).2⟩
    have HC2 : Hid (m1 ≤ c) := HX.out.2.2.2.2.1
    have HG2 : Hid (g < w2.heap.size ∧ g ≠ mf ∧ g ≠ ml) := ⟨Nat.lt_of_lt_of_le HX.out.2.2.1 HB2.out.1.size, HX.out.2.1.2.1, HX.out.2.1.2.2.1⟩
    have HW : Hid (IM w2 x mf ml mc cp top H D ∧ IsLk w2 g m1 (shN N qk) (shS S qk) ∧ Below w.heap.size w w2 ∧ Blk w2 w.heap.size 86 (nfC (n : Int) 2 l z st) ∧ g < w.heap.size ∧ IsLk w2 g m1 (shN N qk) (shS S qk)) := ⟨HI0.out.1.below HBW.out.1, fun j hj => ⟨(HBW.out.1.cell HX.out.2.2.1).trans (HI0.out.2.1 j hj).1, (HBW.out.1.cell HX.out.2.2.1).trans (HI0.out.2.1 j hj).2⟩, HBW.out.1, HBW.out.2, HX.out.2.2.1, HEND.out⟩
    have c0 : w2.cell? ⟨g, rk * 2, none⟩ = some (.int .i64 (N k)) := by
      have := (HW.out.2.2.2.2.2 rk (by have := HX.out.2.2.2.2.2.2; omega)).1
      rw [HX.out.2.2.2.2.2.1.1] at this
      exact this
    have c1 : w2.cell? ⟨g, rk * 2 + 1, none⟩ = some (.string (S k)) := by
      have := (HW.out.2.2.2.2.2 rk (by have := HX.out.2.2.2.2.2.2; omega)).2
      rw [HX.out.2.2.2.2.2.1.2] at this
      exact this
    have o0 := (HW.out.2.1 rp HX.out.2.2.2.1.1).1
    have o1 := (HW.out.2.1 rp HX.out.2.2.2.1.1).2
    have f0 : w2.frozen? ⟨g, rp * 2, none⟩ = false := (World.frozen?_of_block (w := w) (w' := w2) (a := ⟨g, rp * 2, none⟩) (HBW.out.1.block g HX.out.2.2.1)).trans (HI0.out.2.2.frozenAt _)
    have f1 : w2.frozen? ⟨g, rp * 2 + 1, none⟩ = false := (World.frozen?_of_block (w := w) (w' := w2) (a := ⟨g, rp * 2 + 1, none⟩) (HBW.out.1.block g HX.out.2.2.1)).trans (HI0.out.2.2.frozenAt _)
    have rpm : (rp : Int) < (m1 : Int) := by have := HX.out.2.2.2.1.1; omega
    have rkm : (rk : Int) < (m1 : Int) := by have := HX.out.2.2.2.2.2.2; omega
    have rkc : (rk : Int) ≤ (c : Int) := by have := HX.out.2.2.2.2.2.2; have := HC2.out; omega
    have HS : Hid (IM ((w2.setCell ⟨g, rp * 2, none⟩ (.int .i64 (N k))).setCell ⟨g, rp * 2 + 1, none⟩ (.string (S k))) x mf ml mc cp top H D ∧ IsLk ((w2.setCell ⟨g, rp * 2, none⟩ (.int .i64 (N k))).setCell ⟨g, rp * 2 + 1, none⟩ (.string (S k))) g m1 (shN (mvN N k p) qk) (shS (mvS S k p) qk) ∧ Blk ((w2.setCell ⟨g, rp * 2, none⟩ (.int .i64 (N k))).setCell ⟨g, rp * 2 + 1, none⟩ (.string (S k))) w.heap.size 86 (nfC (n : Int) 2 l z st) ∧ Turns (fun z => z = ml ∨ z = mf ∨ z = g) w ((w2.setCell ⟨g, rp * 2, none⟩ (.int .i64 (N k))).setCell ⟨g, rp * 2 + 1, none⟩ (.string (S k))) ∧ IsLk ((w2.setCell ⟨g, rp * 2, none⟩ (.int .i64 (N k))).setCell ⟨g, rp * 2 + 1, none⟩ (.string (S k))) g rk (shN (mvN N k p) qk) (shS (mvS S k p) qk) ∧ g < ((w2.setCell ⟨g, rp * 2, none⟩ (.int .i64 (N k))).setCell ⟨g, rp * 2 + 1, none⟩ (.string (S k))).heap.size) := by
      have hIW := HW.out.1
      have t1 : Turns (fun z => z = ml ∨ z = mf ∨ z = g) w ((w2.setCell ⟨g, rp * 2, none⟩ (.int .i64 (N k))).setCell ⟨g, rp * 2 + 1, none⟩ (.string (S k))) := ((Turns.bel HW.out.2.2.1).tr (Turns.cell _ g _ _ (.inr (.inr rfl)))).tr (Turns.cell _ g _ _ (.inr (.inr rfl)))
      have t2 : Turns (fun z => z = ml ∨ z = mf ∨ z = g) w2 ((w2.setCell ⟨g, rp * 2, none⟩ (.int .i64 (N k))).setCell ⟨g, rp * 2 + 1, none⟩ (.string (S k))) := (Turns.cell _ g _ _ (.inr (.inr rfl))).tr (Turns.cell _ g _ _ (.inr (.inr rfl)))
      refine ⟨(hIW.other g _ _ HX.out.2.1).other g _ _ HX.out.2.1, HP1.out w2 HW.out.2.1, (HW.out.2.2.2.1.put_other _ _ (by have := HX.out.2.2.1; omega)).put_other _ _ (by have := HX.out.2.2.1; omega), t1, ?_, Nat.lt_of_lt_of_le HG2.out.1 t2.size⟩
      have hh := HP1.out w2 HW.out.2.1
      exact hh.same (by have := HX.out.2.2.2.2.2.2; omega) fun j hj => ⟨rfl, rfl⟩
    have n0 := (nf_cs HS.out.2.2.1).1
    clear HI0 HP1 HW HEND HBW
    go_wp2_with fail
    clear c0 c1 o0 o1 f0 f1 n0
    generalize ((w2.setCell ⟨g, rp * 2, none⟩ (.int .i64 (N k))).setCell ⟨g, rp * 2 + 1, none⟩ (.string (S k))) = w5 at *
    have hg5 : g < w5.heap.size := Nat.lt_of_lt_of_le HX.out.2.2.1 HS.out.2.2.2.1.size
    refine (HL1.out w5 HS.out.1 hg5 HS.out.2.1).mono ?_
    rintro e w6 ⟨rfl, hI6, ht6⟩
    have hS0 : Blk w6.drew w.heap.size 86 (nfC (n : Int) 2 l z st) := ((ht6.block _ HS.out.2.2.1.lt (fun hb => by have := HX.out.1; rcases hb with hb | hb <;> omega)).trans HS.out.2.2.1)
    have HE6 : Hid (IM w6.drew x mf ml mc cp top H1 D1 ∧ Turns (fun z => z = ml ∨ z = mf ∨ z = g) w w6.drew ∧ IsLks w6.drew (some ⟨g, 0, none⟩) rk (shN (mvN N k p) qk) (shS (mvS S k p) qk)) := by
      have h6 : Turns (fun z => z = ml ∨ z = mf ∨ z = g) w w6 := HS.out.2.2.2.1.tr (ht6.mono fun b hb => by rcases hb with hb | hb; exact .inl hb; exact .inr (.inl hb))
      refine ⟨hI6.below ((Below.refl _ _).drew), h6.drew, fun hpos => ⟨g, rfl, ?_, ?_⟩⟩
      · exact Nat.lt_of_lt_of_le HS.out.2.2.2.2.2 ht6.size
      · exact HS.out.2.2.2.2.1.turns ht6.drew HS.out.2.2.2.2.2 (fun hb => by rcases hb with hb | hb; exact HG2.out.2.2 hb; exact HG2.out.2.1 hb)
    clear HS ht6 hI6 HL1
    go_wp2_with fail
    refine wp_region_plan (fun W => Blk W w.heap.size 86 (nfC (n : Int) 2 l z st)) (.yield [0] 1 (.yield [] 2 (.yield [3] 4 (.yield [5, 6] 7 (.force [9] 8 (.force [] 10 (.fin [11]))))))) (by kernel_rfl) (by kernel_rfl) hS0 (plan_yield ?_)
    generalize w6.drew = w7 at *
    simp only [sgLHDiRemove]
    go_wp2_with fail
    refine ⟨rfl, _, .pointer (some ⟨w.heap.size, 0, none⟩), rfl, Or.inl ⟨by rfl, fun W hW => by go_simp⟩, plan_yield ?_⟩
    simp only [Act.put, sgPHDiRemove]
    simp only [sgLHDiRemove]
    go_wp2_with fail
    refine ⟨rfl, _, .int .i64 (n : Int), rfl, Or.inl ⟨by rfl, fun W hW => by have hW0 := (nf_cs hW).1; go_simp⟩, plan_yield ?_⟩
    simp only [Act.put, sgPHDiRemove]
    simp only [sgLHDiRemove]
    go_wp2_with fail
    refine ⟨rfl, _, .int .i64 (qk : Int), rfl, Or.inl ⟨by rfl, fun W hW => by go_simp⟩, plan_yield ?_⟩
    simp only [Act.put, sgPHDiRemove]
    simp only [sgLHDiRemove]
    go_wp2_with fail
    refine ⟨rfl, _, .int .i64 (rk : Int), rfl, Or.inl ⟨by rfl, fun W hW => by go_simp⟩, plan_force ?_⟩
    simp only [Act.put, sgPHDiRemove]
    simp only [sgLHDiRemove]
    go_wp2_with fail
    refine ⟨rfl, hS0, plan_force ?_⟩
    simp only [sgLHDiRemove]
    go_wp2_with fail
    refine (HL2.out w7 HE6.out.1 (some ⟨g, 0, none⟩) c HE6.out.2.2).mono ?_
    rintro e w8 ⟨rfl, hI8, ht8⟩
    have hS8 : Blk w8 w.heap.size 86 (nfC (n : Int) 2 l z st) := ((ht8.block _ hS0.lt (fun hb => by have := HX.out.1; rcases hb with hb | hb <;> omega)).trans hS0)
    have HE8 : Hid (IM w8 x mf ml mc cp top H2 D2 ∧ Turns (fun z => z = ml ∨ z = mf ∨ z = g) w w8) := ⟨hI8, HE6.out.2.1.tr (ht8.mono fun b hb => by rcases hb with hb | hb; exact .inl hb; exact .inr (.inl hb))⟩
    clear hI8 ht8 HE6 hS0
    go_wp2_with fail
    refine ⟨rfl, hS8, plan_fin ?_⟩
    simp only [sgLHDiRemove]
    go_wp2_with fail
    refine ⟨rfl, ?_⟩
    have n8 := (nf_cs hS8).1
    have z8 := (nf_cs hS8).2.2.2.1
    have H8 := HRZ.out w8 HE8.out.1
    clear HRZ HL2
    go_wp2_with fail
    refine H8.mono ?_
    rintro e w9 ⟨rfl, hI9, ht9⟩
    have HF : Hid (_ ∧ Turns (fun z => z = ml ∨ z = mf ∨ z = g) w w9) := ⟨hI9, HE8.out.2.tr (ht9.mono fun b hb => by rcases hb with hb | hb; exact .inl hb; exact .inr (.inl hb))⟩
    clear hI9 ht9 H8 HE8 hS8
    go_wp2_with fail
    go_ret
    exact ⟨rfl, HF.out.1, HF.out.2⟩
  · have ne1 : ¬ ((qk : Int) = (qp : Int)) := by omega
    have q2 := HB2.out.2
    go_wp2_with (first
      | (refine wpList_load_row (by rfl) 86 _ (by rfl) (w.heap.size) (by rfl) 86 (nfC (n : Int) 2 l z st) (0, 0) _ (by exact q2) Tryz.underlying86 (by rfl) (size_nf.trans (by rfl)) ?_; simp only [Act.put, sgPHDiRemove])
      | fail)
    refine (HEN.out w2 HB2.out.1).mono ?_
    rintro e w3 ⟨v, rfl, hv3, hb3⟩
    have hm2 := HX.out.2.2.2.2.2.2
    obtain ⟨g2, c2, rfl, hg2, hg2w⟩ := kown_form hv3 (by omega)
    have HEND : Hid (IsLk w3 g2 m2 (shN N qk) (shS S qk)) := by
      obtain ⟨a, cc, e, hI, _⟩ := own_lks hv3
      injection e with e1 e2 e3
      obtain ⟨g', e4, _, hI'⟩ := hI (by omega)
      rw [← e1] at e4
      injection e4 with e4
      injection e4 with e4
      subst e4
      exact hI'
    have HC2 : Hid (m2 ≤ c2) := by
      obtain ⟨a, cc, e, _, h3⟩ := own_lks hv3
      injection e with e1 e2 e3
      show _ ≤ _
      omega
    have HBW : Hid (Below w.heap.size w w3 ∧ Blk w3 w.heap.size 86 (nfC (n : Int) 2 l z st)) := ⟨HB2.out.1.trans (hb3.mono HB2.out.1.size), HB2.out.2.below hb3 HB2.out.2.lt⟩
    have HG2 : Hid (g2 < w3.heap.size ∧ g2 ≠ mf ∧ g2 ≠ ml) := by
      have := HX.out.1
      have := HB2.out.1.size
      refine ⟨hg2w, by omega, by omega⟩
    have HGN : Hid (g ≠ g2) := by
      show g ≠ g2
      have := HX.out.2.2.1
      have := HB2.out.1.size
      omega
    clear hv3 hb3 hg2 hg2w HB2 HEN q2 hm2
    have HW : Hid (IM w3 x mf ml mc cp top H D ∧ IsLk w3 g m1 (shN N qp) (shS S qp) ∧ Below w.heap.size w w3 ∧ Blk w3 w.heap.size 86 (nfC (n : Int) 2 l z st) ∧ g < w.heap.size ∧ IsLk w3 g2 m2 (shN N qk) (shS S qk)) := ⟨HI0.out.1.below HBW.out.1, fun j hj => ⟨(HBW.out.1.cell HX.out.2.2.1).trans (HI0.out.2.1 j hj).1, (HBW.out.1.cell HX.out.2.2.1).trans (HI0.out.2.1 j hj).2⟩, HBW.out.1, HBW.out.2, HX.out.2.2.1, HEND.out⟩
    have c0 : w3.cell? ⟨g2, rk * 2, none⟩ = some (.int .i64 (N k)) := by
      have := (HW.out.2.2.2.2.2 rk (by have := HX.out.2.2.2.2.2.2; omega)).1
      rw [HX.out.2.2.2.2.2.1.1] at this
      exact this
    have c1 : w3.cell? ⟨g2, rk * 2 + 1, none⟩ = some (.string (S k)) := by
      have := (HW.out.2.2.2.2.2 rk (by have := HX.out.2.2.2.2.2.2; omega)).2
      rw [HX.out.2.2.2.2.2.1.2] at this
      exact this
    have o0 := (HW.out.2.1 rp HX.out.2.2.2.1.1).1
    have o1 := (HW.out.2.1 rp HX.out.2.2.2.1.1).2
    have f0 : w3.frozen? ⟨g, rp * 2, none⟩ = false := (World.frozen?_of_block (w := w) (w' := w3) (a := ⟨g, rp * 2, none⟩) (HBW.out.1.block g HX.out.2.2.1)).trans (HI0.out.2.2.frozenAt _)
    have f1 : w3.frozen? ⟨g, rp * 2 + 1, none⟩ = false := (World.frozen?_of_block (w := w) (w' := w3) (a := ⟨g, rp * 2 + 1, none⟩) (HBW.out.1.block g HX.out.2.2.1)).trans (HI0.out.2.2.frozenAt _)
    have rpm : (rp : Int) < (m1 : Int) := by have := HX.out.2.2.2.1.1; omega
    have rkm : (rk : Int) < (m2 : Int) := by have := HX.out.2.2.2.2.2.2; omega
    have rkc : (rk : Int) ≤ (c2 : Int) := by have := HX.out.2.2.2.2.2.2; have := HC2.out; omega
    have HS : Hid (IM ((w3.setCell ⟨g, rp * 2, none⟩ (.int .i64 (N k))).setCell ⟨g, rp * 2 + 1, none⟩ (.string (S k))) x mf ml mc cp top H D ∧ IsLk ((w3.setCell ⟨g, rp * 2, none⟩ (.int .i64 (N k))).setCell ⟨g, rp * 2 + 1, none⟩ (.string (S k))) g m1 (shN (mvN N k p) qp) (shS (mvS S k p) qp) ∧ Blk ((w3.setCell ⟨g, rp * 2, none⟩ (.int .i64 (N k))).setCell ⟨g, rp * 2 + 1, none⟩ (.string (S k))) w.heap.size 86 (nfC (n : Int) 2 l z st) ∧ Turns (fun z => z = ml ∨ z = mf ∨ z = g) w ((w3.setCell ⟨g, rp * 2, none⟩ (.int .i64 (N k))).setCell ⟨g, rp * 2 + 1, none⟩ (.string (S k))) ∧ IsLk ((w3.setCell ⟨g, rp * 2, none⟩ (.int .i64 (N k))).setCell ⟨g, rp * 2 + 1, none⟩ (.string (S k))) g2 rk (shN (mvN N k p) qk) (shS (mvS S k p) qk) ∧ g2 < ((w3.setCell ⟨g, rp * 2, none⟩ (.int .i64 (N k))).setCell ⟨g, rp * 2 + 1, none⟩ (.string (S k))).heap.size) := by
      have hIW := HW.out.1
      have t1 : Turns (fun z => z = ml ∨ z = mf ∨ z = g) w ((w3.setCell ⟨g, rp * 2, none⟩ (.int .i64 (N k))).setCell ⟨g, rp * 2 + 1, none⟩ (.string (S k))) := ((Turns.bel HW.out.2.2.1).tr (Turns.cell _ g _ _ (.inr (.inr rfl)))).tr (Turns.cell _ g _ _ (.inr (.inr rfl)))
      have t2 : Turns (fun z => z = ml ∨ z = mf ∨ z = g) w3 ((w3.setCell ⟨g, rp * 2, none⟩ (.int .i64 (N k))).setCell ⟨g, rp * 2 + 1, none⟩ (.string (S k))) := (Turns.cell _ g _ _ (.inr (.inr rfl))).tr (Turns.cell _ g _ _ (.inr (.inr rfl)))
      refine ⟨(hIW.other g _ _ HX.out.2.1).other g _ _ HX.out.2.1, HP1.out w3 HW.out.2.1, (HW.out.2.2.2.1.put_other _ _ (by have := HX.out.2.2.1; omega)).put_other _ _ (by have := HX.out.2.2.1; omega), t1, ?_, Nat.lt_of_lt_of_le HG2.out.1 t2.size⟩
      exact (HW.out.2.2.2.2.2.otherB HGN.out _ _).same (by have := HX.out.2.2.2.2.2.2; omega) (HQ.out hqq)
    have n0 := (nf_cs HS.out.2.2.1).1
    clear HI0 HP1 HW HEND HBW
    go_wp2_with fail
    clear c0 c1 o0 o1 f0 f1 n0
    generalize ((w3.setCell ⟨g, rp * 2, none⟩ (.int .i64 (N k))).setCell ⟨g, rp * 2 + 1, none⟩ (.string (S k))) = w5 at *
    have hg5 : g < w5.heap.size := Nat.lt_of_lt_of_le HX.out.2.2.1 HS.out.2.2.2.1.size
    refine (HL1.out w5 HS.out.1 hg5 HS.out.2.1).mono ?_
    rintro e w6 ⟨rfl, hI6, ht6⟩
    have hS0 : Blk w6.drew w.heap.size 86 (nfC (n : Int) 2 l z st) := ((ht6.block _ HS.out.2.2.1.lt (fun hb => by have := HX.out.1; rcases hb with hb | hb <;> omega)).trans HS.out.2.2.1)
    have HE6 : Hid (IM w6.drew x mf ml mc cp top H1 D1 ∧ Turns (fun z => z = ml ∨ z = mf ∨ z = g) w w6.drew ∧ IsLks w6.drew (some ⟨g2, 0, none⟩) rk (shN (mvN N k p) qk) (shS (mvS S k p) qk)) := by
      have h6 : Turns (fun z => z = ml ∨ z = mf ∨ z = g) w w6 := HS.out.2.2.2.1.tr (ht6.mono fun b hb => by rcases hb with hb | hb; exact .inl hb; exact .inr (.inl hb))
      refine ⟨hI6.below ((Below.refl _ _).drew), h6.drew, fun hpos => ⟨g2, rfl, ?_, ?_⟩⟩
      · exact Nat.lt_of_lt_of_le HS.out.2.2.2.2.2 ht6.size
      · exact HS.out.2.2.2.2.1.turns ht6.drew HS.out.2.2.2.2.2 (fun hb => by rcases hb with hb | hb; exact HG2.out.2.2 hb; exact HG2.out.2.1 hb)
    clear HS ht6 hI6 HL1
    go_wp2_with fail
    refine wp_region_plan (fun W => Blk W w.heap.size 86 (nfC (n : Int) 2 l z st)) (.yield [0] 1 (.yield [] 2 (.yield [3] 4 (.yield [5, 6] 7 (.force [9] 8 (.force [] 10 (.fin [11]))))))) (by kernel_rfl) (by kernel_rfl) hS0 (plan_yield ?_)
    generalize w6.drew = w7 at *
    simp only [sgLHDiRemove]
    go_wp2_with fail
    refine ⟨rfl, _, .pointer (some ⟨w.heap.size, 0, none⟩), rfl, Or.inl ⟨by rfl, fun W hW => by go_simp⟩, plan_yield ?_⟩
    simp only [Act.put, sgPHDiRemove]
    simp only [sgLHDiRemove]
    go_wp2_with fail
    refine ⟨rfl, _, .int .i64 (n : Int), rfl, Or.inl ⟨by rfl, fun W hW => by have hW0 := (nf_cs hW).1; go_simp⟩, plan_yield ?_⟩
    simp only [Act.put, sgPHDiRemove]
    simp only [sgLHDiRemove]
    go_wp2_with fail
    refine ⟨rfl, _, .int .i64 (qk : Int), rfl, Or.inl ⟨by rfl, fun W hW => by go_simp⟩, plan_yield ?_⟩
    simp only [Act.put, sgPHDiRemove]
    simp only [sgLHDiRemove]
    go_wp2_with fail
    refine ⟨rfl, _, .int .i64 (rk : Int), rfl, Or.inl ⟨by rfl, fun W hW => by go_simp⟩, plan_force ?_⟩
    simp only [Act.put, sgPHDiRemove]
    simp only [sgLHDiRemove]
    go_wp2_with fail
    refine ⟨rfl, hS0, plan_force ?_⟩
    simp only [sgLHDiRemove]
    go_wp2_with fail
    refine (HL2.out w7 HE6.out.1 (some ⟨g2, 0, none⟩) c2 HE6.out.2.2).mono ?_
    rintro e w8 ⟨rfl, hI8, ht8⟩
    have hS8 : Blk w8 w.heap.size 86 (nfC (n : Int) 2 l z st) := ((ht8.block _ hS0.lt (fun hb => by have := HX.out.1; rcases hb with hb | hb <;> omega)).trans hS0)
    have HE8 : Hid (IM w8 x mf ml mc cp top H2 D2 ∧ Turns (fun z => z = ml ∨ z = mf ∨ z = g) w w8) := ⟨hI8, HE6.out.2.1.tr (ht8.mono fun b hb => by rcases hb with hb | hb; exact .inl hb; exact .inr (.inl hb))⟩
    clear hI8 ht8 HE6 hS0
    go_wp2_with fail
    refine ⟨rfl, hS8, plan_fin ?_⟩
    simp only [sgLHDiRemove]
    go_wp2_with fail
    refine ⟨rfl, ?_⟩
    have n8 := (nf_cs hS8).1
    have z8 := (nf_cs hS8).2.2.2.1
    have H8 := HRZ.out w8 HE8.out.1
    clear HRZ HL2
    go_wp2_with fail
    refine H8.mono ?_
    rintro e w9 ⟨rfl, hI9, ht9⟩
    have HF : Hid (_ ∧ Turns (fun z => z = ml ∨ z = mf ∨ z = g) w w9) := ⟨hI9, HE8.out.2.tr (ht9.mono fun b hb => by rcases hb with hb | hb; exact .inl hb; exact .inr (.inl hb))⟩
    clear hI9 ht9 H8 HE8 hS8
    go_wp2_with fail
    go_ret
    exact ⟨rfl, HF.out.1, HF.out.2⟩
end
end Go.Proofs.YtojnlmfahgeidaaGreatDoor

namespace Go.Proofs.YtojnlmfahgeidaaGreatDoor
open Go Go.RowKit
set_option linter.unusedSimpArgs false
set_option linter.unusedVariables false
section
variable {w : World} {x mf ml mc : Nat} {cp : Option Addr} {top : Int} {H : Nat → Hd} {D : Nat → Nat → Nat → Nat} {n k st : Nat} {N : Nat → Int} {S : Nat → ByteArray}
set_option maxRecDepth 100000 in
set_option maxHeartbeats 4000000 in
theorem IM.findD (h : IM w x mf ml mc cp top H D) (hd : Di H D n k st N S) (s : ByteArray) (hs : isName s.data.toList = true) (p : Nat) (hp : FirstN S k p s) (r0 r1 er : Int) (hr : r0 = if p < k then N p else 0) (hr1 : r1 = if p < k then (p : Int) else 0) (her : er = if p < k then 0 else 171) : Calls Tryz.prog 14 #[.pointer (some ⟨x, 0, none⟩), .int .i64 (n : Int), .string s] w fun e w' => e = .returned (.tuple #[.int .i64 r0, .int .i64 r1, .int .i64 er]) ∧ Below w.heap.size w w' := by
  have hle := hd.le
  have HDR := h.dirD hd
  have HSE : Hid (∀ V, Below w.heap.size w V → Calls Tryz.prog 59 #[.pointer (some ⟨x, 0, none⟩), .agg (nfC (n : Int) 2 (H n).l ((64 * k : Nat) : Int) st), .string s] V fun e w' => ∃ v, e = .returned (.tuple #[.int .i64 r1, v, .int .i64 er]) ∧ w'.ownsRow V.heap.size 36 2 v (inLf k (lastQ k p)) (lkL (shN N (lastQ k p)) (shS S (lastQ k p)) (inLf k (lastQ k p))) ∧ Below V.heap.size V w') := fun V hV => (h.below hV).search hd (H n).l s p hp r1 er hr1 her
  have HCK : Hid (∀ V : World, Calls Tryz.prog 58 #[.string s] V fun e w' => e = .returned (.int .i64 0) ∧ Below V.heap.size V w') := fun V => by
    have := qcheck_any s V
    unfold nameE at this
    rw [if_pos hs] at this
    exact this
  have hzi : ∀ w, (zeroValue 86).run Tryz.prog w = .ok (.agg nf0) w := zero_nf
  clear h hd hs
  generalize (H n).l = l at *
  generalize ((64 * k : Nat) : Int) = z at *
  go_enter Tryz.func14, Tryz.ntmps14
  go_wp2_with fail
  refine HDR.mono ?_
  rintro e w2 ⟨rfl, hb2⟩
  have u1 : Blk (w2.alloc (.cells nf0 86)) w2.heap.size 86 nf0 := Blk.new _ _ _
  have u2 := u1.set (nfC (n : Int) 2 l z st)
  have HB : Hid (Below w.heap.size w ((w2.alloc (.cells nf0 86)).setRow w2.heap.size (nfC (n : Int) 2 l z st))) := below_setRow (hb2.alloc hb2.size _) hb2.size _
  clear hb2 HDR
  go_wp2_with (first
    | (refine wpList_store_row (by rfl) 86 _ _ (by rfl) (w2.heap.size) (nfC (n : Int) 2 l z st) (by rfl) (by rfl) 86 (nf0) (by exact u1) (size_nf.trans (by rfl)) (by rfl) (nf_all _ _ _ _ _) ?_; simp only [Act.put, sgPHDiRemove])
    | fail)
  refine (HCK.out _).mono ?_
  rintro e w3 ⟨rfl, hb3⟩
  have u3 := u2.below hb3 u2.lt
  have HB3 : Hid (Below w.heap.size w w3) := HB.out.trans (hb3.mono HB.out.size)
  have H3 := HSE.out w3 HB3.out
  clear hb3 HB u1 u2
  go_wp2_with (first
    | (refine wpList_load_row (by rfl) 86 _ (by rfl) (w2.heap.size) (by rfl) 86 (nfC (n : Int) 2 l z st) (0, 0) _ (by exact u3) Tryz.underlying86 (by rfl) (size_nf.trans (by rfl)) ?_; simp only [Act.put, sgPHDiRemove])
    | fail)
  refine H3.mono ?_
  rintro e w4 ⟨v, rfl, hv, hb4⟩
  have HB4 : Hid (Below w.heap.size w w4) := HB3.out.trans (hb4.mono HB3.out.size)
  clear hb4 HB3 u3 H3
  by_cases hpk : p < k
  · rw [if_pos hpk] at hr hr1 her
    have hq : lastQ k p = p / 4 := by unfold lastQ; omega
    obtain ⟨r, hr4⟩ : ∃ r, r = p % 4 := ⟨_, rfl⟩
    have hrm : r < inLf k (lastQ k p) := by rw [hq]; unfold inLf; omega
    obtain ⟨a, cc, rfl, hI, hcc⟩ := own_lks hv
    obtain ⟨g, rfl, hg, hc⟩ := hI (by omega)
    have c0 : w4.cell? ⟨g, r * 2, none⟩ = some (.int .i64 (N p)) := by
      rw [(hc r hrm).1]
      unfold shN
      rw [hq, show 4 * (p / 4) + r = p by omega]
    have d2 : (p : Int) % 4 = (r : Int) := by omega
    have r4 : r < 4 := by omega
    have p1 : (p : Int) ≤ 16384 := by omega
    have rm2 : (r : Int) < ((inLf k (lastQ k p) : Nat) : Int) := by omega
    subst hr hr1 her
    clear hc hv hI hpk hq hrm hr4 hp hle hcc
    generalize inLf k (lastQ k p) = m at *
    go_wp2_with fail
    go_ret3
    exact ⟨rfl, HB4.out⟩
  · rw [if_neg hpk] at hr hr1 her
    subst hr hr1 her
    clear hv hpk hp
    go_wp2_with fail
    go_ret3
    exact ⟨rfl, HB4.out⟩
end
end Go.Proofs.YtojnlmfahgeidaaGreatDoor

namespace Go.Proofs.YtojnlmfahgeidaaGreatDoor
open Go Go.RowKit
set_option linter.unusedSimpArgs false
set_option linter.unusedVariables false
section
variable {w : World} {x mf ml mc : Nat} {cp : Option Addr} {top : Int} {H : Nat → Hd} {D : Nat → Nat → Nat → Nat} {n k st : Nat} {N : Nat → Int} {S : Nat → ByteArray}
set_option maxRecDepth 100000 in
set_option maxHeartbeats 8000000 in
theorem IM.removeOk (h : IM w x mf ml mc cp top H D) (hd : Di H D n (k + 1) st N S) (s : ByteArray) (hs : isName s.data.toList = true) (p : Nat) (hp : p ≤ k) (hF : FirstN S (k + 1) p s) (st' : Nat) : Calls Tryz.prog 52 #[.pointer (some ⟨x, 0, none⟩), .int .i64 (n : Int), .string s, .int .u64 ((st' : Nat) : Int)] w fun e w' => e = .returned (.tuple #[.int .i64 (N p), .int .i64 0]) ∧ (∃ H' D', IM w' x mf ml mc cp top H' D' ∧ Di H' D' n k st' (mvN N k p) (mvS S k p) ∧ OthD H H' D D' n) ∧ Turns (fun z => z = ml ∨ z = mf) w w' := by
  have hle := hd.le
  have hlts := h.lts
  have hzi : ∀ w, (zeroValue 86).run Tryz.prog w = .ok (.agg nf0) w := zero_nf
  have HDR := h.dirD hd
  have HCK : Hid (∀ V : World, Calls Tryz.prog 58 #[.string s] V fun e w' => e = .returned (.int .i64 0) ∧ Below V.heap.size V w') := fun V => by
    have := qcheck_any s V
    unfold nameE at this
    rw [if_pos hs] at this
    exact this
  have HSE : Hid (∀ V, Below w.heap.size w V → Calls Tryz.prog 59 #[.pointer (some ⟨x, 0, none⟩), .agg (nfC (n : Int) 2 (H n).l ((64 * (k + 1) : Nat) : Int) st), .string s] V fun e w' => ∃ v, e = .returned (.tuple #[.int .i64 (p : Int), v, .int .i64 0]) ∧ w'.ownsRow V.heap.size 36 2 v (inLf (k + 1) (p / 4)) (lkL (shN N (p / 4)) (shS S (p / 4)) (inLf (k + 1) (p / 4))) ∧ Below V.heap.size V w') := fun V hV => by
    have := (h.below hV).search hd (H n).l s p hF (p : Int) 0 (by rw [if_pos (by omega)]) (by rw [if_pos (by omega)])
    rw [show lastQ (k + 1) p = p / 4 by unfold lastQ; omega] at this
    exact this
  have HFI : Hid (∀ V, Below w.heap.size w V → ∀ (g c : Nat), V.ownsRow w.heap.size 36 2 (.slice (some ⟨g, 0, none⟩) (inLf (k + 1) (p / 4)) c) (inLf (k + 1) (p / 4)) (lkL (shN N (p / 4)) (shS S (p / 4)) (inLf (k + 1) (p / 4))) → w.heap.size ≤ g → Calls Tryz.prog 113 #[.pointer (some ⟨x, 0, none⟩), .agg (nfC (n : Int) 2 (H n).l ((64 * (k + 1) : Nat) : Int) st), .int .i64 (p : Int), .slice (some ⟨g, 0, none⟩) (inLf (k + 1) (p / 4)) c, .int .u64 ((st' : Nat) : Int)] V fun e w' => e = .returned (.int .i64 0) ∧ (∃ H' D', IM w' x mf ml mc cp top H' D' ∧ Di H' D' n k st' (mvN N k p) (mvS S k p) ∧ OthD H H' D D' n) ∧ Turns (fun z => z = ml ∨ z = mf ∨ z = g) V w') := fun V hV g c hv hg => (h.below hV).fillD hd (H n).l p hp w.heap.size g c hv (by omega) st'
  have HX : Hid (p % 4 < inLf (k + 1) (p / 4) ∧ shN N (p / 4) (p % 4) = N p) := by
    refine ⟨by unfold inLf; omega, ?_⟩
    unfold shN
    rw [show 4 * (p / 4) + p % 4 = p by omega]
  have p1 : (p : Int) < 16384 := by omega
  have e4 : (p : Int) % 4 = ((p % 4 : Nat) : Int) := by omega
  have hr4 : p % 4 < 4 := by omega
  clear h hd hs hF hlts hle
  generalize (H n).l = l at *
  generalize ((64 * (k + 1) : Nat) : Int) = z at *
  generalize hm : inLf (k + 1) (p / 4) = m at *
  clear hm
  obtain ⟨r, hr⟩ : ∃ r, r = p % 4 := ⟨_, rfl⟩
  rw [← hr] at e4 hr4 HX
  clear hr
  go_enter Tryz.func52, Tryz.ntmps52
  go_wp2_with fail
  refine HDR.mono ?_
  rintro e w2 ⟨rfl, hb2⟩
  have u1 : Blk (w2.alloc (.cells nf0 86)) w2.heap.size 86 nf0 := Blk.new _ _ _
  have u2 := u1.set (nfC (n : Int) 2 l z st)
  have HB : Hid (Below w.heap.size w ((w2.alloc (.cells nf0 86)).setRow w2.heap.size (nfC (n : Int) 2 l z st))) := below_setRow (hb2.alloc hb2.size _) hb2.size _
  clear hb2 HDR
  go_wp2_with (first
    | (refine wpList_store_row (by rfl) 86 _ _ (by rfl) (w2.heap.size) (nfC (n : Int) 2 l z st) (by rfl) (by rfl) 86 (nf0) (by exact u1) (size_nf.trans (by rfl)) (by rfl) (nf_all _ _ _ _ _) ?_; simp only [Act.put, sgPHDiRemove])
    | fail)
  refine (HCK.out _).mono ?_
  rintro e w3 ⟨rfl, hb3⟩
  have u3 := u2.below hb3 u2.lt
  have HB3 : Hid (Below w.heap.size w w3) := HB.out.trans (hb3.mono HB.out.size)
  have H3 := HSE.out w3 HB3.out
  clear hb3 HB u1 u2
  go_wp2_with (first
    | (refine wpList_load_row (by rfl) 86 _ (by rfl) (w2.heap.size) (by rfl) 86 (nfC (n : Int) 2 l z st) (0, 0) _ (by exact u3) Tryz.underlying86 (by rfl) (size_nf.trans (by rfl)) ?_; simp only [Act.put, sgPHDiRemove])
    | fail)
  refine H3.mono ?_
  rintro e w4 ⟨v, rfl, hv, hb4⟩
  obtain ⟨g, c, rfl, hg, hgw⟩ := kown_form hv (by have := HX.out.1; omega)
  have c0 : w4.cell? ⟨g, r * 2, none⟩ = some (.int .i64 (N p)) := by
    rw [hv.cellAt (r * 2) (by have := HX.out.1; omega), (dlk_at _ _ _ r HX.out.1).1, HX.out.2]
  have rm : (r : Int) < (m : Int) := by have := HX.out.1; omega
  have u4 := u3.below hb4 u3.lt
  have HB4 : Hid (Below w.heap.size w w4) := HB3.out.trans (hb4.mono HB3.out.size)
  have hg' : w.heap.size ≤ g := Nat.le_trans HB3.out.size hg
  have H4 := HFI.out w4 HB4.out g c (kown_mono hv HB3.out.size) hg'
  have HG : Hid (w.heap.size ≤ g) := hg'
  clear hv hb4 hg hgw hg' u3 HB3 H3 HFI
  go_wp2_with (first
    | (refine wpList_load_row (by rfl) 86 _ (by rfl) (w2.heap.size) (by rfl) 86 (nfC (n : Int) 2 l z st) (0, 0) _ (by exact u4) Tryz.underlying86 (by rfl) (size_nf.trans (by rfl)) ?_; simp only [Act.put, sgPHDiRemove])
    | fail)
  refine H4.mono ?_
  rintro e w5 ⟨rfl, hI5, ht5⟩
  have HE : Hid (_ ∧ Turns (fun z => z = ml ∨ z = mf) w w5) := ⟨hI5, (Turns.bel HB4.out).trans ht5 fun b hb => by
    rcases hb with hb | hb | hb
    · exact .inl (.inl hb)
    · exact .inl (.inr hb)
    · exact .inr (by rw [hb]; exact HG.out)⟩
  clear hI5 ht5 H4 HB4 u4 c0
  go_wp2_with fail
  go_ret2
  exact ⟨rfl, HE.out.1, HE.out.2⟩
end
end Go.Proofs.YtojnlmfahgeidaaGreatDoor
