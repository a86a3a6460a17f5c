/- The document's Compare of texts of every length. -/
import Derived.Test.YtojnlmfahgeidaaGreatDoorHDiFind
import Derived.Test.YtojnlmfahgeidaaGreatDoorHInsDrop
import Derived.Deep.Cut
import Derived.Handy
import Derived.Test.YtojnlmfahgeidaaGreatDoorHNaSoC
import Derived.BigQuiet
import Derived.Deep.QuietTactic

namespace Go.Proofs.YtojnlmfahgeidaaGreatDoor
open Go Go.RowKit
set_option linter.unusedSimpArgs false
set_option linter.unusedVariables false
section
variable {w : World} {x mf ml mc : Nat} {cp : Option Addr} {top : Int} {H : Nat → Hd} {D : Nat → Nat → Nat → Nat} {n k st : Nat} {N : Nat → Int} {S : Nat → ByteArray}
set_option maxRecDepth 100000 in
set_option maxHeartbeats 8000000 in
/-- a place that is none -/
theorem IM.entryNo (h : IM w x mf ml mc cp top H D) (hd : Di H D n k st N S) (j : Int) (hj : j < 0 ∨ (k : Int) ≤ j) : Calls Tryz.prog 15 #[.pointer (some ⟨x, 0, none⟩), .int .i64 (n : Int), .int .i64 j] w fun e w' => e = .returned (.tuple #[.agg #[.int .i64 0, .string ⟨#[]⟩], .int .i64 90]) ∧ Below w.heap.size w w' := by
  have HDR : Hid (∀ V, Below w.heap.size w V → Calls Tryz.prog 57 #[.pointer (some ⟨x, 0, none⟩), .int .i64 (n : Int)] V fun e w' => e = .returned (.tuple #[.agg (nfC (n : Int) 2 (H n).l ((64 * k : Nat) : Int) st), .int .i64 0]) ∧ Below V.heap.size V w') := fun V hV => (h.below hV).dirD hd
  have HCT : Hid (∀ V : World, Calls Tryz.prog 60 #[.agg (nfC (n : Int) 2 (H n).l ((64 * k : Nat) : Int) st)] V fun e w' => e = .returned (.int .i64 (k : Int)) ∧ Below V.heap.size V w') := count_any (n : Int) 2 (H n).l k st hd.le
  have hzi : ∀ w, (zeroValue 86).run Tryz.prog w = .ok (.agg nf0) w := zero_nf
  have hle := hd.le
  clear h hd
  generalize (H n).l = l at *
  generalize ((64 * k : Nat) : Int) = z at *
  have hb1 : Below w.heap.size w (w.alloc (.cells #[.int .i64 0, .string ⟨#[]⟩] 36)) := below_new1 _ _
  have H1 := HDR.out _ hb1
  have p1 : Blk (w.alloc (.cells #[.int .i64 0, .string ⟨#[]⟩] 36)) w.heap.size 36 #[.int .i64 0, .string ⟨#[]⟩] := Blk.new _ _ _
  clear HDR
  go_enter Tryz.func15, Tryz.ntmps15
  go_wp2_with fail
  generalize (w.alloc (.cells #[.int .i64 0, .string ⟨#[]⟩] 36)) = w1 at *
  refine H1.mono ?_
  rintro e w2 ⟨rfl, hb2⟩
  have u1 : Blk (w2.alloc (.cells nf0 86)) w2.heap.size 86 nf0 := Blk.new _ _ _
  have u2 := u1.set (nfC (n : Int) 2 l z st)
  have hb12 := hb1.trans (hb2.mono hb1.size)
  have hB : Below w.heap.size w ((w2.alloc (.cells nf0 86)).setRow w2.heap.size (nfC (n : Int) 2 l z st)) := below_setRow (hb12.alloc hb12.size _) hb12.size _
  have p2 := p1.below hb2 p1.lt
  have p3 : Blk ((w2.alloc (.cells nf0 86)).setRow w2.heap.size (nfC (n : Int) 2 l z st)) w.heap.size 36 #[.int .i64 0, .string ⟨#[]⟩] := (p2.alloc _).other _ (by have := p2.lt; omega)
  have HQ : Hid (Below w.heap.size w ((w2.alloc (.cells nf0 86)).setRow w2.heap.size (nfC (n : Int) 2 l z st)) ∧ Blk ((w2.alloc (.cells nf0 86)).setRow w2.heap.size (nfC (n : Int) 2 l z st)) w.heap.size 36 #[.int .i64 0, .string ⟨#[]⟩] ∧ Blk ((w2.alloc (.cells nf0 86)).setRow w2.heap.size (nfC (n : Int) 2 l z st)) w2.heap.size 86 (nfC (n : Int) 2 l z st)) := ⟨hB, p3, u2⟩
  clear hb1 hb2 hb12 H1 p1 p2 p3 hB u2
  rcases hj with hj | hj
  · go_upto_region 5 with (first | (refine wpList_store_row (by rfl) 86 _ _ (by rfl) (w2.heap.size) (nfC (n : Int) 2 l z st) (by rfl) (by rfl) 86 (nf0) (by exact u1) (size_nf.trans (by rfl)) (by rfl) (nf_all _ _ _ _ _) ?_; simp only [Act.put, List.setIfInBounds_toArray, List.set_cons_zero, List.set_cons_succ]) | fail)
    generalize ((w2.alloc (.cells nf0 86)).setRow w2.heap.size (nfC (n : Int) 2 l z st)) = W0 at *
    have c0 : W0.cell? ⟨w.heap.size, 0, none⟩ = some (.int .i64 0) := (HQ.out.2.1.cell 0).trans rfl
    have c1 : W0.cell? ⟨w.heap.size, 1, none⟩ = some (.string ⟨#[]⟩) := (HQ.out.2.1.cell 1).trans rfl
    have f0 : W0.frozen? ⟨w.heap.size, 0, none⟩ = false := HQ.out.2.1.frozen 0
    have f1 : W0.frozen? ⟨w.heap.size, 1, none⟩ = false := HQ.out.2.1.frozen 1
    have HE : Hid (Below w.heap.size w ((W0.setCell ⟨w.heap.size, 0, none⟩ (.int .i64 0)).setCell ⟨w.heap.size, 1, none⟩ (.string ⟨#[]⟩)) ∧ Blk ((W0.setCell ⟨w.heap.size, 0, none⟩ (.int .i64 0)).setCell ⟨w.heap.size, 1, none⟩ (.string ⟨#[]⟩)) w.heap.size 36 #[.int .i64 0, .string ⟨#[]⟩]) := ⟨(HQ.out.1.setCell (p := ⟨w.heap.size, 0, none⟩) (Nat.le_refl _) _).setCell (p := ⟨w.heap.size, 1, none⟩) (Nat.le_refl _) _, (HQ.out.2.1.put 0 _).put 1 _⟩
    go_wp2_with fail
    try simp only [Exit.inBlock, Exit.then]
    refine bodyPost_ret (results_row2 Tryz.results15 _ _ (w.heap.size) 36 _ (0, 0) _ rfl HE.out.2 Tryz.underlying36 rfl (by kernel_rfl)) rfl ?_
    exact ⟨rfl, HE.out.1⟩
  · have hj0 : ¬ j < 0 := by omega
    have hjd : decide (j < 0) = false := decide_eq_false hj0
    go_upto_region 4 with (first | (refine wpList_store_row (by rfl) 86 _ _ (by rfl) (w2.heap.size) (nfC (n : Int) 2 l z st) (by rfl) (by rfl) 86 (nf0) (by exact u1) (size_nf.trans (by rfl)) (by rfl) (nf_all _ _ _ _ _) ?_; simp only [Act.put, List.setIfInBounds_toArray, List.set_cons_zero, List.set_cons_succ]) | fail)
    generalize ((w2.alloc (.cells nf0 86)).setRow w2.heap.size (nfC (n : Int) 2 l z st)) = W2 at *
    have u3 := HQ.out.2.2
    go_wp2_with (first | (refine wpList_load_rowg (by rfl) 86 _ (by rfl) (w2.heap.size) (by rfl) 86 (nfC (n : Int) 2 l z st) (0, 0) _ (by exact u3) Tryz.underlying86 (by rfl) (size_nf.trans (by rfl)) ?_; simp only [Act.put, List.setIfInBounds_toArray, List.set_cons_zero, List.set_cons_succ]) | fail)
    refine (HCT.out _).mono ?_
    rintro e W0 ⟨rfl, hb3⟩
    have HQ0 : Hid (Below w.heap.size w W0 ∧ Blk W0 w.heap.size 36 #[.int .i64 0, .string ⟨#[]⟩] ∧ Blk W0 w2.heap.size 86 (nfC (n : Int) 2 l z st)) := ⟨HQ.out.1.trans (hb3.mono HQ.out.1.size), HQ.out.2.1.below hb3 HQ.out.2.1.lt, HQ.out.2.2.below hb3 HQ.out.2.2.lt⟩
    clear HQ hb3 u3
    have HQ := HQ0
    clear HQ0
    have c0 : W0.cell? ⟨w.heap.size, 0, none⟩ = some (.int .i64 0) := (HQ.out.2.1.cell 0).trans rfl
    have c1 : W0.cell? ⟨w.heap.size, 1, none⟩ = some (.string ⟨#[]⟩) := (HQ.out.2.1.cell 1).trans rfl
    have f0 : W0.frozen? ⟨w.heap.size, 0, none⟩ = false := HQ.out.2.1.frozen 0
    have f1 : W0.frozen? ⟨w.heap.size, 1, none⟩ = false := HQ.out.2.1.frozen 1
    have HE : Hid (Below w.heap.size w ((W0.setCell ⟨w.heap.size, 0, none⟩ (.int .i64 0)).setCell ⟨w.heap.size, 1, none⟩ (.string ⟨#[]⟩)) ∧ Blk ((W0.setCell ⟨w.heap.size, 0, none⟩ (.int .i64 0)).setCell ⟨w.heap.size, 1, none⟩ (.string ⟨#[]⟩)) w.heap.size 36 #[.int .i64 0, .string ⟨#[]⟩]) := ⟨(HQ.out.1.setCell (p := ⟨w.heap.size, 0, none⟩) (Nat.le_refl _) _).setCell (p := ⟨w.heap.size, 1, none⟩) (Nat.le_refl _) _, (HQ.out.2.1.put 0 _).put 1 _⟩
    go_wp2_with fail
    try simp only [Exit.inBlock, Exit.then]
    refine bodyPost_ret (results_row2 Tryz.results15 _ _ (w.heap.size) 36 _ (0, 0) _ rfl HE.out.2 Tryz.underlying36 rfl (by kernel_rfl)) rfl ?_
    exact ⟨rfl, HE.out.1⟩
set_option maxRecDepth 100000 in
set_option maxHeartbeats 8000000 in
theorem IM.entryD (h : IM w x mf ml mc cp top H D) (hd : Di H D n k st N S) (j : Nat) (hj : j < k) : Calls Tryz.prog 15 #[.pointer (some ⟨x, 0, none⟩), .int .i64 (n : Int), .int .i64 (j : Int)] w fun e w' => e = .returned (.tuple #[.agg #[.int .i64 (N j), .string (S j)], .int .i64 0]) ∧ Below w.heap.size w w' := by
  have HDR : Hid (∀ V, Below w.heap.size w V → Calls Tryz.prog 57 #[.pointer (some ⟨x, 0, none⟩), .int .i64 (n : Int)] V fun e w' => e = .returned (.tuple #[.agg (nfC (n : Int) 2 (H n).l ((64 * k : Nat) : Int) st), .int .i64 0]) ∧ Below V.heap.size V w') := fun V hV => (h.below hV).dirD hd
  have HCT : Hid (∀ V : World, Calls Tryz.prog 60 #[.agg (nfC (n : Int) 2 (H n).l ((64 * k : Nat) : Int) st)] V fun e w' => e = .returned (.int .i64 (k : Int)) ∧ Below V.heap.size V w') := count_any (n : Int) 2 (H n).l k st hd.le
  have hzi : ∀ w, (zeroValue 86).run Tryz.prog w = .ok (.agg nf0) w := zero_nf
  have hle := hd.le
  obtain ⟨q, hq⟩ : ∃ q, q = j / 4 := ⟨_, rfl⟩
  have HEN : Hid (∀ V, Below w.heap.size w V → Calls Tryz.prog 61 #[.pointer (some ⟨x, 0, none⟩), .agg (nfC (n : Int) 2 (H n).l ((64 * k : Nat) : Int) st), .int .i64 (q : Int)] V fun e w' => ∃ v, e = .returned (.tuple #[v, .int .i64 0]) ∧ w'.ownsRow V.heap.size 36 2 v (inLf k q) (lkL (shN N q) (shS S q) (inLf k q)) ∧ Below V.heap.size V w') := fun V hV => (h.below hV).entries hd (H n).l q (by omega)
  clear h hd
  generalize (H n).l = l at *
  generalize ((64 * k : Nat) : Int) = z at *
  have hb1 : Below w.heap.size w (w.alloc (.cells #[.int .i64 0, .string ⟨#[]⟩] 36)) := below_new1 _ _
  have H1 := HDR.out _ hb1
  have p1 : Blk (w.alloc (.cells #[.int .i64 0, .string ⟨#[]⟩] 36)) w.heap.size 36 #[.int .i64 0, .string ⟨#[]⟩] := Blk.new _ _ _
  clear HDR
  go_enter Tryz.func15, Tryz.ntmps15
  go_wp2_with fail
  generalize (w.alloc (.cells #[.int .i64 0, .string ⟨#[]⟩] 36)) = w1 at *
  refine H1.mono ?_
  rintro e w2 ⟨rfl, hb2⟩
  have u1 : Blk (w2.alloc (.cells nf0 86)) w2.heap.size 86 nf0 := Blk.new _ _ _
  have u2 := u1.set (nfC (n : Int) 2 l z st)
  have hb12 := hb1.trans (hb2.mono hb1.size)
  have hB : Below w.heap.size w ((w2.alloc (.cells nf0 86)).setRow w2.heap.size (nfC (n : Int) 2 l z st)) := below_setRow (hb12.alloc hb12.size _) hb12.size _
  have p2 := p1.below hb2 p1.lt
  have p3 : Blk ((w2.alloc (.cells nf0 86)).setRow w2.heap.size (nfC (n : Int) 2 l z st)) w.heap.size 36 #[.int .i64 0, .string ⟨#[]⟩] := (p2.alloc _).other _ (by have := p2.lt; omega)
  have HQ : Hid (Below w.heap.size w ((w2.alloc (.cells nf0 86)).setRow w2.heap.size (nfC (n : Int) 2 l z st)) ∧ Blk ((w2.alloc (.cells nf0 86)).setRow w2.heap.size (nfC (n : Int) 2 l z st)) w.heap.size 36 #[.int .i64 0, .string ⟨#[]⟩] ∧ Blk ((w2.alloc (.cells nf0 86)).setRow w2.heap.size (nfC (n : Int) 2 l z st)) w2.heap.size 86 (nfC (n : Int) 2 l z st)) := ⟨hB, p3, u2⟩
  clear hb1 hb2 hb12 H1 p1 p2 p3 hB u2
  have hj0 : ¬ (j : Int) < 0 := by omega
  have hjk : ¬ (k : Int) ≤ (j : Int) := by omega
  have p1 : (j : Int) ≤ 16384 := by omega
  have p0 : (0 : Int) ≤ (j : Int) := by omega
  have hj1 : (j : Int) < (k : Int) := by omega
  have q1 : (j : Int).tdiv 4 = (q : Int) := by rw [Int.tdiv_eq_ediv_of_nonneg (by omega)]; omega
  have q2 : (j : Int) / 4 = (q : Int) := by omega
  obtain ⟨r, hr⟩ : ∃ r, r = j % 4 := ⟨_, rfl⟩
  have q3 : (j : Int).tmod 4 = (r : Int) := by rw [Int.tmod_eq_emod_of_nonneg (by omega)]; omega
  have q4 : (j : Int) % 4 = (r : Int) := by omega
  have hrm : r < inLf k q := by unfold inLf; omega
  have HSH : Hid (shN N q r = N j ∧ shS S q r = S j) := by
    unfold shN shS
    rw [show 4 * q + r = j by omega]
    exact ⟨rfl, rfl⟩
  have HRM : Hid (r < inLf k q) := hrm
  clear hq hr hrm
  go_upto_region 4 with (first | (refine wpList_store_row (by rfl) 86 _ _ (by rfl) (w2.heap.size) (nfC (n : Int) 2 l z st) (by rfl) (by rfl) 86 (nf0) (by exact u1) (size_nf.trans (by rfl)) (by rfl) (nf_all _ _ _ _ _) ?_; simp only [Act.put, List.setIfInBounds_toArray, List.set_cons_zero, List.set_cons_succ]) | fail)
  generalize ((w2.alloc (.cells nf0 86)).setRow w2.heap.size (nfC (n : Int) 2 l z st)) = W2 at *
  have u3 := HQ.out.2.2
  go_wp2_with (first | (refine wpList_load_rowg (by rfl) 86 _ (by rfl) (w2.heap.size) (by rfl) 86 (nfC (n : Int) 2 l z st) (0, 0) _ (by exact u3) Tryz.underlying86 (by rfl) (size_nf.trans (by rfl)) ?_; simp only [Act.put, List.setIfInBounds_toArray, List.set_cons_zero, List.set_cons_succ]) | fail)
  refine (HCT.out _).mono ?_
  rintro e W3 ⟨rfl, hb3⟩
  have HQ3 : Hid (Below w.heap.size w W3 ∧ Blk W3 w.heap.size 36 #[.int .i64 0, .string ⟨#[]⟩] ∧ Blk W3 w2.heap.size 86 (nfC (n : Int) 2 l z st)) := ⟨HQ.out.1.trans (hb3.mono HQ.out.1.size), HQ.out.2.1.below hb3 HQ.out.2.1.lt, HQ.out.2.2.below hb3 HQ.out.2.2.lt⟩
  clear HQ hb3 u3
  have u4 := HQ3.out.2.2
  have H4 := HEN.out W3 HQ3.out.1
  go_wp2_with (first | (refine wpList_load_row (by rfl) 86 _ (by rfl) (w2.heap.size) (by rfl) 86 (nfC (n : Int) 2 l z st) (0, 0) _ (by exact u4) Tryz.underlying86 (by rfl) (size_nf.trans (by rfl)) ?_; simp only [Act.put, List.setIfInBounds_toArray, List.set_cons_zero, List.set_cons_succ]) | fail)
  refine H4.mono ?_
  rintro e W0 ⟨v, rfl, hv, hb4⟩
  have HQ : Hid (Below w.heap.size w W0 ∧ Blk W0 w.heap.size 36 #[.int .i64 0, .string ⟨#[]⟩] ∧ Blk W0 w2.heap.size 86 (nfC (n : Int) 2 l z st)) := ⟨HQ3.out.1.trans (hb4.mono HQ3.out.1.size), HQ3.out.2.1.below hb4 HQ3.out.2.1.lt, HQ3.out.2.2.below hb4 HQ3.out.2.2.lt⟩
  obtain ⟨a, cc, rfl, hI, hcc⟩ := own_lks hv
  have hrm := HRM.out
  obtain ⟨g, rfl, hg, hc⟩ := hI (by omega)
  have e0 := (hc r hrm).1
  have e1 := (hc r hrm).2
  rw [HSH.out.1] at e0
  rw [HSH.out.2] at e1
  have rz : (0 : Int) ≤ (r : Int) := by omega
  have rm2 : (r : Int) < ((inLf k q : Nat) : Int) := by omega
  have c0 : W0.cell? ⟨w.heap.size, 0, none⟩ = some (.int .i64 0) := (HQ.out.2.1.cell 0).trans rfl
  have c1 : W0.cell? ⟨w.heap.size, 1, none⟩ = some (.string ⟨#[]⟩) := (HQ.out.2.1.cell 1).trans rfl
  have f0 : W0.frozen? ⟨w.heap.size, 0, none⟩ = false := HQ.out.2.1.frozen 0
  have f1 : W0.frozen? ⟨w.heap.size, 1, none⟩ = false := HQ.out.2.1.frozen 1
  have HE : Hid (Below w.heap.size w ((W0.setCell ⟨w.heap.size, 0, none⟩ (.int .i64 (N j))).setCell ⟨w.heap.size, 1, none⟩ (.string (S j))) ∧ Blk ((W0.setCell ⟨w.heap.size, 0, none⟩ (.int .i64 (N j))).setCell ⟨w.heap.size, 1, none⟩ (.string (S j))) w.heap.size 36 #[.int .i64 (N j), .string (S j)]) := ⟨(HQ.out.1.setCell (p := ⟨w.heap.size, 0, none⟩) (Nat.le_refl _) _).setCell (p := ⟨w.heap.size, 1, none⟩) (Nat.le_refl _) _, (HQ.out.2.1.put 0 _).put 1 _⟩
  clear hc hv hI hcc hg hrm HRM HSH HEN H4 u4 HCT hb4 HQ3
  generalize inLf k q = m at *
  go_wp2_with fail
  try simp only [Exit.inBlock, Exit.then]
  refine bodyPost_ret (results_row2 Tryz.results15 _ _ (w.heap.size) 36 _ (0, 0) _ rfl HE.out.2 Tryz.underlying36 rfl (by kernel_rfl)) rfl ?_
  exact ⟨rfl, HE.out.1⟩
end
end Go.Proofs.YtojnlmfahgeidaaGreatDoor

namespace Go.Proofs.YtojnlmfahgeidaaGreatDoor
set_option maxRecDepth 20000
open Go Go.RowKit Go.Nam
set_option linter.unusedVariables false
set_option linter.unusedSimpArgs false
set_option maxHeartbeats 4000000 in
theorem rcompare_big (a b : ByteArray) (ha : a.size ≤ 9223372036854775807) (hb : b.size ≤ 9223372036854775807) (w : World) :
    Calls Tryz.prog 28 #[.string a, .string b] w fun e w' => e = .returned (.int .i64 (Lib.compareBytes a.data.toList b.data.toList)) ∧ ∃ n, w' = w.drewN n := by
  have HAL : Hid (a.size = a.data.toList.length) := Lib.size_eq a
  have HBL : Hid (b.size = b.data.toList.length) := Lib.size_eq b
  generalize hc : Lib.compareBytes a.data.toList b.data.toList = c
  have HC : Hid (Lib.compareBytes a.data.toList b.data.toList = c) := hc
  clear hc
  go_enter Tryz.func28, Tryz.ntmps28
  go_wp2_with fail
  go_loopw [5] (fun v wr => Hid (∃ i : Nat, i ≤ a.size ∧ i ≤ b.size ∧ v = .int .i64 (i : Int) ∧ Lib.compareBytes (a.data.toList.drop i) (b.data.toList.drop i) = c ∧ ∃ n, wr = w.drewN n)) (fun v _ => a.size - (intOf v).toNat)
  case atStart => exact ⟨0, by omega, by omega, rfl, HC.out, 0, rfl⟩
  case round =>
    obtain ⟨i, hia, hib, rfl, hcc, nd, rfl⟩ := Hid.out hrel
    have HI : Hid (Lib.compareBytes (a.data.toList.drop i) (b.data.toList.drop i) = c) := hcc
    clear hrel hcc HC
    have fin : Hid (∀ n, ∃ m, (w.drewN nd).drewN n = w.drewN m) := fun n => ⟨_, World.drewN_drewN _ _ _⟩
    by_cases h1 : i < a.size
    · have i1 : (i : Int) < (a.size : Int) := by omega
      by_cases h2 : i < b.size
      · have i2 : (i : Int) < (b.size : Int) := by omega
        obtain ⟨x, hx⟩ : ∃ x : UInt8, a[i]'h1 = x := ⟨_, rfl⟩
        obtain ⟨y, hy⟩ : ∃ y : UInt8, b[i]'h2 = y := ⟨_, rfl⟩
        have HX : Hid (a.data.toList[i]? = some x) := by show _ = _; rw [← hx]; exact Lib.data_getElem? a i h1
        have HY : Hid (b.data.toList[i]? = some y) := by show _ = _; rw [← hy]; exact Lib.data_getElem? b i h2
        have HN : Hid ((if x < y then (-1 : Int) else if y < x then 1 else Lib.compareBytes (a.data.toList.drop (i + 1)) (b.data.toList.drop (i + 1))) = c) := by
          have := HI.out
          rw [dropAt HX.out, dropAt HY.out] at this
          exact this
        clear HI HX HY
        by_cases c1 : x < y
        · have l1 : (x.toNat : Int) < (y.toNat : Int) := by have := UInt8.lt_iff_toNat_lt.1 c1; omega
          obtain rfl : -1 = c := by have := HN.out; rwa [if_pos c1] at this
          clear HN c1
          go_wp2_with fail
          go_quiet (fail)
          go_wp2_with fail
          go_ret
          exact ⟨rfl, fin.out _⟩
        · have l1 : ¬ ((x.toNat : Int) < (y.toNat : Int)) := by intro h; exact c1 (UInt8.lt_iff_toNat_lt.2 (by omega))
          by_cases c2 : y < x
          · have l2 : (y.toNat : Int) < (x.toNat : Int) := by have := UInt8.lt_iff_toNat_lt.1 c2; omega
            obtain rfl : 1 = c := by have := HN.out; rwa [if_neg c1, if_pos c2] at this
            clear HN c1 c2
            go_wp2_with fail
            go_quiet (fail)
            have fin2 : Hid (∀ n, ∃ m, ((w.drewN nd).drewN nq).drewN n = w.drewN m) := fun n => ⟨_, by rw [World.drewN_drewN, World.drewN_drewN]⟩
            generalize (w.drewN nd).drewN nq = w3 at fin2 ⊢
            go_wp2_with fail
            go_quiet (fail)
            go_wp2_with fail
            go_ret
            exact ⟨rfl, fin2.out _⟩
          · have l2 : ¬ ((y.toNat : Int) < (x.toNat : Int)) := by intro h; exact c2 (UInt8.lt_iff_toNat_lt.2 (by omega))
            have HM : Hid (Lib.compareBytes (a.data.toList.drop (i + 1)) (b.data.toList.drop (i + 1)) = c) := by have := HN.out; rwa [if_neg c1, if_neg c2] at this
            clear HN c1 c2
            go_wp2_with fail
            go_quiet (fail)
            have fin2 : Hid (∀ n, ∃ m, ((w.drewN nd).drewN nq).drewN n = w.drewN m) := fun n => ⟨_, by rw [World.drewN_drewN, World.drewN_drewN]⟩
            generalize (w.drewN nd).drewN nq = w3 at fin2 ⊢
            go_wp2_with fail
            go_quiet (fail)
            go_wp2_with fail
            go_roundw
            case rel => exact ⟨i + 1, by omega, by omega, by first | rfl | go_num | simp, HM.out, fin2.out _⟩
            case measure => simp [intOf]; omega
      · have i2 : ¬ ((i : Int) < (b.size : Int)) := by omega
        obtain rfl : 1 = c := (cmp_nil_drop i (by rw [← HAL.out]; exact h1) (by rw [← HBL.out]; omega)).symm.trans HI.out
        have l1 : ¬ ((a.size : Int) < (b.size : Int)) := by omega
        have l2 : (b.size : Int) < (a.size : Int) := by omega
        go_wp2_with fail
        go_ret
        exact ⟨rfl, nd, rfl⟩
    · have i1 : ¬ ((i : Int) < (a.size : Int)) := by omega
      by_cases h2 : i < b.size
      · obtain rfl : -1 = c := (cmp_drop_nil i (by rw [← HBL.out]; exact h2) (by rw [← HAL.out]; omega)).symm.trans HI.out
        have l1 : (a.size : Int) < (b.size : Int) := by omega
        go_wp2_with fail
        go_ret
        exact ⟨rfl, nd, rfl⟩
      · obtain rfl : 0 = c := (cmp_nil_nil i (by rw [← HAL.out]; omega) (by rw [← HBL.out]; omega)).symm.trans HI.out
        have l1 : ¬ ((a.size : Int) < (b.size : Int)) := by omega
        have l2 : ¬ ((b.size : Int) < (a.size : Int)) := by omega
        go_wp2_with fail
        go_ret
        exact ⟨rfl, nd, rfl⟩
end Go.Proofs.YtojnlmfahgeidaaGreatDoor
