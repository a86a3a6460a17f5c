/- The statement FilePlays: its walk. -/
import Derived.Test.YtojbgggkfahkfaaGreatHInsCloneK
import Derived.Test.YtojbgggkfahkfaaGreatHFlPI
import Derived.Handy

namespace Go.Proofs.YtojbgggkfahkfaaGreat
open Go Go.RowKit
set_option linter.unusedSimpArgs false
set_option linter.unusedVariables false
theorem beq_not {s t : ByteArray} (h : s ≠ t) : (s.toList == t.toList) = false := by
  rw [ByteArray.toList_eq, ByteArray.toList_eq]
  have : s.data.toList ≠ t.data.toList := fun e => h (by
    have : s.data = t.data := by simpa using e
    cases s; cases t; simp_all)
  simpa using this
/-- what the loop holds -/
structure PZ (w W : World) (x mf ml mc : Nat) (cp : Option Addr) (g8 g9 : Nat) (sm : ByteArray) (tm : Nat) (sk : ByteArray) (tk : Nat) : Prop where
  pi : PI w W x mf ml mc cp sm tm sk tk
  b8 : Blk W g8 33 (mdC sm tm)
  b9 : Blk W g9 33 (mdC sk tk)
  n8 : g8 ≠ x ∧ g8 ≠ mf ∧ g8 ≠ ml ∧ g8 ≠ mc
  n9 : g9 ≠ x ∧ g9 ≠ mf ∧ g9 ≠ ml ∧ g9 ≠ mc
  ne : g8 ≠ g9
  l8 : w.heap.size ≤ g8
  l9 : w.heap.size ≤ g9
theorem PZ.below {w W W' : World} {x mf ml mc : Nat} {cp : Option Addr} {g8 g9 : Nat} {sm sk : ByteArray} {tm tk : Nat} (h : PZ w W x mf ml mc cp g8 g9 sm tm sk tk) (hb : Below W.heap.size W W') : PZ w W' x mf ml mc cp g8 g9 sm tm sk tk := ⟨h.pi.below hb, h.b8.below hb h.b8.lt, h.b9.below hb h.b9.lt, h.n8, h.n9, h.ne, h.l8, h.l9⟩
set_option maxRecDepth 100000 in
set_option maxHeartbeats 32000000 in
theorem filePlaysLaw (al : Option Addr) (n c : Nat) (A : Nat → Ac) (hn : n * 48 ≤ 140737488351232) (hok : ∀ i, i < n → (A i).ok) (w : World) (hA : IsA16 w al n A) : Calls Tryz.prog 3 #[.slice al n c] w fun e w' => e = .returned (.bool true) ∧ Below w.heap.size w w' := by
  have HB := begun_any w
  have HAW : Hid (∀ w : World, Calls Tryz.prog 7 #[] w fun e w' => e = .returned (.bool true) ∧ Below w.heap.size w w') := awake16_any
  have hza := zero_ac
  have hzm : ∀ w, (zeroValue 33).run Tryz.prog w = .ok (.agg (mdC ⟨#[]⟩ 0)) w := zero_md
  have HA : Hid (IsA16 w al n A ∧ (∀ i, i < n → (A i).ok) ∧ n * 48 ≤ 140737488351232) := ⟨hA, hok, hn⟩
  have hn2 : n ≤ 140737488351232 := by omega
  clear hA hok hn
  go_enter Tryz.func3, Tryz.ntmps3
  go_wp2_with fail
  refine HB.mono ?_
  rintro e w1 ⟨x, mf, ml, mc, cp, rfl, hBeg⟩
  have HX : Hid (w.heap.size ≤ x ∧ w.heap.size ≤ mf ∧ w.heap.size ≤ ml ∧ w.heap.size ≤ mc) := hBeg.1
  have h1 := hBeg.2.1
  have hb1 := hBeg.2.2
  have HA1 := HAW.out w1
  clear HB hBeg
  go_wp2_with fail
  refine HA1.mono ?_
  rintro e w2 ⟨rfl, hb2⟩
  have h2 := h1.below hb2
  have hb12 := hb1.trans (hb2.mono hb1.size)
  have HBK := bulk_any al n c A HA.out.2.2 HA.out.2.1 w2 (HA.out.1.below hb12)
  clear HA1 h1 hb1 hb2
  go_wp2_with fail
  refine HBK.mono ?_
  rintro e w3 ⟨⟨bb, rfl, hbb⟩, hb3⟩
  have h3 := h2.below hb3
  have hb13 := hb12.trans (hb3.mono hb12.size)
  clear HBK h2 hb12 hb3
  cases bb with
  | false =>
    have HA2 := HAW.out w3
    have HE : Hid (Below w.heap.size w w3) := hb13
    clear h3 hb13 hbb
    go_wp2_with fail
    refine HA2.mono ?_
    rintro e w4 ⟨rfl, hb4⟩
    have HE4 : Hid (Below w.heap.size w w4) := HE.out.trans (hb4.mono HE.out.size)
    clear HA2 hb4
    go_wp2_with fail
    go_ret
    exact ⟨rfl, HE4.out⟩
  | true =>
    have HBB : Hid (∀ i, i < n → (A i).s.size ≤ 3000000) := hbb rfl
    have HM := h3.make 3 (by decide) (by decide) rfl (fun m g1 g2 => by
      have : m = 1 ∨ m = 2 := by omega
      rcases this with rfl | rfl <;> decide) 1 (.inl rfl) 1 (by decide)
    have HB13 : Hid (Below w.heap.size w w3) := hb13
    clear h3 hb13 hbb
    go_wp2_with fail
    refine HM.mono ?_
    rintro e w4 ⟨rfl, hI4, ht4⟩
    have hb4 : Below w.heap.size w w4 := by
      have := HX.out
      exact HB13.out.trans (ht4.below HB13.out.size (fun b hb => by rcases hb with rfl | rfl; exact this.1; exact this.2.1))
    have hP4 : PI w w4 x mf ml mc cp ⟨#[]⟩ 1 ⟨#[]⟩ 1 := ⟨⟨_, _, hI4, ⟨by decide, by decide, rfl, rfl, rfl, rfl, rfl, rfl, by decide, fun q i hi => by rw [if_neg (by show ¬ _ < 0; omega)]; rfl⟩, ⟨by decide, by decide, rfl, rfl, rfl, rfl, rfl, rfl, by decide, fun q i hi => by rw [if_neg (by show ¬ _ < 0; omega)]; rfl⟩⟩, hb4, HX.out.2.2.1, HX.out.2.1⟩
    have u8 : Blk ((w4.alloc (.cells (mdC ⟨#[]⟩ 0) 33)).alloc (.cells (mdC ⟨#[]⟩ 0) 33)) w4.heap.size 33 (mdC ⟨#[]⟩ 0) := (Blk.new _ _ _).alloc _
    have u9 : Blk ((w4.alloc (.cells (mdC ⟨#[]⟩ 0) 33)).alloc (.cells (mdC ⟨#[]⟩ 0) 33)) (w4.heap.size + 1) 33 (mdC ⟨#[]⟩ 0) := Blk.new1 _ _ _ _
    have v9 : Blk (((w4.alloc (.cells (mdC ⟨#[]⟩ 0) 33)).alloc (.cells (mdC ⟨#[]⟩ 0) 33)).setRow w4.heap.size (mdC ⟨#[]⟩ 1)) (w4.heap.size + 1) 33 (mdC ⟨#[]⟩ 0) := u9.other _ (by omega)
    have hb5 : Below w4.heap.size w4 ((((w4.alloc (.cells (mdC ⟨#[]⟩ 0) 33)).alloc (.cells (mdC ⟨#[]⟩ 0) 33)).setRow w4.heap.size (mdC ⟨#[]⟩ 1)).setRow (w4.heap.size + 1) (mdC ⟨#[]⟩ 1)) := below_setRow (below_setRow (below_new2 _ _ _) (Nat.le_refl _) _) (by omega) _
    have HZ5 : Hid (PZ w ((((w4.alloc (.cells (mdC ⟨#[]⟩ 0) 33)).alloc (.cells (mdC ⟨#[]⟩ 0) 33)).setRow w4.heap.size (mdC ⟨#[]⟩ 1)).setRow (w4.heap.size + 1) (mdC ⟨#[]⟩ 1)) x mf ml mc cp w4.heap.size (w4.heap.size + 1) ⟨#[]⟩ 1 ⟨#[]⟩ 1) := by
      have hl := hP4.lts
      have hs := hb4.size
      exact ⟨hP4.below hb5, (u8.set _).other _ (by omega), v9.set _, by omega, by omega, by omega, by omega, by omega⟩
    clear HM hI4 ht4 hb4 hP4 u9 hb5
    go_wp2_with (first
      | (refine fl_build_at (by rfl) 33 _ (by rfl) [(1, .int .u64 1)] (by rfl) (mdC ⟨#[]⟩ 1) built_md1 ?_; simp only [Act.put, List.setIfInBounds_toArray, List.set_cons_zero, List.set_cons_succ])
      | (refine wpList_store_row (by rfl) 33 _ _ (by rfl) (w4.heap.size) (mdC ⟨#[]⟩ 1) (by rfl) (by rfl) 33 (mdC ⟨#[]⟩ 0) (by exact u8) (sizeMd.trans (by rfl)) (by rfl) (md_all _ _) ?_; simp only [Act.put, List.setIfInBounds_toArray, List.set_cons_zero, List.set_cons_succ])
      | (refine wpList_store_row (by rfl) 33 _ _ (by rfl) (w4.heap.size + 1) (mdC ⟨#[]⟩ 1) (by rfl) (by rfl) 33 (mdC ⟨#[]⟩ 0) (by exact v9) (sizeMd.trans (by rfl)) (by rfl) (md_all _ _) ?_; simp only [Act.put, List.setIfInBounds_toArray, List.set_cons_zero, List.set_cons_succ])
      | fail)
    obtain ⟨g8, hg8⟩ : ∃ g8, w4.heap.size = g8 := ⟨_, rfl⟩
    obtain ⟨g9, hg9⟩ : ∃ g9, g8 + 1 = g9 := ⟨_, rfl⟩
    rw [hg8, hg9] at HZ5 ⊢
    generalize (((w4.alloc (.cells (mdC ⟨#[]⟩ 0) 33)).alloc (.cells (mdC ⟨#[]⟩ 0) 33)).setRow g8 (mdC ⟨#[]⟩ 1)).setRow g9 (mdC ⟨#[]⟩ 1) = w5 at *
    clear u8 v9 hg8 hg9
    go_loopw [61] (fun v wr => Hid (∃ (i : Nat) (sm : ByteArray) (tm : Nat) (sk : ByteArray) (tk : Nat), i ≤ n ∧ v = .int .i64 (i : Int) ∧ PZ w wr x mf ml mc cp g8 g9 sm tm sk tk)) (fun v _ => n - (intOf v).toNat)
    case atStart => exact ⟨0, _, _, _, _, Nat.zero_le _, rfl, HZ5.out⟩
    case round =>
      obtain ⟨i, sm, tm, sk, tk, hi, rfl, hZ⟩ := Hid.out hrel
      clear hrel HZ5
      by_cases hlt : i < n
      · skip
        have i0 : (0 : Int) ≤ (i : Int) := by omega
        have i1 : (i : Int) < (n : Int) := by omega
        obtain ⟨b, o, rfl, hbl, hr⟩ := HA.out.1 i hlt
        have hoX := HA.out.2.1 i hlt
        have hsX := HBB.out i hlt
        obtain ⟨X, hX⟩ : ∃ X, A i = X := ⟨_, rfl⟩
        rw [hX] at hr hoX hsX
        have HRG : Hid (wr.rangeAt b (o + i * 5) ((List.range 5).map (acF X))) := fun j v hv => by
          rw [← ac_rng hr j v hv]
          simp [World.cell?, hZ.pi.bel.block b hbl]
        have p1 := Blk.new wr 35 (acC 0 0 0 ⟨#[]⟩ 0)
        have bA0 := p1.set (acC X.kd X.a X.m X.s X.t)
        have hbA : Below wr.heap.size wr ((wr.alloc (.cells (acC 0 0 0 ⟨#[]⟩ 0) 35)).setRow wr.heap.size (acC X.kd X.a X.m X.s X.t)) := below_setRow (below_new1 _ _) (Nat.le_refl _) _
        have hZ0 := hZ.below hbA
        have hlt0 := hZ.pi.lts
        have c0 : ((wr.alloc (.cells (acC 0 0 0 ⟨#[]⟩ 0) 35)).setRow wr.heap.size (acC X.kd X.a X.m X.s X.t)).cell? ⟨wr.heap.size, 0, none⟩ = some (.int .i64 X.kd) := (bA0.cell 0).trans rfl
        obtain ⟨hk1, hk2⟩ := kd_is X.kd
        have b1 := Int.tmod_lt_of_pos X.kd (show (0 : Int) < 8 by decide)
        have b2 := Int.lt_tmod_of_pos X.kd (show (0 : Int) < 8 by decide)
        obtain ⟨q1, hq1⟩ : ∃ q1 : Int, X.kd.tmod 8 = q1 := ⟨_, rfl⟩
        obtain ⟨k, hk⟩ : ∃ k : Nat, kdN X.kd = k := ⟨_, rfl⟩
        rw [hq1] at b1 b2 hk1
        rw [hk] at hk1 hk2
        obtain ⟨q2, hq2⟩ : ∃ q2 : Nat, q1 + 8 = (q2 : Int) := ⟨(q1 + 8).toNat, by omega⟩
        rw [hq2] at hk1
        have b3 : q2 ≤ 16 := by omega
        have hw1 : wrap64 q1 = q1 := by unfold wrap64; omega
        have HO : Hid (X.ok ∧ X.s.size ≤ 3000000 ∧ i < n ∧ (x < wr.heap.size ∧ mf < wr.heap.size ∧ ml < wr.heap.size ∧ mc < wr.heap.size) ∧ g8 < wr.heap.size ∧ g9 < wr.heap.size) := ⟨hoX, hsX, hlt, hlt0, hZ.b8.lt, hZ.b9.lt⟩
        have hsm := hZ.pi.small
        clear hX hr hbl hoX hsX hlt hlt0 b1 b2 hZ hbA
        by_cases k6 : k = 6
        · have e6 : ((k : Int) == 6) = true := by rw [k6]; rfl
          clear k6
          obtain ⟨R, hR⟩ : ∃ R, dnF sk tk (kdN X.kd) X.a X.m X.s X.t = R := ⟨_, rfl⟩
          have HC := hZ0.pi.didK X.kd X.a X.m X.s X.t HO.out.1.2.1 HO.out.1.2.2.1 (by have := HO.out.2.1; omega) R hR
          have HDN : Hid (∀ W : World, Calls Tryz.prog 11 #[.agg (mdC sk tk), .agg (acC X.kd X.a X.m X.s X.t)] W fun e w' => e = .returned (.tuple #[.int .i64 R.ans, .int .i64 R.err, .agg (mdC R.s R.st)]) ∧ Below W.heap.size W w') := done_any sk tk X.kd X.a X.m X.s X.t HO.out.1.2.1 HO.out.1.2.2.1 (by have := HO.out.2.1; omega) (by omega) R hR
          clear hR
          go_wp2_with (first
            | (refine wpList_load_blk (by rfl) 35 _ (by rfl) b (o + i * 5) 5 (acF X) (by rfl) _ HRG.out Tryz.underlying35 rfl sizeAc ?_; simp only [Act.put, List.setIfInBounds_toArray, List.set_cons_zero, List.set_cons_succ])
            | (refine wpList_store_row (by rfl) 35 _ _ (by rfl) (wr.heap.size) (acC X.kd X.a X.m X.s X.t) (by rfl) (by rfl) 35 (acC 0 0 0 ⟨#[]⟩ 0) (by exact p1) (sizeAc.trans (by rfl)) (by rfl) (ac_all _ _ _ _ _) ?_; simp only [Act.put, List.setIfInBounds_toArray, List.set_cons_zero, List.set_cons_succ])
            | (refine wpList_load_rowg (by rfl) 35 _ (by rfl) (wr.heap.size) (by rfl) 35 (acC X.kd X.a X.m X.s X.t) (0, 0) _ (by exact bA0) Tryz.underlying35 (by rfl) (sizeAc.trans (by rfl)) ?_; simp only [Act.put, List.setIfInBounds_toArray, List.set_cons_zero, List.set_cons_succ])
            | fail)
          obtain ⟨gA, hgA⟩ : ∃ gA, wr.heap.size = gA := ⟨_, rfl⟩
          have HO2 : Hid (gA ≠ x ∧ gA ≠ mf ∧ gA ≠ ml ∧ gA ≠ mc) := by have := HO.out.2.2.2; show _ ∧ _; omega
          have HO3 : Hid (gA ≠ g8 ∧ gA ≠ g9) := by have := HO.out.2.2.2.2; show _ ∧ _; omega
          rw [hgA] at c0 bA0 hZ0 HC ⊢
          generalize (wr.alloc (.cells (acC 0 0 0 ⟨#[]⟩ 0) 35)).setRow gA (acC X.kd X.a X.m X.s X.t) = W0 at *
          refine HC.mono ?_
          rintro e W1 ⟨rfl, hP1, hT1⟩
          have b81 := fl_blk hT1 hZ0.b8 (by have := hZ0.n8; omega)
          have b91 := fl_blk hT1 hZ0.b9 (by have := hZ0.n9; omega)
          have bA1 := fl_blk hT1 bA0 (by have := HO2.out; omega)
          have HG : Hid ((g8 ≠ x ∧ g8 ≠ mf ∧ g8 ≠ ml ∧ g8 ≠ mc) ∧ (g9 ≠ x ∧ g9 ≠ mf ∧ g9 ≠ ml ∧ g9 ≠ mc) ∧ g8 ≠ g9 ∧ w.heap.size ≤ g8 ∧ w.heap.size ≤ g9) := ⟨hZ0.n8, hZ0.n9, hZ0.ne, hZ0.l8, hZ0.l9⟩
          have HD1 := HDN.out W1
          clear HC hT1 hZ0 bA0 c0 HDN
          go_wp2_with (first
            | (refine wpList_load_rowg (by rfl) 33 _ (by rfl) (g9) (by rfl) 33 (mdC sk tk) (0, 0) _ (by exact b91) Tryz.underlying33 (by rfl) (sizeMd.trans (by rfl)) ?_; simp only [Act.put, List.setIfInBounds_toArray, List.set_cons_zero, List.set_cons_succ])
            | (refine wpList_load_rowg (by rfl) 35 _ (by rfl) (gA) (by rfl) 35 (acC X.kd X.a X.m X.s X.t) (0, 0) _ (by exact bA1) Tryz.underlying35 (by rfl) (sizeAc.trans (by rfl)) ?_; simp only [Act.put, List.setIfInBounds_toArray, List.set_cons_zero, List.set_cons_succ])
            | fail)
          refine HD1.mono ?_
          rintro e W2 ⟨rfl, hb2⟩
          have p2 := Blk.new W2 33 (mdC ⟨#[]⟩ 0)
          have bN := p2.set (mdC R.s R.st)
          have hb23 : Below W2.heap.size W2 ((W2.alloc (.cells (mdC ⟨#[]⟩ 0) 33)).setRow W2.heap.size (mdC R.s R.st)) := below_setRow (below_new1 _ _) (Nat.le_refl _) _
          have hb13 : Below W1.heap.size W1 ((W2.alloc (.cells (mdC ⟨#[]⟩ 0) 33)).setRow W2.heap.size (mdC R.s R.st)) := hb2.trans (hb23.mono hb2.size)
          have hP3 := hP1.below hb13
          have b83 := b81.below hb13 b81.lt
          have b93 := b91.below hb13 b91.lt
          have bA3 := bA1.below hb13 bA1.lt
          have hgg := HG.out
          have hZ4 : PZ w (((W2.alloc (.cells (mdC ⟨#[]⟩ 0) 33)).setRow W2.heap.size (mdC R.s R.st)).setRow g9 (mdC R.s R.st)) x mf ml mc cp g8 g9 sm tm R.s R.st := ⟨hP3.row g9 _ (by omega) (by omega), b83.other _ (by omega), b93.set _, by omega, by omega, by omega, by omega, by omega⟩
          have bA4 : Blk (((W2.alloc (.cells (mdC ⟨#[]⟩ 0) 33)).setRow W2.heap.size (mdC R.s R.st)).setRow g9 (mdC R.s R.st)) gA 35 (acC X.kd X.a X.m X.s X.t) := bA3.other _ (by have := HO3.out; omega)
          have neA : (R.ans != R.ans) = false := by simp
          have neE : (R.err != R.err) = false := by simp
          clear HD1 hb2 hb23 hb13 hP1 hP3 b81 b91 bA1 hgg
          obtain ⟨dd, hdd⟩ : ∃ dd : Bool, decide (sm = R.s) = dd := ⟨_, rfl⟩
          have hqq : ((sm).toList == (R.s).toList) = dd := by
            rw [← hdd]
            by_cases cc : sm = R.s
            · rw [decide_eq_true cc, cc]
              simp
            · rw [decide_eq_false cc, beq_not cc]
          have HSM := hZ4.pi.same
          rw [hdd] at HSM
          clear hdd
          go_wp2_with (first
            | (refine wpList_store_row (by rfl) 33 _ _ (by rfl) (W2.heap.size) (mdC R.s R.st) (by rfl) (by rfl) 33 (mdC ⟨#[]⟩ 0) (by exact p2) (sizeMd.trans (by rfl)) (by rfl) (md_all _ _) ?_; simp only [Act.put, List.setIfInBounds_toArray, List.set_cons_zero, List.set_cons_succ])
            | (refine wpList_load_rowg (by rfl) 33 _ (by rfl) (W2.heap.size) (by rfl) 33 (mdC R.s R.st) (0, 0) _ (by exact bN) Tryz.underlying33 (by rfl) (sizeMd.trans (by rfl)) ?_; simp only [Act.put, List.setIfInBounds_toArray, List.set_cons_zero, List.set_cons_succ])
            | (refine wpList_store_row (by rfl) 33 _ _ (by rfl) (g9) (mdC R.s R.st) (by rfl) (by rfl) 33 (mdC sk tk) (by exact b93) (sizeMd.trans (by rfl)) (by rfl) (md_all _ _) ?_; simp only [Act.put, List.setIfInBounds_toArray, List.set_cons_zero, List.set_cons_succ])
            | fail)
          generalize (((W2.alloc (.cells (mdC ⟨#[]⟩ 0) 33)).setRow W2.heap.size (mdC R.s R.st)).setRow g9 (mdC R.s R.st)) = W4 at *
          clear p2 bN b83 b93 bA3
          refine HSM.mono ?_
          rintro e W5 ⟨rfl, hb5⟩
          have hZ5 := hZ4.below hb5
          have bA5 := bA4.below hb5 bA4.lt
          obtain ⟨a1, a2, a3, a4⟩ := ac_cs bA5
          have m8 : W5.cell? ⟨g8, 0, none⟩ = some (.string (sm)) := (hZ5.b8.cell 0).trans rfl
          have m9 : W5.cell? ⟨g9, 0, none⟩ = some (.string (R.s)) := (hZ5.b9.cell 0).trans rfl
          have b85 := hZ5.b8
          have HS1 := hZ5.pi.standsM X.a X.m HO.out.1.2.1 HO.out.1.2.2.1
          clear HSM hb5 hZ4 bA4
          go_wp2_with (first
            | (refine wpList_load_rowg (by rfl) 33 _ (by rfl) (g8) (by rfl) 33 (mdC (sm) (tm)) (0, 0) _ (by exact b85) Tryz.underlying33 (by rfl) (sizeMd.trans (by rfl)) ?_; simp only [Act.put, List.setIfInBounds_toArray, List.set_cons_zero, List.set_cons_succ])
            | fail)
          refine HS1.mono ?_
          rintro e W6 ⟨rfl, hb6⟩
          have hZ6 := hZ5.below hb6
          have bA6 := bA5.below hb6 bA5.lt
          clear a1 a2 a3 a4 m8 m9 b85 HS1 hb6 hZ5 bA5
          obtain ⟨a1, a2, a3, a4⟩ := ac_cs bA6
          have b96 := hZ6.b9
          have HS2 := hZ6.pi.standsK X.a X.m HO.out.1.2.1 HO.out.1.2.2.1
          go_wp2_with (first
            | (refine wpList_load_rowg (by rfl) 33 _ (by rfl) (g9) (by rfl) 33 (mdC (R.s) (R.st)) (0, 0) _ (by exact b96) Tryz.underlying33 (by rfl) (sizeMd.trans (by rfl)) ?_; simp only [Act.put, List.setIfInBounds_toArray, List.set_cons_zero, List.set_cons_succ])
            | fail)
          refine HS2.mono ?_
          rintro e W7 ⟨rfl, hb7⟩
          have HZ7 : Hid (PZ w W7 x mf ml mc cp g8 g9 (sm) (tm) (R.s) (R.st)) := hZ6.below hb7
          clear a1 a2 a3 a4 b96 HS2 hb7 hZ6 bA6
          go_wp2_with fail
          go_roundw
          case rel => exact ⟨i + 1, _, _, _, _, HO.out.2.2.1, by simp, HZ7.out⟩
          case measure =>
            have := HO.out.2.2.1
            simp [intOf]
            omega
        · have e6 : ((k : Int) == 6) = false := by simp; omega
          have f6 : ¬ ((k : Int) = 6) := by omega
          by_cases k7 : k = 7
          · have e7 : ((k : Int) == 7) = true := by rw [k7]; rfl
            clear k7 k6
            obtain ⟨R, hR⟩ : ∃ R, dnF sm tm (kdN X.kd) X.a X.m X.s X.t = R := ⟨_, rfl⟩
            have HDN : Hid (∀ W : World, Calls Tryz.prog 11 #[.agg (mdC sm tm), .agg (acC X.kd X.a X.m X.s X.t)] W fun e w' => e = .returned (.tuple #[.int .i64 R.ans, .int .i64 R.err, .agg (mdC R.s R.st)]) ∧ Below W.heap.size W w') := done_any sm tm X.kd X.a X.m X.s X.t HO.out.1.2.1 HO.out.1.2.2.1 (by have := HO.out.2.1; omega) (by omega) R hR
            have HRR : Hid (dnF sm tm (kdN X.kd) X.a X.m X.s X.t = R) := hR
            have HCL := hZ0.pi.clone
            clear hR
            go_wp2_with (first
              | (refine wpList_load_blk (by rfl) 35 _ (by rfl) b (o + i * 5) 5 (acF X) (by rfl) _ HRG.out Tryz.underlying35 rfl sizeAc ?_; simp only [Act.put, List.setIfInBounds_toArray, List.set_cons_zero, List.set_cons_succ])
              | (refine wpList_store_row (by rfl) 35 _ _ (by rfl) (wr.heap.size) (acC X.kd X.a X.m X.s X.t) (by rfl) (by rfl) 35 (acC 0 0 0 ⟨#[]⟩ 0) (by exact p1) (sizeAc.trans (by rfl)) (by rfl) (ac_all _ _ _ _ _) ?_; simp only [Act.put, List.setIfInBounds_toArray, List.set_cons_zero, List.set_cons_succ])
              | fail)
            obtain ⟨gA, hgA⟩ : ∃ gA, wr.heap.size = gA := ⟨_, rfl⟩
            rw [hgA] at c0 bA0 hZ0 HCL ⊢
            generalize (wr.alloc (.cells (acC 0 0 0 ⟨#[]⟩ 0) 35)).setRow gA (acC X.kd X.a X.m X.s X.t) = W0 at *
            refine HCL.mono ?_
            rintro e W1 ⟨cx, ca, cb, cc, rfl, hcg, hPc, hb1⟩
            have hZ1 := hZ0.below hb1
            have bA1 := bA0.below hb1 bA0.lt
            have HL : Hid ((x < W0.heap.size ∧ mf < W0.heap.size ∧ ml < W0.heap.size ∧ mc < W0.heap.size) ∧ g8 < W0.heap.size ∧ g9 < W0.heap.size ∧ gA < W0.heap.size ∧ W0.heap.size ≤ ca ∧ W0.heap.size ≤ cb ∧ W0.heap.size ≤ W1.heap.size) := ⟨hZ0.pi.lts, hZ0.b8.lt, hZ0.b9.lt, bA0.lt, hcg.2.1, hcg.2.2.1, hb1.size⟩
            have HC := hPc.didM X.kd X.a X.m X.s X.t HO.out.1.2.1 HO.out.1.2.2.1 (by have := HO.out.2.1; omega) R HRR.out
            clear HCL hb1 hZ0 bA0 c0 hcg hPc
            go_wp2_with (first
              | (refine wpList_load_rowg (by rfl) 35 _ (by rfl) (gA) (by rfl) 35 (acC X.kd X.a X.m X.s X.t) (0, 0) _ (by exact bA1) Tryz.underlying35 (by rfl) (sizeAc.trans (by rfl)) ?_; simp only [Act.put, List.setIfInBounds_toArray, List.set_cons_zero, List.set_cons_succ])
              | fail)
            refine HC.mono ?_
            rintro e W2 ⟨rfl, hPc2, hT2⟩
            have hLL := HL.out
            have hP2 : PI w W2 x mf ml mc cp sm tm sk tk := hZ1.pi.keep (hT2.block x (by omega) (by omega)) (hT2.block mf (by omega) (by omega)) (hT2.block ml (by omega) (by omega)) (hT2.block mc (by omega) (by omega)) hPc2.bel
            have b82 := fl_blk hT2 hZ1.b8 (by omega)
            have b92 := fl_blk hT2 hZ1.b9 (by omega)
            have bA2 := fl_blk hT2 bA1 (by omega)
            have hZ2 : PZ w W2 x mf ml mc cp g8 g9 sm tm sk tk := ⟨hP2, b82, b92, hZ1.n8, hZ1.n9, hZ1.ne, hZ1.l8, hZ1.l9⟩
            have HD1 := HDN.out W2
            clear HC hT2 hZ1 bA1 HDN hLL hP2 b92
            go_wp2_with (first
              | (refine wpList_load_rowg (by rfl) 33 _ (by rfl) (g8) (by rfl) 33 (mdC sm tm) (0, 0) _ (by exact b82) Tryz.underlying33 (by rfl) (sizeMd.trans (by rfl)) ?_; simp only [Act.put, List.setIfInBounds_toArray, List.set_cons_zero, List.set_cons_succ])
              | (refine wpList_load_rowg (by rfl) 35 _ (by rfl) (gA) (by rfl) 35 (acC X.kd X.a X.m X.s X.t) (0, 0) _ (by exact bA2) Tryz.underlying35 (by rfl) (sizeAc.trans (by rfl)) ?_; simp only [Act.put, List.setIfInBounds_toArray, List.set_cons_zero, List.set_cons_succ])
              | fail)
            refine HD1.mono ?_
            rintro e W3 ⟨rfl, hb3⟩
            have p3 := Blk.new W3 33 (mdC ⟨#[]⟩ 0)
            have bN := p3.set (mdC R.s R.st)
            have hb34 : Below W3.heap.size W3 ((W3.alloc (.cells (mdC ⟨#[]⟩ 0) 33)).setRow W3.heap.size (mdC R.s R.st)) := below_setRow (below_new1 _ _) (Nat.le_refl _) _
            have hb24 : Below W2.heap.size W2 ((W3.alloc (.cells (mdC ⟨#[]⟩ 0) 33)).setRow W3.heap.size (mdC R.s R.st)) := hb3.trans (hb34.mono hb3.size)
            have hPc4 := hPc2.below hb24
            have hZq := hZ2.below hb24
            have bAq := bA2.below hb24 bA2.lt
            obtain ⟨a1, a2, a3, a4⟩ := ac_cs bAq
            have neA : (R.ans != R.ans) = false := by simp
            have neE : (R.err != R.err) = false := by simp
            have HS0 := hPc4.standsM X.a X.m HO.out.1.2.1 HO.out.1.2.2.1
            clear HD1 hb3 hb34 hb24 hPc2 hPc4 hZ2 bA2 b82
            go_wp2_with (first
              | (refine wpList_store_row (by rfl) 33 _ _ (by rfl) (W3.heap.size) (mdC R.s R.st) (by rfl) (by rfl) 33 (mdC ⟨#[]⟩ 0) (by exact p3) (sizeMd.trans (by rfl)) (by rfl) (md_all _ _) ?_; simp only [Act.put, List.setIfInBounds_toArray, List.set_cons_zero, List.set_cons_succ])
              | (refine wpList_load_rowg (by rfl) 33 _ (by rfl) (W3.heap.size) (by rfl) 33 (mdC R.s R.st) (0, 0) _ (by exact bN) Tryz.underlying33 (by rfl) (sizeMd.trans (by rfl)) ?_; simp only [Act.put, List.setIfInBounds_toArray, List.set_cons_zero, List.set_cons_succ])
              | fail)
            refine HS0.mono ?_
            rintro e W4 ⟨rfl, hb4⟩
            have hZ4 := hZq.below hb4
            have bA4 := bAq.below hb4 bAq.lt
            clear HS0 hb4 hZq bAq a1 a2 a3 a4 p3 bN
            obtain ⟨dd, hdd⟩ : ∃ dd : Bool, decide (sm = sk) = dd := ⟨_, rfl⟩
            have hqq : ((sm).toList == (sk).toList) = dd := by
              rw [← hdd]
              by_cases cc : sm = sk
              · rw [decide_eq_true cc, cc]
                simp
              · rw [decide_eq_false cc, beq_not cc]
            have HSM := hZ4.pi.same
            rw [hdd] at HSM
            clear hdd
            go_wp2_with fail
            refine HSM.mono ?_
            rintro e W5 ⟨rfl, hb5⟩
            have hZ5 := hZ4.below hb5
            have bA5 := bA4.below hb5 bA4.lt
            obtain ⟨a1, a2, a3, a4⟩ := ac_cs bA5
            have m8 : W5.cell? ⟨g8, 0, none⟩ = some (.string (sm)) := (hZ5.b8.cell 0).trans rfl
            have m9 : W5.cell? ⟨g9, 0, none⟩ = some (.string (sk)) := (hZ5.b9.cell 0).trans rfl
            have b85 := hZ5.b8
            have HS1 := hZ5.pi.standsM X.a X.m HO.out.1.2.1 HO.out.1.2.2.1
            clear HSM hb5 hZ4 bA4
            go_wp2_with (first
              | (refine wpList_load_rowg (by rfl) 33 _ (by rfl) (g8) (by rfl) 33 (mdC (sm) (tm)) (0, 0) _ (by exact b85) Tryz.underlying33 (by rfl) (sizeMd.trans (by rfl)) ?_; simp only [Act.put, List.setIfInBounds_toArray, List.set_cons_zero, List.set_cons_succ])
              | fail)
            refine HS1.mono ?_
            rintro e W6 ⟨rfl, hb6⟩
            have hZ6 := hZ5.below hb6
            have bA6 := bA5.below hb6 bA5.lt
            clear a1 a2 a3 a4 m8 m9 b85 HS1 hb6 hZ5 bA5
            obtain ⟨a1, a2, a3, a4⟩ := ac_cs bA6
            have b96 := hZ6.b9
            have HS2 := hZ6.pi.standsK X.a X.m HO.out.1.2.1 HO.out.1.2.2.1
            go_wp2_with (first
              | (refine wpList_load_rowg (by rfl) 33 _ (by rfl) (g9) (by rfl) 33 (mdC (sk) (tk)) (0, 0) _ (by exact b96) Tryz.underlying33 (by rfl) (sizeMd.trans (by rfl)) ?_; simp only [Act.put, List.setIfInBounds_toArray, List.set_cons_zero, List.set_cons_succ])
              | fail)
            refine HS2.mono ?_
            rintro e W7 ⟨rfl, hb7⟩
            have HZ7 : Hid (PZ w W7 x mf ml mc cp g8 g9 (sm) (tm) (sk) (tk)) := hZ6.below hb7
            clear a1 a2 a3 a4 b96 HS2 hb7 hZ6 bA6
            go_wp2_with fail
            go_roundw
            case rel => exact ⟨i + 1, _, _, _, _, HO.out.2.2.1, by simp, HZ7.out⟩
            case measure =>
              have := HO.out.2.2.1
              simp [intOf]
              omega
          · have e7 : ((k : Int) == 7) = false := by simp; omega
            have f7 : ¬ ((k : Int) = 7) := by omega
            obtain ⟨R, hR⟩ : ∃ R, dnF sm tm (kdN X.kd) X.a X.m X.s X.t = R := ⟨_, rfl⟩
            have HC := hZ0.pi.didM X.kd X.a X.m X.s X.t HO.out.1.2.1 HO.out.1.2.2.1 (by have := HO.out.2.1; omega) R hR
            have HDN : Hid (∀ W : World, Calls Tryz.prog 11 #[.agg (mdC sm tm), .agg (acC X.kd X.a X.m X.s X.t)] W fun e w' => e = .returned (.tuple #[.int .i64 R.ans, .int .i64 R.err, .agg (mdC R.s R.st)]) ∧ Below W.heap.size W w') := done_any sm tm X.kd X.a X.m X.s X.t HO.out.1.2.1 HO.out.1.2.2.1 (by have := HO.out.2.1; omega) (by omega) R hR
            clear hR
            go_wp2_with (first
              | (refine wpList_load_blk (by rfl) 35 _ (by rfl) b (o + i * 5) 5 (acF X) (by rfl) _ HRG.out Tryz.underlying35 rfl sizeAc ?_; simp only [Act.put, List.setIfInBounds_toArray, List.set_cons_zero, List.set_cons_succ])
              | (refine wpList_store_row (by rfl) 35 _ _ (by rfl) (wr.heap.size) (acC X.kd X.a X.m X.s X.t) (by rfl) (by rfl) 35 (acC 0 0 0 ⟨#[]⟩ 0) (by exact p1) (sizeAc.trans (by rfl)) (by rfl) (ac_all _ _ _ _ _) ?_; simp only [Act.put, List.setIfInBounds_toArray, List.set_cons_zero, List.set_cons_succ])
              | (refine wpList_load_rowg (by rfl) 35 _ (by rfl) (wr.heap.size) (by rfl) 35 (acC X.kd X.a X.m X.s X.t) (0, 0) _ (by exact bA0) Tryz.underlying35 (by rfl) (sizeAc.trans (by rfl)) ?_; simp only [Act.put, List.setIfInBounds_toArray, List.set_cons_zero, List.set_cons_succ])
              | fail)
            obtain ⟨gA, hgA⟩ : ∃ gA, wr.heap.size = gA := ⟨_, rfl⟩
            have HO2 : Hid (gA ≠ x ∧ gA ≠ mf ∧ gA ≠ ml ∧ gA ≠ mc) := by have := HO.out.2.2.2; show _ ∧ _; omega
            have HO3 : Hid (gA ≠ g8 ∧ gA ≠ g9) := by have := HO.out.2.2.2.2; show _ ∧ _; omega
            rw [hgA] at c0 bA0 hZ0 HC ⊢
            generalize (wr.alloc (.cells (acC 0 0 0 ⟨#[]⟩ 0) 35)).setRow gA (acC X.kd X.a X.m X.s X.t) = W0 at *
            refine HC.mono ?_
            rintro e W1 ⟨rfl, hP1, hT1⟩
            have b81 := fl_blk hT1 hZ0.b8 (by have := hZ0.n8; omega)
            have b91 := fl_blk hT1 hZ0.b9 (by have := hZ0.n9; omega)
            have bA1 := fl_blk hT1 bA0 (by have := HO2.out; omega)
            have HG : Hid ((g8 ≠ x ∧ g8 ≠ mf ∧ g8 ≠ ml ∧ g8 ≠ mc) ∧ (g9 ≠ x ∧ g9 ≠ mf ∧ g9 ≠ ml ∧ g9 ≠ mc) ∧ g8 ≠ g9 ∧ w.heap.size ≤ g8 ∧ w.heap.size ≤ g9) := ⟨hZ0.n8, hZ0.n9, hZ0.ne, hZ0.l8, hZ0.l9⟩
            have HD1 := HDN.out W1
            clear HC hT1 hZ0 bA0 c0 HDN
            go_wp2_with (first
              | (refine wpList_load_rowg (by rfl) 33 _ (by rfl) (g8) (by rfl) 33 (mdC sm tm) (0, 0) _ (by exact b81) Tryz.underlying33 (by rfl) (sizeMd.trans (by rfl)) ?_; simp only [Act.put, List.setIfInBounds_toArray, List.set_cons_zero, List.set_cons_succ])
              | (refine wpList_load_rowg (by rfl) 35 _ (by rfl) (gA) (by rfl) 35 (acC X.kd X.a X.m X.s X.t) (0, 0) _ (by exact bA1) Tryz.underlying35 (by rfl) (sizeAc.trans (by rfl)) ?_; simp only [Act.put, List.setIfInBounds_toArray, List.set_cons_zero, List.set_cons_succ])
              | fail)
            refine HD1.mono ?_
            rintro e W2 ⟨rfl, hb2⟩
            have p2 := Blk.new W2 33 (mdC ⟨#[]⟩ 0)
            have bN := p2.set (mdC R.s R.st)
            have hb23 : Below W2.heap.size W2 ((W2.alloc (.cells (mdC ⟨#[]⟩ 0) 33)).setRow W2.heap.size (mdC R.s R.st)) := below_setRow (below_new1 _ _) (Nat.le_refl _) _
            have hb13 : Below W1.heap.size W1 ((W2.alloc (.cells (mdC ⟨#[]⟩ 0) 33)).setRow W2.heap.size (mdC R.s R.st)) := hb2.trans (hb23.mono hb2.size)
            have hP3 := hP1.below hb13
            have b83 := b81.below hb13 b81.lt
            have b93 := b91.below hb13 b91.lt
            have bA3 := bA1.below hb13 bA1.lt
            have hgg := HG.out
            have hZ4 : PZ w (((W2.alloc (.cells (mdC ⟨#[]⟩ 0) 33)).setRow W2.heap.size (mdC R.s R.st)).setRow g8 (mdC R.s R.st)) x mf ml mc cp g8 g9 R.s R.st sk tk := ⟨hP3.row g8 _ (by omega) (by omega), b83.set _, b93.other _ (by omega), by omega, by omega, by omega, by omega, by omega⟩
            have bA4 : Blk (((W2.alloc (.cells (mdC ⟨#[]⟩ 0) 33)).setRow W2.heap.size (mdC R.s R.st)).setRow g8 (mdC R.s R.st)) gA 35 (acC X.kd X.a X.m X.s X.t) := bA3.other _ (by have := HO3.out; omega)
            have neA : (R.ans != R.ans) = false := by simp
            have neE : (R.err != R.err) = false := by simp
            clear HD1 hb2 hb23 hb13 hP1 hP3 b81 b91 bA1 hgg
            obtain ⟨dd, hdd⟩ : ∃ dd : Bool, decide (R.s = sk) = dd := ⟨_, rfl⟩
            have hqq : ((R.s).toList == (sk).toList) = dd := by
              rw [← hdd]
              by_cases cc : R.s = sk
              · rw [decide_eq_true cc, cc]
                simp
              · rw [decide_eq_false cc, beq_not cc]
            have HSM := hZ4.pi.same
            rw [hdd] at HSM
            clear hdd
            go_wp2_with (first
              | (refine wpList_store_row (by rfl) 33 _ _ (by rfl) (W2.heap.size) (mdC R.s R.st) (by rfl) (by rfl) 33 (mdC ⟨#[]⟩ 0) (by exact p2) (sizeMd.trans (by rfl)) (by rfl) (md_all _ _) ?_; simp only [Act.put, List.setIfInBounds_toArray, List.set_cons_zero, List.set_cons_succ])
              | (refine wpList_load_rowg (by rfl) 33 _ (by rfl) (W2.heap.size) (by rfl) 33 (mdC R.s R.st) (0, 0) _ (by exact bN) Tryz.underlying33 (by rfl) (sizeMd.trans (by rfl)) ?_; simp only [Act.put, List.setIfInBounds_toArray, List.set_cons_zero, List.set_cons_succ])
              | (refine wpList_store_row (by rfl) 33 _ _ (by rfl) (g8) (mdC R.s R.st) (by rfl) (by rfl) 33 (mdC sm tm) (by exact b83) (sizeMd.trans (by rfl)) (by rfl) (md_all _ _) ?_; simp only [Act.put, List.setIfInBounds_toArray, List.set_cons_zero, List.set_cons_succ])
              | fail)
            generalize (((W2.alloc (.cells (mdC ⟨#[]⟩ 0) 33)).setRow W2.heap.size (mdC R.s R.st)).setRow g8 (mdC R.s R.st)) = W4 at *
            clear p2 bN b83 b93 bA3
            refine HSM.mono ?_
            rintro e W5 ⟨rfl, hb5⟩
            have hZ5 := hZ4.below hb5
            have bA5 := bA4.below hb5 bA4.lt
            obtain ⟨a1, a2, a3, a4⟩ := ac_cs bA5
            have m8 : W5.cell? ⟨g8, 0, none⟩ = some (.string (R.s)) := (hZ5.b8.cell 0).trans rfl
            have m9 : W5.cell? ⟨g9, 0, none⟩ = some (.string (sk)) := (hZ5.b9.cell 0).trans rfl
            have b85 := hZ5.b8
            have HS1 := hZ5.pi.standsM X.a X.m HO.out.1.2.1 HO.out.1.2.2.1
            clear HSM hb5 hZ4 bA4
            go_wp2_with (first
              | (refine wpList_load_rowg (by rfl) 33 _ (by rfl) (g8) (by rfl) 33 (mdC (R.s) (R.st)) (0, 0) _ (by exact b85) Tryz.underlying33 (by rfl) (sizeMd.trans (by rfl)) ?_; simp only [Act.put, List.setIfInBounds_toArray, List.set_cons_zero, List.set_cons_succ])
              | fail)
            refine HS1.mono ?_
            rintro e W6 ⟨rfl, hb6⟩
            have hZ6 := hZ5.below hb6
            have bA6 := bA5.below hb6 bA5.lt
            clear a1 a2 a3 a4 m8 m9 b85 HS1 hb6 hZ5 bA5
            obtain ⟨a1, a2, a3, a4⟩ := ac_cs bA6
            have b96 := hZ6.b9
            have HS2 := hZ6.pi.standsK X.a X.m HO.out.1.2.1 HO.out.1.2.2.1
            go_wp2_with (first
              | (refine wpList_load_rowg (by rfl) 33 _ (by rfl) (g9) (by rfl) 33 (mdC (sk) (tk)) (0, 0) _ (by exact b96) Tryz.underlying33 (by rfl) (sizeMd.trans (by rfl)) ?_; simp only [Act.put, List.setIfInBounds_toArray, List.set_cons_zero, List.set_cons_succ])
              | fail)
            refine HS2.mono ?_
            rintro e W7 ⟨rfl, hb7⟩
            have HZ7 : Hid (PZ w W7 x mf ml mc cp g8 g9 (R.s) (R.st) (sk) (tk)) := hZ6.below hb7
            clear a1 a2 a3 a4 b96 HS2 hb7 hZ6 bA6
            go_wp2_with fail
            go_roundw
            case rel => exact ⟨i + 1, _, _, _, _, HO.out.2.2.1, by simp, HZ7.out⟩
            case measure =>
              have := HO.out.2.2.1
              simp [intOf]
              omega
      · have k1 : ¬ ((i : Int) < (n : Int)) := by omega
        have HE : Hid (Below w.heap.size w wr) := hZ.pi.bel
        clear hZ hlt
        go_wp2_with fail
        go_ret
        exact ⟨rfl, HE.out⟩
end Go.Proofs.YtojbgggkfahkfaaGreat
