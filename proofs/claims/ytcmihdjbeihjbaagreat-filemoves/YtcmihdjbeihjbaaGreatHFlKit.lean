/- Files among inodes in the memory: their bytes. -/
import Derived.Test.YtcmihdjbeihjbaaGreatHInsResize
import Derived.Handy
import Derived.Test.YtcmihdjbeihjbaaGreatHInsMem
import Derived.LoopTactic
import Derived.Lib.Walk
import Derived.Test.YtcmihdjbeihjbaaGreatHInsSetC
import Derived.Test.YtcmihdjbeihjbaaGreatHInsCalls
import Derived.Deep.MidRow
import Derived.Test.YtcmihdjbeihjbaaGreatHFlText

namespace Go.Proofs.YtcmihdjbeihjbaaGreat
open Go Go.RowKit
set_option linter.unusedSimpArgs false
set_option linter.unusedVariables false
/-- What Resize makes of a number's inode. -/
def rsH (y : Hd) (o sz : Nat) : Hd := hdZ (if 0 < sz % 256 ∧ sz < o then hdS y else y) (sz : Int)
section
variable {w w' : World} {x mf ml mc : Nat} {cp : Option Addr} {top : Int} {H : Nat → Hd} {D : Nat → Nat → Nat → Nat}
set_option maxRecDepth 100000 in
set_option maxHeartbeats 8000000 in
theorem IM.resize1 (h : IM w x mf ml mc cp top H D) (n b zb sb xb : Nat) (y : Hd) (o sz st : Nat) (hy : y.n = (n : Int)) (hl : y.left = 0) (ho : y.s = (o : Int)) (hk : y.k = 1 ∨ (y.k = 2 ∧ sz % 64 = 0)) (hob : o ≤ 1048576) (hsb : sz ≤ 1048576) (hZ : ∀ q i, i < 256 → o ≤ 256 * q + i → D n q i = 0) (hB : Blk w b 64 (hdC y)) (hX : Blk w zb 3 #[.int .i64 (sz : Int)] ∧ Blk w sb 30 #[.int .u64 ((st : Nat) : Int)] ∧ Blk w xb 23 #[.pointer (some ⟨x, 0, none⟩)]) (hb : b ≠ x ∧ b ≠ mf ∧ b ≠ ml ∧ b ≠ mc) (hbx : zb ≠ b ∧ xb ≠ b) : Calls Tryz.prog 72 #[.pointer (some ⟨b, 0, none⟩), .pointer (some ⟨zb, 0, none⟩), .pointer (some ⟨sb, 0, none⟩), .pointer (some ⟨xb, 0, none⟩)] w fun e w' => e = .returned (.int .i64 0) ∧ IM w' x mf ml mc cp top H (rsD D n sz) ∧ Blk w' b 64 (hdC (rsH (hdT y st) o sz)) ∧ Turns (fun z => z = ml ∨ z = b) w w' := by
  have c39 := hd_c39 hB
  have c42 := hd_c42 hB
  have f42 : w.frozen? ⟨b, 42, none⟩ = false := hB.frozen 42
  have z0 : w.cell? ⟨zb, 0, none⟩ = some (.int .i64 (sz : Int)) := (hX.1.cell 0).trans rfl
  have s0 : w.cell? ⟨sb, 0, none⟩ = some (.int .u64 ((st : Nat) : Int)) := (hX.2.1.cell 0).trans rfl
  have hB1 := hd_putT hB st
  have z1 : (w.setCell ⟨b, 42, none⟩ (.int .u64 ((st : Nat) : Int))).cell? ⟨zb, 0, none⟩ = some (.int .i64 (sz : Int)) := ((hX.1.put_other 42 _ hbx.1).cell 0).trans rfl
  have x1 : (w.setCell ⟨b, 42, none⟩ (.int .u64 ((st : Nat) : Int))).cell? ⟨xb, 0, none⟩ = some (.pointer (some ⟨x, 0, none⟩)) := ((hX.2.2.put_other 42 _ hbx.2).cell 0).trans rfl
  have HRS : Calls Tryz.prog 73 #[.pointer (some ⟨x, 0, none⟩), .pointer (some ⟨b, 0, none⟩), .int .i64 (sz : Int)] (w.setCell ⟨b, 42, none⟩ (.int .u64 ((st : Nat) : Int))) fun e w' => e = .returned (.int .i64 0) ∧ IM w' x mf ml mc cp top H (rsD D n sz) ∧ Blk w' b 64 (hdC (rsH (hdT y st) o sz)) ∧ Turns (fun z => z = ml ∨ z = b) (w.setCell ⟨b, 42, none⟩ (.int .u64 ((st : Nat) : Int))) w' := (h.other b 42 (.int .u64 ((st : Nat) : Int)) hb).resize n b (hdT y st) o sz hy hl ho hob hsb hZ hB1 hb
  have HT1 : Hid (Turns (fun z => z = ml ∨ z = b) w (w.setCell ⟨b, 42, none⟩ (.int .u64 ((st : Nat) : Int)))) := Turns.cell w b 42 _ (.inr rfl)
  have r1 : (sz : Int).tmod 64 = ((sz % 64 : Nat) : Int) := rfl
  clear h hy hl ho hob hsb hZ hB hX hb hbx hB1
  go_enter Tryz.func72, Tryz.ntmps72
  generalize y.k = kk at *
  rcases hk with rfl | ⟨rfl, hm⟩
  · skip
    go_wp2_with fail
    generalize (w.setCell ⟨b, 42, none⟩ (.int .u64 ((st : Nat) : Int))) = w1 at *
    refine HRS.mono ?_
    rintro e w2 ⟨rfl, hI2, hB2, ht2⟩
    have HE : Hid (IM w2 x mf ml mc cp top H (rsD D n sz) ∧ Blk w2 b 64 (hdC (rsH (hdT y st) o sz)) ∧ Turns (fun z => z = ml ∨ z = b) w w2) := ⟨hI2, hB2, HT1.out.tr ht2⟩
    clear hI2 hB2 ht2 HRS
    go_wp2_with fail
    go_ret
    exact ⟨rfl, HE.out.1, HE.out.2.1, HE.out.2.2⟩
  · have r2 : (sz : Int) % 64 = 0 := by omega
    go_wp2_with fail
    generalize (w.setCell ⟨b, 42, none⟩ (.int .u64 ((st : Nat) : Int))) = w1 at *
    refine HRS.mono ?_
    rintro e w2 ⟨rfl, hI2, hB2, ht2⟩
    have HE : Hid (IM w2 x mf ml mc cp top H (rsD D n sz) ∧ Blk w2 b 64 (hdC (rsH (hdT y st) o sz)) ∧ Turns (fun z => z = ml ∨ z = b) w w2) := ⟨hI2, hB2, HT1.out.tr ht2⟩
    clear hI2 hB2 ht2 HRS
    go_wp2_with fail
    go_ret
    exact ⟨rfl, HE.out.1, HE.out.2.1, HE.out.2.2⟩
set_option maxRecDepth 100000 in
set_option maxHeartbeats 8000000 in
theorem IM.resizeM (h : IM w x mf ml mc cp top H D) (n : Nat) (h1 : 1 ≤ n) (h2 : n ≤ 4096) (o sz st : Nat) (hn : (H n).n = (n : Int)) (hl : (H n).left = 0) (ho : (H n).s = (o : Int)) (hk : (H n).k = 1 ∨ ((H n).k = 2 ∧ sz % 64 = 0)) (hob : o ≤ 1048576) (hsb : sz ≤ 1048576) (hZ : ∀ q i, i < 256 → o ≤ 256 * q + i → D n q i = 0) : Calls Tryz.prog 57 #[.pointer (some ⟨x, 0, none⟩), .int .i64 (n : Int), .int .i64 (sz : Int), .int .u64 ((st : Nat) : Int)] w fun e w' => e = .returned (.int .i64 0) ∧ IM w' x mf ml mc cp top (hU H n (rsH (hdT (H n) st) o sz)) (rsD D n sz) ∧ Turns (fun z => z = ml ∨ z = mf) w w' := by
  have hb1 : Below w.heap.size w (((w.alloc (.cells #[.pointer (some ⟨x, 0, none⟩)] 23)).alloc (.cells #[.int .i64 (sz : Int)] 3)).alloc (.cells #[.int .u64 ((st : Nat) : Int)] 30)) := (((Below.refl _ _).alloc (Nat.le_refl _) _).alloc (by simp) _).alloc (by simp; omega) _
  have k0 : Blk (((w.alloc (.cells #[.pointer (some ⟨x, 0, none⟩)] 23)).alloc (.cells #[.int .i64 (sz : Int)] 3)).alloc (.cells #[.int .u64 ((st : Nat) : Int)] 30)) w.heap.size 23 #[.pointer (some ⟨x, 0, none⟩)] := ((Blk.new _ _ _).alloc _).alloc _
  have k1 : Blk (((w.alloc (.cells #[.pointer (some ⟨x, 0, none⟩)] 23)).alloc (.cells #[.int .i64 (sz : Int)] 3)).alloc (.cells #[.int .u64 ((st : Nat) : Int)] 30)) (w.heap.size + 1) 3 #[.int .i64 (sz : Int)] := (Blk.new1 _ _ _ _).alloc _
  have k2 : Blk (((w.alloc (.cells #[.pointer (some ⟨x, 0, none⟩)] 23)).alloc (.cells #[.int .i64 (sz : Int)] 3)).alloc (.cells #[.int .u64 ((st : Nat) : Int)] 30)) (w.heap.size + 1 + 1) 30 #[.int .u64 ((st : Nat) : Int)] := by
    have := Blk.new ((w.alloc (.cells #[.pointer (some ⟨x, 0, none⟩)] 23)).alloc (.cells #[.int .i64 (sz : Int)] 3)) 30 #[.int .u64 ((st : Nat) : Int)]
    rw [show ((w.alloc (.cells #[.pointer (some ⟨x, 0, none⟩)] 23)).alloc (.cells #[.int .i64 (sz : Int)] 3)).heap.size = w.heap.size + 1 + 1 by simp] at this
    exact this
  have hI1 := h.below hb1
  have hkk : (H n).k ≠ 0 := by omega
  have HC := hI1.changeResize n h1 h2 hkk (.pointer (some ⟨w.heap.size + 1, 0, none⟩)) (.pointer (some ⟨w.heap.size + 1 + 1, 0, none⟩)) (.pointer (some ⟨w.heap.size, 0, none⟩)) (rsH (hdT (H n) st) o sz) (rsD D n sz) fun V b hV hI hB hge => hI.resize1 n b (w.heap.size + 1) (w.heap.size + 1 + 1) w.heap.size (H n) o sz st hn hl ho hk hob hsb hZ hB ⟨k1.below hV k1.lt, k2.below hV k2.lt, k0.below hV k0.lt⟩ (hI1.apart b hge) ⟨by have := k1.lt; omega, by have := k0.lt; omega⟩
  have HWR := wrong_ok x (n : Int) (by omega) (by omega) (((w.alloc (.cells #[.pointer (some ⟨x, 0, none⟩)] 23)).alloc (.cells #[.int .i64 (sz : Int)] 3)).alloc (.cells #[.int .u64 ((st : Nat) : Int)] 30))
  have HLV : Hid (∀ V : World, Calls Tryz.prog 70 #[.int .i64 (sz : Int)] V fun e w' => e = .returned (.tuple #[.int .i64 (((sz : Int) + 255) / 256), .int .i64 0]) ∧ w' = V) := fun V => by
    have := leavesN_any (sz : Int) ⟨by omega, by omega⟩ V
    rw [if_pos ⟨by omega, by omega⟩] at this
    exact this
  have x0 : (((w.alloc (.cells #[.pointer (some ⟨x, 0, none⟩)] 23)).alloc (.cells #[.int .i64 (sz : Int)] 3)).alloc (.cells #[.int .u64 ((st : Nat) : Int)] 30)).cell? ⟨w.heap.size, 0, none⟩ = some (.pointer (some ⟨x, 0, none⟩)) := (k0.cell 0).trans rfl
  have z0 : (((w.alloc (.cells #[.pointer (some ⟨x, 0, none⟩)] 23)).alloc (.cells #[.int .i64 (sz : Int)] 3)).alloc (.cells #[.int .u64 ((st : Nat) : Int)] 30)).cell? ⟨w.heap.size + 1, 0, none⟩ = some (.int .i64 (sz : Int)) := (k1.cell 0).trans rfl
  have HB1 : Hid (Below w.heap.size w (((w.alloc (.cells #[.pointer (some ⟨x, 0, none⟩)] 23)).alloc (.cells #[.int .i64 (sz : Int)] 3)).alloc (.cells #[.int .u64 ((st : Nat) : Int)] 30))) := hb1
  clear h hb1 k0 k1 k2 hI1 hkk h1 h2 hn hl ho hk hob hsb hZ
  go_enter Tryz.func57, Tryz.ntmps57
  go_wp2_with fail
  generalize (((w.alloc (.cells #[.pointer (some ⟨x, 0, none⟩)] 23)).alloc (.cells #[.int .i64 (sz : Int)] 3)).alloc (.cells #[.int .u64 ((st : Nat) : Int)] 30)) = w1 at *
  refine HWR.mono ?_
  rintro e w2 ⟨rfl, hw2⟩
  subst w2
  go_wp2_with fail
  refine (HLV.out w1).mono ?_
  rintro e w2 ⟨rfl, hw2⟩
  subst w2
  go_wp2_with fail
  refine HC.mono ?_
  rintro e w3 ⟨rfl, hI3, ht3⟩
  have HE : Hid (IM w3 x mf ml mc cp top (hU H n (rsH (hdT (H n) st) o sz)) (rsD D n sz) ∧ Turns (fun z => z = ml ∨ z = mf) w w3) := ⟨hI3, (Turns.bel HB1.out).tr ht3⟩
  clear hI3 ht3 HC HB1
  go_wp2_with fail
  go_ret
  exact ⟨rfl, HE.out.1, HE.out.2⟩
end
end Go.Proofs.YtcmihdjbeihjbaaGreat

namespace Go.Proofs.YtcmihdjbeihjbaaGreat
open Go Go.RowKit
set_option linter.unusedSimpArgs false
set_option linter.unusedVariables false
section
variable {w w' : World} {x mf ml mc : Nat} {cp : Option Addr} {top : Int} {H : Nat → Hd} {D : Nat → Nat → Nat → Nat}
set_option maxRecDepth 100000 in
set_option maxHeartbeats 8000000 in
theorem IM.free (h : IM w x mf ml mc cp top H D) (n : Nat) (h1 : 1 ≤ n) (h2 : n ≤ 4096) (hk : (H n).k = 0) (hm : ∀ m, 1 ≤ m → m < n → (H m).k ≠ 0) : Calls Tryz.prog 15 #[.pointer (some ⟨x, 0, none⟩)] w fun e w' => e = .returned (.tuple #[.int .i64 (n : Int), .agg (hdC (H n)), .int .i64 0]) ∧ Below w.heap.size w w' := by
  have hz := zero_ft
  have hz2 := zero_hd
  have HFF : Hid (∀ i : Nat, i < 1024 → ∀ V, Below w.heap.size w V → Calls Tryz.prog 36 #[.pointer (some ⟨x, 0, none⟩), .int .i64 (i : Int)] V fun e w' => e = .returned (.tuple #[.agg (ftC (foH H i)), .int .i64 0]) ∧ Below V.heap.size V w') := fun i hi V hV => (h.below hV).four i hi
  have HLT : Hid (∀ w : World, Calls Tryz.prog 35 #[.int .i64 4096] w fun e w2 => e = .returned (.int .i64 1024) ∧ w2 = w) := leavesTo_any 4096 (by decide) (by decide)
  have HNU : Hid (∀ i j : Nat, i < 1024 → j < 4 → ∀ w : World, Calls Tryz.prog 38 #[.int .i64 (i : Int), .int .i64 (j : Int)] w fun e w2 => e = .returned (.int .i64 ((i : Int) * 4 + (j : Int) + 1)) ∧ w2 = w) := fun i j h1 h2 => numberAt_any (i : Int) (j : Int) (by omega) (by omega) (by omega) (by omega)
  have HN : Hid (1 ≤ n ∧ n ≤ 4096 ∧ (H n).k = 0 ∧ ∀ m, 1 ≤ m → m < n → (H m).k ≠ 0) := ⟨h1, h2, hk, hm⟩
  have HB1 : Hid (Blk (w.alloc (.cells (hdC hd00) 64)) w.heap.size 64 (hdC hd00) ∧ Below w.heap.size w (w.alloc (.cells (hdC hd00) 64))) := ⟨Blk.new _ _ _, below_new1 _ _⟩
  clear h h1 h2 hk hm
  go_enter Tryz.func15, Tryz.ntmps15
  go_wp2_with fail
  generalize (w.alloc (.cells (hdC hd00) 64)) = w1 at *
  refine (HLT.out _).mono ?_
  rintro e w9 ⟨rfl, hw9⟩
  subst w9
  clear HLT
  go_wp2_with fail
  go_loopw [11] (fun t wr => Hid (∃ i : Nat, 4 * i < n ∧ t = .int .i64 (i : Int) ∧ Blk wr w.heap.size 64 (hdC hd00) ∧ Below w.heap.size w wr)) (fun t _ => 1024 - (intOf t).toNat)
  case atStart => exact ⟨0, by have := HN.out.1; omega, rfl, HB1.out.1, HB1.out.2⟩
  case round =>
    obtain ⟨i, hi, rfl, r1, hb1⟩ := Hid.out hrel
    clear hrel HB1
    have i1 : (i : Int) < 1024 := by have := HN.out.2.1; omega
    have HF1 := HFF.out i (by omega) _ hb1
    have HI : Hid (4 * i < n ∧ i < 1024) := ⟨hi, by omega⟩
    have HR : Hid (Blk wr w.heap.size 64 (hdC hd00) ∧ Below w.heap.size w wr) := ⟨r1, hb1⟩
    clear hi r1 hb1
    go_wp2_with fail
    refine HF1.mono ?_
    rintro e w2 ⟨rfl, hb2⟩
    have f3 : Blk (w2.alloc (.cells (ftC ft00) 119)) w2.heap.size 119 (ftC ft00) := Blk.new _ _ _
    have f3' := f3.set (ftC (foH H i))
    have HR3 : Hid (Blk ((w2.alloc (.cells (ftC ft00) 119)).setRow w2.heap.size (ftC (foH H i))) w.heap.size 64 (hdC hd00) ∧ Below w.heap.size w ((w2.alloc (.cells (ftC ft00) 119)).setRow w2.heap.size (ftC (foH H i)))) := by
      have hb23 : Below w2.heap.size w2 ((w2.alloc (.cells (ftC ft00) 119)).setRow w2.heap.size (ftC (foH H i))) := below_setRow (below_new1 _ _) (Nat.le_refl _) _
      have r2 := HR.out.1.below hb2 HR.out.1.lt
      have hb12 := HR.out.2.trans (hb2.mono HR.out.2.size)
      exact ⟨r2.below hb23 r2.lt, hb12.trans (hb23.mono hb12.size)⟩
    clear hb2 HR HF1
    go_wp2_with (first
      | (refine wpList_store_row (by rfl) 119 _ _ (by rfl) (w2.heap.size) (ftC (foH H i)) (by rfl) (by rfl) 119 (ftC ft00) (by exact f3) (sizeFt.trans (by rw [ftC_size])) (by simp only [ftC_size]) (ftC_all _) ?_; simp only [Act.put, List.setIfInBounds_toArray, List.set_cons_zero, List.set_cons_succ])
      | (refine wpList_load_rowg (by rfl) 119 _ (by rfl) (w2.heap.size) (by rfl) 119 (ftC (foH H i)) (0, 0) _ (by exact f3') Tryz.underlying119 (by rfl) (sizeFt.trans (by rw [ftC_size])) ?_; simp only [Act.put, List.setIfInBounds_toArray, List.set_cons_zero, List.set_cons_succ])
      | fail)
    clear f3 f3'
    generalize ((w2.alloc (.cells (ftC ft00) 119)).setRow w2.heap.size (ftC (foH H i))) = w3 at *
    go_loopw [25] (fun t wr => Hid (∃ j : Nat, j ≤ 4 ∧ 4 * i + j < n ∧ t = .int .i64 (j : Int) ∧ Blk wr w.heap.size 64 (hdC hd00) ∧ Below w.heap.size w wr)) (fun t _ => 4 - (intOf t).toNat)
    case atStart => exact ⟨0, by omega, HI.out.1, rfl, HR3.out.1, HR3.out.2⟩
    case round =>
      obtain ⟨j, hj, hjn, rfl, r1, hb1⟩ := Hid.out hrel
      clear hrel HR3
      by_cases hj4 : j < 4
      · have j1 : (j : Int) < 4 := by omega
        have hix : ∀ w, (Instr.index 119 (.agg (ftC (foH H i))) (.int .i64 (j : Int))).run Tryz.prog w = .ok (.agg (hdC (foH H i j))) w := fun w => run_index_ft (foH H i) j hj4 w
        have HJ : Hid (j < 4 ∧ 4 * i + j < n) := ⟨hj4, hjn⟩
        have q4 : Blk (wr.alloc (.cells (hdC hd00) 64)) wr.heap.size 64 (hdC hd00) := Blk.new _ _ _
        have q4' := q4.set (hdC (foH H i j))
        have HR4 : Hid (Blk ((wr.alloc (.cells (hdC hd00) 64)).setRow wr.heap.size (hdC (foH H i j))) w.heap.size 64 (hdC hd00) ∧ Below w.heap.size w ((wr.alloc (.cells (hdC hd00) 64)).setRow wr.heap.size (hdC (foH H i j))) ∧ w.heap.size < wr.heap.size) := by
          have hb34 : Below wr.heap.size wr ((wr.alloc (.cells (hdC hd00) 64)).setRow wr.heap.size (hdC (foH H i j))) := below_setRow (below_new1 _ _) (Nat.le_refl _) _
          exact ⟨r1.below hb34 r1.lt, hb1.trans (hb34.mono hb1.size), r1.lt⟩
        have HIU : Hid (∀ w : World, Calls Tryz.prog 37 #[.agg (hdC (foH H i j))] w fun e w' => e = .returned (.bool ((foH H i j).k != 0)) ∧ Below w.heap.size w w') := inUse_any (foH H i j)
        clear r1 hb1 hj hjn hj4
        go_wp2_with (first
          | (refine wpList_store_row (by rfl) 64 _ _ (by rfl) (wr.heap.size) (hdC (foH H i j)) (by rfl) (by rfl) 64 (hdC hd00) (by exact q4) (sizeHd.trans (by rw [hdC_size])) (by simp only [hdC_size]) (hdC_all _) ?_; simp only [Act.put, List.setIfInBounds_toArray, List.set_cons_zero, List.set_cons_succ])
          | (refine wpList_load_rowg (by rfl) 64 _ (by rfl) (wr.heap.size) (by rfl) 64 (hdC (foH H i j)) (0, 0) _ (by exact q4') Tryz.underlying64 (by rfl) (sizeHd.trans (by rw [hdC_size])) ?_; simp only [Act.put, List.setIfInBounds_toArray, List.set_cons_zero, List.set_cons_succ])
          | fail)
        clear q4 hix
        generalize ((wr.alloc (.cells (hdC hd00) 64)).setRow wr.heap.size (hdC (foH H i j))) = w4 at *
        refine (HIU.out w4).mono ?_
        rintro e w5 ⟨rfl, hb5⟩
        have q5 := q4'.below hb5 q4'.lt
        have HR5 : Hid (Blk w5 w.heap.size 64 (hdC hd00) ∧ Below w.heap.size w w5 ∧ w.heap.size < wr.heap.size) := ⟨HR4.out.1.below hb5 HR4.out.1.lt, HR4.out.2.1.trans (hb5.mono HR4.out.2.1.size), HR4.out.2.2⟩
        clear hb5 HR4 HIU q4'
        by_cases hk : (foH H i j).k = 0
        · have hkb : ((foH H i j).k != 0) = false := by rw [hk]; rfl
          have HNJ : Hid ((n : Int) = (i : Int) * 4 + (j : Int) + 1 ∧ foH H i j = H n) := by
            have e1 : n = 4 * i + j + 1 := by
              have := HN.out.2.2.2 (4 * i + j + 1) (by omega)
              have := HJ.out.2
              by_cases e : 4 * i + j + 1 < n
              · exact absurd hk (HN.out.2.2.2 (4 * i + j + 1) (by omega) e)
              · omega
            exact ⟨by omega, by rw [e1]; rfl⟩
          rw [hkb]
          clear hk hkb
          go_wp2_with fail
          have q5d : Blk w5.drew wr.heap.size 64 (hdC (foH H i j)) := q5
          have r5d : Blk w5.drew w.heap.size 64 (hdC hd00) := HR5.out.1
          have HB5d : Hid (Below w.heap.size w w5.drew ∧ w.heap.size < wr.heap.size) := ⟨HR5.out.2.1.drew, HR5.out.2.2⟩
          have HNU1 := HNU.out i j HI.out.2 HJ.out.1
          clear q5 HR5 HFF HNU
          refine wp_region_partsS (fun W => Blk W wr.heap.size 64 (hdC (foH H i j))) [([0, 1], 3, true), ([], 2, false), ([], 4, false), ([], 5, false)] [6] [] (by kernel_rfl) (by kernel_rfl) q5d (partsI_yield ?_)
          generalize w5.drew = w6 at *
          simp only [List.cons_append, List.nil_append, List.append_nil, List.filterMap_cons, List.filterMap_nil, List.getElem?_toArray, List.getElem?_cons_zero, List.getElem?_cons_succ]
          go_wp2_with fail
          refine ⟨rfl, _, .agg (hdC (foH H i j)), rfl, kyields_load (by rfl) 64 _ (by rfl) wr.heap.size 45 (hdF (foH H i j)) (by rfl) _ 64 (fun W hW => hW) Tryz.underlying64 rfl sizeHd, partsI_force ?_⟩
          simp only [Act.put, List.setIfInBounds_toArray, List.set_cons_zero, List.set_cons_succ]
          simp only [List.cons_append, List.nil_append, List.append_nil, List.filterMap_cons, List.filterMap_nil, List.getElem?_toArray, List.getElem?_cons_zero, List.getElem?_cons_succ]
          go_wp2_with fail
          refine (HNU1 _).mono ?_
          rintro e w9 ⟨rfl, hw9⟩
          subst w9
          go_wp2_with fail
          refine ⟨rfl, q5d, partsI_force ?_⟩
          simp only [List.cons_append, List.nil_append, List.append_nil, List.filterMap_cons, List.filterMap_nil, List.getElem?_toArray, List.getElem?_cons_zero, List.getElem?_cons_succ]
          go_wp2_with fail
          refine ⟨rfl, q5d, partsI_force ?_⟩
          simp only [List.cons_append, List.nil_append, List.append_nil, List.filterMap_cons, List.filterMap_nil, List.getElem?_toArray, List.getElem?_cons_zero, List.getElem?_cons_succ]
          (refine wpList_store_row (by rfl) 64 _ _ (by rfl) (w.heap.size) (hdC (foH H i j)) (by rfl) (by rfl) 64 (hdC hd00) (by exact r5d) (sizeHd.trans (by rw [hdC_size])) (by simp only [hdC_size]) (hdC_all _) ?_; simp only [Act.put, List.setIfInBounds_toArray, List.set_cons_zero, List.set_cons_succ])
          go_wp2_with fail
          refine ⟨rfl, (q5d.other _ (by have := HB5d.out.2; omega)), partsI_last ?_⟩
          simp only [List.cons_append, List.nil_append, List.append_nil, List.filterMap_cons, List.filterMap_nil, List.getElem?_toArray, List.getElem?_cons_zero, List.getElem?_cons_succ]
          go_wp2_with fail
          refine ⟨rfl, ?_⟩
          go_wp2_with fail
          try simp only [Exit.inBlock, Exit.then]
          refine bodyPost_ret (res_tct Tryz.results15 _ _ (w.heap.size) 64 (hdC (foH H i j)) (0, 0) _ rfl (r5d.set _) Tryz.underlying64 rfl (sizeHd.trans (by rw [hdC_size]))) rfl ?_
          exact ⟨by rw [HNJ.out.1, ← HNJ.out.2]; rfl, below_setRow HB5d.out.1 (Nat.le_refl _) _⟩
        · have hkb : ((foH H i j).k != 0) = true := by simp [hk]
          have HNX : Hid (4 * i + (j + 1) < n) := by
            have := HJ.out.2
            by_cases e : n = 4 * i + j + 1
            · exact absurd (by rw [show foH H i j = H n by rw [e]; rfl]; exact HN.out.2.2.1) hk
            · show 4 * i + (j + 1) < n
              omega
          rw [hkb]
          clear hk hkb q5
          go_wp2_with fail
          go_roundw
          case rel => exact ⟨j + 1, by have := HJ.out.1; omega, HNX.out, by first | rfl | go_num | simp, HR5.out.1, HR5.out.2.1⟩
          case measure => simp [intOf]; have := HJ.out; omega
      · obtain rfl : j = 4 := by omega
        have HR6 : Hid (Blk wr w.heap.size 64 (hdC hd00) ∧ Below w.heap.size w wr ∧ 4 * (i + 1) < n) := ⟨r1, hb1, by omega⟩
        clear r1 hb1 hj hjn hj4
        go_wp2_with fail
        go_roundw
        case rel => exact ⟨i + 1, HR6.out.2.2, by first | rfl | go_num | simp, HR6.out.1, HR6.out.2.1⟩
        case measure => simp [intOf]; have := HI.out; omega
end
end Go.Proofs.YtcmihdjbeihjbaaGreat

namespace Go.Proofs.YtcmihdjbeihjbaaGreat
open Go Go.RowKit
set_option linter.unusedSimpArgs false
set_option linter.unusedVariables false
theorem Turns.cells {S : Nat → Prop} (b : Nat) (hS : S b) (vs : List Value) (k : Nat) (w w' : World) (h : Turns S w w') : Turns S w (w'.setCells b k vs) := by
  induction vs generalizing k w' with
  | nil => exact h
  | cons v vs ih => exact ih (k + 1) _ (h.tr (Turns.cell w' b k v hS))
section
variable {w w' : World} {x mf ml mc : Nat} {cp : Option Addr} {top : Int} {H : Nat → Hd} {D : Nat → Nat → Nat → Nat}
end
end Go.Proofs.YtcmihdjbeihjbaaGreat

namespace Go.Proofs.YtcmihdjbeihjbaaGreat
open Go Go.RowKit
set_option linter.unusedSimpArgs false
set_option linter.unusedVariables false
theorem Turns.kept {V w' : World} {mf x : Nat} (h : Keeps mf V w') : Turns (fun z => z = x ∨ z = mf) V w' := ⟨h.1.os, h.1.tape, h.1.output, h.1.size, fun k hk hn => h.2 k (fun e => hn (.inr e)) hk⟩
section
variable {w w' : World} {x mf ml mc : Nat} {cp : Option Addr} {top : Int} {H : Nat → Hd} {D : Nat → Nat → Nat → Nat}
theorem IM.setTop (h : IM w x mf ml mc cp top H D) (t : Int) : IM (w.setCell ⟨x, 36, none⟩ (.int .i64 t)) x mf ml mc cp t H D := by
  obtain ⟨M, m1, m2⟩ := h.fm
  obtain ⟨M', l1, l2⟩ := h.lm
  obtain ⟨c, hc⟩ := h.cm
  have hx : Blk (w.setCell ⟨x, 36, none⟩ (.int .i64 t)) x 72 (ixC cp 0 rf0 0 t mf ml mc) := by
    have := h.ix.put 36 (.int .i64 t)
    rw [ix_top] at this
    exact this
  exact ⟨hx, ⟨M, m1.keep (Below.heap_setCell _ _ _ _ (Ne.symm h.ne.1)), m2⟩, ⟨M', l1.keep (Below.heap_setCell _ _ _ _ (Ne.symm h.ne.2.1)), l2⟩, ⟨c, (Below.heap_setCell _ _ _ _ (Ne.symm h.ne.2.2.1)).trans hc⟩, h.ne⟩
set_option maxRecDepth 100000 in
set_option maxHeartbeats 8000000 in
theorem IM.make (h : IM w x mf ml mc cp top H D) (n : Nat) (h1 : 1 ≤ n) (h2 : n ≤ 4096) (hk : (H n).k = 0) (hm : ∀ m, 1 ≤ m → m < n → (H m).k ≠ 0) (kd : Int) (hkd : kd = 1 ∨ kd = 2) (st : Nat) (ht0 : 0 ≤ top ∧ top ≤ 4096) : Calls Tryz.prog 6 #[.pointer (some ⟨x, 0, none⟩), .int .i64 kd, .int .u64 ((st : Nat) : Int)] w fun e w' => e = .returned (.tuple #[.int .i64 (n : Int), .int .i64 0]) ∧ IM w' x mf ml mc cp (max top (n : Int)) (hU H n (hdN (H n) (n : Int) kd 1 0 st)) D ∧ Turns (fun z => z = x ∨ z = mf) w w' := by
  have hz2 := zero_hd
  have HFR : Hid (Calls Tryz.prog 15 #[.pointer (some ⟨x, 0, none⟩)] w fun e w' => e = .returned (.tuple #[.int .i64 (n : Int), .agg (hdC (H n)), .int .i64 0]) ∧ Below w.heap.size w w') := h.free n h1 h2 hk hm
  have HI : Hid (IM w x mf ml mc cp top H D) := h
  have HN : Hid (1 ≤ n ∧ n ≤ 4096) := ⟨h1, h2⟩
  obtain ⟨T, hT⟩ : ∃ T, max top (n : Int) = T := ⟨_, rfl⟩
  rw [hT]
  have HT : Hid (max top (n : Int) = T) := hT
  clear h h1 h2 hk hm hT
  go_enter Tryz.func6, Tryz.ntmps6
  rcases hkd with rfl | rfl
  · skip
    have HPU : Hid (∀ V, IM V x mf ml mc cp top H D → Calls Tryz.prog 16 #[.pointer (some ⟨x, 0, none⟩), .int .i64 (n : Int), .agg (hdC (hdN (H n) (n : Int) 1 1 0 st))] V fun e w' => e = .returned (.tuple #[]) ∧ IM w' x mf ml mc cp top (hU H n (hdN (H n) (n : Int) 1 1 0 st)) D ∧ Keeps mf V w') := fun V hV => hV.put n HN.out.1 HN.out.2 _
    go_wp2_with fail
    refine HFR.out.mono ?_
    rintro e w2 ⟨rfl, hb2⟩
    have HX2 : Hid (IM w2 x mf ml mc cp top H D ∧ Below w.heap.size w w2) := ⟨HI.out.below hb2, hb2⟩
    have q3 : Blk (w2.alloc (.cells (hdC hd00) 64)) w2.heap.size 64 (hdC hd00) := Blk.new _ _ _
    have q3' := q3.set (hdC (H n))
    have HB3 : Hid (Below w2.heap.size w2 ((w2.alloc (.cells (hdC hd00) 64)).setRow w2.heap.size (hdC (H n)))) := below_setRow (below_new1 _ _) (Nat.le_refl _) _
    clear hb2 HFR
    go_upto_region 6 with (first
      | (refine wpList_store_row (by rfl) 64 _ _ (by rfl) (w2.heap.size) (hdC (H n)) (by rfl) (by rfl) 64 (hdC hd00) (by exact q3) (sizeHd.trans (by rw [hdC_size])) (by simp only [hdC_size]) (hdC_all _) ?_; simp only [Act.put, List.setIfInBounds_toArray, List.set_cons_zero, List.set_cons_succ])
      | fail)
    clear q3
    generalize ((w2.alloc (.cells (hdC hd00) 64)).setRow w2.heap.size (hdC (H n))) = w3 at *
    have c38 := hd_c38 q3'
    have f38 : w3.frozen? ⟨w2.heap.size, 38, none⟩ = false := q3'.frozen 38
    have c39 := hd_c39 q3'
    have f39 : w3.frozen? ⟨w2.heap.size, 39, none⟩ = false := q3'.frozen 39
    have c40 := hd_c40 q3'
    have f40 : w3.frozen? ⟨w2.heap.size, 40, none⟩ = false := q3'.frozen 40
    have c41 := hd_c41 q3'
    have f41 : w3.frozen? ⟨w2.heap.size, 41, none⟩ = false := q3'.frozen 41
    have c42 := hd_c42 q3'
    have f42 : w3.frozen? ⟨w2.heap.size, 42, none⟩ = false := q3'.frozen 42
    have q4 : Hid (Blk (((((w3.setCell ⟨w2.heap.size, 38, none⟩ (.int .i64 (n : Int))).setCell ⟨w2.heap.size, 39, none⟩ (.int .i64 1)).setCell ⟨w2.heap.size, 40, none⟩ (.int .i64 1)).setCell ⟨w2.heap.size, 41, none⟩ (.int .i64 0)).setCell ⟨w2.heap.size, 42, none⟩ (.int .u64 ((st : Nat) : Int))) w2.heap.size 64 (hdC (hdN (H n) (n : Int) 1 1 0 st))) := hd_putNow q3' (n : Int) 1 1 0 st
    have HX4 : Hid (IM (((((w3.setCell ⟨w2.heap.size, 38, none⟩ (.int .i64 (n : Int))).setCell ⟨w2.heap.size, 39, none⟩ (.int .i64 1)).setCell ⟨w2.heap.size, 40, none⟩ (.int .i64 1)).setCell ⟨w2.heap.size, 41, none⟩ (.int .i64 0)).setCell ⟨w2.heap.size, 42, none⟩ (.int .u64 ((st : Nat) : Int))) x mf ml mc cp top H D ∧ Below w.heap.size w (((((w3.setCell ⟨w2.heap.size, 38, none⟩ (.int .i64 (n : Int))).setCell ⟨w2.heap.size, 39, none⟩ (.int .i64 1)).setCell ⟨w2.heap.size, 40, none⟩ (.int .i64 1)).setCell ⟨w2.heap.size, 41, none⟩ (.int .i64 0)).setCell ⟨w2.heap.size, 42, none⟩ (.int .u64 ((st : Nat) : Int)))) := by
      have hb4 : Below w2.heap.size w2 (((((w3.setCell ⟨w2.heap.size, 38, none⟩ (.int .i64 (n : Int))).setCell ⟨w2.heap.size, 39, none⟩ (.int .i64 1)).setCell ⟨w2.heap.size, 40, none⟩ (.int .i64 1)).setCell ⟨w2.heap.size, 41, none⟩ (.int .i64 0)).setCell ⟨w2.heap.size, 42, none⟩ (.int .u64 ((st : Nat) : Int))) := below_setCells (Nat.le_refl _) [.int .i64 (n : Int), .int .i64 1, .int .i64 1, .int .i64 0, .int .u64 ((st : Nat) : Int)] 38 _ HB3.out
      exact ⟨HX2.out.1.below hb4, HX2.out.2.trans (hb4.mono HX2.out.2.size)⟩
    clear q3' HX2 HB3
    go_wp2_with (first
      | (refine wpList_load_rowg (by rfl) 64 _ (by rfl) (w2.heap.size) (by rfl) 64 (hdC (hdN (H n) (n : Int) 1 1 0 st)) (0, 0) _ (by exact q4.out) Tryz.underlying64 (by rfl) (sizeHd.trans (by rw [hdC_size])) ?_; simp only [Act.put, List.setIfInBounds_toArray, List.set_cons_zero, List.set_cons_succ])
      | fail)
    refine (HPU.out _ HX4.out.1).mono ?_
    rintro e w5 ⟨rfl, hI5, hk5⟩
    have x5 := hI5.ix
    have d36 := ix_c36 x5
    have e36 : w5.frozen? ⟨x, 36, none⟩ = false := x5.frozen 36
    have HE : Hid (∀ t : Int, IM (w5.setCell ⟨x, 36, none⟩ (.int .i64 t)) x mf ml mc cp t (hU H n (hdN (H n) (n : Int) 1 1 0 st)) D ∧ Turns (fun z => z = x ∨ z = mf) w (w5.setCell ⟨x, 36, none⟩ (.int .i64 t))) := fun t => ⟨hI5.setTop t, ((Turns.bel HX4.out.2).tr (Turns.kept hk5)).tr (Turns.cell w5 x 36 _ (.inl rfl))⟩
    clear hI5 hk5 x5 HX4 q4 HPU c38 c39 c40 c41 c42 f38 f39 f40 f41 f42
    go_wp2_with fail
    go_ret2
    exact ⟨rfl, by rw [← HT.out]; exact (HE.out _).1, (HE.out _).2⟩
  · skip
    have HPU : Hid (∀ V, IM V x mf ml mc cp top H D → Calls Tryz.prog 16 #[.pointer (some ⟨x, 0, none⟩), .int .i64 (n : Int), .agg (hdC (hdN (H n) (n : Int) 2 1 0 st))] V fun e w' => e = .returned (.tuple #[]) ∧ IM w' x mf ml mc cp top (hU H n (hdN (H n) (n : Int) 2 1 0 st)) D ∧ Keeps mf V w') := fun V hV => hV.put n HN.out.1 HN.out.2 _
    go_wp2_with fail
    refine HFR.out.mono ?_
    rintro e w2 ⟨rfl, hb2⟩
    have HX2 : Hid (IM w2 x mf ml mc cp top H D ∧ Below w.heap.size w w2) := ⟨HI.out.below hb2, hb2⟩
    have q3 : Blk (w2.alloc (.cells (hdC hd00) 64)) w2.heap.size 64 (hdC hd00) := Blk.new _ _ _
    have q3' := q3.set (hdC (H n))
    have HB3 : Hid (Below w2.heap.size w2 ((w2.alloc (.cells (hdC hd00) 64)).setRow w2.heap.size (hdC (H n)))) := below_setRow (below_new1 _ _) (Nat.le_refl _) _
    clear hb2 HFR
    go_upto_region 6 with (first
      | (refine wpList_store_row (by rfl) 64 _ _ (by rfl) (w2.heap.size) (hdC (H n)) (by rfl) (by rfl) 64 (hdC hd00) (by exact q3) (sizeHd.trans (by rw [hdC_size])) (by simp only [hdC_size]) (hdC_all _) ?_; simp only [Act.put, List.setIfInBounds_toArray, List.set_cons_zero, List.set_cons_succ])
      | fail)
    clear q3
    generalize ((w2.alloc (.cells (hdC hd00) 64)).setRow w2.heap.size (hdC (H n))) = w3 at *
    have c38 := hd_c38 q3'
    have f38 : w3.frozen? ⟨w2.heap.size, 38, none⟩ = false := q3'.frozen 38
    have c39 := hd_c39 q3'
    have f39 : w3.frozen? ⟨w2.heap.size, 39, none⟩ = false := q3'.frozen 39
    have c40 := hd_c40 q3'
    have f40 : w3.frozen? ⟨w2.heap.size, 40, none⟩ = false := q3'.frozen 40
    have c41 := hd_c41 q3'
    have f41 : w3.frozen? ⟨w2.heap.size, 41, none⟩ = false := q3'.frozen 41
    have c42 := hd_c42 q3'
    have f42 : w3.frozen? ⟨w2.heap.size, 42, none⟩ = false := q3'.frozen 42
    have q4 : Hid (Blk (((((w3.setCell ⟨w2.heap.size, 38, none⟩ (.int .i64 (n : Int))).setCell ⟨w2.heap.size, 39, none⟩ (.int .i64 2)).setCell ⟨w2.heap.size, 40, none⟩ (.int .i64 1)).setCell ⟨w2.heap.size, 41, none⟩ (.int .i64 0)).setCell ⟨w2.heap.size, 42, none⟩ (.int .u64 ((st : Nat) : Int))) w2.heap.size 64 (hdC (hdN (H n) (n : Int) 2 1 0 st))) := hd_putNow q3' (n : Int) 2 1 0 st
    have HX4 : Hid (IM (((((w3.setCell ⟨w2.heap.size, 38, none⟩ (.int .i64 (n : Int))).setCell ⟨w2.heap.size, 39, none⟩ (.int .i64 2)).setCell ⟨w2.heap.size, 40, none⟩ (.int .i64 1)).setCell ⟨w2.heap.size, 41, none⟩ (.int .i64 0)).setCell ⟨w2.heap.size, 42, none⟩ (.int .u64 ((st : Nat) : Int))) x mf ml mc cp top H D ∧ Below w.heap.size w (((((w3.setCell ⟨w2.heap.size, 38, none⟩ (.int .i64 (n : Int))).setCell ⟨w2.heap.size, 39, none⟩ (.int .i64 2)).setCell ⟨w2.heap.size, 40, none⟩ (.int .i64 1)).setCell ⟨w2.heap.size, 41, none⟩ (.int .i64 0)).setCell ⟨w2.heap.size, 42, none⟩ (.int .u64 ((st : Nat) : Int)))) := by
      have hb4 : Below w2.heap.size w2 (((((w3.setCell ⟨w2.heap.size, 38, none⟩ (.int .i64 (n : Int))).setCell ⟨w2.heap.size, 39, none⟩ (.int .i64 2)).setCell ⟨w2.heap.size, 40, none⟩ (.int .i64 1)).setCell ⟨w2.heap.size, 41, none⟩ (.int .i64 0)).setCell ⟨w2.heap.size, 42, none⟩ (.int .u64 ((st : Nat) : Int))) := below_setCells (Nat.le_refl _) [.int .i64 (n : Int), .int .i64 2, .int .i64 1, .int .i64 0, .int .u64 ((st : Nat) : Int)] 38 _ HB3.out
      exact ⟨HX2.out.1.below hb4, HX2.out.2.trans (hb4.mono HX2.out.2.size)⟩
    clear q3' HX2 HB3
    go_wp2_with (first
      | (refine wpList_load_rowg (by rfl) 64 _ (by rfl) (w2.heap.size) (by rfl) 64 (hdC (hdN (H n) (n : Int) 2 1 0 st)) (0, 0) _ (by exact q4.out) Tryz.underlying64 (by rfl) (sizeHd.trans (by rw [hdC_size])) ?_; simp only [Act.put, List.setIfInBounds_toArray, List.set_cons_zero, List.set_cons_succ])
      | fail)
    refine (HPU.out _ HX4.out.1).mono ?_
    rintro e w5 ⟨rfl, hI5, hk5⟩
    have x5 := hI5.ix
    have d36 := ix_c36 x5
    have e36 : w5.frozen? ⟨x, 36, none⟩ = false := x5.frozen 36
    have HE : Hid (∀ t : Int, IM (w5.setCell ⟨x, 36, none⟩ (.int .i64 t)) x mf ml mc cp t (hU H n (hdN (H n) (n : Int) 2 1 0 st)) D ∧ Turns (fun z => z = x ∨ z = mf) w (w5.setCell ⟨x, 36, none⟩ (.int .i64 t))) := fun t => ⟨hI5.setTop t, ((Turns.bel HX4.out.2).tr (Turns.kept hk5)).tr (Turns.cell w5 x 36 _ (.inl rfl))⟩
    clear hI5 hk5 x5 HX4 q4 HPU c38 c39 c40 c41 c42 f38 f39 f40 f41 f42
    go_wp2_with fail
    go_ret2
    exact ⟨rfl, by rw [← HT.out]; exact (HE.out _).1, (HE.out _).2⟩
end
end Go.Proofs.YtcmihdjbeihjbaaGreat

namespace Go.Proofs.YtcmihdjbeihjbaaGreat
open Go Go.RowKit
set_option linter.unusedSimpArgs false
set_option linter.unusedVariables false
/-- the inode n is a file of sz bytes with a stamp; what lies behind its bytes is zero -/
structure Fi (H : Nat → Hd) (D : Nat → Nat → Nat → Nat) (n sz st : Nat) (F : Nat → Nat) : Prop where
  n1 : 1 ≤ n
  n2 : n ≤ 4096
  k : (H n).k = 1
  no : (H n).n = (n : Int)
  l : (H n).l = 1
  s : (H n).s = (sz : Int)
  t : (H n).t = st
  left : (H n).left = 0
  le : sz ≤ 1048576
  bs : ∀ q i, i < 256 → D n q i = if 256 * q + i < sz then F (256 * q + i) else 0
section
variable {H H' : Nat → Hd} {D D' : Nat → Nat → Nat → Nat} {n sz st : Nat} {F G : Nat → Nat}
theorem Fi.congr (h : Fi H D n sz st F) (hG : ∀ p, p < sz → G p = F p) : Fi H D n sz st G := ⟨h.n1, h.n2, h.k, h.no, h.l, h.s, h.t, h.left, h.le, fun q i hi => by
  rw [h.bs q i hi]
  by_cases c : 256 * q + i < sz
  · rw [if_pos c, if_pos c, hG _ c]
  · rw [if_neg c, if_neg c]⟩
theorem Fi.same (h : Fi H D n sz st F) (hH : H' n = H n) (hD : D' n = D n) : Fi H' D' n sz st F := ⟨h.n1, h.n2, by rw [hH, h.k], by rw [hH, h.no], by rw [hH, h.l], by rw [hH, h.s], by rw [hH, h.t], by rw [hH, h.left], h.le, fun q i hi => by
  rw [hD]
  exact h.bs q i hi⟩
theorem hU_at (H : Nat → Hd) (n : Nat) (y : Hd) : hU H n y n = y := by
  unfold hU
  rw [if_pos rfl]
theorem hU_not (H : Nat → Hd) (n m : Nat) (y : Hd) (h : m ≠ n) : hU H n y m = H m := by
  unfold hU
  rw [if_neg h]
theorem dU_not (D : Nat → Nat → Nat → Nat) (n m p : Nat) (f : Nat → Nat) (h : m ≠ n) : dU D n p f m = D m := by
  funext q
  unfold dU
  rw [if_neg (fun c => h c.1)]
theorem rsD_not (D : Nat → Nat → Nat → Nat) (n m z : Nat) (h : m ≠ n) : rsD D n z m = D m := by
  funext q i
  unfold rsD
  rw [if_neg h]
/-- bytes, and zeros behind them -/
def fzF (F : Nat → Nat) (o : Nat) : Nat → Nat := fun p => if p < o then F p else 0
theorem Fi.resize (h : Fi H D n sz st F) (z s' : Nat) (hz : z ≤ 1048576) : Fi (hU H n (rsH (hdT (H n) s') sz z)) (rsD D n z) n z s' (fzF F sz) := by
  have e : hU H n (rsH (hdT (H n) s') sz z) n = rsH (hdT (H n) s') sz z := hU_at _ _ _
  refine ⟨h.n1, h.n2, ?_, ?_, ?_, ?_, ?_, ?_, hz, fun q i hi => ?_⟩
  · rw [e]; unfold rsH; split <;> exact h.k
  · rw [e]; unfold rsH; split <;> exact h.no
  · rw [e]; unfold rsH; split <;> exact h.l
  · rw [e]; unfold rsH; split <;> rfl
  · rw [e]; unfold rsH; split <;> rfl
  · rw [e]; unfold rsH; split <;> exact h.left
  · unfold rsD fzF
    rw [if_pos rfl, h.bs q i hi]
/-- one leaf's bytes laid over a file's -/
def lyF (F : Nat → Nat) (p : Nat) (f : Nat → Nat) : Nat → Nat := fun j => if j / 256 = p then f (j % 256) else F j
theorem Fi.set (h : Fi H D n sz st F) (p s' : Nat) (f : Nat → Nat) : Fi (hU H n (hdT (hdS (H n)) s')) (dU D n p (upF f (sz - p * 256))) n sz s' (lyF F p f) := by
  have e : hU H n (hdT (hdS (H n)) s') n = hdT (hdS (H n)) s' := hU_at _ _ _
  refine ⟨h.n1, h.n2, ?_, ?_, ?_, ?_, ?_, ?_, h.le, fun q i hi => ?_⟩
  · rw [e]; exact h.k
  · rw [e]; exact h.no
  · rw [e]; exact h.l
  · rw [e]; exact h.s
  · rw [e]; rfl
  · rw [e]; exact h.left
  · have e1 : lyF F p f (256 * q + i) = if q = p then f i else F (256 * q + i) := by
      unfold lyF
      rw [show (256 * q + i) / 256 = q by omega, show (256 * q + i) % 256 = i by omega]
    rw [e1]
    unfold dU
    by_cases c : q = p
    · rw [if_pos ⟨rfl, c⟩, if_pos c]
      subst c
      unfold upF
      by_cases c2 : i < sz - q * 256
      · rw [if_pos c2, if_pos (by omega)]
      · rw [if_neg c2, if_neg (by omega)]
    · rw [if_neg (fun c2 => c c2.2), if_neg c]
      exact h.bs q i hi
/-- what is known of a file's leaf -/
theorem Fi.leaf (h : Fi H D n sz st F) (q i : Nat) (hi : i < 256) (hp : 256 * q + i < sz) : D n q i = F (256 * q + i) := by
  rw [h.bs q i hi, if_pos hp]
end
/-- an inode's information, of a file -/
def fiV (n sz st : Nat) : Value := .agg (fiC n sz st)
section
variable {w w' : World} {x mf ml mc : Nat} {cp : Option Addr} {top : Int} {H : Nat → Hd} {D : Nat → Nat → Nat → Nat} {n sz st : Nat} {F : Nat → Nat}
theorem IM.getF (h : IM w x mf ml mc cp top H D) (hf : Fi H D n sz st F) : Calls Tryz.prog 24 #[.pointer (some ⟨x, 0, none⟩), .int .i64 (n : Int)] w fun e w' => e = .returned (.tuple #[fiV n sz st, .int .i64 0]) ∧ Below w.heap.size w w' := by
  have := h.get n hf.n1 hf.n2 (by rw [hf.k]; decide)
  rw [hf.no, hf.k, hf.l, hf.s, hf.t] at this
  exact this
theorem IM.leafF (h : IM w x mf ml mc cp top H D) (hf : Fi H D n sz st F) (q : Nat) (hq : q < 4096) : Calls Tryz.prog 50 #[.pointer (some ⟨x, 0, none⟩), .int .i64 (n : Int), .int .i64 (q : Int)] w fun e w' => e = .returned (.tuple #[.agg (va 256 (iv .u8 (D n q))), .int .i64 0]) ∧ Below w.heap.size w w' :=
  h.leafM n q hf.n1 hf.n2 (by rw [hf.k]; decide) hf.no hf.left hq
end
end Go.Proofs.YtcmihdjbeihjbaaGreat
