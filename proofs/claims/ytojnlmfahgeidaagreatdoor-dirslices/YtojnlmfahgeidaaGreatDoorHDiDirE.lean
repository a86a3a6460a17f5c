/- Directories: numbers that are refused: each call of dir by what refused says. -/
import Derived.Test.YtojnlmfahgeidaaGreatDoorHDkWrite
import Derived.Handy
import Derived.LoopTactic
import Derived.Test.YtojnlmfahgeidaaGreatDoorHDiLay
import Derived.Lib.Walk
import Derived.Test.YtojnlmfahgeidaaGreatDoorHInsCalls
import Derived.Deep.MidRow
import Derived.Test.YtojnlmfahgeidaaGreatDoorHDiRSmall

namespace Go.Proofs.YtojnlmfahgeidaaGreatDoor
theorem sgLHDiDirE : (∀ (α : Type) (a : α) (l r : List α), (a :: l) ++ r = a :: (l ++ r)) ∧ (∀ (α : Type) (l : List α), [] ++ l = l) ∧ (∀ (α : Type) (l : List α), l ++ [] = l) ∧ (∀ (α β : Type) (f : α → Option β) (a : α) (l : List α), (a :: l).filterMap f = match f a with | none => l.filterMap f | some b => b :: l.filterMap f) ∧ (∀ (α β : Type) (f : α → Option β), [].filterMap f = []) ∧ (∀ (α : Type) (l : List α) (i : Nat), l.toArray[i]? = l[i]?) ∧ (∀ (α : Type) (a : α) (l : List α), (a :: l)[0]? = some a) ∧ (∀ (α : Type) (a : α) (l : List α) (i : Nat), (a :: l)[i + 1]? = l[i]?) :=
  ⟨fun _ _ _ _ => List.cons_append, fun _ _ => List.nil_append _, fun _ _ => List.append_nil _, fun _ _ _ _ _ => List.filterMap_cons, fun _ _ _ => List.filterMap_nil, fun _ _ _ => List.getElem?_toArray, fun _ _ _ => List.getElem?_cons_zero, fun _ _ _ _ => List.getElem?_cons_succ⟩
theorem sgPHDiDirE : (∀ (α : Type) (l : List α) (i : Nat) (a : α), l.toArray.setIfInBounds i a = (l.set i a).toArray) ∧ (∀ (α : Type) (a b : α) (l : List α), (a :: l).set 0 b = b :: l) ∧ (∀ (α : Type) (a b : α) (l : List α) (i : Nat), (a :: l).set (i + 1) b = a :: l.set i b) :=
  ⟨fun _ _ _ _ => List.setIfInBounds_toArray _ _ _, fun _ _ _ _ => List.set_cons_zero, fun _ _ _ _ _ => List.set_cons_succ⟩
end Go.Proofs.YtojnlmfahgeidaaGreatDoor
namespace Go.Proofs.YtojnlmfahgeidaaGreatDoor
open Go Go.RowKit
set_option linter.unusedSimpArgs false
set_option linter.unusedVariables false
section
variable {w w' : World} {x mf ml mc : Nat} {cp : Option Addr} {top : Int} {H : Nat → Hd} {D : Nat → Nat → Nat → Nat}
set_option maxRecDepth 100000 in
set_option maxHeartbeats 8000000 in
theorem IM.free (h : IM w x mf ml mc cp top H D) (n : Nat) (h1 : 1 ≤ n) (h2 : n ≤ 4096) (hk : (H n).k = 0) (hm : ∀ m, 1 ≤ m → m < n → (H m).k ≠ 0) : Calls Tryz.prog 107 #[.pointer (some ⟨x, 0, none⟩)] w fun e w' => e = .returned (.tuple #[.int .i64 (n : Int), .agg (hdC (H n)), .int .i64 0]) ∧ Below w.heap.size w w' := by
  have hz := zero_ft
  have hz2 := zero_hd
  have HFF : Hid (∀ i : Nat, i < 1024 → ∀ V, Below w.heap.size w V → Calls Tryz.prog 153 #[.pointer (some ⟨x, 0, none⟩), .int .i64 (i : Int)] V fun e w' => e = .returned (.tuple #[.agg (ftC (foH H i)), .int .i64 0]) ∧ Below V.heap.size V w') := fun i hi V hV => (h.below hV).four i hi
  have HLT : Hid (∀ w : World, Calls Tryz.prog 152 #[.int .i64 4096] w fun e w2 => e = .returned (.int .i64 1024) ∧ w2 = w) := leavesTo_any 4096 (by decide) (by decide)
  have HNU : Hid (∀ i j : Nat, i < 1024 → j < 4 → ∀ w : World, Calls Tryz.prog 155 #[.int .i64 (i : Int), .int .i64 (j : Int)] w fun e w2 => e = .returned (.int .i64 ((i : Int) * 4 + (j : Int) + 1)) ∧ w2 = w) := fun i j h1 h2 => numberAt_any (i : Int) (j : Int) (by omega) (by omega) (by omega) (by omega)
  have HN : Hid (1 ≤ n ∧ n ≤ 4096 ∧ (H n).k = 0 ∧ ∀ m, 1 ≤ m → m < n → (H m).k ≠ 0) := ⟨h1, h2, hk, hm⟩
  have HB1 : Hid (Blk (w.alloc (.cells (hdC hd00) 222)) w.heap.size 222 (hdC hd00) ∧ Below w.heap.size w (w.alloc (.cells (hdC hd00) 222))) := ⟨Blk.new _ _ _, below_new1 _ _⟩
  clear h h1 h2 hk hm
  go_enter Tryz.func107, Tryz.ntmps107
  go_wp2_with fail
  generalize (w.alloc (.cells (hdC hd00) 222)) = w1 at *
  refine (HLT.out _).mono ?_
  rintro e w9 ⟨rfl, hw9⟩
  subst w9
  clear HLT
  go_wp2_with fail
  go_loopw [11] (fun t wr => Hid (∃ i : Nat, 4 * i < n ∧ t = .int .i64 (i : Int) ∧ Blk wr w.heap.size 222 (hdC hd00) ∧ Below w.heap.size w wr)) (fun t _ => 1024 - (intOf t).toNat)
  case atStart => exact ⟨0, by have := HN.out.1; omega, rfl, HB1.out.1, HB1.out.2⟩
  case round =>
    obtain ⟨i, hi, rfl, r1, hb1⟩ := Hid.out hrel
    clear hrel HB1
    have i1 : (i : Int) < 1024 := by have := HN.out.2.1; omega
    have HF1 := HFF.out i (by omega) _ hb1
    have HI : Hid (4 * i < n ∧ i < 1024) := ⟨hi, by omega⟩
    have HR : Hid (Blk wr w.heap.size 222 (hdC hd00) ∧ Below w.heap.size w wr) := ⟨r1, hb1⟩
    clear hi r1 hb1
    go_wp2_with fail
    refine HF1.mono ?_
    rintro e w2 ⟨rfl, hb2⟩
    have f3 : Blk (w2.alloc (.cells (ftC ft00) 270)) w2.heap.size 270 (ftC ft00) := Blk.new _ _ _
    have f3' := f3.set (ftC (foH H i))
    have HR3 : Hid (Blk ((w2.alloc (.cells (ftC ft00) 270)).setRow w2.heap.size (ftC (foH H i))) w.heap.size 222 (hdC hd00) ∧ Below w.heap.size w ((w2.alloc (.cells (ftC ft00) 270)).setRow w2.heap.size (ftC (foH H i)))) := by
      have hb23 : Below w2.heap.size w2 ((w2.alloc (.cells (ftC ft00) 270)).setRow w2.heap.size (ftC (foH H i))) := below_setRow (below_new1 _ _) (Nat.le_refl _) _
      have r2 := HR.out.1.below hb2 HR.out.1.lt
      have hb12 := HR.out.2.trans (hb2.mono HR.out.2.size)
      exact ⟨r2.below hb23 r2.lt, hb12.trans (hb23.mono hb12.size)⟩
    clear hb2 HR HF1
    go_wp2_with (first
      | (refine wpList_store_row (by rfl) 270 _ _ (by rfl) (w2.heap.size) (ftC (foH H i)) (by rfl) (by rfl) 270 (ftC ft00) (by exact f3) (sizeFt.trans (by rw [ftC_size])) (by simp only [ftC_size]) (ftC_all _) ?_; simp only [Act.put, sgPHDiDirE])
      | (refine wpList_load_rowg (by rfl) 270 _ (by rfl) (w2.heap.size) (by rfl) 270 (ftC (foH H i)) (0, 0) _ (by exact f3') Tryz.underlying270 (by rfl) (sizeFt.trans (by rw [ftC_size])) ?_; simp only [Act.put, sgPHDiDirE])
      | fail)
    clear f3 f3'
    generalize ((w2.alloc (.cells (ftC ft00) 270)).setRow w2.heap.size (ftC (foH H i))) = w3 at *
    go_loopw [25] (fun t wr => Hid (∃ j : Nat, j ≤ 4 ∧ 4 * i + j < n ∧ t = .int .i64 (j : Int) ∧ Blk wr w.heap.size 222 (hdC hd00) ∧ Below w.heap.size w wr)) (fun t _ => 4 - (intOf t).toNat)
    case atStart => exact ⟨0, by omega, HI.out.1, rfl, HR3.out.1, HR3.out.2⟩
    case round =>
      obtain ⟨j, hj, hjn, rfl, r1, hb1⟩ := Hid.out hrel
      clear hrel HR3
      by_cases hj4 : j < 4
      · have j1 : (j : Int) < 4 := by omega
        have hix : ∀ w, (Instr.index 270 (.agg (ftC (foH H i))) (.int .i64 (j : Int))).run Tryz.prog w = .ok (.agg (hdC (foH H i j))) w := fun w => run_index_ft (foH H i) j hj4 w
        have HJ : Hid (j < 4 ∧ 4 * i + j < n) := ⟨hj4, hjn⟩
        have q4 : Blk (wr.alloc (.cells (hdC hd00) 222)) wr.heap.size 222 (hdC hd00) := Blk.new _ _ _
        have q4' := q4.set (hdC (foH H i j))
        have HR4 : Hid (Blk ((wr.alloc (.cells (hdC hd00) 222)).setRow wr.heap.size (hdC (foH H i j))) w.heap.size 222 (hdC hd00) ∧ Below w.heap.size w ((wr.alloc (.cells (hdC hd00) 222)).setRow wr.heap.size (hdC (foH H i j))) ∧ w.heap.size < wr.heap.size) := by
          have hb34 : Below wr.heap.size wr ((wr.alloc (.cells (hdC hd00) 222)).setRow wr.heap.size (hdC (foH H i j))) := below_setRow (below_new1 _ _) (Nat.le_refl _) _
          exact ⟨r1.below hb34 r1.lt, hb1.trans (hb34.mono hb1.size), r1.lt⟩
        have HIU : Hid (∀ w : World, Calls Tryz.prog 154 #[.agg (hdC (foH H i j))] w fun e w' => e = .returned (.bool ((foH H i j).k != 0)) ∧ Below w.heap.size w w') := inUse_any (foH H i j)
        clear r1 hb1 hj hjn hj4
        go_wp2_with (first
          | (refine wpList_store_row (by rfl) 222 _ _ (by rfl) (wr.heap.size) (hdC (foH H i j)) (by rfl) (by rfl) 222 (hdC hd00) (by exact q4) (sizeHd.trans (by rw [hdC_size])) (by simp only [hdC_size]) (hdC_all _) ?_; simp only [Act.put, sgPHDiDirE])
          | (refine wpList_load_rowg (by rfl) 222 _ (by rfl) (wr.heap.size) (by rfl) 222 (hdC (foH H i j)) (0, 0) _ (by exact q4') Tryz.underlying222 (by rfl) (sizeHd.trans (by rw [hdC_size])) ?_; simp only [Act.put, sgPHDiDirE])
          | fail)
        clear q4 hix
        generalize ((wr.alloc (.cells (hdC hd00) 222)).setRow wr.heap.size (hdC (foH H i j))) = w4 at *
        refine (HIU.out w4).mono ?_
        rintro e w5 ⟨rfl, hb5⟩
        have q5 := q4'.below hb5 q4'.lt
        have HR5 : Hid (Blk w5 w.heap.size 222 (hdC hd00) ∧ Below w.heap.size w w5 ∧ w.heap.size < wr.heap.size) := ⟨HR4.out.1.below hb5 HR4.out.1.lt, HR4.out.2.1.trans (hb5.mono HR4.out.2.1.size), HR4.out.2.2⟩
        clear hb5 HR4 HIU q4'
        by_cases hk : (foH H i j).k = 0
        · have hkb : ((foH H i j).k != 0) = false := by rw [hk]; rfl
          have HNJ : Hid ((n : Int) = (i : Int) * 4 + (j : Int) + 1 ∧ foH H i j = H n) := by
            have e1 : n = 4 * i + j + 1 := by
              have := HN.out.2.2.2 (4 * i + j + 1) (by omega)
              have := HJ.out.2
              by_cases e : 4 * i + j + 1 < n
              · exact absurd hk (HN.out.2.2.2 (4 * i + j + 1) (by omega) e)
              · omega
            exact ⟨by omega, by rw [e1]; rfl⟩
          rw [hkb]
          clear hk hkb
          go_wp2_with fail
          have q5d : Blk w5.drew wr.heap.size 222 (hdC (foH H i j)) := q5
          have r5d : Blk w5.drew w.heap.size 222 (hdC hd00) := HR5.out.1
          have HB5d : Hid (Below w.heap.size w w5.drew ∧ w.heap.size < wr.heap.size) := ⟨HR5.out.2.1.drew, HR5.out.2.2⟩
          have HNU1 := HNU.out i j HI.out.2 HJ.out.1
          clear q5 HR5 HFF HNU
          refine wp_region_partsS (fun W => Blk W wr.heap.size 222 (hdC (foH H i j))) [([0, 1], 3, true), ([], 2, false), ([], 4, false), ([], 5, false)] [6] [] (by kernel_rfl) (by kernel_rfl) q5d (partsI_yield ?_)
          generalize w5.drew = w6 at *
          simp only [sgLHDiDirE]
          go_wp2_with fail
          refine ⟨rfl, _, .agg (hdC (foH H i j)), rfl, kyields_load (by rfl) 222 _ (by rfl) wr.heap.size 45 (hdF (foH H i j)) (by rfl) _ 222 (fun W hW => hW) Tryz.underlying222 rfl sizeHd, partsI_force ?_⟩
          simp only [Act.put, sgPHDiDirE]
          simp only [sgLHDiDirE]
          go_wp2_with fail
          refine (HNU1 _).mono ?_
          rintro e w9 ⟨rfl, hw9⟩
          subst w9
          go_wp2_with fail
          refine ⟨rfl, q5d, partsI_force ?_⟩
          simp only [sgLHDiDirE]
          go_wp2_with fail
          refine ⟨rfl, q5d, partsI_force ?_⟩
          simp only [sgLHDiDirE]
          (refine wpList_store_row (by rfl) 222 _ _ (by rfl) (w.heap.size) (hdC (foH H i j)) (by rfl) (by rfl) 222 (hdC hd00) (by exact r5d) (sizeHd.trans (by rw [hdC_size])) (by simp only [hdC_size]) (hdC_all _) ?_; simp only [Act.put, sgPHDiDirE])
          go_wp2_with fail
          refine ⟨rfl, (q5d.other _ (by have := HB5d.out.2; omega)), partsI_last ?_⟩
          simp only [sgLHDiDirE]
          go_wp2_with fail
          refine ⟨rfl, ?_⟩
          go_wp2_with fail
          try simp only [Exit.inBlock, Exit.then]
          refine bodyPost_ret (res_tct Tryz.results107 _ _ (w.heap.size) 222 (hdC (foH H i j)) (0, 0) _ rfl (r5d.set _) Tryz.underlying222 rfl (sizeHd.trans (by rw [hdC_size]))) rfl ?_
          exact ⟨by rw [HNJ.out.1, ← HNJ.out.2]; rfl, below_setRow HB5d.out.1 (Nat.le_refl _) _⟩
        · have hkb : ((foH H i j).k != 0) = true := by simp [hk]
          have HNX : Hid (4 * i + (j + 1) < n) := by
            have := HJ.out.2
            by_cases e : n = 4 * i + j + 1
            · exact absurd (by rw [show foH H i j = H n by rw [e]; rfl]; exact HN.out.2.2.1) hk
            · show 4 * i + (j + 1) < n
              omega
          rw [hkb]
          clear hk hkb q5
          go_wp2_with fail
          go_roundw
          case rel => exact ⟨j + 1, by have := HJ.out.1; omega, HNX.out, by first | rfl | go_num | simp, HR5.out.1, HR5.out.2.1⟩
          case measure => simp [intOf]; have := HJ.out; omega
      · obtain rfl : j = 4 := by omega
        have HR6 : Hid (Blk wr w.heap.size 222 (hdC hd00) ∧ Below w.heap.size w wr ∧ 4 * (i + 1) < n) := ⟨r1, hb1, by omega⟩
        clear r1 hb1 hj hjn hj4
        go_wp2_with fail
        go_roundw
        case rel => exact ⟨i + 1, HR6.out.2.2, by first | rfl | go_num | simp, HR6.out.1, HR6.out.2.1⟩
        case measure => simp [intOf]; have := HI.out; omega
end
end Go.Proofs.YtojnlmfahgeidaaGreatDoor

namespace Go.Proofs.YtojnlmfahgeidaaGreatDoor
open Go Go.RowKit
set_option linter.unusedSimpArgs false
set_option linter.unusedVariables false
/-- An inode that is out of use. -/
def hdD (y : Hd) : Hd := hdN y 0 0 0 0 0
theorem Turns.cells {S : Nat → Prop} (b : Nat) (hS : S b) (vs : List Value) (k : Nat) (w w' : World) (h : Turns S w w') : Turns S w (w'.setCells b k vs) := by
  induction vs generalizing k w' with
  | nil => exact h
  | cons v vs ih => exact ih (k + 1) _ (h.tr (Turns.cell w' b k v hS))
section
variable {w w' : World} {x mf ml mc : Nat} {cp : Option Addr} {top : Int} {H : Nat → Hd} {D : Nat → Nat → Nat → Nat}
theorem IM.others (h : IM w x mf ml mc cp top H D) (b : Nat) (hb : b ≠ x ∧ b ≠ mf ∧ b ≠ ml ∧ b ≠ mc) (vs : List Value) (k : Nat) : IM (w.setCells b k vs) x mf ml mc cp top H D := by
  induction vs generalizing k w with
  | nil => exact h
  | cons v vs ih => exact ih (h.other b k v hb) (k + 1)
set_option maxRecDepth 100000 in
set_option maxHeartbeats 8000000 in
theorem IM.drop1 (h : IM w x mf ml mc cp top H D) (n b xb : Nat) (y : Hd) (o : Nat) (hy : y.n = (n : Int)) (hl : y.left = 0) (ho : y.s = (o : Int)) (hob : o ≤ 1048576) (hZ : ∀ q i, i < 256 → o ≤ 256 * q + i → D n q i = 0) (hB : Blk w b 222 (hdC y)) (hX : Blk w xb 23 #[.pointer (some ⟨x, 0, none⟩)]) (hb : b ≠ x ∧ b ≠ mf ∧ b ≠ ml ∧ b ≠ mc) : Calls Tryz.prog 200 #[.pointer (some ⟨b, 0, none⟩), .pointer (some ⟨xb, 0, none⟩)] w fun e w' => e = .returned (.int .i64 0) ∧ IM w' x mf ml mc cp top H (rsD D n 0) ∧ Blk w' b 222 (hdC (hdD y)) ∧ Turns (fun z => z = ml ∨ z = b) w w' := by
  have x0 : w.cell? ⟨xb, 0, none⟩ = some (.pointer (some ⟨x, 0, none⟩)) := (hX.cell 0).trans rfl
  have HRS : Calls Tryz.prog 164 #[.pointer (some ⟨x, 0, none⟩), .pointer (some ⟨b, 0, none⟩), .int .i64 0] w fun e w' => e = .returned (.int .i64 0) ∧ IM w' x mf ml mc cp top H (rsD D n 0) ∧ Blk w' b 222 (hdC (hdZ y 0)) ∧ Turns (fun z => z = ml ∨ z = b) w w' := by
    have := h.resize n b y o 0 hy hl ho hob (by decide) hZ hB hb
    rw [if_neg (by omega)] at this
    exact this
  have HNB : Hid (b ≠ x ∧ b ≠ mf ∧ b ≠ ml ∧ b ≠ mc) := hb
  clear h hy hl ho hob hZ hB hX hb
  go_enter Tryz.func200, Tryz.ntmps200
  go_wp2_with fail
  refine HRS.mono ?_
  rintro e w2 ⟨rfl, hI2, hB2, ht2⟩
  have HE : Hid (IM (((((w2.setCell ⟨b, 38, none⟩ (.int .i64 0)).setCell ⟨b, 39, none⟩ (.int .i64 0)).setCell ⟨b, 40, none⟩ (.int .i64 0)).setCell ⟨b, 41, none⟩ (.int .i64 0)).setCell ⟨b, 42, none⟩ (.int .u64 0)) x mf ml mc cp top H (rsD D n 0) ∧ Blk (((((w2.setCell ⟨b, 38, none⟩ (.int .i64 0)).setCell ⟨b, 39, none⟩ (.int .i64 0)).setCell ⟨b, 40, none⟩ (.int .i64 0)).setCell ⟨b, 41, none⟩ (.int .i64 0)).setCell ⟨b, 42, none⟩ (.int .u64 0)) b 222 (hdC (hdD y)) ∧ Turns (fun z => z = ml ∨ z = b) w (((((w2.setCell ⟨b, 38, none⟩ (.int .i64 0)).setCell ⟨b, 39, none⟩ (.int .i64 0)).setCell ⟨b, 40, none⟩ (.int .i64 0)).setCell ⟨b, 41, none⟩ (.int .i64 0)).setCell ⟨b, 42, none⟩ (.int .u64 0))) := ⟨hI2.others b HNB.out [.int .i64 0, .int .i64 0, .int .i64 0, .int .i64 0, .int .u64 0] 38, hd_putNow hB2 0 0 0 0 0, Turns.cells b (.inr rfl) [.int .i64 0, .int .i64 0, .int .i64 0, .int .i64 0, .int .u64 0] 38 w w2 ht2⟩
  have c38 := hd_c38 hB2
  have f38 : w2.frozen? ⟨b, 38, none⟩ = false := hB2.frozen 38
  have c39 := hd_c39 hB2
  have f39 : w2.frozen? ⟨b, 39, none⟩ = false := hB2.frozen 39
  have c40 := hd_c40 hB2
  have f40 : w2.frozen? ⟨b, 40, none⟩ = false := hB2.frozen 40
  have c41 := hd_c41 hB2
  have f41 : w2.frozen? ⟨b, 41, none⟩ = false := hB2.frozen 41
  have c42 := hd_c42 hB2
  have f42 : w2.frozen? ⟨b, 42, none⟩ = false := hB2.frozen 42
  clear hI2 hB2 ht2 HRS
  go_wp2_with fail
  go_ret
  exact ⟨rfl, HE.out.1, HE.out.2.1, HE.out.2.2⟩
theorem IM.drop (h : IM w x mf ml mc cp top H D) (n : Nat) (h1 : 1 ≤ n) (h2 : n ≤ 4096) (hk : (H n).k ≠ 0) (o : Nat) (hn : (H n).n = (n : Int)) (hl : (H n).left = 0) (ho : (H n).s = (o : Int)) (hob : o ≤ 1048576) (hZ : ∀ q i, i < 256 → o ≤ 256 * q + i → D n q i = 0) : Calls Tryz.prog 146 #[.pointer (some ⟨x, 0, none⟩), .int .i64 (n : Int)] w fun e w' => e = .returned (.int .i64 0) ∧ IM w' x mf ml mc cp top (hU H n (hdD (H n))) (rsD D n 0) ∧ Turns (fun z => z = ml ∨ z = mf) w w' := by
  have hb1 : Below w.heap.size w (w.alloc (.cells #[.pointer (some ⟨x, 0, none⟩)] 23)) := below_new1 _ _
  have k1 : Blk (w.alloc (.cells #[.pointer (some ⟨x, 0, none⟩)] 23)) w.heap.size 23 #[.pointer (some ⟨x, 0, none⟩)] := Blk.new _ _ _
  have x0 : (w.alloc (.cells #[.pointer (some ⟨x, 0, none⟩)] 23)).cell? ⟨w.heap.size, 0, none⟩ = some (.pointer (some ⟨x, 0, none⟩)) := (k1.cell 0).trans rfl
  have hI1 := h.below hb1
  have HC := hI1.changeDrop n h1 h2 hk (.pointer (some ⟨w.heap.size, 0, none⟩)) (hdD (H n)) (rsD D n 0) fun V b hV hI hB hge => hI.drop1 n b w.heap.size (H n) o hn hl ho hob hZ hB (k1.below hV k1.lt) (hI1.apart b hge)
  have HB1 : Hid (Below w.heap.size w (w.alloc (.cells #[.pointer (some ⟨x, 0, none⟩)] 23))) := hb1
  clear h hb1 k1 hI1 hk h1 h2 hn hl ho hob hZ
  go_enter Tryz.func146, Tryz.ntmps146
  go_wp2_with fail
  refine HC.mono ?_
  rintro e w2 ⟨rfl, hI2, ht2⟩
  have HE : Hid (IM w2 x mf ml mc cp top (hU H n (hdD (H n))) (rsD D n 0) ∧ Turns (fun z => z = ml ∨ z = mf) w w2) := ⟨hI2, (Turns.bel HB1.out).tr ht2⟩
  clear hI2 ht2 HC HB1
  go_wp2_with fail
  go_ret
  exact ⟨rfl, HE.out.1, HE.out.2⟩
end
end Go.Proofs.YtojnlmfahgeidaaGreatDoor

namespace Go.Proofs.YtojnlmfahgeidaaGreatDoor
open Go Go.RowKit
set_option linter.unusedSimpArgs false
set_option linter.unusedVariables false
theorem Turns.kept {V w' : World} {mf x : Nat} (h : Keeps mf V w') : Turns (fun z => z = x ∨ z = mf) V w' := ⟨h.1.os, h.1.tape, h.1.output, h.1.size, fun k hk hn => h.2 k (fun e => hn (.inr e)) hk⟩
section
variable {w w' : World} {x mf ml mc : Nat} {cp : Option Addr} {top : Int} {H : Nat → Hd} {D : Nat → Nat → Nat → Nat}
theorem IM.setTop (h : IM w x mf ml mc cp top H D) (t : Int) : IM (w.setCell ⟨x, 36, none⟩ (.int .i64 t)) x mf ml mc cp t H D := by
  obtain ⟨M, m1, m2⟩ := h.fm
  obtain ⟨M', l1, l2⟩ := h.lm
  obtain ⟨c, hc⟩ := h.cm
  have hx : Blk (w.setCell ⟨x, 36, none⟩ (.int .i64 t)) x 218 (ixC cp 0 rf0 0 t mf ml mc) := by
    have := h.ix.put 36 (.int .i64 t)
    rw [ix_top] at this
    exact this
  exact ⟨hx, ⟨M, m1.keep (Below.heap_setCell _ _ _ _ (Ne.symm h.ne.1)), m2⟩, ⟨M', l1.keep (Below.heap_setCell _ _ _ _ (Ne.symm h.ne.2.1)), l2⟩, ⟨c, (Below.heap_setCell _ _ _ _ (Ne.symm h.ne.2.2.1)).trans hc⟩, h.ne⟩
set_option maxRecDepth 100000 in
set_option maxHeartbeats 8000000 in
theorem IM.make (h : IM w x mf ml mc cp top H D) (n : Nat) (h1 : 1 ≤ n) (h2 : n ≤ 4096) (hk : (H n).k = 0) (hm : ∀ m, 1 ≤ m → m < n → (H m).k ≠ 0) (kd : Int) (hkd : kd = 1 ∨ kd = 2) (st : Nat) (ht0 : 0 ≤ top ∧ top ≤ 4096) : Calls Tryz.prog 49 #[.pointer (some ⟨x, 0, none⟩), .int .i64 kd, .int .u64 ((st : Nat) : Int)] w fun e w' => e = .returned (.tuple #[.int .i64 (n : Int), .int .i64 0]) ∧ IM w' x mf ml mc cp (max top (n : Int)) (hU H n (hdN (H n) (n : Int) kd 1 0 st)) D ∧ Turns (fun z => z = x ∨ z = mf) w w' := by
  have hz2 := zero_hd
  have HFR : Hid (Calls Tryz.prog 107 #[.pointer (some ⟨x, 0, none⟩)] w fun e w' => e = .returned (.tuple #[.int .i64 (n : Int), .agg (hdC (H n)), .int .i64 0]) ∧ Below w.heap.size w w') := h.free n h1 h2 hk hm
  have HI : Hid (IM w x mf ml mc cp top H D) := h
  have HN : Hid (1 ≤ n ∧ n ≤ 4096) := ⟨h1, h2⟩
  obtain ⟨T, hT⟩ : ∃ T, max top (n : Int) = T := ⟨_, rfl⟩
  rw [hT]
  have HT : Hid (max top (n : Int) = T) := hT
  clear h h1 h2 hk hm hT
  go_enter Tryz.func49, Tryz.ntmps49
  rcases hkd with rfl | rfl
  · skip
    have HPU : Hid (∀ V, IM V x mf ml mc cp top H D → Calls Tryz.prog 108 #[.pointer (some ⟨x, 0, none⟩), .int .i64 (n : Int), .agg (hdC (hdN (H n) (n : Int) 1 1 0 st))] V fun e w' => e = .returned (.tuple #[]) ∧ IM w' x mf ml mc cp top (hU H n (hdN (H n) (n : Int) 1 1 0 st)) D ∧ Keeps mf V w') := fun V hV => hV.put n HN.out.1 HN.out.2 _
    go_wp2_with fail
    refine HFR.out.mono ?_
    rintro e w2 ⟨rfl, hb2⟩
    have HX2 : Hid (IM w2 x mf ml mc cp top H D ∧ Below w.heap.size w w2) := ⟨HI.out.below hb2, hb2⟩
    have q3 : Blk (w2.alloc (.cells (hdC hd00) 222)) w2.heap.size 222 (hdC hd00) := Blk.new _ _ _
    have q3' := q3.set (hdC (H n))
    have HB3 : Hid (Below w2.heap.size w2 ((w2.alloc (.cells (hdC hd00) 222)).setRow w2.heap.size (hdC (H n)))) := below_setRow (below_new1 _ _) (Nat.le_refl _) _
    clear hb2 HFR
    go_upto_region 6 with (first
      | (refine wpList_store_row (by rfl) 222 _ _ (by rfl) (w2.heap.size) (hdC (H n)) (by rfl) (by rfl) 222 (hdC hd00) (by exact q3) (sizeHd.trans (by rw [hdC_size])) (by simp only [hdC_size]) (hdC_all _) ?_; simp only [Act.put, sgPHDiDirE])
      | fail)
    clear q3
    generalize ((w2.alloc (.cells (hdC hd00) 222)).setRow w2.heap.size (hdC (H n))) = w3 at *
    have c38 := hd_c38 q3'
    have f38 : w3.frozen? ⟨w2.heap.size, 38, none⟩ = false := q3'.frozen 38
    have c39 := hd_c39 q3'
    have f39 : w3.frozen? ⟨w2.heap.size, 39, none⟩ = false := q3'.frozen 39
    have c40 := hd_c40 q3'
    have f40 : w3.frozen? ⟨w2.heap.size, 40, none⟩ = false := q3'.frozen 40
    have c41 := hd_c41 q3'
    have f41 : w3.frozen? ⟨w2.heap.size, 41, none⟩ = false := q3'.frozen 41
    have c42 := hd_c42 q3'
    have f42 : w3.frozen? ⟨w2.heap.size, 42, none⟩ = false := q3'.frozen 42
    have q4 : Hid (Blk (((((w3.setCell ⟨w2.heap.size, 38, none⟩ (.int .i64 (n : Int))).setCell ⟨w2.heap.size, 39, none⟩ (.int .i64 1)).setCell ⟨w2.heap.size, 40, none⟩ (.int .i64 1)).setCell ⟨w2.heap.size, 41, none⟩ (.int .i64 0)).setCell ⟨w2.heap.size, 42, none⟩ (.int .u64 ((st : Nat) : Int))) w2.heap.size 222 (hdC (hdN (H n) (n : Int) 1 1 0 st))) := hd_putNow q3' (n : Int) 1 1 0 st
    have HX4 : Hid (IM (((((w3.setCell ⟨w2.heap.size, 38, none⟩ (.int .i64 (n : Int))).setCell ⟨w2.heap.size, 39, none⟩ (.int .i64 1)).setCell ⟨w2.heap.size, 40, none⟩ (.int .i64 1)).setCell ⟨w2.heap.size, 41, none⟩ (.int .i64 0)).setCell ⟨w2.heap.size, 42, none⟩ (.int .u64 ((st : Nat) : Int))) x mf ml mc cp top H D ∧ Below w.heap.size w (((((w3.setCell ⟨w2.heap.size, 38, none⟩ (.int .i64 (n : Int))).setCell ⟨w2.heap.size, 39, none⟩ (.int .i64 1)).setCell ⟨w2.heap.size, 40, none⟩ (.int .i64 1)).setCell ⟨w2.heap.size, 41, none⟩ (.int .i64 0)).setCell ⟨w2.heap.size, 42, none⟩ (.int .u64 ((st : Nat) : Int)))) := by
      have hb4 : Below w2.heap.size w2 (((((w3.setCell ⟨w2.heap.size, 38, none⟩ (.int .i64 (n : Int))).setCell ⟨w2.heap.size, 39, none⟩ (.int .i64 1)).setCell ⟨w2.heap.size, 40, none⟩ (.int .i64 1)).setCell ⟨w2.heap.size, 41, none⟩ (.int .i64 0)).setCell ⟨w2.heap.size, 42, none⟩ (.int .u64 ((st : Nat) : Int))) := below_setCells (Nat.le_refl _) [.int .i64 (n : Int), .int .i64 1, .int .i64 1, .int .i64 0, .int .u64 ((st : Nat) : Int)] 38 _ HB3.out
      exact ⟨HX2.out.1.below hb4, HX2.out.2.trans (hb4.mono HX2.out.2.size)⟩
    clear q3' HX2 HB3
    go_wp2_with (first
      | (refine wpList_load_rowg (by rfl) 222 _ (by rfl) (w2.heap.size) (by rfl) 222 (hdC (hdN (H n) (n : Int) 1 1 0 st)) (0, 0) _ (by exact q4.out) Tryz.underlying222 (by rfl) (sizeHd.trans (by rw [hdC_size])) ?_; simp only [Act.put, sgPHDiDirE])
      | fail)
    refine (HPU.out _ HX4.out.1).mono ?_
    rintro e w5 ⟨rfl, hI5, hk5⟩
    have x5 := hI5.ix
    have d36 := ix_c36 x5
    have e36 : w5.frozen? ⟨x, 36, none⟩ = false := x5.frozen 36
    have HE : Hid (∀ t : Int, IM (w5.setCell ⟨x, 36, none⟩ (.int .i64 t)) x mf ml mc cp t (hU H n (hdN (H n) (n : Int) 1 1 0 st)) D ∧ Turns (fun z => z = x ∨ z = mf) w (w5.setCell ⟨x, 36, none⟩ (.int .i64 t))) := fun t => ⟨hI5.setTop t, ((Turns.bel HX4.out.2).tr (Turns.kept hk5)).tr (Turns.cell w5 x 36 _ (.inl rfl))⟩
    clear hI5 hk5 x5 HX4 q4 HPU c38 c39 c40 c41 c42 f38 f39 f40 f41 f42
    go_wp2_with fail
    go_ret2
    exact ⟨rfl, by rw [← HT.out]; exact (HE.out _).1, (HE.out _).2⟩
  · skip
    have HPU : Hid (∀ V, IM V x mf ml mc cp top H D → Calls Tryz.prog 108 #[.pointer (some ⟨x, 0, none⟩), .int .i64 (n : Int), .agg (hdC (hdN (H n) (n : Int) 2 1 0 st))] V fun e w' => e = .returned (.tuple #[]) ∧ IM w' x mf ml mc cp top (hU H n (hdN (H n) (n : Int) 2 1 0 st)) D ∧ Keeps mf V w') := fun V hV => hV.put n HN.out.1 HN.out.2 _
    go_wp2_with fail
    refine HFR.out.mono ?_
    rintro e w2 ⟨rfl, hb2⟩
    have HX2 : Hid (IM w2 x mf ml mc cp top H D ∧ Below w.heap.size w w2) := ⟨HI.out.below hb2, hb2⟩
    have q3 : Blk (w2.alloc (.cells (hdC hd00) 222)) w2.heap.size 222 (hdC hd00) := Blk.new _ _ _
    have q3' := q3.set (hdC (H n))
    have HB3 : Hid (Below w2.heap.size w2 ((w2.alloc (.cells (hdC hd00) 222)).setRow w2.heap.size (hdC (H n)))) := below_setRow (below_new1 _ _) (Nat.le_refl _) _
    clear hb2 HFR
    go_upto_region 6 with (first
      | (refine wpList_store_row (by rfl) 222 _ _ (by rfl) (w2.heap.size) (hdC (H n)) (by rfl) (by rfl) 222 (hdC hd00) (by exact q3) (sizeHd.trans (by rw [hdC_size])) (by simp only [hdC_size]) (hdC_all _) ?_; simp only [Act.put, sgPHDiDirE])
      | fail)
    clear q3
    generalize ((w2.alloc (.cells (hdC hd00) 222)).setRow w2.heap.size (hdC (H n))) = w3 at *
    have c38 := hd_c38 q3'
    have f38 : w3.frozen? ⟨w2.heap.size, 38, none⟩ = false := q3'.frozen 38
    have c39 := hd_c39 q3'
    have f39 : w3.frozen? ⟨w2.heap.size, 39, none⟩ = false := q3'.frozen 39
    have c40 := hd_c40 q3'
    have f40 : w3.frozen? ⟨w2.heap.size, 40, none⟩ = false := q3'.frozen 40
    have c41 := hd_c41 q3'
    have f41 : w3.frozen? ⟨w2.heap.size, 41, none⟩ = false := q3'.frozen 41
    have c42 := hd_c42 q3'
    have f42 : w3.frozen? ⟨w2.heap.size, 42, none⟩ = false := q3'.frozen 42
    have q4 : Hid (Blk (((((w3.setCell ⟨w2.heap.size, 38, none⟩ (.int .i64 (n : Int))).setCell ⟨w2.heap.size, 39, none⟩ (.int .i64 2)).setCell ⟨w2.heap.size, 40, none⟩ (.int .i64 1)).setCell ⟨w2.heap.size, 41, none⟩ (.int .i64 0)).setCell ⟨w2.heap.size, 42, none⟩ (.int .u64 ((st : Nat) : Int))) w2.heap.size 222 (hdC (hdN (H n) (n : Int) 2 1 0 st))) := hd_putNow q3' (n : Int) 2 1 0 st
    have HX4 : Hid (IM (((((w3.setCell ⟨w2.heap.size, 38, none⟩ (.int .i64 (n : Int))).setCell ⟨w2.heap.size, 39, none⟩ (.int .i64 2)).setCell ⟨w2.heap.size, 40, none⟩ (.int .i64 1)).setCell ⟨w2.heap.size, 41, none⟩ (.int .i64 0)).setCell ⟨w2.heap.size, 42, none⟩ (.int .u64 ((st : Nat) : Int))) x mf ml mc cp top H D ∧ Below w.heap.size w (((((w3.setCell ⟨w2.heap.size, 38, none⟩ (.int .i64 (n : Int))).setCell ⟨w2.heap.size, 39, none⟩ (.int .i64 2)).setCell ⟨w2.heap.size, 40, none⟩ (.int .i64 1)).setCell ⟨w2.heap.size, 41, none⟩ (.int .i64 0)).setCell ⟨w2.heap.size, 42, none⟩ (.int .u64 ((st : Nat) : Int)))) := by
      have hb4 : Below w2.heap.size w2 (((((w3.setCell ⟨w2.heap.size, 38, none⟩ (.int .i64 (n : Int))).setCell ⟨w2.heap.size, 39, none⟩ (.int .i64 2)).setCell ⟨w2.heap.size, 40, none⟩ (.int .i64 1)).setCell ⟨w2.heap.size, 41, none⟩ (.int .i64 0)).setCell ⟨w2.heap.size, 42, none⟩ (.int .u64 ((st : Nat) : Int))) := below_setCells (Nat.le_refl _) [.int .i64 (n : Int), .int .i64 2, .int .i64 1, .int .i64 0, .int .u64 ((st : Nat) : Int)] 38 _ HB3.out
      exact ⟨HX2.out.1.below hb4, HX2.out.2.trans (hb4.mono HX2.out.2.size)⟩
    clear q3' HX2 HB3
    go_wp2_with (first
      | (refine wpList_load_rowg (by rfl) 222 _ (by rfl) (w2.heap.size) (by rfl) 222 (hdC (hdN (H n) (n : Int) 2 1 0 st)) (0, 0) _ (by exact q4.out) Tryz.underlying222 (by rfl) (sizeHd.trans (by rw [hdC_size])) ?_; simp only [Act.put, sgPHDiDirE])
      | fail)
    refine (HPU.out _ HX4.out.1).mono ?_
    rintro e w5 ⟨rfl, hI5, hk5⟩
    have x5 := hI5.ix
    have d36 := ix_c36 x5
    have e36 : w5.frozen? ⟨x, 36, none⟩ = false := x5.frozen 36
    have HE : Hid (∀ t : Int, IM (w5.setCell ⟨x, 36, none⟩ (.int .i64 t)) x mf ml mc cp t (hU H n (hdN (H n) (n : Int) 2 1 0 st)) D ∧ Turns (fun z => z = x ∨ z = mf) w (w5.setCell ⟨x, 36, none⟩ (.int .i64 t))) := fun t => ⟨hI5.setTop t, ((Turns.bel HX4.out.2).tr (Turns.kept hk5)).tr (Turns.cell w5 x 36 _ (.inl rfl))⟩
    clear hI5 hk5 x5 HX4 q4 HPU c38 c39 c40 c41 c42 f38 f39 f40 f41 f42
    go_wp2_with fail
    go_ret2
    exact ⟨rfl, by rw [← HT.out]; exact (HE.out _).1, (HE.out _).2⟩
end
end Go.Proofs.YtojnlmfahgeidaaGreatDoor

namespace Go.Proofs.YtojnlmfahgeidaaGreatDoor
open Go Go.RowKit
set_option linter.unusedSimpArgs false
set_option linter.unusedVariables false
theorem wrong_not (x : Nat) (n : Int) (hn : -9223372036854775808 ≤ n ∧ n ≤ 9223372036854775807) (h : ¬ (1 ≤ n ∧ n ≤ 4096)) (w : World) : Calls Tryz.prog 160 #[.pointer (some ⟨x, 0, none⟩), .int .i64 n] w fun e w' => e = .returned (.int .i64 141) ∧ w' = w := by
  have HP := place_any n hn w
  rw [if_neg h] at HP
  clear h
  go_enter Tryz.func160, Tryz.ntmps160
  go_wp2_with fail
  refine HP.mono ?_
  rintro e w1 ⟨rfl, rfl⟩
  go_wp2_with fail
  go_ret
  exact ⟨rfl, rfl⟩
set_option maxRecDepth 100000 in
set_option maxHeartbeats 4000000 in
theorem used_wrong (x : Nat) (n : Int) (hn : -9223372036854775808 ≤ n ∧ n ≤ 9223372036854775807) (h : ¬ (1 ≤ n ∧ n ≤ 4096)) (w : World) : Calls Tryz.prog 114 #[.pointer (some ⟨x, 0, none⟩), .int .i64 n] w fun e w' => e = .returned (.tuple #[.agg (hdC hd00), .int .i64 141]) ∧ Below w.heap.size w w' := by
  have hz2 := zero_hd
  have HWR : Hid (∀ w : World, Calls Tryz.prog 160 #[.pointer (some ⟨x, 0, none⟩), .int .i64 n] w fun e w' => e = .returned (.int .i64 141) ∧ w' = w) := wrong_not x n hn h
  clear h hn
  have hb1 : Below w.heap.size w (w.alloc (.cells (hdC hd00) 222)) := below_new1 _ _
  have r1 : Blk (w.alloc (.cells (hdC hd00) 222)) w.heap.size 222 (hdC hd00) := Blk.new _ _ _
  go_enter Tryz.func114, Tryz.ntmps114
  go_wp2_with fail
  generalize (w.alloc (.cells (hdC hd00) 222)) = w1 at *
  refine (HWR.out w1).mono ?_
  rintro e w2 ⟨rfl, hw2⟩
  subst hw2
  go_wp2_with (first
    | (refine wpList_buildTo (by rfl) 222 #[] (by rfl) _ rfl (hdC hd00) (by exact built_hd0) ?_; simp only [Act.put, sgPHDiDirE])
    | (refine wpList_store_row (by rfl) 222 _ _ (by rfl) (w.heap.size) (hdC hd00) (by rfl) (by rfl) 222 (hdC hd00) (by exact r1) (sizeHd.trans (by rw [hdC_size])) (by simp only [hdC_size]) (hdC_all _) ?_; simp only [Act.put, sgPHDiDirE])
    | fail)
  try simp only [Exit.inBlock, Exit.then]
  refine bodyPost_ret (results_row2 Tryz.results114 _ _ (w.heap.size) 222 (hdC hd00) (0, 0) _ rfl (r1.set _) Tryz.underlying222 rfl (sizeHd.trans (by rw [hdC_size]))) rfl ?_
  exact ⟨rfl, below_setRow hb1 (Nat.le_refl _) _⟩
section
variable {x : Nat}
set_option maxRecDepth 100000 in
set_option maxHeartbeats 4000000 in
theorem used_none (n : Int) (h1 : 1 ≤ n) (h2 : n ≤ 4096) (q : Nat → Hd) (hq : (q ((n - 1) % 4).toNat).k = 0) (w : World) (HF : ∀ V, Below w.heap.size w V → Calls Tryz.prog 153 #[.pointer (some ⟨x, 0, none⟩), .int .i64 ((n - 1) / 4)] V fun e w' => e = .returned (.tuple #[.agg (ftC q), .int .i64 0]) ∧ Below V.heap.size V w') : Calls Tryz.prog 114 #[.pointer (some ⟨x, 0, none⟩), .int .i64 n] w fun e w' => e = .returned (.tuple #[.agg (hdC hd00), .int .i64 151]) ∧ Below w.heap.size w w' := by
  have hz := zero_ft
  have hz2 := zero_hd
  have HWR := wrong_ok x n h1 h2
  have HPL : Hid (∀ V : World, Calls Tryz.prog 156 #[.int .i64 n] V fun e w' => e = .returned (.tuple #[.int .i64 ((n - 1) / 4), .int .i64 ((n - 1) % 4), .int .i64 0]) ∧ w' = V) := fun V => by
    have := place_any n ⟨by omega, by omega⟩ V
    rw [if_pos ⟨h1, h2⟩] at this
    exact this
  obtain ⟨pn, hpn, hp4⟩ : ∃ pn : Nat, (n - 1) % 4 = (pn : Int) ∧ pn < 4 := ⟨((n - 1) % 4).toNat, by omega, by omega⟩
  rw [hpn] at HPL hq
  have hpt : ((pn : Int)).toNat = pn := rfl
  rw [hpt] at hq
  have HWW : Hid (∀ w : World, Calls Tryz.prog 160 #[.pointer (some ⟨x, 0, none⟩), .int .i64 n] w fun e w' => e = .returned (.int .i64 0) ∧ w' = w) := HWR
  have HFF : Hid (∀ V, Below w.heap.size w V → Calls Tryz.prog 153 #[.pointer (some ⟨x, 0, none⟩), .int .i64 ((n - 1) / 4)] V fun e w' => e = .returned (.tuple #[.agg (ftC q), .int .i64 0]) ∧ Below V.heap.size V w') := HF
  have hb1 : Below w.heap.size w (w.alloc (.cells (hdC hd00) 222)) := below_new1 _ _
  have r1 : Blk (w.alloc (.cells (hdC hd00) 222)) w.heap.size 222 (hdC hd00) := Blk.new _ _ _
  have HIU : Hid (∀ w : World, Calls Tryz.prog 154 #[.agg (hdC (q pn))] w fun e w' => e = .returned (.bool false) ∧ Below w.heap.size w w') := fun w => by
    have := inUse_any (q pn) w
    rw [show ((q pn).k != 0) = false by simp [hq]] at this
    exact this
  have p0 : (0 : Int) ≤ (pn : Int) := by omega
  have p1 : (pn : Int) < 4 := by omega
  clear HF HWR hq hpn hpt h1 h2
  go_enter Tryz.func114, Tryz.ntmps114
  go_wp2_with fail
  have HF1 := HFF.out _ hb1
  generalize (w.alloc (.cells (hdC hd00) 222)) = w1 at *
  refine (HWW.out w1).mono ?_
  rintro e _ ⟨rfl, rfl⟩
  go_wp2_with fail
  refine (HPL.out _).mono ?_
  rintro e _ ⟨rfl, rfl⟩
  go_wp2_with fail
  refine HF1.mono ?_
  rintro e w2 ⟨rfl, hb2⟩
  have hb12 := hb1.trans (hb2.mono hb1.size)
  have r2 := r1.below hb2 r1.lt
  clear HF1 HFF hb2 hb1 r1 HWW HPL
  have f3 : Blk (w2.alloc (.cells (ftC ft00) 270)) w2.heap.size 270 (ftC ft00) := Blk.new _ _ _
  have f3' := f3.set (ftC q)
  have hb23 : Below w2.heap.size w2 ((w2.alloc (.cells (ftC ft00) 270)).setRow w2.heap.size (ftC q)) := below_setRow (below_new1 _ _) (Nat.le_refl _) _
  have r3 := r2.below hb23 r2.lt
  have HB3 : Hid (Below w.heap.size w ((w2.alloc (.cells (ftC ft00) 270)).setRow w2.heap.size (ftC q))) := hb12.trans (hb23.mono hb12.size)
  have HR3 : Hid (((w2.alloc (.cells (ftC ft00) 270)).setRow w2.heap.size (ftC q)).rangeAt w2.heap.size (pn * 45) ((List.range 45).map (hdF (q pn)))) := ft_range f3' pn hp4
  clear hb12 hb23 r2
  go_wp2_with (first
    | (refine wpList_store_row (by rfl) 270 _ _ (by rfl) (w2.heap.size) (ftC q) (by rfl) (by rfl) 270 (ftC ft00) (by exact f3) (sizeFt.trans (by rw [ftC_size])) (by simp only [ftC_size]) (ftC_all _) ?_; simp only [Act.put, sgPHDiDirE])
    | (refine wpList_load_blk (by rfl) 222 _ (by rfl) (w2.heap.size) (pn * 45) 45 (hdF (q pn)) (by rfl) _ (by exact HR3.out) Tryz.underlying222 rfl sizeHd ?_; simp only [Act.put, sgPHDiDirE])
    | fail)
  clear f3
  generalize ((w2.alloc (.cells (ftC ft00) 270)).setRow w2.heap.size (ftC q)) = w3 at *
  refine (HIU.out w3).mono ?_
  rintro e w4 ⟨rfl, hb4⟩
  have f4 := f3'.below hb4 f3'.lt
  have r4 := r3.below hb4 r3.lt
  have HR4 : Hid (w4.rangeAt w2.heap.size (pn * 45) ((List.range 45).map (hdF (q pn)))) := ft_range f4 pn hp4
  have HB4 : Hid (Below w.heap.size w w4) := HB3.out.trans (hb4.mono HB3.out.size)
  clear hb4 HB3 HR3 r3 f3' f4
  go_wp2_with (first
    | (refine wpList_buildTo (by rfl) 222 #[] (by rfl) _ rfl (hdC hd00) (by exact built_hd0) ?_; simp only [Act.put, sgPHDiDirE])
    | (refine wpList_store_row (by rfl) 222 _ _ (by rfl) (w.heap.size) (hdC hd00) (by rfl) (by rfl) 222 (hdC hd00) (by exact r4) (sizeHd.trans (by rw [hdC_size])) (by simp only [hdC_size]) (hdC_all _) ?_; simp only [Act.put, sgPHDiDirE])
    | fail)
  try simp only [Exit.inBlock, Exit.then]
  refine bodyPost_ret (results_row2 Tryz.results114 _ _ (w.heap.size) 222 (hdC hd00) (0, 0) _ rfl (r4.set _) Tryz.underlying222 rfl (sizeHd.trans (by rw [hdC_size]))) rfl ?_
  exact ⟨rfl, below_setRow HB4.out (Nat.le_refl _) _⟩
end
section
variable {w w' : World} {x mf ml mc : Nat} {cp : Option Addr} {top : Int} {H : Nat → Hd} {D : Nat → Nat → Nat → Nat}
theorem IM.usedNone (h : IM w x mf ml mc cp top H D) (n : Nat) (h1 : 1 ≤ n) (h2 : n ≤ 4096) (hk : (H n).k = 0) : Calls Tryz.prog 114 #[.pointer (some ⟨x, 0, none⟩), .int .i64 (n : Int)] w fun e w' => e = .returned (.tuple #[.agg (hdC hd00), .int .i64 151]) ∧ Below w.heap.size w w' := by
  refine used_none (x := x) (n : Int) (by omega) (by omega) (foH H ((n - 1) / 4)) (by rw [foH_at n h1]; exact hk) w fun V hV => ?_
  have := (h.below hV).four ((n - 1) / 4) (by omega)
  rw [show (((n - 1) / 4 : Nat) : Int) = ((n : Int) - 1) / 4 by omega] at this
  exact this
/-- what is told of a number that is no inode's, or of none in use -/
def noE (H : Nat → Hd) (n : Int) : Int := if 1 ≤ n ∧ n ≤ 4096 then (if (H n.toNat).k = 0 then 151 else 0) else 141
theorem IM.usedNot (h : IM w x mf ml mc cp top H D) (n : Int) (hn : -9223372036854775808 ≤ n ∧ n ≤ 9223372036854775807) (he : noE H n ≠ 0) : Calls Tryz.prog 114 #[.pointer (some ⟨x, 0, none⟩), .int .i64 n] w fun e w' => e = .returned (.tuple #[.agg (hdC hd00), .int .i64 (noE H n)]) ∧ Below w.heap.size w w' := by
  unfold noE at he ⊢
  by_cases hr : 1 ≤ n ∧ n ≤ 4096
  · rw [if_pos hr] at he ⊢
    by_cases hk : (H n.toNat).k = 0
    · rw [if_pos hk]
      have := h.usedNone n.toNat (by omega) (by omega) hk
      rw [show ((n.toNat : Nat) : Int) = n by omega] at this
      exact this
    · rw [if_neg hk] at he
      exact absurd rfl he
  · rw [if_neg hr]
    exact used_wrong x n hn hr w
theorem IM.getNot (h : IM w x mf ml mc cp top H D) (n : Int) (hn : -9223372036854775808 ≤ n ∧ n ≤ 9223372036854775807) (he : noE H n ≠ 0) : Calls Tryz.prog 56 #[.pointer (some ⟨x, 0, none⟩), .int .i64 n] w fun e w' => e = .returned (.tuple #[.agg #[.int .i64 0, .int .i64 0, .int .i64 0, .int .i64 0, .int .u64 0], .int .i64 (noE H n)]) ∧ Below w.heap.size w w' := get_any n (noE H n) hd00 w fun V hV => (h.below hV).usedNot n hn he
end
end Go.Proofs.YtojnlmfahgeidaaGreatDoor

namespace Go.Proofs.YtojnlmfahgeidaaGreatDoor
open Go Go.RowKit
set_option linter.unusedSimpArgs false
set_option linter.unusedVariables false
/-- two directories, a file, nothing else -/
structure Ino3 (H : Nat → Hd) : Prop where
  f3 : (H 3).k = 1
  up : ∀ m, 3 < m → m ≤ 4096 → (H m).k = 0
section
variable {w : World} {x mf ml mc : Nat} {cp : Option Addr} {top : Int} {H : Nat → Hd} {D : Nat → Nat → Nat → Nat}
theorem IM.dirRef (h : IM w x mf ml mc cp top H D) (h3 : Ino3 H) (a : Int) (hn : -9223372036854775808 ≤ a ∧ a ≤ 9223372036854775807) (ha : refD a ≠ 0) : Calls Tryz.prog 57 #[.pointer (some ⟨x, 0, none⟩), .int .i64 a] w fun e w' => e = .returned (.tuple #[.agg nf0, .int .i64 (refD a)]) ∧ Below w.heap.size w w' := by
  by_cases h0 : a < 1 ∨ 4096 < a
  · have e1 : refD a = 141 := by unfold refD; rw [if_pos h0]
    have e2 : noE H a = 141 := by unfold noE; rw [if_neg (by omega)]
    rw [e1]
    refine directory_err 0 0 0 0 141 0 (.inl (by decide)) 141 rfl fun V hV => ?_
    have := (h.below hV).getNot a hn (by rw [e2]; decide)
    rw [e2] at this
    exact this
  · by_cases ha3 : a = 3
    · subst ha3
      have e1 : refD 3 = 170 := by decide
      rw [e1]
      refine directory_err (H 3).n 1 (H 3).l (H 3).s 0 (H 3).t (.inr (by decide)) 170 rfl fun V hV => ?_
      have := (h.below hV).get 3 (by decide) (by decide) (by rw [h3.f3]; decide)
      rw [h3.f3] at this
      exact this
    · have hlt : 3 < a := by
        apply Classical.byContradiction
        intro hc
        exact ha (by unfold refD; rw [if_neg h0, if_neg ha3, if_neg hc])
      have e1 : refD a = 151 := by unfold refD; rw [if_neg h0, if_neg ha3, if_pos hlt]
      have e2 : noE H a = 151 := by
        unfold noE
        rw [if_pos (by omega), if_pos (h3.up a.toNat (by omega) (by omega))]
      rw [e1]
      refine directory_err 0 0 0 0 151 0 (.inl (by decide)) 151 rfl fun V hV => ?_
      have := (h.below hV).getNot a hn (by rw [e2]; decide)
      rw [e2] at this
      exact this
theorem IM.addRef (h : IM w x mf ml mc cp top H D) (h3 : Ino3 H) (a : Int) (hn : -9223372036854775808 ≤ a ∧ a ≤ 9223372036854775807) (ha : refD a ≠ 0) (i t : Int) (s : ByteArray) : Calls Tryz.prog 50 #[.pointer (some ⟨x, 0, none⟩), .int .i64 a, .agg #[.int .i64 i, .string s], .int .u64 t] w fun e w' => e = .returned (.int .i64 (refD a)) ∧ Below w.heap.size w w' :=
  add_err i t s (refD a) ha fun V hV => (h.below hV).dirRef h3 a hn ha
theorem IM.removeRef (h : IM w x mf ml mc cp top H D) (h3 : Ino3 H) (a : Int) (hn : -9223372036854775808 ≤ a ∧ a ≤ 9223372036854775807) (ha : refD a ≠ 0) (t : Int) (s : ByteArray) : Calls Tryz.prog 52 #[.pointer (some ⟨x, 0, none⟩), .int .i64 a, .string s, .int .u64 t] w fun e w' => e = .returned (.tuple #[.int .i64 0, .int .i64 (refD a)]) ∧ Below w.heap.size w w' :=
  remove_err s t (refD a) ha fun V hV => (h.below hV).dirRef h3 a hn ha
theorem IM.swapRef (h : IM w x mf ml mc cp top H D) (h3 : Ino3 H) (a : Int) (hn : -9223372036854775808 ≤ a ∧ a ≤ 9223372036854775807) (ha : refD a ≠ 0) (i t : Int) (s : ByteArray) : Calls Tryz.prog 54 #[.pointer (some ⟨x, 0, none⟩), .int .i64 a, .agg #[.int .i64 i, .string s], .int .u64 t] w fun e w' => e = .returned (.tuple #[.int .i64 0, .int .i64 (refD a)]) ∧ Below w.heap.size w w' :=
  swap_err i t s (refD a) ha fun V hV => (h.below hV).dirRef h3 a hn ha
end
/-- a number that is not refused is a directory -/
theorem refD_zero {a : Int} (h : refD a = 0) : a = 1 ∨ a = 2 := by
  unfold refD at h
  repeat' split at h
  all_goals first | omega | (exfalso; omega)
end Go.Proofs.YtojnlmfahgeidaaGreatDoor
