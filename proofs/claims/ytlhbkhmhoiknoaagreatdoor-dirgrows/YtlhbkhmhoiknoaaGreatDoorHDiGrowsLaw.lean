/- DirGrows: many entries added, and taken away again. -/
import Derived.Test.YtlhbkhmhoiknoaaGreatDoorHLogOf
import Derived.Handy
import Derived.LoopTactic
import Derived.Test.YtlhbkhmhoiknoaaGreatDoorHDiLay
import Derived.Lib.Walk
import Derived.Test.YtlhbkhmhoiknoaaGreatDoorHDiGrowM
import Derived.Test.YtlhbkhmhoiknoaaGreatDoorHCaLru
import Derived.Test.YtlhbkhmhoiknoaaGreatDoorHInsStart
import Derived.Test.YtlhbkhmhoiknoaaGreatDoorHCaKit

namespace Go.Proofs.YtlhbkhmhoiknoaaGreatDoor
open Go Go.RowKit
set_option linter.unusedSimpArgs false
set_option linter.unusedVariables false
section
variable {w w' : World} {x mf ml mc : Nat} {cp : Option Addr} {top : Int} {H : Nat → Hd} {D : Nat → Nat → Nat → Nat}
set_option maxRecDepth 100000 in
set_option maxHeartbeats 8000000 in
theorem IM.free (h : IM w x mf ml mc cp top H D) (n : Nat) (h1 : 1 ≤ n) (h2 : n ≤ 4096) (hk : (H n).k = 0) (hm : ∀ m, 1 ≤ m → m < n → (H m).k ≠ 0) : Calls Tryz.prog 38 #[.pointer (some ⟨x, 0, none⟩)] w fun e w' => e = .returned (.tuple #[.int .i64 (n : Int), .agg (hdC (H n)), .int .i64 0]) ∧ Below w.heap.size w w' := by
  have hz := zero_ft
  have hz2 := zero_hd
  have HFF : Hid (∀ i : Nat, i < 1024 → ∀ V, Below w.heap.size w V → Calls Tryz.prog 61 #[.pointer (some ⟨x, 0, none⟩), .int .i64 (i : Int)] V fun e w' => e = .returned (.tuple #[.agg (ftC (foH H i)), .int .i64 0]) ∧ Below V.heap.size V w') := fun i hi V hV => (h.below hV).four i hi
  have HLT : Hid (∀ w : World, Calls Tryz.prog 60 #[.int .i64 4096] w fun e w2 => e = .returned (.int .i64 1024) ∧ w2 = w) := leavesTo_any 4096 (by decide) (by decide)
  have HNU : Hid (∀ i j : Nat, i < 1024 → j < 4 → ∀ w : World, Calls Tryz.prog 63 #[.int .i64 (i : Int), .int .i64 (j : Int)] w fun e w2 => e = .returned (.int .i64 ((i : Int) * 4 + (j : Int) + 1)) ∧ w2 = w) := fun i j h1 h2 => numberAt_any (i : Int) (j : Int) (by omega) (by omega) (by omega) (by omega)
  have HN : Hid (1 ≤ n ∧ n ≤ 4096 ∧ (H n).k = 0 ∧ ∀ m, 1 ≤ m → m < n → (H m).k ≠ 0) := ⟨h1, h2, hk, hm⟩
  have HB1 : Hid (Blk (w.alloc (.cells (hdC hd00) 118)) w.heap.size 118 (hdC hd00) ∧ Below w.heap.size w (w.alloc (.cells (hdC hd00) 118))) := ⟨Blk.new _ _ _, below_new1 _ _⟩
  clear h h1 h2 hk hm
  go_enter Tryz.func38, Tryz.ntmps38
  go_wp2_with fail
  generalize (w.alloc (.cells (hdC hd00) 118)) = w1 at *
  refine (HLT.out _).mono ?_
  rintro e w9 ⟨rfl, hw9⟩
  subst w9
  clear HLT
  go_wp2_with fail
  go_loopw [11] (fun t wr => Hid (∃ i : Nat, 4 * i < n ∧ t = .int .i64 (i : Int) ∧ Blk wr w.heap.size 118 (hdC hd00) ∧ Below w.heap.size w wr)) (fun t _ => 1024 - (intOf t).toNat)
  case atStart => exact ⟨0, by have := HN.out.1; omega, rfl, HB1.out.1, HB1.out.2⟩
  case round =>
    obtain ⟨i, hi, rfl, r1, hb1⟩ := Hid.out hrel
    clear hrel HB1
    have i1 : (i : Int) < 1024 := by have := HN.out.2.1; omega
    have HF1 := HFF.out i (by omega) _ hb1
    have HI : Hid (4 * i < n ∧ i < 1024) := ⟨hi, by omega⟩
    have HR : Hid (Blk wr w.heap.size 118 (hdC hd00) ∧ Below w.heap.size w wr) := ⟨r1, hb1⟩
    clear hi r1 hb1
    go_wp2_with fail
    refine HF1.mono ?_
    rintro e w2 ⟨rfl, hb2⟩
    have f3 : Blk (w2.alloc (.cells (ftC ft00) 150)) w2.heap.size 150 (ftC ft00) := Blk.new _ _ _
    have f3' := f3.set (ftC (foH H i))
    have HR3 : Hid (Blk ((w2.alloc (.cells (ftC ft00) 150)).setRow w2.heap.size (ftC (foH H i))) w.heap.size 118 (hdC hd00) ∧ Below w.heap.size w ((w2.alloc (.cells (ftC ft00) 150)).setRow w2.heap.size (ftC (foH H i)))) := by
      have hb23 : Below w2.heap.size w2 ((w2.alloc (.cells (ftC ft00) 150)).setRow w2.heap.size (ftC (foH H i))) := below_setRow (below_new1 _ _) (Nat.le_refl _) _
      have r2 := HR.out.1.below hb2 HR.out.1.lt
      have hb12 := HR.out.2.trans (hb2.mono HR.out.2.size)
      exact ⟨r2.below hb23 r2.lt, hb12.trans (hb23.mono hb12.size)⟩
    clear hb2 HR HF1
    go_wp2_with (first
      | (refine wpList_store_row (by rfl) 150 _ _ (by rfl) (w2.heap.size) (ftC (foH H i)) (by rfl) (by rfl) 150 (ftC ft00) (by exact f3) (sizeFt.trans (by rw [ftC_size])) (by simp only [ftC_size]) (ftC_all _) ?_; simp only [Act.put, List.setIfInBounds_toArray, List.set_cons_zero, List.set_cons_succ])
      | (refine wpList_load_rowg (by rfl) 150 _ (by rfl) (w2.heap.size) (by rfl) 150 (ftC (foH H i)) (0, 0) _ (by exact f3') Tryz.underlying150 (by rfl) (sizeFt.trans (by rw [ftC_size])) ?_; simp only [Act.put, List.setIfInBounds_toArray, List.set_cons_zero, List.set_cons_succ])
      | fail)
    clear f3 f3'
    generalize ((w2.alloc (.cells (ftC ft00) 150)).setRow w2.heap.size (ftC (foH H i))) = w3 at *
    go_loopw [25] (fun t wr => Hid (∃ j : Nat, j ≤ 4 ∧ 4 * i + j < n ∧ t = .int .i64 (j : Int) ∧ Blk wr w.heap.size 118 (hdC hd00) ∧ Below w.heap.size w wr)) (fun t _ => 4 - (intOf t).toNat)
    case atStart => exact ⟨0, by omega, HI.out.1, rfl, HR3.out.1, HR3.out.2⟩
    case round =>
      obtain ⟨j, hj, hjn, rfl, r1, hb1⟩ := Hid.out hrel
      clear hrel HR3
      by_cases hj4 : j < 4
      · have j1 : (j : Int) < 4 := by omega
        have hix : ∀ w, (Instr.index 150 (.agg (ftC (foH H i))) (.int .i64 (j : Int))).run Tryz.prog w = .ok (.agg (hdC (foH H i j))) w := fun w => run_index_ft (foH H i) j hj4 w
        have HJ : Hid (j < 4 ∧ 4 * i + j < n) := ⟨hj4, hjn⟩
        have q4 : Blk (wr.alloc (.cells (hdC hd00) 118)) wr.heap.size 118 (hdC hd00) := Blk.new _ _ _
        have q4' := q4.set (hdC (foH H i j))
        have HR4 : Hid (Blk ((wr.alloc (.cells (hdC hd00) 118)).setRow wr.heap.size (hdC (foH H i j))) w.heap.size 118 (hdC hd00) ∧ Below w.heap.size w ((wr.alloc (.cells (hdC hd00) 118)).setRow wr.heap.size (hdC (foH H i j))) ∧ w.heap.size < wr.heap.size) := by
          have hb34 : Below wr.heap.size wr ((wr.alloc (.cells (hdC hd00) 118)).setRow wr.heap.size (hdC (foH H i j))) := below_setRow (below_new1 _ _) (Nat.le_refl _) _
          exact ⟨r1.below hb34 r1.lt, hb1.trans (hb34.mono hb1.size), r1.lt⟩
        have HIU : Hid (∀ w : World, Calls Tryz.prog 62 #[.agg (hdC (foH H i j))] w fun e w' => e = .returned (.bool ((foH H i j).k != 0)) ∧ Below w.heap.size w w') := inUse_any (foH H i j)
        clear r1 hb1 hj hjn hj4
        go_wp2_with (first
          | (refine wpList_store_row (by rfl) 118 _ _ (by rfl) (wr.heap.size) (hdC (foH H i j)) (by rfl) (by rfl) 118 (hdC hd00) (by exact q4) (sizeHd.trans (by rw [hdC_size])) (by simp only [hdC_size]) (hdC_all _) ?_; simp only [Act.put, List.setIfInBounds_toArray, List.set_cons_zero, List.set_cons_succ])
          | (refine wpList_load_rowg (by rfl) 118 _ (by rfl) (wr.heap.size) (by rfl) 118 (hdC (foH H i j)) (0, 0) _ (by exact q4') Tryz.underlying118 (by rfl) (sizeHd.trans (by rw [hdC_size])) ?_; simp only [Act.put, List.setIfInBounds_toArray, List.set_cons_zero, List.set_cons_succ])
          | fail)
        clear q4 hix
        generalize ((wr.alloc (.cells (hdC hd00) 118)).setRow wr.heap.size (hdC (foH H i j))) = w4 at *
        refine (HIU.out w4).mono ?_
        rintro e w5 ⟨rfl, hb5⟩
        have q5 := q4'.below hb5 q4'.lt
        have HR5 : Hid (Blk w5 w.heap.size 118 (hdC hd00) ∧ Below w.heap.size w w5 ∧ w.heap.size < wr.heap.size) := ⟨HR4.out.1.below hb5 HR4.out.1.lt, HR4.out.2.1.trans (hb5.mono HR4.out.2.1.size), HR4.out.2.2⟩
        clear hb5 HR4 HIU q4'
        by_cases hk : (foH H i j).k = 0
        · have hkb : ((foH H i j).k != 0) = false := by rw [hk]; rfl
          have HNJ : Hid ((n : Int) = (i : Int) * 4 + (j : Int) + 1 ∧ foH H i j = H n) := by
            have e1 : n = 4 * i + j + 1 := by
              have := HN.out.2.2.2 (4 * i + j + 1) (by omega)
              have := HJ.out.2
              by_cases e : 4 * i + j + 1 < n
              · exact absurd hk (HN.out.2.2.2 (4 * i + j + 1) (by omega) e)
              · omega
            exact ⟨by omega, by rw [e1]; rfl⟩
          rw [hkb]
          clear hk hkb
          go_wp2_with fail
          have q5d : Blk w5.drew wr.heap.size 118 (hdC (foH H i j)) := q5
          have r5d : Blk w5.drew w.heap.size 118 (hdC hd00) := HR5.out.1
          have HB5d : Hid (Below w.heap.size w w5.drew ∧ w.heap.size < wr.heap.size) := ⟨HR5.out.2.1.drew, HR5.out.2.2⟩
          have HNU1 := HNU.out i j HI.out.2 HJ.out.1
          clear q5 HR5 HFF HNU
          refine wp_region_partsS (fun W => Blk W wr.heap.size 118 (hdC (foH H i j))) [([0, 1], 3, true), ([], 2, false), ([], 4, false), ([], 5, false)] [6] [] (by kernel_rfl) (by kernel_rfl) q5d (partsI_yield ?_)
          generalize w5.drew = w6 at *
          simp only [List.cons_append, List.nil_append, List.append_nil, List.filterMap_cons, List.filterMap_nil, List.getElem?_toArray, List.getElem?_cons_zero, List.getElem?_cons_succ]
          go_wp2_with fail
          refine ⟨rfl, _, .agg (hdC (foH H i j)), rfl, kyields_load (by rfl) 118 _ (by rfl) wr.heap.size 45 (hdF (foH H i j)) (by rfl) _ 118 (fun W hW => hW) Tryz.underlying118 rfl sizeHd, partsI_force ?_⟩
          simp only [Act.put, List.setIfInBounds_toArray, List.set_cons_zero, List.set_cons_succ]
          simp only [List.cons_append, List.nil_append, List.append_nil, List.filterMap_cons, List.filterMap_nil, List.getElem?_toArray, List.getElem?_cons_zero, List.getElem?_cons_succ]
          go_wp2_with fail
          refine (HNU1 _).mono ?_
          rintro e w9 ⟨rfl, hw9⟩
          subst w9
          go_wp2_with fail
          refine ⟨rfl, q5d, partsI_force ?_⟩
          simp only [List.cons_append, List.nil_append, List.append_nil, List.filterMap_cons, List.filterMap_nil, List.getElem?_toArray, List.getElem?_cons_zero, List.getElem?_cons_succ]
          go_wp2_with fail
          refine ⟨rfl, q5d, partsI_force ?_⟩
          simp only [List.cons_append, List.nil_append, List.append_nil, List.filterMap_cons, List.filterMap_nil, List.getElem?_toArray, List.getElem?_cons_zero, List.getElem?_cons_succ]
          (refine wpList_store_row (by rfl) 118 _ _ (by rfl) (w.heap.size) (hdC (foH H i j)) (by rfl) (by rfl) 118 (hdC hd00) (by exact r5d) (sizeHd.trans (by rw [hdC_size])) (by simp only [hdC_size]) (hdC_all _) ?_; simp only [Act.put, List.setIfInBounds_toArray, List.set_cons_zero, List.set_cons_succ])
          go_wp2_with fail
          refine ⟨rfl, (q5d.other _ (by have := HB5d.out.2; omega)), partsI_last ?_⟩
          simp only [List.cons_append, List.nil_append, List.append_nil, List.filterMap_cons, List.filterMap_nil, List.getElem?_toArray, List.getElem?_cons_zero, List.getElem?_cons_succ]
          go_wp2_with fail
          refine ⟨rfl, ?_⟩
          go_wp2_with fail
          try simp only [Exit.inBlock, Exit.then]
          refine bodyPost_ret (res_tct Tryz.results38 _ _ (w.heap.size) 118 (hdC (foH H i j)) (0, 0) _ rfl (r5d.set _) Tryz.underlying118 rfl (sizeHd.trans (by rw [hdC_size]))) rfl ?_
          exact ⟨by rw [HNJ.out.1, ← HNJ.out.2]; rfl, below_setRow HB5d.out.1 (Nat.le_refl _) _⟩
        · have hkb : ((foH H i j).k != 0) = true := by simp [hk]
          have HNX : Hid (4 * i + (j + 1) < n) := by
            have := HJ.out.2
            by_cases e : n = 4 * i + j + 1
            · exact absurd (by rw [show foH H i j = H n by rw [e]; rfl]; exact HN.out.2.2.1) hk
            · show 4 * i + (j + 1) < n
              omega
          rw [hkb]
          clear hk hkb q5
          go_wp2_with fail
          go_roundw
          case rel => exact ⟨j + 1, by have := HJ.out.1; omega, HNX.out, by first | rfl | go_num | simp, HR5.out.1, HR5.out.2.1⟩
          case measure => simp [intOf]; have := HJ.out; omega
      · obtain rfl : j = 4 := by omega
        have HR6 : Hid (Blk wr w.heap.size 118 (hdC hd00) ∧ Below w.heap.size w wr ∧ 4 * (i + 1) < n) := ⟨r1, hb1, by omega⟩
        clear r1 hb1 hj hjn hj4
        go_wp2_with fail
        go_roundw
        case rel => exact ⟨i + 1, HR6.out.2.2, by first | rfl | go_num | simp, HR6.out.1, HR6.out.2.1⟩
        case measure => simp [intOf]; have := HI.out; omega
end
end Go.Proofs.YtlhbkhmhoiknoaaGreatDoor

namespace Go.Proofs.YtlhbkhmhoiknoaaGreatDoor
open Go Go.RowKit
set_option linter.unusedSimpArgs false
set_option linter.unusedVariables false
theorem Turns.cells {S : Nat → Prop} (b : Nat) (hS : S b) (vs : List Value) (k : Nat) (w w' : World) (h : Turns S w w') : Turns S w (w'.setCells b k vs) := by
  induction vs generalizing k w' with
  | nil => exact h
  | cons v vs ih => exact ih (k + 1) _ (h.tr (Turns.cell w' b k v hS))
section
variable {w w' : World} {x mf ml mc : Nat} {cp : Option Addr} {top : Int} {H : Nat → Hd} {D : Nat → Nat → Nat → Nat}
end
end Go.Proofs.YtlhbkhmhoiknoaaGreatDoor

namespace Go.Proofs.YtlhbkhmhoiknoaaGreatDoor
open Go Go.RowKit
set_option linter.unusedSimpArgs false
set_option linter.unusedVariables false
theorem Turns.kept {V w' : World} {mf x : Nat} (h : Keeps mf V w') : Turns (fun z => z = x ∨ z = mf) V w' := ⟨h.1.os, h.1.tape, h.1.output, h.1.size, fun k hk hn => h.2 k (fun e => hn (.inr e)) hk⟩
section
variable {w w' : World} {x mf ml mc : Nat} {cp : Option Addr} {top : Int} {H : Nat → Hd} {D : Nat → Nat → Nat → Nat}
theorem IM.setTop (h : IM w x mf ml mc cp top H D) (t : Int) : IM (w.setCell ⟨x, 36, none⟩ (.int .i64 t)) x mf ml mc cp t H D := by
  obtain ⟨M, m1, m2⟩ := h.fm
  obtain ⟨M', l1, l2⟩ := h.lm
  obtain ⟨c, hc⟩ := h.cm
  have hx : Blk (w.setCell ⟨x, 36, none⟩ (.int .i64 t)) x 114 (ixC cp 0 rf0 0 t mf ml mc) := by
    have := h.ix.put 36 (.int .i64 t)
    rw [ix_top] at this
    exact this
  exact ⟨hx, ⟨M, m1.keep (Below.heap_setCell _ _ _ _ (Ne.symm h.ne.1)), m2⟩, ⟨M', l1.keep (Below.heap_setCell _ _ _ _ (Ne.symm h.ne.2.1)), l2⟩, ⟨c, (Below.heap_setCell _ _ _ _ (Ne.symm h.ne.2.2.1)).trans hc⟩, h.ne⟩
set_option maxRecDepth 100000 in
set_option maxHeartbeats 8000000 in
theorem IM.make (h : IM w x mf ml mc cp top H D) (n : Nat) (h1 : 1 ≤ n) (h2 : n ≤ 4096) (hk : (H n).k = 0) (hm : ∀ m, 1 ≤ m → m < n → (H m).k ≠ 0) (kd : Int) (hkd : kd = 1 ∨ kd = 2) (st : Nat) (ht0 : 0 ≤ top ∧ top ≤ 4096) : Calls Tryz.prog 19 #[.pointer (some ⟨x, 0, none⟩), .int .i64 kd, .int .u64 ((st : Nat) : Int)] w fun e w' => e = .returned (.tuple #[.int .i64 (n : Int), .int .i64 0]) ∧ IM w' x mf ml mc cp (max top (n : Int)) (hU H n (hdN (H n) (n : Int) kd 1 0 st)) D ∧ Turns (fun z => z = x ∨ z = mf) w w' := by
  have hz2 := zero_hd
  have HFR : Hid (Calls Tryz.prog 38 #[.pointer (some ⟨x, 0, none⟩)] w fun e w' => e = .returned (.tuple #[.int .i64 (n : Int), .agg (hdC (H n)), .int .i64 0]) ∧ Below w.heap.size w w') := h.free n h1 h2 hk hm
  have HI : Hid (IM w x mf ml mc cp top H D) := h
  have HN : Hid (1 ≤ n ∧ n ≤ 4096) := ⟨h1, h2⟩
  obtain ⟨T, hT⟩ : ∃ T, max top (n : Int) = T := ⟨_, rfl⟩
  rw [hT]
  have HT : Hid (max top (n : Int) = T) := hT
  clear h h1 h2 hk hm hT
  go_enter Tryz.func19, Tryz.ntmps19
  rcases hkd with rfl | rfl
  · skip
    have HPU : Hid (∀ V, IM V x mf ml mc cp top H D → Calls Tryz.prog 39 #[.pointer (some ⟨x, 0, none⟩), .int .i64 (n : Int), .agg (hdC (hdN (H n) (n : Int) 1 1 0 st))] V fun e w' => e = .returned (.tuple #[]) ∧ IM w' x mf ml mc cp top (hU H n (hdN (H n) (n : Int) 1 1 0 st)) D ∧ Keeps mf V w') := fun V hV => hV.put n HN.out.1 HN.out.2 _
    go_wp2_with fail
    refine HFR.out.mono ?_
    rintro e w2 ⟨rfl, hb2⟩
    have HX2 : Hid (IM w2 x mf ml mc cp top H D ∧ Below w.heap.size w w2) := ⟨HI.out.below hb2, hb2⟩
    have q3 : Blk (w2.alloc (.cells (hdC hd00) 118)) w2.heap.size 118 (hdC hd00) := Blk.new _ _ _
    have q3' := q3.set (hdC (H n))
    have HB3 : Hid (Below w2.heap.size w2 ((w2.alloc (.cells (hdC hd00) 118)).setRow w2.heap.size (hdC (H n)))) := below_setRow (below_new1 _ _) (Nat.le_refl _) _
    clear hb2 HFR
    go_upto_region 6 with (first
      | (refine wpList_store_row (by rfl) 118 _ _ (by rfl) (w2.heap.size) (hdC (H n)) (by rfl) (by rfl) 118 (hdC hd00) (by exact q3) (sizeHd.trans (by rw [hdC_size])) (by simp only [hdC_size]) (hdC_all _) ?_; simp only [Act.put, List.setIfInBounds_toArray, List.set_cons_zero, List.set_cons_succ])
      | fail)
    clear q3
    generalize ((w2.alloc (.cells (hdC hd00) 118)).setRow w2.heap.size (hdC (H n))) = w3 at *
    have c38 := hd_c38 q3'
    have f38 : w3.frozen? ⟨w2.heap.size, 38, none⟩ = false := q3'.frozen 38
    have c39 := hd_c39 q3'
    have f39 : w3.frozen? ⟨w2.heap.size, 39, none⟩ = false := q3'.frozen 39
    have c40 := hd_c40 q3'
    have f40 : w3.frozen? ⟨w2.heap.size, 40, none⟩ = false := q3'.frozen 40
    have c41 := hd_c41 q3'
    have f41 : w3.frozen? ⟨w2.heap.size, 41, none⟩ = false := q3'.frozen 41
    have c42 := hd_c42 q3'
    have f42 : w3.frozen? ⟨w2.heap.size, 42, none⟩ = false := q3'.frozen 42
    have q4 : Hid (Blk (((((w3.setCell ⟨w2.heap.size, 38, none⟩ (.int .i64 (n : Int))).setCell ⟨w2.heap.size, 39, none⟩ (.int .i64 1)).setCell ⟨w2.heap.size, 40, none⟩ (.int .i64 1)).setCell ⟨w2.heap.size, 41, none⟩ (.int .i64 0)).setCell ⟨w2.heap.size, 42, none⟩ (.int .u64 ((st : Nat) : Int))) w2.heap.size 118 (hdC (hdN (H n) (n : Int) 1 1 0 st))) := hd_putNow q3' (n : Int) 1 1 0 st
    have HX4 : Hid (IM (((((w3.setCell ⟨w2.heap.size, 38, none⟩ (.int .i64 (n : Int))).setCell ⟨w2.heap.size, 39, none⟩ (.int .i64 1)).setCell ⟨w2.heap.size, 40, none⟩ (.int .i64 1)).setCell ⟨w2.heap.size, 41, none⟩ (.int .i64 0)).setCell ⟨w2.heap.size, 42, none⟩ (.int .u64 ((st : Nat) : Int))) x mf ml mc cp top H D ∧ Below w.heap.size w (((((w3.setCell ⟨w2.heap.size, 38, none⟩ (.int .i64 (n : Int))).setCell ⟨w2.heap.size, 39, none⟩ (.int .i64 1)).setCell ⟨w2.heap.size, 40, none⟩ (.int .i64 1)).setCell ⟨w2.heap.size, 41, none⟩ (.int .i64 0)).setCell ⟨w2.heap.size, 42, none⟩ (.int .u64 ((st : Nat) : Int)))) := by
      have hb4 : Below w2.heap.size w2 (((((w3.setCell ⟨w2.heap.size, 38, none⟩ (.int .i64 (n : Int))).setCell ⟨w2.heap.size, 39, none⟩ (.int .i64 1)).setCell ⟨w2.heap.size, 40, none⟩ (.int .i64 1)).setCell ⟨w2.heap.size, 41, none⟩ (.int .i64 0)).setCell ⟨w2.heap.size, 42, none⟩ (.int .u64 ((st : Nat) : Int))) := below_setCells (Nat.le_refl _) [.int .i64 (n : Int), .int .i64 1, .int .i64 1, .int .i64 0, .int .u64 ((st : Nat) : Int)] 38 _ HB3.out
      exact ⟨HX2.out.1.below hb4, HX2.out.2.trans (hb4.mono HX2.out.2.size)⟩
    clear q3' HX2 HB3
    go_wp2_with (first
      | (refine wpList_load_rowg (by rfl) 118 _ (by rfl) (w2.heap.size) (by rfl) 118 (hdC (hdN (H n) (n : Int) 1 1 0 st)) (0, 0) _ (by exact q4.out) Tryz.underlying118 (by rfl) (sizeHd.trans (by rw [hdC_size])) ?_; simp only [Act.put, List.setIfInBounds_toArray, List.set_cons_zero, List.set_cons_succ])
      | fail)
    refine (HPU.out _ HX4.out.1).mono ?_
    rintro e w5 ⟨rfl, hI5, hk5⟩
    have x5 := hI5.ix
    have d36 := ix_c36 x5
    have e36 : w5.frozen? ⟨x, 36, none⟩ = false := x5.frozen 36
    have HE : Hid (∀ t : Int, IM (w5.setCell ⟨x, 36, none⟩ (.int .i64 t)) x mf ml mc cp t (hU H n (hdN (H n) (n : Int) 1 1 0 st)) D ∧ Turns (fun z => z = x ∨ z = mf) w (w5.setCell ⟨x, 36, none⟩ (.int .i64 t))) := fun t => ⟨hI5.setTop t, ((Turns.bel HX4.out.2).tr (Turns.kept hk5)).tr (Turns.cell w5 x 36 _ (.inl rfl))⟩
    clear hI5 hk5 x5 HX4 q4 HPU c38 c39 c40 c41 c42 f38 f39 f40 f41 f42
    go_wp2_with fail
    go_ret2
    exact ⟨rfl, by rw [← HT.out]; exact (HE.out _).1, (HE.out _).2⟩
  · skip
    have HPU : Hid (∀ V, IM V x mf ml mc cp top H D → Calls Tryz.prog 39 #[.pointer (some ⟨x, 0, none⟩), .int .i64 (n : Int), .agg (hdC (hdN (H n) (n : Int) 2 1 0 st))] V fun e w' => e = .returned (.tuple #[]) ∧ IM w' x mf ml mc cp top (hU H n (hdN (H n) (n : Int) 2 1 0 st)) D ∧ Keeps mf V w') := fun V hV => hV.put n HN.out.1 HN.out.2 _
    go_wp2_with fail
    refine HFR.out.mono ?_
    rintro e w2 ⟨rfl, hb2⟩
    have HX2 : Hid (IM w2 x mf ml mc cp top H D ∧ Below w.heap.size w w2) := ⟨HI.out.below hb2, hb2⟩
    have q3 : Blk (w2.alloc (.cells (hdC hd00) 118)) w2.heap.size 118 (hdC hd00) := Blk.new _ _ _
    have q3' := q3.set (hdC (H n))
    have HB3 : Hid (Below w2.heap.size w2 ((w2.alloc (.cells (hdC hd00) 118)).setRow w2.heap.size (hdC (H n)))) := below_setRow (below_new1 _ _) (Nat.le_refl _) _
    clear hb2 HFR
    go_upto_region 6 with (first
      | (refine wpList_store_row (by rfl) 118 _ _ (by rfl) (w2.heap.size) (hdC (H n)) (by rfl) (by rfl) 118 (hdC hd00) (by exact q3) (sizeHd.trans (by rw [hdC_size])) (by simp only [hdC_size]) (hdC_all _) ?_; simp only [Act.put, List.setIfInBounds_toArray, List.set_cons_zero, List.set_cons_succ])
      | fail)
    clear q3
    generalize ((w2.alloc (.cells (hdC hd00) 118)).setRow w2.heap.size (hdC (H n))) = w3 at *
    have c38 := hd_c38 q3'
    have f38 : w3.frozen? ⟨w2.heap.size, 38, none⟩ = false := q3'.frozen 38
    have c39 := hd_c39 q3'
    have f39 : w3.frozen? ⟨w2.heap.size, 39, none⟩ = false := q3'.frozen 39
    have c40 := hd_c40 q3'
    have f40 : w3.frozen? ⟨w2.heap.size, 40, none⟩ = false := q3'.frozen 40
    have c41 := hd_c41 q3'
    have f41 : w3.frozen? ⟨w2.heap.size, 41, none⟩ = false := q3'.frozen 41
    have c42 := hd_c42 q3'
    have f42 : w3.frozen? ⟨w2.heap.size, 42, none⟩ = false := q3'.frozen 42
    have q4 : Hid (Blk (((((w3.setCell ⟨w2.heap.size, 38, none⟩ (.int .i64 (n : Int))).setCell ⟨w2.heap.size, 39, none⟩ (.int .i64 2)).setCell ⟨w2.heap.size, 40, none⟩ (.int .i64 1)).setCell ⟨w2.heap.size, 41, none⟩ (.int .i64 0)).setCell ⟨w2.heap.size, 42, none⟩ (.int .u64 ((st : Nat) : Int))) w2.heap.size 118 (hdC (hdN (H n) (n : Int) 2 1 0 st))) := hd_putNow q3' (n : Int) 2 1 0 st
    have HX4 : Hid (IM (((((w3.setCell ⟨w2.heap.size, 38, none⟩ (.int .i64 (n : Int))).setCell ⟨w2.heap.size, 39, none⟩ (.int .i64 2)).setCell ⟨w2.heap.size, 40, none⟩ (.int .i64 1)).setCell ⟨w2.heap.size, 41, none⟩ (.int .i64 0)).setCell ⟨w2.heap.size, 42, none⟩ (.int .u64 ((st : Nat) : Int))) x mf ml mc cp top H D ∧ Below w.heap.size w (((((w3.setCell ⟨w2.heap.size, 38, none⟩ (.int .i64 (n : Int))).setCell ⟨w2.heap.size, 39, none⟩ (.int .i64 2)).setCell ⟨w2.heap.size, 40, none⟩ (.int .i64 1)).setCell ⟨w2.heap.size, 41, none⟩ (.int .i64 0)).setCell ⟨w2.heap.size, 42, none⟩ (.int .u64 ((st : Nat) : Int)))) := by
      have hb4 : Below w2.heap.size w2 (((((w3.setCell ⟨w2.heap.size, 38, none⟩ (.int .i64 (n : Int))).setCell ⟨w2.heap.size, 39, none⟩ (.int .i64 2)).setCell ⟨w2.heap.size, 40, none⟩ (.int .i64 1)).setCell ⟨w2.heap.size, 41, none⟩ (.int .i64 0)).setCell ⟨w2.heap.size, 42, none⟩ (.int .u64 ((st : Nat) : Int))) := below_setCells (Nat.le_refl _) [.int .i64 (n : Int), .int .i64 2, .int .i64 1, .int .i64 0, .int .u64 ((st : Nat) : Int)] 38 _ HB3.out
      exact ⟨HX2.out.1.below hb4, HX2.out.2.trans (hb4.mono HX2.out.2.size)⟩
    clear q3' HX2 HB3
    go_wp2_with (first
      | (refine wpList_load_rowg (by rfl) 118 _ (by rfl) (w2.heap.size) (by rfl) 118 (hdC (hdN (H n) (n : Int) 2 1 0 st)) (0, 0) _ (by exact q4.out) Tryz.underlying118 (by rfl) (sizeHd.trans (by rw [hdC_size])) ?_; simp only [Act.put, List.setIfInBounds_toArray, List.set_cons_zero, List.set_cons_succ])
      | fail)
    refine (HPU.out _ HX4.out.1).mono ?_
    rintro e w5 ⟨rfl, hI5, hk5⟩
    have x5 := hI5.ix
    have d36 := ix_c36 x5
    have e36 : w5.frozen? ⟨x, 36, none⟩ = false := x5.frozen 36
    have HE : Hid (∀ t : Int, IM (w5.setCell ⟨x, 36, none⟩ (.int .i64 t)) x mf ml mc cp t (hU H n (hdN (H n) (n : Int) 2 1 0 st)) D ∧ Turns (fun z => z = x ∨ z = mf) w (w5.setCell ⟨x, 36, none⟩ (.int .i64 t))) := fun t => ⟨hI5.setTop t, ((Turns.bel HX4.out.2).tr (Turns.kept hk5)).tr (Turns.cell w5 x 36 _ (.inl rfl))⟩
    clear hI5 hk5 x5 HX4 q4 HPU c38 c39 c40 c41 c42 f38 f39 f40 f41 f42
    go_wp2_with fail
    go_ret2
    exact ⟨rfl, by rw [← HT.out]; exact (HE.out _).1, (HE.out _).2⟩
end
end Go.Proofs.YtlhbkhmhoiknoaaGreatDoor

namespace Go.Proofs.YtlhbkhmhoiknoaaGreatDoor
open Go Go.RowKit
set_option linter.unusedSimpArgs false
set_option linter.unusedVariables false
/-- two directories and a file, as they are made -/
def b7H : Nat → Hd := hU (hU (hU (fun _ => hd00) 1 (hdN hd00 1 2 1 0 1)) 2 (hdN hd00 2 2 1 0 1)) 3 (hdN hd00 3 1 1 0 1)
def b7D : Nat → Nat → Nat → Nat := fun _ _ _ => 0
theorem b7_dir (n : Nat) (h : n = 1 ∨ n = 2) (N : Nat → Int) (S : Nat → ByteArray) : Di b7H b7D n 0 1 N S := by
  have e : DB b7D n 0 N S := fun q i hi => by
    rw [show inLf 0 q = 0 by unfold inLf; omega]
    rfl
  rcases h with rfl | rfl
  · exact ⟨by decide, by decide, rfl, rfl, rfl, rfl, rfl, by decide, fun p hp => absurd hp (Nat.not_lt_zero _), e⟩
  · exact ⟨by decide, by decide, rfl, rfl, rfl, rfl, rfl, by decide, fun p hp => absurd hp (Nat.not_lt_zero _), e⟩
/-- inodes that were begun -/
def Beg7 (w w' : World) (x mf ml mc : Nat) (cp : Option Addr) : Prop := (w.heap.size ≤ x ∧ w.heap.size ≤ mf ∧ w.heap.size ≤ ml ∧ w.heap.size ≤ mc) ∧ IM w' x mf ml mc cp 3 b7H b7D ∧ Below w.heap.size w w'
set_option maxRecDepth 100000 in
set_option maxHeartbeats 4000000 in
theorem begun17_any (w : World) : Calls Tryz.prog 5 #[] w fun e w' => ∃ x mf ml mc cp, e = .returned (.tuple #[.pointer (some ⟨x, 0, none⟩), .bool true]) ∧ Beg7 w w' x mf ml mc cp := by
  have hbt := built_tr0
  have HN : Hid (∀ w : World, Calls Tryz.prog 16 #[.int .i64 64] w fun e w' => ∃ g, e = .returned (.tuple #[.pointer (some ⟨g, 0, none⟩), .int .i64 0]) ∧ Below w.heap.size w w') := fun w => (diskNew_any 64 (by decide) (by decide) w).mono fun e w' ⟨g, q, h1, _, _, h2⟩ => ⟨g, h1, h2⟩
  have HC : Hid (∀ (g : Nat) (w : World), Calls Tryz.prog 17 #[.pointer (some ⟨g, 0, none⟩), .pointer none, .int .i64 0] w fun e w' => ∃ c, e = .returned (.tuple #[.pointer (some ⟨c, 0, none⟩), .int .i64 0]) ∧ Below w.heap.size w w') := fun g w => (caNew_ok g none 0 (by decide) (by decide) w).mono fun e w' ⟨c, m, h1, _, _, _, h2⟩ => ⟨c, h1, h2⟩
  have HO : Hid (∀ (c : Nat) (w : World), Calls Tryz.prog 18 #[.pointer (some ⟨c, 0, none⟩), .agg (trC 0 rf0), .int .i64 0] w fun e w' => ∃ x mf ml mc, e = .returned (.tuple #[.pointer (some ⟨x, 0, none⟩), .int .i64 0]) ∧ (w.heap.size ≤ x ∧ w.heap.size ≤ mf ∧ w.heap.size ≤ ml ∧ w.heap.size ≤ mc) ∧ IM w' x mf ml mc (some ⟨c, 0, none⟩) 0 (fun _ => hd00) (fun _ _ _ => 0) ∧ Below w.heap.size w w') := fun c w => open_im (some ⟨c, 0, none⟩) w
  go_enter Tryz.func5, Tryz.ntmps5
  go_wp2_with fail
  refine (HN.out _).mono ?_
  rintro e w3 ⟨d, rfl, hb13⟩
  clear HN
  go_wp2_with fail
  refine (HC.out _ _).mono ?_
  rintro e w4 ⟨c, rfl, hb4⟩
  have hb14 := hb13.trans (hb4.mono hb13.size)
  clear hb13 hb4 HC
  go_wp2_with (first
    | (refine wpList_buildTo (by rfl) 62 #[] (by rfl) _ rfl (trC 0 rf0) (by exact hbt) ?_; simp only [Act.put, List.setIfInBounds_toArray, List.set_cons_zero, List.set_cons_succ])
    | fail)
  refine (HO.out _ _).mono ?_
  rintro e w5 ⟨x, mf, ml, mc, rfl, hbs, hI5, hb5⟩
  have hb15 := hb14.trans (hb5.mono hb14.size)
  have hz := hb14.size
  have HX : Hid (w.heap.size ≤ x ∧ w.heap.size ≤ mf ∧ w.heap.size ≤ ml ∧ w.heap.size ≤ mc) := ⟨by omega, by omega, by omega, by omega⟩
  have HM1 := hI5.make 1 (by decide) (by decide) rfl (fun m h1 h2 => absurd h2 (by omega)) 2 (.inr rfl) 1 (by decide)
  have HB15 : Hid (Below w.heap.size w w5) := hb15
  clear hb14 hb5 hb15 HO hI5 hbt hbs
  go_wp2_with fail
  refine HM1.mono ?_
  rintro e w6 ⟨rfl, hI6, ht6⟩
  have HM2 := hI6.make 2 (by decide) (by decide) rfl (fun m h1 h2 => by
    have : m = 1 := by omega
    subst this
    decide) 2 (.inr rfl) 1 (by decide)
  have HT6 : Hid (Turns (fun z => z = x ∨ z = mf) w5 w6) := ht6
  clear HM1 hI6 ht6
  go_wp2_with fail
  refine HM2.mono ?_
  rintro e w7 ⟨rfl, hI7, ht7⟩
  have HM3 := hI7.make 3 (by decide) (by decide) rfl (fun m h1 h2 => by
    have : m = 1 ∨ m = 2 := by omega
    rcases this with rfl | rfl <;> decide) 1 (.inl rfl) 1 (by decide)
  have HT7 : Hid (Turns (fun z => z = x ∨ z = mf) w5 w7) := HT6.out.tr ht7
  clear HM2 hI7 ht7 HT6
  go_wp2_with fail
  refine HM3.mono ?_
  rintro e w8 ⟨rfl, hI8, ht8⟩
  have HE : Hid (Beg7 w w8 x mf ml mc (some ⟨c, 0, none⟩)) := by
    refine ⟨HX.out, hI8, ?_⟩
    have t8 := HT7.out.tr ht8
    have := HX.out
    exact HB15.out.trans (t8.below HB15.out.size (fun b hb => by rcases hb with rfl | rfl; exact this.1; exact this.2.1))
  clear HM3 hI8 ht8
  go_wp2_with fail
  go_ret2
  exact ⟨x, mf, ml, mc, _, rfl, HE.out⟩
set_option maxRecDepth 100000 in
set_option maxHeartbeats 4000000 in
theorem awake17_any (w : World) : Calls Tryz.prog 6 #[] w fun e w' => e = .returned (.bool true) ∧ Below w.heap.size w w' := by
  have HB := begun17_any w
  go_enter Tryz.func6, Tryz.ntmps6
  go_wp2_with fail
  refine HB.mono ?_
  rintro e w1 ⟨x, mf, ml, mc, cp, rfl, hx, hI, hb1⟩
  have HA := hI.addOk (b7_dir 1 (.inl rfl) (fun _ => 0) (fun _ => ⟨#[]⟩)) (by decide) 9 ⟨#[97]⟩ (by decide) (fun r hr => absurd hr (Nat.not_lt_zero _)) 2
  have HX : Hid (w.heap.size ≤ x ∧ w.heap.size ≤ mf ∧ w.heap.size ≤ ml ∧ w.heap.size ≤ mc) := hx
  have HB1 : Hid (Below w.heap.size w w1) := hb1
  clear HB hI hb1 hx
  go_wp2_with fail
  refine HA.mono ?_
  rintro e w2 ⟨rfl, ⟨H', D', hI2, hd2, _⟩, hT2⟩
  have HF := hI2.findD hd2 ⟨#[97]⟩ (by decide) 0 ⟨by decide, fun r hr => absurd hr (Nat.not_lt_zero _), fun _ => rfl⟩ 9 0 0 rfl rfl rfl
  have HE : Hid (Below w.heap.size w w2) := by
    have := HX.out
    exact HB1.out.trans (hT2.below HB1.out.size (fun b hb => by rcases hb with rfl | rfl; exact this.2.2.1; exact this.2.1))
  clear HA hI2 hd2 hT2
  go_wp2_with fail
  refine HF.mono ?_
  rintro e w3 ⟨rfl, hb3⟩
  have HE3 : Hid (Below w.heap.size w w3) := HE.out.trans (hb3.mono HE.out.size)
  clear HF hb3
  go_wp2_with fail
  go_ret
  exact ⟨rfl, HE3.out⟩
end Go.Proofs.YtlhbkhmhoiknoaaGreatDoor

namespace Go.Proofs.YtlhbkhmhoiknoaaGreatDoor
open Go Go.RowKit
set_option linter.unusedSimpArgs false
set_option linter.unusedVariables false
/-- what stands while entries are added and taken away: the world, with entries told -/
def GW (w : World) (x mf ml mc : Nat) (cp : Option Addr) (wr : World) (k : Nat) (N : Nat → Int) (S : Nat → ByteArray) : Prop := ∃ H D st, IM wr x mf ml mc cp 3 H D ∧ Di H D 2 k st N S ∧ (w.heap.size ≤ x ∧ w.heap.size ≤ mf ∧ w.heap.size ≤ ml ∧ w.heap.size ≤ mc) ∧ Below w.heap.size w wr
section
variable {w : World} {x mf ml mc : Nat} {cp : Option Addr} {wr : World} {k : Nat} {N : Nat → Int} {S : Nat → ByteArray}
theorem GW.step {w' : World} {k' : Nat} {N' : Nat → Int} {S' : Nat → ByteArray} {H : Nat → Hd} {D : Nat → Nat → Nat → Nat} {st : Nat} (hb : Below w.heap.size w wr) (hx : (w.heap.size ≤ x ∧ w.heap.size ≤ mf ∧ w.heap.size ≤ ml ∧ w.heap.size ≤ mc)) (hI : IM w' x mf ml mc cp 3 H D) (hd : Di H D 2 k' st N' S') (ht : Turns (fun z => z = ml ∨ z = mf) wr w') : GW w x mf ml mc cp w' k' N' S' :=
  ⟨H, D, st, hI, hd, hx, hb.trans (ht.below hb.size (fun b hb => by rcases hb with rfl | rfl; exact hx.2.2.1; exact hx.2.1))⟩
theorem GW.below {w' : World} (h : GW w x mf ml mc cp wr k N S) (hb : Below wr.heap.size wr w') : GW w x mf ml mc cp w' k N S := by
  obtain ⟨H, D, st, h1, h2, h3, h4⟩ := h
  exact ⟨H, D, st, h1.below hb, h2, h3, h4.trans (hb.mono h4.size)⟩
theorem GW.bel (h : GW w x mf ml mc cp wr k N S) : Below w.heap.size w wr := by
  obtain ⟨H, D, st, h1, h2, h3, h4⟩ := h
  exact h4
theorem GW.add (h : GW w x mf ml mc cp wr k (fun p => ((10 + p : Nat) : Int)) numT) (hk : k < 90) : Calls Tryz.prog 7 #[.pointer (some ⟨x, 0, none⟩), .int .i64 2, .agg #[.int .i64 ((10 : Int) + (k : Int)), .string (numT k)], .int .u64 3] wr fun e w' => e = .returned (.int .i64 0) ∧ GW w x mf ml mc cp w' (k + 1) (fun p => ((10 + p : Nat) : Int)) numT := by
  obtain ⟨H, D, st, hI, hd, hx, hb⟩ := h
  rw [show (10 : Int) + (k : Int) = ((10 + k : Nat) : Int) by omega]
  refine (hI.addOk hd (by omega) ((10 + k : Nat) : Int) (numT k) (num_enc k hk) (fun r hr h => by have := num_inj r k (by omega) hk h; omega) 3).mono ?_
  rintro e w' ⟨rfl, ⟨H', D', hI', hd', _⟩, ht⟩
  refine ⟨rfl, GW.step hb hx hI' (hd'.congr fun p hp => ?_) ht⟩
  unfold upN upS
  by_cases c : p = k
  · rw [if_pos c, if_pos c, c]; exact ⟨rfl, rfl⟩
  · rw [if_neg c, if_neg c]; exact ⟨rfl, rfl⟩
theorem GW.remove (h : GW w x mf ml mc cp wr (k + 1) N S) (t : Nat) (ht : t < 90) (p : Nat) (hp : p ≤ k) (hF : FirstN S (k + 1) p (numT t)) (hN : N p = ((10 + t : Nat) : Int)) : Calls Tryz.prog 9 #[.pointer (some ⟨x, 0, none⟩), .int .i64 2, .string (numT t), .int .u64 4] wr fun e w' => e = .returned (.tuple #[.int .i64 ((10 : Int) + (t : Int)), .int .i64 0]) ∧ GW w x mf ml mc cp w' k (mvN N k p) (mvS S k p) := by
  obtain ⟨H, D, st, hI, hd, hx, hb⟩ := h
  refine (hI.removeOk hd (numT t) (num_name t ht) p hp hF 4).mono ?_
  rintro e w' ⟨rfl, ⟨H', D', hI', hd', _⟩, ht⟩
  exact ⟨by rw [hN, show (10 : Int) + (t : Int) = ((10 + t : Nat) : Int) by omega], GW.step hb hx hI' hd' ht⟩
theorem GW.find (h : GW w x mf ml mc cp wr k N S) (t : Nat) (ht : t < 90) (p : Nat) (hF : FirstN S k p (numT t)) (r0 r1 er : Int) (hr : r0 = if p < k then N p else 0) (hr1 : r1 = if p < k then (p : Int) else 0) (her : er = if p < k then 0 else 171) : Calls Tryz.prog 10 #[.pointer (some ⟨x, 0, none⟩), .int .i64 2, .string (numT t)] wr fun e w' => e = .returned (.tuple #[.int .i64 r0, .int .i64 r1, .int .i64 er]) ∧ GW w x mf ml mc cp w' k N S := by
  have h0 := h
  obtain ⟨H, D, st, hI, hd, hx, hb⟩ := h
  refine (hI.findD hd (numT t) (num_name t ht) p hF r0 r1 er hr hr1 her).mono ?_
  rintro e w' ⟨rfl, hb'⟩
  exact ⟨rfl, h0.below hb'⟩
theorem GW.count (h : GW w x mf ml mc cp wr k N S) : Calls Tryz.prog 11 #[.pointer (some ⟨x, 0, none⟩), .int .i64 2] wr fun e w' => e = .returned (.tuple #[.int .i64 (k : Int), .int .i64 0]) ∧ GW w x mf ml mc cp w' k N S := by
  have h0 := h
  obtain ⟨H, D, st, hI, hd, hx, hb⟩ := h
  refine (hI.countD hd).mono ?_
  rintro e w' ⟨rfl, hb'⟩
  exact ⟨rfl, h0.below hb'⟩
end
set_option maxRecDepth 100000 in
set_option maxHeartbeats 8000000 in
theorem dirGrowsLaw (a b : Int) (w : World) : Calls Tryz.prog 3 #[.int .i64 a, .int .i64 b] w fun e w' => e = .returned (.bool true) ∧ Below w.heap.size w w' := by
  obtain ⟨n, hn⟩ : ∃ n : Nat, (n : Int) = (if a < 1 ∨ 90 < a then 5 else a) := ⟨(if a < 1 ∨ 90 < a then 5 else a).toNat, by split <;> omega⟩
  obtain ⟨sp, hsp⟩ : ∃ n : Nat, (n : Int) = (if b < 1 ∨ 50 < b then 1 else b) := ⟨(if b < 1 ∨ 50 < b then 1 else b).toNat, by split <;> omega⟩
  have n90 : 1 ≤ n ∧ n ≤ 90 := by split at hn <;> omega
  have s50 : 1 ≤ sp ∧ sp ≤ 50 := by split at hsp <;> omega
  have HNM : Hid (∀ (i : Nat), i < 90 → ∀ V : World, Calls Tryz.prog 8 #[.int .i64 (i : Int)] V fun e w' => e = .returned (.string (numT i)) ∧ Below V.heap.size V w') := fun i hi V => number_any i (by omega) V
  have HBG := begun17_any w
  have HAW : Hid (∀ V : World, Calls Tryz.prog 6 #[] V fun e w' => e = .returned (.bool true) ∧ Below V.heap.size V w') := awake17_any
  have HST : Hid (GrS n sp 0 n (fun p => ((10 + p : Nat) : Int)) numT) := GrS.start n sp n90.2
  go_enter Tryz.func3, Tryz.ntmps3
  go_wp2_with fail
  refine HBG.mono ?_
  rintro e w1 ⟨x, mf, ml, mc, cp, rfl, hx, hI1, hb1⟩
  have G1 : Hid (GW w x mf ml mc cp w1 0 (fun p => ((10 + p : Nat) : Int)) numT) := ⟨b7H, b7D, 1, hI1, b7_dir 2 (.inr rfl) _ _, hx, hb1⟩
  clear HBG hx hI1 hb1
  go_wp2_with fail
  refine (HAW.out _).mono ?_
  rintro e w2 ⟨rfl, hb2⟩
  have G2 : Hid (GW w x mf ml mc cp w2 0 (fun p => ((10 + p : Nat) : Int)) numT) := G1.out.below hb2
  clear hb2 G1 HAW
  have HNN : Hid (((n : Int) = if a < 1 ∨ 90 < a then 5 else a) ∧ ((sp : Int) = if b < 1 ∨ 50 < b then 1 else b) ∧ (1 ≤ n ∧ n ≤ 90) ∧ (1 ≤ sp ∧ sp ≤ 50)) := ⟨hn, hsp, n90, s50⟩
  clear hn hsp n90 s50
  go_upto_region 4 with fail
  go_cut [33] (fun v wx => v = .bool (decide (a < 1 ∨ 90 < a)) ∧ w2 = wx)
  case first =>
    by_cases h1 : a < 1
    · have e : decide (a < 1 ∨ 90 < a) = true := decide_eq_true (.inl h1)
      go_wp2_with fail
      go_meet
      exact ⟨by rw [e], rfl⟩
    · by_cases h2 : 90 < a
      · have e : decide (a < 1 ∨ 90 < a) = true := decide_eq_true (.inr h2)
        go_wp2_with fail
        go_meet
        exact ⟨by rw [e], rfl⟩
      · have e : decide (a < 1 ∨ 90 < a) = false := decide_eq_false (by omega)
        go_wp2_with fail
        go_meet
        exact ⟨by rw [e], rfl⟩
  case rest =>
    obtain ⟨rfl, rfl⟩ := hcut
    obtain ⟨bA, hbA⟩ : ∃ x, x = decide (a < 1 ∨ 90 < a) := ⟨_, rfl⟩
    have HBA : Hid (bA = decide (a < 1 ∨ 90 < a)) := hbA
    rw [← hbA]
    clear hbA
    go_upto_if 33 with fail
    go_cut [0] (fun v wx => v = .int .i64 (n : Int) ∧ w2 = wx)
    case first =>
      cases bA
      · have HA : Hid ((n : Int) = a) := by
          show _ = _
          have h0 := HBA.out
          have h1 := HNN.out.1
          rw [if_neg (of_decide_eq_false h0.symm)] at h1
          exact h1
        go_wp2_with fail
        go_meet
        exact ⟨by rw [HA.out], rfl⟩
      · have HA : Hid ((n : Int) = 5) := by
          show _ = _
          have h0 := HBA.out
          have h1 := HNN.out.1
          rw [if_pos (of_decide_eq_true h0.symm)] at h1
          exact h1
        go_wp2_with fail
        go_meet
        exact ⟨by rw [HA.out], rfl⟩
    case rest =>
      obtain ⟨rfl, rfl⟩ := hcut
      clear HBA bA
      go_upto_region 6 with fail
      go_cut [39] (fun v wx => v = .bool (decide (b < 1 ∨ 50 < b)) ∧ w2 = wx)
      case first =>
        by_cases h1 : b < 1
        · have e : decide (b < 1 ∨ 50 < b) = true := decide_eq_true (.inl h1)
          go_wp2_with fail
          go_meet
          exact ⟨by rw [e], rfl⟩
        · by_cases h2 : 50 < b
          · have e : decide (b < 1 ∨ 50 < b) = true := decide_eq_true (.inr h2)
            go_wp2_with fail
            go_meet
            exact ⟨by rw [e], rfl⟩
          · have e : decide (b < 1 ∨ 50 < b) = false := decide_eq_false (by omega)
            go_wp2_with fail
            go_meet
            exact ⟨by rw [e], rfl⟩
      case rest =>
        obtain ⟨rfl, rfl⟩ := hcut
        obtain ⟨bA, hbA⟩ : ∃ x, x = decide (b < 1 ∨ 50 < b) := ⟨_, rfl⟩
        have HBA : Hid (bA = decide (b < 1 ∨ 50 < b)) := hbA
        rw [← hbA]
        clear hbA
        go_upto_if 39 with fail
        go_cut [1] (fun v wx => v = .int .i64 (sp : Int) ∧ w2 = wx)
        case first =>
          cases bA
          · have HA : Hid ((sp : Int) = b) := by
              show _ = _
              have h0 := HBA.out
              have h1 := HNN.out.2.1
              rw [if_neg (of_decide_eq_false h0.symm)] at h1
              exact h1
            go_wp2_with fail
            go_meet
            exact ⟨by rw [HA.out], rfl⟩
          · have HA : Hid ((sp : Int) = 1) := by
              show _ = _
              have h0 := HBA.out
              have h1 := HNN.out.2.1
              rw [if_pos (of_decide_eq_true h0.symm)] at h1
              exact h1
            go_wp2_with fail
            go_meet
            exact ⟨by rw [HA.out], rfl⟩
        case rest =>
          obtain ⟨rfl, rfl⟩ := hcut
          clear HBA bA
          have nb : (n : Int) ≤ 90 := by have := HNN.out.2.2.1; omega
          have sb : (sp : Int) ≤ 50 := by have := HNN.out.2.2.2; omega
          have sb1 : (1 : Int) ≤ (sp : Int) := by have := HNN.out.2.2.2; omega
          go_wp2_with fail
          go_loopw [7] (fun v wr => Hid (∃ i : Nat, i ≤ n ∧ v = .int .i64 (i : Int) ∧ GW w x mf ml mc cp wr i (fun p => ((10 + p : Nat) : Int)) numT)) (fun v _ => n - (intOf v).toNat)
          case atStart => exact ⟨0, Nat.zero_le _, rfl, G2.out⟩
          case round =>
            obtain ⟨i, hi, rfl, hg⟩ := Hid.out hrel
            have HG : Hid (GW w x mf ml mc cp wr i (fun p => ((10 + p : Nat) : Int)) numT) := hg
            clear hrel hg G2
            by_cases hin : i < n
            · have i1 : (i : Int) < (n : Int) := by omega
              have HNi := HNM.out i (by omega) wr
              have HAD : Hid (∀ V, GW w x mf ml mc cp V i (fun p => ((10 + p : Nat) : Int)) numT → Calls Tryz.prog 7 #[.pointer (some ⟨x, 0, none⟩), .int .i64 2, .agg #[.int .i64 ((10 : Int) + (i : Int)), .string (numT i)], .int .u64 3] V fun e w' => e = .returned (.int .i64 0) ∧ GW w x mf ml mc cp w' (i + 1) (fun p => ((10 + p : Nat) : Int)) numT) := fun V hV => hV.add (by omega)
              obtain ⟨t, ht⟩ : ∃ t, t = numT i := ⟨_, rfl⟩
              rw [← ht] at HNi HAD
              clear ht
              go_wp2_with fail
              refine HNi.mono ?_
              rintro e w3 ⟨rfl, hb3⟩
              have H3 := HAD.out w3 (HG.out.below hb3)
              clear hb3 HNi HAD
              go_wp2_with fail
              refine H3.mono ?_
              rintro e w4 ⟨rfl, hg4⟩
              have HG4 : Hid (GW w x mf ml mc cp w4 (i + 1) (fun p => ((10 + p : Nat) : Int)) numT) := hg4
              clear hg4 H3
              go_wp2_with fail
              go_roundw
              case rel => exact ⟨i + 1, by omega, by first | rfl | go_num | simp, HG4.out⟩
              case measure => simp [intOf]; omega
            · have i1 : ¬ ((i : Int) < (n : Int)) := by omega
              obtain rfl : i = n := by omega
              clear hin
              go_wp2_with fail
              go_loopw [8, 9] (fun v8 v9 wr => Hid (∃ (j k : Nat) (N : Nat → Int) (S : Nat → ByteArray), v9 = .int .i64 (j : Int) ∧ v8 = .int .i64 (k : Int) ∧ j ≤ 140 ∧ k ≤ 90 ∧ j % sp = 0 ∧ GrS i sp j k N S ∧ GW w x mf ml mc cp wr k N S)) (fun _ v9 _ => 200 - (intOf v9).toNat)
              case atStart => exact ⟨0, i, _, _, rfl, rfl, by omega, by omega, Nat.zero_mod _, HST.out, HG.out⟩
              case round =>
                obtain ⟨j, k, N, S, rfl, rfl, hj, hk, hjm, hgs, hg⟩ := Hid.out hrel
                clear hrel HG HST
                by_cases hjn : j < i
                · have j1 : (j : Int) < (i : Int) := by omega
                  have HNi := HNM.out j (by omega) wr
                  obtain ⟨p, hpk, hF, hNp⟩ := hgs.first j hjn (by omega) (fun h => absurd h.2 (by omega))
                  obtain ⟨k', rfl⟩ : ∃ k', k = k' + 1 := ⟨k - 1, by omega⟩
                  have HS2 : Hid (GrS i sp (j + sp) k' (mvN N k' p) (mvS S k' p) ∧ (j + sp) % sp = 0) := ⟨hgs.take (by omega) HNN.out.2.2.2.1 hjn hjm p (by omega) (hF.2.2 hpk), step_mod sp j hjm⟩
                  have HRM : Hid (∀ V, GW w x mf ml mc cp V (k' + 1) N S → Calls Tryz.prog 9 #[.pointer (some ⟨x, 0, none⟩), .int .i64 2, .string (numT j), .int .u64 4] V fun e w' => e = .returned (.tuple #[.int .i64 ((10 : Int) + (j : Int)), .int .i64 0]) ∧ GW w x mf ml mc cp w' k' (mvN N k' p) (mvS S k' p)) := fun V hV => hV.remove j (by omega) p (by omega) hF hNp
                  have HG : Hid (GW w x mf ml mc cp wr (k' + 1) N S) := hg
                  have e1 : ((k' + 1 : Nat) : Int) - 1 = (k' : Int) := by omega
                  have kb : ((k' + 1 : Nat) : Int) ≤ 90 := by omega
                  have kb0 : (0 : Int) ≤ ((k' + 1 : Nat) : Int) := by omega
                  have jb : (j : Int) ≤ 140 := by omega
                  obtain ⟨t, ht⟩ : ∃ t, t = numT j := ⟨_, rfl⟩
                  rw [← ht] at HNi HRM
                  clear ht hF hNp hgs hg hpk hjm
                  generalize ((k' + 1 : Nat) : Int) = kz at *
                  go_wp2_with fail
                  refine HNi.mono ?_
                  rintro e w3 ⟨rfl, hb3⟩
                  have H3 := HRM.out w3 (HG.out.below hb3)
                  clear hb3 HNi HRM HG
                  go_wp2_with fail
                  refine H3.mono ?_
                  rintro e w4 ⟨rfl, hg4⟩
                  have HG4 : Hid (GW w x mf ml mc cp w4 k' (mvN N k' p) (mvS S k' p)) := hg4
                  clear hg4 H3
                  go_wp2_with fail
                  go_roundw
                  case rel => exact ⟨j + sp, k', _, _, by first | rfl | go_num | simp, by first | rfl | (rw [← e1]; rfl) | (rw [e1]), by omega, by omega, HS2.out.2, HS2.out.1, HG4.out⟩
                  case measure => simp [intOf]; omega
                · have j1 : ¬ ((j : Int) < (i : Int)) := by omega
                  have HGS : Hid (GrS i sp j k N S ∧ GW w x mf ml mc cp wr k N S ∧ i ≤ j) := ⟨hgs, hg, by omega⟩
                  clear hgs hg hjm
                  go_wp2_with fail
                  go_loopw [12] (fun v wr => Hid (∃ q : Nat, q ≤ i ∧ v = .int .i64 (q : Int) ∧ GW w x mf ml mc cp wr k N S)) (fun v _ => i - (intOf v).toNat)
                  case atStart => exact ⟨0, Nat.zero_le _, rfl, HGS.out.2.1⟩
                  case round =>
                    obtain ⟨q, hq, rfl, hg⟩ := Hid.out hrel
                    have HG : Hid (GW w x mf ml mc cp wr k N S) := hg
                    clear hrel hg
                    by_cases hqi : q < i
                    · have q1 : (q : Int) < (i : Int) := by omega
                      have HNi := HNM.out q (by omega) wr
                      have tm : (q : Int).tmod (sp : Int) = ((q % sp : Nat) : Int) := rfl
                      have em : (q : Int) % (sp : Int) = ((q % sp : Nat) : Int) := rfl
                      have sp0 : ¬ ((sp : Int) = 0) := by omega
                      by_cases hm : q % sp = 0
                      · have HFN : Hid (∀ V, GW w x mf ml mc cp V k N S → Calls Tryz.prog 10 #[.pointer (some ⟨x, 0, none⟩), .int .i64 2, .string (numT q)] V fun e w' => e = .returned (.tuple #[.int .i64 0, .int .i64 0, .int .i64 171]) ∧ GW w x mf ml mc cp w' k N S) := fun V hV => hV.find q (by omega) k (HGS.out.1.none q hqi (by omega) ⟨hm, by have := HGS.out.2.2; omega⟩) 0 0 171 (by rw [if_neg (by omega)]) (by rw [if_neg (by omega)]) (by rw [if_neg (by omega)])
                        rw [hm] at tm em
                        obtain ⟨t, ht⟩ : ∃ t, t = numT q := ⟨_, rfl⟩
                        rw [← ht] at HNi HFN
                        clear ht hm
                        go_wp2_with fail
                        refine HNi.mono ?_
                        rintro e w3 ⟨rfl, hb3⟩
                        have H3 := HFN.out w3 (HG.out.below hb3)
                        clear hb3 HNi HFN HG
                        go_wp2_with fail
                        refine H3.mono ?_
                        rintro e w4 ⟨rfl, hg4⟩
                        have HG4 : Hid (GW w x mf ml mc cp w4 k N S) := hg4
                        clear hg4 H3
                        go_wp2_with fail
                        go_roundw
                        case rel => exact ⟨q + 1, by omega, by first | rfl | go_num | simp, HG4.out⟩
                        case measure => simp [intOf]; omega
                      · have HFN : Hid (∃ r1 : Int, ∀ V, GW w x mf ml mc cp V k N S → Calls Tryz.prog 10 #[.pointer (some ⟨x, 0, none⟩), .int .i64 2, .string (numT q)] V fun e w' => e = .returned (.tuple #[.int .i64 ((10 : Int) + (q : Int)), .int .i64 r1, .int .i64 0]) ∧ GW w x mf ml mc cp w' k N S) := by
                          obtain ⟨p, hpk, hF, hNp⟩ := HGS.out.1.first q hqi (by omega) (fun h => hm h.1)
                          exact ⟨(p : Int), fun V hV => hV.find q (by omega) p hF _ (p : Int) 0 (by rw [if_pos hpk, hNp]; omega) (by rw [if_pos hpk]) (by rw [if_pos hpk])⟩
                        obtain ⟨r1, HFN⟩ := HFN.out
                        have HFN : Hid _ := HFN
                        obtain ⟨md, hmd⟩ : ∃ md, md = q % sp := ⟨_, rfl⟩
                        rw [← hmd] at tm em hm
                        have md0 : ¬ ((md : Int) = 0) := by omega
                        have mdb : ((md : Int) == 0) = false := by simpa using md0
                        have mdn : ((md : Int) != 0) = true := by simpa using md0
                        obtain ⟨t, ht⟩ : ∃ t, t = numT q := ⟨_, rfl⟩
                        rw [← ht] at HNi HFN
                        clear ht hm hmd
                        go_wp2_with fail
                        refine HNi.mono ?_
                        rintro e w3 ⟨rfl, hb3⟩
                        have H3 := HFN.out w3 (HG.out.below hb3)
                        clear hb3 HNi HFN HG
                        go_wp2_with fail
                        refine H3.mono ?_
                        rintro e w4 ⟨rfl, hg4⟩
                        have HG4 : Hid (GW w x mf ml mc cp w4 k N S) := hg4
                        clear hg4 H3
                        go_wp2_with fail
                        go_roundw
                        case rel => exact ⟨q + 1, by omega, by first | rfl | go_num | simp, HG4.out⟩
                        case measure => simp [intOf]; omega
                    · have q1 : ¬ ((q : Int) < (i : Int)) := by omega
                      have HCO := HG.out.count
                      go_wp2_with fail
                      refine HCO.mono ?_
                      rintro e w4 ⟨rfl, hg4⟩
                      have HB4 : Hid (Below w.heap.size w w4) := hg4.bel
                      clear hg4 HCO
                      go_wp2_with fail
                      go_ret
                      exact ⟨rfl, HB4.out⟩
end Go.Proofs.YtlhbkhmhoiknoaaGreatDoor
