/- Entries in a block of their own, swapped stretch by stretch (slices.swapRangeCmpFunc). -/
import Derived.Test.YtimjggkdpmgpjaaGreatDoorHLogOf
import Derived.Handy
import Derived.LoopTactic
import Derived.Test.YtimjggkdpmgpjaaGreatDoorHIntMap
import Derived.Lib.Walk
import Derived.Test.YtimjggkdpmgpjaaGreatDoorHDiFns
import Derived.Test.YtimjggkdpmgpjaaGreatDoorHMathCount

namespace Go.Proofs.YtimjggkdpmgpjaaGreatDoor
theorem sgLHDiSort1 : (∀ (α : Type) (a : α) (l r : List α), (a :: l) ++ r = a :: (l ++ r)) ∧ (∀ (α : Type) (l : List α), [] ++ l = l) ∧ (∀ (α : Type) (l : List α), l ++ [] = l) ∧ (∀ (α β : Type) (f : α → Option β) (a : α) (l : List α), (a :: l).filterMap f = match f a with | none => l.filterMap f | some b => b :: l.filterMap f) ∧ (∀ (α β : Type) (f : α → Option β), [].filterMap f = []) ∧ (∀ (α : Type) (l : List α) (i : Nat), l.toArray[i]? = l[i]?) ∧ (∀ (α : Type) (a : α) (l : List α), (a :: l)[0]? = some a) ∧ (∀ (α : Type) (a : α) (l : List α) (i : Nat), (a :: l)[i + 1]? = l[i]?) :=
  ⟨fun _ _ _ _ => List.cons_append, fun _ _ => List.nil_append _, fun _ _ => List.append_nil _, fun _ _ _ _ _ => List.filterMap_cons, fun _ _ _ => List.filterMap_nil, fun _ _ _ => List.getElem?_toArray, fun _ _ _ => List.getElem?_cons_zero, fun _ _ _ _ => List.getElem?_cons_succ⟩
theorem sgPHDiSort1 : (∀ (α : Type) (l : List α) (i : Nat) (a : α), l.toArray.setIfInBounds i a = (l.set i a).toArray) ∧ (∀ (α : Type) (a b : α) (l : List α), (a :: l).set 0 b = b :: l) ∧ (∀ (α : Type) (a b : α) (l : List α) (i : Nat), (a :: l).set (i + 1) b = a :: l.set i b) :=
  ⟨fun _ _ _ _ => List.setIfInBounds_toArray _ _ _, fun _ _ _ _ => List.set_cons_zero, fun _ _ _ _ _ => List.set_cons_succ⟩
end Go.Proofs.YtimjggkdpmgpjaaGreatDoor
namespace Go.Proofs.YtimjggkdpmgpjaaGreatDoor
open Go Go.RowKit
set_option linter.unusedSimpArgs false
set_option linter.unusedVariables false
section
variable {w w' : World} {x mf ml mc : Nat} {cp : Option Addr} {top : Int} {H : Nat → Hd} {D : Nat → Nat → Nat → Nat}
set_option maxRecDepth 100000 in
set_option maxHeartbeats 8000000 in
theorem IM.free (h : IM w x mf ml mc cp top H D) (n : Nat) (h1 : 1 ≤ n) (h2 : n ≤ 4096) (hk : (H n).k = 0) (hm : ∀ m, 1 ≤ m → m < n → (H m).k ≠ 0) : Calls Tryz.prog 44 #[.pointer (some ⟨x, 0, none⟩)] w fun e w' => e = .returned (.tuple #[.int .i64 (n : Int), .agg (hdC (H n)), .int .i64 0]) ∧ Below w.heap.size w w' := by
  have hz := zero_ft
  have hz2 := zero_hd
  have HFF : Hid (∀ i : Nat, i < 1024 → ∀ V, Below w.heap.size w V → Calls Tryz.prog 72 #[.pointer (some ⟨x, 0, none⟩), .int .i64 (i : Int)] V fun e w' => e = .returned (.tuple #[.agg (ftC (foH H i)), .int .i64 0]) ∧ Below V.heap.size V w') := fun i hi V hV => (h.below hV).four i hi
  have HLT : Hid (∀ w : World, Calls Tryz.prog 71 #[.int .i64 4096] w fun e w2 => e = .returned (.int .i64 1024) ∧ w2 = w) := leavesTo_any 4096 (by decide) (by decide)
  have HNU : Hid (∀ i j : Nat, i < 1024 → j < 4 → ∀ w : World, Calls Tryz.prog 74 #[.int .i64 (i : Int), .int .i64 (j : Int)] w fun e w2 => e = .returned (.int .i64 ((i : Int) * 4 + (j : Int) + 1)) ∧ w2 = w) := fun i j h1 h2 => numberAt_any (i : Int) (j : Int) (by omega) (by omega) (by omega) (by omega)
  have HN : Hid (1 ≤ n ∧ n ≤ 4096 ∧ (H n).k = 0 ∧ ∀ m, 1 ≤ m → m < n → (H m).k ≠ 0) := ⟨h1, h2, hk, hm⟩
  have HB1 : Hid (Blk (w.alloc (.cells (hdC hd00) 140)) w.heap.size 140 (hdC hd00) ∧ Below w.heap.size w (w.alloc (.cells (hdC hd00) 140))) := ⟨Blk.new _ _ _, below_new1 _ _⟩
  clear h h1 h2 hk hm
  go_enter Tryz.func44, Tryz.ntmps44
  go_wp2_with fail
  generalize (w.alloc (.cells (hdC hd00) 140)) = w1 at *
  refine (HLT.out _).mono ?_
  rintro e w9 ⟨rfl, hw9⟩
  subst w9
  clear HLT
  go_wp2_with fail
  go_loopw [11] (fun t wr => Hid (∃ i : Nat, 4 * i < n ∧ t = .int .i64 (i : Int) ∧ Blk wr w.heap.size 140 (hdC hd00) ∧ Below w.heap.size w wr)) (fun t _ => 1024 - (intOf t).toNat)
  case atStart => exact ⟨0, by have := HN.out.1; omega, rfl, HB1.out.1, HB1.out.2⟩
  case round =>
    obtain ⟨i, hi, rfl, r1, hb1⟩ := Hid.out hrel
    clear hrel HB1
    have i1 : (i : Int) < 1024 := by have := HN.out.2.1; omega
    have HF1 := HFF.out i (by omega) _ hb1
    have HI : Hid (4 * i < n ∧ i < 1024) := ⟨hi, by omega⟩
    have HR : Hid (Blk wr w.heap.size 140 (hdC hd00) ∧ Below w.heap.size w wr) := ⟨r1, hb1⟩
    clear hi r1 hb1
    go_wp2_with fail
    refine HF1.mono ?_
    rintro e w2 ⟨rfl, hb2⟩
    have f3 : Blk (w2.alloc (.cells (ftC ft00) 183)) w2.heap.size 183 (ftC ft00) := Blk.new _ _ _
    have f3' := f3.set (ftC (foH H i))
    have HR3 : Hid (Blk ((w2.alloc (.cells (ftC ft00) 183)).setRow w2.heap.size (ftC (foH H i))) w.heap.size 140 (hdC hd00) ∧ Below w.heap.size w ((w2.alloc (.cells (ftC ft00) 183)).setRow w2.heap.size (ftC (foH H i)))) := by
      have hb23 : Below w2.heap.size w2 ((w2.alloc (.cells (ftC ft00) 183)).setRow w2.heap.size (ftC (foH H i))) := below_setRow (below_new1 _ _) (Nat.le_refl _) _
      have r2 := HR.out.1.below hb2 HR.out.1.lt
      have hb12 := HR.out.2.trans (hb2.mono HR.out.2.size)
      exact ⟨r2.below hb23 r2.lt, hb12.trans (hb23.mono hb12.size)⟩
    clear hb2 HR HF1
    go_wp2_with (first
      | (refine wpList_store_row (by rfl) 183 _ _ (by rfl) (w2.heap.size) (ftC (foH H i)) (by rfl) (by rfl) 183 (ftC ft00) (by exact f3) (sizeFt.trans (by rw [ftC_size])) (by simp only [ftC_size]) (ftC_all _) ?_; simp only [Act.put, sgPHDiSort1])
      | (refine wpList_load_rowg (by rfl) 183 _ (by rfl) (w2.heap.size) (by rfl) 183 (ftC (foH H i)) (0, 0) _ (by exact f3') Tryz.underlying183 (by rfl) (sizeFt.trans (by rw [ftC_size])) ?_; simp only [Act.put, sgPHDiSort1])
      | fail)
    clear f3 f3'
    generalize ((w2.alloc (.cells (ftC ft00) 183)).setRow w2.heap.size (ftC (foH H i))) = w3 at *
    go_loopw [25] (fun t wr => Hid (∃ j : Nat, j ≤ 4 ∧ 4 * i + j < n ∧ t = .int .i64 (j : Int) ∧ Blk wr w.heap.size 140 (hdC hd00) ∧ Below w.heap.size w wr)) (fun t _ => 4 - (intOf t).toNat)
    case atStart => exact ⟨0, by omega, HI.out.1, rfl, HR3.out.1, HR3.out.2⟩
    case round =>
      obtain ⟨j, hj, hjn, rfl, r1, hb1⟩ := Hid.out hrel
      clear hrel HR3
      by_cases hj4 : j < 4
      · have j1 : (j : Int) < 4 := by omega
        have hix : ∀ w, (Instr.index 183 (.agg (ftC (foH H i))) (.int .i64 (j : Int))).run Tryz.prog w = .ok (.agg (hdC (foH H i j))) w := fun w => run_index_ft (foH H i) j hj4 w
        have HJ : Hid (j < 4 ∧ 4 * i + j < n) := ⟨hj4, hjn⟩
        have q4 : Blk (wr.alloc (.cells (hdC hd00) 140)) wr.heap.size 140 (hdC hd00) := Blk.new _ _ _
        have q4' := q4.set (hdC (foH H i j))
        have HR4 : Hid (Blk ((wr.alloc (.cells (hdC hd00) 140)).setRow wr.heap.size (hdC (foH H i j))) w.heap.size 140 (hdC hd00) ∧ Below w.heap.size w ((wr.alloc (.cells (hdC hd00) 140)).setRow wr.heap.size (hdC (foH H i j))) ∧ w.heap.size < wr.heap.size) := by
          have hb34 : Below wr.heap.size wr ((wr.alloc (.cells (hdC hd00) 140)).setRow wr.heap.size (hdC (foH H i j))) := below_setRow (below_new1 _ _) (Nat.le_refl _) _
          exact ⟨r1.below hb34 r1.lt, hb1.trans (hb34.mono hb1.size), r1.lt⟩
        have HIU : Hid (∀ w : World, Calls Tryz.prog 73 #[.agg (hdC (foH H i j))] w fun e w' => e = .returned (.bool ((foH H i j).k != 0)) ∧ Below w.heap.size w w') := inUse_any (foH H i j)
        clear r1 hb1 hj hjn hj4
        go_wp2_with (first
          | (refine wpList_store_row (by rfl) 140 _ _ (by rfl) (wr.heap.size) (hdC (foH H i j)) (by rfl) (by rfl) 140 (hdC hd00) (by exact q4) (sizeHd.trans (by rw [hdC_size])) (by simp only [hdC_size]) (hdC_all _) ?_; simp only [Act.put, sgPHDiSort1])
          | (refine wpList_load_rowg (by rfl) 140 _ (by rfl) (wr.heap.size) (by rfl) 140 (hdC (foH H i j)) (0, 0) _ (by exact q4') Tryz.underlying140 (by rfl) (sizeHd.trans (by rw [hdC_size])) ?_; simp only [Act.put, sgPHDiSort1])
          | fail)
        clear q4 hix
        generalize ((wr.alloc (.cells (hdC hd00) 140)).setRow wr.heap.size (hdC (foH H i j))) = w4 at *
        refine (HIU.out w4).mono ?_
        rintro e w5 ⟨rfl, hb5⟩
        have q5 := q4'.below hb5 q4'.lt
        have HR5 : Hid (Blk w5 w.heap.size 140 (hdC hd00) ∧ Below w.heap.size w w5 ∧ w.heap.size < wr.heap.size) := ⟨HR4.out.1.below hb5 HR4.out.1.lt, HR4.out.2.1.trans (hb5.mono HR4.out.2.1.size), HR4.out.2.2⟩
        clear hb5 HR4 HIU q4'
        by_cases hk : (foH H i j).k = 0
        · have hkb : ((foH H i j).k != 0) = false := by rw [hk]; rfl
          have HNJ : Hid ((n : Int) = (i : Int) * 4 + (j : Int) + 1 ∧ foH H i j = H n) := by
            have e1 : n = 4 * i + j + 1 := by
              have := HN.out.2.2.2 (4 * i + j + 1) (by omega)
              have := HJ.out.2
              by_cases e : 4 * i + j + 1 < n
              · exact absurd hk (HN.out.2.2.2 (4 * i + j + 1) (by omega) e)
              · omega
            exact ⟨by omega, by rw [e1]; rfl⟩
          rw [hkb]
          clear hk hkb
          go_wp2_with fail
          have q5d : Blk w5.drew wr.heap.size 140 (hdC (foH H i j)) := q5
          have r5d : Blk w5.drew w.heap.size 140 (hdC hd00) := HR5.out.1
          have HB5d : Hid (Below w.heap.size w w5.drew ∧ w.heap.size < wr.heap.size) := ⟨HR5.out.2.1.drew, HR5.out.2.2⟩
          have HNU1 := HNU.out i j HI.out.2 HJ.out.1
          clear q5 HR5 HFF HNU
          refine wp_region_partsS (fun W => Blk W wr.heap.size 140 (hdC (foH H i j))) [([0, 1], 3, true), ([], 2, false), ([], 4, false), ([], 5, false)] [6] [] (by kernel_rfl) (by kernel_rfl) q5d (partsI_yield ?_)
          generalize w5.drew = w6 at *
          simp only [sgLHDiSort1]
          go_wp2_with fail
          refine ⟨rfl, _, .agg (hdC (foH H i j)), rfl, kyields_load (by rfl) 140 _ (by rfl) wr.heap.size 45 (hdF (foH H i j)) (by rfl) _ 140 (fun W hW => hW) Tryz.underlying140 rfl sizeHd, partsI_force ?_⟩
          simp only [Act.put, sgPHDiSort1]
          simp only [sgLHDiSort1]
          go_wp2_with fail
          refine (HNU1 _).mono ?_
          rintro e w9 ⟨rfl, hw9⟩
          subst w9
          go_wp2_with fail
          refine ⟨rfl, q5d, partsI_force ?_⟩
          simp only [sgLHDiSort1]
          go_wp2_with fail
          refine ⟨rfl, q5d, partsI_force ?_⟩
          simp only [sgLHDiSort1]
          (refine wpList_store_row (by rfl) 140 _ _ (by rfl) (w.heap.size) (hdC (foH H i j)) (by rfl) (by rfl) 140 (hdC hd00) (by exact r5d) (sizeHd.trans (by rw [hdC_size])) (by simp only [hdC_size]) (hdC_all _) ?_; simp only [Act.put, sgPHDiSort1])
          go_wp2_with fail
          refine ⟨rfl, (q5d.other _ (by have := HB5d.out.2; omega)), partsI_last ?_⟩
          simp only [sgLHDiSort1]
          go_wp2_with fail
          refine ⟨rfl, ?_⟩
          go_wp2_with fail
          try simp only [Exit.inBlock, Exit.then]
          refine bodyPost_ret (res_tct Tryz.results44 _ _ (w.heap.size) 140 (hdC (foH H i j)) (0, 0) _ rfl (r5d.set _) Tryz.underlying140 rfl (sizeHd.trans (by rw [hdC_size]))) rfl ?_
          exact ⟨by rw [HNJ.out.1, ← HNJ.out.2]; rfl, below_setRow HB5d.out.1 (Nat.le_refl _) _⟩
        · have hkb : ((foH H i j).k != 0) = true := by simp [hk]
          have HNX : Hid (4 * i + (j + 1) < n) := by
            have := HJ.out.2
            by_cases e : n = 4 * i + j + 1
            · exact absurd (by rw [show foH H i j = H n by rw [e]; rfl]; exact HN.out.2.2.1) hk
            · show 4 * i + (j + 1) < n
              omega
          rw [hkb]
          clear hk hkb q5
          go_wp2_with fail
          go_roundw
          case rel => exact ⟨j + 1, by have := HJ.out.1; omega, HNX.out, by first | rfl | go_num | simp, HR5.out.1, HR5.out.2.1⟩
          case measure => simp [intOf]; have := HJ.out; omega
      · obtain rfl : j = 4 := by omega
        have HR6 : Hid (Blk wr w.heap.size 140 (hdC hd00) ∧ Below w.heap.size w wr ∧ 4 * (i + 1) < n) := ⟨r1, hb1, by omega⟩
        clear r1 hb1 hj hjn hj4
        go_wp2_with fail
        go_roundw
        case rel => exact ⟨i + 1, HR6.out.2.2, by first | rfl | go_num | simp, HR6.out.1, HR6.out.2.1⟩
        case measure => simp [intOf]; have := HI.out; omega
end
end Go.Proofs.YtimjggkdpmgpjaaGreatDoor

namespace Go.Proofs.YtimjggkdpmgpjaaGreatDoor
open Go Go.RowKit
set_option linter.unusedSimpArgs false
set_option linter.unusedVariables false
theorem Turns.cells {S : Nat → Prop} (b : Nat) (hS : S b) (vs : List Value) (k : Nat) (w w' : World) (h : Turns S w w') : Turns S w (w'.setCells b k vs) := by
  induction vs generalizing k w' with
  | nil => exact h
  | cons v vs ih => exact ih (k + 1) _ (h.tr (Turns.cell w' b k v hS))
section
variable {w w' : World} {x mf ml mc : Nat} {cp : Option Addr} {top : Int} {H : Nat → Hd} {D : Nat → Nat → Nat → Nat}
end
end Go.Proofs.YtimjggkdpmgpjaaGreatDoor

namespace Go.Proofs.YtimjggkdpmgpjaaGreatDoor
open Go Go.RowKit
set_option linter.unusedSimpArgs false
set_option linter.unusedVariables false
theorem Turns.kept {V w' : World} {mf x : Nat} (h : Keeps mf V w') : Turns (fun z => z = x ∨ z = mf) V w' := ⟨h.1.os, h.1.tape, h.1.output, h.1.size, fun k hk hn => h.2 k (fun e => hn (.inr e)) hk⟩
section
variable {w w' : World} {x mf ml mc : Nat} {cp : Option Addr} {top : Int} {H : Nat → Hd} {D : Nat → Nat → Nat → Nat}
theorem IM.setTop (h : IM w x mf ml mc cp top H D) (t : Int) : IM (w.setCell ⟨x, 36, none⟩ (.int .i64 t)) x mf ml mc cp t H D := by
  obtain ⟨M, m1, m2⟩ := h.fm
  obtain ⟨M', l1, l2⟩ := h.lm
  obtain ⟨c, hc⟩ := h.cm
  have hx : Blk (w.setCell ⟨x, 36, none⟩ (.int .i64 t)) x 136 (ixC cp 0 rf0 0 t mf ml mc) := by
    have := h.ix.put 36 (.int .i64 t)
    rw [ix_top] at this
    exact this
  exact ⟨hx, ⟨M, m1.keep (Below.heap_setCell _ _ _ _ (Ne.symm h.ne.1)), m2⟩, ⟨M', l1.keep (Below.heap_setCell _ _ _ _ (Ne.symm h.ne.2.1)), l2⟩, ⟨c, (Below.heap_setCell _ _ _ _ (Ne.symm h.ne.2.2.1)).trans hc⟩, h.ne⟩
set_option maxRecDepth 100000 in
set_option maxHeartbeats 8000000 in
theorem IM.make (h : IM w x mf ml mc cp top H D) (n : Nat) (h1 : 1 ≤ n) (h2 : n ≤ 4096) (hk : (H n).k = 0) (hm : ∀ m, 1 ≤ m → m < n → (H m).k ≠ 0) (kd : Int) (hkd : kd = 1 ∨ kd = 2) (st : Nat) (ht0 : 0 ≤ top ∧ top ≤ 4096) : Calls Tryz.prog 22 #[.pointer (some ⟨x, 0, none⟩), .int .i64 kd, .int .u64 ((st : Nat) : Int)] w fun e w' => e = .returned (.tuple #[.int .i64 (n : Int), .int .i64 0]) ∧ IM w' x mf ml mc cp (max top (n : Int)) (hU H n (hdN (H n) (n : Int) kd 1 0 st)) D ∧ Turns (fun z => z = x ∨ z = mf) w w' := by
  have hz2 := zero_hd
  have HFR : Hid (Calls Tryz.prog 44 #[.pointer (some ⟨x, 0, none⟩)] w fun e w' => e = .returned (.tuple #[.int .i64 (n : Int), .agg (hdC (H n)), .int .i64 0]) ∧ Below w.heap.size w w') := h.free n h1 h2 hk hm
  have HI : Hid (IM w x mf ml mc cp top H D) := h
  have HN : Hid (1 ≤ n ∧ n ≤ 4096) := ⟨h1, h2⟩
  obtain ⟨T, hT⟩ : ∃ T, max top (n : Int) = T := ⟨_, rfl⟩
  rw [hT]
  have HT : Hid (max top (n : Int) = T) := hT
  clear h h1 h2 hk hm hT
  go_enter Tryz.func22, Tryz.ntmps22
  rcases hkd with rfl | rfl
  · skip
    have HPU : Hid (∀ V, IM V x mf ml mc cp top H D → Calls Tryz.prog 45 #[.pointer (some ⟨x, 0, none⟩), .int .i64 (n : Int), .agg (hdC (hdN (H n) (n : Int) 1 1 0 st))] V fun e w' => e = .returned (.tuple #[]) ∧ IM w' x mf ml mc cp top (hU H n (hdN (H n) (n : Int) 1 1 0 st)) D ∧ Keeps mf V w') := fun V hV => hV.put n HN.out.1 HN.out.2 _
    go_wp2_with fail
    refine HFR.out.mono ?_
    rintro e w2 ⟨rfl, hb2⟩
    have HX2 : Hid (IM w2 x mf ml mc cp top H D ∧ Below w.heap.size w w2) := ⟨HI.out.below hb2, hb2⟩
    have q3 : Blk (w2.alloc (.cells (hdC hd00) 140)) w2.heap.size 140 (hdC hd00) := Blk.new _ _ _
    have q3' := q3.set (hdC (H n))
    have HB3 : Hid (Below w2.heap.size w2 ((w2.alloc (.cells (hdC hd00) 140)).setRow w2.heap.size (hdC (H n)))) := below_setRow (below_new1 _ _) (Nat.le_refl _) _
    clear hb2 HFR
    go_upto_region 6 with (first
      | (refine wpList_store_row (by rfl) 140 _ _ (by rfl) (w2.heap.size) (hdC (H n)) (by rfl) (by rfl) 140 (hdC hd00) (by exact q3) (sizeHd.trans (by rw [hdC_size])) (by simp only [hdC_size]) (hdC_all _) ?_; simp only [Act.put, sgPHDiSort1])
      | fail)
    clear q3
    generalize ((w2.alloc (.cells (hdC hd00) 140)).setRow w2.heap.size (hdC (H n))) = w3 at *
    have c38 := hd_c38 q3'
    have f38 : w3.frozen? ⟨w2.heap.size, 38, none⟩ = false := q3'.frozen 38
    have c39 := hd_c39 q3'
    have f39 : w3.frozen? ⟨w2.heap.size, 39, none⟩ = false := q3'.frozen 39
    have c40 := hd_c40 q3'
    have f40 : w3.frozen? ⟨w2.heap.size, 40, none⟩ = false := q3'.frozen 40
    have c41 := hd_c41 q3'
    have f41 : w3.frozen? ⟨w2.heap.size, 41, none⟩ = false := q3'.frozen 41
    have c42 := hd_c42 q3'
    have f42 : w3.frozen? ⟨w2.heap.size, 42, none⟩ = false := q3'.frozen 42
    have q4 : Hid (Blk (((((w3.setCell ⟨w2.heap.size, 38, none⟩ (.int .i64 (n : Int))).setCell ⟨w2.heap.size, 39, none⟩ (.int .i64 1)).setCell ⟨w2.heap.size, 40, none⟩ (.int .i64 1)).setCell ⟨w2.heap.size, 41, none⟩ (.int .i64 0)).setCell ⟨w2.heap.size, 42, none⟩ (.int .u64 ((st : Nat) : Int))) w2.heap.size 140 (hdC (hdN (H n) (n : Int) 1 1 0 st))) := hd_putNow q3' (n : Int) 1 1 0 st
    have HX4 : Hid (IM (((((w3.setCell ⟨w2.heap.size, 38, none⟩ (.int .i64 (n : Int))).setCell ⟨w2.heap.size, 39, none⟩ (.int .i64 1)).setCell ⟨w2.heap.size, 40, none⟩ (.int .i64 1)).setCell ⟨w2.heap.size, 41, none⟩ (.int .i64 0)).setCell ⟨w2.heap.size, 42, none⟩ (.int .u64 ((st : Nat) : Int))) x mf ml mc cp top H D ∧ Below w.heap.size w (((((w3.setCell ⟨w2.heap.size, 38, none⟩ (.int .i64 (n : Int))).setCell ⟨w2.heap.size, 39, none⟩ (.int .i64 1)).setCell ⟨w2.heap.size, 40, none⟩ (.int .i64 1)).setCell ⟨w2.heap.size, 41, none⟩ (.int .i64 0)).setCell ⟨w2.heap.size, 42, none⟩ (.int .u64 ((st : Nat) : Int)))) := by
      have hb4 : Below w2.heap.size w2 (((((w3.setCell ⟨w2.heap.size, 38, none⟩ (.int .i64 (n : Int))).setCell ⟨w2.heap.size, 39, none⟩ (.int .i64 1)).setCell ⟨w2.heap.size, 40, none⟩ (.int .i64 1)).setCell ⟨w2.heap.size, 41, none⟩ (.int .i64 0)).setCell ⟨w2.heap.size, 42, none⟩ (.int .u64 ((st : Nat) : Int))) := below_setCells (Nat.le_refl _) [.int .i64 (n : Int), .int .i64 1, .int .i64 1, .int .i64 0, .int .u64 ((st : Nat) : Int)] 38 _ HB3.out
      exact ⟨HX2.out.1.below hb4, HX2.out.2.trans (hb4.mono HX2.out.2.size)⟩
    clear q3' HX2 HB3
    go_wp2_with (first
      | (refine wpList_load_rowg (by rfl) 140 _ (by rfl) (w2.heap.size) (by rfl) 140 (hdC (hdN (H n) (n : Int) 1 1 0 st)) (0, 0) _ (by exact q4.out) Tryz.underlying140 (by rfl) (sizeHd.trans (by rw [hdC_size])) ?_; simp only [Act.put, sgPHDiSort1])
      | fail)
    refine (HPU.out _ HX4.out.1).mono ?_
    rintro e w5 ⟨rfl, hI5, hk5⟩
    have x5 := hI5.ix
    have d36 := ix_c36 x5
    have e36 : w5.frozen? ⟨x, 36, none⟩ = false := x5.frozen 36
    have HE : Hid (∀ t : Int, IM (w5.setCell ⟨x, 36, none⟩ (.int .i64 t)) x mf ml mc cp t (hU H n (hdN (H n) (n : Int) 1 1 0 st)) D ∧ Turns (fun z => z = x ∨ z = mf) w (w5.setCell ⟨x, 36, none⟩ (.int .i64 t))) := fun t => ⟨hI5.setTop t, ((Turns.bel HX4.out.2).tr (Turns.kept hk5)).tr (Turns.cell w5 x 36 _ (.inl rfl))⟩
    clear hI5 hk5 x5 HX4 q4 HPU c38 c39 c40 c41 c42 f38 f39 f40 f41 f42
    go_wp2_with fail
    go_ret2
    exact ⟨rfl, by rw [← HT.out]; exact (HE.out _).1, (HE.out _).2⟩
  · skip
    have HPU : Hid (∀ V, IM V x mf ml mc cp top H D → Calls Tryz.prog 45 #[.pointer (some ⟨x, 0, none⟩), .int .i64 (n : Int), .agg (hdC (hdN (H n) (n : Int) 2 1 0 st))] V fun e w' => e = .returned (.tuple #[]) ∧ IM w' x mf ml mc cp top (hU H n (hdN (H n) (n : Int) 2 1 0 st)) D ∧ Keeps mf V w') := fun V hV => hV.put n HN.out.1 HN.out.2 _
    go_wp2_with fail
    refine HFR.out.mono ?_
    rintro e w2 ⟨rfl, hb2⟩
    have HX2 : Hid (IM w2 x mf ml mc cp top H D ∧ Below w.heap.size w w2) := ⟨HI.out.below hb2, hb2⟩
    have q3 : Blk (w2.alloc (.cells (hdC hd00) 140)) w2.heap.size 140 (hdC hd00) := Blk.new _ _ _
    have q3' := q3.set (hdC (H n))
    have HB3 : Hid (Below w2.heap.size w2 ((w2.alloc (.cells (hdC hd00) 140)).setRow w2.heap.size (hdC (H n)))) := below_setRow (below_new1 _ _) (Nat.le_refl _) _
    clear hb2 HFR
    go_upto_region 6 with (first
      | (refine wpList_store_row (by rfl) 140 _ _ (by rfl) (w2.heap.size) (hdC (H n)) (by rfl) (by rfl) 140 (hdC hd00) (by exact q3) (sizeHd.trans (by rw [hdC_size])) (by simp only [hdC_size]) (hdC_all _) ?_; simp only [Act.put, sgPHDiSort1])
      | fail)
    clear q3
    generalize ((w2.alloc (.cells (hdC hd00) 140)).setRow w2.heap.size (hdC (H n))) = w3 at *
    have c38 := hd_c38 q3'
    have f38 : w3.frozen? ⟨w2.heap.size, 38, none⟩ = false := q3'.frozen 38
    have c39 := hd_c39 q3'
    have f39 : w3.frozen? ⟨w2.heap.size, 39, none⟩ = false := q3'.frozen 39
    have c40 := hd_c40 q3'
    have f40 : w3.frozen? ⟨w2.heap.size, 40, none⟩ = false := q3'.frozen 40
    have c41 := hd_c41 q3'
    have f41 : w3.frozen? ⟨w2.heap.size, 41, none⟩ = false := q3'.frozen 41
    have c42 := hd_c42 q3'
    have f42 : w3.frozen? ⟨w2.heap.size, 42, none⟩ = false := q3'.frozen 42
    have q4 : Hid (Blk (((((w3.setCell ⟨w2.heap.size, 38, none⟩ (.int .i64 (n : Int))).setCell ⟨w2.heap.size, 39, none⟩ (.int .i64 2)).setCell ⟨w2.heap.size, 40, none⟩ (.int .i64 1)).setCell ⟨w2.heap.size, 41, none⟩ (.int .i64 0)).setCell ⟨w2.heap.size, 42, none⟩ (.int .u64 ((st : Nat) : Int))) w2.heap.size 140 (hdC (hdN (H n) (n : Int) 2 1 0 st))) := hd_putNow q3' (n : Int) 2 1 0 st
    have HX4 : Hid (IM (((((w3.setCell ⟨w2.heap.size, 38, none⟩ (.int .i64 (n : Int))).setCell ⟨w2.heap.size, 39, none⟩ (.int .i64 2)).setCell ⟨w2.heap.size, 40, none⟩ (.int .i64 1)).setCell ⟨w2.heap.size, 41, none⟩ (.int .i64 0)).setCell ⟨w2.heap.size, 42, none⟩ (.int .u64 ((st : Nat) : Int))) x mf ml mc cp top H D ∧ Below w.heap.size w (((((w3.setCell ⟨w2.heap.size, 38, none⟩ (.int .i64 (n : Int))).setCell ⟨w2.heap.size, 39, none⟩ (.int .i64 2)).setCell ⟨w2.heap.size, 40, none⟩ (.int .i64 1)).setCell ⟨w2.heap.size, 41, none⟩ (.int .i64 0)).setCell ⟨w2.heap.size, 42, none⟩ (.int .u64 ((st : Nat) : Int)))) := by
      have hb4 : Below w2.heap.size w2 (((((w3.setCell ⟨w2.heap.size, 38, none⟩ (.int .i64 (n : Int))).setCell ⟨w2.heap.size, 39, none⟩ (.int .i64 2)).setCell ⟨w2.heap.size, 40, none⟩ (.int .i64 1)).setCell ⟨w2.heap.size, 41, none⟩ (.int .i64 0)).setCell ⟨w2.heap.size, 42, none⟩ (.int .u64 ((st : Nat) : Int))) := below_setCells (Nat.le_refl _) [.int .i64 (n : Int), .int .i64 2, .int .i64 1, .int .i64 0, .int .u64 ((st : Nat) : Int)] 38 _ HB3.out
      exact ⟨HX2.out.1.below hb4, HX2.out.2.trans (hb4.mono HX2.out.2.size)⟩
    clear q3' HX2 HB3
    go_wp2_with (first
      | (refine wpList_load_rowg (by rfl) 140 _ (by rfl) (w2.heap.size) (by rfl) 140 (hdC (hdN (H n) (n : Int) 2 1 0 st)) (0, 0) _ (by exact q4.out) Tryz.underlying140 (by rfl) (sizeHd.trans (by rw [hdC_size])) ?_; simp only [Act.put, sgPHDiSort1])
      | fail)
    refine (HPU.out _ HX4.out.1).mono ?_
    rintro e w5 ⟨rfl, hI5, hk5⟩
    have x5 := hI5.ix
    have d36 := ix_c36 x5
    have e36 : w5.frozen? ⟨x, 36, none⟩ = false := x5.frozen 36
    have HE : Hid (∀ t : Int, IM (w5.setCell ⟨x, 36, none⟩ (.int .i64 t)) x mf ml mc cp t (hU H n (hdN (H n) (n : Int) 2 1 0 st)) D ∧ Turns (fun z => z = x ∨ z = mf) w (w5.setCell ⟨x, 36, none⟩ (.int .i64 t))) := fun t => ⟨hI5.setTop t, ((Turns.bel HX4.out.2).tr (Turns.kept hk5)).tr (Turns.cell w5 x 36 _ (.inl rfl))⟩
    clear hI5 hk5 x5 HX4 q4 HPU c38 c39 c40 c41 c42 f38 f39 f40 f41 f42
    go_wp2_with fail
    go_ret2
    exact ⟨rfl, by rw [← HT.out]; exact (HE.out _).1, (HE.out _).2⟩
end
end Go.Proofs.YtimjggkdpmgpjaaGreatDoor

namespace Go.Proofs.YtimjggkdpmgpjaaGreatDoor
set_option maxRecDepth 20000
open Go Go.RowKit
set_option linter.unusedVariables false
set_option linter.unusedSimpArgs false
/-- entries of a caller's slice -/
def IsLkC (W : World) (a : Option Addr) (n : Nat) (N : Nat → Int) (S : Nat → ByteArray) : Prop := ∀ i, i < n → ∃ b o, a = some ⟨b, o, none⟩ ∧ b < W.heap.size ∧ W.cell? ⟨b, o + i * 2, none⟩ = some (.int .i64 (N i)) ∧ W.cell? ⟨b, o + i * 2 + 1, none⟩ = some (.string (S i))
theorem IsLkC.below {W V : World} {a : Option Addr} {n : Nat} {N : Nat → Int} {S : Nat → ByteArray} (h : IsLkC W a n N S) (hb : Below W.heap.size W V) : IsLkC V a n N S := fun i hi => by
  obtain ⟨b, o, h1, h2, h3, h4⟩ := h i hi
  exact ⟨b, o, h1, Nat.lt_of_lt_of_le h2 hb.size, (hb.cell h2).trans h3, (hb.cell h2).trans h4⟩
end Go.Proofs.YtimjggkdpmgpjaaGreatDoor

namespace Go.Proofs.YtimjggkdpmgpjaaGreatDoor
open Go Go.RowKit
set_option linter.unusedSimpArgs false
set_option linter.unusedVariables false
set_option maxRecDepth 100000 in
set_option maxHeartbeats 4000000 in
/-- the document's Find: p is the first place with the name, or how many there are -/
theorem rfind17_any (a : Option Addr) (n c p : Nat) (hn : n ≤ 140737488351232) (N : Nat → Int) (S : Nat → ByteArray) (s : ByteArray) (hp : FirstN S n p s) (r0 r1 : Int) (h0 : r0 = if p < n then N p else 0) (h1 : r1 = if p < n then (p : Int) else -1) (w : World) (hI : IsLkC w a n N S) : Calls Tryz.prog 47 #[.slice a n c, .string s] w fun e w' => e = .returned (.tuple #[.int .i64 r0, .int .i64 r1]) ∧ w' = w := by
  have HP : Hid (FirstN S n p s ∧ (r0 = if p < n then N p else 0) ∧ (r1 = if p < n then (p : Int) else -1)) := ⟨hp, h0, h1⟩
  have HI : Hid (IsLkC w a n N S) := hI
  clear hp h0 h1 hI
  go_enter Tryz.func47, Tryz.ntmps47
  go_wp2_with fail
  go_loopw [6] (fun v wr => Hid (∃ i : Nat, i ≤ n ∧ i ≤ p ∧ v = .int .i64 (i : Int) ∧ wr = w)) (fun v _ => n - (intOf v).toNat)
  case atStart => exact ⟨0, Nat.zero_le _, Nat.zero_le _, rfl, rfl⟩
  case round =>
    obtain ⟨i, hi, hip, rfl, rfl⟩ := Hid.out hrel
    clear hrel
    by_cases hlt : i < n
    · have i0 : (0 : Int) ≤ (i : Int) := by omega
      have i1 : (i : Int) < (n : Int) := by omega
      obtain ⟨b, o, rfl, hb, c1, c2⟩ := HI.out i hlt
      by_cases hq : i = p
      · have e1 : ((S i).toList == s.toList) = true := eqT (by rw [hq]; exact HP.out.1.2.2 (by omega))
        have HR : Hid (r0 = N i ∧ r1 = (i : Int)) := by
          have h := HP.out
          rw [if_pos (show p < n by omega)] at h
          rw [if_pos (show p < n by omega)] at h
          rw [hq]
          exact h.2
        clear hq
        go_wp2_with fail
        go_ret2
        exact ⟨by rw [HR.out.1, HR.out.2]; rfl, rfl⟩
      · have e1 : ((S i).toList == s.toList) = false := neT (HP.out.1.2.1 i (by omega))
        have HL : Hid (i + 1 ≤ n ∧ i + 1 ≤ p) := ⟨by omega, by omega⟩
        clear hq
        go_wp2_with fail
        refine ⟨⟨i + 1, HL.out.1, HL.out.2, by simp, trivial⟩, ?_⟩
        simp only [intOf]
        have := HL.out.1
        omega
    · have i1 : ¬ ((i : Int) < (n : Int)) := by omega
      have HR : Hid (r0 = 0 ∧ r1 = -1) := by
        have h := HP.out
        have hpn : ¬ p < n := by omega
        rw [if_neg hpn] at h
        rw [if_neg hpn] at h
        exact h.2
      clear hlt
      go_wp2_with fail
      go_ret2
      exact ⟨by rw [HR.out.1, HR.out.2]; rfl, rfl⟩
end Go.Proofs.YtimjggkdpmgpjaaGreatDoor

namespace Go.Proofs.YtimjggkdpmgpjaaGreatDoor
open Go Go.RowKit

/-- the plan of a region's walk -/
inductive PlanW where
  | fin (takes : List Nat)
  | force (ts : List Nat) (i : Nat) (next : PlanW)
  | yield (ts : List Nat) (i : Nat) (next : PlanW)
  | fork (i j : Nat) (p q : PlanW)
def PlanW.len (tl : List Nat) : PlanW → Nat
  | .fin takes => takes.length + tl.length
  | .force ts _ p => ts.length + (1 + p.len tl)
  | .yield ts _ p => ts.length + (1 + p.len tl)
  | .fork _ _ p _ => p.len tl + 1
/-- the check -/
def PlanW.ok (ops : Array Oper) (tl : List Nat) : PlanW → Array Bool → Bool
  | .fin takes, listed => match takesB .any ops tl [] takes listed with
    | some l => tailB .any ops tl tl l
    | none => false
  | .force ts i p, listed => match takesB .any ops tl [] ts listed with
    | some l => forceW .any ops l i && !tl.contains i && p.ok ops tl (l.setIfInBounds i true)
    | none => false
  | .yield ts i p, listed => match takesB .any ops tl [] ts listed with
    | some l => yieldW .any ops l tl i && p.ok ops tl (l.setIfInBounds i true)
    | none => false
  | .fork i j p q, listed => Region.ready .any ops listed == [i, j] && (ops[i]?).isSome && (ops[j]?).isSome && !tl.contains i && !tl.contains j && p.len tl == q.len tl && p.ok ops tl (listed.setIfInBounds i true) && q.ok ops tl (listed.setIfInBounds j true)
def PlanW.whole (ops : Array Oper) (tl : List Nat) (p : PlanW) : Bool := p.len tl == ops.size && Region.noSelect ops && p.ok ops tl (Array.replicate ops.size false)
section
variable {P : Program} {ops : Array Oper} {Q : Exit → Act → World → Prop} {S : World → Prop}
/-- the walk -/
def wpPlanW (P : Program) (ops : Array Oper) (Q : Exit → Act → World → Prop) (S : World → Prop) (tl : List Nat) : PlanW → Act → World → Prop
  | .fin takes, a, w => wpList P ops (Strict Q) ((takes ++ tl).filterMap fun i => ops[i]?) a w
  | .force ts i p, a, w => wpList P ops (Strict fun _ a' w' => S w' ∧ wpPlanW P ops Q S tl p a' w') ((ts ++ [i]).filterMap fun i => ops[i]?) a w
  | .yield ts i p, a, w => wpList P ops (Strict fun _ a' w' => ∃ o v, ops[i]? = some o ∧ YieldsIf P ops S o v a' ∧ wpPlanW P ops Q S tl p (a'.put o.dst v) w') ((ts ++ []).filterMap fun i => ops[i]?) a w
  | .fork i j p q, a, w => wpList P ops (Strict fun _ a' w' => S w' ∧ wpPlanW P ops Q S tl p a' w') ([i].filterMap fun i => ops[i]?) a w ∧ wpList P ops (Strict fun _ a' w' => S w' ∧ wpPlanW P ops Q S tl q a' w') ([j].filterMap fun i => ops[i]?) a w
theorem planW_step (hs : Region.noSelect ops = true) (tl : List Nat) : ∀ (p : PlanW) (listed : Array Bool) (a : Act) (w : World), p.ok ops tl listed = true → S w →
      wpPlanW P ops Q S tl p a w → wpAnyW P .any ops (Strict Q) S (tl.contains ·) (p.len tl) listed a w
  | .fin takes, listed, a, w, hb, hS, h => by
    unfold PlanW.ok at hb
    split at hb
    · rename_i l2 hl2
      exact takesS_step hs tl tl.length Q takes listed l2 a w hl2 (fun a' w' _ h' => tailS_step tl l2 a' w' hb h') hS h
    · cases hb
  | .force ts i p, listed, a, w, hb, hS, h => by
    unfold PlanW.ok at hb
    split at hb
    · rename_i l2 hl2
      simp only [Bool.and_eq_true] at hb
      refine takesS_step hs [i] _ _ ts listed l2 a w hl2 (fun a' w' _ h' => ?_) hS h
      obtain ⟨o, ho⟩ := has_op' hb.1.1
      rw [Nat.add_comm 1]
      refine forceS_step hb.1.1 (wpOp_mono (fun a2 w2 h2 => ?_) (wpOp_strict (wpList_one ho h')))
      have h3 := h2.2
      exact ⟨fun _ => h3.1, planW_step hs tl p _ a2 w2 hb.2 h3.1 h3.2⟩
    · cases hb
  | .yield ts i p, listed, a, w, hb, hS, h => by
    unfold PlanW.ok at hb
    split at hb
    · rename_i l2 hl2
      simp only [Bool.and_eq_true] at hb
      refine takesS_step hs [] _ _ ts listed l2 a w hl2 (fun a' w' hS' h' => ?_) hS h
      obtain ⟨-, o, v, ho, hy, hn⟩ := h'
      have hc := hb.1
      unfold yieldW at hc
      rw [ho] at hc
      simp only [Bool.and_eq_true, Bool.not_eq_true'] at hc
      rw [Nat.add_comm 1]
      exact takeS_gen hs ho hc.1.1.1 hc.1.1.2 hc.1.2 hc.2 hy hS' (planW_step hs tl p _ _ w' hb.2 hS' hn)
    · cases hb
  | .fork i j p q, listed, a, w, hb, hS, h => by
    simp only [PlanW.ok, Bool.and_eq_true, beq_iff_eq] at hb
    obtain ⟨⟨⟨⟨⟨⟨⟨hr, hi⟩, hj⟩, _⟩, _⟩, hl⟩, hp⟩, hq⟩ := hb
    refine ⟨fun h0 => (by rw [h0] at hr; cases hr), fun x hx => ?_⟩
    rw [hr] at hx
    have hx2 : x = i ∨ x = j := by simpa using hx
    rcases hx2 with rfl | rfl
    · obtain ⟨o, ho⟩ := Option.isSome_iff_exists.1 hi
      refine wpOp_mono (fun a' w' h' => ?_) (wpOp_strict (wpList_one ho h.1))
      exact ⟨fun _ => h'.2.1, planW_step hs tl p _ a' w' hp h'.2.1 h'.2.2⟩
    · obtain ⟨o, ho⟩ := Option.isSome_iff_exists.1 hj
      refine wpOp_mono (fun a' w' h' => ?_) (wpOp_strict (wpList_one ho h.2))
      have := planW_step hs tl q _ a' w' hq h'.2.1 h'.2.2
      rw [← hl] at this
      exact ⟨fun _ => h'.2.1, this⟩
/-- THE LAW. -/
theorem wp_region_planW {id : Nat} {a : Act} {w : World} (S : World → Prop) (tl : List Nat) (p : PlanW) (hm : P.follows .mixedOrders = true) (hB : p.whole ops tl = true)
    (hS : S w.drew) (h : wpPlanW P ops Q S tl p a w.drew) : (Code.region id ops true).wp P Q a w := by
  unfold PlanW.whole at hB
  simp only [Bool.and_eq_true, beq_iff_eq] at hB
  refine Code.wp_mono Strict.imp (wp_region_any hm ?_)
  rw [← hB.1.1]
  exact wpAny_of_W _ _ _ _ (planW_step hB.1.2 tl p _ a _ (by rw [hB.1.1]; exact hB.2) hS h)
theorem planW_force {tl ts : List Nat} {i : Nat} {p : PlanW} {a : Act} {w : World}
    (h : wpList P ops (Strict fun _ a' w' => S w' ∧ wpPlanW P ops Q S tl p a' w') ((ts ++ [i]).filterMap fun i => ops[i]?) a w) : wpPlanW P ops Q S tl (.force ts i p) a w := h
theorem planW_yield {tl ts : List Nat} {i : Nat} {p : PlanW} {a : Act} {w : World}
    (h : wpList P ops (Strict fun _ a' w' => ∃ o v, ops[i]? = some o ∧ YieldsIf P ops S o v a' ∧ wpPlanW P ops Q S tl p (a'.put o.dst v) w') ((ts ++ []).filterMap fun i => ops[i]?) a w) : wpPlanW P ops Q S tl (.yield ts i p) a w := h
theorem planW_fin {tl takes : List Nat} {a : Act} {w : World} (h : wpList P ops (Strict Q) ((takes ++ tl).filterMap fun i => ops[i]?) a w) : wpPlanW P ops Q S tl (.fin takes) a w := h
end
end Go.Proofs.YtimjggkdpmgpjaaGreatDoor

namespace Go.Proofs.YtimjggkdpmgpjaaGreatDoor
open Go Go.RowKit
set_option linter.unusedSimpArgs false
set_option linter.unusedVariables false
/-- a block of entries -/
def lbF (N : Nat → Int) (S : Nat → ByteArray) : Nat → Value := fun i => if i % 2 = 0 then .int .i64 (N (i / 2)) else .string (S (i / 2))
def lbC (tl : Array Value) (cap : Nat) (N : Nat → Int) (S : Nat → ByteArray) : Array Value := va (cap * 2) (lbF N S) ++ tl
section
variable {w : World} {g t cap : Nat} {N : Nat → Int} {S : Nat → ByteArray} {tl : Array Value}
theorem lb_at (h : Blk w g t (lbC tl cap N S)) (i : Nat) (hi : i < cap * 2) : w.cell? ⟨g, i, none⟩ = some (lbF N S i) := by
  rw [h.cell i]
  unfold lbC
  rw [Array.getElem?_append_left (by rw [va_size]; exact hi)]
  rw [Array.getElem?_eq_getElem (by rw [va_size]; exact hi)]
  simp [va]
theorem lb_c0 (h : Blk w g t (lbC tl cap N S)) (j : Nat) (hj : j < cap) : w.cell? ⟨g, j * 2, none⟩ = some (.int .i64 (N j)) := by
  have := lb_at h (j * 2) (by omega)
  unfold lbF at this
  rw [if_pos (by omega), show j * 2 / 2 = j by omega] at this
  exact this
theorem lb_c1 (h : Blk w g t (lbC tl cap N S)) (j : Nat) (hj : j < cap) : w.cell? ⟨g, j * 2 + 1, none⟩ = some (.string (S j)) := by
  have := lb_at h (j * 2 + 1) (by omega)
  unfold lbF at this
  rw [if_neg (by omega), show (j * 2 + 1) / 2 = j by omega] at this
  exact this
theorem lb_put (h : Blk w g t (lbC tl cap N S)) (j : Nat) (hj : j < cap) (i : Int) (s : ByteArray) : Blk ((w.setCell ⟨g, j * 2, none⟩ (.int .i64 i)).setCell ⟨g, j * 2 + 1, none⟩ (.string s)) g t (lbC tl cap (upN N j i) (upS S j s)) := by
  have e0 : va (cap * 2) (lbF (upN N j i) (upS S j s)) = ((va (cap * 2) (lbF N S)).setIfInBounds (j * 2) (.int .i64 i)).setIfInBounds (j * 2 + 1) (.string s) := by
    refine Array.ext (by rw [Array.size_setIfInBounds, Array.size_setIfInBounds, va_size, va_size]) fun q h1 h2 => ?_
    rw [va_size] at h1
    have q1 : q < ((va (cap * 2) (lbF N S)).setIfInBounds (j * 2) (.int .i64 i)).size := by rw [Array.size_setIfInBounds, va_size]; exact h1
    have q2 : q < (va (cap * 2) (lbF N S)).size := by rw [va_size]; exact h1
    rw [Array.getElem_setIfInBounds (hj := q1), Array.getElem_setIfInBounds (hj := q2)]
    by_cases c1 : j * 2 + 1 = q
    · rw [if_pos c1]
      simp [va, lbF, upS]
      rw [if_neg (by omega), if_pos (by omega)]
    · rw [if_neg c1]
      by_cases c2 : j * 2 = q
      · rw [if_pos c2]
        simp [va, lbF, upN]
        rw [if_pos (by omega), if_pos (by omega)]
      · rw [if_neg c2]
        simp [va, lbF, upN, upS]
        by_cases c3 : q % 2 = 0
        · rw [if_pos c3, if_pos c3, if_neg (by omega)]
        · rw [if_neg c3, if_neg c3, if_neg (by omega)]
  have e : lbC tl cap (upN N j i) (upS S j s) = ((lbC tl cap N S).setIfInBounds (j * 2) (.int .i64 i)).setIfInBounds (j * 2 + 1) (.string s) := by
    unfold lbC
    rw [e0, Array.setIfInBounds_append_left (by rw [va_size]; omega), Array.setIfInBounds_append_left (by rw [Array.size_setIfInBounds, va_size]; omega)]
  rw [e]
  exact (h.put _ _).put _ _
end
/-- two stretches of i swapped -/
def swF {α : Type} (f : Nat → α) (a b i : Nat) : Nat → α := fun p => if a ≤ p ∧ p < a + i then f (p - a + b) else if b ≤ p ∧ p < b + i then f (p - b + a) else f p
theorem sw_step {α : Type} (f : Nat → α) (a b i : Nat) (hab : a + i < b) (p : Nat) : swF f a b (i + 1) p = if p = b + i then swF f a b i (a + i) else if p = a + i then swF f a b i (b + i) else swF f a b i p := by
  unfold swF
  by_cases c1 : p = b + i
  · rw [if_pos c1, if_neg (by omega), if_pos (by omega), if_neg (by omega), if_neg (by omega)]
    congr 1
    omega
  · rw [if_neg c1]
    by_cases c2 : p = a + i
    · rw [if_pos c2, if_pos (by omega), if_neg (by omega), if_neg (by omega)]
      congr 1
      omega
    · rw [if_neg c2]
      by_cases c3 : a ≤ p ∧ p < a + i
      · rw [if_pos c3, if_pos (by omega)]
      · rw [if_neg c3, if_neg (by omega)]
        by_cases c4 : b ≤ p ∧ p < b + i
        · rw [if_pos c4, if_pos (by omega)]
        · rw [if_neg c4, if_neg (by omega)]
set_option maxRecDepth 100000 in
set_option maxHeartbeats 8000000 in
theorem swapRange_any (tl : Array Value) (g n c cap a b m : Nat) (N : Nat → Int) (S : Nat → ByteArray) (hab : a + m ≤ b) (hbn : b + m ≤ n) (hnc : n ≤ cap) (hn : n ≤ 1000000000000000) (fv : Value) (w : World) (hB : Blk w g 54 (lbC tl cap N S)) : Calls Tryz.prog 216 #[.slice (some ⟨g, 0, none⟩) n c, .int .i64 (a : Int), .int .i64 (b : Int), .int .i64 (m : Int), fv] w fun e w' => e = .returned (.tuple #[]) ∧ Blk w' g 54 (lbC tl cap (swF N a b m) (swF S a b m)) ∧ Turns (fun z => z = g) w w' := by
  have H0 : Hid (Blk w g 54 (lbC tl cap N S)) := hB
  have nb : (n : Int) ≤ 1000000000000000 := by omega
  clear hB
  go_enter Tryz.func216, Tryz.ntmps216
  go_wp2_with fail
  go_loopw [10] (fun v wr => Hid (∃ i : Nat, i ≤ m ∧ v = .int .i64 (i : Int) ∧ Blk wr g 54 (lbC tl cap (swF N a b i) (swF S a b i)) ∧ Turns (fun z => z = g) w wr)) (fun v _ => m - (intOf v).toNat)
  case atStart => exact ⟨0, Nat.zero_le _, rfl, by
    have e : ∀ {α : Type} (f : Nat → α), swF f a b 0 = f := fun f => funext fun p => by unfold swF; rw [if_neg (by omega), if_neg (by omega)]
    rw [e, e]
    exact H0.out, Turns.bel (Below.refl _ _)⟩
  case round =>
    obtain ⟨i, him, rfl, hBi, hTi⟩ := Hid.out hrel
    have HT : Hid (Turns (fun z => z = g) w wr) := hTi
    clear hrel hTi H0
    by_cases hin : i < m
    · have i1 : (i : Int) < (m : Int) := by omega
      obtain ⟨ai, hai⟩ : ∃ q, q = a + i := ⟨_, rfl⟩
      obtain ⟨bi, hbi⟩ : ∃ q, q = b + i := ⟨_, rfl⟩
      have ea : (a : Int) + (i : Int) = (ai : Int) := by omega
      have eb : (b : Int) + (i : Int) = (bi : Int) := by omega
      have wa : IntKind.i64.wrap (ai : Int) = (ai : Int) := by simp [IntKind.wrap, IntKind.signed, IntKind.bits]; omega
      have wb : IntKind.i64.wrap (bi : Int) = (bi : Int) := by simp [IntKind.wrap, IntKind.signed, IntKind.bits]; omega
      have la : (ai : Int) < (n : Int) := by omega
      have lb : (bi : Int) < (n : Int) := by omega
      have hac : ai < cap := by omega
      have hbc : bi < cap := by omega
      have HNX : Hid (∀ W, Blk W g 54 (lbC tl cap (upN (upN (swF N a b i) ai (swF N a b i bi)) bi (swF N a b i ai)) (upS (upS (swF S a b i) ai (swF S a b i bi)) bi (swF S a b i ai))) → Blk W g 54 (lbC tl cap (swF N a b (i + 1)) (swF S a b (i + 1)))) := fun W hW => by
        have e1 : upN (upN (swF N a b i) ai (swF N a b i bi)) bi (swF N a b i ai) = swF N a b (i + 1) := funext fun p => by
          unfold upN
          rw [sw_step N a b i (by omega) p, hai, hbi]
        have e2 : upS (upS (swF S a b i) ai (swF S a b i bi)) bi (swF S a b i ai) = swF S a b (i + 1) := funext fun p => by
          unfold upS
          rw [sw_step S a b i (by omega) p, hai, hbi]
        rw [e1, e2] at hW
        exact hW
      have hne : bi ≠ ai := by omega
      clear hai hbi
      generalize swF N a b i = N1 at *
      generalize swF S a b i = S1 at *
      go_wp2_with fail
      have hSd : Blk wr.drew g 54 (lbC tl cap N1 S1) := hBi.drew
      have HTD : Hid (Turns (fun z => z = g) w wr.drew) := HT.out.drew
      refine wp_region_planW (fun W => ∃ N2 S2, N2 bi = N1 bi ∧ S2 bi = S1 bi ∧ Blk W g 54 (lbC tl cap N2 S2)) [22, 23] (.yield [0, 1, 2] 3 (.yield [4, 5, 6] 7 (.yield [8, 9, 10] 11 (.yield [14, 15, 16] 17 (.yield [] 12 (.yield [] 18 (.yield [] 13 (.force [] 19 (.force [] 20 (.force [] 21 (.fin []))))))))))) (by kernel_rfl) (by kernel_rfl) ⟨N1, S1, rfl, rfl, hSd⟩ (planW_yield ?_)
      generalize wr.drew = w2 at *
      simp only [sgLHDiSort1]
      go_wp2_with fail
      refine ⟨rfl, _, .int .i64 (ai : Int), rfl, Or.inl ⟨by rfl, fun W hW => by go_simp⟩, planW_yield ?_⟩
      simp only [Act.put, sgPHDiSort1]
      simp only [sgLHDiSort1]
      go_wp2_with fail
      refine ⟨rfl, _, .int .i64 (bi : Int), rfl, Or.inl ⟨by rfl, fun W hW => by go_simp⟩, planW_yield ?_⟩
      simp only [Act.put, sgPHDiSort1]
      simp only [sgLHDiSort1]
      go_wp2_with fail
      refine ⟨rfl, _, .int .i64 (bi : Int), rfl, Or.inl ⟨by rfl, fun W hW => by go_simp⟩, planW_yield ?_⟩
      simp only [Act.put, sgPHDiSort1]
      simp only [sgLHDiSort1]
      go_wp2_with fail
      refine ⟨rfl, _, .int .i64 (ai : Int), rfl, Or.inl ⟨by rfl, fun W hW => by go_simp⟩, planW_yield ?_⟩
      simp only [Act.put, sgPHDiSort1]
      simp only [sgLHDiSort1]
      go_wp2_with fail
      refine ⟨rfl, _, .pointer (some ⟨g, bi * 2, none⟩), rfl, Or.inl ⟨by rfl, fun W hW => by go_simp⟩, planW_yield ?_⟩
      simp only [Act.put, sgPHDiSort1]
      simp only [sgLHDiSort1]
      go_wp2_with fail
      refine ⟨rfl, _, .pointer (some ⟨g, ai * 2, none⟩), rfl, Or.inl ⟨by rfl, fun W hW => by go_simp⟩, planW_yield ?_⟩
      simp only [Act.put, sgPHDiSort1]
      simp only [sgLHDiSort1]
      go_wp2_with fail
      have k1 := lb_put hSd ai hac (N1 bi) (S1 bi)
      have k2 := lb_put k1 bi hbc (N1 ai) (S1 ai)
      have a0 := lb_c0 hSd ai hac
      have a1 := lb_c1 hSd ai hac
      refine ⟨rfl, _, .agg #[.int .i64 (N1 bi), .string (S1 bi)], rfl, Or.inl ⟨by rfl, fun W hW => by obtain ⟨N2, S2, q1, q2, hW⟩ := hW; have hW0 := lb_c0 hW bi hbc; have hW1 := lb_c1 hW bi hbc; rw [q1] at hW0; rw [q2] at hW1; go_simp⟩, planW_force ?_⟩
      simp only [Act.put, sgPHDiSort1]
      simp only [sgLHDiSort1]
      go_wp2_with fail
      refine ⟨rfl, ⟨N1, S1, rfl, rfl, hSd⟩, planW_force ?_⟩
      simp only [sgLHDiSort1]
      go_wp2_with fail
      refine ⟨rfl, ⟨N1, S1, rfl, rfl, hSd⟩, planW_force ?_⟩
      simp only [sgLHDiSort1]
      have af0 : w2.frozen? ⟨g, ai * 2, none⟩ = false := hSd.frozen _
      have af1 : w2.frozen? ⟨g, ai * 2 + 1, none⟩ = false := hSd.frozen _
      go_wp2_with fail
      refine ⟨rfl, ⟨_, _, by unfold upN; rw [if_neg hne], by unfold upS; rw [if_neg hne], k1⟩, planW_fin ?_⟩
      simp only [sgLHDiSort1]
      have b0 := lb_c0 k1 bi hbc
      have b1 := lb_c1 k1 bi hbc
      have bf0 : ((w2.setCell ⟨g, ai * 2, none⟩ (.int .i64 (N1 bi))).setCell ⟨g, ai * 2 + 1, none⟩ (.string (S1 bi))).frozen? ⟨g, bi * 2, none⟩ = false := k1.frozen _
      have bf1 : ((w2.setCell ⟨g, ai * 2, none⟩ (.int .i64 (N1 bi))).setCell ⟨g, ai * 2 + 1, none⟩ (.string (S1 bi))).frozen? ⟨g, bi * 2 + 1, none⟩ = false := k1.frozen _
      have HE : Hid (Blk ((((w2.setCell ⟨g, ai * 2, none⟩ (.int .i64 (N1 bi))).setCell ⟨g, ai * 2 + 1, none⟩ (.string (S1 bi))).setCell ⟨g, bi * 2, none⟩ (.int .i64 (N1 ai))).setCell ⟨g, bi * 2 + 1, none⟩ (.string (S1 ai))) g 54 (lbC tl cap (swF N a b (i + 1)) (swF S a b (i + 1))) ∧ Turns (fun z => z = g) w ((((w2.setCell ⟨g, ai * 2, none⟩ (.int .i64 (N1 bi))).setCell ⟨g, ai * 2 + 1, none⟩ (.string (S1 bi))).setCell ⟨g, bi * 2, none⟩ (.int .i64 (N1 ai))).setCell ⟨g, bi * 2 + 1, none⟩ (.string (S1 ai)))) := ⟨HNX.out _ k2, (((HTD.out.tr (Turns.cell _ g _ _ rfl)).tr (Turns.cell _ g _ _ rfl)).tr (Turns.cell _ g _ _ rfl)).tr (Turns.cell _ g _ _ rfl)⟩
      clear k1 k2 hSd
      go_wp2_with fail
      refine ⟨rfl, ?_⟩
      clear a0 a1 af0 af1 b0 b1 bf0 bf1
      go_wp2_with fail
      go_roundw
      case rel => exact ⟨i + 1, by omega, by first | rfl | go_num | simp, HE.out.1, HE.out.2⟩
      case measure => simp [intOf]; omega
    · have i1 : ¬ ((i : Int) < (m : Int)) := by omega
      obtain rfl : i = m := by omega
      have HB : Hid (Blk wr g 54 (lbC tl cap (swF N a b i) (swF S a b i))) := hBi
      clear hBi
      go_wp2_with fail
      go_end0
      exact ⟨rfl, HB.out, HT.out⟩
end Go.Proofs.YtimjggkdpmgpjaaGreatDoor
