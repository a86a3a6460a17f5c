/- The statements' made: a tree laid on a disk, and a cache on it. -/
import Derived.Test.YtiofonffmplfmaaGreatHTrNew
import Derived.Test.YtiofonffmplfmaaGreatHLvFill
import Derived.Test.YtiofonffmplfmaaGreatHTrRng
import Derived.Test.YtiofonffmplfmaaGreatHWoMadeF
import Derived.Test.YtiofonffmplfmaaGreatHTrRngM

namespace Go.Proofs.YtiofonffmplfmaaGreat
theorem sgLHWoMade : (∀ (α : Type) (a : α) (l r : List α), (a :: l) ++ r = a :: (l ++ r)) ∧ (∀ (α : Type) (l : List α), [] ++ l = l) ∧ (∀ (α : Type) (l : List α), l ++ [] = l) ∧ (∀ (α β : Type) (f : α → Option β) (a : α) (l : List α), (a :: l).filterMap f = match f a with | none => l.filterMap f | some b => b :: l.filterMap f) ∧ (∀ (α β : Type) (f : α → Option β), [].filterMap f = []) ∧ (∀ (α : Type) (l : List α) (i : Nat), l.toArray[i]? = l[i]?) ∧ (∀ (α : Type) (a : α) (l : List α), (a :: l)[0]? = some a) ∧ (∀ (α : Type) (a : α) (l : List α) (i : Nat), (a :: l)[i + 1]? = l[i]?) :=
  ⟨fun _ _ _ _ => List.cons_append, fun _ _ => List.nil_append _, fun _ _ => List.append_nil _, fun _ _ _ _ _ => List.filterMap_cons, fun _ _ _ => List.filterMap_nil, fun _ _ _ => List.getElem?_toArray, fun _ _ _ => List.getElem?_cons_zero, fun _ _ _ _ => List.getElem?_cons_succ⟩
theorem sgPHWoMade : (∀ (α : Type) (l : List α) (i : Nat) (a : α), l.toArray.setIfInBounds i a = (l.set i a).toArray) ∧ (∀ (α : Type) (a b : α) (l : List α), (a :: l).set 0 b = b :: l) ∧ (∀ (α : Type) (a b : α) (l : List α) (i : Nat), (a :: l).set (i + 1) b = a :: l.set i b) :=
  ⟨fun _ _ _ _ => List.setIfInBounds_toArray _ _ _, fun _ _ _ _ => List.set_cons_zero, fun _ _ _ _ _ => List.set_cons_succ⟩
end Go.Proofs.YtiofonffmplfmaaGreat
namespace Go.Proofs.YtiofonffmplfmaaGreat
open Go Go.RowKit
set_option linter.unusedSimpArgs false
set_option linter.unusedVariables false

theorem layN_le {l : Nat} (h : l ≤ 6) : layN l ≤ 5461 := by
  have : l = 0 ∨ l = 1 ∨ l = 2 ∨ l = 3 ∨ l = 4 ∨ l = 5 ∨ l = 6 := by omega
  rcases this with rfl | rfl | rfl | rfl | rfl | rfl | rfl <;> decide
theorem wo_cells {w : World} {g : Nat} {h : Int} {a : Option Addr} {n c : Nat} {ab : Option Addr} {nb cb : Nat} {tu ca : Int} (H : Blk w g 25 (woC h a n c ab nb cb tu ca)) : w.cell? ⟨g, 0, none⟩ = some (.int .i64 h) ∧ w.cell? ⟨g, 1, none⟩ = some (.slice a n c) ∧ w.cell? ⟨g, 2, none⟩ = some (.slice ab nb cb) ∧ w.cell? ⟨g, 3, none⟩ = some (.int .i64 tu) ∧ w.cell? ⟨g, 4, none⟩ = some (.int .i64 ca) := ⟨H.cell 0, H.cell 1, H.cell 2, H.cell 3, H.cell 4⟩
theorem wm_less (a b : Nat) (h : a < b) : b - ((a : Int) + 1).toNat < b - ((a : Int)).toNat := by omega
/-- the height that made takes -/
def hgtW (h : Int) : Nat := if 0 ≤ h ∧ h ≤ 6 then h.toNat else 0
/-- what made answers: a cache on a quiet disk, the image that lies there, a tree -/
def MadeP (w : World) (h : Int) (n nb : Nat) (tu : Int) (A : Nat → Int) (Y : Nat → Nat) (e : Ending) (w' : World) : Prop := ∃ (cp ib N ic g m room B : Nat) (F : Nat → Nat) (U : Nat → Prop) (h' : Int) (R : Rf), e = .returned (.tuple #[.pointer (some ⟨cp, 0, none⟩), .slice (some ⟨ib, 0, none⟩) N ic, .agg (trC h' R), .bool true]) ∧ TD w' B g N F cp m room 0 U ∧ (w.heap.size ≤ B ∧ ib < B ∧ w.heap.size ≤ ib) ∧ (IsBlks w' (some ⟨ib, 0, none⟩) N fun i => blkAt F i) ∧ (∀ x, F x < 256) ∧ (0 ≤ h' ∧ h' ≤ 7) ∧ (R.1 < 4294967296 ∧ okD R.2) ∧ (nb = 0 → tu ≠ 1 → tu ≠ 2 → tu ≠ 3 → h' = (hgtW h : Int) ∧ Has F N (hgtW h) R fun q _ => (fillG (4 ^ hgtW h) A Y (min n 40) ((q : Nat) : Int)).getD 0) ∧ Below w.heap.size w w'
set_option maxRecDepth 100000 in
set_option maxHeartbeats 8000000 in
theorem made_any {h : Int} {a : Option Addr} {n c : Nat} {ab : Option Addr} {nb cb : Nat} {tu ca : Int} {A : Nat → Int} {Y : Nat → Nat} {Z : Nat → Int} (w : World) (HW : Wo w h a n ab nb tu ca A Y Z) : Calls Tryz.prog 6 #[.agg (woC h a n c ab nb cb tu ca)] w fun e w' => MadeP w h n nb tu A Y e w' := by
  have hz := rtop_zero
  have hmm := @run_makeMap Tryz.prog
  have hzb := zero_256
  have hb1 : Below w.heap.size w ((w.alloc (.cells (woC h a n c ab nb cb tu ca) 25)).alloc (.cells (trC 0 rf0) 33)) := below_new2 w _ _
  have b1 : Blk ((w.alloc (.cells (woC h a n c ab nb cb tu ca) 25)).alloc (.cells (trC 0 rf0) 33)) w.heap.size 25 (woC h a n c ab nb cb tu ca) := (Blk.new w _ _).alloc _
  have t1 : Blk ((w.alloc (.cells (woC h a n c ab nb cb tu ca) 25)).alloc (.cells (trC 0 rf0) 33)) (w.heap.size + 1) 33 (trC 0 rf0) := Blk.new1 w _ _ _
  obtain ⟨x0, x1, x2, x3, x4⟩ := wo_cells b1
  have HS1 : Hid (((w.alloc (.cells (woC h a n c ab nb cb tu ca) 25)).alloc (.cells (trC 0 rf0) 33)).heap.size = w.heap.size + 2) := by show _ = _; simp
  have HWO : Hid (Wo w h a n ab nb tu ca A Y Z) := HW
  clear HW
  go_enter Tryz.func6, Tryz.ntmps6
  go_upto_region 2 with fail
  generalize ((w.alloc (.cells (woC h a n c ab nb cb tu ca) 25)).alloc (.cells (trC 0 rf0) 33)) = w1 at *
  obtain ⟨hh, hhd⟩ : ∃ hh : Nat, hh = if 0 ≤ h ∧ h ≤ 6 then h.toNat else 0 := ⟨_, rfl⟩
  go_cut [27] (fun v wx => v = .bool (decide (h < 0 ∨ 6 < h)) ∧ w1 = wx)
  case first =>
    by_cases h0 : h < 0
    · go_wp2_with fail
      go_meet
      exact ⟨by rw [decide_eq_true (show h < 0 ∨ 6 < h from .inl h0)], rfl⟩
    · by_cases h6 : 6 < h
      · go_wp2_with fail
        go_meet
        exact ⟨by rw [decide_eq_true (show h < 0 ∨ 6 < h from .inr h6)], rfl⟩
      · go_wp2_with fail
        go_meet
        exact ⟨by rw [decide_eq_false (show ¬ (h < 0 ∨ 6 < h) from fun u => by omega)], rfl⟩
  case rest =>
   obtain ⟨rfl, rfl⟩ := hcut
   go_upto_if 27 with fail
   go_cut [6] (fun v wx => v = .int .i64 (hh : Int) ∧ w1 = wx)
   case first =>
    by_cases hb : h < 0 ∨ 6 < h
    · rw [decide_eq_true hb]
      have e0 : hh = 0 := by rw [hhd, if_neg (by omega)]
      subst e0
      clear hhd
      go_wp2_with fail
      go_meet
      exact ⟨rfl, rfl⟩
    · rw [decide_eq_false hb]
      have e0 : h = (hh : Int) := by rw [hhd, if_pos (by omega), Int.toNat_of_nonneg (by omega)]
      clear hhd
      go_wp2_with fail
      go_meet
      exact ⟨by rw [e0], rfl⟩
   case rest =>
    obtain ⟨rfl, rfl⟩ := hcut
    have hh6 : hh ≤ 6 := by
      rw [hhd]
      split <;> omega
    obtain ⟨c4, hc4⟩ : ∃ c4, 4 ^ hh = c4 := ⟨_, rfl⟩
    have hc1 : 1 ≤ c4 := hc4 ▸ pow4_pos hh
    have hc2 : c4 ≤ 4096 := hc4 ▸ pow4_le hh hh6
    have HCap : Hid (∀ w, Calls Tryz.prog 11 #[.int .i64 (hh : Int)] w fun e w' => e = .returned (.int .i64 (c4 : Int)) ∧ w = w') := fun w => refCap_any hh c4 hh6 hc4 w
    have HHD : Hid (hh = if 0 ≤ h ∧ h ≤ 6 then h.toNat else 0) := hhd
    have HC : Hid (1 ≤ c4 ∧ c4 ≤ 4096 ∧ hh ≤ 6 ∧ 4 ^ hh = c4) := ⟨hc1, hc2, hh6, hc4⟩
    have hb2 : Below w1.heap.size w1 (w1.alloc (.map #[] 0)) := (Below.refl _ w1).alloc (Nat.le_refl _) _
    have HM0 : Hid (JM lfV (w1.alloc (.map #[] 0)) w1.heap.size []) := JM.new (heap_alloc_new _ _)
    have HB0 : Hid (Below w.heap.size w (w1.alloc (.map #[] 0))) := hb1.trans (hb2.mono hb1.size)
    have HW0 : Hid (Blk (w1.alloc (.map #[] 0)) w.heap.size 25 (woC h a n c ab nb cb tu ca)) := b1.below hb2 b1.lt
    have HT0 : Hid (Blk (w1.alloc (.map #[] 0)) (w.heap.size + 1) 33 (trC 0 rf0)) := t1.below hb2 t1.lt
    clear hhd hb2 b1 t1 x0 x1 x2 x3 x4 hb1 hc1 hc2 hh6 hc4
    go_upto_region 5 with fail
    generalize (w1.alloc (.map #[] 0)) = w2 at *
    generalize w1.heap.size = mb at *
    go_wp2_with fail
    go_loopw [8] (fun v8 wr => Hid (∃ (i : Nat) (L : List (Int × (Nat → Nat))), v8 = .int .i64 (i : Int) ∧ i ≤ n ∧ i ≤ 40 ∧ JM lfV wr mb L ∧ LvFs c4 A Y i L ∧ Blk wr w.heap.size 25 (woC h a n c ab nb cb tu ca) ∧ Blk wr (w.heap.size + 1) 33 (trC 0 rf0) ∧ Below w.heap.size w wr)) (fun v8 _ => 40 - (intOf v8).toNat)
    case atStart => exact ⟨0, [], rfl, by omega, by omega, HM0.out, LvFs.zero _ _ _, HW0.out, HT0.out, HB0.out⟩
    case round =>
      clear HM0 HW0 HT0 HB0
      obtain ⟨U0, rfl⟩ : ∃ u, u = wr := ⟨_, rfl⟩
      obtain ⟨i, L, rfl, hin, hi40, hm, hfs, hbw, hbt, hb⟩ := Hid.out hrel
      have HM : Hid (JM lfV U0 mb L) := hm
      have HFS : Hid (LvFs c4 A Y i L) := hfs
      have HWB : Hid (Blk U0 w.heap.size 25 (woC h a n c ab nb cb tu ca)) := hbw
      have HTB : Hid (Blk U0 (w.heap.size + 1) 33 (trC 0 rf0)) := hbt
      have HB : Hid (Below w.heap.size w U0) := hb
      obtain ⟨_, x1, _, _, _⟩ := wo_cells hbw
      clear hrel hm hfs hbw hbt hb
      go_upto_region 6 with fail
      go_cut [37] (fun v wx => v = .bool (decide (i < n ∧ i < 40)) ∧ U0 = wx)
      case first =>
        by_cases h1 : i < n
        · have h1' : (i : Int) < (n : Int) := by omega
          by_cases h2 : i < 40
          · have h2' : (i : Int) < 40 := by omega
            go_wp2_with fail
            go_meet
            exact ⟨by rw [decide_eq_true (show i < n ∧ i < 40 from ⟨h1, h2⟩)], rfl⟩
          · have h2' : ¬ (i : Int) < 40 := by omega
            go_wp2_with fail
            go_meet
            exact ⟨by rw [decide_eq_false (show ¬ (i < n ∧ i < 40) from fun u => h2 u.2)], rfl⟩
        · have h1' : ¬ (i : Int) < (n : Int) := by omega
          go_wp2_with fail
          go_meet
          exact ⟨by rw [decide_eq_false (show ¬ (i < n ∧ i < 40) from fun u => h1 u.1)], rfl⟩
      case rest =>
        obtain ⟨rfl, rfl⟩ := hcut
        by_cases hlt : i < n ∧ i < 40
        · rw [decide_eq_true hlt]
          go_wp2_with fail
          refine (HCap.out _).mono ?_
          rintro e w3 ⟨rfl, rfl⟩
          go_wp2_with fail
          --[A
          have HFL := HWO.out.fl i hlt.1
          obtain ⟨fb, fo, rfl, hfb, f0, f1, hy, hA⟩ := HFL
          have i0 : (0 : Int) ≤ (i : Int) := by omega
          have i1 : (i : Int) < (n : Int) := by omega
          have hcz : ¬ c4 = 0 := by have := HC.out.1; omega
          have htm := tmod_in HC.out.1 (A i)
          have hadd : IntKind.i64.wrap ((A i).tmod (c4 : Int) + (c4 : Int)) = (A i).tmod (c4 : Int) + (c4 : Int) := by
            have := HC.out.2.1
            rw [IntKind.wrap_i64]
            omega
          have hS : (fun W : World => W.cell? ⟨w.heap.size, 1, none⟩ = some (.slice (some ⟨fb, fo, none⟩) n c) ∧ W.cell? ⟨fb, fo + i * 2, none⟩ = some (.int .i64 (A i)) ∧ W.cell? ⟨fb, fo + i * 2 + 1, none⟩ = some (.int .u8 ((Y i : Nat) : Int))) U0.drew := ⟨x1, by rw [show U0.drew.cell? ⟨fb, fo + i * 2, none⟩ = w.cell? ⟨fb, fo + i * 2, none⟩ from HB.out.cell (p := ⟨fb, fo + i * 2, none⟩) hfb]; exact f0, by rw [show U0.drew.cell? ⟨fb, fo + i * 2 + 1, none⟩ = w.cell? ⟨fb, fo + i * 2 + 1, none⟩ from HB.out.cell (p := ⟨fb, fo + i * 2 + 1, none⟩) hfb]; exact f1⟩
          have HY : Hid (Y i < 256) := hy
          clear htm hA f0 f1 hy
          refine wp_region_partsS (fun W => W.cell? ⟨w.heap.size, 1, none⟩ = some (.slice (some ⟨fb, fo, none⟩) n c) ∧ W.cell? ⟨fb, fo + i * 2, none⟩ = some (.int .i64 (A i)) ∧ W.cell? ⟨fb, fo + i * 2 + 1, none⟩ = some (.int .u8 ((Y i : Nat) : Int))) [([0, 3, 7, 9, 11, 15], 1, true), ([], 2, true), ([4], 5, true), ([], 6, true), ([], 8, true), ([], 10, true), ([], 12, true), ([], 13, false), ([], 14, false), ([16], 17, false), ([], 18, false), ([], 19, false)] [] [20] (by kernel_rfl) (by kernel_rfl) hS (partsI_yield ?_)
          simp only [sgLHWoMade]
          go_wp2_with fail
          first
            | refine ⟨rfl, _, .pointer (some ⟨w.heap.size, 1, none⟩), rfl, Or.inl ⟨by rfl, fun U hU => by go_simp⟩, partsI_yield ?_⟩
            | refine ⟨rfl, .pointer (some ⟨w.heap.size, 1, none⟩), Or.inl ⟨by rfl, fun U hU => by go_simp⟩, partsI_yield ?_⟩
          simp only [Act.put, sgPHWoMade]
          simp only [sgLHWoMade]
          go_wp2_with fail
          first
            | refine ⟨rfl, _, .slice (some ⟨fb, fo, none⟩) n c, rfl, Or.inl ⟨by rfl, fun U hU => by have c1 := hU.1; go_simp⟩, partsI_yield ?_⟩
            | refine ⟨rfl, .slice (some ⟨fb, fo, none⟩) n c, Or.inl ⟨by rfl, fun U hU => by have c1 := hU.1; go_simp⟩, partsI_yield ?_⟩
          simp only [Act.put, sgPHWoMade]
          simp only [sgLHWoMade]
          go_wp2_with fail
          first
            | refine ⟨rfl, _, .pointer (some ⟨fb, fo + i * 2, none⟩), rfl, Or.inl ⟨by rfl, fun U hU => by go_simp⟩, partsI_yield ?_⟩
            | refine ⟨rfl, .pointer (some ⟨fb, fo + i * 2, none⟩), Or.inl ⟨by rfl, fun U hU => by go_simp⟩, partsI_yield ?_⟩
          simp only [Act.put, sgPHWoMade]
          simp only [sgLHWoMade]
          go_wp2_with fail
          first
            | refine ⟨rfl, _, .int .i64 (A i), rfl, Or.inl ⟨by rfl, fun U hU => by have c1 := hU.2.1; go_simp⟩, partsI_yield ?_⟩
            | refine ⟨rfl, .int .i64 (A i), Or.inl ⟨by rfl, fun U hU => by have c1 := hU.2.1; go_simp⟩, partsI_yield ?_⟩
          simp only [Act.put, sgPHWoMade]
          simp only [sgLHWoMade]
          go_wp2_with fail
          first
            | refine ⟨rfl, _, .int .i64 ((A i).tmod (c4 : Int)), rfl, Or.inl ⟨by rfl, fun U hU => by go_simp⟩, partsI_yield ?_⟩
            | refine ⟨rfl, .int .i64 ((A i).tmod (c4 : Int)), Or.inl ⟨by rfl, fun U hU => by go_simp⟩, partsI_yield ?_⟩
          simp only [Act.put, sgPHWoMade]
          simp only [sgLHWoMade]
          go_wp2_with fail
          first
            | refine ⟨rfl, _, .int .i64 ((A i).tmod (c4 : Int) + (c4 : Int)), rfl, Or.inl ⟨by rfl, fun U hU => by go_simp⟩, partsI_yield ?_⟩
            | refine ⟨rfl, .int .i64 ((A i).tmod (c4 : Int) + (c4 : Int)), Or.inl ⟨by rfl, fun U hU => by go_simp⟩, partsI_yield ?_⟩
          simp only [Act.put, sgPHWoMade]
          simp only [sgLHWoMade]
          go_wp2_with fail
          first
            | refine ⟨rfl, _, .int .i64 (((A i).tmod (c4 : Int) + (c4 : Int)).tmod (c4 : Int)), rfl, Or.inl ⟨by rfl, fun U hU => by go_simp⟩, partsI_force ?_⟩
            | refine ⟨rfl, .int .i64 (((A i).tmod (c4 : Int) + (c4 : Int)).tmod (c4 : Int)), Or.inl ⟨by rfl, fun U hU => by go_simp⟩, partsI_force ?_⟩
          simp only [Act.put, sgPHWoMade]
          simp only [sgLHWoMade]
          have c1 := hS.1
          have c2 := hS.2.2
          go_wp2_with fail
          refine ⟨rfl, hS, partsI_force ?_⟩
          simp only [sgLHWoMade]
          go_wp2_with fail
          refine ⟨rfl, hS, partsI_force ?_⟩
          simp only [sgLHWoMade]
          go_wp2_with fail
          refine ⟨rfl, hS, partsI_force ?_⟩
          simp only [sgLHWoMade]
          go_wp2_with fail
          refine ⟨rfl, hS, partsI_force ?_⟩
          simp only [sgLHWoMade]
          go_wp2_with fail
          refine (filled9_any (Y i) _).mono ?_
          rintro e w4 ⟨rfl, hb4⟩
          have hS4 : (fun W : World => W.cell? ⟨w.heap.size, 1, none⟩ = some (.slice (some ⟨fb, fo, none⟩) n c) ∧ W.cell? ⟨fb, fo + i * 2, none⟩ = some (.int .i64 (A i)) ∧ W.cell? ⟨fb, fo + i * 2 + 1, none⟩ = some (.int .u8 ((Y i : Nat) : Int))) w4 := by
            refine ⟨?_, ?_, ?_⟩
            · rw [hb4.cell (p := ⟨w.heap.size, 1, none⟩) HWB.out.lt]; exact hS.1
            · rw [hb4.cell (p := ⟨fb, fo + i * 2, none⟩) (Nat.lt_of_lt_of_le hfb HB.out.size)]; exact hS.2.1
            · rw [hb4.cell (p := ⟨fb, fo + i * 2 + 1, none⟩) (Nat.lt_of_lt_of_le hfb HB.out.size)]; exact hS.2.2
          obtain ⟨w5, L5, hput, hm5, hfi, ht5⟩ := JM.put (P := Tryz.prog) (V := lfV) Tryz.underlying78 Tryz.underlying3 (((show JM lfV U0.drew mb L from HM.out.keep rfl)).below hb4 HM.out.lt) (kyN c4 (A i)) (fun _ => Y i)
          unfold kyN lfV at hput
          clear c1 c2
          go_wp2_with fail
          refine ⟨rfl, hS4, partsI_last ?_⟩
          simp only [sgLHWoMade]
          go_wp2_with fail
          refine ⟨rfl, ?_⟩
          have hmw : mb ≠ w.heap.size ∧ mb ≠ w.heap.size + 1 := by have := HS1.out; omega
          have HM5 : Hid (JM lfV w5 mb L5) := hm5
          have HF5 : Hid (LvFs c4 A Y (i + 1) L5) := HFS.out.step hfi
          have hb4' : Below U0.heap.size U0 w4 := (Below.refl U0.heap.size U0).drew.trans hb4
          have HB4 : Hid (Below w.heap.size w w4) := HB.out.trans (hb4'.mono HB.out.size)
          have HW5 : Hid (Blk w5 w.heap.size 25 (woC h (some ⟨fb, fo, none⟩) n c ab nb cb tu ca)) := ht5.blk (HWB.out.below hb4' HWB.out.lt) fun e => hmw.1 e.symm
          have HT5 : Hid (Blk w5 (w.heap.size + 1) 33 (trC 0 rf0)) := ht5.blk (HTB.out.below hb4' HTB.out.lt) fun e => hmw.2 e.symm
          have HB5 : Hid (Below w.heap.size w w5) := HB4.out.trans (ht5.below (B := w.heap.size) HB4.out.size fun b e => by have := HS1.out; omega)
          have HIJ : Hid (i + 1 ≤ n ∧ i + 1 ≤ 40) := ⟨hlt.1, hlt.2⟩
          clear hput hm5 hfi ht5 hS hS4 hb4 hb4' HM HFS HWB HTB HB hmw
          go_wp2_with fail
          go_roundw
          case rel => exact ⟨i + 1, L5, by simp, HIJ.out.1, HIJ.out.2, HM5.out, HF5.out, HW5.out, HT5.out, HB5.out⟩
          case measure =>
            have := HIJ.out.2
            simp [intOf]
            omega
          --A]
        · rw [decide_eq_false hlt]
          as_aux_lemma =>
            have hi : i = min n 40 := by omega
            have HII : Hid (i = min n 40) := hi
            clear hi
            have HLO : Hid (LvOk L) := LvFs.ok HC.out.1 HC.out.2.1 HFS.out HM.out.nd fun j hj => by
              obtain ⟨_, _, _, _, _, _, h1, _⟩ := HWO.out.fl j (by omega)
              exact h1
            have hmk := make_img U0
            have g0 : Blk (U0.alloc (.cells (va 256 (iv .u8 fun _ => 0)) 49)) U0.heap.size 49 (va 256 (iv .u8 fun _ => 0)) := Blk.new _ _ _
            have hbg : Below U0.heap.size U0 (U0.alloc (.cells (va 256 (iv .u8 fun _ => 0)) 49)) := below_new1 _ _
            have HI1 : Hid (Img (U0.alloc (.cells (va 256 (iv .u8 fun _ => 0)) 49)) w.heap.size (.slice (some ⟨U0.heap.size, 0, none⟩) 1 1) 1 fun _ => 0) := img_one g0 HB.out.size
            have HM1 : Hid (JM lfV (U0.alloc (.cells (va 256 (iv .u8 fun _ => 0)) 49)) mb L) := HM.out.below hbg HM.out.lt
            have HW1 : Hid (Blk (U0.alloc (.cells (va 256 (iv .u8 fun _ => 0)) 49)) w.heap.size 25 (woC h a n c ab nb cb tu ca)) := HWB.out.below hbg HWB.out.lt
            have HT1 : Hid (Blk (U0.alloc (.cells (va 256 (iv .u8 fun _ => 0)) 49)) (w.heap.size + 1) 33 (trC 0 rf0)) := HTB.out.below hbg HTB.out.lt
            have HB1 : Hid (Below w.heap.size w (U0.alloc (.cells (va 256 (iv .u8 fun _ => 0)) 49))) := HB.out.trans (hbg.mono HB.out.size)
            have HG0 : Hid (w.heap.size ≤ U0.heap.size) := HB.out.size
            clear g0 hbg HM HWB HTB HB x1 hlt
            go_wp2_with fail
            generalize (U0.alloc (.cells (va 256 (iv .u8 fun _ => 0)) 49)) = w3 at *
            generalize U0.heap.size = ig at *
            have HLy : Hid (∀ W, Below w3.heap.size w3 W → Calls Tryz.prog 41 #[.slice (some ⟨ig, 0, none⟩) 1 1, .int .i64 (hh : Int), .int .i64 0, .map (some mb)] W fun e w' => LayR W w.heap.size 1 (layN hh) (fun _ => 0) hh 0 L e w') := fun W hW => by
              have h1 := HC.out
              have h2 : layN hh ≤ 5461 := layN_le h1.2.2.1
              exact lay9_any HLO.out hh h1.2.2.1 0 1 _ _ W (by rw [h1.2.2.2]; omega) (by omega) (Nat.le_trans HB1.out.size hW.size) (HM1.out.below hW HM1.out.lt) (HI1.out.below hW)
            refine (lay9_top hh (hh : Int) w3 HI1.out HLy.out).mono ?_
            rintro e w4 ⟨v4, n4, X4, r4, rfl, h1, h2, h3, h4, hb4⟩
            obtain ⟨ib4, ic4, rfl, _, _, _⟩ := own_some h1.1 h1.2.2
            have q0 : Blk (w4.alloc (.cells (trC 0 rf0) 33)) w4.heap.size 33 (trC 0 rf0) := Blk.new _ _ _
            have hst := Blk.store (P := Tryz.prog) q0 (trC (hh : Int) r4) (by simp only [trC_size]) (arr_mem (trC_all _ _))
            have hvs := trC_size (hh : Int) r4
            have HX5 : Hid (Blk ((w4.alloc (.cells (trC 0 rf0) 33)).setRow w4.heap.size (trC (hh : Int) r4)) w4.heap.size 33 (trC (hh : Int) r4)) := q0.set _
            have hbq : Below w4.heap.size w4 ((w4.alloc (.cells (trC 0 rf0) 33)).setRow w4.heap.size (trC (hh : Int) r4)) := below_setRow (below_new1 _ _) (Nat.le_refl _) _
            have hb5 := hb4.trans (hbq.mono hb4.size)
            have HI5 : Hid (Img ((w4.alloc (.cells (trC 0 rf0) 33)).setRow w4.heap.size (trC (hh : Int) r4)) w.heap.size (.slice (some ⟨ib4, 0, none⟩) n4 ic4) n4 X4) := h1.below hbq
            have HW5 : Hid (Blk ((w4.alloc (.cells (trC 0 rf0) 33)).setRow w4.heap.size (trC (hh : Int) r4)) w.heap.size 25 (woC h a n c ab nb cb tu ca)) := HW1.out.below hb5 HW1.out.lt
            have HT5 : Hid (Blk ((w4.alloc (.cells (trC 0 rf0) 33)).setRow w4.heap.size (trC (hh : Int) r4)) (w.heap.size + 1) 33 (trC 0 rf0)) := HT1.out.below hb5 HT1.out.lt
            have HB5 : Hid (Below w.heap.size w ((w4.alloc (.cells (trC 0 rf0) 33)).setRow w4.heap.size (trC (hh : Int) r4))) := HB1.out.trans (hb5.mono HB1.out.size)
            have HXT : Hid (w.heap.size + 1 < w4.heap.size) := Nat.lt_of_lt_of_le HT1.out.lt hb4.size
            have HR4 : Hid (r4.1 < 4294967296 ∧ okD r4.2) := h3
            have HH4 : Hid (Has X4 n4 hh r4 fun q => gJ L ((0 * 4 ^ hh + q : Nat) : Int)) := h4
            have HN4 : Hid (1 ≤ n4 ∧ n4 ≤ 5462) := by
              have := layN_le HC.out.2.2.1
              exact ⟨h2.1, by omega⟩
            clear h1 h2 h3 h4 hb4 hbq hb5 HI1 HM1 HW1 HT1 HB1 HLy hmk HG0
            go_upto_region 11 with fail
            clear q0 hst hvs
            generalize ((w4.alloc (.cells (trC 0 rf0) 33)).setRow w4.heap.size (trC (hh : Int) r4)) = w5 at *
            generalize w4.heap.size = xt at *
            go_wp2_with fail
            obtain ⟨i0, hi0, hz0, hz1, hz2⟩ := tinfo_parts info256
            go_loopw [10] (fun v10 wr => Hid (∃ (b N cc : Nat) (X' : Nat → Nat), v10 = .slice (some ⟨b, 0, none⟩) N cc ∧ Img wr w.heap.size (.slice (some ⟨b, 0, none⟩) N cc) N X' ∧ (n4 ≤ N ∧ N ≤ 5462 ∧ ∀ x, x < n4 * 256 → X' x = X4 x) ∧ Blk wr w.heap.size 25 (woC h a n c ab nb cb tu ca) ∧ Blk wr (w.heap.size + 1) 33 (trC 0 rf0) ∧ Blk wr xt 33 (trC (hh : Int) r4) ∧ Below w.heap.size w wr)) (fun v10 _ => 16 - imN v10)
            case atStart => exact ⟨ib4, n4, ic4, X4, rfl, HI5.out, ⟨Nat.le_refl _, HN4.out.2, fun x _ => rfl⟩, HW5.out, HT5.out, HX5.out, HB5.out⟩
            case round =>
              clear HI5 HW5 HT5 HX5 HB5
              obtain ⟨U1, rfl⟩ : ∃ u, u = wr := ⟨_, rfl⟩
              obtain ⟨b, N, cc, X', rfl, himg, hN, hbw, hbt, hbx, hb⟩ := Hid.out hrel
              have HIM : Hid (Img U1 w.heap.size (.slice (some ⟨b, 0, none⟩) N cc) N X') := himg
              have HNN : Hid (n4 ≤ N ∧ N ≤ 5462 ∧ ∀ x, x < n4 * 256 → X' x = X4 x) := hN
              have HWB : Hid (Blk U1 w.heap.size 25 (woC h a n c ab nb cb tu ca)) := hbw
              have HTB : Hid (Blk U1 (w.heap.size + 1) 33 (trC 0 rf0)) := hbt
              have HXB : Hid (Blk U1 xt 33 (trC (hh : Int) r4)) := hbx
              have HB : Hid (Below w.heap.size w U1) := hb
              clear hrel himg hN hbw hbt hbx hb
              by_cases hlt : N < 16
              · have h16 : (N : Int) < 16 := by omega
                --[B
                have hbg : Below U1.heap.size U1 (U1.alloc (.cells (va 256 (iv .u8 fun _ => 0)) 49)) := below_new1 _ _
                have g0 : Blk (U1.alloc (.cells (va 256 (iv .u8 fun _ => 0)) 49)) U1.heap.size 49 (va 256 (iv .u8 fun _ => 0)) := Blk.new _ _ _
                have HI6 := HIM.out.below hbg
                have HW6 := HWB.out.below hbg HWB.out.lt
                have HT6 := HTB.out.below hbg HTB.out.lt
                have HX6 := HXB.out.below hbg HXB.out.lt
                have HB6 := HB.out.trans (hbg.mono HB.out.size)
                go_wp2_with (first
                  | (refine wpList_build1 (by rfl) 27 49 _ (by rfl) (va 256 (iv .u8 fun _ => 0)) (by rfl) i0 _ 256 Tryz.underlying27 hi0 hz0 hz1 (va_size _ _) (by decide) (by decide) ?_; simp only [Act.put, sgPHWoMade])
                  | (refine wpList_append_bk (by rfl) _ _ 27 (by rfl) w.heap.size 49 i0 _ Tryz.underlying27 hi0 hz0 hz1 hz2 (va_size _ _) (.slice (some ⟨b, 0, none⟩) N cc) N X' (fun _ => 0) (by rfl) HI6.1 U1.heap.size 1 (by rfl) (by exact g0) (by omega) HB6.size ?_; intro v7 w7 hown hb7 hgr hvb; simp only [Act.put, sgPHWoMade])
                  | fail)
                obtain ⟨b7, c7, rfl, _, _, _⟩ := own_some hown (by omega)
                have HI7 : Hid (Img w7 w.heap.size (.slice (some ⟨b7, 0, none⟩) (N + 1) c7) (N + 1) (apX X' N fun _ => 0)) := ⟨hown, fun x => by
                  show (if _ then _ else _) < 256
                  split
                  · exact HI6.2.1 x
                  · exact Nat.zero_lt_succ _, by omega⟩
                have HW7 : Hid (Blk w7 w.heap.size 25 (woC h a n c ab nb cb tu ca)) := (hgr.block _ HW6.lt (HI6.apart HW6 (by decide))).trans HW6
                have HT7 : Hid (Blk w7 (w.heap.size + 1) 33 (trC 0 rf0)) := (hgr.block _ HT6.lt (HI6.apart HT6 (by decide))).trans HT6
                have HX7 : Hid (Blk w7 xt 33 (trC (hh : Int) r4)) := (hgr.block _ HX6.lt (HI6.apart HX6 (by decide))).trans HX6
                have HB7 : Hid (Below w.heap.size w w7) := HB6.trans hb7
                have HN7 : Hid (n4 ≤ N + 1 ∧ N + 1 ≤ 5462 ∧ ∀ x, x < n4 * 256 → apX X' N (fun _ => 0) x = X4 x) := ⟨by have := HNN.out.1; omega, by omega, fun x hx => (apX_old X' N _ x (by have := HNN.out.1; omega)).trans (HNN.out.2.2 x hx)⟩
                clear HI6 HW6 HT6 HX6 HB6 hown hb7 hgr hvb hbg g0
                go_roundw
                case rel => exact ⟨b7, N + 1, c7, _, rfl, HI7.out, HN7.out, HW7.out, HT7.out, HX7.out, HB7.out⟩
                case measure =>
                  simp only [imN]
                  omega
                --B]
              · have h16 : ¬ (N : Int) < 16 := by omega
                as_aux_lemma =>
                  have hN16 : 16 ≤ N := by omega
                  have HN2 : Hid (n4 ≤ N ∧ N ≤ 5462 ∧ 16 ≤ N) := ⟨HNN.out.1, HNN.out.2.1, hN16⟩
                  have HMD : Hid (MD w U1 b N cc X' (woC h a n c ab nb cb tu ca) xt (hh : Int) r4) := ⟨HIM.out, HWB.out, HTB.out, HXB.out, HB.out⟩
                  clear hlt HIM HWB HTB HXB HB
                  go_wp2_with fail
                  go_loopw [12] (fun v12 wr => Hid (∃ (i3 : Nat) (X3 : Nat → Nat), v12 = .int .i64 (i3 : Int) ∧ i3 ≤ nb ∧ MD w wr b N cc X3 (woC h a n c ab nb cb tu ca) xt (hh : Int) r4 ∧ (i3 = 0 → X3 = X'))) (fun v12 _ => nb - (intOf v12).toNat)
                  case atStart => exact ⟨0, X', rfl, by omega, HMD.out, fun _ => rfl⟩
                  case round =>
                    clear HMD
                    obtain ⟨U2, rfl⟩ : ∃ u, u = wr := ⟨_, rfl⟩
                    obtain ⟨i3, X3, rfl, hi3, hmd, hx3⟩ := Hid.out hrel
                    have HMD : Hid (MD w U2 b N cc X3 (woC h a n c ab nb cb tu ca) xt (hh : Int) r4) := hmd
                    have HX3 : Hid (i3 = 0 → X3 = X') := hx3
                    obtain ⟨_, _, x2, _, _⟩ := wo_cells hmd.wo
                    clear hrel hmd hx3
                    by_cases hlt : i3 < nb
                    · have i1 : (i3 : Int) < (nb : Int) := by omega
                      have i0 : (0 : Int) ≤ (i3 : Int) := by omega
                      --[C
                      obtain ⟨zb, zo, rfl, hzb, z0, hZ⟩ := HWO.out.bad i3 hlt
                      have zc : U2.cell? ⟨zb, zo + i3, none⟩ = some (.int .i64 (Z i3)) := by
                        rw [HMD.out.below.cell (p := ⟨zb, zo + i3, none⟩) hzb]
                        exact z0
                      have hwi : wrap64 ((i3 : Int) + 1) = (i3 : Int) + 1 := wrap64_at _ (by have := HWO.out.hnb; omega)
                      have HWI : Hid (wrap64 ((i3 : Int) + 1) = (i3 : Int) + 1) := hwi
                      have HI3 : Hid (i3 < nb) := hlt
                      have HMS : Hid (nb - ((i3 : Int) + 1).toNat < nb - ((i3 : Int)).toNat) := wm_less _ _ hlt
                      have hNz : ¬ N = 0 := by omega
                      have hN1 : 1 ≤ N := by omega
                      have htm := tmod_in hN1 (Z i3)
                      have hadd : IntKind.i64.wrap ((Z i3).tmod (N : Int) + (N : Int)) = (Z i3).tmod (N : Int) + (N : Int) := by
                        have := HN2.out.2.1
                        rw [IntKind.wrap_i64]
                        omega
                      have hky := kyN_in hN1 (Z i3)
                      obtain ⟨kn, hkn⟩ := Int.eq_ofNat_of_zero_le hky.1
                      have hkn2 : ((Z i3).tmod (N : Int) + (N : Int)).tmod (N : Int) = (kn : Int) := hkn
                      have k1 : (kn : Int) < (N : Int) := by rw [← hkn2]; exact hky.2
                      have k0 : (0 : Int) ≤ (kn : Int) := by omega
                      have hkN : kn * 256 + 200 < N * 256 := by omega
                      obtain ⟨xv, hxv⟩ : ∃ xv, X3 (kn * 256 + 200) = xv := ⟨_, rfl⟩
                      have hc2 : U2.cell? ⟨b, kn * 256 + 200, none⟩ = some (.int .u8 ((xv : Nat) : Int)) := by rw [← hxv]; exact img_cell HMD.out.img _ hkN
                      have hf2 : U2.frozen? ⟨b, kn * 256 + 200, none⟩ = false := img_frozen HMD.out.img _
                      have hx8 : ((xv : Int) + 1) % 256 = (((xv + 1) % 256 : Nat) : Int) := by omega
                      have HM3 : Hid (MD w (U2.setCell ⟨b, kn * 256 + 200, none⟩ (.int .u8 (((xv : Int) + 1) % 256))).drew b N cc (fun y => if y = kn * 256 + 200 then (xv + 1) % 256 else X3 y) (woC h a n c (some ⟨zb, zo, none⟩) nb cb tu ca) xt (hh : Int) r4) := by
                        rw [hx8]
                        exact (HMD.out.put _ hkN _ (Nat.mod_lt _ (by decide))).drew
                      clear hx8
                      clear hky hkn htm z0 hZ HMD HX3
                      go_wp2_with fail
                      refine wp_region_partsS (fun W => True) [([0, 3, 6, 8, 10], 1, false), ([], 2, false), ([4], 5, false), ([], 7, false), ([], 9, false), ([], 11, false), ([12, 13, 16], 14, false), ([], 15, false)] [17] [18] (by kernel_rfl) (by kernel_rfl) trivial (partsI_force ?_)
                      simp only [sgLHWoMade]
                      go_wp2_with fail
                      refine ⟨rfl, trivial, partsI_force ?_⟩
                      simp only [sgLHWoMade]
                      go_wp2_with fail
                      refine ⟨rfl, trivial, partsI_force ?_⟩
                      simp only [sgLHWoMade]
                      go_wp2_with fail
                      refine ⟨rfl, trivial, partsI_force ?_⟩
                      simp only [sgLHWoMade]
                      go_wp2_with fail
                      refine ⟨rfl, trivial, partsI_force ?_⟩
                      simp only [sgLHWoMade]
                      go_wp2_with fail
                      refine ⟨rfl, trivial, partsI_force ?_⟩
                      simp only [sgLHWoMade]
                      go_wp2_with fail
                      refine ⟨rfl, trivial, partsI_force ?_⟩
                      simp only [sgLHWoMade]
                      go_wp2_with fail
                      refine ⟨rfl, trivial, partsI_force ?_⟩
                      simp only [sgLHWoMade]
                      go_wp2_with fail
                      refine ⟨rfl, trivial, partsI_last ?_⟩
                      simp only [sgLHWoMade]
                      go_wp2_with fail
                      refine ⟨rfl, ?_⟩
                      go_wp2_with fail
                      rw [HWI.out]
                      go_roundw
                      case rel => exact ⟨i3 + 1, _, by first | rfl | go_num | simp, HI3.out, HM3.out, fun e => absurd e (Nat.succ_ne_zero _)⟩
                      case measure => exact HMS.out
                      --C]
                    · have i1 : ¬ (i3 : Int) < (nb : Int) := by omega
                      as_aux_lemma =>
                        have HXT0 : Hid (nb = 0 → X3 = X') := fun e => HX3.out (by omega)
                        have HXTT : Hid (w.heap.size + 1 < xt) := HXT.out
                        go_upto_region 18 with fail
                        clear HX3 x2 i1 hlt hi3
                        obtain ⟨_, _, _, x3, x4⟩ := wo_cells HMD.out.wo
                        obtain ⟨y0, y1, f0, f1⟩ := HMD.out.cells
                        have HH6 : Hid (hh ≤ 6) := HC.out.2.2.1
                        have HPre : Hid (MD w U2 b N cc X3 (woC h a n c ab nb cb tu ca) xt (hh : Int) r4) := HMD.out
                        clear HMD
                        go_upto_if 105 with fail
                        go_cut [] (fun wx => Hid (∃ h1 : Int, MD w wx b N cc X3 (woC h a n c ab nb cb tu ca) xt h1 r4 ∧ (tu ≠ 1 → h1 = (hh : Int)) ∧ 0 ≤ h1 ∧ h1 ≤ 7))
                        case first =>
                          have HM3 := HPre.out.set HXTT.out 0 (.int .i64 ((hh : Int) + 1)) (tr_put0 _ _ _)
                          have hwh : wrap64 ((hh : Int) + 1) = (hh : Int) + 1 := wrap64_at _ (by have := HH6.out; omega)
                          by_cases ht : tu = 1
                          · have hb : (tu == 1) = true := by simp [ht]
                            rw [hb]
                            go_wp2_with fail
                            go_meet
                            exact ⟨(hh : Int) + 1, HM3, fun e => absurd ht e, by omega, by have := HH6.out; omega⟩
                          · have hb : (tu == 1) = false := by simp [ht]
                            rw [hb]
                            go_wp2_with fail
                            go_meet
                            exact ⟨(hh : Int), HPre.out, fun _ => rfl, by omega, by have := HH6.out; omega⟩
                        case rest =>
                          as_aux_lemma =>
                            obtain ⟨h1, hm1, hh1, h10, h17⟩ := Hid.out hcut
                            clear hcut HPre x3 x4 y0 y1 f0 f1
                            have HM1 : Hid (MD w wc b N cc X3 (woC h a n c ab nb cb tu ca) xt h1 r4) := hm1
                            have HT1 : Hid (tu ≠ 1 → h1 = (hh : Int)) := hh1
                            have H17 : Hid (0 ≤ h1 ∧ h1 ≤ 7) := ⟨h10, h17⟩
                            clear hm1 hh1 h10 h17
                            obtain ⟨_, _, _, x3, x4⟩ := wo_cells HM1.out.wo
                            obtain ⟨y0, y1, f0, f1⟩ := HM1.out.cells
                            go_upto_region 20 with fail
                            go_cut [117] (fun v wx => v = .bool (decide (tu = 2 ∧ 0 < h1)) ∧ wc = wx)
                            case first =>
                              by_cases ht : tu = 2
                              · have hb : (tu == 2) = true := by simp [ht]
                                by_cases hp : 0 < h1
                                · have hd : decide (tu = 2 ∧ 0 < h1) = true := decide_eq_true ⟨ht, hp⟩
                                  clear ht
                                  go_wp2_with fail
                                  go_meet
                                  exact ⟨by rw [hd], rfl⟩
                                · have hd : decide (tu = 2 ∧ 0 < h1) = false := decide_eq_false fun u => hp u.2
                                  clear ht
                                  go_wp2_with fail
                                  go_meet
                                  exact ⟨by rw [hd], rfl⟩
                              · have hb : (tu == 2) = false := by simp [ht]
                                have hd : decide (tu = 2 ∧ 0 < h1) = false := decide_eq_false fun u => ht u.1
                                go_wp2_with fail
                                go_meet
                                exact ⟨by rw [hd], rfl⟩
                            case rest =>
                              obtain ⟨rfl, rfl⟩ := hcut
                              go_upto_if 117 with fail
                              go_cut [] (fun wx => Hid (∃ h2 : Int, MD w wx b N cc X3 (woC h a n c ab nb cb tu ca) xt h2 r4 ∧ (tu ≠ 1 → tu ≠ 2 → h2 = (hh : Int)) ∧ 0 ≤ h2 ∧ h2 ≤ 7))
                              case first =>
                                have HM3 := HM1.out.set HXTT.out 0 (.int .i64 (h1 - 1)) (tr_put0 _ _ _)
                                have hwh : wrap64 (h1 - 1) = h1 - 1 := wrap64_at _ (by have := H17.out; omega)
                                by_cases ht : tu = 2 ∧ 0 < h1
                                · rw [decide_eq_true ht]
                                  go_wp2_with fail
                                  go_meet
                                  exact ⟨h1 - 1, HM3, fun _ e => absurd ht.1 e, by omega, by have := H17.out; omega⟩
                                · rw [decide_eq_false ht]
                                  go_wp2_with fail
                                  go_meet
                                  exact ⟨h1, HM1.out, fun e _ => HT1.out e, H17.out.1, H17.out.2⟩
                              case rest =>
                                as_aux_lemma =>
                                  obtain ⟨h2, hm2, hh2, h20, h27⟩ := Hid.out hcut
                                  clear hcut HM1 HT1 H17 x3 x4 y0 y1 f0 f1
                                  obtain ⟨wd, rfl⟩ : ∃ u, u = wc := ⟨_, rfl⟩
                                  have HM2 : Hid (MD w wd b N cc X3 (woC h a n c ab nb cb tu ca) xt h2 r4) := hm2
                                  have HT2 : Hid (tu ≠ 1 → tu ≠ 2 → h2 = (hh : Int)) := hh2
                                  have H27 : Hid (0 ≤ h2 ∧ h2 ≤ 7) := ⟨h20, h27⟩
                                  clear hm2 hh2 h20 h27
                                  obtain ⟨_, _, _, x3, x4⟩ := wo_cells HM2.out.wo
                                  obtain ⟨y0, y1, f0, f1⟩ := HM2.out.cells
                                  go_upto_if 124 with fail
                                  go_cut [] (fun wx => Hid (∃ R : Rf, MD w wx b N cc X3 (woC h a n c ab nb cb tu ca) xt h2 R ∧ (tu ≠ 3 → R = r4) ∧ R.1 < 4294967296 ∧ okD R.2))
                                  case first =>
                                    have ha3 : (((r4.1 : Nat) : Int) + 3) % 4294967296 = (((r4.1 + 3) % 4294967296 : Nat) : Int) := by omega
                                    have HM3 := HM2.out.set HXTT.out 1 (.int .u32 ((((r4.1 : Nat) : Int) + 3) % 4294967296)) (by rw [ha3]; exact tr_put1 h2 _ r4)
                                    clear ha3
                                    by_cases ht : tu = 3
                                    · have hb : (tu == 3) = true := by simp [ht]
                                      rw [hb]
                                      go_wp2_with fail
                                      go_meet
                                      exact ⟨_, HM3, fun e => absurd ht e, Nat.mod_lt _ (by decide), HR4.out.2⟩
                                    · have hb : (tu == 3) = false := by simp [ht]
                                      rw [hb]
                                      go_wp2_with fail
                                      go_meet
                                      exact ⟨r4, HM2.out, fun _ => rfl, HR4.out.1, HR4.out.2⟩
                                  case rest =>
                                    as_aux_lemma =>
                                      obtain ⟨R, hm3, hr3, hr1, hr2⟩ := Hid.out hcut
                                      clear hcut HM2 x3 x4 y0 y1 f0 f1
                                      obtain ⟨we, rfl⟩ : ∃ u, u = wc := ⟨_, rfl⟩
                                      have HM3 : Hid (MD w we b N cc X3 (woC h a n c ab nb cb tu ca) xt h2 R) := hm3
                                      have HT3 : Hid (tu ≠ 3 → R = r4) := hr3
                                      have HRR : Hid (R.1 < 4294967296 ∧ okD R.2) := ⟨hr1, hr2⟩
                                      clear hm3 hr3 hr1 hr2
                                      go_wp2_with fail
                                      refine (diskNew_new N HN2.out.2.2 (by have := HN2.out.2.1; omega) we).mono ?_
                                      rintro e wf ⟨g, q, rfl, hq, hQ, hbf, hql, hqG⟩
                                      have HM4 : Hid (MD w wf b N cc X3 (woC h a n c ab nb cb tu ca) xt h2 R) := HM3.out.keep hbf
                                      have HQ : Hid (DiskQ wf we.heap.size g N (fun _ => 0) 0 0 q) := hq
                                      have HQ2 : Hid (Quiet q 0 ∧ q.l = [] ∧ ∀ j, q.G.getD j [] = []) := ⟨hQ, hql, hqG⟩
                                      have HLT : Hid (b < we.heap.size ∧ xt < we.heap.size ∧ w.heap.size + 1 < we.heap.size ∧ we.heap.size ≤ wf.heap.size) := by
                                        obtain ⟨_, _, hv, _, hlt2, _⟩ := own_some HM3.out.img.1 HM3.out.img.2.2
                                        injection hv with hv
                                        injection hv with hv
                                        injection hv with hv
                                        subst hv
                                        exact ⟨hlt2, HM3.out.tr.lt, HM3.out.res.lt, hbf.size⟩
                                      clear hq hQ hbf hql hqG HM3
                                      go_upto_region 26 with fail
                                      obtain ⟨jt, hj0, hy0, hy1, hy2⟩ := info_parts infoBk
                                      have hbl : Below wf.heap.size wf (wf.alloc (.cells #[] 52)) := below_new1 _ _
                                      have HO0 : Hid ((wf.alloc (.cells #[] 52)).ownsRow wf.heap.size 52 256 (.slice (some ⟨wf.heap.size, 0, none⟩) 0 0) 0 (byL (preX X3 0) (0 * 256))) := kown_empty (Blk.new _ _ _) (Nat.le_refl _)
                                      have HBL : Hid (Below wf.heap.size wf (wf.alloc (.cells #[] 52))) := hbl
                                      generalize (wf.alloc (.cells #[] 52)) = wg at *
                                      go_wp2_with fail
                                      go_loopw [16, 17] (fun v16 v17 wr => Hid (∃ (j lb lc : Nat), j ≤ N ∧ v17 = .int .i64 (j : Int) ∧ v16 = .slice (some ⟨lb, 0, none⟩) j lc ∧ wr.ownsRow wf.heap.size 52 256 (.slice (some ⟨lb, 0, none⟩) j lc) j (byL (preX X3 j) (j * 256)) ∧ Below wf.heap.size wf wr)) (fun _ v17 _ => N - (intOf v17).toNat)
                                      case atStart => exact ⟨0, wf.heap.size, 0, by omega, rfl, rfl, HO0.out, HBL.out⟩
                                      case round =>
                                        clear HO0 HBL hbl
                                        obtain ⟨U4, rfl⟩ : ∃ u, u = wr := ⟨_, rfl⟩
                                        obtain ⟨j, lb, lc, hjN, rfl, rfl, ho, hb⟩ := Hid.out hrel
                                        have HO : Hid (U4.ownsRow wf.heap.size 52 256 (.slice (some ⟨lb, 0, none⟩) j lc) j (byL (preX X3 j) (j * 256))) := ho
                                        have HB : Hid (Below wf.heap.size wf U4) := hb
                                        clear hrel ho hb
                                        by_cases hlt : j < N
                                        · have j1 : (j : Int) < (N : Int) := by omega
                                          have j0 : (0 : Int) ≤ (j : Int) := by omega
                                          --[D
                                          have HRG : Hid (U4.rangeAt b (j * 256) ((List.range 256).map (iv .u8 (blkAt X3 j)))) := by
                                            obtain ⟨b', o', e, _, h⟩ := img_blks (HM4.out.keep HB.out).img j hlt
                                            injection e with e
                                            injection e with e1 e2
                                            subst e1 e2
                                            rw [Nat.zero_add] at h
                                            exact h
                                          have g0 : Blk (U4.alloc (.cells (va 256 (iv .u8 (blkAt X3 j))) 52)) U4.heap.size 52 (va 256 (iv .u8 (blkAt X3 j))) := Blk.new _ _ _
                                          have ho6 : (U4.alloc (.cells (va 256 (iv .u8 (blkAt X3 j))) 52)).ownsRow wf.heap.size 52 256 (.slice (some ⟨lb, 0, none⟩) j lc) j (byL (preX X3 j) (j * 256)) := kown_below HO.out (below_new1 _ _)
                                          have hb6 : Below wf.heap.size wf (U4.alloc (.cells (va 256 (iv .u8 (blkAt X3 j))) 52)) := HB.out.trans ((below_new1 U4 _).mono HB.out.size)
                                          have hj4 : j ≤ 100000 := by have := HN2.out.2.1; omega
                                          go_wp2_with (first
                                            | (refine wpList_load_blk (by rfl) 49 _ (by rfl) (b) (j * 256) 256 (iv .u8 (blkAt X3 j)) (by rfl) _ (by exact HRG.out) Tryz.underlying49 rfl rsizeBk ?_; simp only [Act.put, sgPHWoMade])
                                            | (refine wpList_build1 (by rfl) 37 52 _ (by rfl) (va 256 (iv .u8 (blkAt X3 j))) (by rfl) jt _ 256 Tryz.underlying37 hj0 hy0 hy1 (va_size _ _) (by decide) (by decide) ?_; simp only [Act.put, sgPHWoMade])
                                            | (refine wpList_append_bk (by rfl) _ _ 37 (by rfl) wf.heap.size 52 jt _ Tryz.underlying37 hj0 hy0 hy1 hy2 (va_size _ _) (.slice (some ⟨lb, 0, none⟩) j lc) j (preX X3 j) (blkAt X3 j) (by rfl) ho6 U4.heap.size 1 (by rfl) (by exact g0) hj4 hb6.size ?_; intro v7 w7 hown hb7 hgr hvb; simp only [Act.put, sgPHWoMade])
                                            | fail)
                                          obtain ⟨b7, c7, rfl, _, _, _⟩ := own_some hown (by omega)
                                          have HO7 : Hid (w7.ownsRow wf.heap.size 52 256 (.slice (some ⟨b7, 0, none⟩) (j + 1) c7) (j + 1) (byL (preX X3 (j + 1)) ((j + 1) * 256))) := by
                                            rw [pre_ap] at hown
                                            exact hown
                                          have HB7 : Hid (Below wf.heap.size wf w7) := hb6.trans hb7
                                          clear hown hb7 hgr hvb ho6 hb6 g0
                                          go_roundw
                                          case rel => exact ⟨j + 1, b7, c7, by omega, by simp, rfl, HO7.out, HB7.out⟩
                                          case measure =>
                                            simp [intOf]
                                            omega
                                          --D]
                                        · have j1 : ¬ (j : Int) < (N : Int) := by omega
                                          have e : N = j := by omega
                                          subst e
                                          clear hlt j1 hjN
                                          as_aux_lemma =>
                                            have HLB : Hid (wf.heap.size ≤ lb) := own_lo HO.out
                                            have HIB0 : Hid (IsBlks U4 (some ⟨lb, 0, none⟩) N fun i => blkAt X3 i) := own_blks9 HO.out
                                            clear HO
                                            go_wp2_with fail
                                            refine (caNew_ok g none 0 (by decide) (by decide) U4).mono ?_
                                            rintro e wh ⟨c1, m1, rfl, hcm, hcb, hcmp, hbh⟩
                                            have HC1 : Hid ((U4.heap.size ≤ c1 ∧ U4.heap.size ≤ m1) ∧ Blk wh c1 133 (caC (some ⟨g, 0, none⟩) none 0 m1 none none 0 0 0 0) ∧ MapIs rfV ptV wh m1 [] ∧ Below U4.heap.size U4 wh) := ⟨hcm, hcb, hcmp, hbh⟩
                                            have x4 := (wo_cells (HM4.out.keep (HB.out.trans (hbh.mono HB.out.size))).wo).2.2.2.2
                                            clear hcm hcb hcmp hbh
                                            go_upto_region 31 with fail
                                            go_cut [163] (fun v wx => v = .bool (decide (0 < ca ∧ ca ≤ 4096)) ∧ wh = wx)
                                            case first =>
                                              by_cases k1 : 0 < ca
                                              · by_cases k2 : ca ≤ 4096
                                                · have hd : decide (0 < ca ∧ ca ≤ 4096) = true := decide_eq_true ⟨k1, k2⟩
                                                  go_wp2_with fail
                                                  go_meet
                                                  exact ⟨by rw [hd], rfl⟩
                                                · have hd : decide (0 < ca ∧ ca ≤ 4096) = false := decide_eq_false fun u => k2 u.2
                                                  go_wp2_with fail
                                                  go_meet
                                                  exact ⟨by rw [hd], rfl⟩
                                              · have hd : decide (0 < ca ∧ ca ≤ 4096) = false := decide_eq_false fun u => k1 u.1
                                                go_wp2_with fail
                                                go_meet
                                                exact ⟨by rw [hd], rfl⟩
                                            case rest =>
                                              obtain ⟨rfl, rfl⟩ := hcut
                                              go_upto_if 163 with fail
                                              go_cut [18, 19] (fun v18 v19 wx => v19 = .int .i64 0 ∧ ∃ c2 m2 room : Nat, v18 = .pointer (some ⟨c2, 0, none⟩) ∧ Hid (room ≤ 4096 ∧ (U4.heap.size ≤ c2 ∧ U4.heap.size ≤ m2) ∧ Blk wx c2 133 (caC (some ⟨g, 0, none⟩) none (room : Int) m2 none none 0 0 0 0) ∧ MapIs rfV ptV wx m2 [] ∧ Below U4.heap.size U4 wx))
                                              case first =>
                                                by_cases hk : 0 < ca ∧ ca ≤ 4096
                                                · rw [decide_eq_true hk]
                                                  obtain ⟨rm, hrm⟩ := Int.eq_ofNat_of_zero_le (show 0 ≤ ca by omega)
                                                  have HRM : Hid (ca = (rm : Int) ∧ rm ≤ 4096) := ⟨hrm, by omega⟩
                                                  have HK : Hid (0 ≤ ca ∧ ca ≤ 4096) := ⟨by omega, hk.2⟩
                                                  clear hrm hk
                                                  go_wp2_with fail
                                                  refine (caNew_ok g none ca HK.out.1 HK.out.2 _).mono ?_
                                                  rintro e wi ⟨c2, m2, rfl, hcm, hcb, hcmp, hbh⟩
                                                  go_wp2_with fail
                                                  go_meet
                                                  refine ⟨rfl, c2, m2, rm, rfl, HRM.out.2, ⟨Nat.le_trans HC1.out.2.2.2.size hcm.1, Nat.le_trans HC1.out.2.2.2.size hcm.2⟩, ?_, hcmp, HC1.out.2.2.2.trans (hbh.mono HC1.out.2.2.2.size)⟩
                                                  rw [← HRM.out.1]
                                                  exact hcb
                                                · rw [decide_eq_false hk]
                                                  clear hk
                                                  go_wp2_with fail
                                                  go_meet
                                                  exact ⟨rfl, c1, m1, 0, rfl, by decide, HC1.out.1, HC1.out.2.1, HC1.out.2.2.1, HC1.out.2.2.2⟩
                                              case rest =>
                                                as_aux_lemma =>
                                                  obtain ⟨rfl, c2, m2, room, rfl, hcc⟩ := hcut
                                                  have HCC : Hid (room ≤ 4096 ∧ (U4.heap.size ≤ c2 ∧ U4.heap.size ≤ m2) ∧ Blk wc c2 133 (caC (some ⟨g, 0, none⟩) none (room : Int) m2 none none 0 0 0 0) ∧ MapIs rfV ptV wc m2 [] ∧ Below U4.heap.size U4 wc) := hcc
                                                  have hbc : Below wf.heap.size wf wc := HB.out.trans (HCC.out.2.2.2.2.mono HB.out.size)
                                                  have HBC : Hid (Below wf.heap.size wf wc) := hbc
                                                  have HM6 : Hid (MD w wc b N cc X3 (woC h a n c ab nb cb tu ca) xt h2 R) := HM4.out.keep hbc
                                                  have HQ6 : Hid (DiskQ wc we.heap.size g N (fun _ => 0) 0 0 q) := HQ.out.below hbc
                                                  have HIB : Hid (IsBlks wc (some ⟨lb, 0, none⟩) N fun i => blkAt X3 i) := HIB0.out.below HCC.out.2.2.2.2
                                                  have HNF : Hid (¬ foot g N q lb) := fun z => by
                                                    have h1 := (HQ.out.foots _ z).2
                                                    have h2 := HLB.out
                                                    omega
                                                  have HFT : Hid (∀ z, foot g N q z → we.heap.size ≤ z ∧ z < wf.heap.size) := fun z hz => HQ.out.foots z hz
                                                  have HCB : Hid (wf.heap.size ≤ c2 ∧ wf.heap.size ≤ m2) := ⟨Nat.le_trans HB.out.size HCC.out.2.1.1, Nat.le_trans HB.out.size HCC.out.2.1.2⟩
                                                  have HN8 : Hid (16 ≤ N ∧ N ≤ 8192) := ⟨HN2.out.2.2, Nat.le_trans HN2.out.2.1 (by decide)⟩
                                                  have HXN : Hid (xt ≠ w.heap.size + 1) := fun e => by
                                                    have := HXTT.out
                                                    omega
                                                  have HWB : Hid (w.heap.size ≤ we.heap.size ∧ b < we.heap.size) := ⟨by have := HLT.out.2.2.1; show _ ≤ _; omega, HLT.out.1⟩
                                                  have HLO9 : Hid (w.heap.size ≤ b) := own_lo HM6.out.img.1
                                                  have HSem : Hid (nb = 0 → tu ≠ 1 → tu ≠ 2 → tu ≠ 3 → h2 = (hgtW h : Int) ∧ Has (loadF (fun i => blkAt X3 i) (fun _ => 0) N) N (hgtW h) R fun q _ => (fillG (4 ^ hgtW h) A Y (min n 40) ((q : Nat) : Int)).getD 0) := fun e0 e1 e2 e3 => by
                                                    have ew : hgtW h = hh := HHD.out.symm
                                                    rw [ew, HC.out.2.2.2]
                                                    refine ⟨HT2.out e1 e2, ?_⟩
                                                    rw [HT3.out e3]
                                                    have hx := HNN.out
                                                    rw [← HXT0.out e0] at hx
                                                    have hh9 := HH4.out.ext (X' := loadF (fun i => blkAt X3 i) (fun _ => 0) N) (n' := N) (fun x hxx => (loadF_at X3 N x (Nat.lt_of_lt_of_le hxx (Nat.mul_le_mul_right _ hx.1))).trans (hx.2.2 x hxx)) hx.1
                                                    refine hh9.congr fun p hp j hj => ?_
                                                    rw [Nat.zero_mul, Nat.zero_add, HFS.out.leaf, HII.out]
                                                  have HSZ : Hid (we.heap.size ≤ wc.drew.heap.size) := Nat.le_trans HLT.out.2.2.2 hbc.size
                                                  have hS : Blk wc.drew xt 33 (trC h2 R) := HM6.out.tr
                                                  clear hcc hbc HM4 HQ HC1 x4 HIB0
                                                  go_upto_region 33 with fail
                                                  refine wp_region_partsS (fun W => Blk W xt 33 (trC h2 R)) [([0, 1, 3], 2, true), ([], 4, false), ([5, 6], 7, false), ([8, 9, 10, 11], 12, false), ([15, 16], 13, true), ([14], 17, false)] [] [18] (by kernel_rfl) (by kernel_rfl) hS (partsI_yield ?_)
                                                  simp only [sgLHWoMade]
                                                  go_wp2_with fail
                                                  refine ⟨rfl, _, .agg (trC h2 R), rfl, kyields_load (by rfl) 33 _ (by rfl) xt 34 (trF h2 R) (by rfl) _ 33 (fun W hW => hW) Tryz.underlying33 rfl rsizeTr, partsI_force ?_⟩
                                                  simp only [Act.put, sgPHWoMade]
                                                  simp only [sgLHWoMade]
                                                  go_wp2_with fail
                                                  refine ⟨rfl, hS, partsI_force ?_⟩
                                                  simp only [sgLHWoMade]
                                                  go_wp2_with fail
                                                  refine ⟨rfl, hS, partsI_force ?_⟩
                                                  simp only [sgLHWoMade]
                                                  go_wp2_with fail
                                                  refine (load_q (fun _ => 0) (fun i => blkAt X3 i) lb lc (by have := HN2.out.2.2; omega) (by have := HN2.out.2.1; omega) (fun a => by rw [HQ2.out.2.1]; rfl) HQ2.out.2.2 HNF.out _ HSZ.out (HQ6.out.below (Below.refl _ _).drew) (HIB.out.below (Below.refl _ _).drew)).mono ?_
                                                  rintro e wl ⟨rfl, l9, G9, ss9, hq9, hmv9⟩
                                                  have hr9 : Blk wl (w.heap.size + 1) 33 (trC 0 rf0) := hmv9.1.blk (show Blk wc.drew _ _ _ from HM6.out.res) fun z => by have h1 := (HQ6.out.foots _ z).1; have h2 := HLT.out.2.2.1; omega
                                                  have hS : Blk wl xt 33 (trC h2 R) := hmv9.1.blk (show Blk wc.drew _ _ _ from HM6.out.tr) fun z => by have h1 := (HQ6.out.foots _ z).1; have h2 := HLT.out.2.1; omega
                                                  have HI9 : Hid (Img wl w.heap.size (.slice (some ⟨b, 0, none⟩) N cc) N X3) := img_keepb HM6.out.img (hmv9.1.block b (Nat.lt_of_lt_of_le HLT.out.1 HSZ.out) fun z => by have h1 := (HQ6.out.foots _ z).1; have h2 := HLT.out.1; omega)
                                                  have hst := Blk.store (P := Tryz.prog) hr9 (trC h2 R) (by simp only [trC_size]) (arr_mem (trC_all _ _))
                                                  have hvs := trC_size h2 R
                                                  go_wp2_with fail
                                                  refine ⟨rfl, hS, partsI_yield ?_⟩
                                                  simp only [sgLHWoMade]
                                                  go_wp2_with fail
                                                  first
                                                    | refine ⟨rfl, _, .bool true, rfl, Or.inl ⟨by rfl, fun U hU => by go_simp⟩, partsI_force ?_⟩
                                                    | refine ⟨rfl, .bool true, Or.inl ⟨by rfl, fun U hU => by go_simp⟩, partsI_force ?_⟩
                                                  simp only [Act.put, sgPHWoMade]
                                                  simp only [sgLHWoMade]
                                                  go_wp2_with fail
                                                  have HQ9 : Hid (DiskQ wl we.heap.size g N (loadF (fun i => blkAt X3 i) (fun _ => 0) N) 0 0 { q with l := l9, G := G9, ss := ss9 }) := hq9
                                                  have HV9 : Hid (Moved g N q { q with l := l9, G := G9, ss := ss9 } wc.drew wl) := hmv9
                                                  clear hq9 hmv9
                                                  have HFin := made_fin (B1 := we.heap.size) (Bf := wf.heap.size) HLT.out.2.2.1 HLT.out.1 HLT.out.2.1 HXTT.out HLT.out.2.2.2 HBC.out.size HM6.out HFT.out HQ9.out HV9.out HQ2.out.1 HCC.out.2.2.1 HCC.out.2.2.2.1 HCB.out HCC.out.1 HN8.out
                                                  have HFN : Hid _ := HFin
                                                  clear HFin HQ9 HV9
                                                  refine ⟨rfl, hS.other _ HXN.out, partsI_last ?_⟩
                                                  clear hst
                                                  have HR9 : Hid (Blk wl (w.heap.size + 1) 33 (trC 0 rf0)) := hr9
                                                  simp only [sgLHWoMade]
                                                  go_wp2_with fail
                                                  refine ⟨rfl, ?_⟩
                                                  clear hr9 hvs hS hz hmm
                                                  rename_i hK
                                                  refine hK _ _ (wp_ret ?_)
                                                  refine bodyPost_ret (results_made Tryz.results6 _ _ (w.heap.size + 1) 33 (trC h2 R) _ rfl (HR9.out.set _) Tryz.underlying33 rfl (rsizeTr.trans (by rw [trC_size]))) rfl ?_
                                                  exact ⟨c2, b, N, cc, g, m2, room, we.heap.size, _, _, h2, R, rfl, HFN.out.1, ⟨HWB.out.1, HWB.out.2, HLO9.out⟩, HFN.out.2.1, HFN.out.2.2.1, H27.out, HRR.out, HSem.out, HFN.out.2.2.2⟩
end Go.Proofs.YtiofonffmplfmaaGreat
