/- The statement TreeRanges: called with whatever world and numbers it returns true. -/
import Derived.Test.YtiofonffmplfmaaGreatHNdBlock
import Derived.BigQuiet
import Derived.Deep.QuietTactic
import Derived.Test.YtiofonffmplfmaaGreatHWoMade
import Derived.Test.YtiofonffmplfmaaGreatHTrGS
import Derived.Test.YtiofonffmplfmaaGreatHTrGiven
import Derived.Test.YtiofonffmplfmaaGreatHTrNew
import Derived.Test.YtiofonffmplfmaaGreatHSegsIf
import Derived.Handy
import Derived.Test.YtiofonffmplfmaaGreatHTrWalk

namespace Go.Proofs.YtiofonffmplfmaaGreat
theorem sgLHTreeRangesLaw : (∀ (α : Type) (a : α) (l r : List α), (a :: l) ++ r = a :: (l ++ r)) ∧ (∀ (α : Type) (l : List α), [] ++ l = l) ∧ (∀ (α : Type) (l : List α), l ++ [] = l) ∧ (∀ (α β : Type) (f : α → Option β) (a : α) (l : List α), (a :: l).filterMap f = match f a with | none => l.filterMap f | some b => b :: l.filterMap f) ∧ (∀ (α β : Type) (f : α → Option β), [].filterMap f = []) ∧ (∀ (α : Type) (l : List α) (i : Nat), l.toArray[i]? = l[i]?) ∧ (∀ (α : Type) (a : α) (l : List α), (a :: l)[0]? = some a) ∧ (∀ (α : Type) (a : α) (l : List α) (i : Nat), (a :: l)[i + 1]? = l[i]?) :=
  ⟨fun _ _ _ _ => List.cons_append, fun _ _ => List.nil_append _, fun _ _ => List.append_nil _, fun _ _ _ _ _ => List.filterMap_cons, fun _ _ _ => List.filterMap_nil, fun _ _ _ => List.getElem?_toArray, fun _ _ _ => List.getElem?_cons_zero, fun _ _ _ _ => List.getElem?_cons_succ⟩
theorem sgPHTreeRangesLaw : (∀ (α : Type) (l : List α) (i : Nat) (a : α), l.toArray.setIfInBounds i a = (l.set i a).toArray) ∧ (∀ (α : Type) (a b : α) (l : List α), (a :: l).set 0 b = b :: l) ∧ (∀ (α : Type) (a b : α) (l : List α) (i : Nat), (a :: l).set (i + 1) b = a :: l.set i b) :=
  ⟨fun _ _ _ _ => List.setIfInBounds_toArray _ _ _, fun _ _ _ _ => List.set_cons_zero, fun _ _ _ _ _ => List.set_cons_succ⟩
end Go.Proofs.YtiofonffmplfmaaGreat
namespace Go.Proofs.YtiofonffmplfmaaGreat
open Go Go.RowKit
set_option linter.unusedSimpArgs false
set_option linter.unusedVariables false

set_option maxRecDepth 100000 in
set_option maxHeartbeats 4000000 in
theorem awake9_any (w : World) : Calls Tryz.prog 7 #[] w fun e w' => e = .returned (.bool true) ∧ Below w.heap.size w w' := by
  have hW : Hid (Calls Tryz.prog 25 #[.int .i64 2, .int .i64 6] w fun e w' => e = .returned (.tuple #[.slice (some ⟨w.heap.size, 0, none⟩) 2 2, .int .i64 0]) ∧ Blk w' w.heap.size 3 (va 2 (iv .i64 (wayN 2 6))) ∧ Below w.heap.size w w') := way_ok 2 6 (by decide) (by decide) w
  have hC : Hid (∀ w : World, Calls Tryz.prog 26 #[.int .i64 3] w fun e w' => e = .returned (.tuple #[.int .i64 64, .int .i64 0]) ∧ w = w') := fun w => capacity_ok 3 64 (by decide) (by decide) w
  go_enter Tryz.func7, Tryz.ntmps7
  go_wp2_with fail
  refine hW.out.mono ?_
  rintro e w1 ⟨rfl, b1, hb1⟩
  have c0 : w1.cell? ⟨w.heap.size, 0, none⟩ = some (.int .i64 1) := b1.cv (by decide)
  have c1 : w1.cell? ⟨w.heap.size, 1, none⟩ = some (.int .i64 2) := b1.cv (by decide)
  go_wp2_with fail
  refine (hC.out w1).mono ?_
  rintro e _ ⟨rfl, rfl⟩
  go_wp2_with fail
  go_ret
  exact ⟨rfl, hb1⟩
end Go.Proofs.YtiofonffmplfmaaGreat

namespace Go.Proofs.YtiofonffmplfmaaGreat
open Go Go.RowKit
set_option linter.unusedSimpArgs false
set_option linter.unusedVariables false

theorem sizeWo : (Tryz.prog.info? 25).map (·.size) = some 5 := by kernel_rfl
theorem woC_size (h : Int) (a : Option Addr) (n c : Nat) (ab : Option Addr) (nb cb : Nat) (tu ca : Int) : (woC h a n c ab nb cb tu ca).size = 5 := rfl
theorem IsBlks.keptBy {w w' : World} {b o n : Nat} {L : Nat → Nat → Nat} (h : IsBlks w (some ⟨b, o, none⟩) n L) (hs : w.heap.size ≤ w'.heap.size) (hk : w'.heap[b]? = w.heap[b]?) : IsBlks w' (some ⟨b, o, none⟩) n L := fun i hi => by
  obtain ⟨b', o', e, h1, h2⟩ := h i hi
  injection e with e
  injection e with e1 e2
  subst e1 e2
  exact ⟨b, o, rfl, Nat.lt_of_lt_of_le h1 hs, fun j v hv => by
    rw [← h2 j v hv]
    simp only [World.cell?, hk]⟩
/-- what the statements have behind made: a cache on a quiet disk, the image, the tree in a block -/
structure TW (w : World) (B g N : Nat) (F : Nat → Nat) (c m room i : Nat) (U : Nat → Prop) (ib xt : Nat) (h : Int) (R : Rf) : Prop where
  td : TD w B g N F c m room i U
  img : IsBlks w (some ⟨ib, 0, none⟩) N fun i => blkAt F i
  tr : Blk w xt 33 (trC h R)
  hib : ¬ U ib
  hxt : ¬ U xt
  bib : ib < w.heap.size
theorem TW.below {w w' : World} {B g N c m room i ib xt : Nat} {F : Nat → Nat} {U : Nat → Prop} {h : Int} {R : Rf} (H : TW w B g N F c m room i U ib xt h R) (hb : Below w.heap.size w w') : TW w' B g N F c m room i U ib xt h R := ⟨H.td.below hb, H.img.below hb, H.tr.below hb H.tr.lt, H.hib, H.hxt, Nat.lt_of_lt_of_le H.bib hb.size⟩
theorem TW.step {w w' : World} {B g N c m room i j ib xt : Nat} {F : Nat → Nat} {U : Nat → Prop} {h : Int} {R : Rf} (H : TW w B g N F c m room i U ib xt h R) (hs : TDStep w w' B g N F c m room j U) : ∃ V, TW w' B g N F c m room j V ib xt h R ∧ Turns U w w' ∧ ∀ x, V x → U x ∨ w.heap.size ≤ x := by
  obtain ⟨V, h1, h2, h3⟩ := hs
  refine ⟨V, ⟨h1, H.img.keptBy h2.size (h2.block ib H.bib H.hib), h2.blk H.tr H.hxt, fun z => ?_, fun z => ?_, Nat.lt_of_lt_of_le H.bib h2.size⟩, h2, h3⟩
  · rcases h3 _ z with y | y
    · exact H.hib y
    · have := H.bib
      omega
  · rcases h3 _ z with y | y
    · exact H.hxt y
    · have := H.tr.lt
      omega
end Go.Proofs.YtiofonffmplfmaaGreat

namespace Go.Proofs.YtiofonffmplfmaaGreat
open Go Go.RowKit
set_option linter.unusedSimpArgs false
set_option linter.unusedVariables false
section
variable {N : Nat} {F : Nat → Nat}
set_option maxRecDepth 100000 in
set_option maxHeartbeats 8000000 in
theorem failsLater_any (h : Int) (R : Rf) (hR : R.1 < 4294967296) (hF : ∀ a, F a < 256) (hok : trOk h R) (s e1 t1 : Nat) (er : Int) (hs : s ≤ t1) (ht : t1 < e1) (he : e1 ≤ 4 ^ h.toNat) (h4 : e1 ≤ 4096) (hpre : ∀ q, s ≤ q → q < t1 → (leafV F N h R (q : Int)).2 = 0) (hat : (leafV F N h R (t1 : Int)).2 = er) (h0 : er ≠ 0) (a0 : Option Addr) (cap : Nat) (hN : N ≤ 8192) (w : World) (H : IsBlks w a0 N fun i => blkAt F i) : Calls Tryz.prog 13 #[.slice a0 N cap, .agg (trC h R), .int .i64 (s : Int), .int .i64 (e1 : Int), .int .i64 er] w fun x w' => x = .returned (.bool true) ∧ Below w.heap.size w w' := by
  have hz := rzero_bk
  have hb1 : Below w.heap.size w (w.alloc (.cells (trC h R) 33)) := below_new1 _ _
  have k1 : Blk (w.alloc (.cells (trC h R) 33)) w.heap.size 33 (trC h R) := Blk.new _ _ _
  have HB1 : Hid (Below w.heap.size w (w.alloc (.cells (trC h R) 33))) := hb1
  have HK1 : Hid (Blk (w.alloc (.cells (trC h R) 33)) w.heap.size 33 (trC h R)) := k1
  have HLf : Hid (∀ (q : Nat), s ≤ q → q < e1 → ∀ W, Below w.heap.size w W → Calls Tryz.prog 12 #[.slice a0 N cap, .agg (trC h R), .int .i64 (q : Int)] W fun x w' => ∃ a c nn, x = .returned (.tuple #[.agg (va 256 (iv .u8 (leafV F N h R (q : Int)).1)), .slice a nn c, .int .i64 (leafV F N h R (q : Int)).2]) ∧ Below W.heap.size W w') := fun q hq1 hq2 W hW => by
    refine (rleaf9_any h R hR hF hok q (fun ho => ?_) a0 cap hN W (H.below hW)).mono ?_
    · unfold outP at ho
      have h2 := hok.2
      rw [show h - 0 = h by omega] at ho
      omega
    · rintro x w' ⟨a, c, nn, h1, _, h3⟩
      exact ⟨a, c, nn, h1, h3⟩
  have HP : Hid ((∀ q, s ≤ q → q < t1 → (leafV F N h R (q : Int)).2 = 0) ∧ (leafV F N h R (t1 : Int)).2 = er ∧ er ≠ 0) := ⟨hpre, hat, h0⟩
  have HI : Hid (s ≤ t1 ∧ t1 < e1 ∧ e1 ≤ 4096) := ⟨hs, ht, h4⟩
  have hK5 : e1 ≤ 4096 := h4
  have hK6 : t1 ≤ 4096 := by omega
  clear hb1 H hpre hat h0 hs ht he hR hF hok k1 h4
  go_enter Tryz.func13, Tryz.ntmps13
  go_wp2_with fail
  generalize (w.alloc (.cells (trC h R) 33)) = w1 at *
  go_loopw [11] (fun t wr => Hid (∃ j : Nat, s ≤ j ∧ j ≤ t1 ∧ t = .int .i64 (j : Int) ∧ Below w1.heap.size w1 wr)) (fun t _ => e1 - (intOf t).toNat)
  case atStart => exact ⟨s, Nat.le_refl _, HI.out.1, rfl, Below.refl _ _⟩
  case round =>
    obtain ⟨j, hj1, hj2, rfl, hb⟩ := Hid.out hrel
    clear hrel
    have HBW : Hid (Below w1.heap.size w1 wr) := hb
    have HBW0 : Hid (Below w.heap.size w wr) := HB1.out.trans (hb.mono HB1.out.size)
    have HJ : Hid (s ≤ j ∧ j ≤ t1) := ⟨hj1, hj2⟩
    have k2 := HK1.out.below hb HK1.out.lt
    have j0 : (0 : Int) ≤ (j : Int) := by omega
    have j1 : (j : Int) < (e1 : Int) := by have := HI.out; omega
    clear hb hj1
    go_wp2_with (first
      | (refine wpList_load_rowg (by rfl) 33 _ (by rfl) (w.heap.size) (by rfl) 33 (trC h R) (0, 0) _ (by exact k2) Tryz.underlying33 (by rfl) (rsizeTr.trans (by rw [trC_size])) ?_; simp only [Act.put, sgPHTreeRangesLaw])
      | fail)
    refine (HLf.out j HJ.out.1 (by have := HI.out; have := HJ.out; omega) wr HBW0.out).mono ?_
    rintro x w3 ⟨av, cv, nn, rfl, hb3⟩
    obtain ⟨f, hf⟩ : ∃ f, (leafV F N h R (j : Int)).1 = f := ⟨_, rfl⟩
    have q0 : Blk (w3.alloc (.cells (va 256 (iv .u8 fun _ => 0)) 49)) w3.heap.size 49 (va 256 (iv .u8 fun _ => 0)) := Blk.new _ _ _
    have hbq : Below w3.heap.size w3 ((w3.alloc (.cells (va 256 (iv .u8 fun _ => 0)) 49)).setRow w3.heap.size (va 256 (iv .u8 f))) := below_setRow (below_new1 _ _) (Nat.le_refl _) _
    have hb4 := hb3.trans (hbq.mono hb3.size)
    have HB4 : Hid (Below w1.heap.size w1 ((w3.alloc (.cells (va 256 (iv .u8 fun _ => 0)) 49)).setRow w3.heap.size (va 256 (iv .u8 f)))) := HBW.out.trans (hb4.mono HBW.out.size)
    rw [hf]
    clear hb3 hbq hb4 HBW HBW0 k2 hf
    rcases Nat.lt_or_ge j t1 with hlt | hge
    · rw [HP.out.1 j HJ.out.1 hlt]
      go_wp2_with (first
        | (refine wpList_store_row (by rfl) 49 _ _ (by rfl) (w3.heap.size) (va 256 (iv .u8 f)) (by rfl) (by rfl) 49 (_) (by exact q0) (rsizeBk.trans (by rw [va_size])) (by simp only [va_size]) (iv_one _ _ _) ?_; simp only [Act.put, sgPHTreeRangesLaw])
        | fail)
      go_roundw
      · exact ⟨j + 1, by have := HJ.out; omega, hlt, by push_cast; rfl, HB4.out⟩
      · simp only [intOf]
        omega
    · obtain rfl : j = t1 := by omega
      rw [HP.out.2.1]
      have hne : ¬ er = 0 := HP.out.2.2
      go_wp2_with (first
        | (refine wpList_store_row (by rfl) 49 _ _ (by rfl) (w3.heap.size) (va 256 (iv .u8 f)) (by rfl) (by rfl) 49 (_) (by exact q0) (rsizeBk.trans (by rw [va_size])) (by simp only [va_size]) (iv_one _ _ _) ?_; simp only [Act.put, sgPHTreeRangesLaw])
        | fail)
      go_ret
      exact ⟨rfl, HB1.out.trans (HB4.out.mono HB1.out.size)⟩
end
end Go.Proofs.YtiofonffmplfmaaGreat

namespace Go.Proofs.YtiofonffmplfmaaGreat
open Go Go.RowKit
set_option linter.unusedSimpArgs false
set_option linter.unusedVariables false
section
variable {N : Nat} {F : Nat → Nat}
theorem outP_in {k q : Nat} (hq : q < 4 ^ k) : ¬ outP (k : Int) 0 (q : Int) := fun ho => by
  unfold outP at ho
  rw [show (k : Int) - 0 = (k : Int) by omega, Int.toNat_natCast] at ho
  omega
theorem leafO_leafV {k : Nat} {R : Rf} {q : Nat} (hok : trOk (k : Int) R) (hq : q < 4 ^ k) : leafO F N k R q = leafV F N (k : Int) R (q : Int) := by
  unfold leafV
  rw [leafV_in hok (outP_in hq)]
  unfold leafO wysN
  rw [Int.toNat_natCast]
/-- leaves, or the first error -/
theorem rangeR_in {k f m : Nat} {R : Rf} (hok : trOk (k : Int) R) (hg : f + m ≤ 4 ^ k) :
    (∃ s, rangeR F N (k : Int) R (f : Int) (m : Int) = (some s, 0) ∧ ∀ j, j < m → (leafV F N (k : Int) R ((f + j : Nat) : Int)).2 = 0 ∧ s j = (leafV F N (k : Int) R ((f + j : Nat) : Int)).1) ∨
    (∃ er j1, rangeR F N (k : Int) R (f : Int) (m : Int) = (none, er) ∧ er ≠ 0 ∧ j1 < m ∧ (leafV F N (k : Int) R ((f + j1 : Nat) : Int)).2 = er ∧ ∀ j, j < j1 → (leafV F N (k : Int) R ((f + j : Nat) : Int)).2 = 0) := by
  have hgg : rgOk (k : Int) (f : Int) (m : Int) := by
    unfold rgOk
    rw [Int.toNat_natCast]
    omega
  have hr := rng_any (F := F) (N := N) f m k 0 R (fun _ _ => 0) fun q _ _ => rfl
  unfold RngP at hr
  simp only [Nat.zero_mul, Nat.zero_add] at hr
  unfold rangeR
  rw [if_pos hok, if_pos hgg, Int.toNat_natCast, Int.toNat_natCast, Int.toNat_natCast]
  obtain ⟨s, er, hw⟩ : ∃ s er, wlkR F N (stR F N f m) k (fun _ _ => 0) ((0 : Nat) : Int) R = (s, er) := ⟨_, _, rfl⟩
  rw [hw] at hr
  have hw0 : wlkR F N (stR F N f m) k (fun _ _ => 0) 0 R = (s, er) := hw
  rw [hw0]
  by_cases h0 : er = 0
  · refine .inl ⟨s, if_pos h0, fun j hj => ?_⟩
    obtain ⟨h1, h2, _⟩ := hr.1 h0
    have hin : inR f m (f + j) := by unfold inR; omega
    have h3 := h1 (f + j) (by omega) hin
    have h4 := h2 (f + j) (by omega) hin
    rw [leafO_leafV hok (by omega)] at h3 h4
    rw [show f + j - f = j by omega] at h4
    exact ⟨h3, h4⟩
  · obtain ⟨q, h1, h2, h3, h4⟩ := hr.2 h0
    unfold inR at h2
    refine .inr ⟨er, q - f, if_neg h0, h0, by omega, ?_, fun j hj => ?_⟩
    · rw [show f + (q - f) = q by omega, ← leafO_leafV hok h1]
      exact h3
    · rw [← leafO_leafV hok (by omega)]
      exact h4 (f + j) (by omega) (by unfold inR; omega)
theorem rangeR_bad {h : Int} {R : Rf} {fr n : Int} (hok : ¬ trOk h R) : rangeR F N h R fr n = (none, 1) := if_neg hok
theorem rangeR_out {h : Int} {R : Rf} {fr n : Int} (hok : trOk h R) (hg : ¬ rgOk h fr n) : rangeR F N h R fr n = (none, 90) := by
  unfold rangeR
  rw [if_pos hok, if_neg hg]
end
end Go.Proofs.YtiofonffmplfmaaGreat

namespace Go.Proofs.YtiofonffmplfmaaGreat
open Go Go.RowKit
set_option linter.unusedSimpArgs false
set_option linter.unusedVariables false
theorem lv_range {W : World} {lk m : Nat} {s : Nat → Nat → Nat} (h : Blk W lk 52 (va (m * 256) (lvV s))) (j : Nat) (hj : j < m) : W.rangeAt lk (j * 256) ((List.range 256).map (iv .u8 (s j))) := fun i v hv => by
  have hi : i < 256 := by
    have := (List.getElem?_eq_some_iff.1 hv).1
    simpa using this
  have e : j * 256 + i < m * 256 := by omega
  rw [h.cell (j * 256 + i), va_at (lvV s) e, ← hv, List.getElem?_map, List.getElem?_range hi]
  unfold lvV
  rw [show (j * 256 + i) / 256 = j by omega, show (j * 256 + i) % 256 = i by omega]
  rfl
set_option maxRecDepth 100000 in
set_option maxHeartbeats 16000000 in
theorem treeRangesLaw {h : Int} {a : Option Addr} {n c : Nat} {ab : Option Addr} {nb cb : Nat} {tu ca : Int} {A : Nat → Int} {Y : Nat → Nat} {Z : Nat → Int} (fr nm : Int) (hp : -9223372036854775808 ≤ fr ∧ fr < 9223372036854775808) (hq : -9223372036854775808 ≤ nm ∧ nm < 9223372036854775808) (w : World) (HW : Wo w h a n ab nb tu ca A Y Z) : Calls Tryz.prog 3 #[.agg (woC h a n c ab nb cb tu ca), .int .i64 fr, .int .i64 nm] w fun e w' => e = .returned (.bool true) ∧ Below w.heap.size w w' := by
  have hz := rtop_zero
  have hzr := zero_ref
  have hzrr := zero_rref
  have hzb := zero_bk
  have hzbr := rzero_bk
  have hb1 : Below w.heap.size w (w.alloc (.cells (woC h a n c ab nb cb tu ca) 25)) := below_new1 _ _
  have b1 : Blk (w.alloc (.cells (woC h a n c ab nb cb tu ca) 25)) w.heap.size 25 (woC h a n c ab nb cb tu ca) := Blk.new _ _ _
  have HMd : Hid (∀ V, Below w.heap.size w V → Calls Tryz.prog 6 #[.agg (woC h a n c ab nb cb tu ca)] V (MadeP V h n nb tu A Y)) := fun V hV => made_any V (HW.below hV)
  have HL : Hid ((-9223372036854775808 ≤ fr ∧ fr < 9223372036854775808) ∧ -9223372036854775808 ≤ nm ∧ nm < 9223372036854775808) := ⟨hp, hq⟩
  clear hp hq HW
  go_enter Tryz.func3, Tryz.ntmps3
  go_wp2_with (first
    | (refine wpList_load_rowg (by rfl) 25 _ (by rfl) (w.heap.size) (by rfl) 25 (woC h a n c ab nb cb tu ca) (0, 0) _ (by exact b1) Tryz.underlying25 (by rfl) (sizeWo.trans (by rw [woC_size])) ?_; simp only [Act.put, sgPHTreeRangesLaw])
    | fail)
  generalize (w.alloc (.cells (woC h a n c ab nb cb tu ca) 25)) = w1 at *
  refine (HMd.out _ hb1).mono ?_
  rintro e w2 ⟨cp, ib, N, ic, g, m, room, B, F, U, h', R, rfl, htd, hBi, himg, hF, hh, hR, _, hb2⟩
  have q0 : Blk (w2.alloc (.cells (trC 0 rf0) 33)) w2.heap.size 33 (trC 0 rf0) := Blk.new _ _ _
  have hst := Blk.store (P := Tryz.prog) q0 (trC h' R) (by simp only [trC_size]) (arr_mem (trC_all _ _))
  have hvs := trC_size h' R
  have hbq : Below w2.heap.size w2 ((w2.alloc (.cells (trC 0 rf0) 33)).setRow w2.heap.size (trC h' R)) := below_setRow (below_new1 _ _) (Nat.le_refl _) _
  have HTW : Hid (TW ((w2.alloc (.cells (trC 0 rf0) 33)).setRow w2.heap.size (trC h' R)) B g N F cp m room 0 U ib w2.heap.size h' R) := ⟨htd.below hbq, himg.below hbq, q0.set _, fun z => by have := (htd.lt _ z).1; omega, fun z => by have := (htd.lt _ z).2; omega, by have h1 := htd.hB; have h2 := hbq.size; omega⟩
  have HBB : Hid (w.heap.size ≤ B) := Nat.le_trans hb1.size hBi.1
  have HB2 : Hid (Below w.heap.size w ((w2.alloc (.cells (trC 0 rf0) 33)).setRow w2.heap.size (trC h' R))) := (hb1.trans (hb2.mono hb1.size)).trans (hbq.mono (hb1.trans (hb2.mono hb1.size)).size)
  have HF : Hid (∀ x, F x < 256) := hF
  have HH : Hid ((0 ≤ h' ∧ h' ≤ 7) ∧ R.1 < 4294967296 ∧ okD R.2) := ⟨hh, hR⟩
  clear htd hBi himg hF hh hR hb1 hb2 hbq HMd b1
  go_upto_region 2 with fail
  clear q0 hst hvs
  generalize ((w2.alloc (.cells (trC 0 rf0) 33)).setRow w2.heap.size (trC h' R)) = w3 at *
  generalize w2.heap.size = xt at *
  go_wp2_with fail
  refine (awake9_any w3).mono ?_
  rintro e w4 ⟨rfl, hb4⟩
  have HT4 : Hid (TW w4 B g N F cp m room 0 U ib xt h' R) := HTW.out.below hb4
  have HB4 : Hid (Below w.heap.size w w4) := HB2.out.trans (hb4.mono HB2.out.size)
  have t4 := HT4.out.tr
  clear HTW hb4 HB2
  go_wp2_with (first
    | (refine wpList_load_rowg (by rfl) 33 _ (by rfl) (xt) (by rfl) 33 (trC h' R) (0, 0) _ (by exact t4) Tryz.underlying33 (by rfl) (rsizeTr.trans (by rw [trC_size])) ?_; simp only [Act.put, sgPHTreeRangesLaw])
    | fail)
  refine (given_tree h' R w4).mono ?_
  rintro e w5 ⟨rfl, hb5⟩
  have HT5 : Hid (TW w5 B g N F cp m room 0 U ib xt h' R) := HT4.out.below hb5
  have HB5 : Hid (Below w.heap.size w w5) := HB4.out.trans (hb5.mono HB4.out.size)
  clear hb5 HT4 HB4 t4
  go_wp2_with fail
  refine (range9_any h' R fr nm HH.out.2.1 HH.out.2.2 HF.out HL.out.1 HL.out.2 (by decide) w5 HT5.out.td).mono ?_
  rintro e w6 ⟨v6, rfl, V, ht6, hm6, hv6, hl6⟩
  have hs6 : TDStep w5 w6 B g N F cp m room (0 + 10922) U := ⟨V, ht6, hm6, hv6⟩
  obtain ⟨V6, hT6, hM6, hV6⟩ := HT5.out.step hs6
  have HT6 : Hid (TW w6 B g N F cp m room (0 + 10922) V6 ib xt h' R) := hT6
  have HB6 : Hid (Below w.heap.size w w6) := HB5.out.trans (hm6.below (B := w.heap.size) HB5.out.size fun z hz => by have h1 := (HT5.out.td.lt z hz).1; have h2 := HBB.out; omega)
  obtain ⟨o, er, ho⟩ : ∃ o er, rangeR F N h' R fr nm = (o, er) := ⟨_, _, rfl⟩
  have HO : Hid (rangeR F N h' R fr nm = (o, er)) := ho
  have HL6 : Hid (LvAt w5 nm.toNat o v6 V w6) := by
    have := hl6
    rw [ho] at this
    exact this
  rw [ho]
  clear hs6 ht6 hm6 hv6 hl6 hT6 hM6 hV6 ho HT5 HB5
  have t6 := HT6.out.tr
  go_wp2_with (first
    | (refine wpList_load_rowg (by rfl) 33 _ (by rfl) (xt) (by rfl) 33 (trC h' R) (0, 0) _ (by exact t6) Tryz.underlying33 (by rfl) (rsizeTr.trans (by rw [trC_size])) ?_; simp only [Act.put, sgPHTreeRangesLaw])
    | fail)
  refine (rtright_any h' R w6).mono ?_
  rintro e w7 ⟨rfl, hb7⟩
  have HT7 : Hid (TW w7 B g N F cp m room (0 + 10922) V6 ib xt h' R) := HT6.out.below hb7
  have HB7 : Hid (Below w.heap.size w w7) := HB6.out.trans (hb7.mono HB6.out.size)
  by_cases hok : trOk h' R
  · rw [decide_eq_true hok]
    have HIN : Hid (0 ≤ h' ∧ h' ≤ 6) := ⟨hok.2.1, hok.2.2⟩
    obtain ⟨k, rfl⟩ := Int.eq_ofNat_of_zero_le HIN.out.1
    have HOK : Hid (trOk (k : Int) R) := hok
    obtain ⟨c4, hc4⟩ : ∃ c4, 4 ^ k = c4 := ⟨_, rfl⟩
    have HC4 : Hid (4 ^ k = c4 ∧ 1 ≤ c4 ∧ c4 ≤ 4096) := ⟨hc4, by rw [← hc4]; exact pow4_pos k, by rw [← hc4]; exact pow4_le k (by have := HIN.out.2; omega)⟩
    have HCap : Hid (∀ w, Calls Tryz.prog 11 #[.int .i64 (k : Int)] w fun e w' => e = .returned (.int .i64 (c4 : Int)) ∧ w = w') := fun w => refCap_any k c4 (by have := HIN.out; omega) hc4 w
    have z7 : w7.cell? ⟨xt, 0, none⟩ = some (.int .i64 (k : Int)) := (HT7.out.tr.cell 0).trans (va_at (trF (k : Int) R) (by decide))
    by_cases hg : rgOk (k : Int) fr nm
    · have HG : Hid (0 ≤ fr ∧ 0 ≤ nm ∧ fr + nm ≤ (c4 : Int)) := by
        have := hg
        unfold rgOk at this
        rw [Int.toNat_natCast, HC4.out.1] at this
        exact ⟨this.1, this.2.1, by omega⟩
      obtain ⟨f, rfl⟩ := Int.eq_ofNat_of_zero_le HG.out.1
      obtain ⟨mm, rfl⟩ := Int.eq_ofNat_of_zero_le HG.out.2.1
      have HFM : Hid (f + mm ≤ c4 ∧ c4 ≤ 4096) := ⟨by have := HG.out; omega, HC4.out.2.2⟩
      have j0 : ¬ (f : Int) < 0 := by omega
      have j1 : ¬ (mm : Int) < 0 := by omega
      have j2 : ¬ (c4 : Int) < (f : Int) := by have := HFM.out; omega
      obtain ⟨df, hdf⟩ : ∃ df : Int, (c4 : Int) - (f : Int) = df := ⟨_, rfl⟩
      have j3 : wrap64 ((c4 : Int) - (f : Int)) = df := by rw [← hdf]; exact wrap64_at _ (by have := HFM.out; omega)
      have j4 : ¬ df < (mm : Int) := by have := HFM.out; omega
      have d1 : decide ((c4 : Int) < (f : Int)) = false := decide_eq_false j2
      have d2 : decide (c4 < f) = false := decide_eq_false (by omega)
      have d3 : decide (df < (mm : Int)) = false := decide_eq_false j4
      have d4 : decide ((f : Int) < 0) = false := decide_eq_false j0
      have d5 : decide ((mm : Int) < 0) = false := decide_eq_false j1
      have j2' : ¬ c4 < f := by omega
      clear hdf
      have HLf : Hid (∀ (q : Nat), q < mm → ∀ W, Below w7.heap.size w7 W → Calls Tryz.prog 12 #[.slice (some ⟨ib, 0, none⟩) N ic, .agg (trC (k : Int) R), .int .i64 ((f : Int) + (q : Int))] W fun x w' => ∃ a c nn, x = .returned (.tuple #[.agg (va 256 (iv .u8 (leafV F N (k : Int) R ((f + q : Nat) : Int)).1)), .slice a nn c, .int .i64 (leafV F N (k : Int) R ((f + q : Nat) : Int)).2]) ∧ Below W.heap.size W w') := fun q hq1 W hW => by
        have hl := rleaf9_any (k : Int) R HH.out.2.1 HF.out HOK.out (f + q) (outP_in (by rw [HC4.out.1]; have := HFM.out; omega)) (some ⟨ib, 0, none⟩) ic HT7.out.td.nN W (HT7.out.img.below hW)
        have e : (((f + q : Nat) : Int)) = (f : Int) + (q : Int) := by push_cast; rfl
        rw [e] at hl ⊢
        refine hl.mono ?_
        rintro x w' ⟨a, c, nn, h1, _, h3⟩
        exact ⟨a, c, nn, h1, h3⟩
      have HBK : Hid (Below w6.heap.size w6 w7) := hb7
      clear hg hc4 hok hb7
      go_wp2_with fail
      refine (HCap.out _).mono ?_
      rintro e w9 ⟨rfl, rfl⟩
      clear z7 t6
      go_wp2_with fail
      rcases rangeR_in (F := F) (N := N) (f := f) (m := mm) HOK.out (by rw [HC4.out.1]; exact HFM.out.1) with ⟨s, e1, hs⟩ | ⟨er', j1', e1, h0, hj1, hat, hpre⟩
      · obtain ⟨rfl, rfl⟩ := Prod.mk.inj (HO.out.symm.trans e1)
        obtain ⟨lk, rfl, hlk, _, hblk⟩ := HL6.out
        have HBL : Hid (Blk w7 lk 52 (va (mm * 256) (lvV s))) := by
          rw [Int.toNat_natCast] at hblk
          exact hblk.below HBK.out hblk.lt
        have HSS : Hid (∀ j, j < mm → (leafV F N (k : Int) R ((f + j : Nat) : Int)).2 = 0 ∧ s j = (leafV F N (k : Int) R ((f + j : Nat) : Int)).1) := hs
        rw [Int.toNat_natCast] at *
        clear hs hblk hlk e1
        have hK5 : mm ≤ 4096 := by have := HFM.out; omega
        rw [j3]
        go_loopw [14] (fun t wr => Hid (∃ j : Nat, j ≤ mm ∧ t = .int .i64 (j : Int) ∧ Below w7.heap.size w7 wr)) (fun t _ => mm - (intOf t).toNat)
        case atStart => exact ⟨0, Nat.zero_le _, rfl, Below.refl _ _⟩
        case round =>
          obtain ⟨j, hj, rfl, hb⟩ := Hid.out hrel
          clear hrel
          have HBW : Hid (Below w7.heap.size w7 wr) := hb
          by_cases hlt : j < mm
          · have t8 := HT7.out.tr.below hb HT7.out.tr.lt
            have j5 : (j : Int) < (mm : Int) := by omega
            have j6 : wrap64 ((f : Int) + (j : Int)) = (f : Int) + (j : Int) := wrap64_at _ (by have := HFM.out; omega)
            have j7 : ¬ (mm : Int) ≤ (j : Int) := by omega
            have j8 : (0 : Int) ≤ (j : Int) := by omega
            clear hb
            go_wp2_with (first
              | (refine wpList_load_rowg (by rfl) 33 _ (by rfl) (xt) (by rfl) 33 (trC (k : Int) R) (0, 0) _ (by exact t8) Tryz.underlying33 (by rfl) (rsizeTr.trans (by rw [trC_size])) ?_; simp only [Act.put, sgPHTreeRangesLaw])
              | fail)
            refine (HLf.out j hlt wr HBW.out).mono ?_
            rintro x w13 ⟨av, cv, nn, rfl, hb13⟩
            obtain ⟨h1, h2⟩ := HSS.out j hlt
            rw [h1]
            rw [← h2]
            clear h1 h2
            obtain ⟨fx, hfx⟩ : ∃ fx, s j = fx := ⟨_, rfl⟩
            rw [hfx]
            have q0 : Blk (w13.alloc (.cells (va 256 (iv .u8 fun _ => 0)) 49)) w13.heap.size 49 (va 256 (iv .u8 fun _ => 0)) := Blk.new _ _ _
            have hbq : Below w13.heap.size w13 ((w13.alloc (.cells (va 256 (iv .u8 fun _ => 0)) 49)).setRow w13.heap.size (va 256 (iv .u8 fx))) := below_setRow (below_new1 _ _) (Nat.le_refl _) _
            have hb14 := hb13.trans (hbq.mono hb13.size)
            have HB14 : Hid (Below w7.heap.size w7 ((w13.alloc (.cells (va 256 (iv .u8 fun _ => 0)) 49)).setRow w13.heap.size (va 256 (iv .u8 fx)))) := HBW.out.trans (hb14.mono HBW.out.size)
            have HX14 : Hid (Blk ((w13.alloc (.cells (va 256 (iv .u8 fun _ => 0)) 49)).setRow w13.heap.size (va 256 (iv .u8 fx))) w13.heap.size 49 (va 256 (iv .u8 fx))) := q0.set _
            have HJ : Hid (j < mm) := hlt
            clear hb13 hbq hb14 t8 HBW
            go_wp2_with (first
              | (refine wpList_store_row (by rfl) 49 _ _ (by rfl) (w13.heap.size) (va 256 (iv .u8 fx)) (by rfl) (by rfl) 49 (_) (by exact q0) (rsizeBk.trans (by rw [va_size])) (by simp only [va_size]) (iv_one _ _ _) ?_; simp only [Act.put, sgPHTreeRangesLaw])
              | fail)
            clear q0
            generalize ((w13.alloc (.cells (va 256 (iv .u8 fun _ => 0)) 49)).setRow w13.heap.size (va 256 (iv .u8 fx))) = w14 at *
            generalize w13.heap.size = xb at *
            have hR : w14.drew.rangeAt lk (j * 256) ((List.range 256).map (iv .u8 fx)) := by
              have h1 : Blk w14.drew lk 52 (va (mm * 256) (lvV s)) := HBL.out.below HB14.out.drew HBL.out.lt
              have h2 := lv_range h1 j HJ.out
              rw [hfx] at h2
              exact h2
            have hS : w14.drew.rangeAt lk (j * 256) ((List.range 256).map (iv .u8 fx)) ∧ Blk w14.drew xb 49 (va 256 (iv .u8 fx)) := ⟨hR, HX14.out⟩
            have hq : ∀ w, (Op.equalIn 10000 52 (.agg (va 256 (iv .u8 fx))) (.agg (va 256 (iv .u8 fx)))).run Tryz.prog w = .ok true w := fun w => by
              have := eq_bk 52 Tryz.underlying52 fx fx w
              rw [decide_eq_true (show bkSame fx fx from fun i hi => rfl)] at this
              exact this
            clear hR hfx
            refine wp_region_partsS (fun W => W.rangeAt lk (j * 256) ((List.range 256).map (iv .u8 fx)) ∧ Blk W xb 49 (va 256 (iv .u8 fx))) [([], 0, true), ([], 1, true), ([], 2, true), ([], 3, true), ([], 4, true), ([], 5, true), ([], 6, true), ([], 7, true), ([], 8, true), ([], 9, true), ([], 10, true), ([], 11, true)] [] [] (by kernel_rfl) (by kernel_rfl) hS (partsI_yield ?_)
            simp only [sgLHTreeRangesLaw]
            go_wp2_with fail
            refine ⟨rfl, _, .int .i64 (j : Int), rfl, Or.inl ⟨by rfl, fun W hW => by go_simp⟩, partsI_yield ?_⟩
            simp only [Act.put, sgPHTreeRangesLaw]
            simp only [sgLHTreeRangesLaw]
            go_wp2_with fail
            refine ⟨rfl, _, .slice (some ⟨lk, 0, none⟩) mm mm, rfl, Or.inl ⟨by rfl, fun W hW => by go_simp⟩, partsI_yield ?_⟩
            simp only [Act.put, sgPHTreeRangesLaw]
            simp only [sgLHTreeRangesLaw]
            go_wp2_with fail
            refine ⟨rfl, _, .int .i64 (mm : Int), rfl, Or.inl ⟨by rfl, fun W hW => by go_simp⟩, partsI_yield ?_⟩
            simp only [Act.put, sgPHTreeRangesLaw]
            simp only [sgLHTreeRangesLaw]
            go_wp2_with fail
            refine ⟨rfl, _, .bool false, rfl, Or.inl ⟨by rfl, fun W hW => by go_simp⟩, partsI_yield ?_⟩
            simp only [Act.put, sgPHTreeRangesLaw]
            simp only [sgLHTreeRangesLaw]
            go_wp2_with fail
            refine ⟨rfl, _, .bool false, rfl, Or.inl ⟨by rfl, fun W hW => by go_simp⟩, partsI_yield ?_⟩
            simp only [Act.put, sgPHTreeRangesLaw]
            simp only [sgLHTreeRangesLaw]
            go_wp2_with fail
            refine ⟨rfl, _, .slice (some ⟨lk, 0, none⟩) mm mm, rfl, Or.inl ⟨by rfl, fun W hW => by go_simp⟩, partsI_yield ?_⟩
            simp only [Act.put, sgPHTreeRangesLaw]
            simp only [sgLHTreeRangesLaw]
            go_wp2_with fail
            refine ⟨rfl, _, .int .i64 (j : Int), rfl, Or.inl ⟨by rfl, fun W hW => by go_simp⟩, partsI_yield ?_⟩
            simp only [Act.put, sgPHTreeRangesLaw]
            simp only [sgLHTreeRangesLaw]
            go_wp2_with fail
            refine ⟨rfl, _, .pointer (some ⟨lk, j * 256, none⟩), rfl, Or.inl ⟨by rfl, fun W hW => by go_simp⟩, partsI_yield ?_⟩
            simp only [Act.put, sgPHTreeRangesLaw]
            simp only [sgLHTreeRangesLaw]
            go_wp2_with fail
            refine ⟨rfl, _, .agg (va 256 (iv .u8 fx)), rfl, yieldsIf_load_mid (by rfl) 52 _ (by rfl) (lk) (j * 256) (by rfl) ((List.range 256).map (iv .u8 fx)) _ (fun W hW => hW.1) Tryz.underlying52 rfl (sizeBk.trans (by simp)), partsI_yield ?_⟩
            simp only [Act.put, sgPHTreeRangesLaw]
            simp only [sgLHTreeRangesLaw]
            go_wp2_with fail
            refine ⟨rfl, _, .agg (va 256 (iv .u8 fx)), rfl, kyields_load (by rfl) 49 _ (by rfl) (xb) 256 (iv .u8 fx) (by rfl) _ 49 (fun W hW => hW.2) Tryz.underlying49 rfl rsizeBk, partsI_yield ?_⟩
            simp only [Act.put, sgPHTreeRangesLaw]
            simp only [sgLHTreeRangesLaw]
            go_wp2_with fail
            refine ⟨rfl, _, .bool false, rfl, Or.inl ⟨by rfl, fun W hW => by go_simp⟩, partsI_yield ?_⟩
            simp only [Act.put, sgPHTreeRangesLaw]
            simp only [sgLHTreeRangesLaw]
            go_wp2_with fail
            refine ⟨rfl, _, .bool false, rfl, Or.inl ⟨by rfl, fun W hW => by go_simp⟩, partsI_last ?_⟩
            simp only [Act.put, sgPHTreeRangesLaw]
            simp only [sgLHTreeRangesLaw]
            go_wp2_with fail
            refine ⟨rfl, ?_⟩
            go_wp2_with fail
            go_roundw
            case rel => exact ⟨j + 1, HJ.out, by first | rfl | go_num | simp, HB14.out.drew⟩
            case measure => simp [intOf]; have := HJ.out; omega
          · obtain rfl : j = mm := by omega
            have j5 : ¬ ((j : Int) < (j : Int)) := by omega
            go_wp2_with fail
            go_ret
            exact ⟨rfl, HB7.out.trans (hb.mono HB7.out.size)⟩
      · obtain ⟨rfl, rfl⟩ := Prod.mk.inj (HO.out.symm.trans e1)
        obtain rfl : v6 = .slice none 0 0 := HL6.out
        have HL0 : Hid (∀ W, Below w7.heap.size w7 W → Calls Tryz.prog 12 #[.slice (some ⟨ib, 0, none⟩) N ic, .agg (trC (k : Int) R), .int .i64 (f : Int)] W fun x w' => ∃ a c nn, x = .returned (.tuple #[.agg (va 256 (iv .u8 (leafV F N (k : Int) R (f : Int)).1)), .slice a nn c, .int .i64 (leafV F N (k : Int) R (f : Int)).2]) ∧ Below W.heap.size W w') := fun W hW => by
          have := HLf.out 0 (by omega) W hW
          rw [show (f : Int) + ((0 : Nat) : Int) = (f : Int) by omega, Nat.add_zero] at this
          exact this
        have HFL : Hid (∀ W, Below w7.heap.size w7 W → Calls Tryz.prog 13 #[.slice (some ⟨ib, 0, none⟩) N ic, .agg (trC (k : Int) R), .int .i64 (f : Int), .int .i64 ((f : Int) + (mm : Int)), .int .i64 er] W fun x w' => x = .returned (.bool true) ∧ Below W.heap.size W w') := fun W hW => by
          have := failsLater_any (k : Int) R HH.out.2.1 HF.out HOK.out f (f + mm) (f + j1') er (by omega) (by omega) (by rw [Int.toNat_natCast, HC4.out.1]; exact HFM.out.1) (by have := HFM.out; omega) (fun q hq1 hq2 => by
            obtain ⟨t, rfl⟩ : ∃ t, q = f + t := ⟨q - f, by omega⟩
            exact hpre t (by omega)) hat h0 (some ⟨ib, 0, none⟩) ic HT7.out.td.nN W (HT7.out.img.below hW)
          rw [show ((f + mm : Nat) : Int) = (f : Int) + (mm : Int) from by push_cast; rfl] at this
          exact this
        have HE1 : Hid ((j1' = 0 → (leafV F N (k : Int) R (f : Int)).2 = er) ∧ (j1' ≠ 0 → (leafV F N (k : Int) R (f : Int)).2 = 0)) := ⟨fun q => by
          rw [q, Nat.add_zero] at hat
          exact hat, fun q => by
          have := hpre 0 (by omega)
          rw [Nat.add_zero] at this
          exact this⟩
        have j5 : (0 : Int) < (mm : Int) := by omega
        have j6 : wrap64 (f : Int) = (f : Int) := wrap64_at _ (by have := HFM.out; omega)
        have j9 : wrap64 ((f : Int) + (mm : Int)) = (f : Int) + (mm : Int) := wrap64_at _ (by have := HFM.out; omega)
        have hne : ¬ er = 0 := h0
        have hne2 : (er != 0) = true := by simp [hne]
        have hne3 : decide (er = 0) = false := decide_eq_false hne
        clear hat hpre hj1 e1 h0 HLf
        rw [j3]
        go_loopw [14] (fun t wr => Hid (t = .int .i64 0 ∧ Below w7.heap.size w7 wr)) (fun t _ => 0)
        case atStart => exact ⟨rfl, Below.refl _ _⟩
        case round =>
          obtain ⟨rfl, hb⟩ := Hid.out hrel
          clear hrel
          have HBW : Hid (Below w7.heap.size w7 wr) := hb
          have t8 := HT7.out.tr.below hb HT7.out.tr.lt
          clear hb
          go_wp2_with (first
            | (refine wpList_load_rowg (by rfl) 33 _ (by rfl) (xt) (by rfl) 33 (trC (k : Int) R) (0, 0) _ (by exact t8) Tryz.underlying33 (by rfl) (rsizeTr.trans (by rw [trC_size])) ?_; simp only [Act.put, sgPHTreeRangesLaw])
            | fail)
          refine (HL0.out wr HBW.out).mono ?_
          rintro x w13 ⟨av, cv, nn, rfl, hb13⟩
          obtain ⟨fx, hfx⟩ : ∃ fx, (leafV F N (k : Int) R (f : Int)).1 = fx := ⟨_, rfl⟩
          rw [hfx]
          have q0 : Blk (w13.alloc (.cells (va 256 (iv .u8 fun _ => 0)) 49)) w13.heap.size 49 (va 256 (iv .u8 fun _ => 0)) := Blk.new _ _ _
          have hbq : Below w13.heap.size w13 ((w13.alloc (.cells (va 256 (iv .u8 fun _ => 0)) 49)).setRow w13.heap.size (va 256 (iv .u8 fx))) := below_setRow (below_new1 _ _) (Nat.le_refl _) _
          have hb14 := hb13.trans (hbq.mono hb13.size)
          have HB14 : Hid (Below w7.heap.size w7 ((w13.alloc (.cells (va 256 (iv .u8 fun _ => 0)) 49)).setRow w13.heap.size (va 256 (iv .u8 fx)))) := HBW.out.trans (hb14.mono HBW.out.size)
          have HX14 : Hid (Blk ((w13.alloc (.cells (va 256 (iv .u8 fun _ => 0)) 49)).setRow w13.heap.size (va 256 (iv .u8 fx))) xt 33 (trC (k : Int) R)) := t8.below hb14 t8.lt
          clear hb13 hbq hb14 t8 HBW hfx
          by_cases hz1 : j1' = 0
          · rw [HE1.out.1 hz1]
            clear hz1
            go_wp2_with (first
              | (refine wpList_store_row (by rfl) 49 _ _ (by rfl) (w13.heap.size) (va 256 (iv .u8 fx)) (by rfl) (by rfl) 49 (_) (by exact q0) (rsizeBk.trans (by rw [va_size])) (by simp only [va_size]) (iv_one _ _ _) ?_; simp only [Act.put, sgPHTreeRangesLaw])
              | fail)
            go_ret
            exact ⟨rfl, HB7.out.trans (HB14.out.mono HB7.out.size)⟩
          · rw [HE1.out.2 hz1]
            clear hz1
            go_wp2_with (first
              | (refine wpList_store_row (by rfl) 49 _ _ (by rfl) (w13.heap.size) (va 256 (iv .u8 fx)) (by rfl) (by rfl) 49 (_) (by exact q0) (rsizeBk.trans (by rw [va_size])) (by simp only [va_size]) (iv_one _ _ _) ?_; simp only [Act.put, sgPHTreeRangesLaw])
              | fail)
            clear q0
            generalize ((w13.alloc (.cells (va 256 (iv .u8 fun _ => 0)) 49)).setRow w13.heap.size (va 256 (iv .u8 fx))) = w14 at *
            generalize w13.heap.size = xb at *
            have hS : True := trivial
            refine wp_region_partsS (fun _ => True) [([], 0, true), ([], 1, true), ([], 2, true), ([], 3, true), ([], 4, true), ([], 5, true), ([], 6, true), ([], 7, true), ([], 8, true), ([], 9, true), ([], 10, true), ([], 11, true)] [] [] (by kernel_rfl) (by kernel_rfl) hS (partsI_yield ?_)
            simp only [sgLHTreeRangesLaw]
            go_wp2_with fail
            refine ⟨rfl, _, .int .i64 0, rfl, Or.inl ⟨by rfl, fun W hW => by go_simp⟩, partsI_yield ?_⟩
            simp only [Act.put, sgPHTreeRangesLaw]
            simp only [sgLHTreeRangesLaw]
            go_wp2_with fail
            refine ⟨rfl, _, .slice none 0 0, rfl, Or.inl ⟨by rfl, fun W hW => by go_simp⟩, partsI_yield ?_⟩
            simp only [Act.put, sgPHTreeRangesLaw]
            simp only [sgLHTreeRangesLaw]
            go_wp2_with fail
            refine ⟨rfl, _, .int .i64 0, rfl, Or.inl ⟨by rfl, fun W hW => by go_simp⟩, partsI_yield ?_⟩
            simp only [Act.put, sgPHTreeRangesLaw]
            simp only [sgLHTreeRangesLaw]
            go_wp2_with fail
            refine ⟨rfl, _, .bool true, rfl, Or.inl ⟨by rfl, fun W hW => by go_simp⟩, partsI_yield ?_⟩
            simp only [Act.put, sgPHTreeRangesLaw]
            simp only [sgLHTreeRangesLaw]
            go_wp2_with fail
            refine ⟨rfl, _, .bool true, rfl, Or.inl ⟨by rfl, fun W hW => by go_simp⟩, partsI_yield ?_⟩
            simp only [Act.put, sgPHTreeRangesLaw]
            simp only [sgLHTreeRangesLaw]
            go_wp2_with fail
            refine ⟨rfl, _, undef, rfl, Or.inr ⟨by rfl, rfl⟩, partsI_yield ?_⟩
            simp only [Act.put, sgPHTreeRangesLaw]
            simp only [sgLHTreeRangesLaw]
            go_wp2_with fail
            refine ⟨rfl, _, undef, rfl, Or.inr ⟨by rfl, rfl⟩, partsI_yield ?_⟩
            simp only [Act.put, sgPHTreeRangesLaw]
            simp only [sgLHTreeRangesLaw]
            go_wp2_with fail
            refine ⟨rfl, _, undef, rfl, Or.inr ⟨by rfl, rfl⟩, partsI_yield ?_⟩
            simp only [Act.put, sgPHTreeRangesLaw]
            simp only [sgLHTreeRangesLaw]
            go_wp2_with fail
            refine ⟨rfl, _, undef, rfl, Or.inr ⟨by rfl, rfl⟩, partsI_yield ?_⟩
            simp only [Act.put, sgPHTreeRangesLaw]
            simp only [sgLHTreeRangesLaw]
            go_wp2_with fail
            refine ⟨rfl, _, undef, rfl, Or.inr ⟨by rfl, rfl⟩, partsI_yield ?_⟩
            simp only [Act.put, sgPHTreeRangesLaw]
            simp only [sgLHTreeRangesLaw]
            go_wp2_with fail
            refine ⟨rfl, _, undef, rfl, Or.inr ⟨by rfl, rfl⟩, partsI_yield ?_⟩
            simp only [Act.put, sgPHTreeRangesLaw]
            simp only [sgLHTreeRangesLaw]
            go_wp2_with fail
            refine ⟨rfl, _, .bool true, rfl, Or.inl ⟨by rfl, fun W hW => by go_simp⟩, partsI_last ?_⟩
            simp only [Act.put, sgPHTreeRangesLaw]
            simp only [sgLHTreeRangesLaw]
            go_wp2_with fail
            refine ⟨rfl, ?_⟩
            have t15 : Blk w14.drew xt 33 (trC (k : Int) R) := HX14.out
            go_wp2_with (first
              | (refine wpList_load_rowg (by rfl) 33 _ (by rfl) (xt) (by rfl) 33 (trC (k : Int) R) (0, 0) _ (by exact t15) Tryz.underlying33 (by rfl) (rsizeTr.trans (by rw [trC_size])) ?_; simp only [Act.put, sgPHTreeRangesLaw])
              | fail)
            refine (HFL.out _ HB14.out.drew).mono ?_
            rintro e w15 ⟨rfl, hb15⟩
            have HB15 : Hid (Below w7.heap.size w7 w15) := HB14.out.drew.trans (hb15.mono HB14.out.drew.size)
            clear hb15 t15
            go_wp2_with fail
            go_ret
            exact ⟨rfl, HB7.out.trans (HB15.out.mono HB7.out.size)⟩
    · obtain ⟨rfl, rfl⟩ := Prod.mk.inj (HO.out.symm.trans (rangeR_out hok hg))
      obtain rfl : v6 = .slice none 0 0 := HL6.out
      have HN : Hid (¬ (0 ≤ fr ∧ 0 ≤ nm ∧ fr ≤ (c4 : Int) - nm)) := fun q => hg (by
        unfold rgOk
        rw [Int.toNat_natCast, HC4.out.1]
        exact q)
      clear hg hc4 hok hb7
      go_wp2_with fail
      refine (HCap.out _).mono ?_
      rintro e w9 ⟨rfl, rfl⟩
      clear z7 t6
      by_cases j0 : fr < 0
      · go_wp2_with fail
        go_ret
        exact ⟨rfl, HB7.out⟩
      · by_cases j1 : nm < 0
        · go_wp2_with fail
          go_ret
          exact ⟨rfl, HB7.out⟩
        · by_cases j2 : (c4 : Int) < fr
          · go_wp2_with fail
            go_ret
            exact ⟨rfl, HB7.out⟩
          · have j3 : wrap64 ((c4 : Int) - fr) = (c4 : Int) - fr := wrap64_at _ (by have := HC4.out; omega)
            have j4 : (c4 : Int) - fr < nm := by
              rcases Int.lt_or_le ((c4 : Int) - fr) nm with q | q
              · exact q
              · exact absurd ⟨by omega, by omega, by omega⟩ HN.out
            go_wp2_with fail
            go_ret
            exact ⟨rfl, HB7.out⟩
  · rw [decide_eq_false hok]
    obtain ⟨rfl, rfl⟩ := Prod.mk.inj (HO.out.symm.trans (rangeR_bad hok))
    obtain rfl : v6 = .slice none 0 0 := HL6.out
    clear hok t6
    go_wp2_with fail
    go_ret
    exact ⟨rfl, HB7.out⟩
end Go.Proofs.YtiofonffmplfmaaGreat
