/- The statement TreeEach: called with whatever world and number it returns true. -/
import Derived.Test.YtjhabngibbmpbaaGreatHTrWalk2
import Derived.Test.YtjhabngibbmpbaaGreatHTrRAll2

namespace Go.Proofs.YtjhabngibbmpbaaGreat
theorem sgLHTreeEachLaw : (∀ (α : Type) (a : α) (l r : List α), (a :: l) ++ r = a :: (l ++ r)) ∧ (∀ (α : Type) (l : List α), [] ++ l = l) ∧ (∀ (α : Type) (l : List α), l ++ [] = l) ∧ (∀ (α β : Type) (f : α → Option β) (a : α) (l : List α), (a :: l).filterMap f = match f a with | none => l.filterMap f | some b => b :: l.filterMap f) ∧ (∀ (α β : Type) (f : α → Option β), [].filterMap f = []) ∧ (∀ (α : Type) (l : List α) (i : Nat), l.toArray[i]? = l[i]?) ∧ (∀ (α : Type) (a : α) (l : List α), (a :: l)[0]? = some a) ∧ (∀ (α : Type) (a : α) (l : List α) (i : Nat), (a :: l)[i + 1]? = l[i]?) :=
  ⟨fun _ _ _ _ => List.cons_append, fun _ _ => List.nil_append _, fun _ _ => List.append_nil _, fun _ _ _ _ _ => List.filterMap_cons, fun _ _ _ => List.filterMap_nil, fun _ _ _ => List.getElem?_toArray, fun _ _ _ => List.getElem?_cons_zero, fun _ _ _ _ => List.getElem?_cons_succ⟩
theorem sgPHTreeEachLaw : (∀ (α : Type) (l : List α) (i : Nat) (a : α), l.toArray.setIfInBounds i a = (l.set i a).toArray) ∧ (∀ (α : Type) (a b : α) (l : List α), (a :: l).set 0 b = b :: l) ∧ (∀ (α : Type) (a b : α) (l : List α) (i : Nat), (a :: l).set (i + 1) b = a :: l.set i b) :=
  ⟨fun _ _ _ _ => List.setIfInBounds_toArray _ _ _, fun _ _ _ _ => List.set_cons_zero, fun _ _ _ _ _ => List.set_cons_succ⟩
end Go.Proofs.YtjhabngibbmpbaaGreat
namespace Go.Proofs.YtjhabngibbmpbaaGreat
open Go Go.RowKit
set_option linter.unusedSimpArgs false
set_option linter.unusedVariables false
theorem po_lvl {w : World} {b o : Nat} {l p : Int} {R : Rf} (h : w.rangeAt b o ((List.range 35).map (poF l p R))) : w.cell? ⟨b, o, none⟩ = some (.int .i64 l) := by
  have := h 0 (poF l p R 0) (by simp)
  simpa [poF] using this
theorem po_plc {w : World} {b o : Nat} {l p : Int} {R : Rf} (h : w.rangeAt b o ((List.range 35).map (poF l p R))) : w.cell? ⟨b, o + 1, none⟩ = some (.int .i64 p) := by
  have := h 1 (poF l p R 1) (by simp)
  simpa [poF] using this
theorem po_ref {w : World} {b o : Nat} {l p : Int} {R : Rf} (h : w.rangeAt b o ((List.range 35).map (poF l p R))) : w.rangeAt b (o + 2) ((List.range 33).map (rfF R.1 R.2)) := fun k v hv => by
  have hk : k < 33 := by
    have := (List.getElem?_eq_some_iff.1 hv).1
    simpa using this
  have h1 := h (2 + k) (poF l p R (2 + k)) (by rw [List.getElem?_map, List.getElem?_range (show 2 + k < 35 by omega)]; rfl)
  rw [← Nat.add_assoc] at h1
  rw [h1]
  have e : poF l p R (2 + k) = rfF R.1 R.2 k := by
    unfold poF
    rw [if_neg (show ¬ 2 + k = 0 by omega), if_neg (show ¬ 2 + k = 1 by omega), show 2 + k - 2 = k by omega]
  rw [e, ← hv]
  simp [hk]
/-- an own slice of positions, element by element -/
theorem own_isps {w : World} {B e n c : Nat} {a : Option Addr} {L : List Ps} (h : w.ownsRow B e 35 (.slice a n c) n (posL L)) (hn : L.length = n) (j : Nat) (x : Ps) (hx : L[j]? = some x) : ∃ b, a = some ⟨b, 0, none⟩ ∧ b < w.heap.size ∧ w.rangeAt b (j * 35) ((List.range 35).map (poF (x.1 : Int) x.2.1 x.2.2)) := by
  have hj := (List.getElem?_eq_some_iff.1 hx).1
  rcases h.2 with ⟨_, h0⟩ | ⟨g, cap, cur, hv, hb, hg, hcap, _, hsz, htake⟩
  · omega
  · injection hv with h1 h2 h3
    refine ⟨g, h1, (Array.getElem?_eq_some_iff.1 hg).1, fun k u hu => ?_⟩
    have hk : k < 35 := by
      have := (List.getElem?_eq_some_iff.1 hu).1
      simpa using this
    rw [h1] at h
    rw [h.cellAt (j * 35 + k) (by omega), ← hu]
    clear h htake hsz hg hu hb hcap h1 h2 h3 hn hj
    induction L generalizing j with
    | nil => simp at hx
    | cons y L ih =>
      show ((poC (y.1 : Int) y.2.1 y.2.2).toList ++ posL L)[j * 35 + k]? = _
      cases j with
      | zero =>
        rw [List.getElem?_append_left (by rw [poC_list]; omega)]
        obtain rfl : y = x := by simpa using hx
        unfold poC
        rw [va_toList]
        simp
      | succ j =>
        rw [List.getElem?_append_right (by rw [poC_list]; omega), poC_list, show (j + 1) * 35 + k - 35 = j * 35 + k by omega]
        exact ih j (by simpa using hx)
set_option maxRecDepth 100000 in
set_option maxHeartbeats 16000000 in
theorem treeEachLaw {h : Int} {a : Option Addr} {n c : Nat} {ab : Option Addr} {nb cb : Nat} {tu ca : Int} {A : Nat → Int} {Y : Nat → Nat} {Z : Nat → Int} (en : Int) (hen : -9223372036854775808 ≤ en ∧ en ≤ 9223372036854775807) (w : World) (HW : Wo w h a n ab nb tu ca A Y Z) : Calls Tryz.prog 7 #[.agg (woC h a n c ab nb cb tu ca), .int .i64 en] w fun e w' => e = .returned (.bool true) ∧ Below w.heap.size w w' := by
  have hz := rtop_zero
  have hzr := zero_ref
  have hzrr := zero_rref
  have hb1 : Below w.heap.size w ((w.alloc (.cells (woC h a n c ab nb cb tu ca) 25)).alloc (.cells #[.int .i64 en] 3)) := below_new2 _ _ _
  have b1 : Blk ((w.alloc (.cells (woC h a n c ab nb cb tu ca) 25)).alloc (.cells #[.int .i64 en] 3)) w.heap.size 25 (woC h a n c ab nb cb tu ca) := (Blk.new _ _ _).alloc _
  have n1 : Blk ((w.alloc (.cells (woC h a n c ab nb cb tu ca) 25)).alloc (.cells #[.int .i64 en] 3)) (w.heap.size + 1) 3 #[.int .i64 en] := Blk.new1 _ _ _ _
  have HMd : Hid (∀ V, Below w.heap.size w V → Calls Tryz.prog 11 #[.agg (woC h a n c ab nb cb tu ca)] V (MadeP V h n nb tu A Y)) := fun V hV => made_any V (HW.below hV)
  clear hen HW
  go_enter Tryz.func7, Tryz.ntmps7
  go_wp2_with (first
    | (refine wpList_load_rowg (by rfl) 25 _ (by rfl) (w.heap.size) (by rfl) 25 (woC h a n c ab nb cb tu ca) (0, 0) _ (by exact b1) Tryz.underlying25 (by rfl) (sizeWo.trans (by rw [woC_size])) ?_; simp only [Act.put, sgPHTreeEachLaw])
    | fail)
  generalize ((w.alloc (.cells (woC h a n c ab nb cb tu ca) 25)).alloc (.cells #[.int .i64 en] 3)) = w1 at *
  refine (HMd.out _ hb1).mono ?_
  rintro e w2 ⟨cp, ib, N, ic, g, m, room, B, F, U, h', R, rfl, htd, hBi, himg, hF, hh, hR, _, hb2⟩
  have q0 : Blk (w2.alloc (.cells (trC 0 rf0) 33)) w2.heap.size 33 (trC 0 rf0) := Blk.new _ _ _
  have hst := Blk.store (P := Tryz.prog) q0 (trC h' R) (by simp only [trC_size]) (arr_mem (trC_all _ _))
  have hvs := trC_size h' R
  have hbq : Below w2.heap.size w2 ((w2.alloc (.cells (trC 0 rf0) 33)).setRow w2.heap.size (trC h' R)) := below_setRow (below_new1 _ _) (Nat.le_refl _) _
  have HTW : Hid (TW ((w2.alloc (.cells (trC 0 rf0) 33)).setRow w2.heap.size (trC h' R)) B g N F cp m room 0 U ib w2.heap.size h' R) := ⟨htd.below hbq, himg.below hbq, q0.set _, fun z => by have := (htd.lt _ z).1; omega, fun z => by have := (htd.lt _ z).2; omega, by have h1 := htd.hB; have h2 := hbq.size; omega⟩
  have HNB : Hid (Blk ((w2.alloc (.cells (trC 0 rf0) 33)).setRow w2.heap.size (trC h' R)) (w.heap.size + 1) 3 #[.int .i64 en]) := (n1.below hb2 n1.lt).below hbq (n1.below hb2 n1.lt).lt
  have HBB : Hid (w.heap.size + 1 < B ∧ w.heap.size + 1 < ib ∧ w.heap.size + 1 < w2.heap.size ∧ (∀ b, U b → b < w2.heap.size) ∧ ib < w2.heap.size) := ⟨Nat.lt_of_lt_of_le n1.lt hBi.1, Nat.lt_of_lt_of_le n1.lt hBi.2.2, Nat.lt_of_lt_of_le n1.lt hb2.size, fun b q => (htd.lt b q).2, Nat.lt_of_lt_of_le hBi.2.1 htd.hB⟩
  have HB2 : Hid (Below w.heap.size w ((w2.alloc (.cells (trC 0 rf0) 33)).setRow w2.heap.size (trC h' R))) := (hb1.trans (hb2.mono hb1.size)).trans (hbq.mono (hb1.trans (hb2.mono hb1.size)).size)
  have HF : Hid (∀ x, F x < 256) := hF
  have HH : Hid ((0 ≤ h' ∧ h' ≤ 7) ∧ R.1 < 4294967296 ∧ okD R.2) := ⟨hh, hR⟩
  have HX3 : Hid (w2.heap.size < ((w2.alloc (.cells (trC 0 rf0) 33)).setRow w2.heap.size (trC h' R)).heap.size) := (q0.set (trC h' R)).lt
  clear htd hBi himg hF hh hR hb1 hb2 hbq HMd b1 n1
  go_upto_region 2 with fail
  clear q0 hst hvs
  generalize ((w2.alloc (.cells (trC 0 rf0) 33)).setRow w2.heap.size (trC h' R)) = w3 at *
  generalize w2.heap.size = xt at *
  go_wp2_with fail
  refine (awake9_any w3).mono ?_
  rintro e w4 ⟨rfl, hb4⟩
  have HT4 : Hid (TW w4 B g N F cp m room 0 U ib xt h' R) := HTW.out.below hb4
  have HB4 : Hid (Below w.heap.size w w4) := HB2.out.trans (hb4.mono HB2.out.size)
  have HN4 : Hid (Blk w4 (w.heap.size + 1) 3 #[.int .i64 en]) := HNB.out.below hb4 HNB.out.lt
  have HX4 : Hid (xt < w4.heap.size) := Nat.lt_of_lt_of_le HX3.out hb4.size
  clear hb4 HTW HB2 HNB HX3
  have g0 : Blk (w4.alloc (.cells #[] 75)) w4.heap.size 75 #[] := Blk.new _ _ _
  have hb5 : Below w4.heap.size w4 ((w4.alloc (.cells #[] 75)).alloc (.cells #[.slice (some ⟨w4.heap.size, 0, none⟩) 0 0] 64)) := below_new2 _ _ _
  have HT5 : Hid (TW ((w4.alloc (.cells #[] 75)).alloc (.cells #[.slice (some ⟨w4.heap.size, 0, none⟩) 0 0] 64)) B g N F cp m room 0 U ib xt h' R) := HT4.out.below hb5
  have HN5 : Hid (Blk ((w4.alloc (.cells #[] 75)).alloc (.cells #[.slice (some ⟨w4.heap.size, 0, none⟩) 0 0] 64)) (w.heap.size + 1) 3 #[.int .i64 en]) := HN4.out.below hb5 HN4.out.lt
  have HB5 : Hid (Below w.heap.size w ((w4.alloc (.cells #[] 75)).alloc (.cells #[.slice (some ⟨w4.heap.size, 0, none⟩) 0 0] 64))) := HB4.out.trans (hb5.mono HB4.out.size)
  have HP5 : Hid (PB ((w4.alloc (.cells #[] 75)).alloc (.cells #[.slice (some ⟨w4.heap.size, 0, none⟩) 0 0] 64)) (w4.heap.size + 1) w4.heap.size (.slice (some ⟨w4.heap.size, 0, none⟩) 0 0) [] ∧ w4.heap.size ≤ ((w4.alloc (.cells #[] 75)).alloc (.cells #[.slice (some ⟨w4.heap.size, 0, none⟩) 0 0] 64)).heap.size) := ⟨⟨Blk.new1 _ _ _ _, kown_empty (g0.alloc _) (Nat.le_refl _), fun q => by
    injection q with q
    have q2 : w4.heap.size = w4.heap.size + 1 := q
    omega⟩, hb5.size⟩
  have HG5 : Hid ((∀ b, ftB (w4.heap.size + 1) (w.heap.size + 1) (.slice (some ⟨w4.heap.size, 0, none⟩) 0 0) b → b = w.heap.size + 1 ∨ w4.heap.size ≤ b) ∧ ¬ gft (w4.heap.size + 1) (.slice (some ⟨w4.heap.size, 0, none⟩) 0 0) (w.heap.size + 1)) := ⟨fun b q => by
    rcases q with (q | q) | q
    · exact .inr (by omega)
    · injection q with q
      have q2 : w4.heap.size = b := q
      exact .inr (by omega)
    · exact .inl q, fun q => by
    have h1 := HN4.out.lt
    rcases q with q | q
    · omega
    · injection q with q
      have q2 : w4.heap.size = w.heap.size + 1 := q
      omega⟩
  have t5 := HT5.out.tr
  clear g0 hb5 HT4 HN4 HB4
  go_upto_region 5 with fail
  generalize hw5 : ((w4.alloc (.cells #[] 75)).alloc (.cells #[.slice (some ⟨w4.heap.size, 0, none⟩) 0 0] 64)) = w5 at *
  clear hw5
  generalize (Value.slice (some ⟨w4.heap.size, 0, none⟩) 0 0) = z5 at *
  generalize hbx : w4.heap.size + 1 = bx at *
  generalize hs4 : w4.heap.size = s4 at *
  clear hs4
  go_wp2_with (first
    | (refine wpList_load_rowg (by rfl) 33 _ (by rfl) (xt) (by rfl) 33 (trC h' R) (0, 0) _ (by exact t5) Tryz.underlying33 (by rfl) (rsizeTr.trans (by rw [trC_size])) ?_; simp only [Act.put, sgPHTreeEachLaw])
    | fail)
  refine (given_tree h' R w5).mono ?_
  rintro e w6 ⟨rfl, hb6⟩
  have HT6 : Hid (TW w6 B g N F cp m room 0 U ib xt h' R) := HT5.out.below hb6
  have HB6 : Hid (Below w.heap.size w w6) := HB5.out.trans (hb6.mono HB5.out.size)
  have HW6 : Hid (WS B g N F cp m room (ftB bx (w.heap.size + 1)) (QB bx (w.heap.size + 1) s4 en) List.length w6 0 U [] z5) := by
    have h1 := HP5.out.1.below hb6
    have h2 := HN5.out.below hb6 HN5.out.lt
    refine ⟨HT6.out.td, ⟨⟨h1, Nat.le_trans HP5.out.2 hb6.size⟩, h2, HG5.out.2⟩, fun b q u => ?_, Nat.zero_le _, fun b q => ?_⟩
    · have h3 := (HT6.out.td.lt b u).1
      have h4 := HBB.out.2.2.2.1 b u
      have h5 := HX4.out
      have h6 := HBB.out.1
      rcases HG5.out.1 b q with q | q
      · omega
      · omega
    · rcases q with q | q
      · exact h1.lt b q
      · rw [q]; exact h2.lt
  clear hb6 HT5 HB5 HP5 HN5 t5
  have HEc : Hid (Calls Tryz.prog 28 #[.pointer (some ⟨cp, 0, none⟩), .agg (trC h' R), .func (.func 29) #[] #[.pointer (some ⟨bx, 0, none⟩), .pointer (some ⟨w.heap.size + 1, 0, none⟩)]] w6 fun e w' => e = .returned (.int .i64 (eachR F N (dnB en) h' R []).2) ∧ WSt B g N F cp m room (ftB bx (w.heap.size + 1)) (QB bx (w.heap.size + 1) s4 en) List.length w6 w' (0 + 10922) U z5 (eachR F N (dnB en) h' R []).1.2) := each9_any (fun args w => rfl) (teach1_dk bx (w.heap.size + 1) s4 en) h' R HH.out.2.1 HH.out.2.2 HF.out [] z5 (by decide) w6 HW6.out
  go_wp2_with fail
  refine HEc.out.mono ?_
  rintro e w7 ⟨rfl, U7, z7, hs7, ht7, hf7⟩
  obtain ⟨L, hL⟩ : ∃ L, (eachR F N (dnB en) h' R []).1.2 = L := ⟨_, rfl⟩
  obtain ⟨le, hle⟩ : ∃ le, (eachR F N (dnB en) h' R []).2 = le := ⟨_, rfl⟩
  have HLL : Hid ((eachR F N (dnB en) h' R []).1.2 = L ∧ (eachR F N (dnB en) h' R []).2 = le) := ⟨hL, hle⟩
  rw [hL] at hs7
  rw [hle]
  have hnu : ∀ b, (U b ∨ ftB bx (w.heap.size + 1) z5 b) → b ≠ ib ∧ b ≠ xt ∧ (b = w.heap.size + 1 ∨ w.heap.size + 1 < b) := fun b q => by
    have h1 := HBB.out
    have h2 := HX4.out
    rcases q with q | q
    · have h3 := (HT6.out.td.lt b q).1
      exact ⟨fun e => HT6.out.hib (e ▸ q), fun e => HT6.out.hxt (e ▸ q), .inr (by omega)⟩
    · rcases HG5.out.1 b q with q | q
      · exact ⟨by omega, by omega, .inl q⟩
      · exact ⟨by omega, by omega, .inr (by omega)⟩
  have HI7 : Hid (IsBlks w7 (some ⟨ib, 0, none⟩) N fun i => blkAt F i) := HT6.out.img.keptBy ht7.size (ht7.block ib HT6.out.bib fun q => (hnu _ q).1 rfl)
  have HX7 : Hid (Blk w7 xt 33 (trC h' R)) := ht7.blk HT6.out.tr fun q => (hnu _ q).2.1 rfl
  have HB7 : Hid (Below w.heap.size w w7) := HB6.out.trans (ht7.below (B := w.heap.size) HB6.out.size fun b q => by have := (hnu b q).2.2; omega)
  have HP7 : Hid (PB w7 bx s4 z7 L) := hs7.q.1.1
  have HN7 : Hid (Blk w7 (w.heap.size + 1) 3 #[.int .i64 en]) := hs7.q.2.1
  have HNN : Hid (N ≤ 8192) := HT6.out.td.nN
  clear hs7 ht7 hf7 hnu hL hle HEc HW6 HB6 HT6 HG5
  obtain ⟨la, lc, hz7⟩ := kown_slice HP7.out.2.1
  obtain ⟨K, hK⟩ : ∃ K, L.length = K := ⟨_, rfl⟩
  have HK : Hid (L.length = K) := hK
  rw [hK] at hz7
  subst hz7
  clear hK
  have x7 := HX7.out
  go_wp2_with (first
    | (refine wpList_load_rowg (by rfl) 33 _ (by rfl) (xt) (by rfl) 33 (trC h' R) (0, 0) _ (by exact x7) Tryz.underlying33 (by rfl) (rsizeTr.trans (by rw [trC_size])) ?_; simp only [Act.put, sgPHTreeEachLaw])
    | fail)
  refine (rtright_any h' R w7).mono ?_
  rintro e w8 ⟨rfl, hb8⟩
  have HI8 : Hid (IsBlks w8 (some ⟨ib, 0, none⟩) N fun i => blkAt F i) := HI7.out.below hb8
  have x8 : Blk w8 xt 33 (trC h' R) := HX7.out.below hb8 HX7.out.lt
  have HB8 : Hid (Below w.heap.size w w8) := HB7.out.trans (hb8.mono HB7.out.size)
  have HP8 : Hid (PB w8 bx s4 (.slice la K lc) L) := HP7.out.below hb8
  have HN8 : Hid (Blk w8 (w.heap.size + 1) 3 #[.int .i64 en]) := HN7.out.below hb8 HN7.out.lt
  have c8 : w8.cell? ⟨bx, 0, none⟩ = some (.slice la K lc) := (HP8.out.1.cell 0).trans rfl
  clear hb8 HI7 HX7 HB7 HP7 HN7 x7
  by_cases hok : trOk h' R
  · rw [decide_eq_true hok]
    obtain ⟨hn, rfl⟩ := Int.eq_ofNat_of_zero_le hok.2.1
    have HIN : Hid (hn ≤ 6) := by have := hok.2.2; show _ ≤ _; omega
    have HER : Hid ((cutL en [] (bnR F N hn 0 R)).1.2 = L ∧ (cutL en [] (bnR F N hn 0 R)).2 = le) := by
      have h1 := HLL.out
      unfold eachR at h1
      rw [if_pos hok, Int.toNat_natCast, wlk_cut] at h1
      exact h1
    have HRA : Hid (Calls Tryz.prog 27 #[.slice (some ⟨ib, 0, none⟩) N ic, .agg (trC (hn : Int) R)] w8 (BnP w8 (bnR F N hn 0 R).1 (bnR F N hn 0 R).2)) := rall9_any HF.out HNN.out (some ⟨ib, 0, none⟩) ic hn HIN.out R HH.out.2.1 w8 HI8.out
    have HLn : Hid ((bnR F N hn 0 R).1.length ≤ 5461) := Nat.le_trans (bnR_len F N hn 0 R) (cN_le HIN.out)
    clear hok
    generalize bnR F N hn 0 R = bv at *
    obtain ⟨Lw, ew⟩ := bv
    go_wp2_with (first
      | (refine wpList_load_rowg (by rfl) 33 _ (by rfl) (xt) (by rfl) 33 (trC (hn : Int) R) (0, 0) _ (by exact x8) Tryz.underlying33 (by rfl) (rsizeTr.trans (by rw [trC_size])) ?_; simp only [Act.put, sgPHTreeEachLaw])
      | fail)
    refine HRA.out.mono ?_
    rintro e w9 ⟨ab, cw, rfl, ho9, hb9⟩
    have HB9 : Hid (Below w.heap.size w w9) := HB8.out.trans (hb9.mono HB8.out.size)
    have HP9 : Hid (PB w9 bx s4 (.slice la K lc) L) := HP8.out.below hb9
    have n9 : Blk w9 (w.heap.size + 1) 3 #[.int .i64 en] := HN8.out.below hb9 HN8.out.lt
    have e9 : w9.cell? ⟨w.heap.size + 1, 0, none⟩ = some (.int .i64 en) := (n9.cell 0).trans rfl
    have c9 : w9.cell? ⟨bx, 0, none⟩ = some (.slice la K lc) := (HP9.out.1.cell 0).trans rfl
    have HCX : Hid (w9.cell? ⟨bx, 0, none⟩ = some (.slice la K lc) ∧ bx < w9.heap.size) := ⟨c9, HP9.out.1.lt⟩
    obtain ⟨wn, hwn⟩ : ∃ wn, Lw.length = wn := ⟨_, rfl⟩
    have HWN : Hid (Lw.length = wn) := hwn
    have hcap : wn ≤ cw := by
      rcases ho9.2 with ⟨q, _⟩ | ⟨g, cap, cur, hv, _, _, h3, _⟩
      · cases q
      · injection hv with _ _ q
        rw [q, ← hwn]
        exact h3
    have HO9 : Hid (w9.ownsRow w8.heap.size 77 35 (.slice (some ⟨ab, 0, none⟩) wn cw) wn (posL Lw)) := by
      rw [← hwn]
      exact ho9
    simp only [hwn]
    clear ho9 hb9 HRA HI8 HB8 HP8 HN8 c8 x8 hwn n9
    have HPX : Hid ((∀ j x, j < K → L[j]? = some x → Lw[j]? = some x) → ∀ j, j < K → ∃ (lb l : Nat) (p : Int) (R : Rf), la = some ⟨lb, 0, none⟩ ∧ lb < w9.heap.size ∧ ab < w9.heap.size ∧ w9.rangeAt lb (j * 35) ((List.range 35).map (poF (l : Int) p R)) ∧ w9.rangeAt ab (j * 35) ((List.range 35).map (poF (l : Int) p R))) := fun hh j hj => by
      obtain ⟨x, hx⟩ : ∃ x, L[j]? = some x := ⟨_, List.getElem?_eq_getElem (by rw [HK.out]; exact hj)⟩
      obtain ⟨b, h1, h2, h3⟩ := own_isps (HP9.out.own HK.out) HK.out j x hx
      obtain ⟨b', h1', h2', h3'⟩ := own_isps HO9.out HWN.out j x (hh j x hj hx)
      injection h1' with h1'
      injection h1' with h1'
      subst h1'
      exact ⟨b, x.1, x.2.1, x.2.2, h1, h2, h2', h3, h3'⟩
    by_cases hcut9 : 0 < en ∧ en ≤ (wn : Int)
    · have e1 : Lw.take en.toNat = L ∧ 0 = le := by
        have h1 := HER.out
        have h2 := HWN.out
        rw [cutL_pos (by simp only [List.length_nil]; omega)] at h1
        simpa using h1
      have hKe : (K : Int) = en := by
        have h1 := HK.out
        have h2 := HWN.out
        rw [← e1.1, List.length_take] at h1
        omega
      obtain ⟨e1, rfl⟩ := e1
      have HPS : Hid (∀ j, j < K → ∃ (lb l : Nat) (p : Int) (R : Rf), la = some ⟨lb, 0, none⟩ ∧ lb < w9.heap.size ∧ ab < w9.heap.size ∧ w9.rangeAt lb (j * 35) ((List.range 35).map (poF (l : Int) p R)) ∧ w9.rangeAt ab (j * 35) ((List.range 35).map (poF (l : Int) p R))) := HPX.out fun j x hj hx => by
        rw [← e1, List.getElem?_take] at hx
        split at hx
        · exact hx
        · cases hx
      have HK5 : Hid (K ≤ 5461) := by
        have h1 := HLn.out
        have h2 := HWN.out
        show _ ≤ _
        have h1 : Lw.length ≤ 5461 := h1
        omega
      subst hKe
      have k0 : (0 : Int) < (K : Int) := hcut9.1
      have k1 : (K : Int) ≤ (wn : Int) := hcut9.2
      have k2 : (K : Int) ≤ (cw : Int) := by omega
      have k3 : (0 : Int) ≤ (K : Int) := by omega
      clear e1 hcut9 HPX HER HLn HLL
      go_wp2_with fail
      go_loopw [13] (fun t wr => Hid (∃ j : Nat, j ≤ K ∧ t = .int .i64 (j : Int) ∧ Below w9.heap.size w9 wr)) (fun t _ => K - (intOf t).toNat)
      case atStart => exact ⟨0, by omega, rfl, Below.refl _ _⟩
      case round =>
        obtain ⟨j, hj, rfl, hb⟩ := Hid.out hrel
        clear hrel c9
        have cx : wr.cell? ⟨bx, 0, none⟩ = some (.slice la K lc) := (hb.cell (p := ⟨bx, 0, none⟩) HCX.out.2).trans HCX.out.1
        have HBW : Hid (Below w9.heap.size w9 wr) := hb
        clear hb
        by_cases hlt : j < K
        · obtain ⟨lb, l, p, R, rfl, hl1, hl2, hl3, hl4⟩ := HPS.out j hlt
          have HLT : Hid (bx < wr.drew.heap.size ∧ lb < wr.drew.heap.size ∧ ab < wr.drew.heap.size) := ⟨Nat.lt_of_lt_of_le HCX.out.2 HBW.out.size, Nat.lt_of_lt_of_le hl1 HBW.out.size, Nat.lt_of_lt_of_le hl2 HBW.out.size⟩
          have hS : wr.drew.cell? ⟨bx, 0, none⟩ = some (.slice (some ⟨lb, 0, none⟩) K lc) ∧ wr.drew.rangeAt lb (j * 35) ((List.range 35).map (poF (l : Int) p R)) ∧ wr.drew.rangeAt ab (j * 35) ((List.range 35).map (poF (l : Int) p R)) := ⟨cx, range_below hl3 HBW.out.drew hl1, range_below hl4 HBW.out.drew hl2⟩
          have d0 : wr.drew.cell? ⟨ab, j * 35, none⟩ = some (.int .i64 (l : Int)) := po_lvl hS.2.2
          have d1 : wr.drew.cell? ⟨ab, j * 35 + 1, none⟩ = some (.int .i64 p) := po_plc hS.2.2
          have HEQ : ∀ W, (Op.equalIn 10000 44 (.agg (rfC R)) (.agg (rfC R))).run Tryz.prog W = .ok true W := fun W => by
            have := eq_ref 9997 R R W
            rw [decide_eq_true rfl] at this
            exact this
          have j0 : (0 : Int) ≤ (j : Int) := by omega
          have j1 : (j : Int) < (K : Int) := by omega
          have HJK : Hid (j < K ∧ K ≤ 5461) := ⟨hlt, HK5.out⟩
          clear hl1 hl2 hl3 hl4
          go_wp2_with fail
          refine wp_region_partsS (fun W => W.cell? ⟨bx, 0, none⟩ = some (.slice (some ⟨lb, 0, none⟩) K lc) ∧ W.rangeAt lb (j * 35) ((List.range 35).map (poF (l : Int) p R)) ∧ W.rangeAt ab (j * 35) ((List.range 35).map (poF (l : Int) p R))) [([1, 5, 6, 7], 0, true), ([2], 3, true), ([], 4, true), ([], 8, false), ([], 9, false), ([], 10, false), ([11, 13, 17, 18, 19], 12, true), ([14], 15, true), ([], 16, true), ([], 20, false), ([], 21, false), ([], 22, false), ([23, 24, 26, 30, 31, 32], 25, true), ([27], 28, true), ([], 29, true), ([], 33, false), ([], 34, false), ([], 35, false), ([], 36, false)] [37] [] (by kernel_rfl) (by kernel_rfl) hS (partsI_yield ?_)
          simp only [sgLHTreeEachLaw]
          go_wp2_with fail
          refine ⟨rfl, _, .slice (some ⟨lb, 0, none⟩) K lc, rfl, Or.inl ⟨by rfl, fun W hW => by have c0 := hW.1; go_simp⟩, partsI_yield ?_⟩
          simp only [Act.put, sgPHTreeEachLaw]
          simp only [sgLHTreeEachLaw]
          go_wp2_with fail
          refine ⟨rfl, _, .pointer (some ⟨lb, j * 35, none⟩), rfl, Or.inl ⟨by rfl, fun W hW => by go_simp⟩, partsI_yield ?_⟩
          simp only [Act.put, sgPHTreeEachLaw]
          simp only [sgLHTreeEachLaw]
          go_wp2_with fail
          refine ⟨rfl, _, .int .i64 (l : Int), rfl, Or.inl ⟨by rfl, fun W hW => by have c1 : W.cell? ⟨lb, j * 35, none⟩ = some (.int .i64 (l : Int)) := po_lvl hW.2.1; go_simp⟩, partsI_force ?_⟩
          simp only [Act.put, sgPHTreeEachLaw]
          simp only [sgLHTreeEachLaw]
          go_wp2_with fail
          refine ⟨rfl, hS, partsI_force ?_⟩
          simp only [sgLHTreeEachLaw]
          go_wp2_with fail
          refine ⟨rfl, hS, partsI_force ?_⟩
          simp only [sgLHTreeEachLaw]
          go_wp2_with fail
          refine ⟨rfl, hS, partsI_yield ?_⟩
          simp only [sgLHTreeEachLaw]
          go_wp2_with fail
          refine ⟨rfl, _, .slice (some ⟨lb, 0, none⟩) K lc, rfl, Or.inl ⟨by rfl, fun W hW => by have c0 := hW.1; go_simp⟩, partsI_yield ?_⟩
          simp only [Act.put, sgPHTreeEachLaw]
          simp only [sgLHTreeEachLaw]
          go_wp2_with fail
          refine ⟨rfl, _, .pointer (some ⟨lb, j * 35 + 1, none⟩), rfl, Or.inl ⟨by rfl, fun W hW => by go_simp⟩, partsI_yield ?_⟩
          simp only [Act.put, sgPHTreeEachLaw]
          simp only [sgLHTreeEachLaw]
          go_wp2_with fail
          refine ⟨rfl, _, .int .i64 p, rfl, Or.inl ⟨by rfl, fun W hW => by have c1 : W.cell? ⟨lb, j * 35 + 1, none⟩ = some (.int .i64 p) := po_plc hW.2.1; go_simp⟩, partsI_force ?_⟩
          simp only [Act.put, sgPHTreeEachLaw]
          simp only [sgLHTreeEachLaw]
          go_wp2_with fail
          refine ⟨rfl, hS, partsI_force ?_⟩
          simp only [sgLHTreeEachLaw]
          go_wp2_with fail
          refine ⟨rfl, hS, partsI_force ?_⟩
          simp only [sgLHTreeEachLaw]
          go_wp2_with fail
          refine ⟨rfl, hS, partsI_yield ?_⟩
          simp only [sgLHTreeEachLaw]
          go_wp2_with fail
          refine ⟨rfl, _, .slice (some ⟨lb, 0, none⟩) K lc, rfl, Or.inl ⟨by rfl, fun W hW => by have c0 := hW.1; go_simp⟩, partsI_yield ?_⟩
          simp only [Act.put, sgPHTreeEachLaw]
          simp only [sgLHTreeEachLaw]
          go_wp2_with fail
          refine ⟨rfl, _, .pointer (some ⟨lb, j * 35 + 2, none⟩), rfl, Or.inl ⟨by rfl, fun W hW => by go_simp⟩, partsI_yield ?_⟩
          simp only [Act.put, sgPHTreeEachLaw]
          simp only [sgLHTreeEachLaw]
          go_wp2_with fail
          refine ⟨rfl, _, .agg (rfC R), rfl, kyields_load_at (by rfl) 44 _ (by rfl) lb (j * 35 + 2) 33 (rfF R.1 R.2) (by rfl) _ (fun W hW => po_ref hW.2.1) Tryz.underlying44 rfl tsizeRef, partsI_force ?_⟩
          simp only [Act.put, sgPHTreeEachLaw]
          simp only [sgLHTreeEachLaw]
          go_wp2_with fail
          refine ⟨rfl, hS, partsI_force ?_⟩
          simp only [sgLHTreeEachLaw]
          refine tr_load_blkg (by rfl) 31 _ (by rfl) (ab) (j * 35 + 2) 33 (rfF R.1 R.2) (by rfl) _ (po_ref hS.2.2) Tryz.underlying31 rfl rsizeRef ?_
          simp only [Act.put, sgPHTreeEachLaw]
          go_wp2_with fail
          refine ⟨rfl, hS, partsI_force ?_⟩
          simp only [sgLHTreeEachLaw]
          go_wp2_with fail
          refine (lref_any R _).mono ?_
          rintro e wc ⟨rfl, hbc⟩
          have hSc := (⟨(hbc.cell (p := ⟨bx, 0, none⟩) HLT.out.1).trans hS.1, range_below hS.2.1 hbc HLT.out.2.1, range_below hS.2.2 hbc HLT.out.2.2⟩ : wc.cell? ⟨bx, 0, none⟩ = some (.slice (some ⟨lb, 0, none⟩) K lc) ∧ wc.rangeAt lb (j * 35) ((List.range 35).map (poF (l : Int) p R)) ∧ wc.rangeAt ab (j * 35) ((List.range 35).map (poF (l : Int) p R)))
          go_wp2_with fail
          refine ⟨rfl, hSc, partsI_force ?_⟩
          simp only [sgLHTreeEachLaw]
          go_wp2_with fail
          refine ⟨rfl, hSc, partsI_last ?_⟩
          simp only [sgLHTreeEachLaw]
          go_wp2_with fail
          refine ⟨rfl, ?_⟩
          have HBC : Hid (Below w9.heap.size w9 wc) := HBW.out.drew.trans (hbc.mono HBW.out.drew.size)
          clear hbc hSc hS d0 d1
          have hK5 := HJK.out.2
          go_wp2_with fail
          go_roundw
          case rel => exact ⟨j + 1, HJK.out.1, by first | rfl | go_num | simp, HBC.out⟩
          case measure => simp [intOf]; omega
        · obtain rfl : j = K := by omega
          have j1 : ¬ ((j : Int) < (j : Int)) := by omega
          go_wp2_with fail
          go_ret
          exact ⟨rfl, HB9.out.trans (HBW.out.mono HB9.out.size)⟩
    · have e1 : Lw = L ∧ ew = le := by
        have h1 := HER.out
        have h2 := HWN.out
        rw [cutL_neg (by simp only [List.length_nil]; omega)] at h1
        simpa using h1
      obtain ⟨rfl, rfl⟩ := e1
      obtain rfl : wn = K := HWN.out.symm.trans HK.out
      have HPS : Hid (∀ j, j < wn → ∃ (lb l : Nat) (p : Int) (R : Rf), la = some ⟨lb, 0, none⟩ ∧ lb < w9.heap.size ∧ ab < w9.heap.size ∧ w9.rangeAt lb (j * 35) ((List.range 35).map (poF (l : Int) p R)) ∧ w9.rangeAt ab (j * 35) ((List.range 35).map (poF (l : Int) p R))) := HPX.out fun j x hj hx => hx
      have HK5 : Hid (wn ≤ 5461) := by
        have h1 := HLn.out
        have h2 := HWN.out
        show _ ≤ _
        have h1 : Lw.length ≤ 5461 := h1
        omega
      go_upto_region 9 with fail
      go_cut [56] (fun v wx => v = .bool false ∧ w9 = wx)
      case first =>
        by_cases g1 : 0 < en
        · have g2 : ¬ en ≤ (wn : Int) := fun q => hcut9 ⟨g1, q⟩
          go_wp2_with fail
          go_meet
          exact ⟨rfl, rfl⟩
        · go_wp2_with fail
          go_meet
          exact ⟨rfl, rfl⟩
      case rest =>
        obtain ⟨rfl, rfl⟩ := hcut
        clear hcut9 HPX HER HLn HLL
        go_wp2_with fail
        go_loopw [13] (fun t wr => Hid (∃ j : Nat, j ≤ wn ∧ t = .int .i64 (j : Int) ∧ Below w9.heap.size w9 wr)) (fun t _ => wn - (intOf t).toNat)
        case atStart => exact ⟨0, by omega, rfl, Below.refl _ _⟩
        case round =>
          obtain ⟨j, hj, rfl, hb⟩ := Hid.out hrel
          clear hrel c9
          have cx : wr.cell? ⟨bx, 0, none⟩ = some (.slice la wn lc) := (hb.cell (p := ⟨bx, 0, none⟩) HCX.out.2).trans HCX.out.1
          have HBW : Hid (Below w9.heap.size w9 wr) := hb
          clear hb
          by_cases hlt : j < wn
          · obtain ⟨lb, l, p, R, rfl, hl1, hl2, hl3, hl4⟩ := HPS.out j hlt
            have HLT : Hid (bx < wr.drew.heap.size ∧ lb < wr.drew.heap.size ∧ ab < wr.drew.heap.size) := ⟨Nat.lt_of_lt_of_le HCX.out.2 HBW.out.size, Nat.lt_of_lt_of_le hl1 HBW.out.size, Nat.lt_of_lt_of_le hl2 HBW.out.size⟩
            have hS : wr.drew.cell? ⟨bx, 0, none⟩ = some (.slice (some ⟨lb, 0, none⟩) wn lc) ∧ wr.drew.rangeAt lb (j * 35) ((List.range 35).map (poF (l : Int) p R)) ∧ wr.drew.rangeAt ab (j * 35) ((List.range 35).map (poF (l : Int) p R)) := ⟨cx, range_below hl3 HBW.out.drew hl1, range_below hl4 HBW.out.drew hl2⟩
            have d0 : wr.drew.cell? ⟨ab, j * 35, none⟩ = some (.int .i64 (l : Int)) := po_lvl hS.2.2
            have d1 : wr.drew.cell? ⟨ab, j * 35 + 1, none⟩ = some (.int .i64 p) := po_plc hS.2.2
            have HEQ : ∀ W, (Op.equalIn 10000 44 (.agg (rfC R)) (.agg (rfC R))).run Tryz.prog W = .ok true W := fun W => by
              have := eq_ref 9997 R R W
              rw [decide_eq_true rfl] at this
              exact this
            have j0 : (0 : Int) ≤ (j : Int) := by omega
            have j1 : (j : Int) < (wn : Int) := by omega
            have HJK : Hid (j < wn ∧ wn ≤ 5461) := ⟨hlt, HK5.out⟩
            clear hl1 hl2 hl3 hl4
            go_wp2_with fail
            refine wp_region_partsS (fun W => W.cell? ⟨bx, 0, none⟩ = some (.slice (some ⟨lb, 0, none⟩) wn lc) ∧ W.rangeAt lb (j * 35) ((List.range 35).map (poF (l : Int) p R)) ∧ W.rangeAt ab (j * 35) ((List.range 35).map (poF (l : Int) p R))) [([1, 5, 6, 7], 0, true), ([2], 3, true), ([], 4, true), ([], 8, false), ([], 9, false), ([], 10, false), ([11, 13, 17, 18, 19], 12, true), ([14], 15, true), ([], 16, true), ([], 20, false), ([], 21, false), ([], 22, false), ([23, 24, 26, 30, 31, 32], 25, true), ([27], 28, true), ([], 29, true), ([], 33, false), ([], 34, false), ([], 35, false), ([], 36, false)] [37] [] (by kernel_rfl) (by kernel_rfl) hS (partsI_yield ?_)
            simp only [sgLHTreeEachLaw]
            go_wp2_with fail
            refine ⟨rfl, _, .slice (some ⟨lb, 0, none⟩) wn lc, rfl, Or.inl ⟨by rfl, fun W hW => by have c0 := hW.1; go_simp⟩, partsI_yield ?_⟩
            simp only [Act.put, sgPHTreeEachLaw]
            simp only [sgLHTreeEachLaw]
            go_wp2_with fail
            refine ⟨rfl, _, .pointer (some ⟨lb, j * 35, none⟩), rfl, Or.inl ⟨by rfl, fun W hW => by go_simp⟩, partsI_yield ?_⟩
            simp only [Act.put, sgPHTreeEachLaw]
            simp only [sgLHTreeEachLaw]
            go_wp2_with fail
            refine ⟨rfl, _, .int .i64 (l : Int), rfl, Or.inl ⟨by rfl, fun W hW => by have c1 : W.cell? ⟨lb, j * 35, none⟩ = some (.int .i64 (l : Int)) := po_lvl hW.2.1; go_simp⟩, partsI_force ?_⟩
            simp only [Act.put, sgPHTreeEachLaw]
            simp only [sgLHTreeEachLaw]
            go_wp2_with fail
            refine ⟨rfl, hS, partsI_force ?_⟩
            simp only [sgLHTreeEachLaw]
            go_wp2_with fail
            refine ⟨rfl, hS, partsI_force ?_⟩
            simp only [sgLHTreeEachLaw]
            go_wp2_with fail
            refine ⟨rfl, hS, partsI_yield ?_⟩
            simp only [sgLHTreeEachLaw]
            go_wp2_with fail
            refine ⟨rfl, _, .slice (some ⟨lb, 0, none⟩) wn lc, rfl, Or.inl ⟨by rfl, fun W hW => by have c0 := hW.1; go_simp⟩, partsI_yield ?_⟩
            simp only [Act.put, sgPHTreeEachLaw]
            simp only [sgLHTreeEachLaw]
            go_wp2_with fail
            refine ⟨rfl, _, .pointer (some ⟨lb, j * 35 + 1, none⟩), rfl, Or.inl ⟨by rfl, fun W hW => by go_simp⟩, partsI_yield ?_⟩
            simp only [Act.put, sgPHTreeEachLaw]
            simp only [sgLHTreeEachLaw]
            go_wp2_with fail
            refine ⟨rfl, _, .int .i64 p, rfl, Or.inl ⟨by rfl, fun W hW => by have c1 : W.cell? ⟨lb, j * 35 + 1, none⟩ = some (.int .i64 p) := po_plc hW.2.1; go_simp⟩, partsI_force ?_⟩
            simp only [Act.put, sgPHTreeEachLaw]
            simp only [sgLHTreeEachLaw]
            go_wp2_with fail
            refine ⟨rfl, hS, partsI_force ?_⟩
            simp only [sgLHTreeEachLaw]
            go_wp2_with fail
            refine ⟨rfl, hS, partsI_force ?_⟩
            simp only [sgLHTreeEachLaw]
            go_wp2_with fail
            refine ⟨rfl, hS, partsI_yield ?_⟩
            simp only [sgLHTreeEachLaw]
            go_wp2_with fail
            refine ⟨rfl, _, .slice (some ⟨lb, 0, none⟩) wn lc, rfl, Or.inl ⟨by rfl, fun W hW => by have c0 := hW.1; go_simp⟩, partsI_yield ?_⟩
            simp only [Act.put, sgPHTreeEachLaw]
            simp only [sgLHTreeEachLaw]
            go_wp2_with fail
            refine ⟨rfl, _, .pointer (some ⟨lb, j * 35 + 2, none⟩), rfl, Or.inl ⟨by rfl, fun W hW => by go_simp⟩, partsI_yield ?_⟩
            simp only [Act.put, sgPHTreeEachLaw]
            simp only [sgLHTreeEachLaw]
            go_wp2_with fail
            refine ⟨rfl, _, .agg (rfC R), rfl, kyields_load_at (by rfl) 44 _ (by rfl) lb (j * 35 + 2) 33 (rfF R.1 R.2) (by rfl) _ (fun W hW => po_ref hW.2.1) Tryz.underlying44 rfl tsizeRef, partsI_force ?_⟩
            simp only [Act.put, sgPHTreeEachLaw]
            simp only [sgLHTreeEachLaw]
            go_wp2_with fail
            refine ⟨rfl, hS, partsI_force ?_⟩
            simp only [sgLHTreeEachLaw]
            refine tr_load_blkg (by rfl) 31 _ (by rfl) (ab) (j * 35 + 2) 33 (rfF R.1 R.2) (by rfl) _ (po_ref hS.2.2) Tryz.underlying31 rfl rsizeRef ?_
            simp only [Act.put, sgPHTreeEachLaw]
            go_wp2_with fail
            refine ⟨rfl, hS, partsI_force ?_⟩
            simp only [sgLHTreeEachLaw]
            go_wp2_with fail
            refine (lref_any R _).mono ?_
            rintro e wc ⟨rfl, hbc⟩
            have hSc := (⟨(hbc.cell (p := ⟨bx, 0, none⟩) HLT.out.1).trans hS.1, range_below hS.2.1 hbc HLT.out.2.1, range_below hS.2.2 hbc HLT.out.2.2⟩ : wc.cell? ⟨bx, 0, none⟩ = some (.slice (some ⟨lb, 0, none⟩) wn lc) ∧ wc.rangeAt lb (j * 35) ((List.range 35).map (poF (l : Int) p R)) ∧ wc.rangeAt ab (j * 35) ((List.range 35).map (poF (l : Int) p R)))
            go_wp2_with fail
            refine ⟨rfl, hSc, partsI_force ?_⟩
            simp only [sgLHTreeEachLaw]
            go_wp2_with fail
            refine ⟨rfl, hSc, partsI_last ?_⟩
            simp only [sgLHTreeEachLaw]
            go_wp2_with fail
            refine ⟨rfl, ?_⟩
            have HBC : Hid (Below w9.heap.size w9 wc) := HBW.out.drew.trans (hbc.mono HBW.out.drew.size)
            clear hbc hSc hS d0 d1
            have hwn5 := HJK.out.2
            go_wp2_with fail
            go_roundw
            case rel => exact ⟨j + 1, HJK.out.1, by first | rfl | go_num | simp, HBC.out⟩
            case measure => simp [intOf]; omega
          · obtain rfl : j = wn := by omega
            have j1 : ¬ ((j : Int) < (j : Int)) := by omega
            go_wp2_with fail
            go_ret
            exact ⟨rfl, HB9.out.trans (HBW.out.mono HB9.out.size)⟩
  · rw [decide_eq_false hok]
    have e1 : L = [] ∧ le = 1 := by
      have h1 := HLL.out
      unfold eachR at h1
      rw [if_neg hok] at h1
      exact ⟨h1.1.symm, h1.2.symm⟩
    obtain ⟨rfl, rfl⟩ := e1
    obtain rfl : 0 = K := HK.out
    go_wp2_with fail
    go_ret
    exact ⟨rfl, HB8.out⟩
end Go.Proofs.YtjhabngibbmpbaaGreat
