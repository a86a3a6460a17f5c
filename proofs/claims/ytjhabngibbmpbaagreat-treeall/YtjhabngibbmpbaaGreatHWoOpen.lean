/- A world of a tree as an argument, opened: a height, leaves, places, two numbers; no condition but that it is one. -/
import Derived.Test.YtjhabngibbmpbaaGreatHTrAll
import Derived.Test.YtjhabngibbmpbaaGreatHTrAll3
import Derived.Test.YtjhabngibbmpbaaGreatRows
import Derived.WalkKit
import Derived.ProofKit
import Derived.OpenShut
import Derived.Carry
import Derived.Deep.Slices
import Derived.Lib.SmallJoins
import Derived.SizedLaws
import Derived.Test.YtjhabngibbmpbaaGreatHTrRef

namespace Go.Proofs.YtjhabngibbmpbaaGreat
theorem sgLHWoOpen : (∀ (α : Type) (a : α) (l r : List α), (a :: l) ++ r = a :: (l ++ r)) ∧ (∀ (α : Type) (l : List α), [] ++ l = l) ∧ (∀ (α : Type) (l : List α), l ++ [] = l) ∧ (∀ (α β : Type) (f : α → Option β) (a : α) (l : List α), (a :: l).filterMap f = match f a with | none => l.filterMap f | some b => b :: l.filterMap f) ∧ (∀ (α β : Type) (f : α → Option β), [].filterMap f = []) ∧ (∀ (α : Type) (l : List α) (i : Nat), l.toArray[i]? = l[i]?) ∧ (∀ (α : Type) (a : α) (l : List α), (a :: l)[0]? = some a) ∧ (∀ (α : Type) (a : α) (l : List α) (i : Nat), (a :: l)[i + 1]? = l[i]?) :=
  ⟨fun _ _ _ _ => List.cons_append, fun _ _ => List.nil_append _, fun _ _ => List.append_nil _, fun _ _ _ _ _ => List.filterMap_cons, fun _ _ _ => List.filterMap_nil, fun _ _ _ => List.getElem?_toArray, fun _ _ _ => List.getElem?_cons_zero, fun _ _ _ _ => List.getElem?_cons_succ⟩
theorem sgPHWoOpen : (∀ (α : Type) (l : List α) (i : Nat) (a : α), l.toArray.setIfInBounds i a = (l.set i a).toArray) ∧ (∀ (α : Type) (a b : α) (l : List α), (a :: l).set 0 b = b :: l) ∧ (∀ (α : Type) (a b : α) (l : List α) (i : Nat), (a :: l).set (i + 1) b = a :: l.set i b) :=
  ⟨fun _ _ _ _ => List.setIfInBounds_toArray _ _ _, fun _ _ _ _ => List.set_cons_zero, fun _ _ _ _ _ => List.set_cons_succ⟩
end Go.Proofs.YtjhabngibbmpbaaGreat
namespace Go.Proofs.YtjhabngibbmpbaaGreat
open Go Go.RowKit
set_option linter.unusedSimpArgs false
set_option linter.unusedVariables false
theorem TW.stepV {w w' : World} {B g N c m room i j ib xt : Nat} {F : Nat → Nat} {U V : Nat → Prop} {h : Int} {R : Rf} (H : TW w B g N F c m room i U ib xt h R) (h1 : TD w' B g N F c m room j V) (h2 : Turns U w w') (h3 : ∀ x, V x → U x ∨ w.heap.size ≤ x) : TW w' B g N F c m room j V ib xt h R := by
  refine ⟨h1, H.img.keptBy h2.size (h2.block ib H.bib H.hib), h2.blk H.tr H.hxt, fun z => ?_, fun z => ?_, Nat.lt_of_lt_of_le H.bib h2.size⟩
  · rcases h3 _ z with y | y
    · exact H.hib y
    · have := H.bib
      omega
  · rcases h3 _ z with y | y
    · exact H.hxt y
    · have := H.tr.lt
      omega
/-- an own slice beside the disk -/
theorem own_step {w w' : World} {B g N c m room i Bm e sz n : Nat} {F : Nat → Nat} {U : Nat → Prop} {v : Value} {xs : List Value} (ho : w.ownsRow Bm e sz v n xs ∧ ∀ z, v.ownBlock = some z → ¬ U z) (hs : TDStep w w' B g N F c m room i U) : ∃ V, TD w' B g N F c m room i V ∧ Turns U w w' ∧ (∀ x, V x → U x ∨ w.heap.size ≤ x) ∧ w'.ownsRow Bm e sz v n xs ∧ ∀ z, v.ownBlock = some z → ¬ V z := by
  obtain ⟨V, h1, h2, h3⟩ := hs
  refine ⟨V, h1, h2, h3, kown_kept ho.1 fun k _ hk => h2.block k (ho.1.lt k hk).2 (ho.2 k hk), fun z hz u => ?_⟩
  rcases h3 z u with q | q
  · exact ho.2 z hz q
  · have := (ho.1.lt z hz).2
    omega
set_option maxRecDepth 100000 in
set_option maxHeartbeats 16000000 in
theorem treeAllLaw {h : Int} {a : Option Addr} {n c : Nat} {ab : Option Addr} {nb cb : Nat} {tu ca : Int} {A : Nat → Int} {Y : Nat → Nat} {Z : Nat → Int} (w : World) (HW : Wo w h a n ab nb tu ca A Y Z) : Calls Tryz.prog 6 #[.agg (woC h a n c ab nb cb tu ca)] w fun e w' => e = .returned (.bool true) ∧ Below w.heap.size w w' := by
  have hz := rtop_zero
  have hzr := zero_ref
  have hzrr := zero_rref
  have hb1 : Below w.heap.size w (w.alloc (.cells (woC h a n c ab nb cb tu ca) 25)) := below_new1 _ _
  have b1 : Blk (w.alloc (.cells (woC h a n c ab nb cb tu ca) 25)) w.heap.size 25 (woC h a n c ab nb cb tu ca) := Blk.new _ _ _
  have HMd : Hid (∀ V, Below w.heap.size w V → Calls Tryz.prog 11 #[.agg (woC h a n c ab nb cb tu ca)] V (MadeP V h n nb tu A Y)) := fun V hV => made_any V (HW.below hV)
  clear HW
  go_enter Tryz.func6, Tryz.ntmps6
  go_wp2_with (first
    | (refine wpList_load_rowg (by rfl) 25 _ (by rfl) (w.heap.size) (by rfl) 25 (woC h a n c ab nb cb tu ca) (0, 0) _ (by exact b1) Tryz.underlying25 (by rfl) (sizeWo.trans (by rw [woC_size])) ?_; simp only [Act.put, sgPHWoOpen])
    | fail)
  generalize (w.alloc (.cells (woC h a n c ab nb cb tu ca) 25)) = w1 at *
  refine (HMd.out _ hb1).mono ?_
  rintro e w2 ⟨cp, ib, N, ic, g, m, room, B, F, U, h', R, rfl, htd, hBi, himg, hF, hh, hR, _, hb2⟩
  have q0 : Blk (w2.alloc (.cells (trC 0 rf0) 33)) w2.heap.size 33 (trC 0 rf0) := Blk.new _ _ _
  have hst := Blk.store (P := Tryz.prog) q0 (trC h' R) (by simp only [trC_size]) (arr_mem (trC_all _ _))
  have hvs := trC_size h' R
  have hbq : Below w2.heap.size w2 ((w2.alloc (.cells (trC 0 rf0) 33)).setRow w2.heap.size (trC h' R)) := below_setRow (below_new1 _ _) (Nat.le_refl _) _
  have HTW : Hid (TW ((w2.alloc (.cells (trC 0 rf0) 33)).setRow w2.heap.size (trC h' R)) B g N F cp m room 0 U ib w2.heap.size h' R) := ⟨htd.below hbq, himg.below hbq, q0.set _, fun z => by have := (htd.lt _ z).1; omega, fun z => by have := (htd.lt _ z).2; omega, by have h1 := htd.hB; have h2 := hbq.size; omega⟩
  have HBB : Hid (w.heap.size ≤ B) := Nat.le_trans hb1.size hBi.1
  have HB2 : Hid (Below w.heap.size w ((w2.alloc (.cells (trC 0 rf0) 33)).setRow w2.heap.size (trC h' R))) := (hb1.trans (hb2.mono hb1.size)).trans (hbq.mono (hb1.trans (hb2.mono hb1.size)).size)
  have HF : Hid (∀ x, F x < 256) := hF
  have HH : Hid ((0 ≤ h' ∧ h' ≤ 7) ∧ R.1 < 4294967296 ∧ okD R.2) := ⟨hh, hR⟩
  clear htd hBi himg hF hh hR hb1 hb2 hbq HMd b1
  go_upto_region 2 with fail
  clear q0 hst hvs
  generalize ((w2.alloc (.cells (trC 0 rf0) 33)).setRow w2.heap.size (trC h' R)) = w3 at *
  generalize w2.heap.size = xt at *
  go_wp2_with fail
  refine (awake9_any w3).mono ?_
  rintro e w4 ⟨rfl, hb4⟩
  have HT4 : Hid (TW w4 B g N F cp m room 0 U ib xt h' R) := HTW.out.below hb4
  have HB4 : Hid (Below w.heap.size w w4) := HB2.out.trans (hb4.mono HB2.out.size)
  have t4 := HT4.out.tr
  clear HTW hb4 HB2
  go_wp2_with (first
    | (refine wpList_load_rowg (by rfl) 33 _ (by rfl) (xt) (by rfl) 33 (trC h' R) (0, 0) _ (by exact t4) Tryz.underlying33 (by rfl) (rsizeTr.trans (by rw [trC_size])) ?_; simp only [Act.put, sgPHWoOpen])
    | fail)
  refine (given_tree h' R w4).mono ?_
  rintro e w5 ⟨rfl, hb5⟩
  have HT5 : Hid (TW w5 B g N F cp m room 0 U ib xt h' R) := HT4.out.below hb5
  have HB5 : Hid (Below w.heap.size w w5) := HB4.out.trans (hb5.mono HB4.out.size)
  clear hb5 HT4 HB4 t4
  go_wp2_with fail
  obtain ⟨Lv, er, hav⟩ : ∃ Lv er, allV F N h' R = (Lv, er) := ⟨_, _, rfl⟩
  have HAV : Hid (allV F N h' R = (Lv, er)) := hav
  have HA1 : Hid (∀ (i : Nat) (U : Nat → Prop) (w : World), i < 100000 → TD w B g N F cp m room i U → Calls Tryz.prog 24 #[.pointer (some ⟨cp, 0, none⟩), .agg (trC h' R)] w fun e w' => ∃ v, e = .returned (.tuple #[v, .int .i64 er]) ∧ w'.ownsRow w.heap.size 75 35 v Lv.length (posL Lv) ∧ ∃ V, TD w' B g N F cp m room (i + 10922) V ∧ Turns U w w' ∧ (∀ x, V x → U x ∨ w.heap.size ≤ x) ∧ ∀ k, v.ownBlock = some k → ¬ V k) := fun i U w hi h => by
    have := all9_any h' R HH.out.2.1 HH.out.2.2 HF.out (Nat.lt_of_lt_of_le hi (by decide)) w h
    rw [hav] at this
    exact this
  obtain ⟨cx, cy, hcv⟩ : ∃ cx cy, cntV F N h' R = (cx, cy) := ⟨_, _, rfl⟩
  obtain ⟨lz, hlz⟩ : ∃ lz, lstV F N h' R = lz := ⟨_, rfl⟩
  obtain ⟨ev, hev⟩ : ∃ ev, (evR F N h' R).2 = ev := ⟨_, rfl⟩
  have HCV : Hid (cntV F N h' R = (cx, cy) ∧ lstV F N h' R = lz ∧ (evR F N h' R).2 = ev) := ⟨hcv, hlz, hev⟩
  have HA2 : Hid (∀ (i : Nat) (U : Nat → Prop) (w : World), i < 100000 → TD w B g N F cp m room i U → Calls Tryz.prog 25 #[.pointer (some ⟨cp, 0, none⟩), .agg (trC h' R)] w fun e w' => e = .returned (.tuple #[.int .i64 (cx : Int), .int .i64 (cy : Int), .int .i64 ev]) ∧ TDStep w w' B g N F cp m room (i + 10922) U) := fun i U w hi h => by
    have := count9_any h' R HH.out.2.1 HH.out.2.2 HF.out (Nat.lt_of_lt_of_le hi (by decide)) w h
    rw [hcv, hev] at this
    exact this
  have HA3 : Hid (∀ (i : Nat) (U : Nat → Prop) (w : World), i < 100000 → TD w B g N F cp m room i U → Calls Tryz.prog 26 #[.pointer (some ⟨cp, 0, none⟩), .agg (trC h' R)] w fun e w' => e = .returned (.tuple #[.int .i64 lz, .int .i64 ev]) ∧ TDStep w w' B g N F cp m room (i + 10922) U) := fun i U w hi h => by
    have := last9_any h' R HH.out.2.1 HH.out.2.2 HF.out (Nat.lt_of_lt_of_le hi (by decide)) w h
    rw [hlz, hev] at this
    exact this
  clear hav hcv hlz hev
  refine (HA1.out 0 U w5 (by decide) HT5.out.td).mono ?_
  rintro e w6 ⟨v, rfl, ho6, V6, hd6, hm6, hv6, ha6⟩
  have HT6 : Hid (TW w6 B g N F cp m room (0 + 10922) V6 ib xt h' R) := HT5.out.stepV hd6 hm6 hv6
  have HB6 : Hid (Below w.heap.size w w6) := HB5.out.trans (hm6.below (B := w.heap.size) HB5.out.size fun z hz => by have h1 := (HT5.out.td.lt z hz).1; have h2 := HBB.out; omega)
  obtain ⟨la, lc, rfl⟩ := kown_slice ho6
  obtain ⟨K, hK⟩ : ∃ K, Lv.length = K := ⟨_, rfl⟩
  have HK : Hid (Lv.length = K) := hK
  rw [hK] at ho6 ha6 ⊢
  have HO6 : Hid (w6.ownsRow w5.heap.size 75 35 (.slice la K lc) K (posL Lv) ∧ ∀ z, (Value.slice la K lc).ownBlock = some z → ¬ V6 z) := ⟨ho6, ha6⟩
  clear ho6 hd6 hm6 hv6 ha6 hK HT5 HB5 HA1
  have t6 := HT6.out.tr
  go_wp2_with (first
    | (refine wpList_load_rowg (by rfl) 33 _ (by rfl) (xt) (by rfl) 33 (trC h' R) (0, 0) _ (by exact t6) Tryz.underlying33 (by rfl) (rsizeTr.trans (by rw [trC_size])) ?_; simp only [Act.put, sgPHWoOpen])
    | fail)
  refine (given_tree h' R w6).mono ?_
  rintro e w7 ⟨rfl, hb7⟩
  have HT7 : Hid (TW w7 B g N F cp m room (0 + 10922) V6 ib xt h' R) := HT6.out.below hb7
  have HB7 : Hid (Below w.heap.size w w7) := HB6.out.trans (hb7.mono HB6.out.size)
  have HO7 : Hid (w7.ownsRow w5.heap.size 75 35 (.slice la K lc) K (posL Lv) ∧ ∀ z, (Value.slice la K lc).ownBlock = some z → ¬ V6 z) := ⟨kown_below HO6.out.1 hb7, HO6.out.2⟩
  clear hb7 HT6 HB6 HO6 t6
  go_wp2_with fail
  refine (HA2.out (0 + 10922) V6 w7 (by decide) HT7.out.td).mono ?_
  rintro e w8 ⟨rfl, hs8⟩
  have ho8 := own_step HO7.out hs8
  obtain ⟨V8, hd8, hm8, hv8, ho8, ha8⟩ := ho8
  have HT8 : Hid (TW w8 B g N F cp m room (0 + 10922 + 10922) V8 ib xt h' R) := HT7.out.stepV hd8 hm8 hv8
  have HB8 : Hid (Below w.heap.size w w8) := HB7.out.trans (hm8.below (B := w.heap.size) HB7.out.size fun z hz => by have h1 := (HT7.out.td.lt z hz).1; have h2 := HBB.out; omega)
  have HO8 : Hid (w8.ownsRow w5.heap.size 75 35 (.slice la K lc) K (posL Lv) ∧ ∀ z, (Value.slice la K lc).ownBlock = some z → ¬ V8 z) := ⟨ho8, ha8⟩
  clear hs8 hd8 hm8 hv8 ho8 ha8 HT7 HB7 HO7 HA2
  have t8 := HT8.out.tr
  go_wp2_with (first
    | (refine wpList_load_rowg (by rfl) 33 _ (by rfl) (xt) (by rfl) 33 (trC h' R) (0, 0) _ (by exact t8) Tryz.underlying33 (by rfl) (rsizeTr.trans (by rw [trC_size])) ?_; simp only [Act.put, sgPHWoOpen])
    | fail)
  refine (given_tree h' R w8).mono ?_
  rintro e w9 ⟨rfl, hb9⟩
  have HT9 : Hid (TW w9 B g N F cp m room (0 + 10922 + 10922) V8 ib xt h' R) := HT8.out.below hb9
  have HB9 : Hid (Below w.heap.size w w9) := HB8.out.trans (hb9.mono HB8.out.size)
  have HO9 : Hid (w9.ownsRow w5.heap.size 75 35 (.slice la K lc) K (posL Lv) ∧ ∀ z, (Value.slice la K lc).ownBlock = some z → ¬ V8 z) := ⟨kown_below HO8.out.1 hb9, HO8.out.2⟩
  clear hb9 HT8 HB8 HO8 t8
  go_wp2_with fail
  refine (HA3.out (0 + 10922 + 10922) V8 w9 (by decide) HT9.out.td).mono ?_
  rintro e wa ⟨rfl, hsa⟩
  have hoa := own_step HO9.out hsa
  obtain ⟨Va, hda, hma, hva, hoa, haa⟩ := hoa
  have HTa : Hid (TW wa B g N F cp m room (0 + 10922 + 10922 + 10922) Va ib xt h' R) := HT9.out.stepV hda hma hva
  have HBa : Hid (Below w.heap.size w wa) := HB9.out.trans (hma.below (B := w.heap.size) HB9.out.size fun z hz => by have h1 := (HT9.out.td.lt z hz).1; have h2 := HBB.out; omega)
  have HOa : Hid (wa.ownsRow w5.heap.size 75 35 (.slice la K lc) K (posL Lv)) := hoa
  clear hsa hda hma hva hoa haa HT9 HB9 HO9 HA3
  have ta := HTa.out.tr
  go_wp2_with (first
    | (refine wpList_load_rowg (by rfl) 33 _ (by rfl) (xt) (by rfl) 33 (trC h' R) (0, 0) _ (by exact ta) Tryz.underlying33 (by rfl) (rsizeTr.trans (by rw [trC_size])) ?_; simp only [Act.put, sgPHWoOpen])
    | fail)
  refine (rtright_any h' R wa).mono ?_
  rintro e wb ⟨rfl, hbb⟩
  have HIb : Hid (IsBlks wb (some ⟨ib, 0, none⟩) N fun i => blkAt F i) := HTa.out.img.below hbb
  have xb : Blk wb xt 33 (trC h' R) := HTa.out.tr.below hbb HTa.out.tr.lt
  have HBb : Hid (Below w.heap.size w wb) := HBa.out.trans (hbb.mono HBa.out.size)
  have HOb : Hid (wb.ownsRow w5.heap.size 75 35 (.slice la K lc) K (posL Lv)) := kown_below HOa.out hbb
  have HNN : Hid (N ≤ 8192) := HTa.out.td.nN
  clear hbb HTa HBa HOa ta
  by_cases hok : trOk h' R
  · rw [decide_eq_true hok]
    obtain ⟨hn, rfl⟩ := Int.eq_ofNat_of_zero_le hok.2.1
    have HIN : Hid (hn ≤ 6) := by have := hok.2.2; show _ ≤ _; omega
    have HRA : Hid (Calls Tryz.prog 27 #[.slice (some ⟨ib, 0, none⟩) N ic, .agg (trC (hn : Int) R)] wb (BnP wb (bnR F N hn 0 R).1 (bnR F N hn 0 R).2)) := rall9_any HF.out HNN.out (some ⟨ib, 0, none⟩) ic hn HIN.out R HH.out.2.1 wb HIb.out
    have HLn : Hid ((bnR F N hn 0 R).1.length ≤ 5461) := Nat.le_trans (bnR_len F N hn 0 R) (cN_le HIN.out)
    have hevr : evR F N (hn : Int) R = bnR F N hn 0 R := by
      unfold evR
      rw [if_pos hok, Int.toNat_natCast]
    have HLs : Hid ((bnR F N hn 0 R).1.foldl lstG (-1) = (bnR F N hn 0 R).1.foldl maxG (-1)) := (bnR_last hn 0 R (-1) (by rw [Int.zero_mul]; decide)).1
    have HSum : Hid (((bnR F N hn 0 R).1.foldl cntG (0, 0)).1 + ((bnR F N hn 0 R).1.foldl cntG (0, 0)).2 = (bnR F N hn 0 R).1.length) := by
      have := cnt_sum (bnR F N hn 0 R).1 (0, 0)
      show _ = _
      simpa using this
    have HAV2 : Hid ((if (bnR F N hn 0 R).2 = 0 then ((bnR F N hn 0 R).1, 0) else ([], (bnR F N hn 0 R).2)) = (Lv, er)) := by
      have := HAV.out
      unfold allV at this
      rw [hevr] at this
      exact this
    have HCV2 : Hid ((if (bnR F N hn 0 R).2 = 0 then (bnR F N hn 0 R).1.foldl cntG (0, 0) else (0, 0)) = (cx, cy) ∧ (if (bnR F N hn 0 R).2 = 0 then (bnR F N hn 0 R).1.foldl lstG (-1) else 0) = lz ∧ (bnR F N hn 0 R).2 = ev) := by
      have := HCV.out
      unfold cntV lstV at this
      rw [hevr] at this
      exact this
    clear hok HAV HCV hevr
    generalize bnR F N hn 0 R = bv at *
    obtain ⟨Lw, ew⟩ := bv
    go_wp2_with (first
      | (refine wpList_load_rowg (by rfl) 33 _ (by rfl) (xt) (by rfl) 33 (trC (hn : Int) R) (0, 0) _ (by exact xb) Tryz.underlying33 (by rfl) (rsizeTr.trans (by rw [trC_size])) ?_; simp only [Act.put, sgPHWoOpen])
      | fail)
    refine HRA.out.mono ?_
    rintro e w9 ⟨ab, cw, rfl, ho9, hb9⟩
    have HB9 : Hid (Below w.heap.size w w9) := HBb.out.trans (hb9.mono HBb.out.size)
    have HOp : Hid (w9.ownsRow w5.heap.size 75 35 (.slice la K lc) K (posL Lv)) := kown_below HOb.out hb9
    obtain ⟨wn, hwn⟩ : ∃ wn, Lw.length = wn := ⟨_, rfl⟩
    have HWN : Hid (Lw.length = wn ∧ wn ≤ 5461) := ⟨hwn, hwn ▸ HLn.out⟩
    have HO9 : Hid (w9.ownsRow wb.heap.size 77 35 (.slice (some ⟨ab, 0, none⟩) wn cw) wn (posL Lw)) := by
      rw [← hwn]
      exact ho9
    simp only [hwn]
    clear ho9 hb9 HRA HIb HBb HOb xb hwn HLn
    by_cases he0 : ew = 0
    · subst he0
      obtain ⟨rfl, rfl⟩ : Lw = Lv ∧ 0 = er := by
        have := HAV2.out
        simpa using this
      obtain ⟨e1, rfl, rfl⟩ : Lw.foldl cntG (0, 0) = (cx, cy) ∧ Lw.foldl lstG (-1) = lz ∧ 0 = ev := by
        have := HCV2.out
        simpa using this
      obtain rfl : wn = K := HWN.out.1.symm.trans HK.out
      have HC9 : Hid ((Lw.foldl cntG (0, 0)).1 = cx ∧ cx + cy = wn) := by
        have h1 : (Lw.foldl cntG (0, 0)).1 + (Lw.foldl cntG (0, 0)).2 = Lw.length := HSum.out
        rw [e1] at h1
        exact ⟨by rw [e1], h1.trans HWN.out.1⟩
      have HM9 : Hid (Lw.foldl lstG (-1) = Lw.foldl maxG (-1)) := HLs.out
      have HPS : Hid (∀ j, j < wn → ∃ (lb l : Nat) (p : Int) (R : Rf), Lw[j]? = some (l, p, R) ∧ la = some ⟨lb, 0, none⟩ ∧ lb < w9.heap.size ∧ ab < w9.heap.size ∧ w9.rangeAt lb (j * 35) ((List.range 35).map (poF (l : Int) p R)) ∧ w9.rangeAt ab (j * 35) ((List.range 35).map (poF (l : Int) p R))) := fun j hj => by
        obtain ⟨x, hx⟩ : ∃ x, Lw[j]? = some x := ⟨_, List.getElem?_eq_getElem (by rw [HWN.out.1]; exact hj)⟩
        obtain ⟨b, h1, h2, h3⟩ := own_isps HOp.out HWN.out.1 j x hx
        obtain ⟨b', h1', h2', h3'⟩ := own_isps HO9.out HWN.out.1 j x hx
        injection h1' with h1'
        injection h1' with h1'
        subst h1'
        exact ⟨b, x.1, x.2.1, x.2.2, hx, h1, h2, h2', h3, h3'⟩
      clear e1 HAV2 HCV2 HSum HLs HOp HO9
      generalize hlz : Lw.foldl lstG (-1) = lz at *
      have HM9 : Hid (lz = Lw.foldl maxG (-1)) := HM9.out
      clear hlz
      go_wp2_with fail
      go_loopw [16, 17, 18] (fun vm ve t wr => Hid (∃ (j mm : Nat) (en : Int), j ≤ wn ∧ t = .int .i64 (j : Int) ∧ vm = .int .i64 (mm : Int) ∧ ve = .int .i64 en ∧ mm = ((Lw.take j).foldl cntG (0, 0)).1 ∧ en = (Lw.take j).foldl maxG (-1) ∧ mm ≤ j ∧ Below w9.heap.size w9 wr)) (fun _ _ t _ => wn - (intOf t).toNat)
      case atStart => exact ⟨0, 0, -1, by omega, rfl, rfl, rfl, rfl, rfl, Nat.le_refl _, Below.refl _ _⟩
      case round =>
        obtain ⟨j, mm, en, hj, rfl, rfl, rfl, hmm, hen, hmj, hb⟩ := Hid.out hrel
        clear hrel
        have HBW : Hid (Below w9.heap.size w9 wr) := hb
        have HME : Hid (mm = ((Lw.take j).foldl cntG (0, 0)).1 ∧ en = (Lw.take j).foldl maxG (-1)) := ⟨hmm, hen⟩
        clear hb hmm hen
        have hK5 := HWN.out.2
        by_cases hlt : j < wn
        · obtain ⟨lb, l, p, R, hx, rfl, hl1, hl2, hl3, hl4⟩ := HPS.out j hlt
          have HTK : Hid (Lw.take (j + 1) = Lw.take j ++ [(l, p, R)]) := by
            show _ = _
            rw [List.take_add_one, hx]
            rfl
          have HLI : Hid ((l : Int) = 0 ↔ l = 0) := by show _ ↔ _; omega
          clear hx
          generalize hli : (l : Int) = li at *
          clear hli
          have HLT : Hid (lb < wr.drew.heap.size ∧ ab < wr.drew.heap.size) := ⟨Nat.lt_of_lt_of_le hl1 HBW.out.size, Nat.lt_of_lt_of_le hl2 HBW.out.size⟩
          have hS : wr.drew.rangeAt lb (j * 35) ((List.range 35).map (poF li p R)) ∧ wr.drew.rangeAt ab (j * 35) ((List.range 35).map (poF li p R)) := ⟨range_below hl3 HBW.out.drew hl1, range_below hl4 HBW.out.drew hl2⟩
          have d0 : wr.drew.cell? ⟨ab, j * 35, none⟩ = some (.int .i64 li) := po_lvl hS.2
          have d1 : wr.drew.cell? ⟨ab, j * 35 + 1, none⟩ = some (.int .i64 p) := po_plc hS.2
          have HEQ : ∀ W, (Op.equalIn 10000 44 (.agg (rfC R)) (.agg (rfC R))).run Tryz.prog W = .ok true W := fun W => by
            have := eq_ref 9997 R R W
            rw [decide_eq_true rfl] at this
            exact this
          have j0 : (0 : Int) ≤ (j : Int) := by omega
          have j1 : (j : Int) < (wn : Int) := by omega
          have j2 : ¬ (wn : Int) ≤ (j : Int) := by omega
          have j3 : ¬ wn ≤ j := by omega
          have dj1 : decide ((wn : Int) ≤ (j : Int)) = false := decide_eq_false j2
          have dj2 : decide (wn ≤ j) = false := decide_eq_false j3
          have dj3 : decide ((j : Int) ≥ (wn : Int)) = false := decide_eq_false j2
          clear hl1 hl2 hl3 hl4
          go_wp2_with fail
          refine wp_region_partsS (fun W => W.rangeAt lb (j * 35) ((List.range 35).map (poF li p R)) ∧ W.rangeAt ab (j * 35) ((List.range 35).map (poF li p R))) [([0, 1], 2, false), ([], 3, false), ([4, 5, 6, 7, 10, 11, 12], 8, true), ([], 9, true), ([], 13, false), ([], 14, false), ([], 15, false), ([16, 17, 18, 19, 20, 23, 24, 25], 21, true), ([], 22, true), ([], 26, false), ([], 27, false), ([], 28, false), ([29, 30, 31, 32, 33, 36, 37, 38], 34, true), ([], 35, true), ([], 39, false), ([], 40, false), ([], 41, false), ([], 42, false)] [43] [] (by kernel_rfl) (by kernel_rfl) hS (partsI_force ?_)
          simp only [sgLHWoOpen]
          go_wp2_with fail
          refine ⟨rfl, hS, partsI_force ?_⟩
          simp only [sgLHWoOpen]
          go_wp2_with fail
          refine ⟨rfl, hS, partsI_yield ?_⟩
          simp only [sgLHWoOpen]
          go_wp2_with fail
          refine ⟨rfl, _, .pointer (some ⟨lb, j * 35, none⟩), rfl, Or.inl ⟨by rfl, fun W hW => by go_simp⟩, partsI_yield ?_⟩
          simp only [Act.put, sgPHWoOpen]
          simp only [sgLHWoOpen]
          go_wp2_with fail
          refine ⟨rfl, _, .int .i64 li, rfl, Or.inl ⟨by rfl, fun W hW => by have c1 : W.cell? ⟨lb, j * 35, none⟩ = some (.int .i64 li) := po_lvl hW.1; go_simp⟩, partsI_force ?_⟩
          simp only [Act.put, sgPHWoOpen]
          simp only [sgLHWoOpen]
          go_wp2_with fail
          refine ⟨rfl, hS, partsI_force ?_⟩
          simp only [sgLHWoOpen]
          go_wp2_with fail
          refine ⟨rfl, hS, partsI_force ?_⟩
          simp only [sgLHWoOpen]
          go_wp2_with fail
          refine ⟨rfl, hS, partsI_yield ?_⟩
          simp only [sgLHWoOpen]
          go_wp2_with fail
          refine ⟨rfl, _, .pointer (some ⟨lb, j * 35 + 1, none⟩), rfl, Or.inl ⟨by rfl, fun W hW => by go_simp⟩, partsI_yield ?_⟩
          simp only [Act.put, sgPHWoOpen]
          simp only [sgLHWoOpen]
          go_wp2_with fail
          refine ⟨rfl, _, .int .i64 p, rfl, Or.inl ⟨by rfl, fun W hW => by have c1 : W.cell? ⟨lb, j * 35 + 1, none⟩ = some (.int .i64 p) := po_plc hW.1; go_simp⟩, partsI_force ?_⟩
          simp only [Act.put, sgPHWoOpen]
          simp only [sgLHWoOpen]
          go_wp2_with fail
          refine ⟨rfl, hS, partsI_force ?_⟩
          simp only [sgLHWoOpen]
          go_wp2_with fail
          refine ⟨rfl, hS, partsI_force ?_⟩
          simp only [sgLHWoOpen]
          go_wp2_with fail
          refine ⟨rfl, hS, partsI_yield ?_⟩
          simp only [sgLHWoOpen]
          go_wp2_with fail
          refine ⟨rfl, _, .pointer (some ⟨lb, j * 35 + 2, none⟩), rfl, Or.inl ⟨by rfl, fun W hW => by go_simp⟩, partsI_yield ?_⟩
          simp only [Act.put, sgPHWoOpen]
          simp only [sgLHWoOpen]
          go_wp2_with fail
          refine ⟨rfl, _, .agg (rfC R), rfl, kyields_load_at (by rfl) 44 _ (by rfl) lb (j * 35 + 2) 33 (rfF R.1 R.2) (by rfl) _ (fun W hW => po_ref hW.1) Tryz.underlying44 rfl tsizeRef, partsI_force ?_⟩
          simp only [Act.put, sgPHWoOpen]
          simp only [sgLHWoOpen]
          go_wp2_with fail
          refine ⟨rfl, hS, partsI_force ?_⟩
          simp only [sgLHWoOpen]
          refine tr_load_blkg (by rfl) 31 _ (by rfl) (ab) (j * 35 + 2) 33 (rfF R.1 R.2) (by rfl) _ (po_ref hS.2) Tryz.underlying31 rfl rsizeRef ?_
          simp only [Act.put, sgPHWoOpen]
          go_wp2_with fail
          refine ⟨rfl, hS, partsI_force ?_⟩
          simp only [sgLHWoOpen]
          go_wp2_with fail
          refine (lref_any R _).mono ?_
          rintro e wc ⟨rfl, hbc⟩
          have hSc := (⟨range_below hS.1 hbc HLT.out.1, range_below hS.2 hbc HLT.out.2⟩ : wc.rangeAt lb (j * 35) ((List.range 35).map (poF li p R)) ∧ wc.rangeAt ab (j * 35) ((List.range 35).map (poF li p R)))
          go_wp2_with fail
          refine ⟨rfl, hSc, partsI_force ?_⟩
          simp only [sgLHWoOpen]
          go_wp2_with fail
          refine ⟨rfl, hSc, partsI_last ?_⟩
          simp only [sgLHWoOpen]
          go_wp2_with fail
          refine ⟨rfl, ?_⟩
          have HBC : Hid (Below w9.heap.size w9 wc) := HBW.out.drew.trans (hbc.mono HBW.out.drew.size)
          have e0 : wc.cell? ⟨ab, j * 35, none⟩ = some (.int .i64 li) := po_lvl hSc.2
          have e1 : wc.cell? ⟨ab, j * 35 + 1, none⟩ = some (.int .i64 p) := po_plc hSc.2
          clear hbc hSc hS d0 d1
          by_cases hl0 : li = 0
          · have HM1 : Hid (mm + 1 = ((Lw.take (j + 1)).foldl cntG (0, 0)).1 ∧ max en p = (Lw.take (j + 1)).foldl maxG (-1)) := by
              show _ ∧ _
              have hl := HLI.out.1 hl0
              rw [HTK.out, List.foldl_append, List.foldl_append, HME.out.1, HME.out.2]
              generalize (Lw.take j).foldl cntG (0, 0) = q1
              generalize (Lw.take j).foldl maxG (-1) = q2
              simp [cntG, maxG, hl]
            subst hl0
            go_wp2_with fail
            go_roundw
            case rel => exact ⟨j + 1, mm + 1, max en p, hlt, by first | rfl | go_num | simp, by first | rfl | go_num | simp, by first | rfl | (go_num; done) | simp, HM1.out.1, HM1.out.2, by omega, HBC.out⟩
            case measure => simp [intOf]; omega
          · have HM1 : Hid (mm = ((Lw.take (j + 1)).foldl cntG (0, 0)).1 ∧ en = (Lw.take (j + 1)).foldl maxG (-1)) := by
              show _ ∧ _
              have hl : ¬ l = 0 := fun q => hl0 (HLI.out.2 q)
              rw [HTK.out, List.foldl_append, List.foldl_append, HME.out.1, HME.out.2]
              generalize (Lw.take j).foldl cntG (0, 0) = q1
              generalize (Lw.take j).foldl maxG (-1) = q2
              simp [cntG, maxG, hl]
            go_wp2_with fail
            go_roundw
            case rel => exact ⟨j + 1, mm, en, hlt, by first | rfl | go_num | simp, rfl, rfl, HM1.out.1, HM1.out.2, by omega, HBC.out⟩
            case measure => simp [intOf]; omega
        · obtain rfl : j = wn := by omega
          have j1 : ¬ ((j : Int) < (j : Int)) := by omega
          have hal : Lw.take j = Lw := List.take_of_length_le (by rw [HWN.out.1]; exact Nat.le_refl _)
          obtain ⟨hm1, hm2⟩ := HME.out
          rw [hal] at hm1 hm2
          obtain rfl : mm = cx := hm1.trans HC9.out.1
          obtain rfl : en = lz := hm2.trans HM9.out.symm
          have hsub : (j : Int) - (mm : Int) = (cy : Int) := by have := HC9.out.2; omega
          have hwr : wrap64 ((j : Int) - (mm : Int)) = (cy : Int) := by rw [hsub]; exact wrap64_at _ (by have := HC9.out.2; omega)
          have hwr2 : IntKind.i64.wrap ((j : Int) - (mm : Int)) = (cy : Int) := by
            have := HC9.out.2
            rw [hsub, IntKind.wrap_i64]
            omega
          clear hal hm1 hm2
          go_wp2_with fail
          go_ret
          exact ⟨by first | rfl | simp [hwr, hwr2, hsub], HB9.out.trans (HBW.out.mono HB9.out.size)⟩
    · obtain ⟨rfl, rfl⟩ : [] = Lv ∧ ew = er := by
        have := HAV2.out
        rw [if_neg he0] at this
        exact Prod.mk.inj this
      obtain ⟨e1, rfl, rfl⟩ : (0, 0) = (cx, cy) ∧ 0 = lz ∧ ew = ev := by
        have := HCV2.out
        rw [if_neg he0, if_neg he0] at this
        exact this
      obtain ⟨rfl, rfl⟩ := Prod.mk.inj e1
      obtain rfl : 0 = K := HK.out
      have hne2 : (ew != 0) = true := by simp [he0]
      have hne3 : decide (ew = 0) = false := decide_eq_false he0
      go_wp2_with fail
      go_ret
      exact ⟨rfl, HB9.out⟩
  · rw [decide_eq_false hok]
    have hevr : evR F N h' R = ([], 1) := if_neg hok
    obtain ⟨rfl, rfl⟩ : [] = Lv ∧ 1 = er := by
      have := HAV.out
      unfold allV at this
      rw [hevr, if_neg (by decide)] at this
      exact Prod.mk.inj this
    obtain ⟨e1, rfl, rfl⟩ : (0, 0) = (cx, cy) ∧ 0 = lz ∧ 1 = ev := by
      have := HCV.out
      unfold cntV lstV at this
      rw [hevr, if_neg (by decide), if_neg (by decide)] at this
      exact this
    obtain ⟨rfl, rfl⟩ := Prod.mk.inj e1
    obtain rfl : 0 = K := HK.out
    go_wp2_with fail
    go_ret
    exact ⟨rfl, HBb.out⟩
end Go.Proofs.YtjhabngibbmpbaaGreat

namespace Go.Proofs.YtjhabngibbmpbaaGreat
open Go.ChangeShapes Go.WideShapes Go.ChangeAt Go.RowKit Go.Joins
set_option linter.unusedVariables false
set_option linter.unusedSimpArgs false
theorem wcell_lt {w : World} {a : Addr} {v : Value} (h : w.cell? a = some v) : a.block < w.heap.size := by
  obtain ⟨e, n, hs, _⟩ := World.shape?_of_cell? h
  unfold World.shape? at hs
  cases hb : w.heap[a.block]? with
  | none => simp [hb] at hs
  | some o => exact (Array.getElem?_eq_some_iff.1 hb).1
set_option maxRecDepth 100000 in
theorem open_fills {H : Type} {enc : TypeId × Value → H} {W : World} {a0 : Option Addr} {len cap fuel : Nat} {x : DataW H × List MemPlace}
    (hf : DataW.trod enc Tryz.prog W 0 (fun _ => true) true fuel 22 [.slice a0 len cap] = some x) (hsz : ∀ n ∈ x.1.weights Tryz.prog 22, n ≤ reachBytes) :
    ∃ (A : Nat → Int) (Y : Nat → Nat), len ≤ 9223372036854775807 ∧ IsFl W a0 len A Y := by
  rcases Deep.open_slice Tryz.underlying22 hf with ⟨hcs, hx⟩ | ⟨a, len', cap', m, n, D, Pl, hcs, _, hl, hm, hmm, hx, hel⟩
  · simp at hcs
    obtain ⟨rfl, rfl, rfl⟩ := hcs
    exact ⟨fun _ => 0, fun _ => 0, by omega, fun i hi => absurd hi (by omega)⟩
  · simp at hcs
    obtain ⟨rfl, rfl, rfl⟩ := hcs
    subst hx
    simp only [if_true] at hmm
    subst hmm
    have hu := Tryz.underlying22
    have hby : Tryz.prog.bytesOf 83 = 16 := by kernel_rfl
    have hw0 := hsz ((((List.range len).map D).length + ((List.range (m - len)).map fun j => D (len + j)).length) * Tryz.prog.bytesOf 83) (by simp [DataW.weights, hu])
    rw [hby] at hw0
    simp only [List.length_map, List.length_range] at hw0
    have hlen4 : len ≤ 9223372036854775807 := by
      unfold reachBytes at hw0
      omega
    have hce : Tryz.prog.cellsOf 83 = 2 := by kernel_rfl
    have hci : Tryz.prog.cellsOf 3 = 1 := by kernel_rfl
    have hcu : Tryz.prog.cellsOf 5 = 1 := by kernel_rfl
    have hsp : 0 < len → a.spot = none := fun h0 => by
      obtain ⟨cs', h1, _⟩ := hel 0 (by omega)
      rw [hce] at h1
      obtain ⟨_, hcl, hcell⟩ := World.cells?_some h1
      match cs', hcl with
      | [v0, v1], _ => simpa [Addr.add] using World.cell?_spot (hcell 0 (by omega))
    have each : ∀ i, ∃ q : Int × Nat, i < len → ∃ b o, a = ⟨b, o, none⟩ ∧ b < W.heap.size ∧ W.cell? ⟨b, o + i * 2, none⟩ = some (.int .i64 q.1) ∧ W.cell? ⟨b, o + i * 2 + 1, none⟩ = some (.int .u8 ((q.2 : Nat) : Int)) ∧ q.2 < 256 ∧ (-9223372036854775808 ≤ q.1 ∧ q.1 ≤ 9223372036854775807) := by
      intro i
      by_cases hi : i < len
      · obtain ⟨cs', h1, h2⟩ := hel i (by omega)
        rw [hce] at h1
        obtain ⟨_, hcl, hcell⟩ := World.cells?_some h1
        obtain ⟨xs, k, hk, hxy, _, hxl, hfs⟩ := DataW.trod_struct Tryz.underlying83 h2
        match xs, hxl, cs', hcl with
        | [y0, y1], _, [v0, v1], _ =>
          have g0 := hfs 0 _ rfl
          have g1 := hfs 1 _ rfl
          simp [hci, hcu] at g0 g1
          obtain ⟨p, e0, _, w0⟩ := DataW.trod_int Tryz.underlying3 g0
          obtain ⟨q, e1, _, w1⟩ := DataW.trod_int Tryz.underlying5 g1
          simp at e0 e1
          subst e0 e1
          have hb8 := bounds_u8 w1
          obtain ⟨q, rfl⟩ := Int.eq_ofNat_of_zero_le hb8.1
          refine ⟨(p, q), fun _ => ?_⟩
          have c0 := hcell 0 (by decide)
          have c1 := hcell 1 (by decide)
          obtain ⟨b, off, spot⟩ := a
          have hspot : spot = none := hsp (by omega)
          subst hspot
          simp only [Addr.add_mid, List.getElem?_cons_zero, List.getElem?_cons_succ] at c0 c1
          exact ⟨b, off, rfl, wcell_lt c0, c0, c1, by omega, bounds_i64 w0⟩
      · exact ⟨(0, 0), fun h => absurd h hi⟩
    refine ⟨fun i => (Classical.choose (each i)).1, fun i => (Classical.choose (each i)).2, hlen4, fun i hi => ?_⟩
    obtain ⟨b, o, rfl, h1, h2, h3, h4, h5⟩ := Classical.choose_spec (each i) hi
    exact ⟨b, o, rfl, h1, h2, h3, h4, h5⟩
set_option maxRecDepth 100000 in
theorem open_ints9 {H : Type} {enc : TypeId × Value → H} {W : World} {a0 : Option Addr} {len cap fuel : Nat} {x : DataW H × List MemPlace}
    (hf : DataW.trod enc Tryz.prog W 0 (fun _ => true) true fuel 23 [.slice a0 len cap] = some x) (hsz : ∀ n ∈ x.1.weights Tryz.prog 23, n ≤ reachBytes) :
    ∃ (A : Nat → Int), len ≤ 9223372036854775807 ∧ IsIn W a0 len A := by
  rcases Deep.open_slice Tryz.underlying23 hf with ⟨hcs, hx⟩ | ⟨a, len', cap', m, n, D, Pl, hcs, _, hl, hm, hmm, hx, hel⟩
  · simp at hcs
    obtain ⟨rfl, rfl, rfl⟩ := hcs
    exact ⟨fun _ => 0, by omega, fun i hi => absurd hi (by omega)⟩
  · simp at hcs
    obtain ⟨rfl, rfl, rfl⟩ := hcs
    subst hx
    simp only [if_true] at hmm
    subst hmm
    have hu := Tryz.underlying23
    have hby : Tryz.prog.bytesOf 3 = 8 := by kernel_rfl
    have hw0 := hsz ((((List.range len).map D).length + ((List.range (m - len)).map fun j => D (len + j)).length) * Tryz.prog.bytesOf 3) (by simp [DataW.weights, hu])
    rw [hby] at hw0
    simp only [List.length_map, List.length_range] at hw0
    have hlen4 : len ≤ 9223372036854775807 := by
      unfold reachBytes at hw0
      omega
    have hce : Tryz.prog.cellsOf 3 = 1 := by kernel_rfl
    have hsp : 0 < len → a.spot = none := fun h0 => by
      obtain ⟨cs', h1, _⟩ := hel 0 (by omega)
      rw [hce] at h1
      obtain ⟨_, hcl, hcell⟩ := World.cells?_some h1
      match cs', hcl with
      | [v0], _ => simpa [Addr.add] using World.cell?_spot (hcell 0 (by omega))
    have each : ∀ i, ∃ q : Int, i < len → ∃ b o, a = ⟨b, o, none⟩ ∧ b < W.heap.size ∧ W.cell? ⟨b, o + i, none⟩ = some (.int .i64 q) ∧ (-9223372036854775808 ≤ q ∧ q ≤ 9223372036854775807) := by
      intro i
      by_cases hi : i < len
      · obtain ⟨cs', h1, h2⟩ := hel i (by omega)
        rw [hce] at h1
        obtain ⟨_, hcl, hcell⟩ := World.cells?_some h1
        match cs', hcl with
        | [v0], _ =>
          obtain ⟨p, e0, _, w0⟩ := DataW.trod_int Tryz.underlying3 h2
          simp at e0
          subst e0
          refine ⟨p, fun _ => ?_⟩
          have c0 := hcell 0 (by decide)
          obtain ⟨b, off, spot⟩ := a
          have hspot : spot = none := hsp (by omega)
          subst hspot
          simp only [Addr.add_mid, List.getElem?_cons_zero, Nat.mul_one, Nat.add_zero] at c0
          exact ⟨b, off, rfl, wcell_lt c0, c0, bounds_i64 w0⟩
      · exact ⟨0, fun h => absurd h hi⟩
    refine ⟨fun i => Classical.choose (each i), hlen4, fun i hi => ?_⟩
    obtain ⟨b, o, rfl, h1, h2, h3⟩ := Classical.choose_spec (each i) hi
    exact ⟨b, o, rfl, h1, h2, h3⟩
set_option maxRecDepth 100000 in
theorem open_world {H : Type} {enc : TypeId × Value → H} {W : World} {r : Reach} {b0 : Nat} {v : Value} {d : DataW H} {p : List MemPlace}
    (hv : Value.okWide Tryz.prog W r b0 25 v) (h : DataW.Trod enc Tryz.prog W 0 (fun _ => true) true 25 v d p) (hsz : ∀ n ∈ d.weights Tryz.prog 25, n ≤ reachBytes) :
    ∃ (h : Int) (a : Option Addr) (n c : Nat) (ab : Option Addr) (nb cb : Nat) (tu ca : Int) (A : Nat → Int) (Y : Nat → Nat) (Z : Nat → Int), v = .agg (woC h a n c ab nb cb tu ca) ∧ Wo W h a n ab nb tu ca A Y Z := by
  obtain ⟨cs, rfl, hcs⟩ := okWide_struct Tryz.underlying25 hv
  obtain ⟨fuel, hf⟩ := h
  have hc : Tryz.prog.cellsOf 25 = 5 := by kernel_rfl
  rw [hc] at hcs
  have hcf : Tryz.prog.cellsOf 22 = 1 := by kernel_rfl
  have hcn : Tryz.prog.cellsOf 23 = 1 := by kernel_rfl
  have hci : Tryz.prog.cellsOf 3 = 1 := by kernel_rfl
  obtain ⟨xs, k, hk, hxy, _, hxl, hfs⟩ := DataW.trod_struct Tryz.underlying25 hf
  obtain ⟨l, rfl⟩ : ∃ l : List Value, cs = l.toArray := ⟨cs.toList, by simp⟩
  have hl : l.length = 5 := by simpa using hcs
  match xs, hxl, l, hl with
  | [y0, y1, y2, y3, y4], _, [v0, v1, v2, v3, v4], _ =>
    have g0 := hfs 0 _ rfl
    have g1 := hfs 1 _ rfl
    have g2 := hfs 2 _ rfl
    have g3 := hfs 3 _ rfl
    have g4 := hfs 4 _ rfl
    simp [hcf, hcn, hci, Value.cells] at g0 g1 g2 g3 g4
    obtain ⟨h, e0, _, w0⟩ := DataW.trod_int Tryz.underlying3 g0
    obtain ⟨tu, e3, _, w3⟩ := DataW.trod_int Tryz.underlying3 g3
    obtain ⟨ca, e4, _, w4⟩ := DataW.trod_int Tryz.underlying3 g4
    simp at e0 e3 e4
    subst e0 e3 e4
    have hD : d = .agg [y0.1, y1.1, y2.1, y3.1, y4.1] := by
      have := congrArg Prod.fst hxy
      simpa using this
    have hf1 : ∃ a N c, v1 = .slice a N c := by
      rcases Deep.open_slice Tryz.underlying22 g1 with ⟨hcs, _⟩ | ⟨a, len', cap', _, _, _, _, hcs, _⟩
      · simp at hcs
        exact ⟨_, _, _, hcs⟩
      · simp at hcs
        exact ⟨_, _, _, hcs⟩
    have hf2 : ∃ a N c, v2 = .slice a N c := by
      rcases Deep.open_slice Tryz.underlying23 g2 with ⟨hcs, _⟩ | ⟨a, len', cap', _, _, _, _, hcs, _⟩
      · simp at hcs
        exact ⟨_, _, _, hcs⟩
      · simp at hcs
        exact ⟨_, _, _, hcs⟩
    obtain ⟨a, n, c, rfl⟩ := hf1
    obtain ⟨ab, nb, cb, rfl⟩ := hf2
    obtain ⟨A, Y, h1, h2⟩ := open_fills (x := y1) g1 (fun n hn => by
      refine hsz n ?_
      rw [hD]
      simp only [DataW.weights, Tryz.underlying25]
      exact DataW.weights_mem_each (j := 1) (t := 22) (d := y1.1) rfl rfl n hn)
    obtain ⟨Z, h3, h4⟩ := open_ints9 (x := y2) g2 (fun n hn => by
      refine hsz n ?_
      rw [hD]
      simp only [DataW.weights, Tryz.underlying25]
      exact DataW.weights_mem_each (j := 2) (t := 23) (d := y2.1) rfl rfl n hn)
    exact ⟨h, a, n, c, ab, nb, cb, tu, ca, A, Y, Z, rfl, ⟨h1, h3, h2, h4, bounds_i64 w0, bounds_i64 w3, bounds_i64 w4⟩⟩
end Go.Proofs.YtjhabngibbmpbaaGreat
