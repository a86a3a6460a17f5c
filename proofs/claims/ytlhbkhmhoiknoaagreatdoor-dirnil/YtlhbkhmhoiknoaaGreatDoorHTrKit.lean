/- Trees: contracts of the heights, capacities and ways, the program's and the document's. -/
import Derived.Test.YtlhbkhmhoiknoaaGreatDoorHDiLay
import Derived.Handy
import Derived.Test.YtlhbkhmhoiknoaaGreatDoorHCaKit
import Derived.Test.YtlhbkhmhoiknoaaGreatDoorHMathCount
import Derived.Test.YtlhbkhmhoiknoaaGreatDoorHDkWrite
import Derived.Deep.DeepCutAuto
import Derived.Deep.Cut
import Derived.Test.YtlhbkhmhoiknoaaGreatDoorHInsMem
import Derived.Test.YtlhbkhmhoiknoaaGreatDoorChecked
import Derived.Test.YtlhbkhmhoiknoaaGreatDoorHNaDecode
import Derived.WalkKit
import Derived.Laws.MakeOwn
import Derived.Maps.AppendAt

namespace Go.Proofs.YtlhbkhmhoiknoaaGreatDoor
open Go Go.RowKit
set_option linter.unusedSimpArgs false
set_option linter.unusedVariables false
theorem kownTurn {w w' : World} {T : Nat → Prop} {B e size n : Nat} {v : Value} {xs : List Value} (h : w.ownsRow B e size v n xs) (ht : Turns T w w') (hT : ∀ b, T b → b < B) : w'.ownsRow B e size v n xs := by
  refine ⟨h.1, ?_⟩
  rcases h.2 with hn | ⟨g, cap, cur, rfl, hg, hgg, rest⟩
  · exact .inl hn
  · refine .inr ⟨g, cap, cur, rfl, hg, (ht.block g (Array.getElem?_eq_some_iff.1 hgg).1 fun h => ?_).trans hgg, rest⟩
    have := hT g h
    omega
theorem IM.belowB {w w' : World} {x mf ml mc : Nat} {cp : Option Addr} {top : Int} {H : Nat → Hd} {D : Nat → Nat → Nat → Nat} (h : IM w x mf ml mc cp top H D) {B : Nat} (hb : Below B w w') (hB : x < B ∧ mf < B ∧ ml < B ∧ mc < B) : IM w' x mf ml mc cp top H D :=
  h.keep (hb.block _ hB.1) (hb.block _ hB.2.1) (hb.block _ hB.2.2.1) (hb.block _ hB.2.2.2)
/-- all other inodes are as they were -/
def OthD (H H' : Nat → Hd) (D D' : Nat → Nat → Nat → Nat) (n : Nat) : Prop := ∀ m, m ≠ n → H' m = H m ∧ D' m = D m
section
variable {w : World} {x mf ml mc : Nat} {cp : Option Addr} {top : Int} {H : Nat → Hd} {D : Nat → Nat → Nat → Nat} {n k st : Nat} {N : Nat → Int} {S : Nat → ByteArray}
theorem lkL_add (N : Nat → Int) (S : Nat → ByteArray) (k : Nat) (i : Int) (s : ByteArray) : lkL (shN N (k / 4)) (shS S (k / 4)) (k % 4) ++ [.int .i64 i, .string s] = lkL (shN (upN N k i) (k / 4)) (shS (upS S k s) (k / 4)) (k % 4 + 1) := by
  show _ = lkL (shN (upN N k i) (k / 4)) (shS (upS S k s) (k / 4)) (k % 4) ++ [.int .i64 (shN (upN N k i) (k / 4) (k % 4)), .string (shS (upS S k s) (k / 4) (k % 4))]
  congr 1
  · refine lkL_same fun p hp => ?_
    unfold shN shS upN upS
    rw [if_neg (by omega), if_neg (by omega)]
    exact ⟨rfl, rfl⟩
  · unfold shN shS upN upS
    rw [if_pos (by omega), if_pos (by omega)]
theorem leE_add (hd : Di H D n k st N S) (i : Int) (s : ByteArray) (hi : encE i s = 0) : leE (shN (upN N k i) (k / 4)) (shS (upS S k s) (k / 4)) (k % 4 + 1) = 0 := leE_all fun p hp => by
  unfold shN shS upN upS
  by_cases c : 4 * (k / 4) + p = k
  · rw [if_pos c, if_pos c]; exact hi
  · rw [if_neg c, if_neg c]; exact hd.ok _ (by omega)
set_option maxRecDepth 100000 in
set_option maxHeartbeats 8000000 in
theorem IM.addOk (h : IM w x mf ml mc cp top H D) (hd : Di H D n k st N S) (hk : k < 16384) (i : Int) (s : ByteArray) (hi : encE i s = 0) (hs : ∀ r, r < k → S r ≠ s) (st' : Nat) : Calls Tryz.prog 7 #[.pointer (some ⟨x, 0, none⟩), .int .i64 (n : Int), .agg #[.int .i64 i, .string s], .int .u64 ((st' : Nat) : Int)] w fun e w' => e = .returned (.int .i64 0) ∧ (∃ H' D', IM w' x mf ml mc cp top H' D' ∧ Di H' D' n (k + 1) st' (upN N k i) (upS S k s) ∧ OthD H H' D D' n) ∧ Turns (fun z => z = ml ∨ z = mf) w w' := by
  have hle := hd.le
  have hlts := h.lts
  obtain ⟨i0, hi0, hz0, hz1, hz2⟩ := info_parts infoLk
  have hzi : ∀ w, (zeroValue 65).run Tryz.prog w = .ok (.agg nf0) w := zero_nf
  have HEN : Hid (∀ V : World, Calls Tryz.prog 21 #[.agg #[.int .i64 i, .string s]] V fun e w' => e = .returned (.tuple #[.string (encT i s), .int .i64 0]) ∧ Below V.heap.size V w') := fun V => by
    have := encode_any i s V
    rw [hi] at this
    exact this
  have HDR : Hid (∀ V, Below w.heap.size w V → Calls Tryz.prog 20 #[.pointer (some ⟨x, 0, none⟩), .int .i64 (n : Int)] V fun e w' => e = .returned (.tuple #[.agg (nfC (n : Int) 2 (H n).l ((64 * k : Nat) : Int) st), .int .i64 0]) ∧ Below V.heap.size V w') := fun V hV => (h.below hV).dirD hd
  have HSE : Hid (∀ V, Below w.heap.size w V → Calls Tryz.prog 22 #[.pointer (some ⟨x, 0, none⟩), .agg (nfC (n : Int) 2 (H n).l ((64 * k : Nat) : Int) st), .string s] V fun e w' => ∃ v, e = .returned (.tuple #[.int .i64 0, v, .int .i64 171]) ∧ w'.ownsRow V.heap.size 30 2 v (inLf k (lastQ k k)) (lkL (shN N (lastQ k k)) (shS S (lastQ k k)) (inLf k (lastQ k k))) ∧ Below V.heap.size V w') := fun V hV => (h.below hV).search hd (H n).l s k ⟨Nat.le_refl _, hs, fun h => absurd h (by omega)⟩ 0 171 (by rw [if_neg (by omega)]) (by rw [if_neg (by omega)])
  have HCT : Hid (∀ V : World, Calls Tryz.prog 23 #[.agg (nfC (n : Int) 2 (H n).l ((64 * k : Nat) : Int) st)] V fun e w' => e = .returned (.int .i64 (k : Int)) ∧ Below V.heap.size V w') := count_any (n : Int) 2 (H n).l k st hd.le
  obtain ⟨y, hy⟩ : ∃ y, y = rsH (hdT (H n) st') (64 * k) (64 * (k + 1)) := ⟨_, rfl⟩
  have HRS : Hid (∀ V, Below w.heap.size w V → Calls Tryz.prog 24 #[.pointer (some ⟨x, 0, none⟩), .int .i64 (n : Int), .int .i64 ((64 * (k + 1) : Nat) : Int), .int .u64 ((st' : Nat) : Int)] V fun e w' => e = .returned (.int .i64 0) ∧ IM w' x mf ml mc cp top (hU H n y) (rsD D n (64 * (k + 1))) ∧ Turns (fun z => z = ml ∨ z = mf) V w') := fun V hV => by
    rw [hy]
    exact (h.below hV).resizeM n hd.n1 hd.n2 (64 * k) (64 * (k + 1)) st' hd.no hd.left hd.s (.inr ⟨hd.kd, by omega⟩) (by omega) (by omega) fun q j hj hz => hd.zero q j hj hz
  have hyp := rsH_parts (H n) st' (64 * k) (64 * (k + 1))
  rw [← hy] at hyp
  have HLY : Hid (∀ V, IM V x mf ml mc cp top (hU H n y) (rsD D n (64 * (k + 1))) → ∀ (a : Option Addr) (c : Nat), IsLks V a (k % 4 + 1) (shN (upN N k i) (k / 4)) (shS (upS S k s) (k / 4)) → Calls Tryz.prog 25 #[.pointer (some ⟨x, 0, none⟩), .int .i64 (n : Int), .int .i64 ((k / 4 : Nat) : Int), .slice a (k % 4 + 1) c, .int .u64 ((st' : Nat) : Int)] V fun e w' => e = .returned (.int .i64 0) ∧ (∃ H' D', IM w' x mf ml mc cp top H' D' ∧ Di H' D' n (k + 1) st' (upN N k i) (upS S k s) ∧ OthD H H' D D' n) ∧ Turns (fun z => z = ml ∨ z = mf) V w') := fun V hV a c hI => by
    have e : hU H n y n = y := hUat _ _ _
    have := hV.layD n (k / 4) hd.n1 hd.n2 (by rw [e, hyp.1, hd.kd]; decide) (by rw [e, hyp.2.1, hd.no]) (64 * (k + 1)) st' (by rw [e, hyp.2.2.1]) (by omega) (by omega) a (k % 4 + 1) c (by omega) hI (leE_add hd i s hi)
    refine this.mono ?_
    rintro e' w' ⟨rfl, hI', ht⟩
    refine ⟨rfl, ⟨_, _, hI', ?_, ?_⟩, ht⟩
    · rw [e]
      exact hd.add hk i s hi st' st' (64 * k) y hy
    · intro m hm
      refine ⟨by rw [hUnot _ _ _ _ hm, hUnot _ _ _ _ hm], by rw [dUnot _ _ _ _ _ hm, rsDnot _ _ _ _ hm]⟩
  have HOW : Hid (∀ (V : World) (B : Nat) (v : Value), V.ownsRow B 30 2 v (inLf k (lastQ k k)) (lkL (shN N (lastQ k k)) (shS S (lastQ k k)) (inLf k (lastQ k k))) → ¬ k % 4 = 0 → V.ownsRow B 30 2 v (k % 4) (lkL (shN N (k / 4)) (shS S (k / 4)) (k % 4))) := fun V B v hv h4 => by
    have e1 : lastQ k k = k / 4 := by unfold lastQ; omega
    have e2 : inLf k (k / 4) = k % 4 := by unfold inLf; omega
    rw [e1, e2] at hv
    exact hv
  have HLA : Hid (lkL (shN N (k / 4)) (shS S (k / 4)) (k % 4) ++ [.int .i64 i, .string s] = lkL (shN (upN N k i) (k / 4)) (shS (upS S k s) (k / 4)) (k % 4 + 1)) := lkL_add N S k i s
  have HX : Hid ((x < w.heap.size ∧ mf < w.heap.size ∧ ml < w.heap.size ∧ mc < w.heap.size) ∧ k % 4 < 4) := ⟨hlts, by omega⟩
  have k1 : (k : Int) < 16384 := by omega
  have hb1 : Below w.heap.size w (w.alloc (.cells #[.int .i64 i, .string s] 30)) := below_new1 _ _
  have p1 : Blk (w.alloc (.cells #[.int .i64 i, .string s] 30)) w.heap.size 30 #[.int .i64 i, .string s] := Blk.new _ _ _
  have HB1 : Hid (_ ∧ _) := ⟨hb1, p1⟩
  have ez : ((64 * k : Nat) : Int) + 64 = ((64 * (k + 1) : Nat) : Int) := by omega
  have zb : ((64 * k : Nat) : Int) ≤ 1048576 := by omega
  have zb0 : (0 : Int) ≤ ((64 * k : Nat) : Int) := by omega
  have eq4 : (k : Int) / 4 = ((k / 4 : Nat) : Int) := by omega
  have er4 : (k : Int) % 4 = ((k % 4 : Nat) : Int) := by omega
  clear h hd hi hs hy hyp hlts hb1 p1
  generalize (H n).l = l at *
  generalize ((64 * k : Nat) : Int) = z at *
  generalize ((64 * (k + 1) : Nat) : Int) = z2 at *
  obtain ⟨q, hq⟩ : ∃ q, q = k / 4 := ⟨_, rfl⟩
  obtain ⟨r, hr⟩ : ∃ r, r = k % 4 := ⟨_, rfl⟩
  rw [← hq] at eq4 HLY HOW HLA
  rw [← hr] at er4 HLY HOW HLA HX
  have r4 : (r : Int) < 4 := by omega
  clear hq hr
  go_enter Tryz.func7, Tryz.ntmps7
  go_wp2_with fail
  generalize (w.alloc (.cells #[.int .i64 i, .string s] 30)) = w1 at *
  refine (HDR.out w1 HB1.out.1).mono ?_
  rintro e w2 ⟨rfl, hb2⟩
  have u1 : Blk (w2.alloc (.cells nf0 65)) w2.heap.size 65 nf0 := Blk.new _ _ _
  have u2 := u1.set (nfC (n : Int) 2 l z st)
  have p2 : Blk ((w2.alloc (.cells nf0 65)).setRow w2.heap.size (nfC (n : Int) 2 l z st)) w.heap.size 30 #[.int .i64 i, .string s] := ((HB1.out.2.below hb2 HB1.out.2.lt).alloc _).other _ (by have := (HB1.out.2.below hb2 HB1.out.2.lt).lt; omega)
  have hb12 := HB1.out.1.trans (hb2.mono HB1.out.1.size)
  have hb3 : Below w.heap.size w ((w2.alloc (.cells nf0 65)).setRow w2.heap.size (nfC (n : Int) 2 l z st)) := below_setRow (hb12.alloc hb12.size _) hb12.size _
  have l0 : ((w2.alloc (.cells nf0 65)).setRow w2.heap.size (nfC (n : Int) 2 l z st)).cell? ⟨w.heap.size, 0, none⟩ = some (.int .i64 i) := (p2.cell 0).trans rfl
  have l1 : ((w2.alloc (.cells nf0 65)).setRow w2.heap.size (nfC (n : Int) 2 l z st)).cell? ⟨w.heap.size, 1, none⟩ = some (.string s) := (p2.cell 1).trans rfl
  have HB3 : Hid (_ ∧ _ ∧ _) := ⟨hb3, p2, u2⟩
  clear hb2 hb12 hb3 p2 u2 HB1 HDR
  go_wp2_with (first
    | (refine wpList_store_row (by rfl) 65 _ _ (by rfl) (w2.heap.size) (nfC (n : Int) 2 l z st) (by rfl) (by rfl) 65 (nf0) (by exact u1) (size_nf.trans (by rfl)) (by rfl) (nf_all _ _ _ _ _) ?_; simp only [Act.put, List.setIfInBounds_toArray, List.set_cons_zero, List.set_cons_succ])
    | fail)
  clear u1 l0 l1
  generalize ((w2.alloc (.cells nf0 65)).setRow w2.heap.size (nfC (n : Int) 2 l z st)) = w3 at *
  refine (HEN.out _).mono ?_
  rintro e w4 ⟨rfl, hb4⟩
  have HB4 : Hid (Below w.heap.size w w4 ∧ Blk w4 w.heap.size 30 #[.int .i64 i, .string s] ∧ Blk w4 w2.heap.size 65 (nfC (n : Int) 2 l z st)) := ⟨HB3.out.1.trans (hb4.mono HB3.out.1.size), HB3.out.2.1.below hb4 HB3.out.2.1.lt, HB3.out.2.2.below hb4 HB3.out.2.2.lt⟩
  have u4 := HB4.out.2.2
  have l1 : w4.cell? ⟨w.heap.size, 1, none⟩ = some (.string s) := (HB4.out.2.1.cell 1).trans rfl
  clear hb4 HB3 HEN
  go_wp2_with (first
    | (refine wpList_load_row (by rfl) 65 _ (by rfl) (w2.heap.size) (by rfl) 65 (nfC (n : Int) 2 l z st) (0, 0) _ (by exact u4) Tryz.underlying65 (by rfl) (size_nf.trans (by rfl)) ?_; simp only [Act.put, List.setIfInBounds_toArray, List.set_cons_zero, List.set_cons_succ])
    | fail)
  refine (HSE.out w4 HB4.out.1).mono ?_
  rintro e w5 ⟨v, rfl, hv5, hb5⟩
  have HB5 : Hid (Below w.heap.size w w5 ∧ Blk w5 w.heap.size 30 #[.int .i64 i, .string s] ∧ Blk w5 w2.heap.size 65 (nfC (n : Int) 2 l z st) ∧ w5.ownsRow w.heap.size 30 2 v (inLf k (lastQ k k)) (lkL (shN N (lastQ k k)) (shS S (lastQ k k)) (inLf k (lastQ k k)))) := ⟨HB4.out.1.trans (hb5.mono HB4.out.1.size), HB4.out.2.1.below hb5 HB4.out.2.1.lt, HB4.out.2.2.below hb5 HB4.out.2.2.lt, kown_mono hv5 HB4.out.1.size⟩
  have u5 := HB5.out.2.2.1
  clear hb5 hv5 HB4 HSE u4 l1
  go_wp2_with (first
    | (refine wpList_load_row (by rfl) 65 _ (by rfl) (w2.heap.size) (by rfl) 65 (nfC (n : Int) 2 l z st) (0, 0) _ (by exact u5) Tryz.underlying65 (by rfl) (size_nf.trans (by rfl)) ?_; simp only [Act.put, List.setIfInBounds_toArray, List.set_cons_zero, List.set_cons_succ])
    | fail)
  refine (HCT.out _).mono ?_
  rintro e w6 ⟨rfl, hb6⟩
  have HB6 : Hid (Below w.heap.size w w6 ∧ Blk w6 w.heap.size 30 #[.int .i64 i, .string s] ∧ Blk w6 w2.heap.size 65 (nfC (n : Int) 2 l z st) ∧ w6.ownsRow w.heap.size 30 2 v (inLf k (lastQ k k)) (lkL (shN N (lastQ k k)) (shS S (lastQ k k)) (inLf k (lastQ k k)))) := ⟨HB5.out.1.trans (hb6.mono HB5.out.1.size), HB5.out.2.1.below hb6 HB5.out.2.1.lt, HB5.out.2.2.1.below hb6 HB5.out.2.2.1.lt, kownBel HB5.out.2.2.2 hb6⟩
  have u6 := (nf_cs HB6.out.2.2.1).2.2.2.1
  clear hb6 HB5 HCT u5
  by_cases hr0 : r = 0
  · subst hr0
    have HVV : Hid (w6.ownsRow w.heap.size 30 2 (.slice none 0 0) 0 (lkL (shN N q) (shS S q) 0)) := World.ownsRow_nil _ _ _ _
    go_wp2_with fail
    refine (HRS.out w6 HB6.out.1).mono ?_
    rintro e w7 ⟨rfl, hI7, ht7⟩
    have HB7 : Hid (Turns (fun z => z = ml ∨ z = mf) w w7 ∧ IM w7 x mf ml mc cp top (hU H n y) (rsD D n (64 * (k + 1))) ∧ w7.ownsRow w.heap.size 30 2 (.slice none 0 0) 0 (lkL (shN N q) (shS S q) 0)) := ⟨(Turns.bel HB6.out.1).tr ht7, hI7, kownTurn HVV.out ht7 (fun b hb => by have := HX.out.1; rcases hb with rfl | rfl <;> omega)⟩
    have p7 : Blk w7 w.heap.size 30 #[.int .i64 i, .string s] := (ht7.block _ HB6.out.2.1.lt (fun hb => by have := HX.out.1; rcases hb with hb | hb <;> omega)).trans HB6.out.2.1
    have l0 : w7.cell? ⟨w.heap.size, 0, none⟩ = some (.int .i64 i) := (p7.cell 0).trans rfl
    have l1 : w7.cell? ⟨w.heap.size, 1, none⟩ = some (.string s) := (p7.cell 1).trans rfl
    have hw7 := HB7.out.1.size
    have HOWN : Hid ((w7.alloc (.cells #[.int .i64 i, .string s] 30)).ownsRow w.heap.size 30 2 (.slice none 0 0) 0 (lkL (shN N q) (shS S q) 0)) := HB7.out.2.2.alloc _
    have HV2 := HOWN.out.lt
    have hbA : Below w.heap.size w7 (w7.alloc (.cells #[.int .i64 i, .string s] 30)) := (Below.refl _ _).alloc hw7 _
    have hsz : w.heap.size ≤ (w7.alloc (.cells #[.int .i64 i, .string s] 30)).heap.size := Nat.le_trans hw7 (by simp)
    have hml : 0 + 1 ≤ maxLen := Nat.le_trans (by omega : 0 + 1 ≤ 5) (by decide)
    clear ht7 hI7 p7 HB6 HRS
    go_wp2_with (first
      | (at_builtin; refine wpList_append_own _ rfl _ _ 39 rfl w.heap.size 30 i0 (.agg #[.int .i64 0, .string ⟨#[]⟩]) 2 24 Tryz.underlying39 hi0 hz0 hz1 hz2 rfl (by decide) _ _ _ rfl HOWN.out ⟨w7.heap.size, 0, none⟩ 1 1 [.int .i64 i, .string s] rfl rfl (cells_new2L w7 (.int .i64 i) (.string s) 30) (by simp [Value.oneCell']) hml (by omega) (by simpa using hsz) ?_)
      | fail)
    intro v' w8 hown' hgrow _
    have hb8 : Below w.heap.size w7 w8 := hbA.grown hgrow hsz (fun q hq => (HV2 q hq).1)
    rw [HLA.out] at hown'
    obtain ⟨a, cc, rfl, hI, hcc⟩ := own_lks hown'
    have hI8 := HB7.out.2.1.belowB hb8 HX.out.1
    have H8 := HLY.out w8 hI8 a cc
    have HE : Hid (Turns (fun z => z = ml ∨ z = mf) w w8) := ⟨hb8.os.trans HB7.out.1.os, hb8.tape.trans HB7.out.1.tape, hb8.output.trans HB7.out.1.output, Nat.le_trans HB7.out.1.size hb8.size, fun b hb hn => (hb8.block b hb).trans (HB7.out.1.block b hb hn)⟩
    have H9 := H8 hI
    clear HOWN HV2 hgrow hbA hown' hb8 hI8 H8 hI HLY HB7 l0 l1 hcc
    go_wp2_with fail
    refine H9.mono ?_
    rintro e w9 ⟨rfl, hI9, ht9⟩
    have HF : Hid (_ ∧ _) := ⟨hI9, HE.out.tr ht9⟩
    clear hI9 ht9 H9 HE
    go_wp2_with fail
    go_ret
    exact ⟨rfl, HF.out.1, HF.out.2⟩
  · have HVV : Hid (w6.ownsRow w.heap.size 30 2 v r (lkL (shN N q) (shS S q) r)) := HOW.out w6 w.heap.size v HB6.out.2.2.2 hr0
    have r0 : ((r : Int) == 0) = false := by simp; omega
    go_wp2_with fail
    refine (HRS.out w6 HB6.out.1).mono ?_
    rintro e w7 ⟨rfl, hI7, ht7⟩
    have HB7 : Hid (Turns (fun z => z = ml ∨ z = mf) w w7 ∧ IM w7 x mf ml mc cp top (hU H n y) (rsD D n (64 * (k + 1))) ∧ w7.ownsRow w.heap.size 30 2 v r (lkL (shN N q) (shS S q) r)) := ⟨(Turns.bel HB6.out.1).tr ht7, hI7, kownTurn HVV.out ht7 (fun b hb => by have := HX.out.1; rcases hb with rfl | rfl <;> omega)⟩
    have p7 : Blk w7 w.heap.size 30 #[.int .i64 i, .string s] := (ht7.block _ HB6.out.2.1.lt (fun hb => by have := HX.out.1; rcases hb with hb | hb <;> omega)).trans HB6.out.2.1
    have l0 : w7.cell? ⟨w.heap.size, 0, none⟩ = some (.int .i64 i) := (p7.cell 0).trans rfl
    have l1 : w7.cell? ⟨w.heap.size, 1, none⟩ = some (.string s) := (p7.cell 1).trans rfl
    have hw7 := HB7.out.1.size
    have HOWN : Hid ((w7.alloc (.cells #[.int .i64 i, .string s] 30)).ownsRow w.heap.size 30 2 v r (lkL (shN N q) (shS S q) r)) := HB7.out.2.2.alloc _
    have HV2 := HOWN.out.lt
    have hbA : Below w.heap.size w7 (w7.alloc (.cells #[.int .i64 i, .string s] 30)) := (Below.refl _ _).alloc hw7 _
    have hsz : w.heap.size ≤ (w7.alloc (.cells #[.int .i64 i, .string s] 30)).heap.size := Nat.le_trans hw7 (by simp)
    have hml : r + 1 ≤ maxLen := Nat.le_trans (by omega : r + 1 ≤ 5) (by decide)
    clear ht7 hI7 p7 HB6 HRS
    go_wp2_with (first
      | (at_builtin; refine wpList_append_own _ rfl _ _ 39 rfl w.heap.size 30 i0 (.agg #[.int .i64 0, .string ⟨#[]⟩]) 2 24 Tryz.underlying39 hi0 hz0 hz1 hz2 rfl (by decide) _ _ _ rfl HOWN.out ⟨w7.heap.size, 0, none⟩ 1 1 [.int .i64 i, .string s] rfl rfl (cells_new2L w7 (.int .i64 i) (.string s) 30) (by simp [Value.oneCell']) hml (by omega) (by simpa using hsz) ?_)
      | fail)
    intro v' w8 hown' hgrow _
    have hb8 : Below w.heap.size w7 w8 := hbA.grown hgrow hsz (fun q hq => (HV2 q hq).1)
    rw [HLA.out] at hown'
    obtain ⟨a, cc, rfl, hI, hcc⟩ := own_lks hown'
    have hI8 := HB7.out.2.1.belowB hb8 HX.out.1
    have H8 := HLY.out w8 hI8 a cc
    have HE : Hid (Turns (fun z => z = ml ∨ z = mf) w w8) := ⟨hb8.os.trans HB7.out.1.os, hb8.tape.trans HB7.out.1.tape, hb8.output.trans HB7.out.1.output, Nat.le_trans HB7.out.1.size hb8.size, fun b hb hn => (hb8.block b hb).trans (HB7.out.1.block b hb hn)⟩
    have H9 := H8 hI
    clear HOWN HV2 hgrow hbA hown' hb8 hI8 H8 hI HLY HB7 l0 l1 hcc
    go_wp2_with fail
    refine H9.mono ?_
    rintro e w9 ⟨rfl, hI9, ht9⟩
    have HF : Hid (_ ∧ _) := ⟨hI9, HE.out.tr ht9⟩
    clear hI9 ht9 H9 HE
    go_wp2_with fail
    go_ret
    exact ⟨rfl, HF.out.1, HF.out.2⟩
end
end Go.Proofs.YtlhbkhmhoiknoaaGreatDoor

namespace Go.Proofs.YtlhbkhmhoiknoaaGreatDoor
open Go Go.RowKit
set_option linter.unusedSimpArgs false
set_option linter.unusedVariables false
section
variable {w : World} {x mf ml mc : Nat} {cp : Option Addr} {top : Int} {H : Nat → Hd} {D : Nat → Nat → Nat → Nat} {n k st : Nat} {N : Nat → Int} {S : Nat → ByteArray}
set_option maxRecDepth 100000 in
set_option maxHeartbeats 4000000 in
theorem IM.findD (h : IM w x mf ml mc cp top H D) (hd : Di H D n k st N S) (s : ByteArray) (hs : isName s.data.toList = true) (p : Nat) (hp : FirstN S k p s) (r0 r1 er : Int) (hr : r0 = if p < k then N p else 0) (hr1 : r1 = if p < k then (p : Int) else 0) (her : er = if p < k then 0 else 171) : Calls Tryz.prog 10 #[.pointer (some ⟨x, 0, none⟩), .int .i64 (n : Int), .string s] w fun e w' => e = .returned (.tuple #[.int .i64 r0, .int .i64 r1, .int .i64 er]) ∧ Below w.heap.size w w' := by
  have hle := hd.le
  have HDR := h.dirD hd
  have HSE : Hid (∀ V, Below w.heap.size w V → Calls Tryz.prog 22 #[.pointer (some ⟨x, 0, none⟩), .agg (nfC (n : Int) 2 (H n).l ((64 * k : Nat) : Int) st), .string s] V fun e w' => ∃ v, e = .returned (.tuple #[.int .i64 r1, v, .int .i64 er]) ∧ w'.ownsRow V.heap.size 30 2 v (inLf k (lastQ k p)) (lkL (shN N (lastQ k p)) (shS S (lastQ k p)) (inLf k (lastQ k p))) ∧ Below V.heap.size V w') := fun V hV => (h.below hV).search hd (H n).l s p hp r1 er hr1 her
  have HCK : Hid (∀ V : World, Calls Tryz.prog 26 #[.string s] V fun e w' => e = .returned (.int .i64 0) ∧ Below V.heap.size V w') := fun V => by
    have := qcheck_any s V
    unfold nameE at this
    rw [if_pos hs] at this
    exact this
  have hzi : ∀ w, (zeroValue 65).run Tryz.prog w = .ok (.agg nf0) w := zero_nf
  clear h hd hs
  generalize (H n).l = l at *
  generalize ((64 * k : Nat) : Int) = z at *
  go_enter Tryz.func10, Tryz.ntmps10
  go_wp2_with fail
  refine HDR.mono ?_
  rintro e w2 ⟨rfl, hb2⟩
  have u1 : Blk (w2.alloc (.cells nf0 65)) w2.heap.size 65 nf0 := Blk.new _ _ _
  have u2 := u1.set (nfC (n : Int) 2 l z st)
  have HB : Hid (Below w.heap.size w ((w2.alloc (.cells nf0 65)).setRow w2.heap.size (nfC (n : Int) 2 l z st))) := below_setRow (hb2.alloc hb2.size _) hb2.size _
  clear hb2 HDR
  go_wp2_with (first
    | (refine wpList_store_row (by rfl) 65 _ _ (by rfl) (w2.heap.size) (nfC (n : Int) 2 l z st) (by rfl) (by rfl) 65 (nf0) (by exact u1) (size_nf.trans (by rfl)) (by rfl) (nf_all _ _ _ _ _) ?_; simp only [Act.put, List.setIfInBounds_toArray, List.set_cons_zero, List.set_cons_succ])
    | fail)
  refine (HCK.out _).mono ?_
  rintro e w3 ⟨rfl, hb3⟩
  have u3 := u2.below hb3 u2.lt
  have HB3 : Hid (Below w.heap.size w w3) := HB.out.trans (hb3.mono HB.out.size)
  have H3 := HSE.out w3 HB3.out
  clear hb3 HB u1 u2
  go_wp2_with (first
    | (refine wpList_load_row (by rfl) 65 _ (by rfl) (w2.heap.size) (by rfl) 65 (nfC (n : Int) 2 l z st) (0, 0) _ (by exact u3) Tryz.underlying65 (by rfl) (size_nf.trans (by rfl)) ?_; simp only [Act.put, List.setIfInBounds_toArray, List.set_cons_zero, List.set_cons_succ])
    | fail)
  refine H3.mono ?_
  rintro e w4 ⟨v, rfl, hv, hb4⟩
  have HB4 : Hid (Below w.heap.size w w4) := HB3.out.trans (hb4.mono HB3.out.size)
  clear hb4 HB3 u3 H3
  by_cases hpk : p < k
  · rw [if_pos hpk] at hr hr1 her
    have hq : lastQ k p = p / 4 := by unfold lastQ; omega
    obtain ⟨r, hr4⟩ : ∃ r, r = p % 4 := ⟨_, rfl⟩
    have hrm : r < inLf k (lastQ k p) := by rw [hq]; unfold inLf; omega
    obtain ⟨a, cc, rfl, hI, hcc⟩ := own_lks hv
    obtain ⟨g, rfl, hg, hc⟩ := hI (by omega)
    have c0 : w4.cell? ⟨g, r * 2, none⟩ = some (.int .i64 (N p)) := by
      rw [(hc r hrm).1]
      unfold shN
      rw [hq, show 4 * (p / 4) + r = p by omega]
    have d2 : (p : Int) % 4 = (r : Int) := by omega
    have r4 : r < 4 := by omega
    have p1 : (p : Int) ≤ 16384 := by omega
    have rm2 : (r : Int) < ((inLf k (lastQ k p) : Nat) : Int) := by omega
    subst hr hr1 her
    clear hc hv hI hpk hq hrm hr4 hp hle hcc
    generalize inLf k (lastQ k p) = m at *
    go_wp2_with fail
    go_ret3
    exact ⟨rfl, HB4.out⟩
  · rw [if_neg hpk] at hr hr1 her
    subst hr hr1 her
    clear hv hpk hp
    go_wp2_with fail
    go_ret3
    exact ⟨rfl, HB4.out⟩
end
end Go.Proofs.YtlhbkhmhoiknoaaGreatDoor

namespace Go.Proofs.YtlhbkhmhoiknoaaGreatDoor
open Go Go.RowKit
set_option linter.unusedSimpArgs false
set_option linter.unusedVariables false

/-- a block's digest -/
def dgB (f : Nat → Nat) : Vector Nat 32 := sumD (sumOf (1, strN f 256))
set_option maxRecDepth 100000 in
set_option maxHeartbeats 4000000 in
theorem mayBeRoom_ok (x : Int) (h0 : 0 ≤ x) (h1 : x ≤ 4096) (w : World) : Calls Tryz.prog 33 #[.int .i64 x] w fun e w' => e = .returned (.bool true) ∧ w = w' := by
  go_enter Tryz.func33, Tryz.ntmps33
  go_wp2_with fail
  go_ret
  exact ⟨rfl, rfl⟩
/-- no entries: the cells of their holder -/
def esC (m : Nat) : Array Value := #[.map (some m), .pointer none, .pointer none]
theorem sizeEs : (Tryz.prog.info? 99).map (·.size) = some 3 := by kernel_rfl
set_option maxRecDepth 100000 in
set_option maxHeartbeats 4000000 in
theorem caNone_any (w : World) : Calls Tryz.prog 34 #[] w fun e w' => ∃ m, e = .returned (.agg (esC m)) ∧ w.heap.size ≤ m ∧ MapIs rfV ptV w' m [] ∧ Below w.heap.size w w' := by
  have hmm := @run_makeMap Tryz.prog
  go_enter Tryz.func34, Tryz.ntmps34
  go_wp2_with fail
  try simp only [Exit.inBlock, Exit.then]
  refine bodyPost_ret (results_cell_row Tryz.results34 _ _ w.heap.size 99 (esC (w.heap.size + 1)) (0, 0) _ rfl ((Blk.new _ _ _).alloc _) Tryz.underlying99 rfl (sizeEs.trans (by rfl))) rfl ?_
  refine ⟨_, rfl, Nat.le_succ _, ⟨#[], 0, ?_, rfl⟩, below_new2 _ _ _⟩
  have := heap_alloc_new (w.alloc (Obj.cells (esC (w.heap.size + 1)) 99)) (Obj.map #[] 0)
  rw [show (w.alloc (Obj.cells (esC (w.heap.size + 1)) 99)).heap.size = w.heap.size + 1 by simp] at this
  exact this
set_option maxRecDepth 100000 in
set_option maxHeartbeats 4000000 in
theorem caNew_ok (g : Nat) (lp : Option Addr) (room : Int) (h0 : 0 ≤ room) (h1 : room ≤ 4096) (w : World) : Calls Tryz.prog 17 #[.pointer (some ⟨g, 0, none⟩), .pointer lp, .int .i64 room] w fun e w' => ∃ c m, e = .returned (.tuple #[.pointer (some ⟨c, 0, none⟩), .int .i64 0]) ∧ (w.heap.size ≤ c ∧ w.heap.size ≤ m) ∧ Blk w' c 104 (caC (some ⟨g, 0, none⟩) lp room m none none 0 0 0 0) ∧ MapIs rfV ptV w' m [] ∧ Below w.heap.size w w' := by
  have hR : Hid (∀ w : World, Calls Tryz.prog 33 #[.int .i64 room] w fun e w' => e = .returned (.bool true) ∧ w = w') := mayBeRoom_ok room h0 h1
  have hN : Hid (∀ w : World, Calls Tryz.prog 34 #[] w fun e w' => ∃ m, e = .returned (.agg #[.map (some m), .pointer none, .pointer none]) ∧ w.heap.size ≤ m ∧ MapIs rfV ptV w' m [] ∧ Below w.heap.size w w') := caNone_any
  clear h0 h1
  go_enter Tryz.func17, Tryz.ntmps17
  go_wp2_with fail
  refine (hR.out _).mono ?_
  rintro e _ ⟨rfl, rfl⟩
  go_wp2_with fail
  refine (hN.out _).mono ?_
  rintro e w1 ⟨m, rfl, hm, hmap, hb1⟩
  have HM : Hid (MapIs rfV ptV w1 m []) := hmap
  clear hmap
  go_wp2_with fail
  try simp only [Exit.inBlock, Exit.then]
  refine bodyPost_ret (results_tmp2 Tryz.results17 _ _ _) rfl ?_
  have hb2 : Below w1.heap.size w1 (w1.alloc (.cells (caC (some ⟨g, 0, none⟩) lp room m none none 0 0 0 0) 104)) := below_new1 _ _
  exact ⟨w1.heap.size, m, rfl, ⟨hb1.size, hm⟩, Blk.new _ _ _, HM.out.below hb2 (by
    obtain ⟨es, cl, hg, _⟩ := HM.out
    exact (Array.getElem?_eq_some_iff.1 hg).1), hb1.trans (hb2.mono hb1.size)⟩
end Go.Proofs.YtlhbkhmhoiknoaaGreatDoor

namespace Go.Proofs.YtlhbkhmhoiknoaaGreatDoor
open Go Go.RowKit
set_option linter.unusedSimpArgs false
set_option linter.unusedVariables false

theorem MapIs.lt {α β : Type} {K : α → Value} {V : β → Value} {w : World} {r : Nat} {l : List (α × β)} (h : MapIs K V w r l) : r < w.heap.size := by
  obtain ⟨es, cl, hg, _⟩ := h
  exact (Array.getElem?_eq_some_iff.1 hg).1
theorem MapIs.of {α β : Type} {K : α → Value} {V : β → Value} {w w' : World} {r : Nat} {l : List (α × β)} (h : MapIs K V w r l) (hk : w'.heap[r]? = w.heap[r]?) : MapIs K V w' r l := by
  obtain ⟨es, cl, hg, he⟩ := h
  exact ⟨es, cl, hk.trans hg, he⟩
theorem MapIs.ne {α β : Type} {K : α → Value} {V : β → Value} {w : World} {r b t : Nat} {cs : Array Value} {l : List (α × β)} (h : MapIs K V w r l) (hb : Blk w b t cs) : r ≠ b := fun e => by
  obtain ⟨es, cl, hg, _⟩ := h
  subst e
  have := hg.symm.trans hb
  simp at this
theorem map_len {w : World} {m : Nat} {l : List (Rf × Nat)} (h : MapIs rfV ptV w m l) (ty : TypeId) : (Builtin.len_ #[96] ty #[.map (some m)]).run Tryz.prog w = .ok (.int .i64 (l.length : Int)) w := by
  obtain ⟨es, cl, hg, he⟩ := h
  have hgo : (getObj m).run Tryz.prog w = .ok (.map es cl) w := by simp [getObj, Sem.run, hg]
  have hl : es.size = l.length := by
    have := congrArg List.length he
    simpa using this
  simp [Builtin.len_, run_underlying Tryz.underlying96, hgo, goInt, hl]
section
variable {c m : Nat} {dp lp o n : Option Addr} {room h r bd cn : Int}
end
end Go.Proofs.YtlhbkhmhoiknoaaGreatDoor

namespace Go.Proofs.YtlhbkhmhoiknoaaGreatDoor
open Go Go.RowKit
set_option linter.unusedSimpArgs false
set_option linter.unusedVariables false

/-- a block in which nothing is turned -/
theorem Turns.blk {S : Nat → Prop} {w w' : World} (h : Turns S w w') {b t : Nat} {cs : Array Value} (hb : Blk w b t cs) (hn : ¬ S b) : Blk w' b t cs := (h.block b hb.lt hn).trans hb
section
variable {c m : Nat} {dp lp o n : Option Addr} {room h r bd cn : Int}
end
end Go.Proofs.YtlhbkhmhoiknoaaGreatDoor

namespace Go.Proofs.YtlhbkhmhoiknoaaGreatDoor
open Go Go.RowKit
set_option linter.unusedSimpArgs false
set_option linter.unusedVariables false

theorem Turns.laid {S : Nat → Prop} {w w' : World} (h : Turns S w w') {b : Nat} (hb : w.heap.size ≤ b) (cs : Array Value) : Turns S w (w'.setRow b cs) := by
  have k : Below w.heap.size w' (w'.setRow b cs) := below_setRow (Below.refl _ _) hb cs
  exact ⟨k.os.trans h.os, k.tape.trans h.tape, k.output.trans h.output, Nat.le_trans h.size k.size, fun x hx hf => (k.block x hx).trans (h.block x hx hf)⟩
theorem Turns.alloc {S : Nat → Prop} {w w' : World} (h : Turns S w w') (o : Obj) : Turns S w (w'.alloc o) := by
  have k : Below w'.heap.size w' (w'.alloc o) := below_new1 _ _
  exact ⟨k.os.trans h.os, k.tape.trans h.tape, k.output.trans h.output, Nat.le_trans h.size k.size, fun x hx hf => (k.block x (Nat.lt_of_lt_of_le hx h.size)).trans (h.block x hx hf)⟩
section
variable {c m b : Nat} {dp lp o n : Option Addr} {room h r bd cn : Int}
end
end Go.Proofs.YtlhbkhmhoiknoaaGreatDoor

namespace Go.Proofs.YtlhbkhmhoiknoaaGreatDoor
open Go Go.RowKit
set_option linter.unusedSimpArgs false
set_option linter.unusedVariables false

/-- an entry: its reference, its block in the memory, its bytes -/
structure En where
  k : Rf
  b : Nat
  f : Nat → Nat
def enA (e : En) : Addr := ⟨e.b, 0, none⟩
def prevOf (L : List En) (i : Nat) : Option Addr := if i = 0 then none else (L[i - 1]?).map enA
def nextOf (L : List En) (i : Nat) : Option Addr := (L[i + 1]?).map enA
def headOf (L : List En) : Option Addr := (L[0]?).map enA
def lastOf (L : List En) : Option Addr := prevOf L L.length
section
variable {c b : Nat} {m : Nat} {dp lp o n : Option Addr} {room h r bd cn : Int} {R : Rf} {f : Nat → Nat}
end
end Go.Proofs.YtlhbkhmhoiknoaaGreatDoor

namespace Go.Proofs.YtlhbkhmhoiknoaaGreatDoor
open Go Go.RowKit
set_option linter.unusedSimpArgs false
set_option linter.unusedVariables false

/-- the chain of entries in the memory -/
structure ChainAt (w : World) (c m : Nat) (dp lp : Option Addr) (room h r bd cn : Int) (L : List En) : Prop where
  blk : Blk w c 104 (caC dp lp room m (headOf L) (lastOf L) h r bd cn)
  ents : ∀ i e, L[i]? = some e → Blk w e.b 240 (enC e.k e.f (prevOf L i) (nextOf L i))
  nd : ∀ (i j : Nat) (e e' : En), L[i]? = some e → L[j]? = some e' → e.b = e'.b → i = j
/-- its blocks -/
def chfoot (c : Nat) (L : List En) (x : Nat) : Prop := x = c ∨ ∃ e ∈ L, x = e.b
section
variable {w w' : World} {c m : Nat} {dp lp : Option Addr} {room h r bd cn : Int} {L : List En} {i : Nat} {e : En}
theorem ChainAt.below (H : ChainAt w c m dp lp room h r bd cn L) (hb : Below w.heap.size w w') : ChainAt w' c m dp lp room h r bd cn L := ⟨H.blk.below hb H.blk.lt, fun i e he => (H.ents i e he).below hb (H.ents i e he).lt, H.nd⟩
theorem ChainAt.kept (H : ChainAt w c m dp lp room h r bd cn L) (hk : ∀ x, chfoot c L x → w'.heap[x]? = w.heap[x]?) : ChainAt w' c m dp lp room h r bd cn L := ⟨(hk c (.inl rfl)).trans H.blk, fun i e he => (hk e.b (.inr ⟨e, List.mem_of_getElem? he, rfl⟩)).trans (H.ents i e he), H.nd⟩
theorem ChainAt.lt (H : ChainAt w c m dp lp room h r bd cn L) (x : Nat) (hx : chfoot c L x) : x < w.heap.size := by
  rcases hx with rfl | ⟨e, he, rfl⟩
  · exact H.blk.lt
  · obtain ⟨i, hi⟩ := List.mem_iff_getElem?.1 he
    exact (H.ents i e hi).lt
end
end Go.Proofs.YtlhbkhmhoiknoaaGreatDoor

namespace Go.Proofs.YtlhbkhmhoiknoaaGreatDoor
open Go Go.RowKit
set_option linter.unusedSimpArgs false
set_option linter.unusedVariables false

/-- the map of the entries -/
def MapFor (w : World) (m : Nat) (L : List En) : Prop := ∃ es : List (Rf × Nat), MapIs rfV ptV w m es ∧ es.length = L.length ∧ (es.map Prod.fst).Nodup ∧ ∀ k b, findIn k es = some b ↔ ∃ e ∈ L, e.k = k ∧ e.b = b
/-- a cache's entries in the memory -/
structure CaAt (w : World) (c m : Nat) (dp lp : Option Addr) (room h r bd cn : Int) (L : List En) : Prop where
  ch : ChainAt w c m dp lp room h r bd cn L
  mp : MapFor w m L
/-- its blocks -/
def cafo (c m : Nat) (L : List En) (x : Nat) : Prop := chfoot c L x ∨ x = m
section
variable {w w' : World} {c m : Nat} {dp lp : Option Addr} {room h r bd cn : Int} {L : List En} {i : Nat} {e : En} {k : Rf}
theorem MapFor.of (H : MapFor w m L) (hk : w'.heap[m]? = w.heap[m]?) : MapFor w' m L := by
  obtain ⟨es, h1, h2⟩ := H
  exact ⟨es, h1.of hk, h2⟩
theorem MapFor.lt (H : MapFor w m L) : m < w.heap.size := by
  obtain ⟨es, h1, h2⟩ := H
  exact h1.lt
theorem MapFor.ne (H : MapFor w m L) {b t : Nat} {cs : Array Value} (hb : Blk w b t cs) : m ≠ b := by
  obtain ⟨es, h1, h2⟩ := H
  exact h1.ne hb
theorem CaAt.below (H : CaAt w c m dp lp room h r bd cn L) (hb : Below w.heap.size w w') : CaAt w' c m dp lp room h r bd cn L := ⟨H.ch.below hb, H.mp.of (hb.block m H.mp.lt)⟩
theorem CaAt.drew (H : CaAt w c m dp lp room h r bd cn L) : CaAt w.drew c m dp lp room h r bd cn L := H.below (Below.refl _ _).drew
theorem CaAt.kept (H : CaAt w c m dp lp room h r bd cn L) (hk : ∀ x, cafo c m L x → w'.heap[x]? = w.heap[x]?) : CaAt w' c m dp lp room h r bd cn L := ⟨H.ch.kept fun x hx => hk x (.inl hx), H.mp.of (hk m (.inr rfl))⟩
theorem CaAt.lt (H : CaAt w c m dp lp room h r bd cn L) (x : Nat) (hx : cafo c m L x) : x < w.heap.size := by
  rcases hx with hx | rfl
  · exact H.ch.lt x hx
  · exact H.mp.lt
theorem CaAt.setRow (H : CaAt w c m dp lp room h r bd cn L) {b : Nat} (hb : ¬ cafo c m L b) (cs : Array Value) : CaAt (w.setRow b cs) c m dp lp room h r bd cn L := H.kept fun x hx => setRow_other w b x cs fun e => hb (e ▸ hx)
theorem CaAt.one (H : CaAt w c m dp lp room h r bd cn L) {e e' : En} (he : e ∈ L) (he' : e' ∈ L) (hk : e.k = e'.k) : e.b = e'.b := by
  obtain ⟨es, h1, h2, h3, h4⟩ := H.mp
  have h5 := (h4 e.k e.b).2 ⟨e, he, rfl, rfl⟩
  have h6 := (h4 e.k e'.b).2 ⟨e', he', hk.symm, rfl⟩
  rw [h5] at h6
  injection h6
theorem mem_erased {x : En} (hx : x ∈ L.eraseIdx i) : x ∈ L := by
  obtain ⟨j, _, hj⟩ := List.mem_eraseIdx_iff_getElem?.1 hx
  exact List.mem_of_getElem? hj
theorem ChainAt.other (H : ChainAt w c m dp lp room h r bd cn L) (hi : L[i]? = some e) (j : Nat) (e' : En) (hj : (L.eraseIdx i)[j]? = some e') : e'.b ≠ e.b := fun hb => by
  rw [List.getElem?_eraseIdx] at hj
  split at hj
  · have := H.nd _ _ _ _ hj hi hb
    omega
  · have := H.nd _ _ _ _ hj hi hb
    omega
end
end Go.Proofs.YtlhbkhmhoiknoaaGreatDoor

namespace Go.Proofs.YtlhbkhmhoiknoaaGreatDoor
open Go Go.RowKit
set_option linter.unusedSimpArgs false
set_option linter.unusedVariables false

/-- the entries but the one of a reference, if it is there -/
def PutL (L : List En) (k : Rf) (L1 : List En) : Prop := (∃ i e, L[i]? = some e ∧ e.k = k ∧ L1 = L.eraseIdx i) ∨ ((∀ e ∈ L, e.k ≠ k) ∧ L1 = L)
theorem PutL.sub {L L1 : List En} {k : Rf} (h : PutL L k L1) {x : En} (hx : x ∈ L1) : x ∈ L := by
  rcases h with ⟨i, e, _, _, rfl⟩ | ⟨_, rfl⟩
  · exact mem_erased hx
  · exact hx
theorem PutL.foot {L L1 : List En} {k : Rf} (h : PutL L k L1) {c m x : Nat} (hx : cafo c m L1 x) : cafo c m L x := by
  rcases hx with (hx | ⟨e, he, hx⟩) | hx
  · exact .inl (.inl hx)
  · exact .inl (.inr ⟨e, h.sub he, hx⟩)
  · exact .inr hx
section
variable {w w' : World} {c m : Nat} {dp lp : Option Addr} {room h r bd cn : Int} {L L1 : List En} {i : Nat} {e : En} {k : Rf}
theorem PutL.none (H : CaAt w c m dp lp room h r bd cn L) (hp : PutL L k L1) : ∀ e ∈ L1, e.k ≠ k := by
  rcases hp with ⟨i, e, hi, rfl, rfl⟩ | ⟨hn, rfl⟩
  · intro x hx hk
    obtain ⟨j, hj, hj2⟩ := List.mem_eraseIdx_iff_getElem?.1 hx
    exact hj (H.ch.nd _ _ _ _ hj2 hi (H.one (List.mem_of_getElem? hj2) (List.mem_of_getElem? hi) hk))
  · exact hn
/-- how many keys a map has -/
def mapSz (w : World) (m : Nat) : Nat := match w.heap[m]? with
  | some (.map es _) => es.size
  | _ => 0
theorem MapFor.sz (H : MapFor w m L) : mapSz w m = L.length := by
  obtain ⟨es, ⟨xs, cl, hg, he⟩, hl, _⟩ := H
  unfold mapSz
  rw [hg]
  have := congrArg List.length he
  simp at this
  show xs.size = _
  omega
theorem MapFor.len (H : MapFor w m L) (ty : TypeId) : (Builtin.len_ #[96] ty #[.map (some m)]).run Tryz.prog w = .ok (.int .i64 (L.length : Int)) w := by
  obtain ⟨es, h1, h2, _⟩ := H
  have := map_len h1 ty
  rw [h2] at this
  exact this
end
section
variable {w w' : World} {c m room : Nat} {dp lp : Option Addr} {h r bd cn : Int} {L L1 : List En} {i : Nat} {e : En} {k : Rf}
end
end Go.Proofs.YtlhbkhmhoiknoaaGreatDoor

namespace Go.Proofs.YtlhbkhmhoiknoaaGreatDoor
open Go Go.RowKit
set_option linter.unusedSimpArgs false
set_option linter.unusedVariables false

section
variable {w w' : World} {c m B g N kk lg room : Nat} {F : Nat → Nat} {q q' : QD} {dp lp : Option Addr} {h r bd cn h2 r2 bd2 cn2 : Int} {L L1 : List En} {i : Nat} {e : En} {k : Rf}
/-- a disk and a cache on it -/
structure CD (w : World) (B g N : Nat) (F : Nat → Nat) (kk lg : Nat) (q : QD) (c m room : Nat) (h r bd cn : Int) (L : List En) : Prop where
  d : DiskQ w B g N F kk lg q
  ca : CaAt w c m (some ⟨g, 0, none⟩) none (room : Int) h r bd cn L
  ap : ∀ x, cafo c m L x → ¬ foot g N q x
  lo : ∀ x, cafo c m L x → B ≤ x
/-- its blocks -/
def cdfo (g N : Nat) (q : QD) (c m : Nat) (L : List En) (x : Nat) : Prop := foot g N q x ∨ cafo c m L x
theorem CD.below (H : CD w B g N F kk lg q c m room h r bd cn L) (hb : Below w.heap.size w w') : CD w' B g N F kk lg q c m room h r bd cn L := ⟨H.d.below hb, H.ca.below hb, H.ap, H.lo⟩
theorem CD.kept (H : CD w B g N F kk lg q c m room h r bd cn L) (hk : ∀ x, cdfo g N q c m L x → w'.heap[x]? = w.heap[x]?) : CD w' B g N F kk lg q c m room h r bd cn L := ⟨H.d.kept fun x hx => hk x (.inl hx), H.ca.kept fun x hx => hk x (.inr hx), H.ap, H.lo⟩
theorem CD.lt (H : CD w B g N F kk lg q c m room h r bd cn L) (x : Nat) (hx : cdfo g N q c m L x) : B ≤ x ∧ x < w.heap.size := by
  rcases hx with hx | hx
  · exact H.d.foots x hx
  · exact ⟨H.lo x hx, H.ca.lt x hx⟩
end
section
variable {c m B g N kk lg room : Nat} {F : Nat → Nat} {q : QD} {dp lp : Option Addr} {h r bd cn : Int} {L L1 : List En} {i : Nat} {e : En} {k : Rf}
end
end Go.Proofs.YtlhbkhmhoiknoaaGreatDoor

namespace Go.Proofs.YtlhbkhmhoiknoaaGreatDoor
open Go Go.RowKit
set_option linter.unusedSimpArgs false
set_option linter.unusedVariables false

/-- a block of the disk -/
def blkAt (F : Nat → Nat) (a : Nat) : Nat → Nat := fun j => F (a * 256 + j)
/-- is what a reference says there? -/
def gotOk (F : Nat → Nat) (N : Nat) (k : Rf) : Prop := k.1 ≠ 0 ∧ k.1 < N ∧ dgB (blkAt F k.1) = k.2
instance (F : Nat → Nat) (N : Nat) (k : Rf) : Decidable (gotOk F N k) := by unfold gotOk; infer_instance
/-- entries that say what the disk says -/
def ValidL (F : Nat → Nat) (N : Nat) (L : List En) : Prop := ∀ e ∈ L, e.k ≠ rf0 ∧ gotOk F N e.k ∧ e.f = blkAt F e.k.1
/-- a disk and a cache, behind i calls at most; U: their blocks -/
structure TD (W : World) (B g N : Nat) (F : Nat → Nat) (c m room i : Nat) (U : Nat → Prop) : Prop where
  ex : ∃ q kk lg h r bd cn L, CD W B g N F kk lg q c m room h r bd cn L ∧ Quiet q kk ∧ kk ≤ i ∧ lg ≤ i ∧ (0 ≤ h ∧ h ≤ (i : Int)) ∧ (0 ≤ r ∧ r ≤ (i : Int)) ∧ (0 ≤ bd ∧ bd ≤ (i : Int)) ∧ ValidL F N L ∧ ∀ x, U x ↔ cdfo g N q c m L x
  nz : 0 < N
  nN : N ≤ 8192
  rm : room ≤ 4096
  hB : B ≤ W.heap.size
section
variable {W W' : World} {B g N c m room i : Nat} {F : Nat → Nat} {U : Nat → Prop}
theorem TD.below (H : TD W B g N F c m room i U) (hb : Below W.heap.size W W') : TD W' B g N F c m room i U := by
  obtain ⟨q, kk, lg, h, r, bd, cn, L, h1, h2⟩ := H.ex
  exact ⟨⟨q, kk, lg, h, r, bd, cn, L, h1.below hb, h2⟩, H.nz, H.nN, H.rm, Nat.le_trans H.hB hb.size⟩
theorem TD.kept (H : TD W B g N F c m room i U) (hs : W.heap.size ≤ W'.heap.size) (hk : ∀ x, U x → W'.heap[x]? = W.heap[x]?) : TD W' B g N F c m room i U := by
  obtain ⟨q, kk, lg, h, r, bd, cn, L, h1, h2, h3, h4, h5, h6, h7, h8, h9⟩ := H.ex
  exact ⟨⟨q, kk, lg, h, r, bd, cn, L, h1.kept fun x hx => hk x ((h9 x).2 hx), h2, h3, h4, h5, h6, h7, h8, h9⟩, H.nz, H.nN, H.rm, Nat.le_trans H.hB hs⟩
theorem TD.lt (H : TD W B g N F c m room i U) (x : Nat) (hx : U x) : B ≤ x ∧ x < W.heap.size := by
  obtain ⟨q, kk, lg, h, r, bd, cn, L, h1, h2, h3, h4, h5, h6, h7, h8, h9⟩ := H.ex
  exact h1.lt x ((h9 x).1 hx)
theorem TD.mono (H : TD W B g N F c m room i U) {j : Nat} (hj : i ≤ j) : TD W B g N F c m room j U := by
  obtain ⟨q, kk, lg, h, r, bd, cn, L, h1, h2, h3, h4, h5, h6, h7, h8, h9⟩ := H.ex
  exact ⟨⟨q, kk, lg, h, r, bd, cn, L, h1, h2, by omega, by omega, by omega, by omega, by omega, h8, h9⟩, H.nz, H.nN, H.rm, H.hB⟩
/-- what a call does to them -/
def TDStep (W W' : World) (B g N : Nat) (F : Nat → Nat) (c m room i : Nat) (U : Nat → Prop) : Prop := ∃ U', TD W' B g N F c m room i U' ∧ Turns U W W' ∧ ∀ x, U' x → U x ∨ W.heap.size ≤ x
theorem TDStep.trans {W1 W2 W3 : World} {i j : Nat} {U V : Nat → Prop} (ht : Turns U W1 W2) (hv : ∀ x, V x → U x ∨ W1.heap.size ≤ x) (h : TDStep W2 W3 B g N F c m room j V) : TDStep W1 W3 B g N F c m room j U := by
  obtain ⟨V', h1, h2, h3⟩ := h
  refine ⟨V', h1, ht.trans h2 hv, fun x hx => ?_⟩
  rcases h3 x hx with h | h
  · exact hv x h
  · exact .inr (Nat.le_trans ht.size h)
end
end Go.Proofs.YtlhbkhmhoiknoaaGreatDoor

namespace Go.Proofs.YtlhbkhmhoiknoaaGreatDoor
open Go Go.RowKit
set_option linter.unusedSimpArgs false
set_option linter.unusedVariables false

theorem and3 (z : Nat) (hz : z < 9223372036854775808) : bits .and .i64 (z : Int) 3 = ((z % 4 : Nat) : Int) := by
  have h1 : (BitVec.ofInt 64 (z : Int)).toNat = z := by
    rw [BitVec.ofInt_natCast, BitVec.toNat_ofNat]; exact Nat.mod_eq_of_lt (by omega)
  have h2 : (BitVec.ofInt 64 (3 : Int)).toNat = 3 := by decide
  show IntKind.i64.wrap ((BitVec.ofInt 64 (z : Int) &&& BitVec.ofInt 64 (3 : Int)).toNat : Int) = _
  rw [BitVec.toNat_and, h1, h2, Nat.and_two_pow_sub_one_eq_mod z 2, IntKind.wrap_i64]
  omega
theorem pow4_le (h : Nat) (hh : h ≤ 6) : 4 ^ h ≤ 4096 := Nat.pow_le_pow_right (n := 4) (by decide) hh
theorem mayBe_yes (h : Nat) (hh : h ≤ 6) (w : World) : Calls Tryz.prog 126 #[.int .i64 (h : Int)] w fun e w' => e = .returned (.bool true) ∧ w = w' := by
  have hd : decide ((h : Int) ≤ 6) = true := decide_eq_true (by omega)
  go_enter Tryz.func126, Tryz.ntmps126
  go_wp2
  go_ret
  exact ⟨rfl, rfl⟩
theorem mayBe_no (h : Int) (hh : h < 0 ∨ 6 < h) (w : World) : Calls Tryz.prog 126 #[.int .i64 h] w fun e w' => e = .returned (.bool false) ∧ w = w' := by
  go_enter Tryz.func126, Tryz.ntmps126
  rcases hh with hh | hh
  · go_wp2
    go_ret
    exact ⟨rfl, rfl⟩
  · have h0 : 0 ≤ h := by omega
    have hd : decide (h ≤ 6) = false := decide_eq_false (by omega)
    go_wp2
    go_ret
    exact ⟨rfl, rfl⟩
theorem wrap_pow4 (p h : Nat) (hp : p * 4 ^ h < 9223372036854775808) : wrap64 ((p : Int) * 2 ^ (2 * h)) = ((p * 4 ^ h : Nat) : Int) := by
  have e : ((p : Int) * 2 ^ (2 * h)) = ((p * 4 ^ h : Nat) : Int) := by
    rw [show (4 : Nat) ^ h = 2 ^ (2 * h) by rw [Nat.pow_mul]]
    push_cast
    rfl
  rw [e, ← IntWalk.i64_left, IntKind.wrap_i64]
  omega
theorem firstLeaf_any (h p c : Nat) (hh : h ≤ 6) (hc : p * 4 ^ h = c) (hp : p < 1099511627776) (w : World) : Calls Tryz.prog 127 #[.int .i64 (h : Int), .int .i64 (p : Int)] w fun e w' => e = .returned (.int .i64 (c : Int)) ∧ w = w' := by
  have hq : p * 4 ^ h < 9223372036854775808 := by
    have h1 := pow4_le h hh
    have h2 := Nat.mul_le_mul (Nat.le_of_lt hp) h1
    omega
  have h1 : (h : Int) ≤ 6 := by omega
  go_enter Tryz.func127, Tryz.ntmps127
  go_wp2
  go_ret
  refine ⟨congrArg (fun x => Ending.returned (.int .i64 x)) ?_, rfl⟩
  rw [← hc]
  exact wrap_pow4 p h hq
theorem capacity_ok (h c : Nat) (hh : h ≤ 6) (hc : 4 ^ h = c) (w : World) : Calls Tryz.prog 102 #[.int .i64 (h : Int)] w fun e w' => e = .returned (.tuple #[.int .i64 (c : Int), .int .i64 0]) ∧ w = w' := by
  go_enter Tryz.func102, Tryz.ntmps102
  go_wp2_with fail
  refine (mayBe_yes h hh w).mono ?_
  rintro e _ ⟨rfl, rfl⟩
  go_wp2_with fail
  refine (firstLeaf_any h 1 c hh (by omega) (by decide) w).mono ?_
  rintro e _ ⟨rfl, rfl⟩
  go_wp2_with fail
  go_ret2
  exact ⟨rfl, rfl⟩
/-- the place at step i of a way -/
def wayN (h p : Nat) : Nat → Nat := fun i => p / 4 ^ (h - 1 - i) % 4
theorem tinfoInt : (Tryz.prog.info? 3).map (fun i => (i.zero, i.size, i.bytes)) = some (some (.int .i64 0), 1, 8) := by kernel_rfl
theorem tinfo_parts {t : TypeId} {z : Value} {n b : Nat} (h : (Tryz.prog.info? t).map (fun i => (i.zero, i.size, i.bytes)) = some (some z, n, b)) : ∃ i, Tryz.prog.info? t = some i ∧ i.zero = some z ∧ i.size = n ∧ i.bytes = b := by
  cases hq : Tryz.prog.info? t with
  | none => simp [hq] at h
  | some i =>
    simp [hq] at h
    exact ⟨i, rfl, h.1, h.2.1, h.2.2⟩
theorem tmade_one (v : Value) (n : Nat) : madeCells #[v] n = va n fun _ => v := by
  refine va_ext (size_madeCells _ _) fun i hi => ?_
  unfold madeCells
  simp [hi, Nat.mod_one]
theorem tmake_ints (n : Nat) (hn : n ≤ 8192) (w : World) : (Instr.makeSlice 88 (.int .i64 (n : Int)) (.int .i64 (n : Int))).run Tryz.prog w = .ok (.slice (some ⟨w.heap.size, 0, none⟩) n n) (w.alloc (.cells (va n (iv .i64 fun _ => 0)) 3)) := by
  obtain ⟨i0, hi, hz0, hz1, hz2⟩ := tinfo_parts tinfoInt
  have := run_make (P := Tryz.prog) w 88 3 i0 (.int .i64 0) Tryz.underlying88 hi hz0 .i64 .i64 (n : Int) (n : Int) (by omega) (Int.le_refl _) (by rw [hz2]; omega) (by omega)
  rw [hz1] at this
  simp only [Int.toNat_natCast, Value.cells, tmade_one, Nat.mul_one] at this
  exact this
theorem shr_way (p k : Nat) : (p : Int) / 2 ^ (2 * k) = ((p / 4 ^ k : Nat) : Int) := by
  rw [show (4 : Nat) ^ k = 2 ^ (2 * k) by rw [Nat.pow_mul]]
  push_cast
  rfl
set_option maxHeartbeats 1000000 in
theorem way_ok (h p : Nat) (hh : h ≤ 6) (hp : p < 4 ^ h) (w : World) : Calls Tryz.prog 122 #[.int .i64 (h : Int), .int .i64 (p : Int)] w fun e w' => e = .returned (.tuple #[.slice (some ⟨w.heap.size, 0, none⟩) h h, .int .i64 0]) ∧ Blk w' w.heap.size 3 (va h (iv .i64 (wayN h p))) ∧ Below w.heap.size w w' := by
  obtain ⟨c, hc⟩ : ∃ c, 4 ^ h = c := ⟨_, rfl⟩
  have hc4 : c ≤ 4096 := hc ▸ pow4_le h hh
  rw [hc] at hp
  have hmk := tmake_ints h (by omega)
  have h6 : (h : Int) ≤ 6 := by omega
  have hd1 : decide ((p : Int) < 0) = false := decide_eq_false (by omega)
  have hd2 : decide (c ≤ p) = false := decide_eq_false (by omega)
  have HC : Hid (4 ^ h = c) := hc
  clear hc
  go_enter Tryz.func122, Tryz.ntmps122
  go_wp2_with fail
  refine (capacity_ok h c hh HC.out w).mono ?_
  rintro e _ ⟨rfl, rfl⟩
  go_wp2_with fail
  have b0 := Blk.new w 3 (va h (iv .i64 fun _ => 0))
  have hb0 : Below w.heap.size w (w.alloc (.cells (va h (iv .i64 fun _ => 0)) 3)) := (Below.refl _ _).alloc (Nat.le_refl _) _
  generalize (w.alloc (.cells (va h (iv .i64 fun _ => 0)) 3)) = w1 at *
  go_loopw [29] (fun i wr => ∃ k : Nat, k ≤ h ∧ i = .int .i64 (k : Int) ∧ Blk wr w.heap.size 3 (va h (iv .i64 (fupN k (wayN h p) fun _ => 0))) ∧ Below w.heap.size w wr) (fun i _ => h - (intOf i).toNat)
  case atStart => exact ⟨0, Nat.zero_le _, rfl, by rw [fup_zero]; exact b0, hb0⟩
  case round =>
    clear b0 hb0
    obtain ⟨k, hk, rfl, bk, hb⟩ := hrel
    by_cases hlt : k < h
    · have hfz := bk.frozen k
      have hcv := bk.cv hlt
      obtain ⟨l, hl⟩ : ∃ l : Nat, l = h - 1 - k := ⟨_, rfl⟩
      have hl1 : (h : Int) - 1 - (k : Int) = (l : Int) := by omega
      have hl6 : (l : Int) ≤ 6 := by omega
      have hv : bits .and .i64 ((p : Int) / 2 ^ (2 * (h - 1 - k))) 3 = ((wayN h p k : Nat) : Int) := by
        rw [shr_way, and3 _ (Nat.lt_of_le_of_lt (Nat.div_le_self _ _) (by omega))]
        rfl
      have bk1 := bk.put k (.int .i64 (wayN h p k : Int))
      rw [va_set, fup_step] at bk1
      go_wp2_with fail
      refine ⟨⟨k + 1, hlt, rfl, bk1, hb.setCell (p := ⟨w.heap.size, k, none⟩) (Nat.le_refl _) _⟩, ?_⟩
      simp only [intOf]
      omega
    · have hkh : k = h := by omega
      subst hkh
      go_wp2_with fail
      go_ret2
      refine ⟨rfl, ?_, hb⟩
      rw [fup_all _ _ _ _ _ (Nat.le_refl _)] at bk
      exact bk
end Go.Proofs.YtlhbkhmhoiknoaaGreatDoor
