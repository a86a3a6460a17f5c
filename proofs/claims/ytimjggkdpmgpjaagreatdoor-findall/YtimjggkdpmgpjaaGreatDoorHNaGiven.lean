/- The statements' 'given': entries as the document has them. -/
import Derived.Test.YtimjggkdpmgpjaaGreatDoorHFiMath
import Derived.Test.YtimjggkdpmgpjaaGreatDoorHDiLay
import Derived.Handy
import Derived.Test.YtimjggkdpmgpjaaGreatDoorHCollKit
import Derived.Test.YtimjggkdpmgpjaaGreatDoorHLogOf
import Derived.LoopTactic
import Derived.Lib.Walk
import Derived.Test.YtimjggkdpmgpjaaGreatDoorHNaBack
import Derived.Test.YtimjggkdpmgpjaaGreatDoorHMath

namespace Go.Proofs.YtimjggkdpmgpjaaGreatDoor
theorem sgLHNaGiven : (∀ (α : Type) (a : α) (l r : List α), (a :: l) ++ r = a :: (l ++ r)) ∧ (∀ (α : Type) (l : List α), [] ++ l = l) ∧ (∀ (α : Type) (l : List α), l ++ [] = l) ∧ (∀ (α β : Type) (f : α → Option β) (a : α) (l : List α), (a :: l).filterMap f = match f a with | none => l.filterMap f | some b => b :: l.filterMap f) ∧ (∀ (α β : Type) (f : α → Option β), [].filterMap f = []) ∧ (∀ (α : Type) (l : List α) (i : Nat), l.toArray[i]? = l[i]?) ∧ (∀ (α : Type) (a : α) (l : List α), (a :: l)[0]? = some a) ∧ (∀ (α : Type) (a : α) (l : List α) (i : Nat), (a :: l)[i + 1]? = l[i]?) :=
  ⟨fun _ _ _ _ => List.cons_append, fun _ _ => List.nil_append _, fun _ _ => List.append_nil _, fun _ _ _ _ _ => List.filterMap_cons, fun _ _ _ => List.filterMap_nil, fun _ _ _ => List.getElem?_toArray, fun _ _ _ => List.getElem?_cons_zero, fun _ _ _ _ => List.getElem?_cons_succ⟩
theorem sgPHNaGiven : (∀ (α : Type) (l : List α) (i : Nat) (a : α), l.toArray.setIfInBounds i a = (l.set i a).toArray) ∧ (∀ (α : Type) (a b : α) (l : List α), (a :: l).set 0 b = b :: l) ∧ (∀ (α : Type) (a b : α) (l : List α) (i : Nat), (a :: l).set (i + 1) b = a :: l.set i b) :=
  ⟨fun _ _ _ _ => List.setIfInBounds_toArray _ _ _, fun _ _ _ _ => List.set_cons_zero, fun _ _ _ _ _ => List.set_cons_succ⟩
end Go.Proofs.YtimjggkdpmgpjaaGreatDoor
namespace Go.Proofs.YtimjggkdpmgpjaaGreatDoor
open Go Go.RowKit
set_option linter.unusedSimpArgs false
set_option linter.unusedVariables false
theorem kownTurn {w w' : World} {T : Nat → Prop} {B e size n : Nat} {v : Value} {xs : List Value} (h : w.ownsRow B e size v n xs) (ht : Turns T w w') (hT : ∀ b, T b → b < B) : w'.ownsRow B e size v n xs := by
  refine ⟨h.1, ?_⟩
  rcases h.2 with hn | ⟨g, cap, cur, rfl, hg, hgg, rest⟩
  · exact .inl hn
  · refine .inr ⟨g, cap, cur, rfl, hg, (ht.block g (Array.getElem?_eq_some_iff.1 hgg).1 fun h => ?_).trans hgg, rest⟩
    have := hT g h
    omega
theorem IM.belowB {w w' : World} {x mf ml mc : Nat} {cp : Option Addr} {top : Int} {H : Nat → Hd} {D : Nat → Nat → Nat → Nat} (h : IM w x mf ml mc cp top H D) {B : Nat} (hb : Below B w w') (hB : x < B ∧ mf < B ∧ ml < B ∧ mc < B) : IM w' x mf ml mc cp top H D :=
  h.keep (hb.block _ hB.1) (hb.block _ hB.2.1) (hb.block _ hB.2.2.1) (hb.block _ hB.2.2.2)
/-- all other inodes are as they were -/
def OthD (H H' : Nat → Hd) (D D' : Nat → Nat → Nat → Nat) (n : Nat) : Prop := ∀ m, m ≠ n → H' m = H m ∧ D' m = D m
section
variable {w : World} {x mf ml mc : Nat} {cp : Option Addr} {top : Int} {H : Nat → Hd} {D : Nat → Nat → Nat → Nat} {n k st : Nat} {N : Nat → Int} {S : Nat → ByteArray}
theorem lkL_add (N : Nat → Int) (S : Nat → ByteArray) (k : Nat) (i : Int) (s : ByteArray) : lkL (shN N (k / 4)) (shS S (k / 4)) (k % 4) ++ [.int .i64 i, .string s] = lkL (shN (upN N k i) (k / 4)) (shS (upS S k s) (k / 4)) (k % 4 + 1) := by
  show _ = lkL (shN (upN N k i) (k / 4)) (shS (upS S k s) (k / 4)) (k % 4) ++ [.int .i64 (shN (upN N k i) (k / 4) (k % 4)), .string (shS (upS S k s) (k / 4) (k % 4))]
  congr 1
  · refine lkL_same fun p hp => ?_
    unfold shN shS upN upS
    rw [if_neg (by omega), if_neg (by omega)]
    exact ⟨rfl, rfl⟩
  · unfold shN shS upN upS
    rw [if_pos (by omega), if_pos (by omega)]
theorem leE_add (hd : Di H D n k st N S) (i : Int) (s : ByteArray) (hi : encE i s = 0) : leE (shN (upN N k i) (k / 4)) (shS (upS S k s) (k / 4)) (k % 4 + 1) = 0 := leE_all fun p hp => by
  unfold shN shS upN upS
  by_cases c : 4 * (k / 4) + p = k
  · rw [if_pos c, if_pos c]; exact hi
  · rw [if_neg c, if_neg c]; exact hd.ok _ (by omega)
set_option maxRecDepth 100000 in
set_option maxHeartbeats 8000000 in
theorem IM.addOk (h : IM w x mf ml mc cp top H D) (hd : Di H D n k st N S) (hk : k < 16384) (i : Int) (s : ByteArray) (hi : encE i s = 0) (hs : ∀ r, r < k → S r ≠ s) (st' : Nat) : Calls Tryz.prog 24 #[.pointer (some ⟨x, 0, none⟩), .int .i64 (n : Int), .agg #[.int .i64 i, .string s], .int .u64 ((st' : Nat) : Int)] w fun e w' => e = .returned (.int .i64 0) ∧ (∃ H' D', IM w' x mf ml mc cp top H' D' ∧ Di H' D' n (k + 1) st' (upN N k i) (upS S k s) ∧ OthD H H' D D' n) ∧ Turns (fun z => z = ml ∨ z = mf) w w' := by
  have hle := hd.le
  have hlts := h.lts
  obtain ⟨i0, hi0, hz0, hz1, hz2⟩ := info_parts infoLk
  have hzi : ∀ w, (zeroValue 40).run Tryz.prog w = .ok (.agg nf0) w := zero_nf
  have HEN : Hid (∀ V : World, Calls Tryz.prog 49 #[.agg #[.int .i64 i, .string s]] V fun e w' => e = .returned (.tuple #[.string (encT i s), .int .i64 0]) ∧ Below V.heap.size V w') := fun V => by
    have := encode_any i s V
    rw [hi] at this
    exact this
  have HDR : Hid (∀ V, Below w.heap.size w V → Calls Tryz.prog 48 #[.pointer (some ⟨x, 0, none⟩), .int .i64 (n : Int)] V fun e w' => e = .returned (.tuple #[.agg (nfC (n : Int) 2 (H n).l ((64 * k : Nat) : Int) st), .int .i64 0]) ∧ Below V.heap.size V w') := fun V hV => (h.below hV).dirD hd
  have HSE : Hid (∀ V, Below w.heap.size w V → Calls Tryz.prog 50 #[.pointer (some ⟨x, 0, none⟩), .agg (nfC (n : Int) 2 (H n).l ((64 * k : Nat) : Int) st), .string s] V fun e w' => ∃ v, e = .returned (.tuple #[.int .i64 0, v, .int .i64 171]) ∧ w'.ownsRow V.heap.size 54 2 v (inLf k (lastQ k k)) (lkL (shN N (lastQ k k)) (shS S (lastQ k k)) (inLf k (lastQ k k))) ∧ Below V.heap.size V w') := fun V hV => (h.below hV).search hd (H n).l s k ⟨Nat.le_refl _, hs, fun h => absurd h (by omega)⟩ 0 171 (by rw [if_neg (by omega)]) (by rw [if_neg (by omega)])
  have HCT : Hid (∀ V : World, Calls Tryz.prog 51 #[.agg (nfC (n : Int) 2 (H n).l ((64 * k : Nat) : Int) st)] V fun e w' => e = .returned (.int .i64 (k : Int)) ∧ Below V.heap.size V w') := count_any (n : Int) 2 (H n).l k st hd.le
  obtain ⟨y, hy⟩ : ∃ y, y = rsH (hdT (H n) st') (64 * k) (64 * (k + 1)) := ⟨_, rfl⟩
  have HRS : Hid (∀ V, Below w.heap.size w V → Calls Tryz.prog 52 #[.pointer (some ⟨x, 0, none⟩), .int .i64 (n : Int), .int .i64 ((64 * (k + 1) : Nat) : Int), .int .u64 ((st' : Nat) : Int)] V fun e w' => e = .returned (.int .i64 0) ∧ IM w' x mf ml mc cp top (hU H n y) (rsD D n (64 * (k + 1))) ∧ Turns (fun z => z = ml ∨ z = mf) V w') := fun V hV => by
    rw [hy]
    exact (h.below hV).resizeM n hd.n1 hd.n2 (64 * k) (64 * (k + 1)) st' hd.no hd.left hd.s (.inr ⟨hd.kd, by omega⟩) (by omega) (by omega) fun q j hj hz => hd.zero q j hj hz
  have hyp := rsH_parts (H n) st' (64 * k) (64 * (k + 1))
  rw [← hy] at hyp
  have HLY : Hid (∀ V, IM V x mf ml mc cp top (hU H n y) (rsD D n (64 * (k + 1))) → ∀ (a : Option Addr) (c : Nat), IsLks V a (k % 4 + 1) (shN (upN N k i) (k / 4)) (shS (upS S k s) (k / 4)) → Calls Tryz.prog 53 #[.pointer (some ⟨x, 0, none⟩), .int .i64 (n : Int), .int .i64 ((k / 4 : Nat) : Int), .slice a (k % 4 + 1) c, .int .u64 ((st' : Nat) : Int)] V fun e w' => e = .returned (.int .i64 0) ∧ (∃ H' D', IM w' x mf ml mc cp top H' D' ∧ Di H' D' n (k + 1) st' (upN N k i) (upS S k s) ∧ OthD H H' D D' n) ∧ Turns (fun z => z = ml ∨ z = mf) V w') := fun V hV a c hI => by
    have e : hU H n y n = y := hUat _ _ _
    have := hV.layD n (k / 4) hd.n1 hd.n2 (by rw [e, hyp.1, hd.kd]; decide) (by rw [e, hyp.2.1, hd.no]) (64 * (k + 1)) st' (by rw [e, hyp.2.2.1]) (by omega) (by omega) a (k % 4 + 1) c (by omega) hI (leE_add hd i s hi)
    refine this.mono ?_
    rintro e' w' ⟨rfl, hI', ht⟩
    refine ⟨rfl, ⟨_, _, hI', ?_, ?_⟩, ht⟩
    · rw [e]
      exact hd.add hk i s hi st' st' (64 * k) y hy
    · intro m hm
      refine ⟨by rw [hUnot _ _ _ _ hm, hUnot _ _ _ _ hm], by rw [dUnot _ _ _ _ _ hm, rsDnot _ _ _ _ hm]⟩
  have HOW : Hid (∀ (V : World) (B : Nat) (v : Value), V.ownsRow B 54 2 v (inLf k (lastQ k k)) (lkL (shN N (lastQ k k)) (shS S (lastQ k k)) (inLf k (lastQ k k))) → ¬ k % 4 = 0 → V.ownsRow B 54 2 v (k % 4) (lkL (shN N (k / 4)) (shS S (k / 4)) (k % 4))) := fun V B v hv h4 => by
    have e1 : lastQ k k = k / 4 := by unfold lastQ; omega
    have e2 : inLf k (k / 4) = k % 4 := by unfold inLf; omega
    rw [e1, e2] at hv
    exact hv
  have HLA : Hid (lkL (shN N (k / 4)) (shS S (k / 4)) (k % 4) ++ [.int .i64 i, .string s] = lkL (shN (upN N k i) (k / 4)) (shS (upS S k s) (k / 4)) (k % 4 + 1)) := lkL_add N S k i s
  have HX : Hid ((x < w.heap.size ∧ mf < w.heap.size ∧ ml < w.heap.size ∧ mc < w.heap.size) ∧ k % 4 < 4) := ⟨hlts, by omega⟩
  have k1 : (k : Int) < 16384 := by omega
  have hb1 : Below w.heap.size w (w.alloc (.cells #[.int .i64 i, .string s] 54)) := below_new1 _ _
  have p1 : Blk (w.alloc (.cells #[.int .i64 i, .string s] 54)) w.heap.size 54 #[.int .i64 i, .string s] := Blk.new _ _ _
  have HB1 : Hid (_ ∧ _) := ⟨hb1, p1⟩
  have ez : ((64 * k : Nat) : Int) + 64 = ((64 * (k + 1) : Nat) : Int) := by omega
  have zb : ((64 * k : Nat) : Int) ≤ 1048576 := by omega
  have zb0 : (0 : Int) ≤ ((64 * k : Nat) : Int) := by omega
  have eq4 : (k : Int) / 4 = ((k / 4 : Nat) : Int) := by omega
  have er4 : (k : Int) % 4 = ((k % 4 : Nat) : Int) := by omega
  clear h hd hi hs hy hyp hlts hb1 p1
  generalize (H n).l = l at *
  generalize ((64 * k : Nat) : Int) = z at *
  generalize ((64 * (k + 1) : Nat) : Int) = z2 at *
  obtain ⟨q, hq⟩ : ∃ q, q = k / 4 := ⟨_, rfl⟩
  obtain ⟨r, hr⟩ : ∃ r, r = k % 4 := ⟨_, rfl⟩
  rw [← hq] at eq4 HLY HOW HLA
  rw [← hr] at er4 HLY HOW HLA HX
  have r4 : (r : Int) < 4 := by omega
  clear hq hr
  go_enter Tryz.func24, Tryz.ntmps24
  go_wp2_with fail
  generalize (w.alloc (.cells #[.int .i64 i, .string s] 54)) = w1 at *
  refine (HDR.out w1 HB1.out.1).mono ?_
  rintro e w2 ⟨rfl, hb2⟩
  have u1 : Blk (w2.alloc (.cells nf0 40)) w2.heap.size 40 nf0 := Blk.new _ _ _
  have u2 := u1.set (nfC (n : Int) 2 l z st)
  have p2 : Blk ((w2.alloc (.cells nf0 40)).setRow w2.heap.size (nfC (n : Int) 2 l z st)) w.heap.size 54 #[.int .i64 i, .string s] := ((HB1.out.2.below hb2 HB1.out.2.lt).alloc _).other _ (by have := (HB1.out.2.below hb2 HB1.out.2.lt).lt; omega)
  have hb12 := HB1.out.1.trans (hb2.mono HB1.out.1.size)
  have hb3 : Below w.heap.size w ((w2.alloc (.cells nf0 40)).setRow w2.heap.size (nfC (n : Int) 2 l z st)) := below_setRow (hb12.alloc hb12.size _) hb12.size _
  have l0 : ((w2.alloc (.cells nf0 40)).setRow w2.heap.size (nfC (n : Int) 2 l z st)).cell? ⟨w.heap.size, 0, none⟩ = some (.int .i64 i) := (p2.cell 0).trans rfl
  have l1 : ((w2.alloc (.cells nf0 40)).setRow w2.heap.size (nfC (n : Int) 2 l z st)).cell? ⟨w.heap.size, 1, none⟩ = some (.string s) := (p2.cell 1).trans rfl
  have HB3 : Hid (_ ∧ _ ∧ _) := ⟨hb3, p2, u2⟩
  clear hb2 hb12 hb3 p2 u2 HB1 HDR
  go_wp2_with (first
    | (refine wpList_store_row (by rfl) 40 _ _ (by rfl) (w2.heap.size) (nfC (n : Int) 2 l z st) (by rfl) (by rfl) 40 (nf0) (by exact u1) (size_nf.trans (by rfl)) (by rfl) (nf_all _ _ _ _ _) ?_; simp only [Act.put, sgPHNaGiven])
    | fail)
  clear u1 l0 l1
  generalize ((w2.alloc (.cells nf0 40)).setRow w2.heap.size (nfC (n : Int) 2 l z st)) = w3 at *
  refine (HEN.out _).mono ?_
  rintro e w4 ⟨rfl, hb4⟩
  have HB4 : Hid (Below w.heap.size w w4 ∧ Blk w4 w.heap.size 54 #[.int .i64 i, .string s] ∧ Blk w4 w2.heap.size 40 (nfC (n : Int) 2 l z st)) := ⟨HB3.out.1.trans (hb4.mono HB3.out.1.size), HB3.out.2.1.below hb4 HB3.out.2.1.lt, HB3.out.2.2.below hb4 HB3.out.2.2.lt⟩
  have u4 := HB4.out.2.2
  have l1 : w4.cell? ⟨w.heap.size, 1, none⟩ = some (.string s) := (HB4.out.2.1.cell 1).trans rfl
  clear hb4 HB3 HEN
  go_wp2_with (first
    | (refine wpList_load_row (by rfl) 40 _ (by rfl) (w2.heap.size) (by rfl) 40 (nfC (n : Int) 2 l z st) (0, 0) _ (by exact u4) Tryz.underlying40 (by rfl) (size_nf.trans (by rfl)) ?_; simp only [Act.put, sgPHNaGiven])
    | fail)
  refine (HSE.out w4 HB4.out.1).mono ?_
  rintro e w5 ⟨v, rfl, hv5, hb5⟩
  have HB5 : Hid (Below w.heap.size w w5 ∧ Blk w5 w.heap.size 54 #[.int .i64 i, .string s] ∧ Blk w5 w2.heap.size 40 (nfC (n : Int) 2 l z st) ∧ w5.ownsRow w.heap.size 54 2 v (inLf k (lastQ k k)) (lkL (shN N (lastQ k k)) (shS S (lastQ k k)) (inLf k (lastQ k k)))) := ⟨HB4.out.1.trans (hb5.mono HB4.out.1.size), HB4.out.2.1.below hb5 HB4.out.2.1.lt, HB4.out.2.2.below hb5 HB4.out.2.2.lt, kown_mono hv5 HB4.out.1.size⟩
  have u5 := HB5.out.2.2.1
  clear hb5 hv5 HB4 HSE u4 l1
  go_wp2_with (first
    | (refine wpList_load_row (by rfl) 40 _ (by rfl) (w2.heap.size) (by rfl) 40 (nfC (n : Int) 2 l z st) (0, 0) _ (by exact u5) Tryz.underlying40 (by rfl) (size_nf.trans (by rfl)) ?_; simp only [Act.put, sgPHNaGiven])
    | fail)
  refine (HCT.out _).mono ?_
  rintro e w6 ⟨rfl, hb6⟩
  have HB6 : Hid (Below w.heap.size w w6 ∧ Blk w6 w.heap.size 54 #[.int .i64 i, .string s] ∧ Blk w6 w2.heap.size 40 (nfC (n : Int) 2 l z st) ∧ w6.ownsRow w.heap.size 54 2 v (inLf k (lastQ k k)) (lkL (shN N (lastQ k k)) (shS S (lastQ k k)) (inLf k (lastQ k k)))) := ⟨HB5.out.1.trans (hb6.mono HB5.out.1.size), HB5.out.2.1.below hb6 HB5.out.2.1.lt, HB5.out.2.2.1.below hb6 HB5.out.2.2.1.lt, kownBel HB5.out.2.2.2 hb6⟩
  have u6 := (nf_cs HB6.out.2.2.1).2.2.2.1
  clear hb6 HB5 HCT u5
  by_cases hr0 : r = 0
  · subst hr0
    have HVV : Hid (w6.ownsRow w.heap.size 54 2 (.slice none 0 0) 0 (lkL (shN N q) (shS S q) 0)) := World.ownsRow_nil _ _ _ _
    go_wp2_with fail
    refine (HRS.out w6 HB6.out.1).mono ?_
    rintro e w7 ⟨rfl, hI7, ht7⟩
    have HB7 : Hid (Turns (fun z => z = ml ∨ z = mf) w w7 ∧ IM w7 x mf ml mc cp top (hU H n y) (rsD D n (64 * (k + 1))) ∧ w7.ownsRow w.heap.size 54 2 (.slice none 0 0) 0 (lkL (shN N q) (shS S q) 0)) := ⟨(Turns.bel HB6.out.1).tr ht7, hI7, kownTurn HVV.out ht7 (fun b hb => by have := HX.out.1; rcases hb with rfl | rfl <;> omega)⟩
    have p7 : Blk w7 w.heap.size 54 #[.int .i64 i, .string s] := (ht7.block _ HB6.out.2.1.lt (fun hb => by have := HX.out.1; rcases hb with hb | hb <;> omega)).trans HB6.out.2.1
    have l0 : w7.cell? ⟨w.heap.size, 0, none⟩ = some (.int .i64 i) := (p7.cell 0).trans rfl
    have l1 : w7.cell? ⟨w.heap.size, 1, none⟩ = some (.string s) := (p7.cell 1).trans rfl
    have hw7 := HB7.out.1.size
    have HOWN : Hid ((w7.alloc (.cells #[.int .i64 i, .string s] 54)).ownsRow w.heap.size 54 2 (.slice none 0 0) 0 (lkL (shN N q) (shS S q) 0)) := HB7.out.2.2.alloc _
    have HV2 := HOWN.out.lt
    have hbA : Below w.heap.size w7 (w7.alloc (.cells #[.int .i64 i, .string s] 54)) := (Below.refl _ _).alloc hw7 _
    have hsz : w.heap.size ≤ (w7.alloc (.cells #[.int .i64 i, .string s] 54)).heap.size := Nat.le_trans hw7 (by simp)
    have hml : 0 + 1 ≤ maxLen := Nat.le_trans (by omega : 0 + 1 ≤ 5) (by decide)
    clear ht7 hI7 p7 HB6 HRS
    go_wp2_with (first
      | (at_builtin; refine wpList_append_own _ rfl _ _ 151 rfl w.heap.size 54 i0 (.agg #[.int .i64 0, .string ⟨#[]⟩]) 2 24 Tryz.underlying151 hi0 hz0 hz1 hz2 rfl (by decide) _ _ _ rfl HOWN.out ⟨w7.heap.size, 0, none⟩ 1 1 [.int .i64 i, .string s] rfl rfl (cells_new2L w7 (.int .i64 i) (.string s) 54) (by simp [Value.oneCell']) hml (by omega) (by simpa using hsz) ?_)
      | fail)
    intro v' w8 hown' hgrow _
    have hb8 : Below w.heap.size w7 w8 := hbA.grown hgrow hsz (fun q hq => (HV2 q hq).1)
    rw [HLA.out] at hown'
    obtain ⟨a, cc, rfl, hI, hcc⟩ := own_lks hown'
    have hI8 := HB7.out.2.1.belowB hb8 HX.out.1
    have H8 := HLY.out w8 hI8 a cc
    have HE : Hid (Turns (fun z => z = ml ∨ z = mf) w w8) := ⟨hb8.os.trans HB7.out.1.os, hb8.tape.trans HB7.out.1.tape, hb8.output.trans HB7.out.1.output, Nat.le_trans HB7.out.1.size hb8.size, fun b hb hn => (hb8.block b hb).trans (HB7.out.1.block b hb hn)⟩
    have H9 := H8 hI
    clear HOWN HV2 hgrow hbA hown' hb8 hI8 H8 hI HLY HB7 l0 l1 hcc
    go_wp2_with fail
    refine H9.mono ?_
    rintro e w9 ⟨rfl, hI9, ht9⟩
    have HF : Hid (_ ∧ _) := ⟨hI9, HE.out.tr ht9⟩
    clear hI9 ht9 H9 HE
    go_wp2_with fail
    go_ret
    exact ⟨rfl, HF.out.1, HF.out.2⟩
  · have HVV : Hid (w6.ownsRow w.heap.size 54 2 v r (lkL (shN N q) (shS S q) r)) := HOW.out w6 w.heap.size v HB6.out.2.2.2 hr0
    have r0 : ((r : Int) == 0) = false := by simp; omega
    go_wp2_with fail
    refine (HRS.out w6 HB6.out.1).mono ?_
    rintro e w7 ⟨rfl, hI7, ht7⟩
    have HB7 : Hid (Turns (fun z => z = ml ∨ z = mf) w w7 ∧ IM w7 x mf ml mc cp top (hU H n y) (rsD D n (64 * (k + 1))) ∧ w7.ownsRow w.heap.size 54 2 v r (lkL (shN N q) (shS S q) r)) := ⟨(Turns.bel HB6.out.1).tr ht7, hI7, kownTurn HVV.out ht7 (fun b hb => by have := HX.out.1; rcases hb with rfl | rfl <;> omega)⟩
    have p7 : Blk w7 w.heap.size 54 #[.int .i64 i, .string s] := (ht7.block _ HB6.out.2.1.lt (fun hb => by have := HX.out.1; rcases hb with hb | hb <;> omega)).trans HB6.out.2.1
    have l0 : w7.cell? ⟨w.heap.size, 0, none⟩ = some (.int .i64 i) := (p7.cell 0).trans rfl
    have l1 : w7.cell? ⟨w.heap.size, 1, none⟩ = some (.string s) := (p7.cell 1).trans rfl
    have hw7 := HB7.out.1.size
    have HOWN : Hid ((w7.alloc (.cells #[.int .i64 i, .string s] 54)).ownsRow w.heap.size 54 2 v r (lkL (shN N q) (shS S q) r)) := HB7.out.2.2.alloc _
    have HV2 := HOWN.out.lt
    have hbA : Below w.heap.size w7 (w7.alloc (.cells #[.int .i64 i, .string s] 54)) := (Below.refl _ _).alloc hw7 _
    have hsz : w.heap.size ≤ (w7.alloc (.cells #[.int .i64 i, .string s] 54)).heap.size := Nat.le_trans hw7 (by simp)
    have hml : r + 1 ≤ maxLen := Nat.le_trans (by omega : r + 1 ≤ 5) (by decide)
    clear ht7 hI7 p7 HB6 HRS
    go_wp2_with (first
      | (at_builtin; refine wpList_append_own _ rfl _ _ 151 rfl w.heap.size 54 i0 (.agg #[.int .i64 0, .string ⟨#[]⟩]) 2 24 Tryz.underlying151 hi0 hz0 hz1 hz2 rfl (by decide) _ _ _ rfl HOWN.out ⟨w7.heap.size, 0, none⟩ 1 1 [.int .i64 i, .string s] rfl rfl (cells_new2L w7 (.int .i64 i) (.string s) 54) (by simp [Value.oneCell']) hml (by omega) (by simpa using hsz) ?_)
      | fail)
    intro v' w8 hown' hgrow _
    have hb8 : Below w.heap.size w7 w8 := hbA.grown hgrow hsz (fun q hq => (HV2 q hq).1)
    rw [HLA.out] at hown'
    obtain ⟨a, cc, rfl, hI, hcc⟩ := own_lks hown'
    have hI8 := HB7.out.2.1.belowB hb8 HX.out.1
    have H8 := HLY.out w8 hI8 a cc
    have HE : Hid (Turns (fun z => z = ml ∨ z = mf) w w8) := ⟨hb8.os.trans HB7.out.1.os, hb8.tape.trans HB7.out.1.tape, hb8.output.trans HB7.out.1.output, Nat.le_trans HB7.out.1.size hb8.size, fun b hb hn => (hb8.block b hb).trans (HB7.out.1.block b hb hn)⟩
    have H9 := H8 hI
    clear HOWN HV2 hgrow hbA hown' hb8 hI8 H8 hI HLY HB7 l0 l1 hcc
    go_wp2_with fail
    refine H9.mono ?_
    rintro e w9 ⟨rfl, hI9, ht9⟩
    have HF : Hid (_ ∧ _) := ⟨hI9, HE.out.tr ht9⟩
    clear hI9 ht9 H9 HE
    go_wp2_with fail
    go_ret
    exact ⟨rfl, HF.out.1, HF.out.2⟩
end
end Go.Proofs.YtimjggkdpmgpjaaGreatDoor

namespace Go.Proofs.YtimjggkdpmgpjaaGreatDoor
open Go Go.RowKit
set_option linter.unusedSimpArgs false
set_option linter.unusedVariables false
section
variable {w : World} {xp : Value} {a : Int}
set_option maxRecDepth 100000 in
theorem find_err (s : ByteArray) (er : Int) (her : er ≠ 0) (HD : ∀ V, Below w.heap.size w V → Calls Tryz.prog 48 #[xp, .int .i64 a] V fun e w' => e = .returned (.tuple #[.agg nf0, .int .i64 er]) ∧ Below V.heap.size V w') : Calls Tryz.prog 63 #[xp, .int .i64 a, .string s] w fun e w' => e = .returned (.tuple #[.int .i64 0, .int .i64 0, .int .i64 er]) ∧ Below w.heap.size w w' := by
  have hzi : ∀ w, (zeroValue 40).run Tryz.prog w = .ok (.agg nf0) w := zero_nf
  have b0 : (er != 0) = true := bne_iff_ne.2 her
  have hb1 : Below w.heap.size w w := Below.refl _ _
  have H1 := HD _ hb1
  clear HD her
  go_enter Tryz.func63, Tryz.ntmps63
  go_wp2_with fail
  refine H1.mono ?_
  rintro e w2 ⟨rfl, hb2⟩
  have u1 : Blk (w2.alloc (.cells nf0 40)) w2.heap.size 40 nf0 := Blk.new _ _ _
  have u2 := u1.set nf0
  have hb12 := hb1.trans (hb2.mono hb1.size)
  have HB : Hid (Below w.heap.size w ((w2.alloc (.cells nf0 40)).setRow w2.heap.size nf0)) := below_setRow (hb12.alloc hb12.size _) hb12.size _
  clear hb1 hb2 hb12 H1
  go_wp2_with (first
    | (refine wpList_store_row (by rfl) 40 _ _ (by rfl) (w2.heap.size) (nf0) (by rfl) (by rfl) 40 (nf0) (by exact u1) (size_nf.trans (by rfl)) (by rfl) (nf_all _ _ _ _ _) ?_; simp only [Act.put, sgPHNaGiven])
    | fail)
  go_ret3
  exact ⟨rfl, HB.out⟩
end
end Go.Proofs.YtimjggkdpmgpjaaGreatDoor

namespace Go.Proofs.YtimjggkdpmgpjaaGreatDoor
open Go Go.RowKit
set_option linter.unusedSimpArgs false
set_option linter.unusedVariables false
section
variable {w : World} {x mf ml mc : Nat} {cp : Option Addr} {top : Int} {H : Nat → Hd} {D : Nat → Nat → Nat → Nat} {n k st : Nat} {N : Nat → Int} {S : Nat → ByteArray}
set_option maxRecDepth 100000 in
set_option maxHeartbeats 4000000 in
theorem IM.findD (h : IM w x mf ml mc cp top H D) (hd : Di H D n k st N S) (s : ByteArray) (hs : isName s.data.toList = true) (p : Nat) (hp : FirstN S k p s) (r0 r1 er : Int) (hr : r0 = if p < k then N p else 0) (hr1 : r1 = if p < k then (p : Int) else 0) (her : er = if p < k then 0 else 171) : Calls Tryz.prog 63 #[.pointer (some ⟨x, 0, none⟩), .int .i64 (n : Int), .string s] w fun e w' => e = .returned (.tuple #[.int .i64 r0, .int .i64 r1, .int .i64 er]) ∧ Below w.heap.size w w' := by
  have hle := hd.le
  have HDR := h.dirD hd
  have HSE : Hid (∀ V, Below w.heap.size w V → Calls Tryz.prog 50 #[.pointer (some ⟨x, 0, none⟩), .agg (nfC (n : Int) 2 (H n).l ((64 * k : Nat) : Int) st), .string s] V fun e w' => ∃ v, e = .returned (.tuple #[.int .i64 r1, v, .int .i64 er]) ∧ w'.ownsRow V.heap.size 54 2 v (inLf k (lastQ k p)) (lkL (shN N (lastQ k p)) (shS S (lastQ k p)) (inLf k (lastQ k p))) ∧ Below V.heap.size V w') := fun V hV => (h.below hV).search hd (H n).l s p hp r1 er hr1 her
  have HCK : Hid (∀ V : World, Calls Tryz.prog 62 #[.string s] V fun e w' => e = .returned (.int .i64 0) ∧ Below V.heap.size V w') := fun V => by
    have := qcheck_any s V
    unfold nameE at this
    rw [if_pos hs] at this
    exact this
  have hzi : ∀ w, (zeroValue 40).run Tryz.prog w = .ok (.agg nf0) w := zero_nf
  clear h hd hs
  generalize (H n).l = l at *
  generalize ((64 * k : Nat) : Int) = z at *
  go_enter Tryz.func63, Tryz.ntmps63
  go_wp2_with fail
  refine HDR.mono ?_
  rintro e w2 ⟨rfl, hb2⟩
  have u1 : Blk (w2.alloc (.cells nf0 40)) w2.heap.size 40 nf0 := Blk.new _ _ _
  have u2 := u1.set (nfC (n : Int) 2 l z st)
  have HB : Hid (Below w.heap.size w ((w2.alloc (.cells nf0 40)).setRow w2.heap.size (nfC (n : Int) 2 l z st))) := below_setRow (hb2.alloc hb2.size _) hb2.size _
  clear hb2 HDR
  go_wp2_with (first
    | (refine wpList_store_row (by rfl) 40 _ _ (by rfl) (w2.heap.size) (nfC (n : Int) 2 l z st) (by rfl) (by rfl) 40 (nf0) (by exact u1) (size_nf.trans (by rfl)) (by rfl) (nf_all _ _ _ _ _) ?_; simp only [Act.put, sgPHNaGiven])
    | fail)
  refine (HCK.out _).mono ?_
  rintro e w3 ⟨rfl, hb3⟩
  have u3 := u2.below hb3 u2.lt
  have HB3 : Hid (Below w.heap.size w w3) := HB.out.trans (hb3.mono HB.out.size)
  have H3 := HSE.out w3 HB3.out
  clear hb3 HB u1 u2
  go_wp2_with (first
    | (refine wpList_load_row (by rfl) 40 _ (by rfl) (w2.heap.size) (by rfl) 40 (nfC (n : Int) 2 l z st) (0, 0) _ (by exact u3) Tryz.underlying40 (by rfl) (size_nf.trans (by rfl)) ?_; simp only [Act.put, sgPHNaGiven])
    | fail)
  refine H3.mono ?_
  rintro e w4 ⟨v, rfl, hv, hb4⟩
  have HB4 : Hid (Below w.heap.size w w4) := HB3.out.trans (hb4.mono HB3.out.size)
  clear hb4 HB3 u3 H3
  by_cases hpk : p < k
  · rw [if_pos hpk] at hr hr1 her
    have hq : lastQ k p = p / 4 := by unfold lastQ; omega
    obtain ⟨r, hr4⟩ : ∃ r, r = p % 4 := ⟨_, rfl⟩
    have hrm : r < inLf k (lastQ k p) := by rw [hq]; unfold inLf; omega
    obtain ⟨a, cc, rfl, hI, hcc⟩ := own_lks hv
    obtain ⟨g, rfl, hg, hc⟩ := hI (by omega)
    have c0 : w4.cell? ⟨g, r * 2, none⟩ = some (.int .i64 (N p)) := by
      rw [(hc r hrm).1]
      unfold shN
      rw [hq, show 4 * (p / 4) + r = p by omega]
    have d2 : (p : Int) % 4 = (r : Int) := by omega
    have r4 : r < 4 := by omega
    have p1 : (p : Int) ≤ 16384 := by omega
    have rm2 : (r : Int) < ((inLf k (lastQ k p) : Nat) : Int) := by omega
    subst hr hr1 her
    clear hc hv hI hpk hq hrm hr4 hp hle hcc
    generalize inLf k (lastQ k p) = m at *
    go_wp2_with fail
    go_ret3
    exact ⟨rfl, HB4.out⟩
  · rw [if_neg hpk] at hr hr1 her
    subst hr hr1 her
    clear hv hpk hp
    go_wp2_with fail
    go_ret3
    exact ⟨rfl, HB4.out⟩
end
end Go.Proofs.YtimjggkdpmgpjaaGreatDoor

namespace Go.Proofs.YtimjggkdpmgpjaaGreatDoor
open Go Go.RowKit
set_option linter.unusedSimpArgs false
set_option linter.unusedVariables false
section
variable {w w' : World} {x mf ml mc : Nat} {cp : Option Addr} {top : Int} {H : Nat → Hd} {D : Nat → Nat → Nat → Nat}
set_option maxRecDepth 100000 in
set_option maxHeartbeats 8000000 in
theorem IM.free (h : IM w x mf ml mc cp top H D) (n : Nat) (h1 : 1 ≤ n) (h2 : n ≤ 4096) (hk : (H n).k = 0) (hm : ∀ m, 1 ≤ m → m < n → (H m).k ≠ 0) : Calls Tryz.prog 44 #[.pointer (some ⟨x, 0, none⟩)] w fun e w' => e = .returned (.tuple #[.int .i64 (n : Int), .agg (hdC (H n)), .int .i64 0]) ∧ Below w.heap.size w w' := by
  have hz := zero_ft
  have hz2 := zero_hd
  have HFF : Hid (∀ i : Nat, i < 1024 → ∀ V, Below w.heap.size w V → Calls Tryz.prog 72 #[.pointer (some ⟨x, 0, none⟩), .int .i64 (i : Int)] V fun e w' => e = .returned (.tuple #[.agg (ftC (foH H i)), .int .i64 0]) ∧ Below V.heap.size V w') := fun i hi V hV => (h.below hV).four i hi
  have HLT : Hid (∀ w : World, Calls Tryz.prog 71 #[.int .i64 4096] w fun e w2 => e = .returned (.int .i64 1024) ∧ w2 = w) := leavesTo_any 4096 (by decide) (by decide)
  have HNU : Hid (∀ i j : Nat, i < 1024 → j < 4 → ∀ w : World, Calls Tryz.prog 74 #[.int .i64 (i : Int), .int .i64 (j : Int)] w fun e w2 => e = .returned (.int .i64 ((i : Int) * 4 + (j : Int) + 1)) ∧ w2 = w) := fun i j h1 h2 => numberAt_any (i : Int) (j : Int) (by omega) (by omega) (by omega) (by omega)
  have HN : Hid (1 ≤ n ∧ n ≤ 4096 ∧ (H n).k = 0 ∧ ∀ m, 1 ≤ m → m < n → (H m).k ≠ 0) := ⟨h1, h2, hk, hm⟩
  have HB1 : Hid (Blk (w.alloc (.cells (hdC hd00) 140)) w.heap.size 140 (hdC hd00) ∧ Below w.heap.size w (w.alloc (.cells (hdC hd00) 140))) := ⟨Blk.new _ _ _, below_new1 _ _⟩
  clear h h1 h2 hk hm
  go_enter Tryz.func44, Tryz.ntmps44
  go_wp2_with fail
  generalize (w.alloc (.cells (hdC hd00) 140)) = w1 at *
  refine (HLT.out _).mono ?_
  rintro e w9 ⟨rfl, hw9⟩
  subst w9
  clear HLT
  go_wp2_with fail
  go_loopw [11] (fun t wr => Hid (∃ i : Nat, 4 * i < n ∧ t = .int .i64 (i : Int) ∧ Blk wr w.heap.size 140 (hdC hd00) ∧ Below w.heap.size w wr)) (fun t _ => 1024 - (intOf t).toNat)
  case atStart => exact ⟨0, by have := HN.out.1; omega, rfl, HB1.out.1, HB1.out.2⟩
  case round =>
    obtain ⟨i, hi, rfl, r1, hb1⟩ := Hid.out hrel
    clear hrel HB1
    have i1 : (i : Int) < 1024 := by have := HN.out.2.1; omega
    have HF1 := HFF.out i (by omega) _ hb1
    have HI : Hid (4 * i < n ∧ i < 1024) := ⟨hi, by omega⟩
    have HR : Hid (Blk wr w.heap.size 140 (hdC hd00) ∧ Below w.heap.size w wr) := ⟨r1, hb1⟩
    clear hi r1 hb1
    go_wp2_with fail
    refine HF1.mono ?_
    rintro e w2 ⟨rfl, hb2⟩
    have f3 : Blk (w2.alloc (.cells (ftC ft00) 183)) w2.heap.size 183 (ftC ft00) := Blk.new _ _ _
    have f3' := f3.set (ftC (foH H i))
    have HR3 : Hid (Blk ((w2.alloc (.cells (ftC ft00) 183)).setRow w2.heap.size (ftC (foH H i))) w.heap.size 140 (hdC hd00) ∧ Below w.heap.size w ((w2.alloc (.cells (ftC ft00) 183)).setRow w2.heap.size (ftC (foH H i)))) := by
      have hb23 : Below w2.heap.size w2 ((w2.alloc (.cells (ftC ft00) 183)).setRow w2.heap.size (ftC (foH H i))) := below_setRow (below_new1 _ _) (Nat.le_refl _) _
      have r2 := HR.out.1.below hb2 HR.out.1.lt
      have hb12 := HR.out.2.trans (hb2.mono HR.out.2.size)
      exact ⟨r2.below hb23 r2.lt, hb12.trans (hb23.mono hb12.size)⟩
    clear hb2 HR HF1
    go_wp2_with (first
      | (refine wpList_store_row (by rfl) 183 _ _ (by rfl) (w2.heap.size) (ftC (foH H i)) (by rfl) (by rfl) 183 (ftC ft00) (by exact f3) (sizeFt.trans (by rw [ftC_size])) (by simp only [ftC_size]) (ftC_all _) ?_; simp only [Act.put, sgPHNaGiven])
      | (refine wpList_load_rowg (by rfl) 183 _ (by rfl) (w2.heap.size) (by rfl) 183 (ftC (foH H i)) (0, 0) _ (by exact f3') Tryz.underlying183 (by rfl) (sizeFt.trans (by rw [ftC_size])) ?_; simp only [Act.put, sgPHNaGiven])
      | fail)
    clear f3 f3'
    generalize ((w2.alloc (.cells (ftC ft00) 183)).setRow w2.heap.size (ftC (foH H i))) = w3 at *
    go_loopw [25] (fun t wr => Hid (∃ j : Nat, j ≤ 4 ∧ 4 * i + j < n ∧ t = .int .i64 (j : Int) ∧ Blk wr w.heap.size 140 (hdC hd00) ∧ Below w.heap.size w wr)) (fun t _ => 4 - (intOf t).toNat)
    case atStart => exact ⟨0, by omega, HI.out.1, rfl, HR3.out.1, HR3.out.2⟩
    case round =>
      obtain ⟨j, hj, hjn, rfl, r1, hb1⟩ := Hid.out hrel
      clear hrel HR3
      by_cases hj4 : j < 4
      · have j1 : (j : Int) < 4 := by omega
        have hix : ∀ w, (Instr.index 183 (.agg (ftC (foH H i))) (.int .i64 (j : Int))).run Tryz.prog w = .ok (.agg (hdC (foH H i j))) w := fun w => run_index_ft (foH H i) j hj4 w
        have HJ : Hid (j < 4 ∧ 4 * i + j < n) := ⟨hj4, hjn⟩
        have q4 : Blk (wr.alloc (.cells (hdC hd00) 140)) wr.heap.size 140 (hdC hd00) := Blk.new _ _ _
        have q4' := q4.set (hdC (foH H i j))
        have HR4 : Hid (Blk ((wr.alloc (.cells (hdC hd00) 140)).setRow wr.heap.size (hdC (foH H i j))) w.heap.size 140 (hdC hd00) ∧ Below w.heap.size w ((wr.alloc (.cells (hdC hd00) 140)).setRow wr.heap.size (hdC (foH H i j))) ∧ w.heap.size < wr.heap.size) := by
          have hb34 : Below wr.heap.size wr ((wr.alloc (.cells (hdC hd00) 140)).setRow wr.heap.size (hdC (foH H i j))) := below_setRow (below_new1 _ _) (Nat.le_refl _) _
          exact ⟨r1.below hb34 r1.lt, hb1.trans (hb34.mono hb1.size), r1.lt⟩
        have HIU : Hid (∀ w : World, Calls Tryz.prog 73 #[.agg (hdC (foH H i j))] w fun e w' => e = .returned (.bool ((foH H i j).k != 0)) ∧ Below w.heap.size w w') := inUse_any (foH H i j)
        clear r1 hb1 hj hjn hj4
        go_wp2_with (first
          | (refine wpList_store_row (by rfl) 140 _ _ (by rfl) (wr.heap.size) (hdC (foH H i j)) (by rfl) (by rfl) 140 (hdC hd00) (by exact q4) (sizeHd.trans (by rw [hdC_size])) (by simp only [hdC_size]) (hdC_all _) ?_; simp only [Act.put, sgPHNaGiven])
          | (refine wpList_load_rowg (by rfl) 140 _ (by rfl) (wr.heap.size) (by rfl) 140 (hdC (foH H i j)) (0, 0) _ (by exact q4') Tryz.underlying140 (by rfl) (sizeHd.trans (by rw [hdC_size])) ?_; simp only [Act.put, sgPHNaGiven])
          | fail)
        clear q4 hix
        generalize ((wr.alloc (.cells (hdC hd00) 140)).setRow wr.heap.size (hdC (foH H i j))) = w4 at *
        refine (HIU.out w4).mono ?_
        rintro e w5 ⟨rfl, hb5⟩
        have q5 := q4'.below hb5 q4'.lt
        have HR5 : Hid (Blk w5 w.heap.size 140 (hdC hd00) ∧ Below w.heap.size w w5 ∧ w.heap.size < wr.heap.size) := ⟨HR4.out.1.below hb5 HR4.out.1.lt, HR4.out.2.1.trans (hb5.mono HR4.out.2.1.size), HR4.out.2.2⟩
        clear hb5 HR4 HIU q4'
        by_cases hk : (foH H i j).k = 0
        · have hkb : ((foH H i j).k != 0) = false := by rw [hk]; rfl
          have HNJ : Hid ((n : Int) = (i : Int) * 4 + (j : Int) + 1 ∧ foH H i j = H n) := by
            have e1 : n = 4 * i + j + 1 := by
              have := HN.out.2.2.2 (4 * i + j + 1) (by omega)
              have := HJ.out.2
              by_cases e : 4 * i + j + 1 < n
              · exact absurd hk (HN.out.2.2.2 (4 * i + j + 1) (by omega) e)
              · omega
            exact ⟨by omega, by rw [e1]; rfl⟩
          rw [hkb]
          clear hk hkb
          go_wp2_with fail
          have q5d : Blk w5.drew wr.heap.size 140 (hdC (foH H i j)) := q5
          have r5d : Blk w5.drew w.heap.size 140 (hdC hd00) := HR5.out.1
          have HB5d : Hid (Below w.heap.size w w5.drew ∧ w.heap.size < wr.heap.size) := ⟨HR5.out.2.1.drew, HR5.out.2.2⟩
          have HNU1 := HNU.out i j HI.out.2 HJ.out.1
          clear q5 HR5 HFF HNU
          refine wp_region_partsS (fun W => Blk W wr.heap.size 140 (hdC (foH H i j))) [([0, 1], 3, true), ([], 2, false), ([], 4, false), ([], 5, false)] [6] [] (by kernel_rfl) (by kernel_rfl) q5d (partsI_yield ?_)
          generalize w5.drew = w6 at *
          simp only [sgLHNaGiven]
          go_wp2_with fail
          refine ⟨rfl, _, .agg (hdC (foH H i j)), rfl, kyields_load (by rfl) 140 _ (by rfl) wr.heap.size 45 (hdF (foH H i j)) (by rfl) _ 140 (fun W hW => hW) Tryz.underlying140 rfl sizeHd, partsI_force ?_⟩
          simp only [Act.put, sgPHNaGiven]
          simp only [sgLHNaGiven]
          go_wp2_with fail
          refine (HNU1 _).mono ?_
          rintro e w9 ⟨rfl, hw9⟩
          subst w9
          go_wp2_with fail
          refine ⟨rfl, q5d, partsI_force ?_⟩
          simp only [sgLHNaGiven]
          go_wp2_with fail
          refine ⟨rfl, q5d, partsI_force ?_⟩
          simp only [sgLHNaGiven]
          (refine wpList_store_row (by rfl) 140 _ _ (by rfl) (w.heap.size) (hdC (foH H i j)) (by rfl) (by rfl) 140 (hdC hd00) (by exact r5d) (sizeHd.trans (by rw [hdC_size])) (by simp only [hdC_size]) (hdC_all _) ?_; simp only [Act.put, sgPHNaGiven])
          go_wp2_with fail
          refine ⟨rfl, (q5d.other _ (by have := HB5d.out.2; omega)), partsI_last ?_⟩
          simp only [sgLHNaGiven]
          go_wp2_with fail
          refine ⟨rfl, ?_⟩
          go_wp2_with fail
          try simp only [Exit.inBlock, Exit.then]
          refine bodyPost_ret (res_tct Tryz.results44 _ _ (w.heap.size) 140 (hdC (foH H i j)) (0, 0) _ rfl (r5d.set _) Tryz.underlying140 rfl (sizeHd.trans (by rw [hdC_size]))) rfl ?_
          exact ⟨by rw [HNJ.out.1, ← HNJ.out.2]; rfl, below_setRow HB5d.out.1 (Nat.le_refl _) _⟩
        · have hkb : ((foH H i j).k != 0) = true := by simp [hk]
          have HNX : Hid (4 * i + (j + 1) < n) := by
            have := HJ.out.2
            by_cases e : n = 4 * i + j + 1
            · exact absurd (by rw [show foH H i j = H n by rw [e]; rfl]; exact HN.out.2.2.1) hk
            · show 4 * i + (j + 1) < n
              omega
          rw [hkb]
          clear hk hkb q5
          go_wp2_with fail
          go_roundw
          case rel => exact ⟨j + 1, by have := HJ.out.1; omega, HNX.out, by first | rfl | go_num | simp, HR5.out.1, HR5.out.2.1⟩
          case measure => simp [intOf]; have := HJ.out; omega
      · obtain rfl : j = 4 := by omega
        have HR6 : Hid (Blk wr w.heap.size 140 (hdC hd00) ∧ Below w.heap.size w wr ∧ 4 * (i + 1) < n) := ⟨r1, hb1, by omega⟩
        clear r1 hb1 hj hjn hj4
        go_wp2_with fail
        go_roundw
        case rel => exact ⟨i + 1, HR6.out.2.2, by first | rfl | go_num | simp, HR6.out.1, HR6.out.2.1⟩
        case measure => simp [intOf]; have := HI.out; omega
end
end Go.Proofs.YtimjggkdpmgpjaaGreatDoor

namespace Go.Proofs.YtimjggkdpmgpjaaGreatDoor
open Go Go.RowKit
set_option linter.unusedSimpArgs false
set_option linter.unusedVariables false
theorem Turns.cells {S : Nat → Prop} (b : Nat) (hS : S b) (vs : List Value) (k : Nat) (w w' : World) (h : Turns S w w') : Turns S w (w'.setCells b k vs) := by
  induction vs generalizing k w' with
  | nil => exact h
  | cons v vs ih => exact ih (k + 1) _ (h.tr (Turns.cell w' b k v hS))
section
variable {w w' : World} {x mf ml mc : Nat} {cp : Option Addr} {top : Int} {H : Nat → Hd} {D : Nat → Nat → Nat → Nat}
end
end Go.Proofs.YtimjggkdpmgpjaaGreatDoor

namespace Go.Proofs.YtimjggkdpmgpjaaGreatDoor
open Go Go.RowKit
set_option linter.unusedSimpArgs false
set_option linter.unusedVariables false
theorem Turns.kept {V w' : World} {mf x : Nat} (h : Keeps mf V w') : Turns (fun z => z = x ∨ z = mf) V w' := ⟨h.1.os, h.1.tape, h.1.output, h.1.size, fun k hk hn => h.2 k (fun e => hn (.inr e)) hk⟩
section
variable {w w' : World} {x mf ml mc : Nat} {cp : Option Addr} {top : Int} {H : Nat → Hd} {D : Nat → Nat → Nat → Nat}
theorem IM.setTop (h : IM w x mf ml mc cp top H D) (t : Int) : IM (w.setCell ⟨x, 36, none⟩ (.int .i64 t)) x mf ml mc cp t H D := by
  obtain ⟨M, m1, m2⟩ := h.fm
  obtain ⟨M', l1, l2⟩ := h.lm
  obtain ⟨c, hc⟩ := h.cm
  have hx : Blk (w.setCell ⟨x, 36, none⟩ (.int .i64 t)) x 136 (ixC cp 0 rf0 0 t mf ml mc) := by
    have := h.ix.put 36 (.int .i64 t)
    rw [ix_top] at this
    exact this
  exact ⟨hx, ⟨M, m1.keep (Below.heap_setCell _ _ _ _ (Ne.symm h.ne.1)), m2⟩, ⟨M', l1.keep (Below.heap_setCell _ _ _ _ (Ne.symm h.ne.2.1)), l2⟩, ⟨c, (Below.heap_setCell _ _ _ _ (Ne.symm h.ne.2.2.1)).trans hc⟩, h.ne⟩
set_option maxRecDepth 100000 in
set_option maxHeartbeats 8000000 in
theorem IM.make (h : IM w x mf ml mc cp top H D) (n : Nat) (h1 : 1 ≤ n) (h2 : n ≤ 4096) (hk : (H n).k = 0) (hm : ∀ m, 1 ≤ m → m < n → (H m).k ≠ 0) (kd : Int) (hkd : kd = 1 ∨ kd = 2) (st : Nat) (ht0 : 0 ≤ top ∧ top ≤ 4096) : Calls Tryz.prog 22 #[.pointer (some ⟨x, 0, none⟩), .int .i64 kd, .int .u64 ((st : Nat) : Int)] w fun e w' => e = .returned (.tuple #[.int .i64 (n : Int), .int .i64 0]) ∧ IM w' x mf ml mc cp (max top (n : Int)) (hU H n (hdN (H n) (n : Int) kd 1 0 st)) D ∧ Turns (fun z => z = x ∨ z = mf) w w' := by
  have hz2 := zero_hd
  have HFR : Hid (Calls Tryz.prog 44 #[.pointer (some ⟨x, 0, none⟩)] w fun e w' => e = .returned (.tuple #[.int .i64 (n : Int), .agg (hdC (H n)), .int .i64 0]) ∧ Below w.heap.size w w') := h.free n h1 h2 hk hm
  have HI : Hid (IM w x mf ml mc cp top H D) := h
  have HN : Hid (1 ≤ n ∧ n ≤ 4096) := ⟨h1, h2⟩
  obtain ⟨T, hT⟩ : ∃ T, max top (n : Int) = T := ⟨_, rfl⟩
  rw [hT]
  have HT : Hid (max top (n : Int) = T) := hT
  clear h h1 h2 hk hm hT
  go_enter Tryz.func22, Tryz.ntmps22
  rcases hkd with rfl | rfl
  · skip
    have HPU : Hid (∀ V, IM V x mf ml mc cp top H D → Calls Tryz.prog 45 #[.pointer (some ⟨x, 0, none⟩), .int .i64 (n : Int), .agg (hdC (hdN (H n) (n : Int) 1 1 0 st))] V fun e w' => e = .returned (.tuple #[]) ∧ IM w' x mf ml mc cp top (hU H n (hdN (H n) (n : Int) 1 1 0 st)) D ∧ Keeps mf V w') := fun V hV => hV.put n HN.out.1 HN.out.2 _
    go_wp2_with fail
    refine HFR.out.mono ?_
    rintro e w2 ⟨rfl, hb2⟩
    have HX2 : Hid (IM w2 x mf ml mc cp top H D ∧ Below w.heap.size w w2) := ⟨HI.out.below hb2, hb2⟩
    have q3 : Blk (w2.alloc (.cells (hdC hd00) 140)) w2.heap.size 140 (hdC hd00) := Blk.new _ _ _
    have q3' := q3.set (hdC (H n))
    have HB3 : Hid (Below w2.heap.size w2 ((w2.alloc (.cells (hdC hd00) 140)).setRow w2.heap.size (hdC (H n)))) := below_setRow (below_new1 _ _) (Nat.le_refl _) _
    clear hb2 HFR
    go_upto_region 6 with (first
      | (refine wpList_store_row (by rfl) 140 _ _ (by rfl) (w2.heap.size) (hdC (H n)) (by rfl) (by rfl) 140 (hdC hd00) (by exact q3) (sizeHd.trans (by rw [hdC_size])) (by simp only [hdC_size]) (hdC_all _) ?_; simp only [Act.put, sgPHNaGiven])
      | fail)
    clear q3
    generalize ((w2.alloc (.cells (hdC hd00) 140)).setRow w2.heap.size (hdC (H n))) = w3 at *
    have c38 := hd_c38 q3'
    have f38 : w3.frozen? ⟨w2.heap.size, 38, none⟩ = false := q3'.frozen 38
    have c39 := hd_c39 q3'
    have f39 : w3.frozen? ⟨w2.heap.size, 39, none⟩ = false := q3'.frozen 39
    have c40 := hd_c40 q3'
    have f40 : w3.frozen? ⟨w2.heap.size, 40, none⟩ = false := q3'.frozen 40
    have c41 := hd_c41 q3'
    have f41 : w3.frozen? ⟨w2.heap.size, 41, none⟩ = false := q3'.frozen 41
    have c42 := hd_c42 q3'
    have f42 : w3.frozen? ⟨w2.heap.size, 42, none⟩ = false := q3'.frozen 42
    have q4 : Hid (Blk (((((w3.setCell ⟨w2.heap.size, 38, none⟩ (.int .i64 (n : Int))).setCell ⟨w2.heap.size, 39, none⟩ (.int .i64 1)).setCell ⟨w2.heap.size, 40, none⟩ (.int .i64 1)).setCell ⟨w2.heap.size, 41, none⟩ (.int .i64 0)).setCell ⟨w2.heap.size, 42, none⟩ (.int .u64 ((st : Nat) : Int))) w2.heap.size 140 (hdC (hdN (H n) (n : Int) 1 1 0 st))) := hd_putNow q3' (n : Int) 1 1 0 st
    have HX4 : Hid (IM (((((w3.setCell ⟨w2.heap.size, 38, none⟩ (.int .i64 (n : Int))).setCell ⟨w2.heap.size, 39, none⟩ (.int .i64 1)).setCell ⟨w2.heap.size, 40, none⟩ (.int .i64 1)).setCell ⟨w2.heap.size, 41, none⟩ (.int .i64 0)).setCell ⟨w2.heap.size, 42, none⟩ (.int .u64 ((st : Nat) : Int))) x mf ml mc cp top H D ∧ Below w.heap.size w (((((w3.setCell ⟨w2.heap.size, 38, none⟩ (.int .i64 (n : Int))).setCell ⟨w2.heap.size, 39, none⟩ (.int .i64 1)).setCell ⟨w2.heap.size, 40, none⟩ (.int .i64 1)).setCell ⟨w2.heap.size, 41, none⟩ (.int .i64 0)).setCell ⟨w2.heap.size, 42, none⟩ (.int .u64 ((st : Nat) : Int)))) := by
      have hb4 : Below w2.heap.size w2 (((((w3.setCell ⟨w2.heap.size, 38, none⟩ (.int .i64 (n : Int))).setCell ⟨w2.heap.size, 39, none⟩ (.int .i64 1)).setCell ⟨w2.heap.size, 40, none⟩ (.int .i64 1)).setCell ⟨w2.heap.size, 41, none⟩ (.int .i64 0)).setCell ⟨w2.heap.size, 42, none⟩ (.int .u64 ((st : Nat) : Int))) := below_setCells (Nat.le_refl _) [.int .i64 (n : Int), .int .i64 1, .int .i64 1, .int .i64 0, .int .u64 ((st : Nat) : Int)] 38 _ HB3.out
      exact ⟨HX2.out.1.below hb4, HX2.out.2.trans (hb4.mono HX2.out.2.size)⟩
    clear q3' HX2 HB3
    go_wp2_with (first
      | (refine wpList_load_rowg (by rfl) 140 _ (by rfl) (w2.heap.size) (by rfl) 140 (hdC (hdN (H n) (n : Int) 1 1 0 st)) (0, 0) _ (by exact q4.out) Tryz.underlying140 (by rfl) (sizeHd.trans (by rw [hdC_size])) ?_; simp only [Act.put, sgPHNaGiven])
      | fail)
    refine (HPU.out _ HX4.out.1).mono ?_
    rintro e w5 ⟨rfl, hI5, hk5⟩
    have x5 := hI5.ix
    have d36 := ix_c36 x5
    have e36 : w5.frozen? ⟨x, 36, none⟩ = false := x5.frozen 36
    have HE : Hid (∀ t : Int, IM (w5.setCell ⟨x, 36, none⟩ (.int .i64 t)) x mf ml mc cp t (hU H n (hdN (H n) (n : Int) 1 1 0 st)) D ∧ Turns (fun z => z = x ∨ z = mf) w (w5.setCell ⟨x, 36, none⟩ (.int .i64 t))) := fun t => ⟨hI5.setTop t, ((Turns.bel HX4.out.2).tr (Turns.kept hk5)).tr (Turns.cell w5 x 36 _ (.inl rfl))⟩
    clear hI5 hk5 x5 HX4 q4 HPU c38 c39 c40 c41 c42 f38 f39 f40 f41 f42
    go_wp2_with fail
    go_ret2
    exact ⟨rfl, by rw [← HT.out]; exact (HE.out _).1, (HE.out _).2⟩
  · skip
    have HPU : Hid (∀ V, IM V x mf ml mc cp top H D → Calls Tryz.prog 45 #[.pointer (some ⟨x, 0, none⟩), .int .i64 (n : Int), .agg (hdC (hdN (H n) (n : Int) 2 1 0 st))] V fun e w' => e = .returned (.tuple #[]) ∧ IM w' x mf ml mc cp top (hU H n (hdN (H n) (n : Int) 2 1 0 st)) D ∧ Keeps mf V w') := fun V hV => hV.put n HN.out.1 HN.out.2 _
    go_wp2_with fail
    refine HFR.out.mono ?_
    rintro e w2 ⟨rfl, hb2⟩
    have HX2 : Hid (IM w2 x mf ml mc cp top H D ∧ Below w.heap.size w w2) := ⟨HI.out.below hb2, hb2⟩
    have q3 : Blk (w2.alloc (.cells (hdC hd00) 140)) w2.heap.size 140 (hdC hd00) := Blk.new _ _ _
    have q3' := q3.set (hdC (H n))
    have HB3 : Hid (Below w2.heap.size w2 ((w2.alloc (.cells (hdC hd00) 140)).setRow w2.heap.size (hdC (H n)))) := below_setRow (below_new1 _ _) (Nat.le_refl _) _
    clear hb2 HFR
    go_upto_region 6 with (first
      | (refine wpList_store_row (by rfl) 140 _ _ (by rfl) (w2.heap.size) (hdC (H n)) (by rfl) (by rfl) 140 (hdC hd00) (by exact q3) (sizeHd.trans (by rw [hdC_size])) (by simp only [hdC_size]) (hdC_all _) ?_; simp only [Act.put, sgPHNaGiven])
      | fail)
    clear q3
    generalize ((w2.alloc (.cells (hdC hd00) 140)).setRow w2.heap.size (hdC (H n))) = w3 at *
    have c38 := hd_c38 q3'
    have f38 : w3.frozen? ⟨w2.heap.size, 38, none⟩ = false := q3'.frozen 38
    have c39 := hd_c39 q3'
    have f39 : w3.frozen? ⟨w2.heap.size, 39, none⟩ = false := q3'.frozen 39
    have c40 := hd_c40 q3'
    have f40 : w3.frozen? ⟨w2.heap.size, 40, none⟩ = false := q3'.frozen 40
    have c41 := hd_c41 q3'
    have f41 : w3.frozen? ⟨w2.heap.size, 41, none⟩ = false := q3'.frozen 41
    have c42 := hd_c42 q3'
    have f42 : w3.frozen? ⟨w2.heap.size, 42, none⟩ = false := q3'.frozen 42
    have q4 : Hid (Blk (((((w3.setCell ⟨w2.heap.size, 38, none⟩ (.int .i64 (n : Int))).setCell ⟨w2.heap.size, 39, none⟩ (.int .i64 2)).setCell ⟨w2.heap.size, 40, none⟩ (.int .i64 1)).setCell ⟨w2.heap.size, 41, none⟩ (.int .i64 0)).setCell ⟨w2.heap.size, 42, none⟩ (.int .u64 ((st : Nat) : Int))) w2.heap.size 140 (hdC (hdN (H n) (n : Int) 2 1 0 st))) := hd_putNow q3' (n : Int) 2 1 0 st
    have HX4 : Hid (IM (((((w3.setCell ⟨w2.heap.size, 38, none⟩ (.int .i64 (n : Int))).setCell ⟨w2.heap.size, 39, none⟩ (.int .i64 2)).setCell ⟨w2.heap.size, 40, none⟩ (.int .i64 1)).setCell ⟨w2.heap.size, 41, none⟩ (.int .i64 0)).setCell ⟨w2.heap.size, 42, none⟩ (.int .u64 ((st : Nat) : Int))) x mf ml mc cp top H D ∧ Below w.heap.size w (((((w3.setCell ⟨w2.heap.size, 38, none⟩ (.int .i64 (n : Int))).setCell ⟨w2.heap.size, 39, none⟩ (.int .i64 2)).setCell ⟨w2.heap.size, 40, none⟩ (.int .i64 1)).setCell ⟨w2.heap.size, 41, none⟩ (.int .i64 0)).setCell ⟨w2.heap.size, 42, none⟩ (.int .u64 ((st : Nat) : Int)))) := by
      have hb4 : Below w2.heap.size w2 (((((w3.setCell ⟨w2.heap.size, 38, none⟩ (.int .i64 (n : Int))).setCell ⟨w2.heap.size, 39, none⟩ (.int .i64 2)).setCell ⟨w2.heap.size, 40, none⟩ (.int .i64 1)).setCell ⟨w2.heap.size, 41, none⟩ (.int .i64 0)).setCell ⟨w2.heap.size, 42, none⟩ (.int .u64 ((st : Nat) : Int))) := below_setCells (Nat.le_refl _) [.int .i64 (n : Int), .int .i64 2, .int .i64 1, .int .i64 0, .int .u64 ((st : Nat) : Int)] 38 _ HB3.out
      exact ⟨HX2.out.1.below hb4, HX2.out.2.trans (hb4.mono HX2.out.2.size)⟩
    clear q3' HX2 HB3
    go_wp2_with (first
      | (refine wpList_load_rowg (by rfl) 140 _ (by rfl) (w2.heap.size) (by rfl) 140 (hdC (hdN (H n) (n : Int) 2 1 0 st)) (0, 0) _ (by exact q4.out) Tryz.underlying140 (by rfl) (sizeHd.trans (by rw [hdC_size])) ?_; simp only [Act.put, sgPHNaGiven])
      | fail)
    refine (HPU.out _ HX4.out.1).mono ?_
    rintro e w5 ⟨rfl, hI5, hk5⟩
    have x5 := hI5.ix
    have d36 := ix_c36 x5
    have e36 : w5.frozen? ⟨x, 36, none⟩ = false := x5.frozen 36
    have HE : Hid (∀ t : Int, IM (w5.setCell ⟨x, 36, none⟩ (.int .i64 t)) x mf ml mc cp t (hU H n (hdN (H n) (n : Int) 2 1 0 st)) D ∧ Turns (fun z => z = x ∨ z = mf) w (w5.setCell ⟨x, 36, none⟩ (.int .i64 t))) := fun t => ⟨hI5.setTop t, ((Turns.bel HX4.out.2).tr (Turns.kept hk5)).tr (Turns.cell w5 x 36 _ (.inl rfl))⟩
    clear hI5 hk5 x5 HX4 q4 HPU c38 c39 c40 c41 c42 f38 f39 f40 f41 f42
    go_wp2_with fail
    go_ret2
    exact ⟨rfl, by rw [← HT.out]; exact (HE.out _).1, (HE.out _).2⟩
end
end Go.Proofs.YtimjggkdpmgpjaaGreatDoor

namespace Go.Proofs.YtimjggkdpmgpjaaGreatDoor
set_option maxRecDepth 20000
open Go Go.RowKit
set_option linter.unusedVariables false
set_option linter.unusedSimpArgs false
/-- entries of a caller's slice -/
def IsLkC (W : World) (a : Option Addr) (n : Nat) (N : Nat → Int) (S : Nat → ByteArray) : Prop := ∀ i, i < n → ∃ b o, a = some ⟨b, o, none⟩ ∧ b < W.heap.size ∧ W.cell? ⟨b, o + i * 2, none⟩ = some (.int .i64 (N i)) ∧ W.cell? ⟨b, o + i * 2 + 1, none⟩ = some (.string (S i))
theorem IsLkC.below {W V : World} {a : Option Addr} {n : Nat} {N : Nat → Int} {S : Nat → ByteArray} (h : IsLkC W a n N S) (hb : Below W.heap.size W V) : IsLkC V a n N S := fun i hi => by
  obtain ⟨b, o, h1, h2, h3, h4⟩ := h i hi
  exact ⟨b, o, h1, Nat.lt_of_lt_of_le h2 hb.size, (hb.cell h2).trans h3, (hb.cell h2).trans h4⟩
end Go.Proofs.YtimjggkdpmgpjaaGreatDoor
