/- Entries put in order one by one (slices.insertionSortCmpFunc). -/
import Derived.Test.YtojnlmfahgeidaaGreatDoorHDiOne
import Derived.Test.YtojnlmfahgeidaaGreatDoorHDiFillK
import Derived.Test.YtojnlmfahgeidaaGreatDoorHDiRemove
import Derived.Test.YtojnlmfahgeidaaGreatDoorHDiRSmall
import Derived.Test.YtojnlmfahgeidaaGreatDoorHDiDirE
import Derived.Handy
import Derived.Test.YtojnlmfahgeidaaGreatDoorHNaJoinB

namespace Go.Proofs.YtojnlmfahgeidaaGreatDoor
theorem sgLHNaIns : (∀ (α : Type) (a : α) (l r : List α), (a :: l) ++ r = a :: (l ++ r)) ∧ (∀ (α : Type) (l : List α), [] ++ l = l) ∧ (∀ (α : Type) (l : List α), l ++ [] = l) ∧ (∀ (α β : Type) (f : α → Option β) (a : α) (l : List α), (a :: l).filterMap f = match f a with | none => l.filterMap f | some b => b :: l.filterMap f) ∧ (∀ (α β : Type) (f : α → Option β), [].filterMap f = []) ∧ (∀ (α : Type) (l : List α) (i : Nat), l.toArray[i]? = l[i]?) ∧ (∀ (α : Type) (a : α) (l : List α), (a :: l)[0]? = some a) ∧ (∀ (α : Type) (a : α) (l : List α) (i : Nat), (a :: l)[i + 1]? = l[i]?) :=
  ⟨fun _ _ _ _ => List.cons_append, fun _ _ => List.nil_append _, fun _ _ => List.append_nil _, fun _ _ _ _ _ => List.filterMap_cons, fun _ _ _ => List.filterMap_nil, fun _ _ _ => List.getElem?_toArray, fun _ _ _ => List.getElem?_cons_zero, fun _ _ _ _ => List.getElem?_cons_succ⟩
theorem sgPHNaIns : (∀ (α : Type) (l : List α) (i : Nat) (a : α), l.toArray.setIfInBounds i a = (l.set i a).toArray) ∧ (∀ (α : Type) (a b : α) (l : List α), (a :: l).set 0 b = b :: l) ∧ (∀ (α : Type) (a b : α) (l : List α) (i : Nat), (a :: l).set (i + 1) b = a :: l.set i b) :=
  ⟨fun _ _ _ _ => List.setIfInBounds_toArray _ _ _, fun _ _ _ _ => List.set_cons_zero, fun _ _ _ _ _ => List.set_cons_succ⟩
end Go.Proofs.YtojnlmfahgeidaaGreatDoor
namespace Go.Proofs.YtojnlmfahgeidaaGreatDoor
open Go Go.RowKit Go.Nam
set_option linter.unusedSimpArgs false
set_option linter.unusedVariables false
theorem IsLkC.at {W V : World} {a : Option Addr} {n : Nat} {N : Nat → Int} {S : Nat → ByteArray} (h : IsLkC W a n N S) (hz : W.heap.size ≤ V.heap.size) (hb : ∀ b o, a = some ⟨b, o, none⟩ → b < W.heap.size → V.heap[b]? = W.heap[b]?) : IsLkC V a n N S := fun i hi => by
  obtain ⟨b, o, h1, h2, h3, h4⟩ := h i hi
  have e := hb b o h1 h2
  exact ⟨b, o, h1, by omega, (World.cell?_of_block (w := W) e).trans h3, (World.cell?_of_block (w := W) e).trans h4⟩
theorem IsLkC.keepB {w V V' : World} {a : Option Addr} {n : Nat} {N N0 : Nat → Int} {S S0 : Nat → ByteArray} (h : IsLkC V a n N S) (h0 : IsLkC w a n N0 S0) (hb : Below w.heap.size V V') : IsLkC V' a n N S := fun i hi => by
  obtain ⟨b, o, h1, h2, h3, h4⟩ := h i hi
  obtain ⟨b', o', g1, g2, _⟩ := h0 i hi
  rw [h1] at g1
  injection g1 with g1
  injection g1 with g1 _ _
  subst g1
  have := hb.size
  exact ⟨b, o, h1, by omega, (hb.cell (p := ⟨b, o + i * 2, none⟩) g2).trans h3, (hb.cell (p := ⟨b, o + i * 2 + 1, none⟩) g2).trans h4⟩
theorem first_ex (S : Nat → ByteArray) (s : ByteArray) : ∀ k, ∃ p, FirstN S k p s
  | 0 => ⟨0, Nat.le_refl _, fun r hr => absurd hr (Nat.not_lt_zero _), fun h => absurd h (Nat.not_lt_zero _)⟩
  | k + 1 => by
    obtain ⟨p, h1, h2, h3⟩ := first_ex S s k
    by_cases hp : p < k
    · exact ⟨p, by omega, h2, fun _ => h3 hp⟩
    · have hpk : p = k := by omega
      subst hpk
      by_cases hs : S p = s
      · exact ⟨p, by omega, h2, fun _ => hs⟩
      · refine ⟨p + 1, Nat.le_refl _, fun r hr => ?_, fun h => absurd h (Nat.lt_irrefl _)⟩
        by_cases hr2 : r = p
        · subst hr2; exact hs
        · exact h2 r (by omega)
/-- two directories among inodes in the memory, and their lists as the document has them -/
structure PD (w : World) (B1 x mf ml mc : Nat) (cp : Option Addr) (A : Nat → Option Addr) (K C T : Nat → Nat) (N : Nat → Nat → Int) (S : Nat → Nat → ByteArray) : Prop where
  im : ∃ H D, IM w x mf ml mc cp 3 H D ∧ Ino3 H ∧ ∀ d, d = 1 ∨ d = 2 → Di H D d (K d) (T d) (N d) (S d)
  lt : x < B1 ∧ mf < B1 ∧ ml < B1 ∧ mc < B1
  sz : B1 ≤ w.heap.size
  ls : ∀ d, d = 1 ∨ d = 2 → IsLkC w (A d) (K d) (N d) (S d) ∧ (A d = none → K d = 0 ∧ C d = 0)
  hi : ∀ d b o k, d = 1 ∨ d = 2 → A d = some ⟨b, o, k⟩ → B1 ≤ b
section
variable {w w' : World} {B1 x mf ml mc : Nat} {cp : Option Addr} {A : Nat → Option Addr} {K C T : Nat → Nat} {N : Nat → Nat → Int} {S : Nat → Nat → ByteArray}
theorem PD.below (h : PD w B1 x mf ml mc cp A K C T N S) (hb : Below w.heap.size w w') : PD w' B1 x mf ml mc cp A K C T N S := by
  obtain ⟨H, D, h1, h2, h3⟩ := h.im
  exact ⟨⟨H, D, h1.below hb, h2, h3⟩, h.lt, Nat.le_trans h.sz hb.size, fun d hd => ⟨(h.ls d hd).1.below hb, (h.ls d hd).2⟩, h.hi⟩
theorem Ino3.oth {H H' : Nat → Hd} {D D' : Nat → Nat → Nat → Nat} {d : Nat} (h : Ino3 H) (ho : OthD H H' D D' d) (hd : d = 1 ∨ d = 2) : Ino3 H' :=
  ⟨by rw [(ho 3 (by omega)).1]; exact h.f3, fun m h1 h2 => by rw [(ho m (by omega)).1]; exact h.up m h1 h2⟩
/-- what stands behind a call that was let -/
def PQ (w : World) (x mf ml mc : Nat) (cp : Option Addr) (A : Nat → Option Addr) (K T : Nat → Nat) (N : Nat → Nat → Int) (S : Nat → Nat → ByteArray) (d k1 st : Nat) (N1 : Nat → Int) (S1 : Nat → ByteArray) (V : World) : Prop :=
  (∃ H D, IM V x mf ml mc cp 3 H D ∧ Ino3 H ∧ Di H D d k1 st N1 S1 ∧ ∀ d', d' = 1 ∨ d' = 2 → d' ≠ d → Di H D d' (K d') (T d') (N d') (S d')) ∧ w.heap.size ≤ V.heap.size ∧ ∀ d', d' = 1 ∨ d' = 2 → IsLkC V (A d') (K d') (N d') (S d')
theorem PD.pq_keep (h : PD w B1 x mf ml mc cp A K C T N S) (d k1 st : Nat) (N1 : Nat → Int) (S1 : Nat → ByteArray) (V V' : World) (hq : PQ w x mf ml mc cp A K T N S d k1 st N1 S1 V) (hb : Below w.heap.size V V') : PQ w x mf ml mc cp A K T N S d k1 st N1 S1 V' := by
  obtain ⟨⟨H, D, h1, h2, h3, h4⟩, h5, h6⟩ := hq
  have hl := h.lt
  have hs := h.sz
  exact ⟨⟨H, D, h1.belowB hb ⟨by omega, by omega, by omega, by omega⟩, h2, h3, h4⟩, Nat.le_trans h5 hb.size, fun d' hd' => (h6 d' hd').keepB (h.ls d' hd').1 hb⟩
/-- a call that was let makes it -/
theorem PD.pq_new (h : PD w B1 x mf ml mc cp A K C T N S) (d k1 st : Nat) (hd : d = 1 ∨ d = 2) (N1 : Nat → Int) (S1 : Nat → ByteArray) {H : Nat → Hd} {D : Nat → Nat → Nat → Nat} (h3 : Ino3 H) (hD : ∀ d, d = 1 ∨ d = 2 → Di H D d (K d) (T d) (N d) (S d)) {V V' : World} (hV : Below w.heap.size w V)
    (hq : ∃ H' D', IM V' x mf ml mc cp 3 H' D' ∧ Di H' D' d k1 st N1 S1 ∧ OthD H H' D D' d) (hT : Turns (fun z => z = ml ∨ z = mf) V V') : PQ w x mf ml mc cp A K T N S d k1 st N1 S1 V' := by
  obtain ⟨H', D', h1, h2, ho⟩ := hq
  have hl := h.lt
  have hs := h.sz
  refine ⟨⟨H', D', h1, h3.oth ho hd, h2, fun d' hd' hne => (hD d' hd').same (ho d' hne).1 (ho d' hne).2⟩, Nat.le_trans hV.size hT.size, fun d' hd' => ?_⟩
  refine ((h.ls d' hd').1.below hV).at hT.size fun b o hb hlt => hT.block b hlt fun hc => ?_
  have := h.hi d' b o none hd' hb
  omega
theorem PD.made (h : PD w B1 x mf ml mc cp A K C T N S) (d k1 st g5 c5 : Nat) (hd : d = 1 ∨ d = 2) (N1 : Nat → Int) (S1 : Nat → ByteArray) (hq : PQ w x mf ml mc cp A K T N S d k1 st N1 S1 w') (hR : IsLkC w' (some ⟨g5, 0, none⟩) k1 N1 S1) (hg : w.heap.size ≤ g5) :
    PD w' B1 x mf ml mc cp (fU A d (some ⟨g5, 0, none⟩)) (fU K d k1) (fU C d c5) (fU T d st) (fU N d N1) (fU S d S1) := by
  obtain ⟨⟨H, D, h1, h2, h3, h4⟩, h5, h6⟩ := hq
  have hs := h.sz
  refine ⟨⟨H, D, h1, h2, fun d' hd' => ?_⟩, h.lt, Nat.le_trans hs h5, fun d' hd' => ?_, fun d' b o k hd' he => ?_⟩
  · unfold fU
    by_cases e : d' = d
    · subst e
      rw [if_pos rfl, if_pos rfl, if_pos rfl, if_pos rfl]
      exact h3
    · rw [if_neg e, if_neg e, if_neg e, if_neg e]
      exact h4 d' hd' e
  · unfold fU
    by_cases e : d' = d
    · subst e
      rw [if_pos rfl, if_pos rfl, if_pos rfl, if_pos rfl]
      exact ⟨hR, fun hc => by cases hc⟩
    · rw [if_neg e, if_neg e, if_neg e, if_neg e, if_neg e]
      exact ⟨h6 d' hd', (h.ls d' hd').2⟩
  · unfold fU at he
    by_cases e : d' = d
    · rw [if_pos e] at he
      injection he with he
      injection he with he _ _
      omega
    · rw [if_neg e] at he
      exact h.hi d' b o k hd' he
/-- what one answers -/
def OneE (w : World) (B1 x mf ml mc : Nat) (cp : Option Addr) (e : Ending) (w' : World) : Prop := ∃ A K C T N S, e = .returned (.tuple #[.agg (sdC A K C T), .bool true]) ∧ PD w' B1 x mf ml mc cp A K C T N S ∧ Turns (fun z => z = ml ∨ z = mf) w w'
theorem PD.same (h : PD w B1 x mf ml mc cp A K C T N S) {e : Ending} (he : e = .returned (.tuple #[.agg (sdC A K C T), .bool true]) ∧ Below w.heap.size w w') : OneE w B1 x mf ml mc cp e w' := ⟨A, K, C, T, N, S, he.1, h.below he.2, Turns.of_below he.2⟩
theorem lkc_heap (k1 : Nat) (N1 : Nat → Int) (S1 : Nat → ByteArray) (V V' : World) (g : Nat) (h : IsLkC V (some ⟨g, 0, none⟩) k1 N1 S1) (e : V'.heap[g]? = V.heap[g]?) (hz : V.heap.size ≤ V'.heap.size) : IsLkC V' (some ⟨g, 0, none⟩) k1 N1 S1 :=
  h.at hz fun b o hb _ => by
    injection hb with hb
    injection hb with hb _ _
    subst hb
    exact e
theorem PD.oneAdd (h : PD w B1 x mf ml mc cp A K C T N S) (dr i : Int) (st : Nat) (s : ByteArray) (hdr : -9223372036854775808 ≤ dr ∧ dr ≤ 9223372036854775807) : Calls Tryz.prog 12 #[.pointer (some ⟨x, 0, none⟩), .agg (sdC A K C T), .agg (aeC 0 dr i s ((st : Nat) : Int))] w fun e w' => OneE w B1 x mf ml mc cp e w' := by
  obtain ⟨H, D, hI, h3, hD⟩ := h.im
  by_cases hz : refD dr = 0
  · obtain ⟨d, rfl, hd⟩ : ∃ d : Nat, dr = (d : Int) ∧ (d = 1 ∨ d = 2) := by
      rcases refD_zero hz with e | e
      · exact ⟨1, e, .inl rfl⟩
      · exact ⟨2, e, .inr rfl⟩
    have HR : ∀ V : World, Calls Tryz.prog 19 #[.int .i64 (d : Int)] V fun e w' => e = .returned (.int .i64 0) ∧ w' = V := fun V => by
      have := refused_any (d : Int) V
      rw [hz] at this
      exact this
    have hDd := hD d hd
    have hle := hDd.le
    obtain ⟨hL, hN⟩ := h.ls d hd
    obtain ⟨p, hp⟩ := first_ex (S d) s (K d)
    by_cases hb : encE i s ≠ 0 ∨ p < K d ∨ 16384 ≤ K d
    · obtain ⟨r, hr⟩ : ∃ r, r = if encE i s ≠ 0 then encE i s else if p < K d then (172 : Int) else 173 := ⟨_, rfl⟩
      have hr0 : r ≠ 0 := by
        rw [hr]
        split
        · assumption
        · split <;> decide
      refine (oneAdd_no d hd i st s w r hr0 HR (fun V hV => ?_) (fun V hV => radd17_no (A d) (K d) (C d) (by omega) (N d) (S d) i s p hp r hr hb V (hL.below hV))).mono fun e w' he => h.same he
      have hIV := hI.below hV
      by_cases h0 : encE i s = 0
      · rw [if_neg (by simp [h0])] at hr
        by_cases hpk : p < K d
        · rw [if_pos hpk] at hr
          rw [hr]
          exact hIV.addThere hDd i s h0 p hp hpk _
        · rw [if_neg hpk] at hr
          rw [hr]
          exact hIV.addFull hDd i s h0 p hp hpk (by rcases hb with hb | hb | hb; exact absurd h0 hb; exact absurd hb hpk; omega) _
      · rw [if_pos h0] at hr
        rw [hr]
        exact hIV.addEnc hDd i s h0 _
    · have h0 : encE i s = 0 := Classical.byContradiction fun hc => hb (.inl hc)
      have hpk : ¬ p < K d := fun hc => hb (.inr (.inl hc))
      have hk : K d < 16384 := by
        apply Classical.byContradiction
        intro hc
        exact hb (.inr (.inr (by omega)))
      refine (oneAdd_ok d hd i st s w (ml := ml) (mf := mf) (k1 := K d + 1) (PQ w x mf ml mc cp A K T N S d (K d + 1) st (upN (N d) (K d) i) (upS (S d) (K d) s)) (fun V V' hq hb => h.pq_keep _ _ _ _ _ V V' hq hb) ⟨by have := h.lt; have := h.sz; omega, by have := h.lt; have := h.sz; omega⟩ 0
        (fun W g => IsLkC W (some ⟨g, 0, none⟩) (K d + 1) (upN (N d) (K d) i) (upS (S d) (K d) s)) (lkc_heap _ _ _) HR (fun V hV => ?_) (fun V hq => ?_)).mono ?_
      · refine ((hI.below hV).addOk hDd hk i s h0 (fun r hr => hp.2.1 r (by have := hp.1; omega)) st).mono ?_
        rintro e w' ⟨rfl, hq, hT⟩
        exact ⟨rfl, h.pq_new d _ _ hd _ _ h3 hD hV hq hT, hT⟩
      · exact radd17_ok (A d) (K d) (C d) hk hN (N d) (S d) i s p hp hpk h0 V (hq.2.2 d hd)
      · rintro e w' ⟨g5, c5, rfl, hq, hR, hg, hT⟩
        exact ⟨_, _, _, _, _, _, rfl, h.made d _ _ _ _ hd _ _ hq hR hg, hT⟩
  · exact (oneAdd_ref dr i ((st : Nat) : Int) s w (refD dr) hz (refused_any dr) (fun V hV => (hI.below hV).addRef h3 dr hdr hz i _ s)).mono fun e w' he => h.same he
theorem PD.oneRemove (h : PD w B1 x mf ml mc cp A K C T N S) (dr i : Int) (st : Nat) (s : ByteArray) (hdr : -9223372036854775808 ≤ dr ∧ dr ≤ 9223372036854775807) : Calls Tryz.prog 12 #[.pointer (some ⟨x, 0, none⟩), .agg (sdC A K C T), .agg (aeC 1 dr i s ((st : Nat) : Int))] w fun e w' => OneE w B1 x mf ml mc cp e w' := by
  obtain ⟨H, D, hI, h3, hD⟩ := h.im
  by_cases hz : refD dr = 0
  · obtain ⟨d, rfl, hd⟩ : ∃ d : Nat, dr = (d : Int) ∧ (d = 1 ∨ d = 2) := by
      rcases refD_zero hz with e | e
      · exact ⟨1, e, .inl rfl⟩
      · exact ⟨2, e, .inr rfl⟩
    have HR : ∀ V : World, Calls Tryz.prog 19 #[.int .i64 (d : Int)] V fun e w' => e = .returned (.int .i64 0) ∧ w' = V := fun V => by
      have := refused_any (d : Int) V
      rw [hz] at this
      exact this
    have hDd := hD d hd
    have hle := hDd.le
    obtain ⟨hL, hN⟩ := h.ls d hd
    obtain ⟨p, hp⟩ := first_ex (S d) s (K d)
    by_cases hb : isName s.data.toList = true → ¬ p < K d
    · obtain ⟨r, hr⟩ : ∃ r, r = if isName s.data.toList = true then (171 : Int) else 130 := ⟨_, rfl⟩
      have hr0 : r ≠ 0 := by
        rw [hr]
        split <;> decide
      refine (oneRemove_no d hd i st s w r hr0 HR (fun V hV => (hI.below hV).removeNo hDd s p hp hb _ r hr) (fun V hV => ?_)).mono fun e w' he => h.same he
      refine (rremove17_no (A d) (K d) (C d) (by omega) (N d) (S d) s p hp hb r hr V (hL.below hV)).mono ?_
      rintro e w' ⟨rfl, rfl⟩
      exact ⟨rfl, Below.refl _ _⟩
    · obtain ⟨hnm, hpk⟩ : isName s.data.toList = true ∧ p < K d := by
        refine ⟨Classical.byContradiction fun hc => hb fun hc2 => absurd hc2 hc, Classical.byContradiction fun hc => hb fun _ => hc⟩
      obtain ⟨k, hk⟩ : ∃ k, K d = k + 1 := ⟨K d - 1, by omega⟩
      have hDk : Di H D d (k + 1) (T d) (N d) (S d) := by rw [← hk]; exact hDd
      have hpF : FirstN (S d) (k + 1) p s := by rw [← hk]; exact hp
      refine (oneRemove_ok d hd i st s w (ml := ml) (mf := mf) (k1 := k) (PQ w x mf ml mc cp A K T N S d k st (mvN (N d) k p) (mvS (S d) k p)) (fun V V' hq hb => h.pq_keep _ _ _ _ _ V V' hq hb) ⟨by have := h.lt; have := h.sz; omega, by have := h.lt; have := h.sz; omega⟩ (N d p)
        (fun W g => IsLkC W (some ⟨g, 0, none⟩) k (mvN (N d) k p) (mvS (S d) k p)) (lkc_heap _ _ _) HR (fun V hV => ?_) (fun V hq => ?_)).mono ?_
      · refine ((hI.below hV).removeOk hDk s hnm p (by omega) hpF st).mono ?_
        rintro e w' ⟨rfl, hq, hT⟩
        exact ⟨rfl, h.pq_new d _ _ hd _ _ h3 hD hV hq hT, hT⟩
      · have hLV := hq.2.2 d hd
        rw [hk] at hLV ⊢
        exact rremove17_ok (A d) k (C d) (by omega) (by rw [← hk]; exact hN) (N d) (S d) s p hpF (by omega) hnm V hLV
      · rintro e w' ⟨g5, c5, rfl, hq, hR, hg, hT⟩
        exact ⟨_, _, _, _, _, _, rfl, h.made d _ _ _ _ hd _ _ hq hR hg, hT⟩
  · exact (oneRemove_ref dr i ((st : Nat) : Int) s w (refD dr) hz (refused_any dr) (fun V hV => (hI.below hV).removeRef h3 dr hdr hz _ s)).mono fun e w' he => h.same he
theorem PD.oneSwap (h : PD w B1 x mf ml mc cp A K C T N S) (dr i : Int) (st : Nat) (s : ByteArray) (hdr : -9223372036854775808 ≤ dr ∧ dr ≤ 9223372036854775807) (kd : Int) (hk0 : kd ≠ 0) (hk1 : kd ≠ 1) : Calls Tryz.prog 12 #[.pointer (some ⟨x, 0, none⟩), .agg (sdC A K C T), .agg (aeC kd dr i s ((st : Nat) : Int))] w fun e w' => OneE w B1 x mf ml mc cp e w' := by
  obtain ⟨H, D, hI, h3, hD⟩ := h.im
  by_cases hz : refD dr = 0
  · obtain ⟨d, rfl, hd⟩ : ∃ d : Nat, dr = (d : Int) ∧ (d = 1 ∨ d = 2) := by
      rcases refD_zero hz with e | e
      · exact ⟨1, e, .inl rfl⟩
      · exact ⟨2, e, .inr rfl⟩
    have HR : ∀ V : World, Calls Tryz.prog 19 #[.int .i64 (d : Int)] V fun e w' => e = .returned (.int .i64 0) ∧ w' = V := fun V => by
      have := refused_any (d : Int) V
      rw [hz] at this
      exact this
    have hDd := hD d hd
    have hle := hDd.le
    obtain ⟨hL, hN⟩ := h.ls d hd
    obtain ⟨p, hp⟩ := first_ex (S d) s (K d)
    by_cases hb : encE i s ≠ 0 ∨ ¬ p < K d
    · obtain ⟨r, hr⟩ : ∃ r, r = if encE i s ≠ 0 then encE i s else (171 : Int) := ⟨_, rfl⟩
      have hr0 : r ≠ 0 := by
        rw [hr]
        split
        · assumption
        · decide
      refine (oneSwap_no d hd i st s kd hk0 hk1 w r hr0 HR (fun V hV => ?_) (fun V hV => rswap17_no (A d) (K d) (C d) (by omega) (N d) (S d) i s p hp r hr hb V (hL.below hV))).mono fun e w' he => h.same he
      have hIV := hI.below hV
      by_cases h0 : encE i s = 0
      · rw [if_neg (by simp [h0])] at hr
        rw [hr]
        exact hIV.swapMissing hDd i s h0 p hp (by rcases hb with hb | hb; exact absurd h0 hb; exact hb) _
      · rw [if_pos h0] at hr
        rw [hr]
        exact hIV.swapEnc hDd i s h0 _
    · have h0 : encE i s = 0 := Classical.byContradiction fun hc => hb (.inl hc)
      have hpk : p < K d := Classical.byContradiction fun hc => hb (.inr hc)
      refine (oneSwap_ok d hd i st s kd hk0 hk1 w (ml := ml) (mf := mf) (k1 := K d) (PQ w x mf ml mc cp A K T N S d (K d) st (upN (N d) p i) (S d)) (fun V V' hq hb => h.pq_keep _ _ _ _ _ V V' hq hb) ⟨by have := h.lt; have := h.sz; omega, by have := h.lt; have := h.sz; omega⟩ (N d p)
        (fun W g => IsLkC W (some ⟨g, 0, none⟩) (K d) (upN (N d) p i) (S d)) (lkc_heap _ _ _) HR (fun V hV => ?_) (fun V hq => ?_)).mono ?_
      · refine ((hI.below hV).swapOk hDd i s h0 p hp hpk st).mono ?_
        rintro e w' ⟨rfl, hq, hT⟩
        exact ⟨rfl, h.pq_new d _ _ hd _ _ h3 hD hV hq hT, hT⟩
      · exact rswap17_ok (A d) (K d) (C d) hle hN (N d) (S d) i s p hp hpk h0 V (hq.2.2 d hd)
      · rintro e w' ⟨g5, c5, rfl, hq, hR, hg, hT⟩
        exact ⟨_, _, _, _, _, _, rfl, h.made d _ _ _ _ hd _ _ hq hR hg, hT⟩
  · exact (oneSwap_ref dr i ((st : Nat) : Int) s kd hk0 hk1 w (refD dr) hz (refused_any dr) (fun V hV => (hI.below hV).swapRef h3 dr hdr hz i _ s)).mono fun e w' he => h.same he
/-- one, whatever is done -/
theorem PD.one (h : PD w B1 x mf ml mc cp A K C T N S) (kd dr i : Int) (st : Nat) (s : ByteArray) (hdr : -9223372036854775808 ≤ dr ∧ dr ≤ 9223372036854775807) : Calls Tryz.prog 12 #[.pointer (some ⟨x, 0, none⟩), .agg (sdC A K C T), .agg (aeC kd dr i s ((st : Nat) : Int))] w fun e w' => OneE w B1 x mf ml mc cp e w' := by
  by_cases h0 : kd = 0
  · subst h0; exact h.oneAdd dr i st s hdr
  · by_cases h1 : kd = 1
    · subst h1; exact h.oneRemove dr i st s hdr
    · exact h.oneSwap dr i st s hdr kd h0 h1
end
end Go.Proofs.YtojnlmfahgeidaaGreatDoor

namespace Go.Proofs.YtojnlmfahgeidaaGreatDoor
open Go Go.RowKit Go.Nam
set_option linter.unusedVariables false
set_option linter.unusedSimpArgs false
/-- the function by which entries are sorted, as a value -/
abbrev fvS : Value := .func (.func 175) #[] #[]
theorem en_ro (N : Nat → Int) (S : Nat → ByteArray) (s : Nat → Nat) (a m b : Nat) : roF (EnS N S s) a m b = EnS N S (fun p => s (roF id a m b p)) := by
  rw [ro_at]
  rfl
theorem ro_self {α : Type} (f : Nat → α) (m : Nat) : roF f m m (m + 1) = f := by
  funext p
  rw [congrFun (ro_at f m m (m + 1)) p]
  show f (roF id m m (m + 1) p) = f p
  congr 1
  rcases ro_cases m m (m + 1) p with ⟨c1, c2, c3⟩ | ⟨c1, c2, c3⟩ | ⟨c1, c3⟩ <;> omega
theorem ro_head {α : Type} (f : Nat → α) {k m : Nat} (h : k ≤ m) : roF f k m (m + 1) k = f m := by
  rw [congrFun (ro_at f k m (m + 1)) k]
  show f (roF id k m (m + 1) k) = f m
  congr 1
  rcases ro_cases k m (m + 1) k with ⟨c1, c2, c3⟩ | ⟨c1, c2, c3⟩ | ⟨c1, c3⟩ <;> omega
theorem ro_below {α : Type} (f : Nat → α) {k m p : Nat} (h : p < k) (hk : k ≤ m) : roF f k m (m + 1) p = f p := by
  rw [congrFun (ro_at f k m (m + 1)) p]
  show f (roF id k m (m + 1) p) = f p
  congr 1
  rcases ro_cases k m (m + 1) p with ⟨c1, c2, c3⟩ | ⟨c1, c2, c3⟩ | ⟨c1, c3⟩ <;> omega
set_option maxRecDepth 100000 in
set_option maxHeartbeats 8000000 in
theorem ins_any (tl : Array Value) (g n c cap : Nat) (hnc : n ≤ cap) (hn : n ≤ 1000000000000000) : InsC tl g n c cap fvS LkL := by
  intro a b N S V hab hbn hB
  have nb : (n : Int) ≤ 1000000000000000 := by omega
  have H0 : Hid (Blk V g 36 (lbC tl cap N S)) := hB
  have HW : Hid (∀ z : Int, -9000000000000000 ≤ z → z ≤ 9000000000000000 → IntKind.i64.wrap z = z) := fun z h1 h2 => by simp [IntKind.wrap, IntKind.signed, IntKind.bits]; omega
  obtain ⟨a1, ha1⟩ : ∃ q, q = a + 1 := ⟨_, rfl⟩
  have f1 : IntKind.i64.wrap ((a : Int) + 1) = (a1 : Int) := by rw [HW.out _ (by omega) (by omega)]; omega
  clear hB
  go_enter Tryz.func241, Tryz.ntmps241
  go_wp2_with fail
  go_loopw [8] (fun v8 wr => Hid (∃ (i : Nat) (s : Nat → Nat), a + 1 ≤ i ∧ (i ≤ b ∨ i = a + 1) ∧ v8 = .int .i64 (i : Int) ∧ Pm a b s ∧ Blk wr g 36 (lbC tl cap (fun p => N (s p)) (fun p => S (s p))) ∧ So LkL (EnS N S s) a i ∧ Turns (fun z => z = g) V wr)) (fun v8 _ => b - (intOf v8).toNat)
  case atStart => exact ⟨a1, id, by omega, by omega, by first | rfl | go_num | simp, Pm.refl _ _, H0.out, fun p q k1 k2 k3 => by omega, Turns.bel (Below.refl _ _)⟩
  case round =>
    obtain ⟨i, s, hi1, hi2, rfl, hPm, hBi, hSo, hTi⟩ := Hid.out hrel
    have HP : Hid (Pm a b s) := hPm
    have HSO : Hid (So LkL (EnS N S s) a i) := hSo
    have HT0 : Hid (Turns (fun z => z = g) V wr) := hTi
    have HB0 : Hid (Blk wr g 36 (lbC tl cap (fun p => N (s p)) (fun p => S (s p)))) := hBi
    clear hrel hPm hBi hSo hTi H0 f1
    by_cases hib : i < b
    · have i1 : (i : Int) < (b : Int) := by omega
      obtain ⟨i2, hi2e⟩ : ∃ q, q = i + 1 := ⟨_, rfl⟩
      have fi : IntKind.i64.wrap ((i : Int) + 1) = (i2 : Int) := by rw [HW.out _ (by omega) (by omega)]; omega
      have HI2 : Hid (i2 = i + 1) := hi2e
      clear hi2e
      go_wp2_with fail
      go_loopw [9] (fun v9 wr => Hid (∃ (j : Nat), a ≤ j ∧ j ≤ i ∧ v9 = .int .i64 (j : Int) ∧ (j = i ∨ LkL (EnS N S s i) (EnS N S s j)) ∧ Blk wr g 36 (lbC tl cap (roF (fun p => N (s p)) j i (i + 1)) (roF (fun p => S (s p)) j i (i + 1))) ∧ Turns (fun z => z = g) V wr)) (fun v9 _ => (intOf v9).toNat)
      case atStart => exact ⟨i, by omega, Nat.le_refl _, rfl, .inl rfl, by rw [ro_self, ro_self]; exact HB0.out, HT0.out⟩
      case round =>
        obtain ⟨j, hj1, hj2, rfl, hjl, hBj, hTj⟩ := Hid.out hrel
        have HJL : Hid (j = i ∨ LkL (EnS N S s i) (EnS N S s j)) := hjl
        have HT : Hid (Turns (fun z => z = g) V wr) := hTj
        clear hrel hjl hTj HB0 HT0
        obtain ⟨N2, hN2⟩ : ∃ N2, roF (fun p => N (s p)) j i (i + 1) = N2 := ⟨_, rfl⟩
        obtain ⟨S2, hS2⟩ : ∃ S2, roF (fun p => S (s p)) j i (i + 1) = S2 := ⟨_, rfl⟩
        have HNS : Hid (roF (fun p => N (s p)) j i (i + 1) = N2 ∧ roF (fun p => S (s p)) j i (i + 1) = S2) := ⟨hN2, hS2⟩
        rw [hN2, hS2] at hBj
        clear hN2 hS2
        have hjc : j < cap := by omega
        have hjn : (j : Int) < (n : Int) := by omega
        have hj0 : (0 : Int) ≤ (j : Int) := by omega
        have hBd : Blk wr.drew g 36 (lbC tl cap N2 S2) := hBj.drew
        have HDONE : Hid (∀ W : World, (j = a ∨ ¬ LkL (EnS N S s i) (EnS N S s (j - 1))) → Blk W g 36 (lbC tl cap N2 S2) → Turns (fun z => z = g) V W → (∃ (i' : Nat) (s' : Nat → Nat), a + 1 ≤ i' ∧ (i' ≤ b ∨ i' = a + 1) ∧ i' = i2 ∧ Pm a b s' ∧ Blk W g 36 (lbC tl cap (fun p => N (s' p)) (fun p => S (s' p))) ∧ So LkL (EnS N S s') a i' ∧ Turns (fun z => z = g) V W)) := fun W hl hBW hTW => by
          refine ⟨i2, fun p => s (roF id j i (i + 1) p), by have := HI2.out; omega, by have := HI2.out; omega, rfl, HP.out.comp ((ro_pm j i (i + 1) (by omega) (by omega)).wide (by omega) (by omega)), ?_, ?_, hTW⟩
          · rw [← HNS.out.1, ← HNS.out.2, ro_at (fun p => N (s p)), ro_at (fun p => S (s p))] at hBW
            exact hBW
          · rw [← en_ro, HI2.out]
            exact so_down lk_T lk_A ⟨hj1, hj2⟩ HSO.out hl HJL.out
        by_cases hja : a < j
        · have q1 : (a : Int) < (j : Int) := by omega
          obtain ⟨j1, hj1e⟩ : ∃ q, j = q + 1 := ⟨j - 1, by omega⟩
          have fj : IntKind.i64.wrap ((j : Int) - 1) = (j1 : Int) := by rw [HW.out _ (by omega) (by omega)]; omega
          have hj1c : j1 < cap := by omega
          have hj1n : (j1 : Int) < (n : Int) := by omega
          have hj10 : (0 : Int) ≤ (j1 : Int) := by omega
          have hne : j1 ≠ j := by omega
          have HJ1 : Hid (j = j1 + 1) := hj1e
          have hcmp : ((N2 j, S2 j) : Int × ByteArray) = EnS N S s i ∧ ((N2 j1, S2 j1) : Int × ByteArray) = EnS N S s j1 := by
            rw [← HNS.out.1, ← HNS.out.2]
            refine ⟨?_, ?_⟩
            · rw [ro_head _ hj2, ro_head _ hj2]; rfl
            · rw [ro_below _ (by omega) hj2, ro_below _ (by omega) hj2]; rfl
          have HCM : Hid (∀ w : World, Calls Tryz.prog 175 #[.agg #[.int .i64 (N2 j), .string (S2 j)], .agg #[.int .i64 (N2 j1), .string (S2 j1)]] w fun e w' => e = .returned (.int .i64 (lcC (N2 j, S2 j) (N2 j1, S2 j1))) ∧ Below w.heap.size w w') := fun w => sortCmp_any _ _ _ _ w
          have HLC : Hid (lcC (N2 j, S2 j) (N2 j1, S2 j1) < 0 ↔ LkL (EnS N S s i) (EnS N S s j1)) := by
            show _ ↔ _
            rw [hcmp.1, hcmp.2]; exact Iff.rfl
          generalize lcC (N2 j, S2 j) (N2 j1, S2 j1) = cv at *
          clear hcmp hj1e
          by_cases hcv : cv < 0
          · have hcd : decide (cv < 0) = true := decide_eq_true hcv
            have HLL : Hid (LkL (EnS N S s i) (EnS N S s j1)) := HLC.out.1 hcv
            go_wp2_with fail
            refine wp_region_partsS (fun U => Blk U g 36 (lbC tl cap N2 S2)) [([0, 1], 2, false), ([3, 4, 5, 6, 7, 9, 10], 8, true), ([], 11, false), ([12], 13, false), ([], 14, false), ([], 15, false)] [16] [] (by kernel_rfl) (by kernel_rfl) hBd (partsI_force ?_)
            simp only [sgLHNaIns]
            go_wp2_with fail
            refine ⟨rfl, hBd, partsI_yield ?_⟩
            simp only [sgLHNaIns]
            go_wp2_with fail
            first
              | refine ⟨rfl, _, .agg #[.int .i64 (N2 j), .string (S2 j)], rfl, Or.inl ⟨by rfl, fun U hU => by have hW0 := lb_c0 hU j hjc; have hW1 := lb_c1 hU j hjc; go_simp⟩, partsI_force ?_⟩
              | refine ⟨rfl, .agg #[.int .i64 (N2 j), .string (S2 j)], Or.inl ⟨by rfl, fun U hU => by have hW0 := lb_c0 hU j hjc; have hW1 := lb_c1 hU j hjc; go_simp⟩, partsI_force ?_⟩
            simp only [Act.put, sgPHNaIns]
            simp only [sgLHNaIns]
            go_wp2_with fail
            refine ⟨rfl, hBd, partsI_force ?_⟩
            simp only [sgLHNaIns]
            have d0 := lb_c0 hBd j1 hj1c
            have d1 := lb_c1 hBd j1 hj1c
            go_wp2_with fail
            clear d0 d1
            refine ⟨rfl, hBd, partsI_force ?_⟩
            simp only [sgLHNaIns]
            go_wp2_with fail
            refine (HCM.out _).mono ?_
            rintro e U1 ⟨rfl, hb1⟩
            have hB1 : Blk U1 g 36 (lbC tl cap N2 S2) := hBd.below hb1 hBd.lt
            have hT1 : Turns (fun z => z = g) V U1 := HT.out.drew.tr (Turns.bel hb1)
            clear hb1
            go_wp2_with fail
            refine ⟨rfl, hB1, partsI_force ?_⟩
            simp only [sgLHNaIns]
            go_wp2_with fail
            refine ⟨rfl, hB1, partsI_last ?_⟩
            simp only [sgLHNaIns]
            go_wp2_with fail
            refine ⟨rfl, ?_⟩
            have HT2' : Hid (Turns (fun z => z = g) V U1) := hT1
            clear hBd hT1 hBj HCM HT
            have hBd : Blk U1.drew g 36 (lbC tl cap N2 S2) := hB1.drew
            have HT2 : Hid (Turns (fun z => z = g) V U1.drew) := HT2'.out.drew
            clear hB1 HT2'
            go_wp2_with fail
            refine wp_region_partsS (fun U => ∃ N3 S3, N3 j1 = N2 j1 ∧ S3 j1 = S2 j1 ∧ Blk U g 36 (lbC tl cap N3 S3)) [([0, 1, 2, 3, 5, 6, 10, 11, 12], 4, true), ([], 7, true), ([8], 9, true), ([], 13, false), ([14], 15, false)] [] [16, 17] (by kernel_rfl) (by kernel_rfl) ⟨N2, S2, rfl, rfl, hBd⟩ (partsI_yield ?_)
            simp only [sgLHNaIns]
            generalize U1.drew = U2 at *
            go_wp2_with fail
            first
              | refine ⟨rfl, _, .int .i64 (j1 : Int), rfl, Or.inl ⟨by rfl, fun U hU => by go_simp⟩, partsI_yield ?_⟩
              | refine ⟨rfl, .int .i64 (j1 : Int), Or.inl ⟨by rfl, fun U hU => by go_simp⟩, partsI_yield ?_⟩
            simp only [Act.put, sgPHNaIns]
            simp only [sgLHNaIns]
            go_wp2_with fail
            first
              | refine ⟨rfl, _, .int .i64 (j1 : Int), rfl, Or.inl ⟨by rfl, fun U hU => by go_simp⟩, partsI_yield ?_⟩
              | refine ⟨rfl, .int .i64 (j1 : Int), Or.inl ⟨by rfl, fun U hU => by go_simp⟩, partsI_yield ?_⟩
            simp only [Act.put, sgPHNaIns]
            simp only [sgLHNaIns]
            go_wp2_with fail
            first
              | refine ⟨rfl, _, .agg #[.int .i64 (N2 j1), .string (S2 j1)], rfl, Or.inl ⟨by rfl, fun U hU => by obtain ⟨N3, S3, q1, q2, hU⟩ := hU; have hW0 := lb_c0 hU j1 hj1c; have hW1 := lb_c1 hU j1 hj1c; rw [q1] at hW0; rw [q2] at hW1; go_simp⟩, partsI_force ?_⟩
              | refine ⟨rfl, .agg #[.int .i64 (N2 j1), .string (S2 j1)], Or.inl ⟨by rfl, fun U hU => by obtain ⟨N3, S3, q1, q2, hU⟩ := hU; have hW0 := lb_c0 hU j1 hj1c; have hW1 := lb_c1 hU j1 hj1c; rw [q1] at hW0; rw [q2] at hW1; go_simp⟩, partsI_force ?_⟩
            simp only [Act.put, sgPHNaIns]
            simp only [sgLHNaIns]
            have d0 := lb_c0 hBd j hjc
            have d1 := lb_c1 hBd j hjc
            go_wp2_with fail
            refine ⟨rfl, ⟨N2, S2, rfl, rfl, hBd⟩, partsI_force ?_⟩
            simp only [sgLHNaIns]
            have f0 : U2.frozen? ⟨g, j * 2, none⟩ = false := hBd.frozen _
            have f1 : U2.frozen? ⟨g, j * 2 + 1, none⟩ = false := hBd.frozen _
            have k1 := lb_put hBd j hjc (N2 j1) (S2 j1)
            have k2 := lb_put k1 j1 hj1c (N2 j) (S2 j)
            go_wp2_with fail
            refine ⟨rfl, ⟨_, _, by unfold upN; rw [if_neg hne], by unfold upS; rw [if_neg hne], k1⟩, partsI_last ?_⟩
            simp only [sgLHNaIns]
            clear d0 d1 f0 f1
            have d0 := lb_c0 k1 j1 hj1c
            have d1 := lb_c1 k1 j1 hj1c
            have f0 : ((U2.setCell ⟨g, j * 2, none⟩ (.int .i64 (N2 j1))).setCell ⟨g, j * 2 + 1, none⟩ (.string (S2 j1))).frozen? ⟨g, j1 * 2, none⟩ = false := k1.frozen _
            have f1 : ((U2.setCell ⟨g, j * 2, none⟩ (.int .i64 (N2 j1))).setCell ⟨g, j * 2 + 1, none⟩ (.string (S2 j1))).frozen? ⟨g, j1 * 2 + 1, none⟩ = false := k1.frozen _
            have HE : Hid (Blk ((((U2.setCell ⟨g, j * 2, none⟩ (.int .i64 (N2 j1))).setCell ⟨g, j * 2 + 1, none⟩ (.string (S2 j1))).setCell ⟨g, j1 * 2, none⟩ (.int .i64 (N2 j))).setCell ⟨g, j1 * 2 + 1, none⟩ (.string (S2 j))) g 36 (lbC tl cap (upN (upN N2 j (N2 j1)) j1 (N2 j)) (upS (upS S2 j (S2 j1)) j1 (S2 j))) ∧ Turns (fun z => z = g) V ((((U2.setCell ⟨g, j * 2, none⟩ (.int .i64 (N2 j1))).setCell ⟨g, j * 2 + 1, none⟩ (.string (S2 j1))).setCell ⟨g, j1 * 2, none⟩ (.int .i64 (N2 j))).setCell ⟨g, j1 * 2 + 1, none⟩ (.string (S2 j)))) := ⟨k2, (((HT2.out.tr (Turns.cell _ _ _ _ rfl)).tr (Turns.cell _ _ _ _ rfl)).tr (Turns.cell _ _ _ _ rfl)).tr (Turns.cell _ _ _ _ rfl)⟩
            clear k1 k2 hBd
            go_wp2_with fail
            refine ⟨rfl, ?_⟩
            clear d0 d1 f0 f1
            go_wp2_with fail
            go_roundw
            case rel =>
              have hjj := HJ1.out
              refine ⟨j1, by omega, by omega, by first | rfl | go_num | simp, .inr HLL.out, ?_, HE.out.2⟩
              have hk := HE.out.1
              have e1 : upN (upN N2 j (N2 j1)) j1 (N2 j) = roF (fun p => N (s p)) j1 i (i + 1) := funext fun p => by
                have := ro_down (fun p => N (s p)) i j1 (by omega) p
                rw [← this, ← HJ1.out, HNS.out.1]
                rfl
              have e2 : upS (upS S2 j (S2 j1)) j1 (S2 j) = roF (fun p => S (s p)) j1 i (i + 1) := funext fun p => by
                have := ro_down (fun p => S (s p)) i j1 (by omega) p
                rw [← this, ← HJ1.out, HNS.out.2]
                rfl
              rw [e1, e2] at hk
              exact hk
            case measure => have := HJ1.out; simp [intOf]; omega
          · have hcd : decide (cv < 0) = false := decide_eq_false hcv
            have HLL : Hid (j = a ∨ ¬ LkL (EnS N S s i) (EnS N S s (j - 1))) := .inr (by have hjj := HJ1.out; rw [show j - 1 = j1 by omega]; exact fun h => hcv (HLC.out.2 h))
            go_wp2_with fail
            refine wp_region_partsS (fun U => Blk U g 36 (lbC tl cap N2 S2)) [([0, 1], 2, false), ([3, 4, 5, 6, 7, 9, 10], 8, true), ([], 11, false), ([12], 13, false), ([], 14, false), ([], 15, false)] [16] [] (by kernel_rfl) (by kernel_rfl) hBd (partsI_force ?_)
            simp only [sgLHNaIns]
            go_wp2_with fail
            refine ⟨rfl, hBd, partsI_yield ?_⟩
            simp only [sgLHNaIns]
            go_wp2_with fail
            first
              | refine ⟨rfl, _, .agg #[.int .i64 (N2 j), .string (S2 j)], rfl, Or.inl ⟨by rfl, fun U hU => by have hW0 := lb_c0 hU j hjc; have hW1 := lb_c1 hU j hjc; go_simp⟩, partsI_force ?_⟩
              | refine ⟨rfl, .agg #[.int .i64 (N2 j), .string (S2 j)], Or.inl ⟨by rfl, fun U hU => by have hW0 := lb_c0 hU j hjc; have hW1 := lb_c1 hU j hjc; go_simp⟩, partsI_force ?_⟩
            simp only [Act.put, sgPHNaIns]
            simp only [sgLHNaIns]
            go_wp2_with fail
            refine ⟨rfl, hBd, partsI_force ?_⟩
            simp only [sgLHNaIns]
            have d0 := lb_c0 hBd j1 hj1c
            have d1 := lb_c1 hBd j1 hj1c
            go_wp2_with fail
            clear d0 d1
            refine ⟨rfl, hBd, partsI_force ?_⟩
            simp only [sgLHNaIns]
            go_wp2_with fail
            refine (HCM.out _).mono ?_
            rintro e U1 ⟨rfl, hb1⟩
            have hB1 : Blk U1 g 36 (lbC tl cap N2 S2) := hBd.below hb1 hBd.lt
            have hT1 : Turns (fun z => z = g) V U1 := HT.out.drew.tr (Turns.bel hb1)
            clear hb1
            go_wp2_with fail
            refine ⟨rfl, hB1, partsI_force ?_⟩
            simp only [sgLHNaIns]
            go_wp2_with fail
            refine ⟨rfl, hB1, partsI_last ?_⟩
            simp only [sgLHNaIns]
            go_wp2_with fail
            refine ⟨rfl, ?_⟩
            have HD : Hid _ := HDONE.out U1 HLL.out hB1 hT1
            clear hBd hT1 hBj hB1 HCM
            go_wp2_with fail
            go_roundw
            case rel =>
              obtain ⟨i', s', k1, k2, k3, k4, k5, k6, k7⟩ := HD.out
              exact ⟨i', s', k1, k2, by first | (rw [k3]; done) | (rw [k3]; first | rfl | go_num | simp), k4, k5, k6, k7⟩
            case measure => have := HI2.out; simp [intOf]; omega
        · have q1 : ¬ ((a : Int) < (j : Int)) := by omega
          have HD : Hid _ := HDONE.out wr.drew (.inl (by omega)) hBd HT.out.drew
          go_wp2_with fail
          have hu0 : (undef = Value.bool false) = False := by simp [undef]
          have hu1 : (undef = Value.bool true) = False := by simp [undef]
          refine wp_region_partsS (fun U => Blk U g 36 (lbC tl cap N2 S2)) [([0, 1], 2, false), ([3, 4, 5, 6, 7, 9, 10], 8, true), ([], 11, false), ([12], 13, false), ([], 14, false), ([], 15, false)] [16] [] (by kernel_rfl) (by kernel_rfl) hBd (partsI_force ?_)
          simp only [sgLHNaIns]
          go_wp2_with fail
          refine ⟨rfl, hBd, partsI_yield ?_⟩
          simp only [sgLHNaIns]
          go_wp2_with fail
          first
            | refine ⟨rfl, _, undef, rfl, Or.inr ⟨by rfl, rfl⟩, partsI_force ?_⟩
            | refine ⟨rfl, undef, Or.inr ⟨by rfl, rfl⟩, partsI_force ?_⟩
          simp only [Act.put, sgPHNaIns]
          simp only [sgLHNaIns]
          go_wp2_with fail
          refine ⟨rfl, hBd, partsI_force ?_⟩
          simp only [sgLHNaIns]
          go_wp2_with fail
          refine ⟨rfl, hBd, partsI_force ?_⟩
          simp only [sgLHNaIns]
          go_wp2_with fail
          refine ⟨rfl, hBd, partsI_force ?_⟩
          simp only [sgLHNaIns]
          go_wp2_with fail
          refine ⟨rfl, hBd, partsI_last ?_⟩
          simp only [sgLHNaIns]
          go_wp2_with fail
          refine ⟨rfl, ?_⟩
          clear hBd hBj
          go_wp2_with fail
          go_roundw
          case rel =>
            obtain ⟨i', s', k1, k2, k3, k4, k5, k6, k7⟩ := HD.out
            exact ⟨i', s', k1, k2, by first | (rw [k3]; done) | (rw [k3]; first | rfl | go_num | simp), k4, k5, k6, k7⟩
          case measure => have := HI2.out; simp [intOf]; omega
    · have i1 : ¬ ((i : Int) < (b : Int)) := by omega
      go_wp2_with fail
      go_end0
      exact ⟨rfl, s, HP.out, HB0.out, HSO.out.sub (Nat.le_refl _) (by omega), HT0.out⟩
end Go.Proofs.YtojnlmfahgeidaaGreatDoor
