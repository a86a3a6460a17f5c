/- Descriptors: the statements' awake; FdFlags' law. -/
import Derived.Test.YtldkmogennmldaaHFdRSeek
import Derived.Handy
import Derived.BigQuiet
import Derived.Deep.QuietTactic
import Derived.Test.YtldkmogennmldaaHFdRLay

namespace Go.Proofs.Ytldkmogennmldaa
open Go Go.RowKit
set_option linter.unusedSimpArgs false
set_option linter.unusedVariables false
structure TieO (O : Nat → Dsc) (L : List Ro) : Prop where
  le : L.length ≤ 64
  on : ∀ j, j < 64 → onL L j = true → dL L j = O j ∧ (O j).i ≠ 0 ∧ 0 ≤ (O j).a ∧ (O j).a ≤ 1048576
  off : ∀ j, j < 64 → onL L j = false → (O j).i = 0
section
variable {O : Nat → Dsc} {L : List Ro}
theorem TieO.new : TieO (fun _ => ds0) [] := ⟨by decide, fun j hj h => by simp [onL] at h, fun j hj h => rfl⟩
theorem onL_lt {j : Nat} (h : onL L j = true) : j < L.length := by
  obtain ⟨x, hx, _⟩ := onL_some h
  exact (List.getElem?_eq_some_iff.1 hx).1
theorem TieO.opnI (h : TieO O L) (n : Int) : opn O n ↔ (0 ≤ n ∧ onL L n.toNat = true) := by
  constructor
  · intro ⟨h1, h2, h3⟩
    refine ⟨h1, ?_⟩
    cases q : onL L n.toNat with
    | true => rfl
    | false => exact absurd (h.off _ (by omega) q) h3
  · intro ⟨h1, h2⟩
    have hl := onL_lt h2
    have := h.le
    exact ⟨h1, by omega, (h.on _ (by omega) h2).2.1⟩
theorem TieO.low (h : TieO O L) {k : Nat} (hk : LwD O k) : LwR L k := by
  refine ⟨hk.le, fun j hj => ?_, fun hl => ?_⟩
  · cases q : onL L j with
    | true => rfl
    | false => exact absurd (h.off j (by have := hk.le; omega) q) (hk.all j hj)
  · cases q : onL L k with
    | false => rfl
    | true => exact absurd (hk.at_ hl) (h.on k hl q).2.1
theorem TieO.lay (h : TieO O L) (k : Nat) (hk : k < 64) (d : Dsc) (h1 : d.i ≠ 0) (h2 : 0 ≤ d.a ∧ d.a ≤ 1048576) : TieO (upD O k d) (layL L k ⟨true, d⟩) := by
  have hl := h.le
  refine ⟨by rw [layL_len]; omega, fun j hj ho => ?_, fun j hj ho => ?_⟩
  · obtain ⟨e1, e2⟩ := layL_at L k ⟨true, d⟩ j
    rw [e1] at ho
    rw [e2]
    unfold upD
    by_cases c : j = k
    · rw [if_pos c, if_pos c]; exact ⟨rfl, h1, h2.1, h2.2⟩
    · rw [if_neg c] at ho
      rw [if_neg c, if_neg c]
      exact h.on j hj ho
  · obtain ⟨e1, e2⟩ := layL_at L k ⟨true, d⟩ j
    rw [e1] at ho
    unfold upD
    by_cases c : j = k
    · rw [if_pos c] at ho; cases ho
    · rw [if_neg c] at ho
      rw [if_neg c]
      exact h.off j hj ho
theorem TieO.shut (h : TieO O L) (k : Nat) (hk : k < 64) : TieO (upD O k ds0) (layL L k ro0) := by
  have hl := h.le
  refine ⟨by rw [layL_len]; omega, fun j hj ho => ?_, fun j hj ho => ?_⟩
  · obtain ⟨e1, e2⟩ := layL_at L k ro0 j
    rw [e1] at ho
    rw [e2]
    unfold upD
    by_cases c : j = k
    · rw [if_pos c] at ho; cases ho
    · rw [if_neg c] at ho
      rw [if_neg c, if_neg c]
      exact h.on j hj ho
  · obtain ⟨e1, e2⟩ := layL_at L k ro0 j
    rw [e1] at ho
    unfold upD
    by_cases c : j = k
    · rw [if_pos c]; rfl
    · rw [if_neg c] at ho
      rw [if_neg c]
      exact h.off j hj ho
/-- what the document's call leaves -/
def RR (V : World) (O' : Nat → Dsc) (g : Nat) (a : Option Addr) (m : Nat) (w' : World) : Prop := ∃ g' L', a = some ⟨g', 0, none⟩ ∧ m = L'.length ∧ IsRo w' g' L' ∧ TieO O' L' ∧ (g' = g ∨ V.heap.size ≤ g') ∧ Below V.heap.size V w'
theorem rr_same {V w' : World} {g : Nat} (ht : TieO O L) (h : IsRo V g L) (hb : Below V.heap.size V w') : RR V O g (some ⟨g, 0, none⟩) L.length w' := ⟨g, L, rfl, rfl, h.below hb, ht, .inl rfl, hb⟩
theorem rr_lay {V w' : World} {g n c' : Nat} {a : Option Addr} {L2 : List Ro} {O' : Nat → Dsc} (ht : TieO O' L2) (h : RLy V L2 a n c' w') : RR V O' g a n w' := by
  obtain ⟨g', h1, h2, h3, h4, h5⟩ := h
  exact ⟨g', L2, h1, h2, h4, ht, .inr h3, h5⟩
/-- a deed that tells a number and an error, of both -/
def Two2 (P : World → (Ending → World → Prop) → Prop) (R : World → (Ending → World → Prop) → Prop) (b g : Nat) (O : Nat → Dsc) (L : List Ro) : Prop :=
  ∃ (n er : Int) (O' : Nat → Dsc), (∀ V, FdB V b O → P V fun e w' => e = .returned (.tuple #[.int .i64 n, .int .i64 er]) ∧ FdB w' b O' ∧ OneT b V w') ∧ (∀ V, IsRo V g L → R V fun e w' => ∃ a m c', e = .returned (.tuple #[.slice a m c', .int .i64 n, .int .i64 er]) ∧ RR V O' g a m w')
/-- a deed that tells an error -/
def Two1 (P : World → (Ending → World → Prop) → Prop) (R : World → (Ending → World → Prop) → Prop) (b g : Nat) (O : Nat → Dsc) (L : List Ro) : Prop :=
  ∃ (er : Int) (O' : Nat → Dsc), (∀ V, FdB V b O → P V fun e w' => e = .returned (.int .i64 er) ∧ FdB w' b O' ∧ OneT b V w') ∧ (∀ V, IsRo V g L → R V fun e w' => ∃ a m c', e = .returned (.tuple #[.slice a m c', .int .i64 er]) ∧ RR V O' g a m w')
theorem two_open (ht : TieO O L) (b g c : Nat) (i f : Int) (hf : -9223372036854775808 ≤ f ∧ f ≤ 9223372036854775807) : Two2 (fun V Q => Calls Try.prog 14 #[.pointer (some ⟨b, 0, none⟩), .int .i64 i, .int .i64 f] V Q) (fun V Q => Calls Try.prog 28 #[.slice (some ⟨g, 0, none⟩) L.length c, .int .i64 i, .int .i64 f] V Q) b g O L := by
  by_cases hm : mayI f
  · by_cases hi : 1 ≤ i ∧ i ≤ 4096
    · obtain ⟨k, hk⟩ := lwd_there O
      by_cases h64 : k < 64
      · refine ⟨(k : Int), 0, upD O k ⟨i, f, 0⟩, fun V hV => ?_, fun V hV => ?_⟩
        · have := fopen_ok hk i f hm hi V hV
          rw [show lyN k = (k : Int) from if_pos h64, show lyE k = 0 from if_pos h64, show lyD O k ⟨i, f, 0⟩ = upD O k ⟨i, f, 0⟩ from if_pos h64] at this
          exact this
        · exact (rput_ok (c := c) ht.le k h64 (ht.low hk) i f hf hm hi V hV).mono fun e w' ⟨a, n, c', h1, h2⟩ => ⟨a, n, c', h1, rr_lay (ht.lay k h64 ⟨i, f, 0⟩ (by show i ≠ 0; omega) ⟨by show (0 : Int) ≤ 0; omega, by show (0 : Int) ≤ 1048576; omega⟩) h2⟩
      · have e : k = 64 := by have := hk.le; omega
        subst e
        refine ⟨0, 230, O, fun V hV => ?_, fun V hV => ?_⟩
        · exact fopen_ok hk i f hm hi V hV
        · exact (rput_full (c := c) ht.le (ht.low hk) i f hf hm hi V hV).mono fun e w' ⟨h1, h2⟩ => ⟨_, _, c, h1, rr_same ht hV (by rw [h2]; exact Below.refl _ _)⟩
    · exact ⟨0, 1, O, fun V hV => (fopen_bad2 _ i f hm hi V).mono fun e w' ⟨h1, h2⟩ => ⟨h1, by rw [h2]; exact hV, by rw [h2]; exact OneT.of_below (Below.refl _ _)⟩, fun V hV => (rput_bad2 L.length (some ⟨g, 0, none⟩) i f hf hm hi V).mono fun e w' ⟨h1, h2⟩ => ⟨_, _, c, h1, rr_same ht hV (by rw [h2]; exact Below.refl _ _)⟩⟩
  · exact ⟨0, 232, O, fun V hV => (fopen_bad1 _ i f hm V).mono fun e w' ⟨h1, h2⟩ => ⟨h1, by rw [h2]; exact hV, by rw [h2]; exact OneT.of_below (Below.refl _ _)⟩, fun V hV => (rput_bad1 L.length (some ⟨g, 0, none⟩) i f hf hm V).mono fun e w' ⟨h1, h2⟩ => ⟨_, _, c, h1, rr_same ht hV (by rw [h2]; exact Below.refl _ _)⟩⟩
theorem TieO.got (ht : TieO O L) {n : Int} (ho : opn O n) : ∃ (j : Nat) (x : Ro), n = (j : Int) ∧ j < 64 ∧ L[j]? = some x ∧ x.on = true ∧ x.d = O j ∧ (O j).i ≠ 0 ∧ 0 ≤ (O j).a ∧ (O j).a ≤ 1048576 := by
  obtain ⟨h1, h2⟩ := (ht.opnI n).1 ho
  obtain ⟨j, rfl⟩ : ∃ j : Nat, n = (j : Int) := ⟨n.toNat, by omega⟩
  rw [show (j : Int).toNat = j by omega] at h2
  obtain ⟨x, hx, h3, h4⟩ := onL_some h2
  have hj : j < 64 := by have := ht.le; have := onL_lt h2; omega
  obtain ⟨h5, h6, h7, h8⟩ := ht.on j hj h2
  exact ⟨j, x, rfl, hj, hx, h3, by rw [← h4]; exact h5, h6, h7, h8⟩
theorem ro_eta {x : Ro} {d : Dsc} (h1 : x.on = true) (h2 : x.d = d) : x = ⟨true, d⟩ := by
  cases x
  simp_all
theorem two_close (ht : TieO O L) (b g c : Nat) (n : Int) : Two1 (fun V Q => Calls Try.prog 15 #[.pointer (some ⟨b, 0, none⟩), .int .i64 n] V Q) (fun V Q => Calls Try.prog 29 #[.slice (some ⟨g, 0, none⟩) L.length c, .int .i64 n] V Q) b g O L := by
  by_cases ho : opn O n
  · obtain ⟨j, x, rfl, hj, hx, hon, hd, _⟩ := ht.got ho
    refine ⟨0, upD O j ds0, fun V hV => ?_, fun V hV => ?_⟩
    · have := fclose_yes (j : Int) V hV ho
      rw [show (j : Int).toNat = j by omega] at this
      exact this
    · exact (rclose_yes (c := c) ht.le j x hx hon V hV).mono fun e w' ⟨a, m, c', h1, h2⟩ => ⟨a, m, c', h1, rr_lay (ht.shut j hj) h2⟩
  · exact ⟨231, O, fun V hV => (fclose_gen _ n V (fof_no b O n ho V hV)).mono fun e w' ⟨h1, h2⟩ => ⟨h1, by rw [h2]; exact hV, by rw [h2]; exact OneT.of_below (Below.refl _ _)⟩, fun V hV => (rclose_no (c := c) ht.le n (fun q => ho ((ht.opnI n).2 q)) V hV).mono fun e w' ⟨h1, h2⟩ => ⟨_, _, c, h1, rr_same ht hV h2⟩⟩
theorem two_move (ht : TieO O L) (b g c : Nat) (n p : Int) : Two1 (fun V Q => Calls Try.prog 22 #[.pointer (some ⟨b, 0, none⟩), .int .i64 n, .int .i64 p] V Q) (fun V Q => Calls Try.prog 30 #[.slice (some ⟨g, 0, none⟩) L.length c, .int .i64 n, .int .i64 p] V Q) b g O L := by
  by_cases ho : opn O n
  · obtain ⟨j, x, rfl, hj, hx, hon, hd, h6, _⟩ := ht.got ho
    by_cases hp : 0 ≤ p ∧ p ≤ 1048576
    · refine ⟨0, upD O j ⟨(O j).i, (O j).g, p⟩, fun V hV => ?_, fun V hV => ?_⟩
      · have := fmove_ok (j : Int) p V hV ho hp
        rw [show (j : Int).toNat = j by omega] at this
        exact this
      · refine (rmove_ok (c := c) ht.le j x hx hon p hp V hV).mono fun e w' ⟨a, m, c', h1, h2⟩ => ⟨a, m, c', h1, ?_⟩
        rw [hd] at h2
        exact rr_lay (ht.lay j hj ⟨(O j).i, (O j).g, p⟩ h6 hp) h2
    · exact ⟨233, O, fun V hV => (fmove_bad (j : Int) p V hV ho hp).mono fun e w' ⟨h1, h2⟩ => ⟨h1, by rw [h2]; exact hV, by rw [h2]; exact OneT.of_below (Below.refl _ _)⟩, fun V hV => (rmove_bad (c := c) ht.le j x hx hon p hp V hV).mono fun e w' ⟨h1, h2⟩ => ⟨_, _, c, h1, rr_same ht hV h2⟩⟩
  · exact ⟨231, O, fun V hV => (fmove_gen _ n p V (fof_no b O n ho V hV)).mono fun e w' ⟨h1, h2⟩ => ⟨h1, by rw [h2]; exact hV, by rw [h2]; exact OneT.of_below (Below.refl _ _)⟩, fun V hV => (rmove_no (c := c) ht.le n p (fun q => ho ((ht.opnI n).2 q)) V hV).mono fun e w' ⟨h1, h2⟩ => ⟨_, _, c, h1, rr_same ht hV h2⟩⟩
theorem two_dup (ht : TieO O L) (b g c : Nat) (n : Int) : Two2 (fun V Q => Calls Try.prog 19 #[.pointer (some ⟨b, 0, none⟩), .int .i64 n] V Q) (fun V Q => Calls Try.prog 31 #[.slice (some ⟨g, 0, none⟩) L.length c, .int .i64 n] V Q) b g O L := by
  by_cases ho : opn O n
  · obtain ⟨j, x, rfl, hj, hx, hon, hd, h6, h7, h8⟩ := ht.got ho
    obtain ⟨k, hk⟩ := lwd_there O
    by_cases h64 : k < 64
    · refine ⟨(k : Int), 0, upD O k (O j), fun V hV => ?_, fun V hV => ?_⟩
      · have := fdup_ok hk (j : Int) ho V hV
        rw [show (j : Int).toNat = j by omega, show lyN k = (k : Int) from if_pos h64, show lyE k = 0 from if_pos h64, show lyD O k (O j) = upD O k (O j) from if_pos h64] at this
        exact this
      · refine (rdup_ok (c := c) ht.le k h64 (ht.low hk) j x hx hon V hV).mono fun e w' ⟨a, m, c', h1, h2⟩ => ⟨a, m, c', h1, ?_⟩
        rw [ro_eta hon hd] at h2
        exact rr_lay (ht.lay k h64 (O j) h6 ⟨h7, h8⟩) h2
    · have e : k = 64 := by have := hk.le; omega
      subst e
      refine ⟨0, 230, O, fun V hV => fdup_ok hk (j : Int) ho V hV, fun V hV => ?_⟩
      exact (rdup_full (c := c) ht.le (ht.low hk) j x hx hon V hV).mono fun e w' ⟨h1, h2⟩ => ⟨_, _, c, h1, rr_same ht hV h2⟩
  · refine ⟨0, 231, O, fun V hV => ?_, fun V hV => (rdup_no (c := c) ht.le n (fun q => ho ((ht.opnI n).2 q)) V hV).mono fun e w' ⟨h1, h2⟩ => ⟨_, _, c, h1, rr_same ht hV h2⟩⟩
    have hg := fget_any n V hV
    rw [(gt_no ho).1, (gt_no ho).2] at hg
    exact (fdup_bad _ n 231 (by decide) ds0 V hg).mono fun e w' ⟨h1, h2⟩ => ⟨h1, hV.below h2, OneT.of_below h2⟩
theorem two_seek (ht : TieO O L) (b g c : Nat) (n p q z : Int) : Two2 (fun V Q => Calls Try.prog 21 #[.pointer (some ⟨b, 0, none⟩), .int .i64 n, .int .i64 p, .int .i64 q, .int .i64 z] V Q) (fun V Q => Calls Try.prog 32 #[.slice (some ⟨g, 0, none⟩) L.length c, .int .i64 n, .int .i64 p, .int .i64 q, .int .i64 z] V Q) b g O L := by
  by_cases ho : opn O n
  · obtain ⟨j, x, rfl, hj, hx, hon, hd, h6, h7, h8⟩ := ht.got ho
    by_cases hz : 0 ≤ z ∧ z ≤ 1048576
    · by_cases hq : 0 ≤ q ∧ q ≤ 2
      · have hA : 0 ≤ x.d.a ∧ x.d.a ≤ 1048576 := by rw [hd]; exact ⟨h7, h8⟩
        have hA2 : 0 ≤ (O (j : Int).toNat).a ∧ (O (j : Int).toNat).a ≤ 1048576 := by rw [show (j : Int).toNat = j by omega]; exact ⟨h7, h8⟩
        by_cases hr : 0 ≤ fromI q (O j).a z + p ∧ fromI q (O j).a z + p ≤ 1048576
        · refine ⟨fromI q (O j).a z + p, 0, upD O j ⟨(O j).i, (O j).g, fromI q (O j).a z + p⟩, fun V hV => ?_, fun V hV => ?_⟩
          · have := fseek_ok p q z V hV ho hz hq hA2 (fromI q (O j).a z + p) (by rw [show (j : Int).toNat = j by omega]) hr.1 hr.2
            rw [show (j : Int).toNat = j by omega] at this
            exact this
          · refine (rseek_ok (c := c) ht.le j x hx hon p q z hz hq hA (fromI q (O j).a z + p) (by rw [hd]) hr V hV).mono fun e w' ⟨a, m, c', h1, h2⟩ => ⟨a, m, c', h1, ?_⟩
            rw [hd] at h2
            exact rr_lay (ht.lay j hj ⟨(O j).i, (O j).g, fromI q (O j).a z + p⟩ h6 hr) h2
        · have hb : p < -(fromI q (O j).a z) ∨ 1048576 - (fromI q (O j).a z) < p := by omega
          refine ⟨0, 233, O, fun V hV => ?_, fun V hV => ?_⟩
          · exact (fseek_bad p q z V hV ho hz hq hA2 (by rw [show (j : Int).toNat = j by omega]; exact hb)).mono fun e w' ⟨h1, h2⟩ => ⟨h1, by rw [h2]; exact hV, by rw [h2]; exact OneT.of_below (Below.refl _ _)⟩
          · exact (rseek_bad (c := c) ht.le j x hx hon p q z hz hq hA (by rw [hd]; exact hb) V hV).mono fun e w' ⟨h1, h2⟩ => ⟨_, _, c, h1, rr_same ht hV h2⟩
      · exact ⟨0, 1, O, fun V hV => (fseek_arg p q z V hV ho (.inr hq)).mono fun e w' ⟨h1, h2⟩ => ⟨h1, by rw [h2]; exact hV, by rw [h2]; exact OneT.of_below (Below.refl _ _)⟩, fun V hV => (rseek_arg (c := c) ht.le j x hx hon p q z (.inr hq) V hV).mono fun e w' ⟨h1, h2⟩ => ⟨_, _, c, h1, rr_same ht hV h2⟩⟩
    · exact ⟨0, 1, O, fun V hV => (fseek_arg p q z V hV ho (.inl hz)).mono fun e w' ⟨h1, h2⟩ => ⟨h1, by rw [h2]; exact hV, by rw [h2]; exact OneT.of_below (Below.refl _ _)⟩, fun V hV => (rseek_arg (c := c) ht.le j x hx hon p q z (.inl hz) V hV).mono fun e w' ⟨h1, h2⟩ => ⟨_, _, c, h1, rr_same ht hV h2⟩⟩
  · exact ⟨0, 231, O, fun V hV => (fseek_gen _ n p q z V (fof_no b O n ho V hV)).mono fun e w' ⟨h1, h2⟩ => ⟨h1, by rw [h2]; exact hV, by rw [h2]; exact OneT.of_below (Below.refl _ _)⟩, fun V hV => (rseek_no (c := c) ht.le n p q z (fun qq => ho ((ht.opnI n).2 qq)) V hV).mono fun e w' ⟨h1, h2⟩ => ⟨_, _, c, h1, rr_same ht hV h2⟩⟩
end
end Go.Proofs.Ytldkmogennmldaa

namespace Go.Proofs.Ytldkmogennmldaa
open Go Go.RowKit
set_option linter.unusedSimpArgs false
set_option linter.unusedVariables false
/-- what one leaves -/
def OneR (w : World) (b g : Nat) (e : Ending) (w' : World) : Prop := ∃ a m c' O' g' L', e = .returned (.tuple #[.slice a m c', .bool true]) ∧ a = some ⟨g', 0, none⟩ ∧ m = L'.length ∧ FdB w' b O' ∧ IsRo w' g' L' ∧ TieO O' L' ∧ g' ≠ b ∧ (g' = g ∨ w.heap.size ≤ g') ∧ OneT b w w'
theorem OneT.blk {b k t : Nat} {w w' : World} {cs : Array Value} (h : OneT b w w') (hb : Blk w k t cs) (hne : k ≠ b) : Blk w' k t cs := (h.block k hb.lt hne).trans hb
section
variable {b g c : Nat} {O : Nat → Dsc} {L : List Ro}
theorem oneR_of {w w1 w2 w3 : World} {O' : Nat → Dsc} {a : Option Addr} {m c' : Nat} (hne : g ≠ b) (hb1 : Below w.heap.size w w1) (h2 : FdB w2 b O') (t2 : OneT b w1 w2) (h3 : RR w2 O' g a m w3) : OneR w b g (.returned (.tuple #[.slice a m c', .bool true])) w3 := by
  obtain ⟨g', L', e1, e2, h4, h5, h6, h7⟩ := h3
  have hl := h2.lt
  refine ⟨a, m, c', O', g', L', rfl, e1, e2, h2.below h7, h4, h5, ?_, ?_, ((OneT.of_below hb1).tr t2).tr (OneT.of_below h7)⟩
  · rcases h6 with q | q
    · rw [q]; exact hne
    · omega
  · rcases h6 with q | q
    · exact .inl q
    · exact .inr (Nat.le_trans (Nat.le_trans hb1.size t2.size) q)
set_option maxRecDepth 100000 in
set_option maxHeartbeats 16000000 in
theorem one_any (ht : TieO O L) (kd fd xa xb xc : Int) (hxb : -9223372036854775808 ≤ xb ∧ xb ≤ 9223372036854775807) (hne : g ≠ b) (w : World) (hB : FdB w b O) (hR : IsRo w g L) : Calls Try.prog 16 #[.pointer (some ⟨b, 0, none⟩), .slice (some ⟨g, 0, none⟩) L.length c, .agg #[.int .i64 kd, .int .i64 fd, .int .i64 xa, .int .i64 xb, .int .i64 xc]] w (OneR w b g) := by
  have hb1 : Below w.heap.size w (w.alloc (.cells #[.int .i64 kd, .int .i64 fd, .int .i64 xa, .int .i64 xb, .int .i64 xc] 31)) := below_new1 _ _
  have u1 : Blk (w.alloc (.cells #[.int .i64 kd, .int .i64 fd, .int .i64 xa, .int .i64 xb, .int .i64 xc] 31)) w.heap.size 31 #[.int .i64 kd, .int .i64 fd, .int .i64 xa, .int .i64 xb, .int .i64 xc] := Blk.new _ _ _
  have hwb : w.heap.size ≠ b := fun q => by have := hB.lt; omega
  have HW : Hid (FdB (w.alloc (.cells #[.int .i64 kd, .int .i64 fd, .int .i64 xa, .int .i64 xb, .int .i64 xc] 31)) b O ∧ Below w.heap.size w (w.alloc (.cells #[.int .i64 kd, .int .i64 fd, .int .i64 xa, .int .i64 xb, .int .i64 xc] 31)) ∧ IsRo (w.alloc (.cells #[.int .i64 kd, .int .i64 fd, .int .i64 xa, .int .i64 xb, .int .i64 xc] 31)) g L ∧ g ≠ b ∧ w.heap.size ≠ b ∧ Blk (w.alloc (.cells #[.int .i64 kd, .int .i64 fd, .int .i64 xa, .int .i64 xb, .int .i64 xc] 31)) w.heap.size 31 #[.int .i64 kd, .int .i64 fd, .int .i64 xa, .int .i64 xb, .int .i64 xc]) := ⟨hB.below hb1, hb1, hR.below hb1, hne, hwb, u1⟩
  have c0 := (u1.cell 0).trans rfl
  have c1 := (u1.cell 1).trans rfl
  have c2 := (u1.cell 2).trans rfl
  have c3 := (u1.cell 3).trans rfl
  have c4 := (u1.cell 4).trans rfl
  clear hb1 u1 hwb hB hR
  have hk : kd = 0 ∨ kd = 1 ∨ kd = 2 ∨ kd = 3 ∨ kd = 4 ∨ (¬ kd = 0 ∧ ¬ kd = 1 ∧ ¬ kd = 2 ∧ ¬ kd = 3 ∧ ¬ kd = 4) := by omega
  rcases hk with rfl | rfl | rfl | rfl | rfl | ⟨k0, k1, k2, k3, k4⟩
  · obtain ⟨n, er, O', hP, hQ⟩ := two_open ht b g c xa xb hxb
    have HP := hP _ HW.out.1
    have HQ : Hid (∀ V, IsRo V g L → _) := hQ
    have bn : (n == n) = true := by simp
    have be : (er == er) = true := by simp
    clear hP hQ
    go_enter Try.func16, Try.ntmps16
    go_wp2_with fail
    refine HP.mono ?_
    rintro e w2 ⟨rfl, hF2, ht2⟩
    have hQ2 := HQ.out w2 (HW.out.2.2.1.turn ht2 HW.out.2.2.2.1)
    have u2 := ht2.blk HW.out.2.2.2.2.2 HW.out.2.2.2.2.1
    have d1 := (u2.cell 1).trans rfl
    have d2 := (u2.cell 2).trans rfl
    have d3 := (u2.cell 3).trans rfl
    have d4 := (u2.cell 4).trans rfl
    have HE : Hid (FdB w2 b O' ∧ OneT b (w.alloc (.cells #[.int .i64 0, .int .i64 fd, .int .i64 xa, .int .i64 xb, .int .i64 xc] 31)) w2) := ⟨hF2, ht2⟩
    clear hF2 ht2 HP HQ u2
    go_wp2_with fail
    refine hQ2.mono ?_
    rintro e w3 ⟨a, m, c', rfl, hR3⟩
    have HR3 : Hid (OneR w b g (.returned (.tuple #[.slice a m c', .bool true])) w3) := oneR_of HW.out.2.2.2.1 HW.out.2.1 HE.out.1 HE.out.2 hR3
    clear hR3 hQ2
    go_wp2_with fail
    go_ret2
    exact HR3.out
  · obtain ⟨er, O', hP, hQ⟩ := two_close ht b g c fd
    have HP := hP _ HW.out.1
    have HQ : Hid (∀ V, IsRo V g L → _) := hQ
    have be : (er == er) = true := by simp
    clear hP hQ
    go_enter Try.func16, Try.ntmps16
    go_wp2_with fail
    refine HP.mono ?_
    rintro e w2 ⟨rfl, hF2, ht2⟩
    have hQ2 := HQ.out w2 (HW.out.2.2.1.turn ht2 HW.out.2.2.2.1)
    have u2 := ht2.blk HW.out.2.2.2.2.2 HW.out.2.2.2.2.1
    have d1 := (u2.cell 1).trans rfl
    have d2 := (u2.cell 2).trans rfl
    have d3 := (u2.cell 3).trans rfl
    have d4 := (u2.cell 4).trans rfl
    have HE : Hid (FdB w2 b O' ∧ OneT b (w.alloc (.cells #[.int .i64 1, .int .i64 fd, .int .i64 xa, .int .i64 xb, .int .i64 xc] 31)) w2) := ⟨hF2, ht2⟩
    clear hF2 ht2 HP HQ u2
    go_wp2_with fail
    refine hQ2.mono ?_
    rintro e w3 ⟨a, m, c', rfl, hR3⟩
    have HR3 : Hid (OneR w b g (.returned (.tuple #[.slice a m c', .bool true])) w3) := oneR_of HW.out.2.2.2.1 HW.out.2.1 HE.out.1 HE.out.2 hR3
    clear hR3 hQ2
    go_wp2_with fail
    go_ret2
    exact HR3.out
  · obtain ⟨er, O', hP, hQ⟩ := two_move ht b g c fd xa
    have HP := hP _ HW.out.1
    have HQ : Hid (∀ V, IsRo V g L → _) := hQ
    have be : (er == er) = true := by simp
    clear hP hQ
    go_enter Try.func16, Try.ntmps16
    go_wp2_with fail
    refine HP.mono ?_
    rintro e w2 ⟨rfl, hF2, ht2⟩
    have hQ2 := HQ.out w2 (HW.out.2.2.1.turn ht2 HW.out.2.2.2.1)
    have u2 := ht2.blk HW.out.2.2.2.2.2 HW.out.2.2.2.2.1
    have d1 := (u2.cell 1).trans rfl
    have d2 := (u2.cell 2).trans rfl
    have d3 := (u2.cell 3).trans rfl
    have d4 := (u2.cell 4).trans rfl
    have HE : Hid (FdB w2 b O' ∧ OneT b (w.alloc (.cells #[.int .i64 2, .int .i64 fd, .int .i64 xa, .int .i64 xb, .int .i64 xc] 31)) w2) := ⟨hF2, ht2⟩
    clear hF2 ht2 HP HQ u2
    go_wp2_with fail
    refine hQ2.mono ?_
    rintro e w3 ⟨a, m, c', rfl, hR3⟩
    have HR3 : Hid (OneR w b g (.returned (.tuple #[.slice a m c', .bool true])) w3) := oneR_of HW.out.2.2.2.1 HW.out.2.1 HE.out.1 HE.out.2 hR3
    clear hR3 hQ2
    go_wp2_with fail
    go_ret2
    exact HR3.out
  · obtain ⟨n, er, O', hP, hQ⟩ := two_dup ht b g c fd
    have HP := hP _ HW.out.1
    have HQ : Hid (∀ V, IsRo V g L → _) := hQ
    have bn : (n == n) = true := by simp
    have be : (er == er) = true := by simp
    clear hP hQ
    go_enter Try.func16, Try.ntmps16
    go_wp2_with fail
    refine HP.mono ?_
    rintro e w2 ⟨rfl, hF2, ht2⟩
    have hQ2 := HQ.out w2 (HW.out.2.2.1.turn ht2 HW.out.2.2.2.1)
    have u2 := ht2.blk HW.out.2.2.2.2.2 HW.out.2.2.2.2.1
    have d1 := (u2.cell 1).trans rfl
    have d2 := (u2.cell 2).trans rfl
    have d3 := (u2.cell 3).trans rfl
    have d4 := (u2.cell 4).trans rfl
    have HE : Hid (FdB w2 b O' ∧ OneT b (w.alloc (.cells #[.int .i64 3, .int .i64 fd, .int .i64 xa, .int .i64 xb, .int .i64 xc] 31)) w2) := ⟨hF2, ht2⟩
    clear hF2 ht2 HP HQ u2
    go_wp2_with fail
    refine hQ2.mono ?_
    rintro e w3 ⟨a, m, c', rfl, hR3⟩
    have HR3 : Hid (OneR w b g (.returned (.tuple #[.slice a m c', .bool true])) w3) := oneR_of HW.out.2.2.2.1 HW.out.2.1 HE.out.1 HE.out.2 hR3
    clear hR3 hQ2
    go_wp2_with fail
    go_ret2
    exact HR3.out
  · obtain ⟨n, er, O', hP, hQ⟩ := two_seek ht b g c fd xa xb xc
    have HP := hP _ HW.out.1
    have HQ : Hid (∀ V, IsRo V g L → _) := hQ
    have bn : (n == n) = true := by simp
    have be : (er == er) = true := by simp
    clear hP hQ
    go_enter Try.func16, Try.ntmps16
    go_wp2_with fail
    refine HP.mono ?_
    rintro e w2 ⟨rfl, hF2, ht2⟩
    have hQ2 := HQ.out w2 (HW.out.2.2.1.turn ht2 HW.out.2.2.2.1)
    have u2 := ht2.blk HW.out.2.2.2.2.2 HW.out.2.2.2.2.1
    have d1 := (u2.cell 1).trans rfl
    have d2 := (u2.cell 2).trans rfl
    have d3 := (u2.cell 3).trans rfl
    have d4 := (u2.cell 4).trans rfl
    have HE : Hid (FdB w2 b O' ∧ OneT b (w.alloc (.cells #[.int .i64 4, .int .i64 fd, .int .i64 xa, .int .i64 xb, .int .i64 xc] 31)) w2) := ⟨hF2, ht2⟩
    clear hF2 ht2 HP HQ u2
    go_wp2_with fail
    refine hQ2.mono ?_
    rintro e w3 ⟨a, m, c', rfl, hR3⟩
    have HR3 : Hid (OneR w b g (.returned (.tuple #[.slice a m c', .bool true])) w3) := oneR_of HW.out.2.2.2.1 HW.out.2.1 HE.out.1 HE.out.2 hR3
    clear hR3 hQ2
    go_wp2_with fail
    go_ret2
    exact HR3.out
  · have HS : Hid (OneR w b g (.returned (.tuple #[.slice (some ⟨g, 0, none⟩) L.length c, .bool true])) (w.alloc (.cells #[.int .i64 kd, .int .i64 fd, .int .i64 xa, .int .i64 xb, .int .i64 xc] 31))) := ⟨_, _, c, O, g, L, rfl, rfl, rfl, HW.out.1, HW.out.2.2.1, ht, HW.out.2.2.2.1, .inl rfl, OneT.of_below HW.out.2.1⟩
    go_enter Try.func16, Try.ntmps16
    go_wp2_with fail
    go_ret2
    exact HS.out
end
end Go.Proofs.Ytldkmogennmldaa

namespace Go.Proofs.Ytldkmogennmldaa
open Go Go.RowKit
set_option linter.unusedSimpArgs false
set_option linter.unusedVariables false
theorem soL_more (P : Nat → Bool) (n : Nat) : ∀ k, (∀ j, n ≤ j → j < n + k → P j = false) → soL P (n + k) = soL P n
  | 0, _ => rfl
  | k + 1, h => by
    rw [← Nat.add_assoc, soL, soL_more P n k fun j h1 h2 => h j h1 (by omega), h (n + k) (by omega) (by omega)]
    simp
theorem usN_congr {O O2 : Nat → Dsc} {I : Int} : ∀ (l : List Nat), (∀ j ∈ l, (O j).i = (O2 j).i) → usN O I l = usN O2 I l
  | [], _ => rfl
  | k :: l, h => by
    rw [usN, usN, usN_congr l fun j hj => h j (List.mem_cons_of_mem _ hj), h k List.mem_cons_self]
section
variable {b g c : Nat} {O : Nat → Dsc} {L : List Ro}
theorem TieO.all (ht : TieO O L) : soL (onL L) L.length = soL (opP O) 64 := by
  have h1 : soL (onL L) 64 = soL (opP O) 64 := soL_congr 64 fun j hj => by
    unfold opP
    cases q : onL L j with
    | true => have := (ht.on j hj q).2.1; simp [this]
    | false => have := ht.off j hj q; simp [this]
  have h2 := soL_more (onL L) L.length (64 - L.length) fun j h1 _ => by
    cases q : onL L j with
    | false => rfl
    | true => have := onL_lt q; omega
  rw [show L.length + (64 - L.length) = 64 by have := ht.le; omega] at h2
  rw [← h2, h1]
theorem TieO.uses (ht : TieO O L) (I : Int) : usN (dL L) I (soL (onL L) L.length) = usN O I (soL (opP O) 64) := by
  rw [← ht.all]
  refine usN_congr _ fun j hj => ?_
  have h1 := (soL_mem _ _ j hj).2
  have := onL_lt h1
  have := ht.le
  rw [(ht.on j (by omega) h1).1]
/-- a slice of numbers that lasts -/
def IsNv (w : World) (a : Option Addr) (l : List Nat) : Prop := ∀ j x, l[j]? = some x → ∃ g, a = some ⟨g, 0, none⟩ ∧ g < w.heap.size ∧ w.cell? ⟨g, j, none⟩ = some (.int .i64 ((x : Nat) : Int))
theorem IsNv.below {w w' : World} {a : Option Addr} {l : List Nat} (h : IsNv w a l) (hb : Below w.heap.size w w') : IsNv w' a l := fun j x hj => by
  obtain ⟨g, h1, h2, h3⟩ := h j x hj
  exact ⟨g, h1, Nat.lt_of_lt_of_le h2 hb.size, (hb.cell (p := ⟨g, j, none⟩) h2).trans h3⟩
theorem own_nv {w : World} {B e n c : Nat} {a : Option Addr} {l : List Nat} (hn : n = l.length) (h : w.ownsRow B e 1 (.slice a n c) n (nvL l)) : IsNv w a l := fun j x hj => by
  obtain ⟨g, cap, e1, _, e3⟩ := kown_form h (by have := (List.getElem?_eq_some_iff.1 hj).1; omega)
  injection e1 with e1 _ _
  subst e1
  refine ⟨g, rfl, e3, ?_⟩
  have := h.cells (g := g) rfl j _ (nvL_at l j x hj)
  rwa [Addr.add_mid, Nat.zero_add] at this
/-- both descriptions, boxed -/
structure SB (w W : World) (bx bq : Nat) (D : Dsc) : Prop where
  bl : Below w.heap.size w W
  lx : bx < W.heap.size
  lq : bq < W.heap.size
  x0 : W.cell? ⟨bx, 0, none⟩ = some (.int .i64 D.i)
  x1 : W.cell? ⟨bx, 1, none⟩ = some (.int .i64 D.g)
  x2 : W.cell? ⟨bx, 2, none⟩ = some (.int .i64 D.a)
  q1 : W.cell? ⟨bq, 1, none⟩ = some (.int .i64 D.i)
  q2 : W.cell? ⟨bq, 2, none⟩ = some (.int .i64 D.g)
  q3 : W.cell? ⟨bq, 3, none⟩ = some (.int .i64 D.a)
theorem SB.below {w W V : World} {bx bq : Nat} {D : Dsc} (h : SB w W bx bq D) (hb : Below W.heap.size W V) : SB w V bx bq D :=
  ⟨h.bl.trans (hb.mono h.bl.size), Nat.lt_of_lt_of_le h.lx hb.size, Nat.lt_of_lt_of_le h.lq hb.size, (hb.cell (p := ⟨bx, 0, none⟩) h.lx).trans h.x0, (hb.cell (p := ⟨bx, 1, none⟩) h.lx).trans h.x1, (hb.cell (p := ⟨bx, 2, none⟩) h.lx).trans h.x2, (hb.cell (p := ⟨bq, 1, none⟩) h.lq).trans h.q1, (hb.cell (p := ⟨bq, 2, none⟩) h.lq).trans h.q2, (hb.cell (p := ⟨bq, 3, none⟩) h.lq).trans h.q3⟩
set_option maxRecDepth 100000 in
set_option maxHeartbeats 32000000 in
theorem says_any (ht : TieO O L) (n I : Int) (w : World) (hB : FdB w b O) (hR : IsRo w g L) : Calls Try.prog 17 #[.pointer (some ⟨b, 0, none⟩), .slice (some ⟨g, 0, none⟩) L.length c, .int .i64 n, .int .i64 I] w fun e w' => e = .returned (.bool true) ∧ Below w.heap.size w w' := by
  obtain ⟨i0, hi0, hz0, hz1, hz2⟩ := fd_info fd_infoInt
  have hz := ds_zero
  have hzr := ro_zero
  have HG := fget_any n w hB
  have HT : Hid (TieO O L) := ht
  have HBR : Hid (∀ V, Below w.heap.size w V → FdB V b O ∧ IsRo V g L) := fun V hV => ⟨hB.below hV, hR.below hV⟩
  have l64 : (L.length : Int) ≤ 64 := by have := ht.le; omega
  have hL64 : L.length ≤ 64 := ht.le
  obtain ⟨o, HRG⟩ : Hid (∃ o : Bool, ∀ V, Below w.heap.size w V → Calls Try.prog 33 #[.slice (some ⟨g, 0, none⟩) L.length c, .int .i64 n] V fun e w' => e = .returned (.tuple #[.agg (roC ⟨o, gtD O n⟩), .int .i64 (gtE O n)]) ∧ Below V.heap.size V w') := by
    show ∃ o : Bool, _
    by_cases ho : opn O n
    · obtain ⟨j, x, rfl, hj, hx, hon, hd, _⟩ := ht.got ho
      refine ⟨true, fun V hV => ?_⟩
      rw [(gt_yes ho).1, (gt_yes ho).2, show (j : Int).toNat = j by omega, ← hd, ← hon]
      exact rget_yes ht.le j x hx hon V (hR.below hV)
    · refine ⟨false, fun V hV => ?_⟩
      rw [(gt_no ho).1, (gt_no ho).2]
      exact rget_no ht.le n (fun q => ho ((ht.opnI n).2 q)) V (hR.below hV)
  have HRG : Hid (∀ V, Below w.heap.size w V → Calls Try.prog 33 #[.slice (some ⟨g, 0, none⟩) L.length c, .int .i64 n] V fun e w' => e = .returned (.tuple #[.agg (roC ⟨o, gtD O n⟩), .int .i64 (gtE O n)]) ∧ Below V.heap.size V w') := HRG
  clear hB hR ht
  generalize gtD O n = D at *
  generalize gtE O n = er at *
  obtain ⟨di, dg, da⟩ := D
  have hsx : (dsC ⟨di, dg, da⟩).size = 3 := rfl
  have hsy : (roC ⟨o, ⟨di, dg, da⟩⟩).size = 4 := rfl
  go_enter Try.func17, Try.ntmps17
  go_wp2_with fail
  refine HG.mono ?_
  rintro e w1 ⟨rfl, hb1⟩
  have x1 : Blk (w1.alloc (.cells (dsC ds0) 42)) w1.heap.size 42 (dsC ds0) := Blk.new _ _ _
  have x2 := x1.set (dsC ⟨di, dg, da⟩)
  have hb2 : Below w.heap.size w ((w1.alloc (.cells (dsC ds0) 42)).setRow w1.heap.size (dsC ⟨di, dg, da⟩)) := below_setRow (hb1.alloc hb1.size _) hb1.size _
  have HX : Hid (Blk ((w1.alloc (.cells (dsC ds0) 42)).setRow w1.heap.size (dsC ⟨di, dg, da⟩)) w1.heap.size 42 #[.int .i64 di, .int .i64 dg, .int .i64 da] ∧ Below w.heap.size w ((w1.alloc (.cells (dsC ds0) 42)).setRow w1.heap.size (dsC ⟨di, dg, da⟩))) := ⟨x2, hb2⟩
  have HRG2 := HRG.out _ hb2
  clear hb1 HG x2 hb2 HRG
  generalize hDX : dsC (⟨di, dg, da⟩ : Dsc) = DX at *
  have haX : DX.all (·.oneCell') = true := by rw [← hDX]; exact ds_all _
  clear hDX
  go_wp2_with (first
    | (refine wpList_store_row (by rfl) 42 _ _ (by rfl) (w1.heap.size) DX (by rfl) (by rfl) 42 (dsC ds0) (by exact x1) (ds_size.trans (by rw [hsx])) (by rw [hsx]; rfl) (by exact haX) ?_; simp only [Act.put, List.setIfInBounds_toArray, List.set_cons_zero, List.set_cons_succ])
    | fail)
  generalize ((w1.alloc (.cells (dsC ds0) 42)).setRow w1.heap.size DX) = W1 at *
  clear x1
  refine HRG2.mono ?_
  rintro e w2 ⟨rfl, hb2⟩
  have y1 : Blk (w2.alloc (.cells (roC ro0) 64)) w2.heap.size 64 (roC ro0) := Blk.new _ _ _
  have y2 := y1.set (roC ⟨o, ⟨di, dg, da⟩⟩)
  have hb3 : Below w2.heap.size w2 ((w2.alloc (.cells (roC ro0) 64)).setRow w2.heap.size (roC ⟨o, ⟨di, dg, da⟩⟩)) := below_setRow (below_new1 _ _) (Nat.le_refl _) _
  have x3 := (HX.out.1.below hb2 HX.out.1.lt).below hb3 (HX.out.1.below hb2 HX.out.1.lt).lt
  have hb03 := (HX.out.2.trans (hb2.mono HX.out.2.size)).trans (hb3.mono (HX.out.2.trans (hb2.mono HX.out.2.size)).size)
  have HS : Hid (SB w ((w2.alloc (.cells (roC ro0) 64)).setRow w2.heap.size (roC ⟨o, ⟨di, dg, da⟩⟩)) w1.heap.size w2.heap.size ⟨di, dg, da⟩) := ⟨hb03, x3.lt, y2.lt, (x3.cell 0).trans rfl, (x3.cell 1).trans rfl, (x3.cell 2).trans rfl, (y2.cell 1).trans rfl, (y2.cell 2).trans rfl, (y2.cell 3).trans rfl⟩
  clear hb2 hb3 hb03 x3 y2 HRG2 HX
  generalize hDY : roC ⟨o, ⟨di, dg, da⟩⟩ = DY at *
  have haY : DY.all (·.oneCell') = true := by rw [← hDY]; exact ro_all _
  clear hDY
  go_wp2_with (first
    | (refine wpList_store_row (by rfl) 64 _ _ (by rfl) (w2.heap.size) DY (by rfl) (by rfl) 64 (roC ro0) (by exact y1) (ro_size.trans (by rw [hsy])) (by rw [hsy]; rfl) (by exact haY) ?_; simp only [Act.put, List.setIfInBounds_toArray, List.set_cons_zero, List.set_cons_succ])
    | fail)
  have HZ : Hid (((w2.alloc (.cells (roC ro0) 64)).setRow w2.heap.size DY).heap.size = w2.heap.size + 1) := by show _ = _; simp
  generalize ((w2.alloc (.cells (roC ro0) 64)).setRow w2.heap.size DY) = W2 at *
  generalize w1.heap.size = bx at *
  generalize w2.heap.size = bq at *
  clear y1 hsx hsy haX haY hz hzr
  go_loopw [13, 14, 15] (fun v13 v14 v15 wr => Hid (∃ (i m cap : Nat) (a : Option Addr), i ≤ L.length ∧ v15 = .int .i64 (i : Int) ∧ (soL (onL L) i).length = m ∧ v14 = .slice a m cap ∧ wr.ownsRow W2.heap.size 3 1 (.slice a m cap) m (nvL (soL (onL L) i)) ∧ v13 = .int .i64 ((usN (dL L) I (soL (onL L) i) : Nat) : Int) ∧ Below W2.heap.size W2 wr)) (fun _ _ v15 _ => L.length - (intOf v15).toNat)
  case atStart => exact ⟨0, 0, 0, some ⟨W2.heap.size, 0, none⟩, Nat.zero_le _, rfl, rfl, by rw [HZ.out], kown_empty (Blk.new _ _ _) (Nat.le_refl _), rfl, below_new1 _ _⟩
  case round =>
    obtain ⟨i, m, cap, a, hi, rfl, hm, rfl, hown, rfl, hb⟩ := Hid.out hrel
    clear hrel
    have HW : Hid (wr.ownsRow W2.heap.size 3 1 (.slice a m cap) m (nvL (soL (onL L) i)) ∧ Below W2.heap.size W2 wr ∧ (soL (onL L) i).length = m) := ⟨hown, hb, hm⟩
    have hle := soL_le (onL L) i
    have hun := usN_le (dL L) I (soL (onL L) i)
    by_cases hil : i < L.length
    · have i1 : (i : Int) < (L.length : Int) := by omega
      have i2 : (0 : Int) ≤ (i : Int) := by omega
      obtain ⟨x, hx⟩ : ∃ x, L[i]? = some x := ⟨_, List.getElem?_eq_getElem hil⟩
      have hRr := (HBR.out wr (HS.out.bl.trans (hb.mono HS.out.bl.size))).2
      have c0 := hRr.at_ hx 0 (.bool x.on) rfl
      have c1 := hRr.at_ hx 1 (.int .i64 x.d.i) rfl
      rw [Nat.add_zero] at c0
      have hon : onL L i = x.on := by unfold onL; rw [hx]
      have hdi : (dL L i).i = x.d.i := by unfold dL; rw [hx]
      have hso : soL (onL L) (i + 1) = soL (onL L) i ++ (if onL L i = true then [i] else []) := rfl
      have hus : usN (dL L) I (soL (onL L) (i + 1)) = usN (dL L) I (soL (onL L) i) + (if onL L i = true then (if (dL L i).i = I then 1 else 0) else 0) := by
        rw [hso]
        cases onL L i
        · simp
        · rw [if_pos rfl, usN_app, if_pos rfl]
      rw [hon] at hso hus
      rw [hdi] at hus
      have HI : Hid (i < L.length ∧ m ≤ 64) := ⟨hil, by omega⟩
      obtain ⟨xo, hxo⟩ : ∃ b, b = x.on := ⟨_, rfl⟩
      obtain ⟨xi, hxi⟩ : ∃ b, b = x.d.i := ⟨_, rfl⟩
      rw [← hxo] at c0 hso hus
      rw [← hxi] at c1 hus
      obtain ⟨u, hu⟩ : ∃ u, u = usN (dL L) I (soL (onL L) i) := ⟨_, rfl⟩
      rw [← hu] at hus hun ⊢
      have u64 : (u : Int) ≤ 64 := by omega
      have m64 : m ≤ 64 := by omega
      have HSO : Hid (soL (onL L) (i + 1) = soL (onL L) i ++ (if xo = true then [i] else [])) := hso
      have HUS : Hid (usN (dL L) I (soL (onL L) (i + 1)) = u + (if xo = true then (if xi = I then 1 else 0) else 0)) := hus
      have hv := hown.lt
      have hsz := hb.size
      clear hso hus hon hdi hx hRr hil hi hxo hxi hu hun hle hm hown hb
      cases xo
      · have HS1 : Hid (soL (onL L) (i + 1) = soL (onL L) i) := by show soL (onL L) (i + 1) = _; rw [HSO.out]; simp
        have HU1 : Hid (usN (dL L) I (soL (onL L) (i + 1)) = u) := by show usN (dL L) I (soL (onL L) (i + 1)) = _; rw [HUS.out]; simp
        clear HSO HUS
        go_wp2_with fail
        go_roundw
        case rel => exact ⟨i + 1, m, cap, a, HI.out.1, by first | rfl | go_num | simp, by rw [HS1.out]; exact HW.out.2.2, rfl, by rw [HS1.out]; exact HW.out.1, by rw [HU1.out], HW.out.2.1⟩
        case measure => have := HI.out; simp [intOf]; omega
      · have HS1 : Hid (soL (onL L) (i + 1) = soL (onL L) i ++ [i]) := by show soL (onL L) (i + 1) = _; rw [HSO.out]; simp
        have HU1 : Hid (usN (dL L) I (soL (onL L) (i + 1)) = u + (if xi = I then 1 else 0)) := by show usN (dL L) I (soL (onL L) (i + 1)) = _; rw [HUS.out]; simp
        have hRn := fun V (hV : Below W2.heap.size W2 V) => (HBR.out V (HS.out.bl.trans (hV.mono HS.out.bl.size))).2
        have HC1 : Hid (∀ V, Below wr.heap.size wr V → V.cell? ⟨g, i * 4 + 1, none⟩ = some (.int .i64 xi)) := fun V hV => (hV.cell (p := ⟨g, i * 4 + 1, none⟩) (by
          have := (hRn wr HW.out.2.1).1
          exact this)).trans c1
        clear HSO HUS hRn
        go_wp2_with (first
          | (at_builtin; refine wpList_append_own _ rfl _ _ 48 rfl (W2.heap.size) 3 i0 (.int .i64 0) 1 8 Try.underlying48 hi0 hz0 hz1 hz2 rfl (by decide) _ _ _ rfl (HW.out.1.alloc _) ⟨wr.heap.size, 0, none⟩ 1 1 [.int .i64 (i : Int)] rfl rfl (cell_one_new _ _ _) (fun x hx => by simp at hx; subst hx; rfl) (by unfold maxLen; omega) (by omega) (by simp; omega) ?_)
          | go_in)
        intro v' w7 hown' hgrow _
        have hb7 : Below W2.heap.size W2 w7 := (HW.out.2.1.alloc (by omega) _).grown hgrow (by simp; omega) (fun k hk => (hv k hk).1)
        have hown7 : w7.ownsRow W2.heap.size 3 1 v' (m + 1) (nvL (soL (onL L) (i + 1))) := by
          rw [HS1.out]
          simpa [nvL] using hown'
        have c7 : w7.cell? ⟨g, i * 4 + 1, none⟩ = some (.int .i64 xi) := by
          have hg := (HBR.out W2 HS.out.bl).2.1
          have e1 := hb7.cell (p := ⟨g, i * 4 + 1, none⟩) hg
          have e2 := HW.out.2.1.cell (p := ⟨g, i * 4 + 1, none⟩) hg
          rw [e1, ← e2]
          exact c1
        obtain ⟨g3, cap3, hv3⟩ := kown_slice hown7
        subst hv3
        have HO7 : Hid (w7.ownsRow W2.heap.size 3 1 (.slice g3 (m + 1) cap3) (m + 1) (nvL (soL (onL L) (i + 1))) ∧ Below W2.heap.size W2 w7 ∧ (soL (onL L) (i + 1)).length = m + 1) := ⟨hown7, hb7, by rw [HS1.out, List.length_append, HW.out.2.2]; rfl⟩
        clear hv hgrow hown' hown7 hb7 c0 c1 HC1
        by_cases hxi : xi = I
        · subst hxi
          have HU2 : Hid (usN (dL L) xi (soL (onL L) (i + 1)) = u + 1) := by show usN (dL L) xi (soL (onL L) (i + 1)) = _; rw [HU1.out, if_pos rfl]
          clear HU1
          go_wp2_with fail
          go_roundw
          case rel => exact ⟨i + 1, m + 1, cap3, g3, HI.out.1, by first | rfl | go_num | simp, HO7.out.2.2, rfl, HO7.out.1, by rw [HU2.out]; first | rfl | go_num | simp, HO7.out.2.1⟩
          case measure => have := HI.out; simp [intOf]; omega
        · have HU2 : Hid (usN (dL L) I (soL (onL L) (i + 1)) = u) := by show usN (dL L) I (soL (onL L) (i + 1)) = _; rw [HU1.out, if_neg hxi]; rfl
          clear HU1
          go_wp2_with fail
          go_roundw
          case rel => exact ⟨i + 1, m + 1, cap3, g3, HI.out.1, by first | rfl | go_num | simp, HO7.out.2.2, rfl, HO7.out.1, by rw [HU2.out], HO7.out.2.1⟩
          case measure => have := HI.out; simp [intOf]; omega
    · have e : i = L.length := by omega
      have i1 : ¬ ((i : Int) < (L.length : Int)) := by omega
      have hSB := HS.out.below hb
      have hAL := HT.out.all
      have hUS := HT.out.uses I
      rw [e] at hm hown
      rw [hAL] at hm hown
      obtain ⟨u, hu⟩ : ∃ u, u = usN (dL L) I (soL (onL L) i) := ⟨_, rfl⟩
      have hu2 : u = usN O I (soL (opP O) 64) := by rw [hu, e, hUS]
      rw [← hu]
      obtain ⟨F, hF⟩ : ∃ F, F = soL (opP O) 64 := ⟨_, rfl⟩
      have hF64 : F.length ≤ 64 := by rw [hF]; exact soL_le _ _
      have hu64 : u ≤ 64 := by rw [hu2]; have := usN_le O I (soL (opP O) 64); rw [← hF] at this ⊢; omega
      have HFW := (HBR.out wr hSB.bl).1
      have HA := fall_any wr HFW
      have HU : Hid (∀ V, Below wr.heap.size wr V → Calls Try.prog 23 #[.pointer (some ⟨b, 0, none⟩), .int .i64 I] V fun e w' => e = .returned (.int .i64 (u : Int)) ∧ Below V.heap.size V w') := fun V hV => by
        have := fuses_any I V (HFW.below hV)
        rwa [← hu2] at this
      have HLN : Hid (∀ V, Below wr.heap.size wr V → Calls Try.prog 18 #[.pointer (some ⟨b, 0, none⟩)] V fun e w' => e = .returned (.int .i64 (m : Int)) ∧ Below V.heap.size V w') := fun V hV => by
        have := flen_any V (HFW.below hV)
        rwa [hm] at this
      rw [← hF] at HA hown hm
      have HOW : Hid (IsNv wr a F ∧ SB w wr bx bq ⟨di, dg, da⟩ ∧ F.length = m) := ⟨own_nv hm.symm hown, hSB, hm⟩
      have hm64 : m ≤ 64 := by omega
      have u64 : (u : Int) ≤ 64 := by omega
      have m64 : (m : Int) ≤ 64 := by omega
      rw [hm] at HA
      clear hAL hUS hu hu2 hF hF64 hu64 HFW hown hm hle hun hb HW hi hil e hSB
      go_wp2_with fail
      refine HA.mono ?_
      rintro e w5 ⟨a5, c5, rfl, hown5, hb5⟩
      have HV : Hid (IsNv w5 a F ∧ IsNv w5 a5 F ∧ SB w w5 bx bq ⟨di, dg, da⟩ ∧ F.length = m ∧ Below wr.heap.size wr w5) := ⟨HOW.out.1.below hb5, own_nv HOW.out.2.2.symm hown5, HOW.out.2.1.below hb5, HOW.out.2.2, hb5⟩
      have x0 := HV.out.2.2.1.x0
      have x1 := HV.out.2.2.1.x1
      have x2 := HV.out.2.2.1.x2
      have q1 := HV.out.2.2.1.q1
      have q2 := HV.out.2.2.1.q2
      have q3 := HV.out.2.2.1.q3
      have b1 : (di != di) = false := by simp
      have b2 : (dg != dg) = false := by simp
      have b3 : (da != da) = false := by simp
      have b4 : (er != er) = false := by simp
      have b5 : ((u : Int) != (u : Int)) = false := by simp
      have b6 : ((m : Int) != (m : Int)) = false := by simp
      have HU2 := HU.out w5 hb5
      clear hown5 hb5 HA HOW HU
      go_wp2_with fail
      refine HU2.mono ?_
      rintro e w6 ⟨rfl, hb6⟩
      have HV6 : Hid (IsNv w6 a F ∧ IsNv w6 a5 F ∧ SB w w6 bx bq ⟨di, dg, da⟩ ∧ F.length = m ∧ Below wr.heap.size wr w6) := ⟨HV.out.1.below hb6, HV.out.2.1.below hb6, HV.out.2.2.1.below hb6, HV.out.2.2.2.1, HV.out.2.2.2.2.trans (hb6.mono HV.out.2.2.2.2.size)⟩
      have HL2 := HLN.out w6 HV6.out.2.2.2.2
      clear hb6 HU2 HLN x0 x1 x2 q1 q2 q3 HV
      go_wp2_with fail
      refine HL2.mono ?_
      rintro e w7 ⟨rfl, hb7⟩
      have HZ7 : Hid (IsNv w7 a F ∧ IsNv w7 a5 F ∧ Below w.heap.size w w7 ∧ F.length = m) := ⟨HV6.out.1.below hb7, HV6.out.2.1.below hb7, HV6.out.2.2.1.bl.trans (hb7.mono HV6.out.2.2.1.bl.size), HV6.out.2.2.2.1⟩
      clear hb7 HL2 HV6
      go_wp2_with fail
      clear b1 b2 b3 b4 b5 b6
      go_loopw [17] (fun v wz => Hid (∃ (j k : Nat), j ≤ m ∧ v = .int .i64 (j : Int) ∧ wz = w7.drewN k)) (fun v _ => m - (intOf v).toNat)
      case atStart => exact ⟨0, 0, Nat.zero_le _, rfl, rfl⟩
      case round =>
        obtain ⟨j, k, hj, rfl, rfl⟩ := Hid.out hrel
        clear hrel
        by_cases hjl : j < m
        · have j1 : (j : Int) < (m : Int) := by omega
          obtain ⟨y, hy⟩ : ∃ y, F[j]? = some y := ⟨_, List.getElem?_eq_getElem (by rw [HZ7.out.2.2.2]; exact hjl)⟩
          obtain ⟨g3, rfl, _, f3⟩ := HZ7.out.1 j y hy
          obtain ⟨g4, rfl, _, f4⟩ := HZ7.out.2.1 j y hy
          have d1 : ∀ q, ((w7.drewN k).drewN q).cell? ⟨g3, j, none⟩ = some (.int .i64 ((y : Nat) : Int)) := fun _ => f3
          have d2 : ∀ q, ((w7.drewN k).drewN q).cell? ⟨g4, j, none⟩ = some (.int .i64 ((y : Nat) : Int)) := fun _ => f4
          have HF : Hid (∀ q, ∃ z, (w7.drewN k).drewN q = w7.drewN z) := fun q => ⟨_, World.drewN_drewN _ _ _⟩
          have HJ : Hid (j < m) := hjl
          clear f3 f4 hy hjl hj
          generalize ((y : Nat) : Int) = sj at *
          have hq : (sj != sj) = false := by simp
          generalize w7.drewN k = w8 at *
          have d3 := d1 0
          have d4 := d2 0
          rw [World.drewN_zero] at d3 d4
          go_wp2_with fail
          go_quiet (fail)
          go_wp2_with fail
          go_roundw
          case rel =>
            obtain ⟨z, hz⟩ := HF.out nq
            exact ⟨j + 1, z, HJ.out, by first | rfl | go_num | simp, hz⟩
          case measure => have := HJ.out; simp [intOf]; omega
        · have j1 : ¬ ((j : Int) < (m : Int)) := by omega
          have HBE : Hid (∀ q, Below w.heap.size w (w7.drewN q)) := fun q => HZ7.out.2.2.1.trans ⟨rfl, rfl, rfl, Nat.le_refl _, fun _ _ => rfl⟩
          clear hj hjl
          go_wp2_with fail
          go_ret
          exact ⟨rfl, HBE.out _⟩
end
end Go.Proofs.Ytldkmogennmldaa

namespace Go.Proofs.Ytldkmogennmldaa
open Go Go.RowKit
set_option linter.unusedSimpArgs false
set_option linter.unusedVariables false
theorem lwd_new : LwD (fun _ => ds0) 0 := ⟨by decide, fun j hj => absurd hj (Nat.not_lt_zero _), fun _ => rfl⟩
theorem may_lits : mayI 3 ∧ ¬ mayI 0 ∧ mayI 1 := by decide
set_option maxRecDepth 100000 in
set_option maxHeartbeats 8000000 in
theorem awake23_any (w : World) : Calls Try.prog 8 #[] w fun e w' => e = .returned (.bool true) ∧ Below w.heap.size w w' := by
  have HN := fnew_any w
  have hz := ds_zero
  have HC3 : Hid (∀ V : World, Calls Try.prog 9 #[.int .i64 3] V fun e w' => e = .returned (.int .i64 0) ∧ w' = V) := fun V => by
    have := fcheck_any 3 V
    rwa [if_pos may_lits.1] at this
  have HC0 : Hid (∀ V : World, Calls Try.prog 9 #[.int .i64 0] V fun e w' => e = .returned (.int .i64 232) ∧ w' = V) := fun V => by
    have := fcheck_any 0 V
    rwa [if_neg may_lits.2.1] at this
  go_enter Try.func8, Try.ntmps8
  go_wp2_with fail
  refine HN.mono ?_
  rintro e w1 ⟨b, rfl, hb0, hF, hb1⟩
  have HO := fopen_ok lwd_new 5 1 may_lits.2.2 (by decide) w1 hF
  have HB : Hid (w.heap.size ≤ b ∧ Below w.heap.size w w1) := ⟨hb0, hb1⟩
  rw [show lyN 0 = 0 from rfl, show lyE 0 = 0 from rfl] at HO
  clear hb0 hb1 hF HN
  go_wp2_with fail
  refine HO.mono ?_
  rintro e w2 ⟨rfl, hF2, ht2⟩
  have HF2 : Hid (FdB w2 b (lyD (fun _ => ds0) 0 ⟨5, 1, 0⟩) ∧ Below w.heap.size w w2) := ⟨hF2, HB.out.2.trans (ht2.below HB.out.2.size HB.out.1)⟩
  have HG : Calls Try.prog 20 #[.pointer (some ⟨b, 0, none⟩), .int .i64 0] w2 fun e w' => e = .returned (.tuple #[.agg (dsC ⟨5, 1, 0⟩), .int .i64 0]) ∧ Below w2.heap.size w2 w' := by
    have := fget_any 0 w2 hF2
    have ho : opn (lyD (fun _ => ds0) 0 ⟨5, 1, 0⟩) 0 := ⟨by decide, by decide, by decide⟩
    rw [(gt_yes ho).1, (gt_yes ho).2] at this
    exact this
  clear hF2 ht2 HO HB
  go_wp2_with fail
  refine HG.mono ?_
  rintro e w3 ⟨rfl, hb3⟩
  have u1 : Blk (w3.alloc (.cells (dsC ds0) 42)) w3.heap.size 42 (dsC ds0) := Blk.new _ _ _
  have u2 := u1.set (dsC ⟨5, 1, 0⟩)
  have hn3 : Below w3.heap.size w3 ((w3.alloc (.cells (dsC ds0) 42)).setRow w3.heap.size (dsC ⟨5, 1, 0⟩)) := below_setRow (below_new1 _ _) (Nat.le_refl _) _
  have c0 : ((w3.alloc (.cells (dsC ds0) 42)).setRow w3.heap.size (dsC ⟨5, 1, 0⟩)).cell? ⟨w3.heap.size, 0, none⟩ = some (.int .i64 5) := (u2.cell 0).trans rfl
  have HF4 : Hid (FdB ((w3.alloc (.cells (dsC ds0) 42)).setRow w3.heap.size (dsC ⟨5, 1, 0⟩)) b (lyD (fun _ => ds0) 0 ⟨5, 1, 0⟩) ∧ Below w.heap.size w ((w3.alloc (.cells (dsC ds0) 42)).setRow w3.heap.size (dsC ⟨5, 1, 0⟩))) := by
    have h1 := hb3.trans (hn3.mono hb3.size)
    exact ⟨HF2.out.1.below h1, HF2.out.2.trans (h1.mono HF2.out.2.size)⟩
  have hsx : (dsC ⟨5, 1, 0⟩).size = 3 := rfl
  have HLN := flen_any _ HF4.out.1
  have hln : (soL (opP (lyD (fun _ => ds0) 0 ⟨5, 1, 0⟩)) 64).length = 1 := by decide
  rw [hln] at HLN
  clear hb3 hn3 HG HF2 u2 hln
  generalize hD : dsC (⟨5, 1, 0⟩ : Dsc) = D5 at *
  go_wp2_with (first
    | (refine wpList_store_row (by rfl) 42 _ _ (by rfl) (w3.heap.size) D5 (by rfl) (by rfl) 42 (dsC ds0) (by exact u1) (ds_size.trans (by rw [hsx])) (by rw [hsx]; rfl) (by rw [← hD]; exact ds_all _) ?_; simp only [Act.put, List.setIfInBounds_toArray, List.set_cons_zero, List.set_cons_succ])
    | (go_at_call_of 9 (Value.int .i64 3); refine (HC3.out _).mono ?_; rintro e wc1 ⟨rfl, rfl⟩)
    | (go_at_call_of 9 (Value.int .i64 0); refine (HC0.out _).mono ?_; rintro e wc2 ⟨rfl, rfl⟩)
    | (go_at_call 18; refine HLN.mono ?_; rintro e wc3 ⟨rfl, hb9⟩)
    | fail)
  go_ret
  exact ⟨by first | rfl | simp, HF4.out.2.trans (hb9.mono HF4.out.2.size)⟩
end Go.Proofs.Ytldkmogennmldaa
