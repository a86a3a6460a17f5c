/- The parts of a text as a range over a function takes them, each told with its size. -/
import Derived.Test.YthoohhokoeihiabDoorHPaParse2
import Derived.BigQuiet
import Derived.Deep.QuietTactic
import Derived.Test.YthoohhokoeihiabDoorHOrders
import Derived.Handy
import Derived.Test.YthoohhokoeihiabDoorHRowf

namespace Go.Proofs.YthoohhokoeihiabDoor
open Go Go.RowKit Go.Shelf
set_option linter.unusedVariables false
set_option linter.unusedSimpArgs false
/-- a slice at a holds these texts -/
def IsN (w : World) (a : Option Addr) (N : List ByteArray) : Prop := N = [] ∨ ∃ g o, a = some ⟨g, o, none⟩ ∧ g < w.heap.size ∧ ∀ j x, N[j]? = some x → w.cell? ⟨g, o + j, none⟩ = some (.string x)
theorem IsN.below {w w' : World} {a : Option Addr} {N : List ByteArray} (h : IsN w a N) (hb : Below w.heap.size w w') : IsN w' a N := by
  rcases h with h | ⟨g, o, rfl, hg, hc⟩
  · exact .inl h
  · exact .inr ⟨g, o, rfl, Nat.lt_of_lt_of_le hg hb.size, fun j x hj => (hb.cell (p := ⟨g, o + j, none⟩) hg).trans (hc j x hj)⟩
theorem IsN.at {w : World} {a : Option Addr} {N : List ByteArray} (h : IsN w a N) {j : Nat} (hj : j < N.length) : ∃ g o, a = some ⟨g, o, none⟩ ∧ g < w.heap.size ∧ w.cell? ⟨g, o + j, none⟩ = some (.string N[j]) := by
  rcases h with rfl | ⟨g, o, rfl, hg, hc⟩
  · simp at hj
  · exact ⟨g, o, rfl, hg, hc j _ (List.getElem?_eq_getElem hj)⟩
theorem IsN.take {w : World} {a : Option Addr} {N : List ByteArray} (h : IsN w a N) (k : Nat) : IsN w a (N.take k) := by
  rcases h with rfl | ⟨g, o, rfl, hg, hc⟩
  · exact .inl (by simp)
  · refine .inr ⟨g, o, rfl, hg, fun j x hj => hc j x ?_⟩
    rw [List.getElem?_take] at hj
    split at hj
    · exact hj
    · cases hj
/-- an own slice of texts -/
theorem own_isN {w : World} {B n : Nat} {a : Option Addr} {m c : Nat} {N : List ByteArray} (h : w.ownsRow B 9 1 (.slice a m c) n (N.map Value.string)) : IsN w a N := by
  rcases h.2 with ⟨hv, hn⟩ | ⟨g, cap, cur, hv, hB, hg, hrest⟩
  · left
    have := h.1
    rw [hn] at this
    simpa using this
  · right
    cases hv
    refine ⟨g, 0, rfl, (Array.getElem?_eq_some_iff.1 hg).1, fun j x hj => ?_⟩
    have hl := (List.getElem?_eq_some_iff.1 hj).1
    have hn := h.1
    rw [List.length_map, Nat.mul_one] at hn
    rw [Nat.zero_add, h.cellAt j (by omega), List.getElem?_map, hj]
    rfl
set_option maxRecDepth 100000 in
set_option maxHeartbeats 4000000 in
theorem is18_any (s : ByteArray) (hs : s.size ≤ 9223372036854775807) (w : World) :
    Calls Tryd.prog 35 #[.string s] w fun e w' => e = .returned (.bool (isName s.data.toList)) ∧ w' = w := by
  have HTL : Hid (s.toList = s.data.toList) := Lib.toList_data s
  have HSL : Hid (s.size = s.data.toList.length) := Lib.size_eq s
  generalize hm : isName s.data.toList = m
  have HM : Hid (isName s.data.toList = m) := hm
  clear hm
  go_enter Tryd.func35, Tryd.ntmps35
  go_wp2_with fail
  go_loop [3] (fun v => Hid (∃ i : Nat, i ≤ s.size ∧ v = .int .i64 (i : Int) ∧ Cln s.data.toList i)) (fun v => s.size - (intOf v).toNat)
  case atStart => exact ⟨0, by omega, rfl, fun j b hj => by omega⟩
  case round =>
    obtain ⟨i, hin, rfl, hcl⟩ := Hid.out hrel
    have HCL : Hid (Cln s.data.toList i) := hcl
    clear hrel hcl
    by_cases hi : i < s.size
    · have hiz : (i : Int) < (s.size : Int) := by omega
      have hxl := Lib.data_getElem? s i hi
      obtain ⟨x, hx⟩ : ∃ x : UInt8, s[i]'hi = x := ⟨_, rfl⟩
      rw [hx] at hxl
      have HX : Hid (s.data.toList[i]? = some x) := hxl
      clear hxl
      by_cases x0 : x = 0
      · have b0 : ((x.toNat : Int) == 0) = true := by rw [x0]; rfl
        obtain rfl : m = false := HM.out ▸ isName_bad (Or.inr (Or.inr (Or.inr (Or.inr (has2_yes HX.out (Or.inl x0))))))
        clear x0
        go_wp2_with fail
        go_ret
        exact ⟨rfl, rfl⟩
      · have b0 : ((x.toNat : Int) == 0) = false := ubeq_ne x0
        by_cases x1 : x = 47
        · have b1 : ((x.toNat : Int) == 47) = true := by rw [x1]; rfl
          obtain rfl : m = false := HM.out ▸ isName_bad (Or.inr (Or.inr (Or.inr (Or.inr (has2_yes HX.out (Or.inr x1))))))
          clear x1 x0
          go_wp2_with fail
          go_ret
          exact ⟨rfl, rfl⟩
        · have b1 : ((x.toNat : Int) == 47) = false := ubeq_ne x1
          have HN : Hid (Cln s.data.toList (i + 1)) := HCL.out.one HX.out x0 x1
          clear x0 x1
          go_wp2_with fail
          go_round
          case rel => exact ⟨i + 1, by omega, by first | rfl | go_num | simp, HN.out⟩
          case measure => simp [intOf]; omega
    · obtain rfl : i = s.size := by omega
      have hiz : ¬ ((s.size : Int) < (s.size : Int)) := by omega
      have h4 := has2_no (l := s.data.toList) (by rw [← HSL.out]; exact HCL.out)
      have HV : Hid (∀ {b0 b1 b2 b3 : Bool}, (s.toList == []) = b0 → (s.toList == [46]) = b1 → (s.toList == [46, 46]) = b2 → decide (56 < s.size) = b3 → m = (!b0 && !b1 && !b2 && !b3)) := by
        intro b0 b1 b2 b3 e0 e1 e2 e3
        rw [← HM.out]
        unfold isName
        rw [h4, ← HSL.out, e3, ← HTL.out, e0, e1, e2]
        simp
      clear h4
      by_cases u0 : s.toList = []
      · have z0 : s.size = 0 := by rw [HSL.out, ← HTL.out, u0]; rfl
        have := HV.out (b1 := false) (b2 := false) (b3 := false) (b0 := true) (by rw [u0]; rfl) (by rw [u0]; rfl) (by rw [u0]; rfl) (by rw [z0]; rfl)
        obtain rfl : m = false := this
        go_wp2_with fail
        go_ret
        exact ⟨rfl, rfl⟩
      have q0 : s.toList.isEmpty = false := by simpa using u0
      have e0 : (s.toList == []) = false := by rw [beq_eq_false_iff_ne]; exact u0
      by_cases u3 : 56 < s.size
      · have z3 : ¬ (s.size : Int) ≤ 56 := by omega
        have := HV.out (b0 := false) (b3 := true) e0 rfl rfl (by rw [decide_eq_true u3])
        obtain rfl : m = false := by rw [this]; simp
        clear this
        go_wp2_with fail
        go_ret
        exact ⟨rfl, rfl⟩
      have z3 : (s.size : Int) ≤ 56 := by omega
      by_cases u1 : s.toList = [46]
      · have := HV.out (b0 := false) (b1 := true) e0 (by rw [u1]; rfl) rfl rfl
        obtain rfl : m = false := by rw [this]; simp
        clear this e0 q0
        go_wp2_with fail
        go_ret
        exact ⟨rfl, rfl⟩
      have e1 : (s.toList == [46]) = false := by rw [beq_eq_false_iff_ne]; exact u1
      by_cases u2 : s.toList = [46, 46]
      · have := HV.out (b0 := false) (b1 := false) (b2 := true) e0 e1 (by rw [u2]; rfl) rfl
        obtain rfl : m = false := by rw [this]; simp
        clear this e0 q0 e1
        go_wp2_with fail
        go_ret
        exact ⟨rfl, rfl⟩
      have e2 : (s.toList == [46, 46]) = false := by rw [beq_eq_false_iff_ne]; exact u2
      have := HV.out (b3 := false) e0 e1 e2 (by rw [decide_eq_false u3])
      obtain rfl : m = true := by rw [this]; simp
      clear this
      go_wp2_with fail
      go_ret
      exact ⟨rfl, rfl⟩
end Go.Proofs.YthoohhokoeihiabDoor


/- Patterns with ? and *: what a text is, as plain lists of bytes: what the program keeps in each round, and the rows of the document. -/
namespace Go.Nam

/-- A text is a pattern (signs as numbers: 42 is the star, 63 any one). -/
inductive Mat : List UInt8 → List UInt8 → Prop
  | nil : Mat [] []
  | one {p c : UInt8} {ps s : List UInt8} : p ≠ 42 → (p = 63 ∨ p = c) → Mat ps s → Mat (p :: ps) (c :: s)
  | none {ps s : List UInt8} : Mat ps s → Mat (42 :: ps) s
  | more {ps s : List UInt8} {c : UInt8} : Mat (42 :: ps) s → Mat (42 :: ps) (c :: s)

theorem Mat.nil_iff {s : List UInt8} : Mat [] s ↔ s = [] := by
  constructor
  · intro h; cases h; rfl
  · rintro rfl; exact .nil

theorem Mat.one_nil {p : UInt8} {ps : List UInt8} (hp : p ≠ 42) : ¬ Mat (p :: ps) [] := by
  intro h; cases h with
  | none _ => exact hp rfl

theorem Mat.one_iff {p c : UInt8} {ps s : List UInt8} (hp : p ≠ 42) : Mat (p :: ps) (c :: s) ↔ (p = 63 ∨ p = c) ∧ Mat ps s := by
  constructor
  · intro h; cases h with
    | one _ h1 h2 => exact ⟨h1, h2⟩
    | none _ => exact absurd rfl hp
    | more _ => exact absurd rfl hp
  · rintro ⟨h1, h2⟩; exact .one hp h1 h2

theorem Mat.star_drop {ps : List UInt8} : ∀ (k : Nat) (s : List UInt8), Mat ps (s.drop k) → Mat (42 :: ps) s
  | 0, s, h => .none (by simpa using h)
  | k + 1, [], h => .none (by simpa using h)
  | k + 1, c :: s, h => .more (Mat.star_drop k s (by simpa using h))

theorem Mat.star_iff {ps s : List UInt8} : Mat (42 :: ps) s ↔ ∃ k, k ≤ s.length ∧ Mat ps (s.drop k) := by
  constructor
  · intro h
    induction s with
    | nil => cases h with
      | none h => exact ⟨0, by simp, by simpa using h⟩
    | cons c s ih =>
      cases h with
      | one h1 _ _ => exact absurd rfl h1
      | none h => exact ⟨0, by simp, by simpa using h⟩
      | more h => obtain ⟨k, hk, h2⟩ := ih h; exact ⟨k + 1, by simp; omega, by simpa using h2⟩
  · rintro ⟨k, _, h⟩; exact Mat.star_drop k s h

theorem Mat.app {a b : List UInt8} : ∀ {s : List UInt8}, Mat (a ++ b) s ↔ ∃ j, j ≤ s.length ∧ Mat a (s.take j) ∧ Mat b (s.drop j) := by
  induction a with
  | nil =>
    intro s
    constructor
    · intro h; exact ⟨0, by simp, by simpa using Mat.nil, by simpa using h⟩
    · rintro ⟨j, hj, h1, h2⟩
      have := Mat.nil_iff.1 h1
      have h3 : j = 0 := by
        have := congrArg List.length this; rw [List.length_take, List.length_nil] at this; omega
      subst h3; simpa using h2
  | cons p a ih =>
    intro s
    by_cases hp : p = 42
    · subst hp
      rw [List.cons_append, Mat.star_iff]
      constructor
      · rintro ⟨k, hk, h⟩
        obtain ⟨j, hj, h1, h2⟩ := ih.1 h
        rw [List.length_drop] at hj
        refine ⟨k + j, by omega, Mat.star_drop k _ ?_, by rw [List.drop_drop] at h2; exact h2⟩
        rw [List.drop_take]; rwa [Nat.add_sub_cancel_left]
      · rintro ⟨j, hj, h1, h2⟩
        obtain ⟨k, hk, h3⟩ := Mat.star_iff.1 h1
        rw [List.length_take] at hk
        refine ⟨k, by omega, ih.2 ⟨j - k, by rw [List.length_drop]; omega, by rwa [List.drop_take] at h3, ?_⟩⟩
        rw [List.drop_drop, Nat.add_sub_cancel' (by omega)]; exact h2
    · cases s with
      | nil =>
        constructor
        · intro h; exact absurd h (Mat.one_nil hp)
        · rintro ⟨j, hj, h1, h2⟩; simp at h1; exact absurd h1 (Mat.one_nil hp)
      | cons c s =>
        rw [List.cons_append, Mat.one_iff hp]
        constructor
        · rintro ⟨h0, h⟩
          obtain ⟨j, hj, h1, h2⟩ := ih.1 h
          exact ⟨j + 1, by simp; omega, by simpa using (Mat.one_iff hp).2 ⟨h0, h1⟩, by simpa using h2⟩
        · rintro ⟨j, hj, h1, h2⟩
          cases j with
          | zero => simp at h1; exact absurd h1 (Mat.one_nil hp)
          | succ j =>
            rw [List.take_succ_cons, Mat.one_iff hp] at h1
            exact ⟨h1.1, ih.2 ⟨j, by simp at hj; omega, h1.2, by simpa using h2⟩⟩

/-- a pattern without a star against a text of its own length -/
def PSeg (a t : List UInt8) : Prop := a.length = t.length ∧ ∀ i, (h : i < a.length) → (h2 : i < t.length) → a[i] ≠ 42 ∧ (a[i] = 63 ∨ a[i] = t[i])

theorem PSeg.mat_len {a t : List UInt8} (ha : ∀ i, (h : i < a.length) → a[i] ≠ 42) (h : Mat a t) : a.length = t.length := by
  induction a generalizing t with
  | nil => rw [Mat.nil_iff.1 h]
  | cons p a ih =>
    have hp : p ≠ 42 := ha 0 (by simp)
    cases t with
    | nil => exact absurd h (Mat.one_nil hp)
    | cons c t =>
      have := ih (fun i hi => by have h5 := ha (i + 1) (by simpa using hi); rw [List.getElem_cons_succ] at h5; exact h5) ((Mat.one_iff hp).1 h).2
      simp [this]

/-- What a row of the document's table says. -/
theorem Mat.snoc_star {a s : List UInt8} {i : Nat} (hi : i < s.length) :
    Mat (a ++ [42]) (s.take (i + 1)) ↔ Mat a (s.take (i + 1)) ∨ Mat (a ++ [42]) (s.take i) := by
  have star : ∀ t : List UInt8, Mat [42] t := fun t => Mat.star_drop t.length t (by simpa using Mat.nil)
  constructor
  · intro h
    obtain ⟨j, hj, h1, _⟩ := Mat.app.1 h
    rw [List.length_take] at hj
    by_cases hj2 : j = i + 1
    · left; rw [List.take_take, hj2, Nat.min_self] at h1; exact h1
    · right
      refine Mat.app.2 ⟨j, by rw [List.length_take]; omega, ?_, star _⟩
      rw [List.take_take] at h1 ⊢
      rw [Nat.min_eq_left (by omega)] at h1 ⊢
      exact h1
  · rintro (h | h)
    · exact Mat.app.2 ⟨i + 1, by rw [List.length_take]; omega, by rw [List.take_take, Nat.min_self]; exact h, star _⟩
    · obtain ⟨j, hj, h1, _⟩ := Mat.app.1 h
      rw [List.length_take] at hj
      refine Mat.app.2 ⟨j, by rw [List.length_take]; omega, ?_, star _⟩
      rw [List.take_take] at h1 ⊢
      rw [Nat.min_eq_left (by omega)] at h1 ⊢
      exact h1

theorem Mat.snoc_one {a s : List UInt8} {i : Nat} {p : UInt8} (hp : p ≠ 42) (hi : i < s.length) :
    Mat (a ++ [p]) (s.take (i + 1)) ↔ Mat a (s.take i) ∧ (p = 63 ∨ p = s[i]) := by
  have one : ∀ t : List UInt8, Mat [p] t ↔ ∃ c, t = [c] ∧ (p = 63 ∨ p = c) := by
    intro t
    cases t with
    | nil => constructor
             · intro h; exact absurd h (Mat.one_nil hp)
             · rintro ⟨c, h, _⟩; cases h
    | cons c t =>
      rw [Mat.one_iff hp, Mat.nil_iff]
      constructor
      · rintro ⟨h1, rfl⟩; exact ⟨c, rfl, h1⟩
      · rintro ⟨d, h1, h2⟩; cases h1; exact ⟨h2, rfl⟩
  constructor
  · intro h
    obtain ⟨j, hj, h1, h2⟩ := Mat.app.1 h
    obtain ⟨c, h3, h4⟩ := (one _).1 h2
    have hl := congrArg List.length h3
    simp only [List.length_drop, List.length_take, List.length_cons, List.length_nil] at hl
    have hji : j = i := by omega
    subst hji
    rw [List.take_take, Nat.min_eq_left (by omega)] at h1
    refine ⟨h1, ?_⟩
    have : c = s[j] := by
      have h5 := congrArg (fun l : List UInt8 => l[0]?) h3
      simp [List.getElem?_drop, hi] at h5
      exact h5.symm
    rw [← this]; exact h4
  · rintro ⟨h1, h2⟩
    refine Mat.app.2 ⟨i, by rw [List.length_take]; omega, by rw [List.take_take, Nat.min_eq_left (by omega)]; exact h1, (one _).2 ⟨s[i], ?_, h2⟩⟩
    apply List.ext_getElem
    · simp; omega
    · intro k h3 h4
      simp at h4
      subst h4
      simp

theorem Mat.nil_all {ps : List UInt8} : Mat ps [] ↔ ∀ x ∈ ps, x = 42 := by
  induction ps with
  | nil => simp [Mat.nil]
  | cons p ps ih =>
    by_cases hp : p = 42
    · subst hp
      rw [Mat.star_iff]
      simp [ih]
    · simp only [List.mem_cons, forall_eq_or_imp, hp, false_and, iff_false]
      exact Mat.one_nil hp

/-- The program's state: where the last star stood (or none), what it was given, and the two places. -/
structure PSt (P s : List UInt8) (A : Prop) (star : Option Nat) (behind p i : Nat) : Prop where
  hp : p ≤ P.length
  hi : i ≤ s.length
  out : A ↔ (Mat (P.drop p) (s.drop i) ∨ ∃ q, star = some q ∧ ∃ k, behind < k ∧ k ≤ s.length ∧ Mat (P.drop (q + 1)) (s.drop k))
  seg : ∀ q, star = some q → q + 1 ≤ p ∧ behind ≤ i ∧ p - (q + 1) = i - behind ∧ ∀ j, q < j → j < p → P[j]? ≠ some 42

theorem PSt.start (P s : List UInt8) : PSt P s (Mat P s) none 0 0 0 :=
  ⟨by simp, by simp, by simp, by simp⟩

/-- What stands behind the last star, given more, was in vain or not wanted. -/
theorem PSt.spare {P s : List UInt8} {A : Prop} {star : Option Nat} {behind p i : Nat} (H : PSt P s A star behind p i) {q k : Nat} (hq : star = some q) (hk : behind < k) (hk2 : k ≤ s.length)
    (h : Mat (P.drop (q + 1)) (s.drop k)) : ∃ j, i < j ∧ j ≤ s.length ∧ Mat (P.drop p) (s.drop j) := by
  obtain ⟨h1, h2, h3, h4⟩ := H.seg q hq
  have hsplit : P.drop (q + 1) = (P.drop (q + 1)).take (p - (q + 1)) ++ P.drop p := by
    conv => lhs; rw [← List.take_append_drop (p - (q + 1)) (P.drop (q + 1))]
    rw [List.drop_drop, Nat.add_sub_cancel' h1]
  rw [hsplit] at h
  obtain ⟨j, hj, h5, h6⟩ := Mat.app.1 h
  have hl := PSeg.mat_len (fun x hx => by
    intro he
    have hx2 : x < p - (q + 1) := by rw [List.length_take] at hx; omega
    refine h4 (q + 1 + x) (by omega) (by omega) ?_
    rw [← he, List.getElem_take, List.getElem_drop, List.getElem?_eq_getElem]) h5
  rw [List.length_drop] at hj
  rw [List.length_take, List.length_drop, List.length_take, List.length_drop] at hl
  have hpl := H.hp
  refine ⟨k + j, by omega, by omega, ?_⟩
  rw [List.drop_drop] at h6; exact h6

theorem drop_at {l : List UInt8} {i : Nat} {c : UInt8} (h : l[i]? = some c) : l.drop i = c :: l.drop (i + 1) := by
  obtain ⟨h1, h2⟩ := List.getElem?_eq_some_iff.1 h
  rw [← h2]; exact List.drop_eq_getElem_cons h1

theorem PSt.star {P s : List UInt8} {A : Prop} {star : Option Nat} {behind p i : Nat} (H : PSt P s A star behind p i) (hp : P[p]? = some 42) : PSt P s A (some p) i (p + 1) i := by
  have hl : p < P.length := (List.getElem?_eq_some_iff.1 hp).1
  refine ⟨by omega, H.hi, ?_, ?_⟩
  · rw [H.out, drop_at hp]
    constructor
    · have go : Mat (42 :: P.drop (p + 1)) (s.drop i) → (Mat (P.drop (p + 1)) (s.drop i) ∨ ∃ q, some p = some q ∧ ∃ k, i < k ∧ k ≤ s.length ∧ Mat (P.drop (q + 1)) (s.drop k)) := by
        intro h
        obtain ⟨k, hk, h2⟩ := Mat.star_iff.1 h
        rw [List.length_drop] at hk
        rw [List.drop_drop] at h2
        cases k with
        | zero => left; simpa using h2
        | succ k => right; have := H.hi; exact ⟨p, rfl, i + (k + 1), by omega, by omega, h2⟩
      rintro (h | ⟨q, hq, k, hk, hk2, h⟩)
      · exact go h
      · obtain ⟨j, hj, hj2, h3⟩ := H.spare hq hk hk2 h
        rw [drop_at hp] at h3
        refine go (Mat.star_iff.2 ?_)
        obtain ⟨m, hm, h4⟩ := Mat.star_iff.1 h3
        rw [List.length_drop] at hm
        rw [List.drop_drop] at h4
        refine ⟨j + m - i, by rw [List.length_drop]; omega, ?_⟩
        rw [List.drop_drop, show i + (j + m - i) = j + m by omega]; exact h4
    · rintro (h | ⟨q, hq, k, hk, hk2, h⟩)
      · exact Or.inl (.none h)
      · cases hq
        refine Or.inl (Mat.star_iff.2 ⟨k - i, by rw [List.length_drop]; omega, ?_⟩)
        rw [List.drop_drop, Nat.add_sub_cancel' (by omega)]; exact h
  · rintro q hq
    cases hq
    exact ⟨by omega, by omega, by omega, fun j h1 h2 => by omega⟩

theorem PSt.one {P s : List UInt8} {A : Prop} {star : Option Nat} {behind p i : Nat} {a c : UInt8} (H : PSt P s A star behind p i) (hp : P[p]? = some a) (hi : s[i]? = some c) (ha : a ≠ 42) (h : a = 63 ∨ a = c) :
    PSt P s A star behind (p + 1) (i + 1) := by
  have hl : p < P.length := (List.getElem?_eq_some_iff.1 hp).1
  have hm : i < s.length := (List.getElem?_eq_some_iff.1 hi).1
  refine ⟨by omega, by omega, ?_, ?_⟩
  · rw [H.out, drop_at hp, drop_at hi, Mat.one_iff ha]
    simp [h]
  · intro q hq
    obtain ⟨h1, h2, h3, h4⟩ := H.seg q hq
    refine ⟨by omega, by omega, by omega, fun j h5 h6 => ?_⟩
    by_cases hj : j = p
    · rw [hj, hp]; simpa using ha
    · exact h4 j h5 (by omega)

/-- nothing here -/
theorem PSt.not {P s : List UInt8} {p i : Nat} {c : UInt8} (hi : s[i]? = some c) (hp : ∀ a, P[p]? = some a → a ≠ 42 ∧ a ≠ 63 ∧ a ≠ c) : ¬ Mat (P.drop p) (s.drop i) := by
  rw [drop_at hi]
  cases h : P[p]? with
  | none =>
    rw [List.drop_eq_nil_of_le (List.getElem?_eq_none_iff.1 h), Mat.nil_iff]; simp
  | some a =>
    obtain ⟨h1, h2, h3⟩ := hp a h
    rw [drop_at h, Mat.one_iff h1]
    simp [h2, h3]

theorem PSt.back {P s : List UInt8} {A : Prop} {q behind p i : Nat} (H : PSt P s A (some q) behind p i) (hi : i < s.length) (h : ¬ Mat (P.drop p) (s.drop i)) :
    PSt P s A (some q) (behind + 1) (q + 1) (behind + 1) := by
  obtain ⟨h1, h2, h3, h4⟩ := H.seg q rfl
  refine ⟨by have := H.hp; omega, by omega, ?_, ?_⟩
  · rw [H.out]
    simp only [h, false_or]
    constructor
    · rintro ⟨q', hq, k, hk, hk2, h5⟩
      cases hq
      by_cases hk3 : k = behind + 1
      · subst hk3; exact Or.inl h5
      · exact Or.inr ⟨q, rfl, k, by omega, hk2, h5⟩
    · rintro (h5 | ⟨q', hq, k, hk, hk2, h5⟩)
      · exact ⟨q, rfl, behind + 1, by omega, by omega, h5⟩
      · cases hq; exact ⟨q, rfl, k, by omega, hk2, h5⟩
  · rintro q' hq; cases hq
    exact ⟨by omega, by omega, by omega, fun j h5 h6 => by omega⟩

theorem PSt.lost {P s : List UInt8} {A : Prop} {behind p i : Nat} (H : PSt P s A none behind p i) (h : ¬ Mat (P.drop p) (s.drop i)) : ¬ A := by
  rw [H.out]; simp [h]

theorem PSt.ends {P s : List UInt8} {A : Prop} {star : Option Nat} {behind p : Nat} (H : PSt P s A star behind p s.length) : A ↔ ∀ x ∈ P.drop p, x = 42 := by
  rw [H.out, List.drop_eq_nil_of_le (Nat.le_refl _), Mat.nil_all]
  constructor
  · rintro (h | ⟨q, hq, k, hk, hk2, h⟩)
    · exact h
    · obtain ⟨j, hj, hj2, _⟩ := H.spare hq hk hk2 h; omega
  · exact Or.inl

/-- how much is left to do -/
def left (P s : List UInt8) (star : Option Nat) (behind i : Nat) : Nat :=
  (match star with | none => P.length + 1 | some q => P.length - q) * ((s.length + 2) * (s.length + 2)) + (s.length + 1 - behind) * (s.length + 2) + (s.length - i)

theorem Mat.all (s : List UInt8) : Mat [42] s := Mat.star_drop s.length s (by simpa using Mat.nil)
end Go.Nam

namespace Go.Proofs.YthoohhokoeihiabDoor
set_option maxRecDepth 20000
open Go Go.RowKit Go.Nam
set_option linter.unusedVariables false
set_option linter.unusedSimpArgs false

theorem beq_ne {a b : UInt8} (h : a ≠ b) : ((a.toNat : Int) == (b.toNat : Int)) = false := by
  rw [beq_eq_false_iff_ne]
  intro e
  exact h (UInt8.toNat_inj.1 (by exact_mod_cast e))
def starZ : Option Nat → Int
  | none => -1
  | some q => (q : Int)
theorem dw_nil (p : UInt8 → Bool) : ∀ l : List UInt8, l.dropWhile p = [] ↔ ∀ x ∈ l, p x = true
  | [] => by simp
  | a :: l => by
    rw [List.dropWhile_cons]
    by_cases h : p a = true
    · rw [if_pos h, dw_nil p l]; simp [h]
    · rw [if_neg h]; simp [h]
theorem tw_all (p : UInt8 → Bool) : ∀ (l : List UInt8) x, x ∈ l.takeWhile p → p x = true
  | [], x, h => by simp at h
  | a :: l, x, h => by
    rw [List.takeWhile_cons] at h
    by_cases h1 : p a = true
    · rw [if_pos h1] at h
      rcases List.mem_cons.1 h with rfl | h
      · exact h1
      · exact tw_all p l x h
    · rw [if_neg h1] at h; simp at h
theorem trim_none (l : List UInt8) : (⟨(Lib.trimB l 42).toArray⟩ : ByteArray) = ⟨#[]⟩ ↔ ∀ x ∈ l, x = 42 := by
  have h : (Lib.trimB l 42) = [] ↔ ∀ x ∈ l, x = 42 := by
    unfold Lib.trimB Lib.trimLeftB Lib.trimRightB
    constructor
    · intro h
      have h1 : ∀ x ∈ (l.reverse.dropWhile (· == 42)).reverse, x = 42 := by
        have := (dw_nil _ _).1 h
        intro x hx; simpa using this x hx
      have h2 : ∀ x ∈ l.reverse, x = 42 := by
        intro x hx
        rw [← List.takeWhile_append_dropWhile (p := (· == 42)) (l := l.reverse)] at hx
        rcases List.mem_append.1 hx with h3 | h3
        · simpa using tw_all _ _ _ h3
        · exact h1 x (by simpa using h3)
      intro x hx; exact h2 x (by simpa using hx)
    · intro h
      have : l.reverse.dropWhile (· == 42) = [] := (dw_nil _ _).2 fun x hx => by simpa using h x (by simpa using hx)
      rw [this]; rfl
  rw [← h]
  constructor
  · intro e; have := congrArg (fun b : ByteArray => b.data.toList) e; simpa using this
  · intro e; rw [e]
def leftZ (m n : Nat) (star behind i : Int) : Nat := ((m : Int) - star).toNat * ((n + 2) * (n + 2)) + ((n : Int) + 1 - behind).toNat * (n + 2) + ((n : Int) - i).toNat
theorem left_star {m n : Nat} {star behind : Int} {p i : Nat} (h1 : star < p) (h2 : p < m) (h3 : i ≤ n) : leftZ m n p i i < leftZ m n star behind i := by
  unfold leftZ
  have e1 : ((m : Int) - star).toNat = ((m : Int) - p).toNat + (((m : Int) - star).toNat - ((m : Int) - p).toNat - 1) + 1 := by omega
  rw [e1]
  generalize ((m : Int) - p).toNat = a
  generalize (((m : Int) - star).toNat - a - 1) = d
  have e2 : ((n : Int) + 1 - i).toNat ≤ n + 1 := by omega
  have e3 : ((n : Int) + 1 - i).toNat * (n + 2) ≤ (n + 1) * (n + 2) := Nat.mul_le_mul_right _ e2
  rw [Nat.add_mul (a + d) 1, Nat.add_mul a d, Nat.one_mul]
  have e4 : (n + 2) * (n + 2) = (n + 1) * (n + 2) + (n + 2) := by rw [← Nat.succ_mul]
  have e5 : ((n : Int) - i).toNat ≤ n := by omega
  generalize d * ((n + 2) * (n + 2)) = x
  generalize a * ((n + 2) * (n + 2)) = y
  generalize ((n : Int) + 1 - behind).toNat * (n + 2) = z
  generalize (n + 2) * (n + 2) = K at *
  omega
theorem left_one {m n : Nat} {star behind : Int} {i : Nat} (h : i < n) : leftZ m n star behind (((i + 1 : Nat) : Int)) < leftZ m n star behind i := by
  unfold leftZ; omega
theorem left_back {m n : Nat} {star : Int} {behind i : Nat} (h : behind ≤ i) (h2 : i < n) : leftZ m n star ((behind + 1 : Nat) : Int) ((behind + 1 : Nat) : Int) < leftZ m n star behind i := by
  unfold leftZ
  have e1 : ((n : Int) + 1 - behind).toNat = ((n : Int) + 1 - ((behind + 1 : Nat) : Int)).toNat + 1 := by omega
  rw [e1, Nat.add_mul (((n : Int) + 1 - ((behind + 1 : Nat) : Int)).toNat) 1, Nat.one_mul]
  omega
section
variable (P s : ByteArray)
set_option maxHeartbeats 4000000 in
theorem match_any (hP : P.size ≤ 4611686018427387904) (hs : s.size ≤ 4611686018427387904) (w : World) :
    Calls Tryd.prog 18 #[.string P, .string s] w fun e w' => (∃ b : Bool, e = .returned (.bool b) ∧ (b = true ↔ Mat P.data.toList s.data.toList)) ∧ Below w.heap.size w w' := by
  have HPL : Hid (P.size = P.data.toList.length) := Lib.size_eq P
  have HSL : Hid (s.size = s.data.toList.length) := Lib.size_eq s
  go_enter Tryd.func18, Tryd.ntmps18
  go_wp2_with fail
  go_loopw [5, 6, 7, 8] (fun v5 v6 v7 v8 wr => ∃ (star : Option Nat) (behind p i : Nat), v5 = .int .i64 (starZ star) ∧ v6 = .int .i64 (behind : Int) ∧ v7 = .int .i64 (p : Int) ∧ v8 = .int .i64 (i : Int) ∧
    Hid (PSt P.data.toList s.data.toList (Mat P.data.toList s.data.toList) star behind p i ∧ behind ≤ i) ∧ Below w.heap.size w wr)
    (fun v5 v6 v7 v8 _ => leftZ P.size s.size (intOf v5) (intOf v6) (intOf v8))
  case atStart => exact ⟨none, 0, 0, 0, rfl, rfl, rfl, rfl, ⟨PSt.start _ _, by omega⟩, Below.refl _ _⟩
  case round =>
    obtain ⟨star, behind, p, i, rfl, rfl, rfl, rfl, H, hb⟩ := hrel
    have hpP : p ≤ P.size := by rw [HPL.out]; exact H.out.1.hp
    have hiS : i ≤ s.size := by rw [HSL.out]; exact H.out.1.hi
    have HB : Hid (Below w.heap.size w wr) := hb
    clear hb
    by_cases hi : i < s.size
    · have hiz : (i : Int) < (s.size : Int) := by omega
      obtain ⟨c, hc⟩ : ∃ c : UInt8, s[i]'hi = c := ⟨_, rfl⟩
      have HC : Hid (s.data.toList[i]? = some c) := by show s.data.toList[i]? = some c; rw [← hc]; exact Lib.data_getElem? s i hi
      by_cases hp : p < P.size
      · have hpz : (p : Int) < (P.size : Int) := by omega
        obtain ⟨a, ha⟩ : ∃ a : UInt8, P[p]'hp = a := ⟨_, rfl⟩
        have HA : Hid (P.data.toList[p]? = some a) := by show P.data.toList[p]? = some a; rw [← ha]; exact Lib.data_getElem? P p hp
        by_cases ha1 : a = 42
        · have hb1 : ((a.toNat : Int) == 42) = true := by rw [ha1]; rfl
          have HM : Hid (starZ star < (p : Int)) := by
            show starZ star < (p : Int)
            cases star with
            | none => simp only [starZ]; omega
            | some q => have := (H.out.1.seg q rfl).1; simp only [starZ]; omega
          have HX : Hid (a = 42) := ha1
          clear ha1
          go_wp2_with fail
          go_roundw
          case rel => exact ⟨some p, i, p + 1, i, rfl, rfl, by first | rfl | go_num | simp, rfl, ⟨H.out.1.star (HX.out ▸ HA.out), Nat.le_refl _⟩, HB.out⟩
          case measure => exact left_star HM.out hp hiS
        · have hb1 : ((a.toNat : Int) == 42) = false := beq_ne ha1
          have HN : Hid (a ≠ 42) := ha1
          clear ha1
          by_cases hq : a = 63
          · have hb2 : ((a.toNat : Int) == 63) = true := by rw [hq]; rfl
            have HO : Hid (a = 63 ∨ a = c) := Or.inl hq
            clear hq
            go_wp2_with fail
            go_quiet (fail)
            go_wp2_with fail
            go_roundw
            case rel => exact ⟨star, behind, p + 1, i + 1, rfl, rfl, by first | rfl | go_num | simp, by first | rfl | go_num | simp, ⟨H.out.1.one HA.out HC.out HN.out HO.out, by have := H.out.2; omega⟩, bdrewN HB.out _⟩
            case measure => exact left_one hi
          · have hb2 : ((a.toNat : Int) == 63) = false := beq_ne hq
            by_cases hac : a = c
            · have hb3 : ((a.toNat : Int) == (c.toNat : Int)) = true := by rw [hac]; simp
              have HO : Hid (a = 63 ∨ a = c) := Or.inr hac
              clear hq hac
              go_wp2_with fail
              go_quiet (fail)
              go_wp2_with fail
              go_roundw
              case rel => exact ⟨star, behind, p + 1, i + 1, rfl, rfl, by first | rfl | go_num | simp, by first | rfl | go_num | simp, ⟨H.out.1.one HA.out HC.out HN.out HO.out, by have := H.out.2; omega⟩, bdrewN HB.out _⟩
              case measure => exact left_one hi
            · have hb3 : ((a.toNat : Int) == (c.toNat : Int)) = false := beq_ne hac
              have HZ : Hid (¬ Mat (P.data.toList.drop p) (s.data.toList.drop i)) := PSt.not HC.out fun x hx => by
                have := Option.some.inj (HA.out.symm.trans hx)
                subst this
                exact ⟨HN.out, hq, hac⟩
              clear hq hac
              cases star with
              | none =>
                simp only [starZ]
                go_wp2_with fail
                go_quiet (fail)
                go_wp2_with fail
                go_ret
                exact ⟨⟨false, rfl, by simp; exact H.out.1.lost HZ.out⟩, bdrewN HB.out _⟩
              | some q =>
                simp only [starZ]
                have hbi := H.out.2
                have hqp := (H.out.1.seg q rfl).1
                go_wp2_with fail
                go_quiet (fail)
                go_wp2_with fail
                go_roundw
                case rel => exact ⟨some q, behind + 1, q + 1, behind + 1, rfl, by first | rfl | go_num | simp, by first | rfl | go_num | simp, by first | rfl | go_num | simp, ⟨H.out.1.back (by rw [← HSL.out]; exact hi) HZ.out, Nat.le_refl _⟩, bdrewN HB.out _⟩
                case measure => exact left_back H.out.2 hi
      · have hpz : ¬ ((p : Int) < (P.size : Int)) := by omega
        have HZ : Hid (¬ Mat (P.data.toList.drop p) (s.data.toList.drop i)) := PSt.not HC.out fun x hx => by
          have := (List.getElem?_eq_some_iff.1 hx).1
          rw [← HPL.out] at this
          exact absurd this hp
        cases star with
        | none =>
          simp only [starZ]
          go_wp2_with fail
          go_quiet (fail)
          go_wp2_with fail
          go_ret
          exact ⟨⟨false, rfl, by simp; exact H.out.1.lost HZ.out⟩, bdrewN HB.out _⟩
        | some q =>
          simp only [starZ]
          have hbi := H.out.2
          have hqp := (H.out.1.seg q rfl).1
          go_wp2_with fail
          go_quiet (fail)
          go_wp2_with fail
          go_roundw
          case rel => exact ⟨some q, behind + 1, q + 1, behind + 1, rfl, by first | rfl | go_num | simp, by first | rfl | go_num | simp, by first | rfl | go_num | simp, ⟨H.out.1.back (by rw [← HSL.out]; exact hi) HZ.out, Nat.le_refl _⟩, bdrewN HB.out _⟩
          case measure => exact left_back H.out.2 hi
    · obtain rfl : i = s.size := by omega
      have hiz : ¬ ((s.size : Int) < (s.size : Int)) := by omega
      have HE : Hid (Mat P.data.toList s.data.toList ↔ ∀ x ∈ P.data.toList.drop p, x = 42) := by
        have := H.out.1
        rw [HSL.out] at this
        exact this.ends
      have hx : (P.extract p P.size) = ⟨(P.data.toList.drop p).toArray⟩ := by
        have h1 : P = ⟨P.data.toList.toArray⟩ := by cases P; simp
        have h2 := Lib.extract_mk P.data.toList p P.size
        rw [← h1] at h2
        rw [h2, List.take_of_length_le (by rw [List.length_drop, ← HPL.out]; omega)]
      have hz : (⟨(P.data.toList.drop p).toArray⟩ : ByteArray).size ≤ 9223372036854775807 := by
        rw [Lib.size_mk, List.length_drop, ← HPL.out]; omega
      have HTR : Hid (∀ w : World, Calls Tryd.prog 34 #[.string ⟨(P.data.toList.drop p).toArray⟩, .string ⟨#[42]⟩] w fun e w' => e = .returned (.string ⟨(Lib.trimB (P.data.toList.drop p) 42).toArray⟩) ∧ Below w.heap.size w w') :=
        fun w => by have := trim_one ⟨(P.data.toList.drop p).toArray⟩ 42 (by decide) hz w; simpa using this
      have HTN : Hid ((⟨(Lib.trimB (P.data.toList.drop p) 42).toArray⟩ : ByteArray) = ⟨#[]⟩ ↔ ∀ x ∈ P.data.toList.drop p, x = 42) := trim_none _
      generalize (⟨(Lib.trimB (P.data.toList.drop p) 42).toArray⟩ : ByteArray) = tr at HTR HTN
      go_wp2_with fail
      refine (HTR.out _).mono ?_
      intro e w2 hw2
      obtain ⟨he2, hw2⟩ := hw2
      subst he2
      have HB2 : Hid (Below w.heap.size w w2) := HB.out.trans (hw2.mono HB.out.size)
      clear hw2
      go_wp2_with fail
      go_ret
      refine ⟨⟨_, rfl, ?_⟩, HB2.out⟩
      rw [HE.out, ← HTN.out]
      exact empty_iff tr
theorem match_is (mb : Bool) (hmb : mb = true ↔ Mat P.data.toList s.data.toList) (hP : P.size ≤ 4611686018427387904) (hs : s.size ≤ 4611686018427387904) (w : World) :
    Calls Tryd.prog 18 #[.string P, .string s] w fun e w' => e = .returned (.bool mb) ∧ Below w.heap.size w w' :=
  (match_any P s hP hs w).mono fun e w' ⟨⟨b, h1, h2⟩, h3⟩ => ⟨by rw [h1, Bool.eq_iff_iff.2 (h2.trans hmb.symm)], h3⟩
end
end Go.Proofs.YthoohhokoeihiabDoor

namespace Go.Proofs.YthoohhokoeihiabDoor
open Go Go.RowKit Go.Shelf
set_option linter.unusedVariables false
set_option linter.unusedSimpArgs false
attribute [local go_sem] Oper.semAt_some
/-- a part that is not too long -/
abbrev PtS := { x : Nat × ByteArray // x.2.size < 4294967281 }
theorem abides2 {J : List PtS → World → Prop} {B : Nat} (hJ : AbidesFrom B J) {pre : List PtS} {W W' : World} (h : J pre W) (hb : Below W.heap.size W W') : J pre W' :=
  hJ pre W W' none h ⟨hb.os, hb.tape, hb.output, hb.size, fun k hk _ => hb.block k hk⟩ (fun r e => by cases e)
set_option maxRecDepth 100000 in
set_option maxHeartbeats 2000000 in
theorem parts2_in (l Bn : Nat) (s : ByteArray) (hs : s.size < 4294967281) (J Jx : List PtS → World → Prop)
    (hY : ∀ pre (x : PtS) W, J pre W → pre.length < (pts s.data.toList 0).length → YieldAt Fence.wide (3 - 1) Tryd.prog l (encP x.1) W fun e W' =>
      (e = .returned (.bool true) ∧ J (pre ++ [x]) W' ∧ KpB Bn W W') ∨ (e = .returned (.bool false) ∧ Jx (pre ++ [x]) W'))
    (W : World) (hJ : AbidesFrom W.heap.size J) (hBn : Boxed W Bn 9 (.string s)) (h0 : J [] W) :
    CallsIn Fence.wide 3 Tryd.prog 32 #[.func (.yield l) #[] #[], .pointer (some ⟨Bn, 0, none⟩)] W fun e W' => (∃ v, e = .returned v) ∧
      ((∃ ys, ys.map Subtype.val = pts s.data.toList 0 ∧ J ys W') ∨ (∃ pre, pre.map Subtype.val <+: pts s.data.toList 0 ∧ Jx pre W')) := by
  have HL : Hid (s.size = s.data.toList.length) := Lib.size_eq s
  refine callsIn_of_wp Tryd.func32 rfl trivial ?_ rfl
  simp only [Tryd.ntmps32, List.size_toArray, List.length_cons, List.length_nil, Nat.reduceAdd, Nat.reduceSub, Array.replicate_succ, Array.replicate_zero, List.push_toArray, List.append_toArray, List.nil_append, List.cons_append]
  gi_wp2
  gi_loopw [3] (fun v wr => Hid (∃ (pre : List PtS) (i : Nat), v = .int .i64 (i : Int) ∧ i ≤ s.size + 1 ∧ pts s.data.toList 0 = pre.map Subtype.val ++ pts s.data.toList i ∧ J pre wr ∧ Boxed wr Bn 9 (.string s)))
    (fun v wr => s.size + 1 - (intOf v).toNat)
  case atStart => exact ⟨[], 0, rfl, by omega, rfl, h0, hBn⟩
  case round =>
    obtain ⟨pre, i, rfl, hi1, hp, hJs, hB⟩ := Hid.out hrel
    clear hrel
    have hc := hB.cell
    by_cases hi : i < s.size
    · have hz : (i : Int) < (s.size : Int) := by omega
      have HP : Hid (pts s.data.toList 0 = pre.map Subtype.val ++ pts s.data.toList i) := hp
      have HJ : Hid (J pre wr) := hJs
      have HB : Hid (Boxed wr Bn 9 (.string s)) := hB
      have HX : Hid (∀ w : World, Calls Tryd.prog 33 #[.string (s.extract i s.size), .string ⟨#[47]⟩] w fun e w' => (∃ v1 v2 : Value, e = .returned (.tuple #[.string (bsL (segL s.data.toList i)), v1, v2])) ∧ ∃ n, w' = w.drewN n) := fun w => by
        have := cut_any (s.extract i s.size) (by rw [ByteArray.size_extract]; omega) w
        rwa [ba_drop, segL_drop, Nat.add_zero] at this
      clear hp hJs hB
      have hsl := segL_le s.data.toList i
      rw [← HL.out] at hsl
      have hiL : i < s.data.toList.length := by rw [← HL.out]; exact hi
      obtain ⟨p, hpe⟩ : ∃ p, bsL (segL s.data.toList i) = p := ⟨_, rfl⟩
      have hps : p.size = (segL s.data.toList i).length := by rw [← hpe, bsL_size]
      rw [← hps] at hsl
      have hpl : p.toList = segL s.data.toList i := by rw [← hpe, Lib.toList_data, bsL_data]
      have HE : Hid (_ ∧ _ ∧ _ ∧ _) := ⟨hpe, hps, hpl, hiL⟩
      rw [hpe] at HX
      by_cases hq : segL s.data.toList i = []
      · have he : p.toList = [] := hpl.trans hq
        have hz0 : p.size = 0 := by rw [hps, hq]; rfl
        have HQ : Hid (pts s.data.toList i = pts s.data.toList (i + 1)) := pts_skip hiL hq
        clear hpe hps hpl hiL hq
        gi_wp2
        refine ⟨trivial, ?_⟩
        refine (callsIn_wide.2 (HX.out _)).mono ?_
        rintro e w9 ⟨⟨v1, v2, rfl⟩, n, rfl⟩
        gi_wp2
        refine ⟨fun _ h => (by cases h), ?_⟩
        gi_wp2
        go_roundw
        case rel => exact ⟨pre, i + 1, by first | rfl | simp [hz0] | go_num, by omega, by rw [HP.out, HQ.out], abides2 hJ HJ.out (bdrewN (Below.refl _ _) n), HB.out⟩
        case measure => simp [intOf, hz0]; omega
      · have he : ¬ p.toList = [] := by rw [hpl]; exact hq
        have hpsz : (i, p).2.size < 4294967281 := by show p.size < _; omega
        have HQ : Hid (pts s.data.toList i = (i, p) :: pts s.data.toList (i + p.size + 1)) := by
          have := pts_part hiL hq
          rw [hpe, ← hps] at this
          exact this
        clear hpe hps hpl hiL hq
        gi_wp2
        refine ⟨trivial, ?_⟩
        refine (callsIn_wide.2 (HX.out _)).mono ?_
        rintro e w9 ⟨⟨v1, v2, rfl⟩, n, rfl⟩
        obtain ⟨fn, tmps, assign, body, hy, hR⟩ := hY pre ⟨(i, p), hpsz⟩ (wr.drewN n) (abides2 hJ HJ.out (bdrewN (Below.refl _ _) n)) (by rw [HP.out, HQ.out]; simp)
        dsimp only [encP] at hy
        gi_wp2
        refine hR.mono ?_
        rintro e W3 (⟨rfl, hJ3, hk3⟩ | ⟨rfl, hJx3⟩)
        · have hB3 : Boxed W3 Bn 9 (.string s) := hk3.trans HB.out
          gi_wp2
          refine ⟨⟨pre ++ [⟨(i, p), hpsz⟩], i + p.size + 1, by rw [show ((i + p.size + 1 : Nat) : Int) = (i : Int) + ((p.size : Int) + 1) by omega], by omega, by rw [HP.out, HQ.out]; simp, hJ3, hB3⟩, ?_⟩
          simp only [intOf]
          omega
        · gi_wp2
          rotate_left
          · rename_i hx
            simp [he] at hx
          refine bodyPost_ret (results_none rfl _ _ _) rfl ?_
          exact ⟨⟨_, rfl⟩, .inr ⟨pre ++ [⟨(i, p), hpsz⟩], ⟨pts s.data.toList (i + p.size + 1), by rw [HP.out, HQ.out]; simp⟩, hJx3⟩⟩
    · have hz : ¬ (i : Int) < (s.size : Int) := by omega
      have HP : Hid (pts s.data.toList 0 = pre.map Subtype.val) := by
        rw [pts_end (i := i) (by rw [← HL.out]; omega), List.append_nil] at hp
        exact hp
      clear hp hB
      have hiz := hi
      gi_wp2
      go_end0
      exact ⟨⟨_, rfl⟩, .inl ⟨pre, HP.out.symm, hJs⟩⟩
theorem parts2_stops (Bn : Nat) (s : ByteArray) (hs : s.size < 4294967281) (w : World) (hB : Boxed w Bn 9 (.string s)) :
    SeqStopsK Fence.wide 3 Tryd.prog 32 #[.pointer (some ⟨Bn, 0, none⟩)] (fun x : PtS => encP x.1) (KpB Bn) (fun ys => ys.map Subtype.val = pts s.data.toList 0) (fun pre => pre.map Subtype.val <+: pts s.data.toList 0) (pts s.data.toList 0).length w := fun l J Jx W hW hJ _ hY h0 =>
  parts2_in l Bn s hs J Jx hY W hJ ((hW.block Bn hB.lt).trans hB) h0
end Go.Proofs.YthoohhokoeihiabDoor
