/- Directories: entries with a beginning, of a pattern, behind a name. -/
import Derived.Test.YtojnlmfahgeidaaGreatDoorHBytes
import Derived.BigQuiet
import Derived.Deep.QuietTactic
import Derived.Handy
import Derived.Test.YtojnlmfahgeidaaGreatDoorHDiThoseE
import Derived.Test.YtojnlmfahgeidaaGreatDoorHNaCmp2
import Derived.Deep.Cut
import Derived.Test.YtojnlmfahgeidaaGreatDoorHTrRead
import Derived.Test.YtojnlmfahgeidaaGreatDoorHNaRSo
import Derived.Test.YtojnlmfahgeidaaGreatDoorHDiLay
import Derived.Test.YtojnlmfahgeidaaGreatDoorHNaJoinB


/- Patterns with ? and *: what a text is, as plain lists of bytes: what the program keeps in each round, and the rows of the document. -/
namespace Go.Nam

/-- A text is a pattern (signs as numbers: 42 is the star, 63 any one). -/
inductive Mat : List UInt8 → List UInt8 → Prop
  | nil : Mat [] []
  | one {p c : UInt8} {ps s : List UInt8} : p ≠ 42 → (p = 63 ∨ p = c) → Mat ps s → Mat (p :: ps) (c :: s)
  | none {ps s : List UInt8} : Mat ps s → Mat (42 :: ps) s
  | more {ps s : List UInt8} {c : UInt8} : Mat (42 :: ps) s → Mat (42 :: ps) (c :: s)

theorem Mat.nil_iff {s : List UInt8} : Mat [] s ↔ s = [] := by
  constructor
  · intro h; cases h; rfl
  · rintro rfl; exact .nil

theorem Mat.one_nil {p : UInt8} {ps : List UInt8} (hp : p ≠ 42) : ¬ Mat (p :: ps) [] := by
  intro h; cases h with
  | none _ => exact hp rfl

theorem Mat.one_iff {p c : UInt8} {ps s : List UInt8} (hp : p ≠ 42) : Mat (p :: ps) (c :: s) ↔ (p = 63 ∨ p = c) ∧ Mat ps s := by
  constructor
  · intro h; cases h with
    | one _ h1 h2 => exact ⟨h1, h2⟩
    | none _ => exact absurd rfl hp
    | more _ => exact absurd rfl hp
  · rintro ⟨h1, h2⟩; exact .one hp h1 h2

theorem Mat.star_drop {ps : List UInt8} : ∀ (k : Nat) (s : List UInt8), Mat ps (s.drop k) → Mat (42 :: ps) s
  | 0, s, h => .none (by simpa using h)
  | k + 1, [], h => .none (by simpa using h)
  | k + 1, c :: s, h => .more (Mat.star_drop k s (by simpa using h))

theorem Mat.star_iff {ps s : List UInt8} : Mat (42 :: ps) s ↔ ∃ k, k ≤ s.length ∧ Mat ps (s.drop k) := by
  constructor
  · intro h
    induction s with
    | nil => cases h with
      | none h => exact ⟨0, by simp, by simpa using h⟩
    | cons c s ih =>
      cases h with
      | one h1 _ _ => exact absurd rfl h1
      | none h => exact ⟨0, by simp, by simpa using h⟩
      | more h => obtain ⟨k, hk, h2⟩ := ih h; exact ⟨k + 1, by simp; omega, by simpa using h2⟩
  · rintro ⟨k, _, h⟩; exact Mat.star_drop k s h

theorem Mat.app {a b : List UInt8} : ∀ {s : List UInt8}, Mat (a ++ b) s ↔ ∃ j, j ≤ s.length ∧ Mat a (s.take j) ∧ Mat b (s.drop j) := by
  induction a with
  | nil =>
    intro s
    constructor
    · intro h; exact ⟨0, by simp, by simpa using Mat.nil, by simpa using h⟩
    · rintro ⟨j, hj, h1, h2⟩
      have := Mat.nil_iff.1 h1
      have h3 : j = 0 := by
        have := congrArg List.length this; rw [List.length_take, List.length_nil] at this; omega
      subst h3; simpa using h2
  | cons p a ih =>
    intro s
    by_cases hp : p = 42
    · subst hp
      rw [List.cons_append, Mat.star_iff]
      constructor
      · rintro ⟨k, hk, h⟩
        obtain ⟨j, hj, h1, h2⟩ := ih.1 h
        rw [List.length_drop] at hj
        refine ⟨k + j, by omega, Mat.star_drop k _ ?_, by rw [List.drop_drop] at h2; exact h2⟩
        rw [List.drop_take]; rwa [Nat.add_sub_cancel_left]
      · rintro ⟨j, hj, h1, h2⟩
        obtain ⟨k, hk, h3⟩ := Mat.star_iff.1 h1
        rw [List.length_take] at hk
        refine ⟨k, by omega, ih.2 ⟨j - k, by rw [List.length_drop]; omega, by rwa [List.drop_take] at h3, ?_⟩⟩
        rw [List.drop_drop, Nat.add_sub_cancel' (by omega)]; exact h2
    · cases s with
      | nil =>
        constructor
        · intro h; exact absurd h (Mat.one_nil hp)
        · rintro ⟨j, hj, h1, h2⟩; simp at h1; exact absurd h1 (Mat.one_nil hp)
      | cons c s =>
        rw [List.cons_append, Mat.one_iff hp]
        constructor
        · rintro ⟨h0, h⟩
          obtain ⟨j, hj, h1, h2⟩ := ih.1 h
          exact ⟨j + 1, by simp; omega, by simpa using (Mat.one_iff hp).2 ⟨h0, h1⟩, by simpa using h2⟩
        · rintro ⟨j, hj, h1, h2⟩
          cases j with
          | zero => simp at h1; exact absurd h1 (Mat.one_nil hp)
          | succ j =>
            rw [List.take_succ_cons, Mat.one_iff hp] at h1
            exact ⟨h1.1, ih.2 ⟨j, by simp at hj; omega, h1.2, by simpa using h2⟩⟩

/-- a pattern without a star against a text of its own length -/
def PSeg (a t : List UInt8) : Prop := a.length = t.length ∧ ∀ i, (h : i < a.length) → (h2 : i < t.length) → a[i] ≠ 42 ∧ (a[i] = 63 ∨ a[i] = t[i])

theorem PSeg.mat_len {a t : List UInt8} (ha : ∀ i, (h : i < a.length) → a[i] ≠ 42) (h : Mat a t) : a.length = t.length := by
  induction a generalizing t with
  | nil => rw [Mat.nil_iff.1 h]
  | cons p a ih =>
    have hp : p ≠ 42 := ha 0 (by simp)
    cases t with
    | nil => exact absurd h (Mat.one_nil hp)
    | cons c t =>
      have := ih (fun i hi => by have h5 := ha (i + 1) (by simpa using hi); rw [List.getElem_cons_succ] at h5; exact h5) ((Mat.one_iff hp).1 h).2
      simp [this]

/-- What a row of the document's table says. -/
theorem Mat.snoc_star {a s : List UInt8} {i : Nat} (hi : i < s.length) :
    Mat (a ++ [42]) (s.take (i + 1)) ↔ Mat a (s.take (i + 1)) ∨ Mat (a ++ [42]) (s.take i) := by
  have star : ∀ t : List UInt8, Mat [42] t := fun t => Mat.star_drop t.length t (by simpa using Mat.nil)
  constructor
  · intro h
    obtain ⟨j, hj, h1, _⟩ := Mat.app.1 h
    rw [List.length_take] at hj
    by_cases hj2 : j = i + 1
    · left; rw [List.take_take, hj2, Nat.min_self] at h1; exact h1
    · right
      refine Mat.app.2 ⟨j, by rw [List.length_take]; omega, ?_, star _⟩
      rw [List.take_take] at h1 ⊢
      rw [Nat.min_eq_left (by omega)] at h1 ⊢
      exact h1
  · rintro (h | h)
    · exact Mat.app.2 ⟨i + 1, by rw [List.length_take]; omega, by rw [List.take_take, Nat.min_self]; exact h, star _⟩
    · obtain ⟨j, hj, h1, _⟩ := Mat.app.1 h
      rw [List.length_take] at hj
      refine Mat.app.2 ⟨j, by rw [List.length_take]; omega, ?_, star _⟩
      rw [List.take_take] at h1 ⊢
      rw [Nat.min_eq_left (by omega)] at h1 ⊢
      exact h1

theorem Mat.snoc_one {a s : List UInt8} {i : Nat} {p : UInt8} (hp : p ≠ 42) (hi : i < s.length) :
    Mat (a ++ [p]) (s.take (i + 1)) ↔ Mat a (s.take i) ∧ (p = 63 ∨ p = s[i]) := by
  have one : ∀ t : List UInt8, Mat [p] t ↔ ∃ c, t = [c] ∧ (p = 63 ∨ p = c) := by
    intro t
    cases t with
    | nil => constructor
             · intro h; exact absurd h (Mat.one_nil hp)
             · rintro ⟨c, h, _⟩; cases h
    | cons c t =>
      rw [Mat.one_iff hp, Mat.nil_iff]
      constructor
      · rintro ⟨h1, rfl⟩; exact ⟨c, rfl, h1⟩
      · rintro ⟨d, h1, h2⟩; cases h1; exact ⟨h2, rfl⟩
  constructor
  · intro h
    obtain ⟨j, hj, h1, h2⟩ := Mat.app.1 h
    obtain ⟨c, h3, h4⟩ := (one _).1 h2
    have hl := congrArg List.length h3
    simp only [List.length_drop, List.length_take, List.length_cons, List.length_nil] at hl
    have hji : j = i := by omega
    subst hji
    rw [List.take_take, Nat.min_eq_left (by omega)] at h1
    refine ⟨h1, ?_⟩
    have : c = s[j] := by
      have h5 := congrArg (fun l : List UInt8 => l[0]?) h3
      simp [List.getElem?_drop, hi] at h5
      exact h5.symm
    rw [← this]; exact h4
  · rintro ⟨h1, h2⟩
    refine Mat.app.2 ⟨i, by rw [List.length_take]; omega, by rw [List.take_take, Nat.min_eq_left (by omega)]; exact h1, (one _).2 ⟨s[i], ?_, h2⟩⟩
    apply List.ext_getElem
    · simp; omega
    · intro k h3 h4
      simp at h4
      subst h4
      simp

theorem Mat.snoc_star_nil {a : List UInt8} : Mat (a ++ [42]) [] ↔ Mat a [] := by
  rw [Mat.app]
  constructor
  · rintro ⟨j, hj, h1, _⟩; simpa using h1
  · intro h; exact ⟨0, by simp, by simpa using h, by simpa using Mat.none Mat.nil⟩

theorem Mat.snoc_one_nil {a : List UInt8} {p : UInt8} (hp : p ≠ 42) : ¬ Mat (a ++ [p]) [] := by
  rw [Mat.app]
  rintro ⟨j, hj, _, h2⟩
  simp at h2
  exact Mat.one_nil hp h2

theorem Mat.nil_all {ps : List UInt8} : Mat ps [] ↔ ∀ x ∈ ps, x = 42 := by
  induction ps with
  | nil => simp [Mat.nil]
  | cons p ps ih =>
    by_cases hp : p = 42
    · subst hp
      rw [Mat.star_iff]
      simp [ih]
    · simp only [List.mem_cons, forall_eq_or_imp, hp, false_and, iff_false]
      exact Mat.one_nil hp

/-- The program's state: where the last star stood (or none), what it was given, and the two places. -/
structure PSt (P s : List UInt8) (A : Prop) (star : Option Nat) (behind p i : Nat) : Prop where
  hp : p ≤ P.length
  hi : i ≤ s.length
  out : A ↔ (Mat (P.drop p) (s.drop i) ∨ ∃ q, star = some q ∧ ∃ k, behind < k ∧ k ≤ s.length ∧ Mat (P.drop (q + 1)) (s.drop k))
  seg : ∀ q, star = some q → q + 1 ≤ p ∧ behind ≤ i ∧ p - (q + 1) = i - behind ∧ ∀ j, q < j → j < p → P[j]? ≠ some 42

theorem PSt.start (P s : List UInt8) : PSt P s (Mat P s) none 0 0 0 :=
  ⟨by simp, by simp, by simp, by simp⟩

/-- What stands behind the last star, given more, was in vain or not wanted. -/
theorem PSt.spare {P s : List UInt8} {A : Prop} {star : Option Nat} {behind p i : Nat} (H : PSt P s A star behind p i) {q k : Nat} (hq : star = some q) (hk : behind < k) (hk2 : k ≤ s.length)
    (h : Mat (P.drop (q + 1)) (s.drop k)) : ∃ j, i < j ∧ j ≤ s.length ∧ Mat (P.drop p) (s.drop j) := by
  obtain ⟨h1, h2, h3, h4⟩ := H.seg q hq
  have hsplit : P.drop (q + 1) = (P.drop (q + 1)).take (p - (q + 1)) ++ P.drop p := by
    conv => lhs; rw [← List.take_append_drop (p - (q + 1)) (P.drop (q + 1))]
    rw [List.drop_drop, Nat.add_sub_cancel' h1]
  rw [hsplit] at h
  obtain ⟨j, hj, h5, h6⟩ := Mat.app.1 h
  have hl := PSeg.mat_len (fun x hx => by
    intro he
    have hx2 : x < p - (q + 1) := by rw [List.length_take] at hx; omega
    refine h4 (q + 1 + x) (by omega) (by omega) ?_
    rw [← he, List.getElem_take, List.getElem_drop, List.getElem?_eq_getElem]) h5
  rw [List.length_drop] at hj
  rw [List.length_take, List.length_drop, List.length_take, List.length_drop] at hl
  have hpl := H.hp
  refine ⟨k + j, by omega, by omega, ?_⟩
  rw [List.drop_drop] at h6; exact h6

theorem drop_at {l : List UInt8} {i : Nat} {c : UInt8} (h : l[i]? = some c) : l.drop i = c :: l.drop (i + 1) := by
  obtain ⟨h1, h2⟩ := List.getElem?_eq_some_iff.1 h
  rw [← h2]; exact List.drop_eq_getElem_cons h1

theorem PSt.star {P s : List UInt8} {A : Prop} {star : Option Nat} {behind p i : Nat} (H : PSt P s A star behind p i) (hp : P[p]? = some 42) : PSt P s A (some p) i (p + 1) i := by
  have hl : p < P.length := (List.getElem?_eq_some_iff.1 hp).1
  refine ⟨by omega, H.hi, ?_, ?_⟩
  · rw [H.out, drop_at hp]
    constructor
    · have go : Mat (42 :: P.drop (p + 1)) (s.drop i) → (Mat (P.drop (p + 1)) (s.drop i) ∨ ∃ q, some p = some q ∧ ∃ k, i < k ∧ k ≤ s.length ∧ Mat (P.drop (q + 1)) (s.drop k)) := by
        intro h
        obtain ⟨k, hk, h2⟩ := Mat.star_iff.1 h
        rw [List.length_drop] at hk
        rw [List.drop_drop] at h2
        cases k with
        | zero => left; simpa using h2
        | succ k => right; have := H.hi; exact ⟨p, rfl, i + (k + 1), by omega, by omega, h2⟩
      rintro (h | ⟨q, hq, k, hk, hk2, h⟩)
      · exact go h
      · obtain ⟨j, hj, hj2, h3⟩ := H.spare hq hk hk2 h
        rw [drop_at hp] at h3
        refine go (Mat.star_iff.2 ?_)
        obtain ⟨m, hm, h4⟩ := Mat.star_iff.1 h3
        rw [List.length_drop] at hm
        rw [List.drop_drop] at h4
        refine ⟨j + m - i, by rw [List.length_drop]; omega, ?_⟩
        rw [List.drop_drop, show i + (j + m - i) = j + m by omega]; exact h4
    · rintro (h | ⟨q, hq, k, hk, hk2, h⟩)
      · exact Or.inl (.none h)
      · cases hq
        refine Or.inl (Mat.star_iff.2 ⟨k - i, by rw [List.length_drop]; omega, ?_⟩)
        rw [List.drop_drop, Nat.add_sub_cancel' (by omega)]; exact h
  · rintro q hq
    cases hq
    exact ⟨by omega, by omega, by omega, fun j h1 h2 => by omega⟩

theorem PSt.one {P s : List UInt8} {A : Prop} {star : Option Nat} {behind p i : Nat} {a c : UInt8} (H : PSt P s A star behind p i) (hp : P[p]? = some a) (hi : s[i]? = some c) (ha : a ≠ 42) (h : a = 63 ∨ a = c) :
    PSt P s A star behind (p + 1) (i + 1) := by
  have hl : p < P.length := (List.getElem?_eq_some_iff.1 hp).1
  have hm : i < s.length := (List.getElem?_eq_some_iff.1 hi).1
  refine ⟨by omega, by omega, ?_, ?_⟩
  · rw [H.out, drop_at hp, drop_at hi, Mat.one_iff ha]
    simp [h]
  · intro q hq
    obtain ⟨h1, h2, h3, h4⟩ := H.seg q hq
    refine ⟨by omega, by omega, by omega, fun j h5 h6 => ?_⟩
    by_cases hj : j = p
    · rw [hj, hp]; simpa using ha
    · exact h4 j h5 (by omega)

/-- nothing here -/
theorem PSt.not {P s : List UInt8} {p i : Nat} {c : UInt8} (hi : s[i]? = some c) (hp : ∀ a, P[p]? = some a → a ≠ 42 ∧ a ≠ 63 ∧ a ≠ c) : ¬ Mat (P.drop p) (s.drop i) := by
  rw [drop_at hi]
  cases h : P[p]? with
  | none =>
    rw [List.drop_eq_nil_of_le (List.getElem?_eq_none_iff.1 h), Mat.nil_iff]; simp
  | some a =>
    obtain ⟨h1, h2, h3⟩ := hp a h
    rw [drop_at h, Mat.one_iff h1]
    simp [h2, h3]

theorem PSt.back {P s : List UInt8} {A : Prop} {q behind p i : Nat} (H : PSt P s A (some q) behind p i) (hi : i < s.length) (h : ¬ Mat (P.drop p) (s.drop i)) :
    PSt P s A (some q) (behind + 1) (q + 1) (behind + 1) := by
  obtain ⟨h1, h2, h3, h4⟩ := H.seg q rfl
  refine ⟨by have := H.hp; omega, by omega, ?_, ?_⟩
  · rw [H.out]
    simp only [h, false_or]
    constructor
    · rintro ⟨q', hq, k, hk, hk2, h5⟩
      cases hq
      by_cases hk3 : k = behind + 1
      · subst hk3; exact Or.inl h5
      · exact Or.inr ⟨q, rfl, k, by omega, hk2, h5⟩
    · rintro (h5 | ⟨q', hq, k, hk, hk2, h5⟩)
      · exact ⟨q, rfl, behind + 1, by omega, by omega, h5⟩
      · cases hq; exact ⟨q, rfl, k, by omega, hk2, h5⟩
  · rintro q' hq; cases hq
    exact ⟨by omega, by omega, by omega, fun j h5 h6 => by omega⟩

theorem PSt.lost {P s : List UInt8} {A : Prop} {behind p i : Nat} (H : PSt P s A none behind p i) (h : ¬ Mat (P.drop p) (s.drop i)) : ¬ A := by
  rw [H.out]; simp [h]

theorem PSt.ends {P s : List UInt8} {A : Prop} {star : Option Nat} {behind p : Nat} (H : PSt P s A star behind p s.length) : A ↔ ∀ x ∈ P.drop p, x = 42 := by
  rw [H.out, List.drop_eq_nil_of_le (Nat.le_refl _), Mat.nil_all]
  constructor
  · rintro (h | ⟨q, hq, k, hk, hk2, h⟩)
    · exact h
    · obtain ⟨j, hj, hj2, _⟩ := H.spare hq hk hk2 h; omega
  · exact Or.inl

/-- how much is left to do -/
def left (P s : List UInt8) (star : Option Nat) (behind i : Nat) : Nat :=
  (match star with | none => P.length + 1 | some q => P.length - q) * ((s.length + 2) * (s.length + 2)) + (s.length + 1 - behind) * (s.length + 2) + (s.length - i)

theorem Mat.all (s : List UInt8) : Mat [42] s := Mat.star_drop s.length s (by simpa using Mat.nil)
end Go.Nam

namespace Go.Proofs.YtojnlmfahgeidaaGreatDoor
set_option maxRecDepth 20000
open Go Go.RowKit Go.Nam
set_option linter.unusedVariables false
set_option linter.unusedSimpArgs false

theorem beq_ne {a b : UInt8} (h : a ≠ b) : ((a.toNat : Int) == (b.toNat : Int)) = false := by
  rw [beq_eq_false_iff_ne]
  intro e
  exact h (UInt8.toNat_inj.1 (by exact_mod_cast e))
def starZ : Option Nat → Int
  | none => -1
  | some q => (q : Int)
theorem dw_nil (p : UInt8 → Bool) : ∀ l : List UInt8, l.dropWhile p = [] ↔ ∀ x ∈ l, p x = true
  | [] => by simp
  | a :: l => by
    rw [List.dropWhile_cons]
    by_cases h : p a = true
    · rw [if_pos h, dw_nil p l]; simp [h]
    · rw [if_neg h]; simp [h]
theorem tw_all (p : UInt8 → Bool) : ∀ (l : List UInt8) x, x ∈ l.takeWhile p → p x = true
  | [], x, h => by simp at h
  | a :: l, x, h => by
    rw [List.takeWhile_cons] at h
    by_cases h1 : p a = true
    · rw [if_pos h1] at h
      rcases List.mem_cons.1 h with rfl | h
      · exact h1
      · exact tw_all p l x h
    · rw [if_neg h1] at h; simp at h
theorem trim_none (l : List UInt8) : (⟨(Lib.trimB l 42).toArray⟩ : ByteArray) = ⟨#[]⟩ ↔ ∀ x ∈ l, x = 42 := by
  have h : (Lib.trimB l 42) = [] ↔ ∀ x ∈ l, x = 42 := by
    unfold Lib.trimB Lib.trimLeftB Lib.trimRightB
    constructor
    · intro h
      have h1 : ∀ x ∈ (l.reverse.dropWhile (· == 42)).reverse, x = 42 := by
        have := (dw_nil _ _).1 h
        intro x hx; simpa using this x hx
      have h2 : ∀ x ∈ l.reverse, x = 42 := by
        intro x hx
        rw [← List.takeWhile_append_dropWhile (p := (· == 42)) (l := l.reverse)] at hx
        rcases List.mem_append.1 hx with h3 | h3
        · simpa using tw_all _ _ _ h3
        · exact h1 x (by simpa using h3)
      intro x hx; exact h2 x (by simpa using hx)
    · intro h
      have : l.reverse.dropWhile (· == 42) = [] := (dw_nil _ _).2 fun x hx => by simpa using h x (by simpa using hx)
      rw [this]; rfl
  rw [← h]
  constructor
  · intro e; have := congrArg (fun b : ByteArray => b.data.toList) e; simpa using this
  · intro e; rw [e]
def leftZ (m n : Nat) (star behind i : Int) : Nat := ((m : Int) - star).toNat * ((n + 2) * (n + 2)) + ((n : Int) + 1 - behind).toNat * (n + 2) + ((n : Int) - i).toNat
theorem left_star {m n : Nat} {star behind : Int} {p i : Nat} (h1 : star < p) (h2 : p < m) (h3 : i ≤ n) : leftZ m n p i i < leftZ m n star behind i := by
  unfold leftZ
  have e1 : ((m : Int) - star).toNat = ((m : Int) - p).toNat + (((m : Int) - star).toNat - ((m : Int) - p).toNat - 1) + 1 := by omega
  rw [e1]
  generalize ((m : Int) - p).toNat = a
  generalize (((m : Int) - star).toNat - a - 1) = d
  have e2 : ((n : Int) + 1 - i).toNat ≤ n + 1 := by omega
  have e3 : ((n : Int) + 1 - i).toNat * (n + 2) ≤ (n + 1) * (n + 2) := Nat.mul_le_mul_right _ e2
  rw [Nat.add_mul (a + d) 1, Nat.add_mul a d, Nat.one_mul]
  have e4 : (n + 2) * (n + 2) = (n + 1) * (n + 2) + (n + 2) := by rw [← Nat.succ_mul]
  have e5 : ((n : Int) - i).toNat ≤ n := by omega
  generalize d * ((n + 2) * (n + 2)) = x
  generalize a * ((n + 2) * (n + 2)) = y
  generalize ((n : Int) + 1 - behind).toNat * (n + 2) = z
  generalize (n + 2) * (n + 2) = K at *
  omega
theorem left_one {m n : Nat} {star behind : Int} {i : Nat} (h : i < n) : leftZ m n star behind (((i + 1 : Nat) : Int)) < leftZ m n star behind i := by
  unfold leftZ; omega
theorem left_back {m n : Nat} {star : Int} {behind i : Nat} (h : behind ≤ i) (h2 : i < n) : leftZ m n star ((behind + 1 : Nat) : Int) ((behind + 1 : Nat) : Int) < leftZ m n star behind i := by
  unfold leftZ
  have e1 : ((n : Int) + 1 - behind).toNat = ((n : Int) + 1 - ((behind + 1 : Nat) : Int)).toNat + 1 := by omega
  rw [e1, Nat.add_mul (((n : Int) + 1 - ((behind + 1 : Nat) : Int)).toNat) 1, Nat.one_mul]
  omega
section
variable (P s : ByteArray)
set_option maxHeartbeats 4000000 in
theorem match_any (hP : P.size ≤ 4611686018427387904) (hs : s.size ≤ 4611686018427387904) (w : World) :
    Calls Tryz.prog 69 #[.string P, .string s] w fun e w' => (∃ b : Bool, e = .returned (.bool b) ∧ (b = true ↔ Mat P.data.toList s.data.toList)) ∧ Below w.heap.size w w' := by
  have HPL : Hid (P.size = P.data.toList.length) := Lib.size_eq P
  have HSL : Hid (s.size = s.data.toList.length) := Lib.size_eq s
  go_enter Tryz.func69, Tryz.ntmps69
  go_wp2_with fail
  go_loopw [5, 6, 7, 8] (fun v5 v6 v7 v8 wr => ∃ (star : Option Nat) (behind p i : Nat), v5 = .int .i64 (starZ star) ∧ v6 = .int .i64 (behind : Int) ∧ v7 = .int .i64 (p : Int) ∧ v8 = .int .i64 (i : Int) ∧
    Hid (PSt P.data.toList s.data.toList (Mat P.data.toList s.data.toList) star behind p i ∧ behind ≤ i) ∧ Below w.heap.size w wr)
    (fun v5 v6 v7 v8 _ => leftZ P.size s.size (intOf v5) (intOf v6) (intOf v8))
  case atStart => exact ⟨none, 0, 0, 0, rfl, rfl, rfl, rfl, ⟨PSt.start _ _, by omega⟩, Below.refl _ _⟩
  case round =>
    obtain ⟨star, behind, p, i, rfl, rfl, rfl, rfl, H, hb⟩ := hrel
    have hpP : p ≤ P.size := by rw [HPL.out]; exact H.out.1.hp
    have hiS : i ≤ s.size := by rw [HSL.out]; exact H.out.1.hi
    have HB : Hid (Below w.heap.size w wr) := hb
    clear hb
    by_cases hi : i < s.size
    · have hiz : (i : Int) < (s.size : Int) := by omega
      obtain ⟨c, hc⟩ : ∃ c : UInt8, s[i]'hi = c := ⟨_, rfl⟩
      have HC : Hid (s.data.toList[i]? = some c) := by show s.data.toList[i]? = some c; rw [← hc]; exact Lib.data_getElem? s i hi
      by_cases hp : p < P.size
      · have hpz : (p : Int) < (P.size : Int) := by omega
        obtain ⟨a, ha⟩ : ∃ a : UInt8, P[p]'hp = a := ⟨_, rfl⟩
        have HA : Hid (P.data.toList[p]? = some a) := by show P.data.toList[p]? = some a; rw [← ha]; exact Lib.data_getElem? P p hp
        by_cases ha1 : a = 42
        · have hb1 : ((a.toNat : Int) == 42) = true := by rw [ha1]; rfl
          have HM : Hid (starZ star < (p : Int)) := by
            show starZ star < (p : Int)
            cases star with
            | none => simp only [starZ]; omega
            | some q => have := (H.out.1.seg q rfl).1; simp only [starZ]; omega
          have HX : Hid (a = 42) := ha1
          clear ha1
          go_wp2_with fail
          go_roundw
          case rel => exact ⟨some p, i, p + 1, i, rfl, rfl, by first | rfl | go_num | simp, rfl, ⟨H.out.1.star (HX.out ▸ HA.out), Nat.le_refl _⟩, HB.out⟩
          case measure => exact left_star HM.out hp hiS
        · have hb1 : ((a.toNat : Int) == 42) = false := beq_ne ha1
          have HN : Hid (a ≠ 42) := ha1
          clear ha1
          by_cases hq : a = 63
          · have hb2 : ((a.toNat : Int) == 63) = true := by rw [hq]; rfl
            have HO : Hid (a = 63 ∨ a = c) := Or.inl hq
            clear hq
            go_wp2_with fail
            go_quiet (fail)
            go_wp2_with fail
            go_roundw
            case rel => exact ⟨star, behind, p + 1, i + 1, rfl, rfl, by first | rfl | go_num | simp, by first | rfl | go_num | simp, ⟨H.out.1.one HA.out HC.out HN.out HO.out, by have := H.out.2; omega⟩, bdrewN HB.out _⟩
            case measure => exact left_one hi
          · have hb2 : ((a.toNat : Int) == 63) = false := beq_ne hq
            by_cases hac : a = c
            · have hb3 : ((a.toNat : Int) == (c.toNat : Int)) = true := by rw [hac]; simp
              have HO : Hid (a = 63 ∨ a = c) := Or.inr hac
              clear hq hac
              go_wp2_with fail
              go_quiet (fail)
              go_wp2_with fail
              go_roundw
              case rel => exact ⟨star, behind, p + 1, i + 1, rfl, rfl, by first | rfl | go_num | simp, by first | rfl | go_num | simp, ⟨H.out.1.one HA.out HC.out HN.out HO.out, by have := H.out.2; omega⟩, bdrewN HB.out _⟩
              case measure => exact left_one hi
            · have hb3 : ((a.toNat : Int) == (c.toNat : Int)) = false := beq_ne hac
              have HZ : Hid (¬ Mat (P.data.toList.drop p) (s.data.toList.drop i)) := PSt.not HC.out fun x hx => by
                have := Option.some.inj (HA.out.symm.trans hx)
                subst this
                exact ⟨HN.out, hq, hac⟩
              clear hq hac
              cases star with
              | none =>
                simp only [starZ]
                go_wp2_with fail
                go_quiet (fail)
                go_wp2_with fail
                go_ret
                exact ⟨⟨false, rfl, by simp; exact H.out.1.lost HZ.out⟩, bdrewN HB.out _⟩
              | some q =>
                simp only [starZ]
                have hbi := H.out.2
                have hqp := (H.out.1.seg q rfl).1
                go_wp2_with fail
                go_quiet (fail)
                go_wp2_with fail
                go_roundw
                case rel => exact ⟨some q, behind + 1, q + 1, behind + 1, rfl, by first | rfl | go_num | simp, by first | rfl | go_num | simp, by first | rfl | go_num | simp, ⟨H.out.1.back (by rw [← HSL.out]; exact hi) HZ.out, Nat.le_refl _⟩, bdrewN HB.out _⟩
                case measure => exact left_back H.out.2 hi
      · have hpz : ¬ ((p : Int) < (P.size : Int)) := by omega
        have HZ : Hid (¬ Mat (P.data.toList.drop p) (s.data.toList.drop i)) := PSt.not HC.out fun x hx => by
          have := (List.getElem?_eq_some_iff.1 hx).1
          rw [← HPL.out] at this
          exact absurd this hp
        cases star with
        | none =>
          simp only [starZ]
          go_wp2_with fail
          go_quiet (fail)
          go_wp2_with fail
          go_ret
          exact ⟨⟨false, rfl, by simp; exact H.out.1.lost HZ.out⟩, bdrewN HB.out _⟩
        | some q =>
          simp only [starZ]
          have hbi := H.out.2
          have hqp := (H.out.1.seg q rfl).1
          go_wp2_with fail
          go_quiet (fail)
          go_wp2_with fail
          go_roundw
          case rel => exact ⟨some q, behind + 1, q + 1, behind + 1, rfl, by first | rfl | go_num | simp, by first | rfl | go_num | simp, by first | rfl | go_num | simp, ⟨H.out.1.back (by rw [← HSL.out]; exact hi) HZ.out, Nat.le_refl _⟩, bdrewN HB.out _⟩
          case measure => exact left_back H.out.2 hi
    · obtain rfl : i = s.size := by omega
      have hiz : ¬ ((s.size : Int) < (s.size : Int)) := by omega
      have HE : Hid (Mat P.data.toList s.data.toList ↔ ∀ x ∈ P.data.toList.drop p, x = 42) := by
        have := H.out.1
        rw [HSL.out] at this
        exact this.ends
      have hx : (P.extract p P.size) = ⟨(P.data.toList.drop p).toArray⟩ := by
        have h1 : P = ⟨P.data.toList.toArray⟩ := by cases P; simp
        have h2 := Lib.extract_mk P.data.toList p P.size
        rw [← h1] at h2
        rw [h2, List.take_of_length_le (by rw [List.length_drop, ← HPL.out]; omega)]
      have hz : (⟨(P.data.toList.drop p).toArray⟩ : ByteArray).size ≤ 9223372036854775807 := by
        rw [Lib.size_mk, List.length_drop, ← HPL.out]; omega
      have HTR : Hid (∀ w : World, Calls Tryz.prog 123 #[.string ⟨(P.data.toList.drop p).toArray⟩, .string ⟨#[42]⟩] w fun e w' => e = .returned (.string ⟨(Lib.trimB (P.data.toList.drop p) 42).toArray⟩) ∧ Below w.heap.size w w') :=
        fun w => by have := trim_one ⟨(P.data.toList.drop p).toArray⟩ 42 (by decide) hz w; simpa using this
      have HTN : Hid ((⟨(Lib.trimB (P.data.toList.drop p) 42).toArray⟩ : ByteArray) = ⟨#[]⟩ ↔ ∀ x ∈ P.data.toList.drop p, x = 42) := trim_none _
      generalize (⟨(Lib.trimB (P.data.toList.drop p) 42).toArray⟩ : ByteArray) = tr at HTR HTN
      go_wp2_with fail
      refine (HTR.out _).mono ?_
      intro e w2 hw2
      obtain ⟨he2, hw2⟩ := hw2
      subst he2
      have HB2 : Hid (Below w.heap.size w w2) := HB.out.trans (hw2.mono HB.out.size)
      clear hw2
      go_wp2_with fail
      go_ret
      refine ⟨⟨_, rfl, ?_⟩, HB2.out⟩
      rw [HE.out, ← HTN.out]
      exact empty_iff tr
end
end Go.Proofs.YtojnlmfahgeidaaGreatDoor

namespace Go.Proofs.YtojnlmfahgeidaaGreatDoor
open Go Go.RowKit Go.Nam
set_option linter.unusedSimpArgs false
set_option linter.unusedVariables false
/-- a text begins with another one -/
def pfB (s p : ByteArray) : Bool := decide (p.size ≤ s.size) && ((s.extract 0 p.size).toList == p.toList)
open Classical in
/-- a text matches a pattern -/
noncomputable def maB (s p : ByteArray) : Bool := decide (Mat p.data.toList s.data.toList)
theorem maB_iff (s p : ByteArray) : maB s p = true ↔ Mat p.data.toList s.data.toList := by
  unfold maB
  exact @decide_eq_true_iff _ (Classical.propDecidable _)
/-- a text lies behind another one -/
def bhB (s p : ByteArray) : Bool := decide (0 < Lib.compareBytes s.data.toList p.data.toList)
set_option maxRecDepth 100000 in
set_option maxHeartbeats 8000000 in
theorem lite_any (s p : ByteArray) (w : World) : Calls Tryz.prog 122 #[.string s, .string p] w fun e w' => e = .returned (.bool (pfB s p)) ∧ w' = w := by
  obtain ⟨pb, hpb⟩ : ∃ pb, pb = pfB s p := ⟨_, rfl⟩
  rw [← hpb]
  have HP : Hid (pb = pfB s p) := hpb
  clear hpb
  by_cases h : p.size ≤ s.size
  · have h1 : (p.size : Int) ≤ (s.size : Int) := by omega
    go_enter Tryz.func122, Tryz.ntmps122
    go_wp2_with fail
    go_ret
    refine ⟨?_, rfl⟩
    rw [HP.out]
    unfold pfB
    rw [decide_eq_true h, Bool.true_and]
    rfl
  · have h1 : ¬ (p.size : Int) ≤ (s.size : Int) := by omega
    go_enter Tryz.func122, Tryz.ntmps122
    go_wp2_with fail
    go_ret
    refine ⟨?_, rfl⟩
    rw [HP.out]
    unfold pfB
    rw [decide_eq_false h, Bool.false_and]
    rfl
set_option maxRecDepth 100000 in
set_option maxHeartbeats 8000000 in
theorem hasPrefix_any (s p : ByteArray) (w : World) : Calls Tryz.prog 67 #[.string s, .string p] w fun e w' => e = .returned (.bool (pfB s p)) ∧ w' = w := by
  have HL : Hid (∀ w : World, Calls Tryz.prog 122 #[.string s, .string p] w fun e w' => e = .returned (.bool (pfB s p)) ∧ w' = w) := lite_any s p
  generalize pfB s p = pb at *
  go_enter Tryz.func67, Tryz.ntmps67
  go_wp2_with fail
  refine (HL.out _).mono ?_
  rintro e w1 ⟨rfl, rfl⟩
  go_wp2_with fail
  go_ret
  exact ⟨rfl, rfl⟩
theorem own_cap {w : World} {B e size n m c : Nat} {a : Option Addr} {xs : List Value} (h : w.ownsRow B e size (.slice a m c) n xs) : n ≤ c := by
  rcases h.2 with ⟨_, h0⟩ | ⟨g, cap, cur, hv, _, _, h1, _⟩
  · omega
  · injection hv with _ _ e3
    omega
theorem encE_small {i : Int} {s : ByteArray} (h : encE i s = 0) : s.size ≤ 4611686018427387904 := by
  unfold encE at h
  by_cases h1 : i < 1 ∨ 4096 < i
  · rw [if_pos h1] at h
    exact absurd h (by decide)
  · rw [if_neg h1] at h
    by_cases h2 : isName s.data.toList = true
    · have h3 := (isName_len h2).2
      rw [Lib.size_eq]
      omega
    · rw [if_neg h2] at h
      exact absurd h (by decide)
set_option maxRecDepth 100000 in
set_option maxHeartbeats 8000000 in
theorem begins1_any (i : Int) (s p : ByteArray) (bx : Nat) (w : World) (hb : w.cell? ⟨bx, 0, none⟩ = some (.string p)) (hl : bx < w.heap.size) : Calls Tryz.prog 66 #[.agg #[.int .i64 i, .string s], .pointer (some ⟨bx, 0, none⟩)] w fun e w' => e = .returned (.bool (pfB s p)) ∧ Below w.heap.size w w' := by
  have HL : Hid (∀ w : World, Calls Tryz.prog 67 #[.string s, .string p] w fun e w' => e = .returned (.bool (pfB s p)) ∧ w' = w) := hasPrefix_any s p
  generalize pfB s p = pb at *
  have b0 : Blk (w.alloc (.cells #[.int .i64 i, .string s] 36)) w.heap.size 36 #[.int .i64 i, .string s] := Blk.new _ _ _
  have hB : Below w.heap.size w (w.alloc (.cells #[.int .i64 i, .string s] 36)) := below_new1 _ _
  have c1 : (w.alloc (.cells #[.int .i64 i, .string s] 36)).cell? ⟨w.heap.size, 1, none⟩ = some (.string s) := (b0.cell 1).trans rfl
  have c2 : (w.alloc (.cells #[.int .i64 i, .string s] 36)).cell? ⟨bx, 0, none⟩ = some (.string p) := (hB.cell (p := ⟨bx, 0, none⟩) hl).trans hb
  have HB : Hid (Below w.heap.size w (w.alloc (.cells #[.int .i64 i, .string s] 36))) := hB
  clear hb hB b0
  go_enter Tryz.func66, Tryz.ntmps66
  go_wp2_with fail
  refine (HL.out _).mono ?_
  rintro e w1 ⟨rfl, hw⟩
  subst hw
  go_wp2_with fail
  go_ret
  exact ⟨rfl, HB.out⟩
set_option maxRecDepth 100000 in
set_option maxHeartbeats 8000000 in
theorem matches1_any (i : Int) (s p : ByteArray) (bx : Nat) (w : World) (hp : p.size ≤ 4611686018427387904) (hs : s.size ≤ 4611686018427387904) (hb : w.cell? ⟨bx, 0, none⟩ = some (.string p)) (hl : bx < w.heap.size) : Calls Tryz.prog 68 #[.agg #[.int .i64 i, .string s], .pointer (some ⟨bx, 0, none⟩)] w fun e w' => e = .returned (.bool (maB s p)) ∧ Below w.heap.size w w' := by
  have HL : Hid (∀ w : World, Calls Tryz.prog 69 #[.string p, .string s] w fun e w' => e = .returned (.bool (maB s p)) ∧ Below w.heap.size w w') := by
    intro w
    refine (match_any p s hp hs w).mono ?_
    rintro e w1 ⟨⟨b, rfl, hbm⟩, hB⟩
    refine ⟨?_, hB⟩
    congr 2
    rw [Bool.eq_iff_iff, hbm, maB_iff]
  clear hp hs
  generalize maB s p = pb at *
  have b0 : Blk (w.alloc (.cells #[.int .i64 i, .string s] 36)) w.heap.size 36 #[.int .i64 i, .string s] := Blk.new _ _ _
  have hB : Below w.heap.size w (w.alloc (.cells #[.int .i64 i, .string s] 36)) := below_new1 _ _
  have c1 : (w.alloc (.cells #[.int .i64 i, .string s] 36)).cell? ⟨w.heap.size, 1, none⟩ = some (.string s) := (b0.cell 1).trans rfl
  have c2 : (w.alloc (.cells #[.int .i64 i, .string s] 36)).cell? ⟨bx, 0, none⟩ = some (.string p) := (hB.cell (p := ⟨bx, 0, none⟩) hl).trans hb
  have HB : Hid (Below w.heap.size w (w.alloc (.cells #[.int .i64 i, .string s] 36))) := hB
  clear hb hB b0
  go_enter Tryz.func68, Tryz.ntmps68
  go_wp2_with fail
  refine (HL.out _).mono ?_
  rintro e w1 ⟨rfl, hw⟩
  have HW : Hid (Below w.heap.size w w1) := HB.out.trans (hw.mono HB.out.size)
  clear hw
  go_wp2_with fail
  go_ret
  exact ⟨rfl, HW.out⟩
set_option maxRecDepth 100000 in
set_option maxHeartbeats 8000000 in
theorem page1_any (i : Int) (s p : ByteArray) (bx : Nat) (w : World) (hb : w.cell? ⟨bx, 0, none⟩ = some (.string p)) (hl : bx < w.heap.size) : Calls Tryz.prog 64 #[.agg #[.int .i64 i, .string s], .pointer (some ⟨bx, 0, none⟩)] w fun e w' => e = .returned (.bool (bhB s p)) ∧ Below w.heap.size w w' := by
  have HL : Hid (∀ w : World, Calls Tryz.prog 65 #[.string s, .string p] w fun e w' => e = .returned (.int .i64 (Lib.compareBytes s.data.toList p.data.toList)) ∧ w' = w) := compare_any s p
  unfold bhB
  generalize Lib.compareBytes s.data.toList p.data.toList = pz at *
  have b0 : Blk (w.alloc (.cells #[.int .i64 i, .string s] 36)) w.heap.size 36 #[.int .i64 i, .string s] := Blk.new _ _ _
  have hB : Below w.heap.size w (w.alloc (.cells #[.int .i64 i, .string s] 36)) := below_new1 _ _
  have c1 : (w.alloc (.cells #[.int .i64 i, .string s] 36)).cell? ⟨w.heap.size, 1, none⟩ = some (.string s) := (b0.cell 1).trans rfl
  have c2 : (w.alloc (.cells #[.int .i64 i, .string s] 36)).cell? ⟨bx, 0, none⟩ = some (.string p) := (hB.cell (p := ⟨bx, 0, none⟩) hl).trans hb
  have HB : Hid (Below w.heap.size w (w.alloc (.cells #[.int .i64 i, .string s] 36))) := hB
  clear hb hB b0
  go_enter Tryz.func64, Tryz.ntmps64
  go_wp2_with fail
  refine (HL.out _).mono ?_
  rintro e w1 ⟨rfl, hw⟩
  subst hw
  go_wp2_with fail
  go_ret
  exact ⟨rfl, HB.out⟩
section
variable {w : World} {x mf ml mc : Nat} {cp : Option Addr} {top : Int} {H : Nat → Hd} {D : Nat → Nat → Nat → Nat} {n k st : Nat} {N : Nat → Int} {S : Nat → ByteArray}
set_option maxRecDepth 100000 in
set_option maxHeartbeats 8000000 in
theorem IM.beginsD (h : IM w x mf ml mc cp top H D) (hd : Di H D n k st N S) (p : ByteArray) : Calls Tryz.prog 25 #[.pointer (some ⟨x, 0, none⟩), .int .i64 (n : Int), .string p] w fun e w' => ∃ v R, e = .returned (.tuple #[v, .int .i64 0]) ∧ w'.ownsRow w.heap.size 36 2 v R.length (lkR R) ∧ SoR R ∧ R.Perm ((liR N S k).filter fun y => pfB y.2 p) ∧ Below w.heap.size w w' := by
  have hzi : ∀ w, (zeroValue 86).run Tryz.prog w = .ok (.agg nf0) w := zero_nf
  have HDR : Hid (∀ V, Below w.heap.size w V → Calls Tryz.prog 57 #[.pointer (some ⟨x, 0, none⟩), .int .i64 (n : Int)] V fun e w' => e = .returned (.tuple #[.agg (nfC (n : Int) 2 (H n).l ((64 * k : Nat) : Int) st), .int .i64 0]) ∧ Below V.heap.size V w') := fun V hV => (h.below hV).dirD hd
  have HTH : Hid (∀ V, Below w.heap.size w V → V.cell? ⟨w.heap.size, 0, none⟩ = some (.string p) → w.heap.size < V.heap.size → Calls Tryz.prog 62 #[.pointer (some ⟨x, 0, none⟩), .agg (nfC (n : Int) 2 (H n).l ((64 * k : Nat) : Int) st), .func (.func 66) #[] #[.pointer (some ⟨w.heap.size, 0, none⟩)]] V fun e w' => ∃ v R, e = .returned (.tuple #[v, .int .i64 0]) ∧ w'.ownsRow V.heap.size 36 2 v R.length (lkR R) ∧ SoR R ∧ R.Perm ((liR N S k).filter fun y => pfB y.2 p) ∧ Below V.heap.size V w') := fun V hV hc hl =>
    (h.below hV).thoseE hd 66 w.heap.size (fun y => pfB y.2 p) (enters_of Tryz.func66 (by kernel_rfl) rfl) fun i s he U hU => begins1_any i s p w.heap.size U  ((hU.cell (p := ⟨w.heap.size, 0, none⟩) hl).trans hc) (by have := hU.size; omega)
  clear h hd
  generalize (H n).l = l at *
  generalize ((64 * k : Nat) : Int) = z at *
  have hb1 : Below w.heap.size w (w.alloc (.cells #[.string p] 9)) := below_new1 _ _
  have p1 : Blk (w.alloc (.cells #[.string p] 9)) w.heap.size 9 #[.string p] := Blk.new _ _ _
  have H1 := HDR.out _ hb1
  clear HDR
  go_enter Tryz.func25, Tryz.ntmps25
  go_wp2_with fail
  generalize (w.alloc (.cells #[.string p] 9)) = w1 at *
  refine H1.mono ?_
  rintro e w2 ⟨rfl, hb2⟩
  have u1 : Blk (w2.alloc (.cells nf0 86)) w2.heap.size 86 nf0 := Blk.new _ _ _
  have u2 := u1.set (nfC (n : Int) 2 l z st)
  have hb12 := hb1.trans (hb2.mono hb1.size)
  have hB : Below w.heap.size w ((w2.alloc (.cells nf0 86)).setRow w2.heap.size (nfC (n : Int) 2 l z st)) := below_setRow (hb12.alloc hb12.size _) hb12.size _
  have p2 := p1.below hb2 p1.lt
  have p3 : Blk ((w2.alloc (.cells nf0 86)).setRow w2.heap.size (nfC (n : Int) 2 l z st)) w.heap.size 9 #[.string p] := (p2.alloc _).other _ (by have := p2.lt; omega)
  have H4 := HTH.out _ hB ((p3.cell 0).trans rfl) p3.lt
  have HB : Hid (Below w.heap.size w ((w2.alloc (.cells nf0 86)).setRow w2.heap.size (nfC (n : Int) 2 l z st))) := hB
  clear hb1 hb2 hb12 H1 p1 p2 p3 hB HTH
  go_wp2_with (first | (refine wpList_store_row (by rfl) 86 _ _ (by rfl) (w2.heap.size) (nfC (n : Int) 2 l z st) (by rfl) (by rfl) 86 (nf0) (by exact u1) (size_nf.trans (by rfl)) (by rfl) (nf_all _ _ _ _ _) ?_; simp only [Act.put, List.setIfInBounds_toArray, List.set_cons_zero, List.set_cons_succ]) | (refine wpList_load_row (by rfl) 86 _ (by rfl) (w2.heap.size) (by rfl) 86 (nfC (n : Int) 2 l z st) (0, 0) _ (by exact u2) Tryz.underlying86 (by rfl) (size_nf.trans (by rfl)) ?_; simp only [Act.put, List.setIfInBounds_toArray, List.set_cons_zero, List.set_cons_succ]) | fail)
  refine H4.mono ?_
  rintro e w5 ⟨v, R, rfl, ho, hs, hp, hb5⟩
  have HR : Hid (w5.ownsRow w.heap.size 36 2 v R.length (lkR R) ∧ SoR R ∧ R.Perm ((liR N S k).filter fun y => pfB y.2 p) ∧ Below w.heap.size w w5) := ⟨kown_mono ho HB.out.size, hs, hp, HB.out.trans (hb5.mono HB.out.size)⟩
  clear ho hs hp hb5 H4
  go_wp2_with fail
  go_ret2
  exact ⟨v, R, rfl, HR.out.1, HR.out.2.1, HR.out.2.2.1, HR.out.2.2.2⟩
set_option maxRecDepth 100000 in
set_option maxHeartbeats 8000000 in
theorem IM.matchesD (h : IM w x mf ml mc cp top H D) (hd : Di H D n k st N S) (p : ByteArray) (hps : p.size ≤ 4611686018427387904) : Calls Tryz.prog 26 #[.pointer (some ⟨x, 0, none⟩), .int .i64 (n : Int), .string p] w fun e w' => ∃ v R, e = .returned (.tuple #[v, .int .i64 0]) ∧ w'.ownsRow w.heap.size 36 2 v R.length (lkR R) ∧ SoR R ∧ R.Perm ((liR N S k).filter fun y => maB y.2 p) ∧ Below w.heap.size w w' := by
  have hzi : ∀ w, (zeroValue 86).run Tryz.prog w = .ok (.agg nf0) w := zero_nf
  have HDR : Hid (∀ V, Below w.heap.size w V → Calls Tryz.prog 57 #[.pointer (some ⟨x, 0, none⟩), .int .i64 (n : Int)] V fun e w' => e = .returned (.tuple #[.agg (nfC (n : Int) 2 (H n).l ((64 * k : Nat) : Int) st), .int .i64 0]) ∧ Below V.heap.size V w') := fun V hV => (h.below hV).dirD hd
  have HTH : Hid (∀ V, Below w.heap.size w V → V.cell? ⟨w.heap.size, 0, none⟩ = some (.string p) → w.heap.size < V.heap.size → Calls Tryz.prog 62 #[.pointer (some ⟨x, 0, none⟩), .agg (nfC (n : Int) 2 (H n).l ((64 * k : Nat) : Int) st), .func (.func 68) #[] #[.pointer (some ⟨w.heap.size, 0, none⟩)]] V fun e w' => ∃ v R, e = .returned (.tuple #[v, .int .i64 0]) ∧ w'.ownsRow V.heap.size 36 2 v R.length (lkR R) ∧ SoR R ∧ R.Perm ((liR N S k).filter fun y => maB y.2 p) ∧ Below V.heap.size V w') := fun V hV hc hl =>
    (h.below hV).thoseE hd 68 w.heap.size (fun y => maB y.2 p) (enters_of Tryz.func68 (by kernel_rfl) rfl) fun i s he U hU => matches1_any i s p w.heap.size U hps (encE_small he) ((hU.cell (p := ⟨w.heap.size, 0, none⟩) hl).trans hc) (by have := hU.size; omega)
  clear h hd
  generalize (H n).l = l at *
  generalize ((64 * k : Nat) : Int) = z at *
  have hb1 : Below w.heap.size w (w.alloc (.cells #[.string p] 9)) := below_new1 _ _
  have p1 : Blk (w.alloc (.cells #[.string p] 9)) w.heap.size 9 #[.string p] := Blk.new _ _ _
  have H1 := HDR.out _ hb1
  clear HDR
  go_enter Tryz.func26, Tryz.ntmps26
  go_wp2_with fail
  generalize (w.alloc (.cells #[.string p] 9)) = w1 at *
  refine H1.mono ?_
  rintro e w2 ⟨rfl, hb2⟩
  have u1 : Blk (w2.alloc (.cells nf0 86)) w2.heap.size 86 nf0 := Blk.new _ _ _
  have u2 := u1.set (nfC (n : Int) 2 l z st)
  have hb12 := hb1.trans (hb2.mono hb1.size)
  have hB : Below w.heap.size w ((w2.alloc (.cells nf0 86)).setRow w2.heap.size (nfC (n : Int) 2 l z st)) := below_setRow (hb12.alloc hb12.size _) hb12.size _
  have p2 := p1.below hb2 p1.lt
  have p3 : Blk ((w2.alloc (.cells nf0 86)).setRow w2.heap.size (nfC (n : Int) 2 l z st)) w.heap.size 9 #[.string p] := (p2.alloc _).other _ (by have := p2.lt; omega)
  have H4 := HTH.out _ hB ((p3.cell 0).trans rfl) p3.lt
  have HB : Hid (Below w.heap.size w ((w2.alloc (.cells nf0 86)).setRow w2.heap.size (nfC (n : Int) 2 l z st))) := hB
  clear hb1 hb2 hb12 H1 p1 p2 p3 hB HTH
  go_wp2_with (first | (refine wpList_store_row (by rfl) 86 _ _ (by rfl) (w2.heap.size) (nfC (n : Int) 2 l z st) (by rfl) (by rfl) 86 (nf0) (by exact u1) (size_nf.trans (by rfl)) (by rfl) (nf_all _ _ _ _ _) ?_; simp only [Act.put, List.setIfInBounds_toArray, List.set_cons_zero, List.set_cons_succ]) | (refine wpList_load_row (by rfl) 86 _ (by rfl) (w2.heap.size) (by rfl) 86 (nfC (n : Int) 2 l z st) (0, 0) _ (by exact u2) Tryz.underlying86 (by rfl) (size_nf.trans (by rfl)) ?_; simp only [Act.put, List.setIfInBounds_toArray, List.set_cons_zero, List.set_cons_succ]) | fail)
  refine H4.mono ?_
  rintro e w5 ⟨v, R, rfl, ho, hs, hp, hb5⟩
  have HR : Hid (w5.ownsRow w.heap.size 36 2 v R.length (lkR R) ∧ SoR R ∧ R.Perm ((liR N S k).filter fun y => maB y.2 p) ∧ Below w.heap.size w w5) := ⟨kown_mono ho HB.out.size, hs, hp, HB.out.trans (hb5.mono HB.out.size)⟩
  clear ho hs hp hb5 H4
  go_wp2_with fail
  go_ret2
  exact ⟨v, R, rfl, HR.out.1, HR.out.2.1, HR.out.2.2.1, HR.out.2.2.2⟩
set_option maxRecDepth 100000 in
set_option maxHeartbeats 8000000 in
theorem IM.pageD (h : IM w x mf ml mc cp top H D) (hd : Di H D n k st N S) (p : ByteArray) (q : Int) (hq : 0 ≤ q) : Calls Tryz.prog 24 #[.pointer (some ⟨x, 0, none⟩), .int .i64 (n : Int), .string p, .int .i64 q] w fun e w' => ∃ al c R, e = .returned (.tuple #[.slice al (min q.toNat R.length) c, .bool (decide (q < (R.length : Int))), .int .i64 0]) ∧ IsLkC w' al (min q.toNat R.length) (fun i => (R.getD i (0, ⟨#[]⟩)).1) (fun i => (R.getD i (0, ⟨#[]⟩)).2) ∧ SoR R ∧ R.Perm ((liR N S k).filter fun y => bhB y.2 p) ∧ Below w.heap.size w w' := by
  have hzi : ∀ w, (zeroValue 86).run Tryz.prog w = .ok (.agg nf0) w := zero_nf
  have HDR : Hid (∀ V, Below w.heap.size w V → Calls Tryz.prog 57 #[.pointer (some ⟨x, 0, none⟩), .int .i64 (n : Int)] V fun e w' => e = .returned (.tuple #[.agg (nfC (n : Int) 2 (H n).l ((64 * k : Nat) : Int) st), .int .i64 0]) ∧ Below V.heap.size V w') := fun V hV => (h.below hV).dirD hd
  have HTH : Hid (∀ V, Below w.heap.size w V → V.cell? ⟨w.heap.size, 0, none⟩ = some (.string p) → w.heap.size < V.heap.size → Calls Tryz.prog 62 #[.pointer (some ⟨x, 0, none⟩), .agg (nfC (n : Int) 2 (H n).l ((64 * k : Nat) : Int) st), .func (.func 64) #[] #[.pointer (some ⟨w.heap.size, 0, none⟩)]] V fun e w' => ∃ v R, e = .returned (.tuple #[v, .int .i64 0]) ∧ w'.ownsRow V.heap.size 36 2 v R.length (lkR R) ∧ SoR R ∧ R.Perm ((liR N S k).filter fun y => bhB y.2 p) ∧ Below V.heap.size V w') := fun V hV hc hl =>
    (h.below hV).thoseE hd 64 w.heap.size (fun y => bhB y.2 p) (enters_of Tryz.func64 (by kernel_rfl) rfl) fun i s he U hU => page1_any i s p w.heap.size U  ((hU.cell (p := ⟨w.heap.size, 0, none⟩) hl).trans hc) (by have := hU.size; omega)
  have hle := hd.le
  clear h hd
  generalize (H n).l = l at *
  generalize ((64 * k : Nat) : Int) = z at *
  have hb1 : Below w.heap.size w (w.alloc (.cells #[.string p] 9)) := below_new1 _ _
  have p1 : Blk (w.alloc (.cells #[.string p] 9)) w.heap.size 9 #[.string p] := Blk.new _ _ _
  have H1 := HDR.out _ hb1
  clear HDR
  go_enter Tryz.func24, Tryz.ntmps24
  go_wp2_with fail
  generalize (w.alloc (.cells #[.string p] 9)) = w1 at *
  refine H1.mono ?_
  rintro e w2 ⟨rfl, hb2⟩
  have u1 : Blk (w2.alloc (.cells nf0 86)) w2.heap.size 86 nf0 := Blk.new _ _ _
  have u2 := u1.set (nfC (n : Int) 2 l z st)
  have hb12 := hb1.trans (hb2.mono hb1.size)
  have hB : Below w.heap.size w ((w2.alloc (.cells nf0 86)).setRow w2.heap.size (nfC (n : Int) 2 l z st)) := below_setRow (hb12.alloc hb12.size _) hb12.size _
  have p2 := p1.below hb2 p1.lt
  have p3 : Blk ((w2.alloc (.cells nf0 86)).setRow w2.heap.size (nfC (n : Int) 2 l z st)) w.heap.size 9 #[.string p] := (p2.alloc _).other _ (by have := p2.lt; omega)
  have H4 := HTH.out _ hB ((p3.cell 0).trans rfl) p3.lt
  have HB : Hid (Below w.heap.size w ((w2.alloc (.cells nf0 86)).setRow w2.heap.size (nfC (n : Int) 2 l z st))) := hB
  clear hb1 hb2 hb12 H1 p1 p2 p3 hB HTH
  go_wp2_with (first | (refine wpList_store_row (by rfl) 86 _ _ (by rfl) (w2.heap.size) (nfC (n : Int) 2 l z st) (by rfl) (by rfl) 86 (nf0) (by exact u1) (size_nf.trans (by rfl)) (by rfl) (nf_all _ _ _ _ _) ?_; simp only [Act.put, List.setIfInBounds_toArray, List.set_cons_zero, List.set_cons_succ]) | (refine wpList_load_row (by rfl) 86 _ (by rfl) (w2.heap.size) (by rfl) 86 (nfC (n : Int) 2 l z st) (0, 0) _ (by exact u2) Tryz.underlying86 (by rfl) (size_nf.trans (by rfl)) ?_; simp only [Act.put, List.setIfInBounds_toArray, List.set_cons_zero, List.set_cons_succ]) | fail)
  refine H4.mono ?_
  rintro e w5 ⟨v, R, rfl, ho, hs, hp, hb5⟩
  obtain ⟨al, lc, rfl, hll, _⟩ := own_lkcR ho rfl
  have hcap := own_cap ho
  have hRk : R.length ≤ 16384 := by
    have h1 := hp.length_eq
    have h2 := List.length_filter_le (fun y : Lk => bhB y.2 p) (liR N S k)
    rw [liR_len] at h2
    omega
  have HR : Hid (IsLkC w5 al R.length (fun i => (R.getD i (0, ⟨#[]⟩)).1) (fun i => (R.getD i (0, ⟨#[]⟩)).2) ∧ SoR R ∧ R.Perm ((liR N S k).filter fun y => bhB y.2 p) ∧ Below w.heap.size w w5) := ⟨hll, hs, hp, HB.out.trans (hb5.mono HB.out.size)⟩
  obtain ⟨m, hm⟩ : ∃ m, R.length = m := ⟨_, rfl⟩
  have HM : Hid (R.length = m) := hm
  rw [hm] at hRk hcap
  rw [hm]
  clear ho hs hp hb5 H4 hll hm
  obtain ⟨r, rfl⟩ : ∃ r : Nat, q = (r : Int) := ⟨q.toNat, by omega⟩
  by_cases hr : r < m
  · have i1 : True := trivial
    have i2 : ¬ m ≤ r := by omega
    have i3 : r ≤ lc := by omega
    clear i1
    go_wp2_with fail
    go_ret3
    refine ⟨al, r, R, ?_, ?_, HR.out.2.1, HR.out.2.2.1, HR.out.2.2.2⟩
    · have e1 : min ((r : Int)).toNat R.length = r := by rw [HM.out]; omega
      have e2 : decide ((r : Int) < (R.length : Int)) = true := by rw [HM.out]; exact decide_eq_true (by omega)
      rw [e1, e2]
      rfl
    · have e1 : min ((r : Int)).toNat R.length = r := by rw [HM.out]; omega
      rw [e1]
      exact fun j hj => HR.out.1 j (by rw [HM.out]; omega)
  · have i2 : m ≤ r := by omega
    go_wp2_with fail
    go_ret3
    refine ⟨al, lc, R, ?_, ?_, HR.out.2.1, HR.out.2.2.1, HR.out.2.2.2⟩
    · have e1 : min ((r : Int)).toNat R.length = m := by rw [HM.out]; omega
      have e2 : decide ((r : Int) < (R.length : Int)) = false := by rw [HM.out]; exact decide_eq_false (by omega)
      rw [e1, e2]
      rfl
    · have e1 : min ((r : Int)).toNat R.length = R.length := by rw [HM.out]; omega
      rw [e1]
      exact HR.out.1
set_option maxRecDepth 100000 in
set_option maxHeartbeats 8000000 in
theorem IM.pageNeg (h : IM w x mf ml mc cp top H D) (hd : Di H D n k st N S) (p : ByteArray) (q : Int) (hq : q < 0) : Calls Tryz.prog 24 #[.pointer (some ⟨x, 0, none⟩), .int .i64 (n : Int), .string p, .int .i64 q] w fun e w' => e = .returned (.tuple #[.slice none 0 0, .bool false, .int .i64 1]) ∧ Below w.heap.size w w' := by
  have hzi : ∀ w, (zeroValue 86).run Tryz.prog w = .ok (.agg nf0) w := zero_nf
  have HDR : Hid (∀ V, Below w.heap.size w V → Calls Tryz.prog 57 #[.pointer (some ⟨x, 0, none⟩), .int .i64 (n : Int)] V fun e w' => e = .returned (.tuple #[.agg (nfC (n : Int) 2 (H n).l ((64 * k : Nat) : Int) st), .int .i64 0]) ∧ Below V.heap.size V w') := fun V hV => (h.below hV).dirD hd
  have hle := hd.le
  clear h hd
  generalize (H n).l = l at *
  generalize ((64 * k : Nat) : Int) = z at *
  have hb1 : Below w.heap.size w (w.alloc (.cells #[.string p] 9)) := below_new1 _ _
  have p1 : Blk (w.alloc (.cells #[.string p] 9)) w.heap.size 9 #[.string p] := Blk.new _ _ _
  have H1 := HDR.out _ hb1
  clear HDR
  have hq1 : ¬ (0 ≤ q) := by omega
  go_enter Tryz.func24, Tryz.ntmps24
  go_wp2_with fail
  generalize (w.alloc (.cells #[.string p] 9)) = w1 at *
  refine H1.mono ?_
  rintro e w2 ⟨rfl, hb2⟩
  have u1 : Blk (w2.alloc (.cells nf0 86)) w2.heap.size 86 nf0 := Blk.new _ _ _
  have hb12 := hb1.trans (hb2.mono hb1.size)
  have HB : Hid (Below w.heap.size w ((w2.alloc (.cells nf0 86)).setRow w2.heap.size (nfC (n : Int) 2 l z st))) := below_setRow (hb12.alloc hb12.size _) hb12.size _
  clear hb1 hb2 hb12 H1 p1
  go_wp2_with (first | (refine wpList_store_row (by rfl) 86 _ _ (by rfl) (w2.heap.size) (nfC (n : Int) 2 l z st) (by rfl) (by rfl) 86 (nf0) (by exact u1) (size_nf.trans (by rfl)) (by rfl) (nf_all _ _ _ _ _) ?_; simp only [Act.put, List.setIfInBounds_toArray, List.set_cons_zero, List.set_cons_succ]) | fail)
  go_ret3
  exact ⟨rfl, HB.out⟩
end
end Go.Proofs.YtojnlmfahgeidaaGreatDoor
