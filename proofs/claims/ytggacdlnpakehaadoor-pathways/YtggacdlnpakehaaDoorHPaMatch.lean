/- Match: a path against a pattern, name by name. -/
import Derived.Test.YtggacdlnpakehaaDoorHOrders
import Derived.BigQuiet
import Derived.Deep.QuietTactic
import Derived.Handy
import Derived.Test.YtggacdlnpakehaaDoorHRowf
import Derived.Test.YtggacdlnpakehaaDoorHPaRef


/- Patterns with ? and *: what a text is, as plain lists of bytes: what the program keeps in each round, and the rows of the document. -/
namespace Go.Nam

/-- A text is a pattern (signs as numbers: 42 is the star, 63 any one). -/
inductive Mat : List UInt8 → List UInt8 → Prop
  | nil : Mat [] []
  | one {p c : UInt8} {ps s : List UInt8} : p ≠ 42 → (p = 63 ∨ p = c) → Mat ps s → Mat (p :: ps) (c :: s)
  | none {ps s : List UInt8} : Mat ps s → Mat (42 :: ps) s
  | more {ps s : List UInt8} {c : UInt8} : Mat (42 :: ps) s → Mat (42 :: ps) (c :: s)

theorem Mat.nil_iff {s : List UInt8} : Mat [] s ↔ s = [] := by
  constructor
  · intro h; cases h; rfl
  · rintro rfl; exact .nil

theorem Mat.one_nil {p : UInt8} {ps : List UInt8} (hp : p ≠ 42) : ¬ Mat (p :: ps) [] := by
  intro h; cases h with
  | none _ => exact hp rfl

theorem Mat.one_iff {p c : UInt8} {ps s : List UInt8} (hp : p ≠ 42) : Mat (p :: ps) (c :: s) ↔ (p = 63 ∨ p = c) ∧ Mat ps s := by
  constructor
  · intro h; cases h with
    | one _ h1 h2 => exact ⟨h1, h2⟩
    | none _ => exact absurd rfl hp
    | more _ => exact absurd rfl hp
  · rintro ⟨h1, h2⟩; exact .one hp h1 h2

theorem Mat.star_drop {ps : List UInt8} : ∀ (k : Nat) (s : List UInt8), Mat ps (s.drop k) → Mat (42 :: ps) s
  | 0, s, h => .none (by simpa using h)
  | k + 1, [], h => .none (by simpa using h)
  | k + 1, c :: s, h => .more (Mat.star_drop k s (by simpa using h))

theorem Mat.star_iff {ps s : List UInt8} : Mat (42 :: ps) s ↔ ∃ k, k ≤ s.length ∧ Mat ps (s.drop k) := by
  constructor
  · intro h
    induction s with
    | nil => cases h with
      | none h => exact ⟨0, by simp, by simpa using h⟩
    | cons c s ih =>
      cases h with
      | one h1 _ _ => exact absurd rfl h1
      | none h => exact ⟨0, by simp, by simpa using h⟩
      | more h => obtain ⟨k, hk, h2⟩ := ih h; exact ⟨k + 1, by simp; omega, by simpa using h2⟩
  · rintro ⟨k, _, h⟩; exact Mat.star_drop k s h

theorem Mat.app {a b : List UInt8} : ∀ {s : List UInt8}, Mat (a ++ b) s ↔ ∃ j, j ≤ s.length ∧ Mat a (s.take j) ∧ Mat b (s.drop j) := by
  induction a with
  | nil =>
    intro s
    constructor
    · intro h; exact ⟨0, by simp, by simpa using Mat.nil, by simpa using h⟩
    · rintro ⟨j, hj, h1, h2⟩
      have := Mat.nil_iff.1 h1
      have h3 : j = 0 := by
        have := congrArg List.length this; rw [List.length_take, List.length_nil] at this; omega
      subst h3; simpa using h2
  | cons p a ih =>
    intro s
    by_cases hp : p = 42
    · subst hp
      rw [List.cons_append, Mat.star_iff]
      constructor
      · rintro ⟨k, hk, h⟩
        obtain ⟨j, hj, h1, h2⟩ := ih.1 h
        rw [List.length_drop] at hj
        refine ⟨k + j, by omega, Mat.star_drop k _ ?_, by rw [List.drop_drop] at h2; exact h2⟩
        rw [List.drop_take]; rwa [Nat.add_sub_cancel_left]
      · rintro ⟨j, hj, h1, h2⟩
        obtain ⟨k, hk, h3⟩ := Mat.star_iff.1 h1
        rw [List.length_take] at hk
        refine ⟨k, by omega, ih.2 ⟨j - k, by rw [List.length_drop]; omega, by rwa [List.drop_take] at h3, ?_⟩⟩
        rw [List.drop_drop, Nat.add_sub_cancel' (by omega)]; exact h2
    · cases s with
      | nil =>
        constructor
        · intro h; exact absurd h (Mat.one_nil hp)
        · rintro ⟨j, hj, h1, h2⟩; simp at h1; exact absurd h1 (Mat.one_nil hp)
      | cons c s =>
        rw [List.cons_append, Mat.one_iff hp]
        constructor
        · rintro ⟨h0, h⟩
          obtain ⟨j, hj, h1, h2⟩ := ih.1 h
          exact ⟨j + 1, by simp; omega, by simpa using (Mat.one_iff hp).2 ⟨h0, h1⟩, by simpa using h2⟩
        · rintro ⟨j, hj, h1, h2⟩
          cases j with
          | zero => simp at h1; exact absurd h1 (Mat.one_nil hp)
          | succ j =>
            rw [List.take_succ_cons, Mat.one_iff hp] at h1
            exact ⟨h1.1, ih.2 ⟨j, by simp at hj; omega, h1.2, by simpa using h2⟩⟩

/-- a pattern without a star against a text of its own length -/
def PSeg (a t : List UInt8) : Prop := a.length = t.length ∧ ∀ i, (h : i < a.length) → (h2 : i < t.length) → a[i] ≠ 42 ∧ (a[i] = 63 ∨ a[i] = t[i])

theorem PSeg.mat_len {a t : List UInt8} (ha : ∀ i, (h : i < a.length) → a[i] ≠ 42) (h : Mat a t) : a.length = t.length := by
  induction a generalizing t with
  | nil => rw [Mat.nil_iff.1 h]
  | cons p a ih =>
    have hp : p ≠ 42 := ha 0 (by simp)
    cases t with
    | nil => exact absurd h (Mat.one_nil hp)
    | cons c t =>
      have := ih (fun i hi => by have h5 := ha (i + 1) (by simpa using hi); rw [List.getElem_cons_succ] at h5; exact h5) ((Mat.one_iff hp).1 h).2
      simp [this]

theorem Mat.nil_all {ps : List UInt8} : Mat ps [] ↔ ∀ x ∈ ps, x = 42 := by
  induction ps with
  | nil => simp [Mat.nil]
  | cons p ps ih =>
    by_cases hp : p = 42
    · subst hp
      rw [Mat.star_iff]
      simp [ih]
    · simp only [List.mem_cons, forall_eq_or_imp, hp, false_and, iff_false]
      exact Mat.one_nil hp

/-- The program's state: where the last star stood (or none), what it was given, and the two places. -/
structure PSt (P s : List UInt8) (A : Prop) (star : Option Nat) (behind p i : Nat) : Prop where
  hp : p ≤ P.length
  hi : i ≤ s.length
  out : A ↔ (Mat (P.drop p) (s.drop i) ∨ ∃ q, star = some q ∧ ∃ k, behind < k ∧ k ≤ s.length ∧ Mat (P.drop (q + 1)) (s.drop k))
  seg : ∀ q, star = some q → q + 1 ≤ p ∧ behind ≤ i ∧ p - (q + 1) = i - behind ∧ ∀ j, q < j → j < p → P[j]? ≠ some 42

theorem PSt.start (P s : List UInt8) : PSt P s (Mat P s) none 0 0 0 :=
  ⟨by simp, by simp, by simp, by simp⟩

/-- What stands behind the last star, given more, was in vain or not wanted. -/
theorem PSt.spare {P s : List UInt8} {A : Prop} {star : Option Nat} {behind p i : Nat} (H : PSt P s A star behind p i) {q k : Nat} (hq : star = some q) (hk : behind < k) (hk2 : k ≤ s.length)
    (h : Mat (P.drop (q + 1)) (s.drop k)) : ∃ j, i < j ∧ j ≤ s.length ∧ Mat (P.drop p) (s.drop j) := by
  obtain ⟨h1, h2, h3, h4⟩ := H.seg q hq
  have hsplit : P.drop (q + 1) = (P.drop (q + 1)).take (p - (q + 1)) ++ P.drop p := by
    conv => lhs; rw [← List.take_append_drop (p - (q + 1)) (P.drop (q + 1))]
    rw [List.drop_drop, Nat.add_sub_cancel' h1]
  rw [hsplit] at h
  obtain ⟨j, hj, h5, h6⟩ := Mat.app.1 h
  have hl := PSeg.mat_len (fun x hx => by
    intro he
    have hx2 : x < p - (q + 1) := by rw [List.length_take] at hx; omega
    refine h4 (q + 1 + x) (by omega) (by omega) ?_
    rw [← he, List.getElem_take, List.getElem_drop, List.getElem?_eq_getElem]) h5
  rw [List.length_drop] at hj
  rw [List.length_take, List.length_drop, List.length_take, List.length_drop] at hl
  have hpl := H.hp
  refine ⟨k + j, by omega, by omega, ?_⟩
  rw [List.drop_drop] at h6; exact h6

theorem drop_at {l : List UInt8} {i : Nat} {c : UInt8} (h : l[i]? = some c) : l.drop i = c :: l.drop (i + 1) := by
  obtain ⟨h1, h2⟩ := List.getElem?_eq_some_iff.1 h
  rw [← h2]; exact List.drop_eq_getElem_cons h1

theorem PSt.star {P s : List UInt8} {A : Prop} {star : Option Nat} {behind p i : Nat} (H : PSt P s A star behind p i) (hp : P[p]? = some 42) : PSt P s A (some p) i (p + 1) i := by
  have hl : p < P.length := (List.getElem?_eq_some_iff.1 hp).1
  refine ⟨by omega, H.hi, ?_, ?_⟩
  · rw [H.out, drop_at hp]
    constructor
    · have go : Mat (42 :: P.drop (p + 1)) (s.drop i) → (Mat (P.drop (p + 1)) (s.drop i) ∨ ∃ q, some p = some q ∧ ∃ k, i < k ∧ k ≤ s.length ∧ Mat (P.drop (q + 1)) (s.drop k)) := by
        intro h
        obtain ⟨k, hk, h2⟩ := Mat.star_iff.1 h
        rw [List.length_drop] at hk
        rw [List.drop_drop] at h2
        cases k with
        | zero => left; simpa using h2
        | succ k => right; have := H.hi; exact ⟨p, rfl, i + (k + 1), by omega, by omega, h2⟩
      rintro (h | ⟨q, hq, k, hk, hk2, h⟩)
      · exact go h
      · obtain ⟨j, hj, hj2, h3⟩ := H.spare hq hk hk2 h
        rw [drop_at hp] at h3
        refine go (Mat.star_iff.2 ?_)
        obtain ⟨m, hm, h4⟩ := Mat.star_iff.1 h3
        rw [List.length_drop] at hm
        rw [List.drop_drop] at h4
        refine ⟨j + m - i, by rw [List.length_drop]; omega, ?_⟩
        rw [List.drop_drop, show i + (j + m - i) = j + m by omega]; exact h4
    · rintro (h | ⟨q, hq, k, hk, hk2, h⟩)
      · exact Or.inl (.none h)
      · cases hq
        refine Or.inl (Mat.star_iff.2 ⟨k - i, by rw [List.length_drop]; omega, ?_⟩)
        rw [List.drop_drop, Nat.add_sub_cancel' (by omega)]; exact h
  · rintro q hq
    cases hq
    exact ⟨by omega, by omega, by omega, fun j h1 h2 => by omega⟩

theorem PSt.one {P s : List UInt8} {A : Prop} {star : Option Nat} {behind p i : Nat} {a c : UInt8} (H : PSt P s A star behind p i) (hp : P[p]? = some a) (hi : s[i]? = some c) (ha : a ≠ 42) (h : a = 63 ∨ a = c) :
    PSt P s A star behind (p + 1) (i + 1) := by
  have hl : p < P.length := (List.getElem?_eq_some_iff.1 hp).1
  have hm : i < s.length := (List.getElem?_eq_some_iff.1 hi).1
  refine ⟨by omega, by omega, ?_, ?_⟩
  · rw [H.out, drop_at hp, drop_at hi, Mat.one_iff ha]
    simp [h]
  · intro q hq
    obtain ⟨h1, h2, h3, h4⟩ := H.seg q hq
    refine ⟨by omega, by omega, by omega, fun j h5 h6 => ?_⟩
    by_cases hj : j = p
    · rw [hj, hp]; simpa using ha
    · exact h4 j h5 (by omega)

/-- nothing here -/
theorem PSt.not {P s : List UInt8} {p i : Nat} {c : UInt8} (hi : s[i]? = some c) (hp : ∀ a, P[p]? = some a → a ≠ 42 ∧ a ≠ 63 ∧ a ≠ c) : ¬ Mat (P.drop p) (s.drop i) := by
  rw [drop_at hi]
  cases h : P[p]? with
  | none =>
    rw [List.drop_eq_nil_of_le (List.getElem?_eq_none_iff.1 h), Mat.nil_iff]; simp
  | some a =>
    obtain ⟨h1, h2, h3⟩ := hp a h
    rw [drop_at h, Mat.one_iff h1]
    simp [h2, h3]

theorem PSt.back {P s : List UInt8} {A : Prop} {q behind p i : Nat} (H : PSt P s A (some q) behind p i) (hi : i < s.length) (h : ¬ Mat (P.drop p) (s.drop i)) :
    PSt P s A (some q) (behind + 1) (q + 1) (behind + 1) := by
  obtain ⟨h1, h2, h3, h4⟩ := H.seg q rfl
  refine ⟨by have := H.hp; omega, by omega, ?_, ?_⟩
  · rw [H.out]
    simp only [h, false_or]
    constructor
    · rintro ⟨q', hq, k, hk, hk2, h5⟩
      cases hq
      by_cases hk3 : k = behind + 1
      · subst hk3; exact Or.inl h5
      · exact Or.inr ⟨q, rfl, k, by omega, hk2, h5⟩
    · rintro (h5 | ⟨q', hq, k, hk, hk2, h5⟩)
      · exact ⟨q, rfl, behind + 1, by omega, by omega, h5⟩
      · cases hq; exact ⟨q, rfl, k, by omega, hk2, h5⟩
  · rintro q' hq; cases hq
    exact ⟨by omega, by omega, by omega, fun j h5 h6 => by omega⟩

theorem PSt.lost {P s : List UInt8} {A : Prop} {behind p i : Nat} (H : PSt P s A none behind p i) (h : ¬ Mat (P.drop p) (s.drop i)) : ¬ A := by
  rw [H.out]; simp [h]

theorem PSt.ends {P s : List UInt8} {A : Prop} {star : Option Nat} {behind p : Nat} (H : PSt P s A star behind p s.length) : A ↔ ∀ x ∈ P.drop p, x = 42 := by
  rw [H.out, List.drop_eq_nil_of_le (Nat.le_refl _), Mat.nil_all]
  constructor
  · rintro (h | ⟨q, hq, k, hk, hk2, h⟩)
    · exact h
    · obtain ⟨j, hj, hj2, _⟩ := H.spare hq hk hk2 h; omega
  · exact Or.inl

/-- how much is left to do -/
def left (P s : List UInt8) (star : Option Nat) (behind i : Nat) : Nat :=
  (match star with | none => P.length + 1 | some q => P.length - q) * ((s.length + 2) * (s.length + 2)) + (s.length + 1 - behind) * (s.length + 2) + (s.length - i)

theorem Mat.all (s : List UInt8) : Mat [42] s := Mat.star_drop s.length s (by simpa using Mat.nil)
end Go.Nam

namespace Go.Proofs.YtggacdlnpakehaaDoor
set_option maxRecDepth 20000
open Go Go.RowKit Go.Nam
set_option linter.unusedVariables false
set_option linter.unusedSimpArgs false

theorem beq_ne {a b : UInt8} (h : a ≠ b) : ((a.toNat : Int) == (b.toNat : Int)) = false := by
  rw [beq_eq_false_iff_ne]
  intro e
  exact h (UInt8.toNat_inj.1 (by exact_mod_cast e))
def starZ : Option Nat → Int
  | none => -1
  | some q => (q : Int)
theorem dw_nil (p : UInt8 → Bool) : ∀ l : List UInt8, l.dropWhile p = [] ↔ ∀ x ∈ l, p x = true
  | [] => by simp
  | a :: l => by
    rw [List.dropWhile_cons]
    by_cases h : p a = true
    · rw [if_pos h, dw_nil p l]; simp [h]
    · rw [if_neg h]; simp [h]
theorem tw_all (p : UInt8 → Bool) : ∀ (l : List UInt8) x, x ∈ l.takeWhile p → p x = true
  | [], x, h => by simp at h
  | a :: l, x, h => by
    rw [List.takeWhile_cons] at h
    by_cases h1 : p a = true
    · rw [if_pos h1] at h
      rcases List.mem_cons.1 h with rfl | h
      · exact h1
      · exact tw_all p l x h
    · rw [if_neg h1] at h; simp at h
theorem trim_none (l : List UInt8) : (⟨(Lib.trimB l 42).toArray⟩ : ByteArray) = ⟨#[]⟩ ↔ ∀ x ∈ l, x = 42 := by
  have h : (Lib.trimB l 42) = [] ↔ ∀ x ∈ l, x = 42 := by
    unfold Lib.trimB Lib.trimLeftB Lib.trimRightB
    constructor
    · intro h
      have h1 : ∀ x ∈ (l.reverse.dropWhile (· == 42)).reverse, x = 42 := by
        have := (dw_nil _ _).1 h
        intro x hx; simpa using this x hx
      have h2 : ∀ x ∈ l.reverse, x = 42 := by
        intro x hx
        rw [← List.takeWhile_append_dropWhile (p := (· == 42)) (l := l.reverse)] at hx
        rcases List.mem_append.1 hx with h3 | h3
        · simpa using tw_all _ _ _ h3
        · exact h1 x (by simpa using h3)
      intro x hx; exact h2 x (by simpa using hx)
    · intro h
      have : l.reverse.dropWhile (· == 42) = [] := (dw_nil _ _).2 fun x hx => by simpa using h x (by simpa using hx)
      rw [this]; rfl
  rw [← h]
  constructor
  · intro e; have := congrArg (fun b : ByteArray => b.data.toList) e; simpa using this
  · intro e; rw [e]
def leftZ (m n : Nat) (star behind i : Int) : Nat := ((m : Int) - star).toNat * ((n + 2) * (n + 2)) + ((n : Int) + 1 - behind).toNat * (n + 2) + ((n : Int) - i).toNat
theorem left_star {m n : Nat} {star behind : Int} {p i : Nat} (h1 : star < p) (h2 : p < m) (h3 : i ≤ n) : leftZ m n p i i < leftZ m n star behind i := by
  unfold leftZ
  have e1 : ((m : Int) - star).toNat = ((m : Int) - p).toNat + (((m : Int) - star).toNat - ((m : Int) - p).toNat - 1) + 1 := by omega
  rw [e1]
  generalize ((m : Int) - p).toNat = a
  generalize (((m : Int) - star).toNat - a - 1) = d
  have e2 : ((n : Int) + 1 - i).toNat ≤ n + 1 := by omega
  have e3 : ((n : Int) + 1 - i).toNat * (n + 2) ≤ (n + 1) * (n + 2) := Nat.mul_le_mul_right _ e2
  rw [Nat.add_mul (a + d) 1, Nat.add_mul a d, Nat.one_mul]
  have e4 : (n + 2) * (n + 2) = (n + 1) * (n + 2) + (n + 2) := by rw [← Nat.succ_mul]
  have e5 : ((n : Int) - i).toNat ≤ n := by omega
  generalize d * ((n + 2) * (n + 2)) = x
  generalize a * ((n + 2) * (n + 2)) = y
  generalize ((n : Int) + 1 - behind).toNat * (n + 2) = z
  generalize (n + 2) * (n + 2) = K at *
  omega
theorem left_one {m n : Nat} {star behind : Int} {i : Nat} (h : i < n) : leftZ m n star behind (((i + 1 : Nat) : Int)) < leftZ m n star behind i := by
  unfold leftZ; omega
theorem left_back {m n : Nat} {star : Int} {behind i : Nat} (h : behind ≤ i) (h2 : i < n) : leftZ m n star ((behind + 1 : Nat) : Int) ((behind + 1 : Nat) : Int) < leftZ m n star behind i := by
  unfold leftZ
  have e1 : ((n : Int) + 1 - behind).toNat = ((n : Int) + 1 - ((behind + 1 : Nat) : Int)).toNat + 1 := by omega
  rw [e1, Nat.add_mul (((n : Int) + 1 - ((behind + 1 : Nat) : Int)).toNat) 1, Nat.one_mul]
  omega
section
variable (P s : ByteArray)
set_option maxHeartbeats 4000000 in
theorem match_any (hP : P.size ≤ 4611686018427387904) (hs : s.size ≤ 4611686018427387904) (w : World) :
    Calls Tryd.prog 25 #[.string P, .string s] w fun e w' => (∃ b : Bool, e = .returned (.bool b) ∧ (b = true ↔ Mat P.data.toList s.data.toList)) ∧ Below w.heap.size w w' := by
  have HPL : Hid (P.size = P.data.toList.length) := Lib.size_eq P
  have HSL : Hid (s.size = s.data.toList.length) := Lib.size_eq s
  go_enter Tryd.func25, Tryd.ntmps25
  go_wp2_with fail
  go_loopw [5, 6, 7, 8] (fun v5 v6 v7 v8 wr => ∃ (star : Option Nat) (behind p i : Nat), v5 = .int .i64 (starZ star) ∧ v6 = .int .i64 (behind : Int) ∧ v7 = .int .i64 (p : Int) ∧ v8 = .int .i64 (i : Int) ∧
    Hid (PSt P.data.toList s.data.toList (Mat P.data.toList s.data.toList) star behind p i ∧ behind ≤ i) ∧ Below w.heap.size w wr)
    (fun v5 v6 v7 v8 _ => leftZ P.size s.size (intOf v5) (intOf v6) (intOf v8))
  case atStart => exact ⟨none, 0, 0, 0, rfl, rfl, rfl, rfl, ⟨PSt.start _ _, by omega⟩, Below.refl _ _⟩
  case round =>
    obtain ⟨star, behind, p, i, rfl, rfl, rfl, rfl, H, hb⟩ := hrel
    have hpP : p ≤ P.size := by rw [HPL.out]; exact H.out.1.hp
    have hiS : i ≤ s.size := by rw [HSL.out]; exact H.out.1.hi
    have HB : Hid (Below w.heap.size w wr) := hb
    clear hb
    by_cases hi : i < s.size
    · have hiz : (i : Int) < (s.size : Int) := by omega
      obtain ⟨c, hc⟩ : ∃ c : UInt8, s[i]'hi = c := ⟨_, rfl⟩
      have HC : Hid (s.data.toList[i]? = some c) := by show s.data.toList[i]? = some c; rw [← hc]; exact Lib.data_getElem? s i hi
      by_cases hp : p < P.size
      · have hpz : (p : Int) < (P.size : Int) := by omega
        obtain ⟨a, ha⟩ : ∃ a : UInt8, P[p]'hp = a := ⟨_, rfl⟩
        have HA : Hid (P.data.toList[p]? = some a) := by show P.data.toList[p]? = some a; rw [← ha]; exact Lib.data_getElem? P p hp
        by_cases ha1 : a = 42
        · have hb1 : ((a.toNat : Int) == 42) = true := by rw [ha1]; rfl
          have HM : Hid (starZ star < (p : Int)) := by
            show starZ star < (p : Int)
            cases star with
            | none => simp only [starZ]; omega
            | some q => have := (H.out.1.seg q rfl).1; simp only [starZ]; omega
          have HX : Hid (a = 42) := ha1
          clear ha1
          go_wp2_with fail
          go_roundw
          case rel => exact ⟨some p, i, p + 1, i, rfl, rfl, by first | rfl | go_num | simp, rfl, ⟨H.out.1.star (HX.out ▸ HA.out), Nat.le_refl _⟩, HB.out⟩
          case measure => exact left_star HM.out hp hiS
        · have hb1 : ((a.toNat : Int) == 42) = false := beq_ne ha1
          have HN : Hid (a ≠ 42) := ha1
          clear ha1
          by_cases hq : a = 63
          · have hb2 : ((a.toNat : Int) == 63) = true := by rw [hq]; rfl
            have HO : Hid (a = 63 ∨ a = c) := Or.inl hq
            clear hq
            go_wp2_with fail
            go_quiet (fail)
            go_wp2_with fail
            go_roundw
            case rel => exact ⟨star, behind, p + 1, i + 1, rfl, rfl, by first | rfl | go_num | simp, by first | rfl | go_num | simp, ⟨H.out.1.one HA.out HC.out HN.out HO.out, by have := H.out.2; omega⟩, bdrewN HB.out _⟩
            case measure => exact left_one hi
          · have hb2 : ((a.toNat : Int) == 63) = false := beq_ne hq
            by_cases hac : a = c
            · have hb3 : ((a.toNat : Int) == (c.toNat : Int)) = true := by rw [hac]; simp
              have HO : Hid (a = 63 ∨ a = c) := Or.inr hac
              clear hq hac
              go_wp2_with fail
              go_quiet (fail)
              go_wp2_with fail
              go_roundw
              case rel => exact ⟨star, behind, p + 1, i + 1, rfl, rfl, by first | rfl | go_num | simp, by first | rfl | go_num | simp, ⟨H.out.1.one HA.out HC.out HN.out HO.out, by have := H.out.2; omega⟩, bdrewN HB.out _⟩
              case measure => exact left_one hi
            · have hb3 : ((a.toNat : Int) == (c.toNat : Int)) = false := beq_ne hac
              have HZ : Hid (¬ Mat (P.data.toList.drop p) (s.data.toList.drop i)) := PSt.not HC.out fun x hx => by
                have := Option.some.inj (HA.out.symm.trans hx)
                subst this
                exact ⟨HN.out, hq, hac⟩
              clear hq hac
              cases star with
              | none =>
                simp only [starZ]
                go_wp2_with fail
                go_quiet (fail)
                go_wp2_with fail
                go_ret
                exact ⟨⟨false, rfl, by simp; exact H.out.1.lost HZ.out⟩, bdrewN HB.out _⟩
              | some q =>
                simp only [starZ]
                have hbi := H.out.2
                have hqp := (H.out.1.seg q rfl).1
                go_wp2_with fail
                go_quiet (fail)
                go_wp2_with fail
                go_roundw
                case rel => exact ⟨some q, behind + 1, q + 1, behind + 1, rfl, by first | rfl | go_num | simp, by first | rfl | go_num | simp, by first | rfl | go_num | simp, ⟨H.out.1.back (by rw [← HSL.out]; exact hi) HZ.out, Nat.le_refl _⟩, bdrewN HB.out _⟩
                case measure => exact left_back H.out.2 hi
      · have hpz : ¬ ((p : Int) < (P.size : Int)) := by omega
        have HZ : Hid (¬ Mat (P.data.toList.drop p) (s.data.toList.drop i)) := PSt.not HC.out fun x hx => by
          have := (List.getElem?_eq_some_iff.1 hx).1
          rw [← HPL.out] at this
          exact absurd this hp
        cases star with
        | none =>
          simp only [starZ]
          go_wp2_with fail
          go_quiet (fail)
          go_wp2_with fail
          go_ret
          exact ⟨⟨false, rfl, by simp; exact H.out.1.lost HZ.out⟩, bdrewN HB.out _⟩
        | some q =>
          simp only [starZ]
          have hbi := H.out.2
          have hqp := (H.out.1.seg q rfl).1
          go_wp2_with fail
          go_quiet (fail)
          go_wp2_with fail
          go_roundw
          case rel => exact ⟨some q, behind + 1, q + 1, behind + 1, rfl, by first | rfl | go_num | simp, by first | rfl | go_num | simp, by first | rfl | go_num | simp, ⟨H.out.1.back (by rw [← HSL.out]; exact hi) HZ.out, Nat.le_refl _⟩, bdrewN HB.out _⟩
          case measure => exact left_back H.out.2 hi
    · obtain rfl : i = s.size := by omega
      have hiz : ¬ ((s.size : Int) < (s.size : Int)) := by omega
      have HE : Hid (Mat P.data.toList s.data.toList ↔ ∀ x ∈ P.data.toList.drop p, x = 42) := by
        have := H.out.1
        rw [HSL.out] at this
        exact this.ends
      have hx : (P.extract p P.size) = ⟨(P.data.toList.drop p).toArray⟩ := by
        have h1 : P = ⟨P.data.toList.toArray⟩ := by cases P; simp
        have h2 := Lib.extract_mk P.data.toList p P.size
        rw [← h1] at h2
        rw [h2, List.take_of_length_le (by rw [List.length_drop, ← HPL.out]; omega)]
      have hz : (⟨(P.data.toList.drop p).toArray⟩ : ByteArray).size ≤ 9223372036854775807 := by
        rw [Lib.size_mk, List.length_drop, ← HPL.out]; omega
      have HTR : Hid (∀ w : World, Calls Tryd.prog 41 #[.string ⟨(P.data.toList.drop p).toArray⟩, .string ⟨#[42]⟩] w fun e w' => e = .returned (.string ⟨(Lib.trimB (P.data.toList.drop p) 42).toArray⟩) ∧ Below w.heap.size w w') :=
        fun w => by have := trim_one ⟨(P.data.toList.drop p).toArray⟩ 42 (by decide) hz w; simpa using this
      have HTN : Hid ((⟨(Lib.trimB (P.data.toList.drop p) 42).toArray⟩ : ByteArray) = ⟨#[]⟩ ↔ ∀ x ∈ P.data.toList.drop p, x = 42) := trim_none _
      generalize (⟨(Lib.trimB (P.data.toList.drop p) 42).toArray⟩ : ByteArray) = tr at HTR HTN
      go_wp2_with fail
      refine (HTR.out _).mono ?_
      intro e w2 hw2
      obtain ⟨he2, hw2⟩ := hw2
      subst he2
      have HB2 : Hid (Below w.heap.size w w2) := HB.out.trans (hw2.mono HB.out.size)
      clear hw2
      go_wp2_with fail
      go_ret
      refine ⟨⟨_, rfl, ?_⟩, HB2.out⟩
      rw [HE.out, ← HTN.out]
      exact empty_iff tr
theorem match_is (mb : Bool) (hmb : mb = true ↔ Mat P.data.toList s.data.toList) (hP : P.size ≤ 4611686018427387904) (hs : s.size ≤ 4611686018427387904) (w : World) :
    Calls Tryd.prog 25 #[.string P, .string s] w fun e w' => e = .returned (.bool mb) ∧ Below w.heap.size w w' :=
  (match_any P s hP hs w).mono fun e w' ⟨⟨b, h1, h2⟩, h3⟩ => ⟨by rw [h1, Bool.eq_iff_iff.2 (h2.trans hmb.symm)], h3⟩
end
end Go.Proofs.YtggacdlnpakehaaDoor

namespace Go.Proofs.YtggacdlnpakehaaDoor
open Go Go.RowKit Go.Shelf
set_option linter.unusedVariables false
set_option linter.unusedSimpArgs false
attribute [local go_sem] Oper.semAt_some
/-- a part that is not too long -/
abbrev PtS := { x : Nat × ByteArray // x.2.size < 4294967281 }
theorem abides2 {J : List PtS → World → Prop} {B : Nat} (hJ : AbidesFrom B J) {pre : List PtS} {W W' : World} (h : J pre W) (hb : Below W.heap.size W W') : J pre W' :=
  hJ pre W W' none h ⟨hb.os, hb.tape, hb.output, hb.size, fun k hk _ => hb.block k hk⟩ (fun r e => by cases e)
set_option maxRecDepth 100000 in
set_option maxHeartbeats 2000000 in
theorem parts2_in (l Bn : Nat) (s : ByteArray) (hs : s.size < 4294967281) (J Jx : List PtS → World → Prop)
    (hY : ∀ pre (x : PtS) W, J pre W → pre.length < (pts s.data.toList 0).length → YieldAt Fence.wide (3 - 1) Tryd.prog l (encP x.1) W fun e W' =>
      (e = .returned (.bool true) ∧ J (pre ++ [x]) W' ∧ KpB Bn W W') ∨ (e = .returned (.bool false) ∧ Jx (pre ++ [x]) W'))
    (W : World) (hJ : AbidesFrom W.heap.size J) (hBn : Boxed W Bn 9 (.string s)) (h0 : J [] W) :
    CallsIn Fence.wide 3 Tryd.prog 32 #[.func (.yield l) #[] #[], .pointer (some ⟨Bn, 0, none⟩)] W fun e W' => (∃ v, e = .returned v) ∧
      ((∃ ys, ys.map Subtype.val = pts s.data.toList 0 ∧ J ys W') ∨ (∃ pre, pre.map Subtype.val <+: pts s.data.toList 0 ∧ Jx pre W')) := by
  have HL : Hid (s.size = s.data.toList.length) := Lib.size_eq s
  refine callsIn_of_wp Tryd.func32 rfl trivial ?_ rfl
  simp only [Tryd.ntmps32, List.size_toArray, List.length_cons, List.length_nil, Nat.reduceAdd, Nat.reduceSub, Array.replicate_succ, Array.replicate_zero, List.push_toArray, List.append_toArray, List.nil_append, List.cons_append]
  gi_wp2
  gi_loopw [3] (fun v wr => Hid (∃ (pre : List PtS) (i : Nat), v = .int .i64 (i : Int) ∧ i ≤ s.size + 1 ∧ pts s.data.toList 0 = pre.map Subtype.val ++ pts s.data.toList i ∧ J pre wr ∧ Boxed wr Bn 9 (.string s)))
    (fun v wr => s.size + 1 - (intOf v).toNat)
  case atStart => exact ⟨[], 0, rfl, by omega, rfl, h0, hBn⟩
  case round =>
    obtain ⟨pre, i, rfl, hi1, hp, hJs, hB⟩ := Hid.out hrel
    clear hrel
    have hc := hB.cell
    by_cases hi : i < s.size
    · have hz : (i : Int) < (s.size : Int) := by omega
      have HP : Hid (pts s.data.toList 0 = pre.map Subtype.val ++ pts s.data.toList i) := hp
      have HJ : Hid (J pre wr) := hJs
      have HB : Hid (Boxed wr Bn 9 (.string s)) := hB
      have HX : Hid (∀ w : World, Calls Tryd.prog 33 #[.string (s.extract i s.size), .string ⟨#[47]⟩] w fun e w' => (∃ v1 v2 : Value, e = .returned (.tuple #[.string (bsL (segL s.data.toList i)), v1, v2])) ∧ ∃ n, w' = w.drewN n) := fun w => by
        have := cut_any (s.extract i s.size) (by rw [ByteArray.size_extract]; omega) w
        rwa [ba_drop, segL_drop, Nat.add_zero] at this
      clear hp hJs hB
      have hsl := segL_le s.data.toList i
      rw [← HL.out] at hsl
      have hiL : i < s.data.toList.length := by rw [← HL.out]; exact hi
      obtain ⟨p, hpe⟩ : ∃ p, bsL (segL s.data.toList i) = p := ⟨_, rfl⟩
      have hps : p.size = (segL s.data.toList i).length := by rw [← hpe, bsL_size]
      rw [← hps] at hsl
      have hpl : p.toList = segL s.data.toList i := by rw [← hpe, Lib.toList_data, bsL_data]
      have HE : Hid (_ ∧ _ ∧ _ ∧ _) := ⟨hpe, hps, hpl, hiL⟩
      rw [hpe] at HX
      by_cases hq : segL s.data.toList i = []
      · have he : p.toList = [] := hpl.trans hq
        have hz0 : p.size = 0 := by rw [hps, hq]; rfl
        have HQ : Hid (pts s.data.toList i = pts s.data.toList (i + 1)) := pts_skip hiL hq
        clear hpe hps hpl hiL hq
        gi_wp2
        refine ⟨trivial, ?_⟩
        refine (callsIn_wide.2 (HX.out _)).mono ?_
        rintro e w9 ⟨⟨v1, v2, rfl⟩, n, rfl⟩
        gi_wp2
        refine ⟨fun _ h => (by cases h), ?_⟩
        gi_wp2
        go_roundw
        case rel => exact ⟨pre, i + 1, by first | rfl | simp [hz0] | go_num, by omega, by rw [HP.out, HQ.out], abides2 hJ HJ.out (bdrewN (Below.refl _ _) n), HB.out⟩
        case measure => simp [intOf, hz0]; omega
      · have he : ¬ p.toList = [] := by rw [hpl]; exact hq
        have hpsz : (i, p).2.size < 4294967281 := by show p.size < _; omega
        have HQ : Hid (pts s.data.toList i = (i, p) :: pts s.data.toList (i + p.size + 1)) := by
          have := pts_part hiL hq
          rw [hpe, ← hps] at this
          exact this
        clear hpe hps hpl hiL hq
        gi_wp2
        refine ⟨trivial, ?_⟩
        refine (callsIn_wide.2 (HX.out _)).mono ?_
        rintro e w9 ⟨⟨v1, v2, rfl⟩, n, rfl⟩
        obtain ⟨fn, tmps, assign, body, hy, hR⟩ := hY pre ⟨(i, p), hpsz⟩ (wr.drewN n) (abides2 hJ HJ.out (bdrewN (Below.refl _ _) n)) (by rw [HP.out, HQ.out]; simp)
        dsimp only [encP] at hy
        gi_wp2
        refine hR.mono ?_
        rintro e W3 (⟨rfl, hJ3, hk3⟩ | ⟨rfl, hJx3⟩)
        · have hB3 : Boxed W3 Bn 9 (.string s) := hk3.trans HB.out
          gi_wp2
          refine ⟨⟨pre ++ [⟨(i, p), hpsz⟩], i + p.size + 1, by rw [show ((i + p.size + 1 : Nat) : Int) = (i : Int) + ((p.size : Int) + 1) by omega], by omega, by rw [HP.out, HQ.out]; simp, hJ3, hB3⟩, ?_⟩
          simp only [intOf]
          omega
        · gi_wp2
          rotate_left
          · rename_i hx
            simp [he] at hx
          refine bodyPost_ret (results_none rfl _ _ _) rfl ?_
          exact ⟨⟨_, rfl⟩, .inr ⟨pre ++ [⟨(i, p), hpsz⟩], ⟨pts s.data.toList (i + p.size + 1), by rw [HP.out, HQ.out]; simp⟩, hJx3⟩⟩
    · have hz : ¬ (i : Int) < (s.size : Int) := by omega
      have HP : Hid (pts s.data.toList 0 = pre.map Subtype.val) := by
        rw [pts_end (i := i) (by rw [← HL.out]; omega), List.append_nil] at hp
        exact hp
      clear hp hB
      have hiz := hi
      gi_wp2
      go_end0
      exact ⟨⟨_, rfl⟩, .inl ⟨pre, HP.out.symm, hJs⟩⟩
theorem parts2_stops (Bn : Nat) (s : ByteArray) (hs : s.size < 4294967281) (w : World) (hB : Boxed w Bn 9 (.string s)) :
    SeqStopsK Fence.wide 3 Tryd.prog 32 #[.pointer (some ⟨Bn, 0, none⟩)] (fun x : PtS => encP x.1) (KpB Bn) (fun ys => ys.map Subtype.val = pts s.data.toList 0) (fun pre => pre.map Subtype.val <+: pts s.data.toList 0) (pts s.data.toList 0).length w := fun l J Jx W hW hJ _ hY h0 =>
  parts2_in l Bn s hs J Jx hY W hJ ((hW.block Bn hB.lt).trans hB) h0
end Go.Proofs.YtggacdlnpakehaaDoor

namespace Go.Proofs.YtggacdlnpakehaaDoor
open Go Go.RowKit Go.Shelf Go.Nam
set_option linter.unusedVariables false
set_option linter.unusedSimpArgs false
attribute [local go_sem] Oper.semAt_some
/-- each part is taken for the name in its place -/
def AllM : List (Nat × ByteArray) → List ByteArray → Prop
  | [], [] => True
  | x :: xs, n :: ns => Mat x.2.data.toList n.data.toList ∧ AllM xs ns
  | [], _ :: _ => False
  | _ :: _, [] => False
theorem allM_nil (N : List ByteArray) : AllM [] N ↔ N = [] := by cases N <;> simp [AllM]
theorem parseD_at (s : ByteArray) {N : List ByteArray} {d : Bool} {i : Nat} {z : Int} (hp : prs s.data.toList = (N, d, i, z)) (w : World) : Calls Tryd.prog 7 #[.string s] w fun e w' => ∃ (a : Option Addr) (c : Nat), e = .returned (.tuple #[.agg #[.slice a N.length c, .bool d], .int .i64 (i : Int), .int .i64 z]) ∧ w'.ownsRow w.heap.size 9 1 (.slice a N.length c) N.length (N.map Value.string) ∧ Below w.heap.size w w' := by
  refine (parse_any s w).mono ?_
  rintro e w' ⟨v, he, ho, hb⟩
  rw [hp] at he ho
  obtain ⟨a, c, rfl⟩ := kown_slice ho
  exact ⟨a, c, he, ho, hb⟩
theorem own_capD {w : World} {B n m c : Nat} {a : Option Addr} {t : TypeId} {xs : List Value} (h : w.ownsRow B t 1 (.slice a m c) n xs) : n ≤ c := by
  rcases h.2 with ⟨hv, hn⟩ | ⟨g, cap, cur, hv, _, _, hc, _⟩
  · omega
  · cases hv; exact hc
/-- between two parts of the pattern -/
def MJ (w : World) (gl : Nat) (N : List ByteArray) (pre : List PtS) (V : World) : Prop :=
  ∃ (a : Option Addr) (c : Nat) (R : List ByteArray), Blk V gl 28 #[.slice a R.length c] ∧ IsN V a R ∧ (∀ k o, a = some ⟨k, o, none⟩ → k < gl ∧ w.heap.size < k) ∧ R.length ≤ c ∧ (∀ x ∈ R, x.size ≤ 56) ∧ (∀ more, AllM (pre.map Subtype.val ++ more) N ↔ AllM more R) ∧ Blk V w.heap.size 4 #[.bool false] ∧ Below w.heap.size w V ∧ w.heap.size ≤ V.heap.size ∧ gl + 1 < V.heap.size
def MX (w : World) (N : List ByteArray) (c : Code) (pre : List PtS) (V : World) : Prop :=
  c = .ret ∧ (∀ more, ¬ AllM (pre.map Subtype.val ++ more) N) ∧ Blk V w.heap.size 4 #[.bool false] ∧ Below w.heap.size w V ∧ w.heap.size ≤ V.heap.size
theorem isN_grownD {w w' : World} {a : Option Addr} {N : List ByteArray} {row : Option Nat} {B : Nat} (h : IsN w a N) (hg : w.grownBy w' row) (hr : ∀ r, row = some r → B ≤ r ∧ ∃ o : Obj, w.heap[r]? = some o ∧ o.isCells = false) : IsN w' a N := by
  rcases h with h | ⟨g, o, rfl, hk, hc⟩
  · exact .inl h
  · by_cases hN : N = []
    · exact .inl hN
    · refine .inr ⟨g, o, rfl, Nat.lt_of_lt_of_le hk hg.size, fun j x hx => hg.cell (a := ⟨g, o + j, none⟩) (hc j x hx) (fun e => ?_)⟩
      obtain ⟨_, ob, ho, hcl⟩ := hr g e.symm
      have hc2 := hc j x hx
      simp only [World.cell?, ho] at hc2
      cases ob <;> simp_all [Obj.isCells]
theorem isN_cellD {w : World} {a : Option Addr} {N : List ByteArray} (h : IsN w a N) {g j : Nat} (u : Value) (hg : ∀ k o, a = some ⟨k, o, none⟩ → k ≠ g) : IsN (w.setCell ⟨g, j, none⟩ u) a N := by
  rcases h with h | ⟨k, o, rfl, hk, hc⟩
  · exact .inl h
  · refine .inr ⟨k, o, rfl, by rw [World.size_setCell]; exact hk, fun i x hx => ?_⟩
    exact (World.cell?_of_block (Below.heap_setCell _ _ _ k (hg k o rfl))).trans (hc i x hx)
theorem isN_tail {w : World} {g o : Nat} {n : ByteArray} {R : List ByteArray} (h : IsN w (some ⟨g, o, none⟩) (n :: R)) : IsN w (some ⟨g, o + 1, none⟩) R := by
  rcases h with h | ⟨k, o', e, hk, hc⟩
  · cases h
  · cases e
    exact .inr ⟨g, o + 1, rfl, hk, fun j x hx => by
      have := hc (j + 1) x (by simpa using hx)
      rwa [show o + (j + 1) = o + 1 + j by omega] at this⟩
theorem mj_own (w : World) (gl : Nat) (N : List ByteArray) (B : Nat) (hb : w.heap.size ≤ B) : OwnFrom B (MJ w gl N) := by
  rintro pre V V' row ⟨a, c, R, h1, h2, h3, h4, h5, h6, h7, h8, h9, h10⟩ hg hr
  exact ⟨a, c, R, blk_grown h1 hg hr, isN_grownD h2 hg hr, h3, h4, h5, h6, blk_grown h7 hg hr, below_grown h8 hb h9 hg hr, Nat.le_trans h9 hg.size, Nat.lt_of_lt_of_le h10 hg.size⟩
theorem mx_own (w : World) (N : List ByteArray) (B : Nat) (hb : w.heap.size ≤ B) (c : Code) : OwnFrom B (MX w N c) := by
  rintro pre V V' row ⟨h1, h2, h7, h8, h9⟩ hg hr
  exact ⟨h1, h2, blk_grown h7 hg hr, below_grown h8 hb h9 hg hr, Nat.le_trans h9 hg.size⟩
set_option maxRecDepth 100000 in
set_option maxHeartbeats 4000000 in
theorem pmatch_main (P s : ByteArray) (hP : P.size ≤ 3000) {N : List ByteArray} {d : Bool} {i : Nat} (hp : prs s.data.toList = (N, d, i, 0)) (hN32 : N.length ≤ 32) (hNs : ∀ x ∈ N, x.size ≤ 56) (h47 : P.data.toList[0]? = some 47) (mb : Bool) (hmb : mb = true ↔ AllM (pts P.data.toList 0) N) (w : World) :
    Calls Tryd.prog 12 #[.string P, .string s] w fun e w' => e = .returned (.bool mb) ∧ Below w.heap.size w w' := by
  have HP := parseD_at s hp
  have HX : Hid (∀ w : World, Calls Tryd.prog 19 #[.string P, .string ⟨#[47]⟩] w fun e w' => e = .returned (.bool true) ∧ w' = w) := fun w => by
    have := prefix_any P w
    rwa [h47, decide_eq_true rfl] at this
  have HMB : Hid (mb = true ↔ AllM (pts P.data.toList 0) N) := hmb
  have HNs : Hid (∀ x ∈ N, x.size ≤ 56) := hNs
  clear hp h47 hmb hNs
  refine (callsIn_wide (n := 4)).1 ?_
  refine callsIn_of_wp_marks Tryd.func12 rfl trivial ?_ rfl
  simp only [Tryd.ntmps12, List.size_toArray, List.length_cons, List.length_nil, Nat.reduceAdd, Nat.reduceSub, Array.replicate_succ, Array.replicate_zero, List.push_toArray, List.append_toArray, List.nil_append, List.cons_append]
  have kr0 := Blk.new w 4 #[.bool false]
  have B0 : Below w.heap.size w (w.alloc (.cells #[.bool false] 4)) := (Below.refl _ w).alloc (Nat.le_refl _) _
  gi_wp2
  refine ⟨trivial, ?_⟩
  refine (callsIn_wide.2 (HP _)).mono ?_
  rintro e w1 ⟨a, c, rfl, ho1, hb1⟩
  have al1 := hb1.alloc hb1.size (.cells #[.slice a N.length c, .bool d] 30)
  have kr1 := kr0.below al1 kr0.lt
  have kp1 := Blk.new w1 30 #[.slice a N.length c, .bool d]
  have n1 := (own_isN ho1).below ((Below.refl _ w1).alloc (Nat.le_refl _) (.cells #[.slice a N.length c, .bool d] 30))
  have B1 := B0.trans (al1.mono B0.size)
  have hcap := own_capD ho1
  have hfar : ∀ k o, a = some ⟨k, o, none⟩ → k < w1.heap.size ∧ w.heap.size < k := fun k o e => by
    subst e
    have := ho1.lt k rfl
    simp at this
    omega
  have cp0 := kp1.cell 0
  have HI : Hid (_ ∧ _ ∧ _) := ⟨kr1, n1, B1⟩
  clear kr0 B0 al1 kr1 kp1 n1 B1 ho1
  gi_wp2
  refine ⟨trivial, ?_⟩
  refine (callsIn_wide.2 (HX.out _)).mono ?_
  rintro e w9 ⟨rfl, hw9⟩
  subst w9
  gi_wp2
  clear cp0
  obtain ⟨kr1, n1, B1⟩ := HI.out
  generalize hwa : w1.alloc (.cells #[.slice a N.length c, .bool d] 30) = w1a at *
  have hs1 : w1a.heap.size = w1.heap.size + 1 := by rw [← hwa]; simp
  clear hwa HI
  refine ⟨trivial, ?_⟩
  refine (parts_in P _).mono ?_
  rintro e w9 ⟨rfl, hw9⟩
  subst w9
  gi_wp2
  obtain ⟨gl, hgl⟩ : ∃ gl, w1.heap.size + 1 = gl := ⟨_, rfl⟩
  rw [hgl] at hs1 ⊢
  obtain ⟨W0, hW0⟩ : ∃ W0, (w1a.alloc (.cells #[.slice a N.length c] 28)).alloc (.cells #[.string P] 9) = W0 := ⟨_, rfl⟩
  have al0 : Below w1a.heap.size w1a W0 := by rw [← hW0]; exact ((Below.refl _ w1a).alloc (Nat.le_refl _) _).alloc (by simp) _
  have z0 : W0.heap.size = gl + 1 + 1 := by rw [← hW0]; simp; omega
  have kl0 : Blk W0 gl 28 #[.slice a N.length c] := by
    rw [← hW0, ← hs1]
    exact (Blk.new w1a _ _).alloc _
  have kb0 : Boxed W0 (gl + 1) 9 (.string P) := by
    rw [← hW0]
    have := Boxed.new (w1a.alloc (.cells #[.slice a N.length c] 28)) 9 (.string P)
    rw [World.size_alloc, hs1] at this
    exact this
  have kr0 := kr1.below al0 kr1.lt
  have n0 := n1.below al0
  have B0 := B1.trans (al0.mono B1.size)
  have hgw : w.heap.size < gl := by have := kr1.lt; omega
  rw [hW0]
  clear hW0 kr1 n1 B1 al0
  refine wpIn_rangeFunc_ownF rfl (by decide) (gf := 32) (lb := #[.pointer (some ⟨gl + 1, 0, none⟩)]) rfl trivial (enters_of Tryd.func32 (by kernel_rfl) rfl)
    (parts2_stops (gl + 1) P (by omega) W0 kb0) (fun h k => k.trans h)
    (fun W l o o' hl ho h1 h2 => by
      show (W.putObj l o').heap[_]? = _
      exact World.putObj_heap_other (by omega)) (Below.refl _ _) (fun _ => rfl)
    (MJ w gl N) (MX w N) (mj_own w gl N _ B0.size) (mx_own w N _ B0.size)
    ⟨a, c, N, kl0, n0, fun k o e => by have := hfar k o e; omega, hcap, HNs.out, fun more => by simp, kr0, B0, B0.size, by omega⟩
    (fun x => { tmps := #[.string P, .string s, undef, undef, .pointer (some ⟨w.heap.size, 0, none⟩), .pointer (some ⟨w1.heap.size, 0, none⟩), .int .i64 (i : Int), .int .i64 0, .pointer (some ⟨gl, 0, none⟩), undef, .string x.1.2, .tuple #[.agg #[.slice a N.length c, .bool d], .int .i64 (i : Int), .int .i64 0], .string s, .tuple #[.agg #[.slice a N.length c, .bool d], .int .i64 (i : Int), .int .i64 0], .agg #[.slice a N.length c, .bool d], .int .i64 (i : Int), .int .i64 0, .int .i64 0, .bool false, .bool false, .string P, .bool true, .bool false, .bool false, .pointer (some ⟨w1.heap.size, 0, none⟩), .slice a N.length c, .string P, .func (.func 32) #[] #[.pointer (some ⟨gl + 1, 0, none⟩)], .int .i64 (x.1.1 : Int), .string x.1.2, undef, undef, undef, undef, undef, undef, undef, undef, undef, undef, undef, undef, undef, undef, undef, undef], defers := [] }) ?assign ?body ?done ?stop
  case assign =>
    intro l x V K hK
    dsimp only [encP]
    gi_wp2
    exact hK
  case body =>
    rintro l pre x V ⟨a2, c2, R, g1, g2, g3, g4, g5, g6, g7, g8, g9, g10⟩ _
    have HI : Hid (_ ∧ _ ∧ _ ∧ _ ∧ _ ∧ _) := ⟨g1, g2, g3, g6, g7, g8⟩
    have c0 := g1.cell 0
    have f0 := g1.frozen 0
    have c7 := g7.cell 0
    have f7 := g7.frozen 0
    clear kr0 n0 B0 kl0 kb0 g1 g3 g6 g8
    cases R with
    | nil =>
      have HF : Hid (∀ more, ¬ AllM ((pre ++ [x]).map Subtype.val ++ more) N) := fun more h => by
        rw [List.map_append, List.append_assoc, HI.out.2.2.2.1] at h
        simp [AllM] at h
      clear g2 g4 g5
      gi_wp2
      refine ⟨trivial, ?_⟩
      gi_wp2
      obtain ⟨g1, g2, g3, g6, g7, g8⟩ := HI.out
      exact ⟨KeepsOthers.setCell _ _ _, rfl, HF.out, g7.put 0 _, g8.setCell (p := ⟨w.heap.size, 0, none⟩) (Nat.le_refl _) _, by rw [World.size_setCell]; exact g9⟩
    | cons n R =>
      obtain ⟨g, o, rfl, hg, hc⟩ := g2.at (j := 0) (by simp)
      rw [Nat.add_zero] at hc
      have hc : V.cell? ⟨g, o, none⟩ = some (.string n) := hc
      have hns : n.size ≤ 56 := g5 n (by simp)
      have hxs := x.2
      obtain ⟨m2, hm2⟩ : ∃ m2 : Bool, m2 = true ↔ Mat x.1.2.data.toList n.data.toList := by
        by_cases h : Mat x.1.2.data.toList n.data.toList
        · exact ⟨true, by simp [h]⟩
        · exact ⟨false, by simp [h]⟩
      have HMt : Hid (∀ w : World, Calls Tryd.prog 25 #[.string x.1.2, .string n] w fun e w' => e = .returned (.bool m2) ∧ Below w.heap.size w w') := fun w => match_is x.1.2 n m2 hm2 (by omega) (by omega) w
      have hl1 : ((R.length : Int) + 1 == 0) = false := by rw [beq_eq_false_iff_ne]; omega
      have hl2 : ¬ ((R.length : Int) + 1 = 0) := by omega
      have hl3 : (0 : Int) < (R.length : Int) + 1 := by omega
      have hl4 : (1 : Int) ≤ (R.length : Int) + 1 := by omega
      have hR56 : ∀ x ∈ R, x.size ≤ 56 := fun y hy => g5 y (by simp [hy])
      have hRc : R.length + 1 ≤ c2 := g4
      clear g2 g4 g5
      cases m2
      · have HF : Hid (∀ more, ¬ AllM ((pre ++ [x]).map Subtype.val ++ more) N) := fun more h => by
          rw [List.map_append, List.append_assoc, HI.out.2.2.2.1] at h
          have := h.1
          exact absurd (hm2.2 this) (by simp)
        clear hm2
        gi_wp2
        refine ⟨trivial, ?_⟩
        refine (CallsIn.inRound l (callsIn_wide.2 (HMt.out _))).mono ?_
        rintro e W9 ⟨rfl, hW9⟩
        obtain ⟨g1, g2, g3, g6, g7, g8⟩ := HI.out
        have q7 := g7.below hW9 g7.lt
        have d7 := q7.cell 0
        have e7 := q7.frozen 0
        have q8 := g8.trans (hW9.mono g9)
        clear g1 g2 g3 g6 g7 g8
        gi_wp2
        exact ⟨(keeps_below hW9).trans (KeepsOthers.setCell _ _ _), rfl, HF.out, q7.put 0 _, q8.setCell (p := ⟨w.heap.size, 0, none⟩) (Nat.le_refl _) _, by rw [World.size_setCell]; exact Nat.le_trans g9 hW9.size⟩
      · have HF : Hid (∀ more, AllM ((pre ++ [x]).map Subtype.val ++ more) N ↔ AllM more R) := fun more => by
          rw [List.map_append, List.append_assoc, HI.out.2.2.2.1]
          show AllM (x.1 :: more) (n :: R) ↔ _
          simp [AllM, hm2.1 rfl]
        clear hm2
        gi_wp2
        refine ⟨trivial, ?_⟩
        refine (CallsIn.inRound l (callsIn_wide.2 (HMt.out _))).mono ?_
        rintro e W9 ⟨rfl, hW9⟩
        obtain ⟨g1, g2, g3, g6, g7, g8⟩ := HI.out
        have q7 := g7.below hW9 g7.lt
        have q1 := g1.below hW9 g1.lt
        have d1 := q1.cell 0
        have e1 := q1.frozen 0
        have q2 := g2.below hW9
        have q8 := g8.trans (hW9.mono g9)
        have hKp : KpB (gl + 1) V W9 := hW9.block _ (by omega)
        have HQ : Hid (_ ∧ _ ∧ _ ∧ _ ∧ _ ∧ _) := ⟨q7, q1, q2, q8, g3, hKp⟩
        clear g1 g2 g3 g6 g7 g8 q7 q1 q2 q8 hKp
        gi_wp2
        · obtain ⟨q7, q1, q2, q8, g3, hKp⟩ := HQ.out
          obtain rfl : R = [] := List.length_eq_zero_iff.1 (by omega)
          exact ⟨(keeps_below hW9).trans (KeepsOthers.setCell _ _ _), (kpb_cell (by omega) _).trans hKp, _, _, [], q1.put 0 _, .inl rfl, fun k o' e => by cases e; exact g3 g o rfl, by simp, by simp, HF.out, q7.put_other _ _ (by omega), q8.setCell (p := ⟨gl, 0, none⟩) (by show w.heap.size ≤ gl; omega) _, by rw [World.size_setCell]; exact Nat.le_trans g9 hW9.size, by rw [World.size_setCell]; exact Nat.lt_of_lt_of_le g10 hW9.size⟩
        · obtain ⟨q7, q1, q2, q8, g3, hKp⟩ := HQ.out
          exact ⟨(keeps_below hW9).trans (KeepsOthers.setCell _ _ _), (kpb_cell (by omega) _).trans hKp, _, _, R, q1.put 0 _, isN_cellD (isN_tail q2) _ (fun k o' e => by cases e; have := (g3 g o rfl).1; omega), fun k o' e => by cases e; exact g3 g o rfl, by omega, hR56, HF.out, q7.put_other _ _ (by omega), q8.setCell (p := ⟨gl, 0, none⟩) (by show w.heap.size ≤ gl; omega) _, by rw [World.size_setCell]; exact Nat.le_trans g9 hW9.size, by rw [World.size_setCell]; exact Nat.lt_of_lt_of_le g10 hW9.size⟩
  case done =>
    rintro D ys V hD hys ⟨a2, c2, R, g1, g2, g3, g4, g5, g6, g7, g8, g9, g10⟩ hK
    have h0 := g6 []
    rw [List.append_nil, hys, allM_nil] at h0
    have HR : Hid (((R.length : Int) == 0) = mb) := by
      show (_ == _) = mb
      rw [Bool.eq_iff_iff, HMB.out, h0]
      cases R <;> simp
      omega
    have c0 := g1.cell 0
    have c7 := g7.cell 0
    have f7 := g7.frozen 0
    have hmm : ((R.length : Int) == 0) = mb := HR.out
    have kf := g7.put 0 (.bool mb)
    have Bf := g8.setCell (p := ⟨w.heap.size, 0, none⟩) (Nat.le_refl _) (.bool mb)
    have hK' := (KeepsOthers.setCell V ⟨w.heap.size, 0, none⟩ (.bool mb)).same D _ hK rfl
    have r0 := (blk_grown (B := W0.heap.size) kf (grownBy_putObj' _ D (.deferred none)) (dead_grown hK' rfl hD)).cell 0
    have Be := below_grown (B := W0.heap.size) Bf (by omega) Bf.size (grownBy_putObj' _ D (.deferred none)) (dead_grown hK' rfl hD)
    clear kr0 n0 B0 kl0 kb0 g1 g2 g3 g6 g7 g8 kf Bf hys h0
    gi_wp2
    refine ⟨by simp, .inl ⟨_, _, rfl, run_takeDeferred hK', ?_⟩⟩
    generalize (V.setCell ⟨w.heap.size, 0, none⟩ (.bool mb)).putObj D (.deferred none) = Wf at *
    refine ⟨.bool mb, ?_, rfl, Be⟩
    simp [results, Tryd.f12, go_sem, r0]
  case stop =>
    rintro D c' pre V hD ⟨t, hpre⟩ ⟨rfl, g1, g7, g8, g9⟩ hK
    have h0 := g1 t
    rw [hpre] at h0
    obtain rfl : mb = false := by
      cases mb
      · rfl
      · exact absurd (HMB.out.1 rfl) h0
    have r0 := (blk_grown (B := W0.heap.size) g7 (grownBy_putObj' _ D (.deferred none)) (dead_grown hK rfl hD)).cell 0
    have Be := below_grown (B := W0.heap.size) g8 (by omega) g9 (grownBy_putObj' _ D (.deferred none)) (dead_grown hK rfl hD)
    clear kr0 n0 B0 kl0 kb0 g1 g7 g8 h0
    gi_wp2
    refine ⟨by simp, .inl ⟨_, _, rfl, run_takeDeferred hK, ?_⟩⟩
    generalize V.putObj D (.deferred none) = Wf at *
    refine ⟨.bool false, ?_, rfl, Be⟩
    simp [results, Tryd.f12, go_sem, r0]
end Go.Proofs.YtggacdlnpakehaaDoor
