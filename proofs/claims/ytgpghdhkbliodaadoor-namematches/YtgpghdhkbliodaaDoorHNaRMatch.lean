/- The document's Match: a row for each beginning of the pattern. -/
import Derived.Test.YtgpghdhkbliodaaDoorHSegs
import Derived.Test.YtgpghdhkbliodaaDoorHNaMath
import Derived.BigQuiet
import Derived.Deep.QuietTactic
import Derived.Handy
import Derived.Test.YtgpghdhkbliodaaDoorHBytes
import Derived.ArgAppend
import Derived.BigRegion
import Derived.Maps.AppendAt

namespace Go.Proofs.YtgpghdhkbliodaaDoor
set_option maxRecDepth 20000
open Go Go.RowKit Go.Nam
set_option linter.unusedVariables false
set_option linter.unusedSimpArgs false

theorem beq_ne {a b : UInt8} (h : a ≠ b) : ((a.toNat : Int) == (b.toNat : Int)) = false := by
  rw [beq_eq_false_iff_ne]
  intro e
  exact h (UInt8.toNat_inj.1 (by exact_mod_cast e))
def starZ : Option Nat → Int
  | none => -1
  | some q => (q : Int)
theorem dw_nil (p : UInt8 → Bool) : ∀ l : List UInt8, l.dropWhile p = [] ↔ ∀ x ∈ l, p x = true
  | [] => by simp
  | a :: l => by
    rw [List.dropWhile_cons]
    by_cases h : p a = true
    · rw [if_pos h, dw_nil p l]; simp [h]
    · rw [if_neg h]; simp [h]
theorem tw_all (p : UInt8 → Bool) : ∀ (l : List UInt8) x, x ∈ l.takeWhile p → p x = true
  | [], x, h => by simp at h
  | a :: l, x, h => by
    rw [List.takeWhile_cons] at h
    by_cases h1 : p a = true
    · rw [if_pos h1] at h
      rcases List.mem_cons.1 h with rfl | h
      · exact h1
      · exact tw_all p l x h
    · rw [if_neg h1] at h; simp at h
theorem trim_none (l : List UInt8) : (⟨(Lib.trimB l 42).toArray⟩ : ByteArray) = ⟨#[]⟩ ↔ ∀ x ∈ l, x = 42 := by
  have h : (Lib.trimB l 42) = [] ↔ ∀ x ∈ l, x = 42 := by
    unfold Lib.trimB Lib.trimLeftB Lib.trimRightB
    constructor
    · intro h
      have h1 : ∀ x ∈ (l.reverse.dropWhile (· == 42)).reverse, x = 42 := by
        have := (dw_nil _ _).1 h
        intro x hx; simpa using this x hx
      have h2 : ∀ x ∈ l.reverse, x = 42 := by
        intro x hx
        rw [← List.takeWhile_append_dropWhile (p := (· == 42)) (l := l.reverse)] at hx
        rcases List.mem_append.1 hx with h3 | h3
        · simpa using tw_all _ _ _ h3
        · exact h1 x (by simpa using h3)
      intro x hx; exact h2 x (by simpa using hx)
    · intro h
      have : l.reverse.dropWhile (· == 42) = [] := (dw_nil _ _).2 fun x hx => by simpa using h x (by simpa using hx)
      rw [this]; rfl
  rw [← h]
  constructor
  · intro e; have := congrArg (fun b : ByteArray => b.data.toList) e; simpa using this
  · intro e; rw [e]
def leftZ (m n : Nat) (star behind i : Int) : Nat := ((m : Int) - star).toNat * ((n + 2) * (n + 2)) + ((n : Int) + 1 - behind).toNat * (n + 2) + ((n : Int) - i).toNat
theorem left_star {m n : Nat} {star behind : Int} {p i : Nat} (h1 : star < p) (h2 : p < m) (h3 : i ≤ n) : leftZ m n p i i < leftZ m n star behind i := by
  unfold leftZ
  have e1 : ((m : Int) - star).toNat = ((m : Int) - p).toNat + (((m : Int) - star).toNat - ((m : Int) - p).toNat - 1) + 1 := by omega
  rw [e1]
  generalize ((m : Int) - p).toNat = a
  generalize (((m : Int) - star).toNat - a - 1) = d
  have e2 : ((n : Int) + 1 - i).toNat ≤ n + 1 := by omega
  have e3 : ((n : Int) + 1 - i).toNat * (n + 2) ≤ (n + 1) * (n + 2) := Nat.mul_le_mul_right _ e2
  rw [Nat.add_mul (a + d) 1, Nat.add_mul a d, Nat.one_mul]
  have e4 : (n + 2) * (n + 2) = (n + 1) * (n + 2) + (n + 2) := by rw [← Nat.succ_mul]
  have e5 : ((n : Int) - i).toNat ≤ n := by omega
  generalize d * ((n + 2) * (n + 2)) = x
  generalize a * ((n + 2) * (n + 2)) = y
  generalize ((n : Int) + 1 - behind).toNat * (n + 2) = z
  generalize (n + 2) * (n + 2) = K at *
  omega
theorem left_one {m n : Nat} {star behind : Int} {i : Nat} (h : i < n) : leftZ m n star behind (((i + 1 : Nat) : Int)) < leftZ m n star behind i := by
  unfold leftZ; omega
theorem left_back {m n : Nat} {star : Int} {behind i : Nat} (h : behind ≤ i) (h2 : i < n) : leftZ m n star ((behind + 1 : Nat) : Int) ((behind + 1 : Nat) : Int) < leftZ m n star behind i := by
  unfold leftZ
  have e1 : ((n : Int) + 1 - behind).toNat = ((n : Int) + 1 - ((behind + 1 : Nat) : Int)).toNat + 1 := by omega
  rw [e1, Nat.add_mul (((n : Int) + 1 - ((behind + 1 : Nat) : Int)).toNat) 1, Nat.one_mul]
  omega
section
variable (P s : ByteArray)
set_option maxHeartbeats 4000000 in
theorem match_any (hP : P.size ≤ 4611686018427387904) (hs : s.size ≤ 4611686018427387904) (w : World) :
    Calls Tryd.prog 19 #[.string P, .string s] w fun e w' => (∃ b : Bool, e = .returned (.bool b) ∧ (b = true ↔ Mat P.data.toList s.data.toList)) ∧ Below w.heap.size w w' := by
  have HPL : Hid (P.size = P.data.toList.length) := Lib.size_eq P
  have HSL : Hid (s.size = s.data.toList.length) := Lib.size_eq s
  go_enter Tryd.func19, Tryd.ntmps19
  go_wp2_with fail
  go_loopw [5, 6, 7, 8] (fun v5 v6 v7 v8 wr => ∃ (star : Option Nat) (behind p i : Nat), v5 = .int .i64 (starZ star) ∧ v6 = .int .i64 (behind : Int) ∧ v7 = .int .i64 (p : Int) ∧ v8 = .int .i64 (i : Int) ∧
    Hid (PSt P.data.toList s.data.toList (Mat P.data.toList s.data.toList) star behind p i ∧ behind ≤ i) ∧ Below w.heap.size w wr)
    (fun v5 v6 v7 v8 _ => leftZ P.size s.size (intOf v5) (intOf v6) (intOf v8))
  case atStart => exact ⟨none, 0, 0, 0, rfl, rfl, rfl, rfl, ⟨PSt.start _ _, by omega⟩, Below.refl _ _⟩
  case round =>
    obtain ⟨star, behind, p, i, rfl, rfl, rfl, rfl, H, hb⟩ := hrel
    have hpP : p ≤ P.size := by rw [HPL.out]; exact H.out.1.hp
    have hiS : i ≤ s.size := by rw [HSL.out]; exact H.out.1.hi
    have HB : Hid (Below w.heap.size w wr) := hb
    clear hb
    by_cases hi : i < s.size
    · have hiz : (i : Int) < (s.size : Int) := by omega
      obtain ⟨c, hc⟩ : ∃ c : UInt8, s[i]'hi = c := ⟨_, rfl⟩
      have HC : Hid (s.data.toList[i]? = some c) := by show s.data.toList[i]? = some c; rw [← hc]; exact Lib.data_getElem? s i hi
      by_cases hp : p < P.size
      · have hpz : (p : Int) < (P.size : Int) := by omega
        obtain ⟨a, ha⟩ : ∃ a : UInt8, P[p]'hp = a := ⟨_, rfl⟩
        have HA : Hid (P.data.toList[p]? = some a) := by show P.data.toList[p]? = some a; rw [← ha]; exact Lib.data_getElem? P p hp
        by_cases ha1 : a = 42
        · have hb1 : ((a.toNat : Int) == 42) = true := by rw [ha1]; rfl
          have HM : Hid (starZ star < (p : Int)) := by
            show starZ star < (p : Int)
            cases star with
            | none => simp only [starZ]; omega
            | some q => have := (H.out.1.seg q rfl).1; simp only [starZ]; omega
          have HX : Hid (a = 42) := ha1
          clear ha1
          go_wp2_with fail
          go_roundw
          case rel => exact ⟨some p, i, p + 1, i, rfl, rfl, by first | rfl | go_num | simp, rfl, ⟨H.out.1.star (HX.out ▸ HA.out), Nat.le_refl _⟩, HB.out⟩
          case measure => exact left_star HM.out hp hiS
        · have hb1 : ((a.toNat : Int) == 42) = false := beq_ne ha1
          have HN : Hid (a ≠ 42) := ha1
          clear ha1
          by_cases hq : a = 63
          · have hb2 : ((a.toNat : Int) == 63) = true := by rw [hq]; rfl
            have HO : Hid (a = 63 ∨ a = c) := Or.inl hq
            clear hq
            go_wp2_with fail
            go_quiet (fail)
            go_wp2_with fail
            go_roundw
            case rel => exact ⟨star, behind, p + 1, i + 1, rfl, rfl, by first | rfl | go_num | simp, by first | rfl | go_num | simp, ⟨H.out.1.one HA.out HC.out HN.out HO.out, by have := H.out.2; omega⟩, bdrewN HB.out _⟩
            case measure => exact left_one hi
          · have hb2 : ((a.toNat : Int) == 63) = false := beq_ne hq
            by_cases hac : a = c
            · have hb3 : ((a.toNat : Int) == (c.toNat : Int)) = true := by rw [hac]; simp
              have HO : Hid (a = 63 ∨ a = c) := Or.inr hac
              clear hq hac
              go_wp2_with fail
              go_quiet (fail)
              go_wp2_with fail
              go_roundw
              case rel => exact ⟨star, behind, p + 1, i + 1, rfl, rfl, by first | rfl | go_num | simp, by first | rfl | go_num | simp, ⟨H.out.1.one HA.out HC.out HN.out HO.out, by have := H.out.2; omega⟩, bdrewN HB.out _⟩
              case measure => exact left_one hi
            · have hb3 : ((a.toNat : Int) == (c.toNat : Int)) = false := beq_ne hac
              have HZ : Hid (¬ Mat (P.data.toList.drop p) (s.data.toList.drop i)) := PSt.not HC.out fun x hx => by
                have := Option.some.inj (HA.out.symm.trans hx)
                subst this
                exact ⟨HN.out, hq, hac⟩
              clear hq hac
              cases star with
              | none =>
                simp only [starZ]
                go_wp2_with fail
                go_quiet (fail)
                go_wp2_with fail
                go_ret
                exact ⟨⟨false, rfl, by simp; exact H.out.1.lost HZ.out⟩, bdrewN HB.out _⟩
              | some q =>
                simp only [starZ]
                have hbi := H.out.2
                have hqp := (H.out.1.seg q rfl).1
                go_wp2_with fail
                go_quiet (fail)
                go_wp2_with fail
                go_roundw
                case rel => exact ⟨some q, behind + 1, q + 1, behind + 1, rfl, by first | rfl | go_num | simp, by first | rfl | go_num | simp, by first | rfl | go_num | simp, ⟨H.out.1.back (by rw [← HSL.out]; exact hi) HZ.out, Nat.le_refl _⟩, bdrewN HB.out _⟩
                case measure => exact left_back H.out.2 hi
      · have hpz : ¬ ((p : Int) < (P.size : Int)) := by omega
        have HZ : Hid (¬ Mat (P.data.toList.drop p) (s.data.toList.drop i)) := PSt.not HC.out fun x hx => by
          have := (List.getElem?_eq_some_iff.1 hx).1
          rw [← HPL.out] at this
          exact absurd this hp
        cases star with
        | none =>
          simp only [starZ]
          go_wp2_with fail
          go_quiet (fail)
          go_wp2_with fail
          go_ret
          exact ⟨⟨false, rfl, by simp; exact H.out.1.lost HZ.out⟩, bdrewN HB.out _⟩
        | some q =>
          simp only [starZ]
          have hbi := H.out.2
          have hqp := (H.out.1.seg q rfl).1
          go_wp2_with fail
          go_quiet (fail)
          go_wp2_with fail
          go_roundw
          case rel => exact ⟨some q, behind + 1, q + 1, behind + 1, rfl, by first | rfl | go_num | simp, by first | rfl | go_num | simp, by first | rfl | go_num | simp, ⟨H.out.1.back (by rw [← HSL.out]; exact hi) HZ.out, Nat.le_refl _⟩, bdrewN HB.out _⟩
          case measure => exact left_back H.out.2 hi
    · obtain rfl : i = s.size := by omega
      have hiz : ¬ ((s.size : Int) < (s.size : Int)) := by omega
      have HE : Hid (Mat P.data.toList s.data.toList ↔ ∀ x ∈ P.data.toList.drop p, x = 42) := by
        have := H.out.1
        rw [HSL.out] at this
        exact this.ends
      have hx : (P.extract p P.size) = ⟨(P.data.toList.drop p).toArray⟩ := by
        have h1 : P = ⟨P.data.toList.toArray⟩ := by cases P; simp
        have h2 := Lib.extract_mk P.data.toList p P.size
        rw [← h1] at h2
        rw [h2, List.take_of_length_le (by rw [List.length_drop, ← HPL.out]; omega)]
      have hz : (⟨(P.data.toList.drop p).toArray⟩ : ByteArray).size ≤ 9223372036854775807 := by
        rw [Lib.size_mk, List.length_drop, ← HPL.out]; omega
      have HTR : Hid (∀ w : World, Calls Tryd.prog 28 #[.string ⟨(P.data.toList.drop p).toArray⟩, .string ⟨#[42]⟩] w fun e w' => e = .returned (.string ⟨(Lib.trimB (P.data.toList.drop p) 42).toArray⟩) ∧ Below w.heap.size w w') :=
        fun w => by have := trim_one ⟨(P.data.toList.drop p).toArray⟩ 42 (by decide) hz w; simpa using this
      have HTN : Hid ((⟨(Lib.trimB (P.data.toList.drop p) 42).toArray⟩ : ByteArray) = ⟨#[]⟩ ↔ ∀ x ∈ P.data.toList.drop p, x = 42) := trim_none _
      generalize (⟨(Lib.trimB (P.data.toList.drop p) 42).toArray⟩ : ByteArray) = tr at HTR HTN
      go_wp2_with fail
      refine (HTR.out _).mono ?_
      intro e w2 hw2
      obtain ⟨he2, hw2⟩ := hw2
      subst he2
      have HB2 : Hid (Below w.heap.size w w2) := HB.out.trans (hw2.mono HB.out.size)
      clear hw2
      go_wp2_with fail
      go_ret
      refine ⟨⟨_, rfl, ?_⟩, HB2.out⟩
      rw [HE.out, ← HTN.out]
      exact empty_iff tr
theorem match_is (mb : Bool) (hmb : mb = true ↔ Mat P.data.toList s.data.toList) (hP : P.size ≤ 4611686018427387904) (hs : s.size ≤ 4611686018427387904) (w : World) :
    Calls Tryd.prog 19 #[.string P, .string s] w fun e w' => e = .returned (.bool mb) ∧ Below w.heap.size w w' :=
  (match_any P s hP hs w).mono fun e w' ⟨⟨b, h1, h2⟩, h3⟩ => ⟨by rw [h1, Bool.eq_iff_iff.2 (h2.trans hmb.symm)], h3⟩
end
end Go.Proofs.YtgpghdhkbliodaaDoor

namespace Go.Proofs.YtgpghdhkbliodaaDoor
open Go Go.RowKit
set_option linter.unusedVariables false

theorem kown_mono {w : World} {B B' e size n : Nat} {v : Value} {xs : List Value} (h : w.ownsRow B e size v n xs) (hB : B' ≤ B) : w.ownsRow B' e size v n xs :=
  ⟨h.1, h.2.imp id fun ⟨g, cap, cur, a, b, r⟩ => ⟨g, cap, cur, a, Nat.le_trans hB b, r⟩⟩
theorem kown_form {w : World} {B e size n : Nat} {v : Value} {xs : List Value} (h : w.ownsRow B e size v n xs) (hn : 0 < n) : ∃ g cap, v = .slice (some ⟨g, 0, none⟩) n cap ∧ B ≤ g ∧ g < w.heap.size := by
  rcases h.2 with ⟨_, h0⟩ | ⟨g, cap, cur, rfl, hb, hg, _⟩
  · omega
  · exact ⟨g, cap, rfl, hb, (Array.getElem?_eq_some_iff.1 hg).1⟩
end Go.Proofs.YtgpghdhkbliodaaDoor

namespace Go.Proofs.YtgpghdhkbliodaaDoor
set_option maxRecDepth 20000
open Go Go.RowKit Go.Nam
set_option linter.unusedVariables false
set_option linter.unusedSimpArgs false

def boV (l : List Bool) : List Value := l.map Value.bool
theorem boV_at {l : List Bool} {i : Nat} {b : Bool} (h : l[i]? = some b) : (boV l)[i]? = some (.bool b) := by simp [boV, h]
theorem infoBool : (Tryd.prog.info? 4).map (fun i => (i.zero, i.size, i.bytes)) = some (some (.bool false), 1, 1) := by kernel_rfl
theorem kownBelow {w w' : World} {B e size n : Nat} {v : Value} {xs : List Value} (h : w.ownsRow B e size v n xs) (hb : Below w.heap.size w w') : w'.ownsRow B e size v n xs := by
  refine ⟨h.1, ?_⟩
  rcases h.2 with hn | ⟨g, cap, cur, rfl, hg, hgg, rest⟩
  · exact .inl hn
  · exact .inr ⟨g, cap, cur, rfl, hg, (hb.block g (Array.getElem?_eq_some_iff.1 hgg).1).trans hgg, rest⟩
theorem cell_at {w : World} {B g n cap : Nat} {xs : List Bool} {t : TypeId} (h : w.ownsRow B t 1 (.slice (some ⟨g, 0, none⟩) n cap) n (boV xs)) {i : Nat} {b : Bool} (hi : i < n) (hb : xs[i]? = some b) : w.cell? ⟨g, i, none⟩ = some (.bool b) := by
  rw [h.cellAt i (by omega), boV_at hb]
/-- one row: what it says of the beginnings of the text, as far as it goes -/
def RowP (P s : List UInt8) (k n : Nat) (r : List Bool) : Prop := r.length = n + 1 ∧ ∀ i b, r[i]? = some b → (b = true ↔ Mat (P.take k) (s.take i))
theorem RowP.zero (P s : List UInt8) (n : Nat) (hn : n ≤ s.length) : RowP P s 0 n (true :: List.replicate n false) := by
  refine ⟨by simp, fun i b h => ?_⟩
  rw [List.take_zero, Mat.nil_iff]
  cases i with
  | zero => simp at h; subst h; simp
  | succ i =>
    rw [List.getElem?_cons_succ, List.getElem?_replicate] at h
    split at h
    · rename_i hi
      cases h
      constructor
      · intro h; cases h
      · intro h; have := congrArg List.length h; rw [List.length_take, List.length_nil] at this; omega
    · cases h
theorem take_snoc {P : List UInt8} {k : Nat} {p : UInt8} (h : P[k]? = some p) : P.take (k + 1) = P.take k ++ [p] := by
  rw [List.take_add_one, h]; rfl
theorem RowP.first_star {P s : List UInt8} {k n : Nat} {r : List Bool} {x : Bool} (H : RowP P s k n r) (hp : P[k]? = some 42) (hx : r[0]? = some x) : RowP P s (k + 1) 0 [x] := by
  refine ⟨rfl, fun i b h => ?_⟩
  cases i with
  | zero => simp at h; subst h; rw [H.2 0 x hx, take_snoc hp, List.take_zero]; exact Mat.snoc_star_nil.symm
  | succ i => simp at h
theorem RowP.first_one {P s : List UInt8} {k : Nat} {p : UInt8} (hp : P[k]? = some p) (hn : p ≠ 42) : RowP P s (k + 1) 0 [false] := by
  refine ⟨rfl, fun i b h => ?_⟩
  cases i with
  | zero => simp at h; subst h; rw [take_snoc hp, List.take_zero]; simp [Mat.snoc_one_nil hn]
  | succ i => simp at h
theorem RowP.snoc {P s : List UInt8} {k n : Nat} {r : List Bool} {x : Bool} (H : RowP P s k n r) (hx : x = true ↔ Mat (P.take k) (s.take (n + 1))) : RowP P s k (n + 1) (r ++ [x]) := by
  refine ⟨by simp [H.1], fun i b h => ?_⟩
  by_cases hi : i < n + 1
  · rw [List.getElem?_append_left (by rw [H.1]; exact hi)] at h; exact H.2 i b h
  · have hi2 : i = n + 1 := by
      have := (List.getElem?_eq_some_iff.1 h).1
      rw [List.length_append, H.1] at this; simp at this; omega
    subst hi2
    rw [List.getElem?_append_right (by rw [H.1]; exact Nat.le_refl _), H.1, Nat.sub_self] at h
    simp at h; subst h; exact hx
theorem RowP.step_star {P s : List UInt8} {k n i : Nat} {r nx : List Bool} {x y : Bool} (H : RowP P s k n r) (G : RowP P s (k + 1) i nx) (hp : P[k]? = some 42) (hi : i < s.length) (hx : r[i + 1]? = some x) (hy : nx[i]? = some y) :
    RowP P s (k + 1) (i + 1) (nx ++ [x || y]) := by
  refine G.snoc ?_
  have h1 := G.2 i y hy
  rw [take_snoc hp] at h1 ⊢
  rw [Mat.snoc_star hi, ← H.2 (i + 1) x hx, ← h1]
  simp
theorem RowP.step_one {P s : List UInt8} {k n i : Nat} {r nx : List Bool} {x y : Bool} {p : UInt8} (H : RowP P s k n r) (G : RowP P s (k + 1) i nx) (hp : P[k]? = some p) (hn : p ≠ 42) {c : UInt8} (hi : s[i]? = some c) (hx : r[i]? = some x)
    (hy : y = true ↔ (p = 63 ∨ p = c)) : RowP P s (k + 1) (i + 1) (nx ++ [x && y]) := by
  refine G.snoc ?_
  obtain ⟨h1, h2⟩ := List.getElem?_eq_some_iff.1 hi
  rw [take_snoc hp, Mat.snoc_one hn h1, ← H.2 i x hx, h2, ← hy]
  simp
theorem RowP.there {P s : List UInt8} {k n : Nat} {r : List Bool} (H : RowP P s k n r) {i : Nat} (hi : i ≤ n) : ∃ b, r[i]? = some b :=
  ⟨_, List.getElem?_eq_getElem (by rw [H.1]; omega)⟩

section
variable (P s : ByteArray)
set_option maxHeartbeats 4000000 in
theorem rmatch_any (mb : Bool) (hmb : mb = true ↔ Mat P.data.toList s.data.toList) (hP : P.size ≤ 4611686018427387904) (hs : s.size < 140737488355328) (w : World) :
    Calls Tryd.prog 20 #[.string P, .string s] w fun e w' => e = .returned (.bool mb) ∧ Below w.heap.size w w' := by
  obtain ⟨i0, hi, hz0, hz1, hz2⟩ := info_parts infoBool
  have HMB : Hid (mb = true ↔ Mat P.data.toList s.data.toList) := hmb
  clear hmb
  have HPL : Hid (P.size = P.data.toList.length) := Lib.size_eq P
  have HSL : Hid (s.size = s.data.toList.length) := Lib.size_eq s
  have hb0 : Below w.heap.size w (w.alloc (.cells #[.bool true] 4)) := below_new1 _ _
  have HO0 : Hid ((w.alloc (.cells #[.bool true] 4)).ownsRow w.heap.size 4 1 (.slice (some ⟨w.heap.size, 0, none⟩) 1 1) 1 (boV (true :: List.replicate 0 false))) := World.ownsRow_lit w #[.bool true] 1 (Nat.le_refl _) (by decide) rfl
  go_enter Tryd.func20, Tryd.ntmps20
  go_wp2_with fail
  generalize w.alloc (.cells #[.bool true] 4) = w1 at *
  go_loopw [5, 6] (fun v5 v6 wr => Hid (∃ (i cap g : Nat), i ≤ s.size ∧ v5 = .slice (some ⟨g, 0, none⟩) (i + 1) cap ∧ v6 = .int .i64 (i : Int) ∧ wr.ownsRow w.heap.size 4 1 v5 (i + 1) (boV (true :: List.replicate i false)) ∧ Below w.heap.size w wr)) (fun _ v6 _ => s.size - (intOf v6).toNat)
  case atStart => exact ⟨0, 1, w.heap.size, by omega, rfl, rfl, HO0.out, hb0⟩
  case round =>
    obtain ⟨i, cap, g, hin, rfl, rfl, hown, hb⟩ := Hid.out hrel
    clear hrel HO0 hb0
    by_cases hlt : i < s.size
    · have j1 : (i : Int) < (s.size : Int) := by omega
      have hsz := hb.size
      have HOWN : Hid ((wr.alloc (.cells #[.bool false] 4)).ownsRow w.heap.size 4 1 (.slice (some ⟨g, 0, none⟩) (i + 1) cap) (i + 1) (boV (true :: List.replicate i false))) := hown.alloc _
      have HV2 := (hown.alloc (.cells #[.bool false] 4)).lt
      have hml : i + 1 + 1 ≤ maxLen := Nat.le_trans (by omega : i + 1 + 1 ≤ 140737488355328) (by decide)
      have hbA : Below w.heap.size w (wr.alloc (.cells #[.bool false] 4)) := hb.alloc hsz _
      clear hown hb
      go_wp2_with (first
        | (at_builtin; refine wpList_append_own _ rfl _ _ 74 rfl w.heap.size 4 i0 (.bool false) 1 1 Tryd.underlying74 hi hz0 hz1 hz2 rfl (by decide) _ _ _ rfl HOWN.out ⟨wr.heap.size, 0, none⟩ 1 1 [.bool false] rfl rfl (cell_one_new _ _ _) (by simp [Value.oneCell']) hml (by omega) (by simp; omega) ?_)
        | go_in)
      intro v' w2 hown' hgrow _
      have hb2 : Below w.heap.size w w2 := hbA.grown hgrow (by simp; omega) (fun q hq => (HV2 q hq).1)
      have hst : boV (true :: List.replicate i false) ++ [Value.bool false] = boV (true :: List.replicate (i + 1) false) := by
        rw [List.replicate_succ']; simp [boV]
      rw [hst] at hown'
      obtain ⟨g3, cap3, rfl, hg3, hg3'⟩ := kown_form hown' (Nat.succ_pos _)
      have HE : Hid (_ ∧ _) := ⟨hown', hb2⟩
      clear HOWN HV2 hgrow hbA hown' hb2 hst
      go_wp2_with fail
      go_roundw
      case rel => exact ⟨i + 1, cap3, g3, by omega, rfl, by first | rfl | go_num | simp, HE.out.1, HE.out.2⟩
      case measure => simp [intOf]; omega
    · obtain rfl : i = s.size := by omega
      have j1 : ¬ ((s.size : Int) < (s.size : Int)) := by omega
      have HE : Hid (_ ∧ _) := ⟨hown, hb⟩
      clear hown hb
      go_wp2_with fail
      go_loopw [5, 7] (fun v5 v7 wr => Hid (∃ (k cap g : Nat) (r : List Bool), k ≤ P.size ∧ v5 = .slice (some ⟨g, 0, none⟩) (s.size + 1) cap ∧ v7 = .int .i64 (k : Int) ∧ wr.ownsRow w.heap.size 4 1 v5 (s.size + 1) (boV r) ∧ RowP P.data.toList s.data.toList k s.size r ∧ Below w.heap.size w wr)) (fun _ v7 _ => P.size - (intOf v7).toNat)
      case atStart => exact ⟨0, cap, g, _, by omega, rfl, rfl, HE.out.1, RowP.zero _ _ _ (by rw [← HSL.out]; exact Nat.le_refl _), HE.out.2⟩
      case round =>
        obtain ⟨k, cap1, g1, r, hkP, rfl, rfl, hown, hrow, hb⟩ := Hid.out hrel
        rename World => W2
        clear hrel HE
        by_cases hk : k < P.size
        · have j2 : (k : Int) < (P.size : Int) := by omega
          obtain ⟨a, ha⟩ : ∃ a : UInt8, P[k]'hk = a := ⟨_, rfl⟩
          have HA : Hid (P.data.toList[k]? = some a) := by show P.data.toList[k]? = some a; rw [← ha]; exact Lib.data_getElem? P k hk
          obtain ⟨x0, hx0⟩ := hrow.there (Nat.zero_le _)
          have hc0 : W2.cell? ⟨g1, 0, none⟩ = some (.bool x0) := cell_at hown (by omega) hx0
          have HR : Hid (RowP P.data.toList s.data.toList k s.size r) := hrow
          have HBW : Hid (Below w.heap.size w W2) := hb
          have hbz := hb.size
          have HWR : Hid (∀ V : World, Below W2.heap.size W2 V → V.ownsRow w.heap.size 4 1 (.slice (some ⟨g1, 0, none⟩) (s.size + 1) cap1) (s.size + 1) (boV r)) := fun V hV => kownBelow hown hV
          clear hrow hb hown
          obtain ⟨y, HY, HG⟩ : ∃ y : Bool, Hid (y = if a = 42 then x0 else false) ∧ Hid (RowP P.data.toList s.data.toList (k + 1) 0 [y]) := by
            by_cases h42 : a = 42
            · exact ⟨x0, by show _ = _; rw [if_pos h42], HR.out.first_star (h42 ▸ HA.out) hx0⟩
            · exact ⟨false, by show _ = _; rw [if_neg h42], RowP.first_one HA.out h42⟩
          have HO1 : Hid ((W2.alloc (.cells #[.bool y] 4)).ownsRow W2.heap.size 4 1 (.slice (some ⟨W2.heap.size, 0, none⟩) 1 1) 1 (boV [y])) := World.ownsRow_lit W2 #[.bool y] 1 (Nat.le_refl _) (by decide) rfl
          have HB1 : Hid (Below W2.heap.size W2 (W2.alloc (.cells #[.bool y] 4))) := below_new1 _ _
          by_cases h42 : a = 42
          · obtain rfl : y = x0 := by rw [HY.out, if_pos h42]
            have hb1 : ((a.toNat : Int) == 42) = true := by rw [h42]; rfl
            have H42 : Hid (a = 42) := h42
            clear h42 HY
            go_wp2_with fail
            generalize W2.alloc (.cells #[.bool y] 4) = w1 at *
            go_loopw [8, 9] (fun v8 v9 wx => Hid (∃ (i cap g : Nat) (nx : List Bool), i ≤ s.size ∧ v8 = .slice (some ⟨g, 0, none⟩) (i + 1) cap ∧ v9 = .int .i64 (i : Int) ∧ wx.ownsRow W2.heap.size 4 1 v8 (i + 1) (boV nx) ∧ RowP P.data.toList s.data.toList (k + 1) i nx ∧ Below W2.heap.size W2 wx)) (fun _ v9 _ => s.size - (intOf v9).toNat)
            case atStart => exact ⟨0, 1, W2.heap.size, _, by omega, rfl, rfl, HO1.out, HG.out, HB1.out⟩
            case round =>
              obtain ⟨i, cap2, g2, nx, hin, rfl, rfl, hown, hnx, hb⟩ := Hid.out hrel
              clear hrel HO1 HB1 HG hc0 hx0
              by_cases hlt : i < s.size
              · have j3 : (i : Int) < (s.size : Int) := by omega
                obtain ⟨x, hx⟩ := HR.out.there (show i + 1 ≤ s.size by omega)
                obtain ⟨y2, hy⟩ := hnx.there (Nat.le_refl i)
                have hc1 : wr.cell? ⟨g1, i + 1, none⟩ = some (.bool x) := cell_at (HWR.out wr hb) (by omega) hx
                have hc2 : wr.cell? ⟨g2, i, none⟩ = some (.bool y2) := cell_at hown (by omega) hy
                have hsz := hb.size
                have HOWN : Hid ((wr.alloc (.cells #[.bool (x || y2)] 4)).ownsRow W2.heap.size 4 1 (.slice (some ⟨g2, 0, none⟩) (i + 1) cap2) (i + 1) (boV nx)) := hown.alloc _
                have HV2 := (hown.alloc (.cells #[.bool (x || y2)] 4)).lt
                have hml : i + 1 + 1 ≤ maxLen := Nat.le_trans (by omega : i + 1 + 1 ≤ 140737488355328) (by decide)
                have hbA : Below W2.heap.size W2 (wr.alloc (.cells #[.bool (x || y2)] 4)) := hb.alloc hsz _
                have HN : Hid (RowP P.data.toList s.data.toList (k + 1) (i + 1) (nx ++ [x || y2])) := HR.out.step_star hnx (H42.out ▸ HA.out) (by rw [← HSL.out]; exact hlt) hx hy
                clear hown hb hnx hx hy
                cases x
                · simp only [Bool.false_or] at HOWN HV2 hbA HN
                  go_wp2_with (first
                    | (at_builtin; refine wpList_append_own _ rfl _ _ 74 rfl W2.heap.size 4 i0 (.bool false) 1 1 Tryd.underlying74 hi hz0 hz1 hz2 rfl (by decide) _ _ _ rfl HOWN.out ⟨wr.heap.size, 0, none⟩ 1 1 [.bool y2] rfl rfl (cell_one_new _ _ _) (by simp [Value.oneCell']) hml (by omega) (by simp; omega) ?_)
                    | go_in)
                  intro v' w2 hown' hgrow _
                  have hb2 : Below W2.heap.size W2 w2 := hbA.grown hgrow (by simp; omega) (fun q hq => (HV2 q hq).1)
                  rw [show boV nx ++ [Value.bool y2] = boV (nx ++ [y2]) from by simp [boV]] at hown'
                  obtain ⟨g3, cap3, rfl, hg3, hg3'⟩ := kown_form hown' (Nat.succ_pos _)
                  have HE : Hid (_ ∧ _) := ⟨hown', hb2⟩
                  clear HOWN HV2 hgrow hbA hown' hb2
                  go_wp2_with fail
                  go_roundw
                  case rel => exact ⟨i + 1, cap3, g3, _, by omega, rfl, by first | rfl | go_num | simp, HE.out.1, HN.out, HE.out.2⟩
                  case measure => simp [intOf]; omega
                · simp only [Bool.true_or] at HOWN HV2 hbA HN
                  go_wp2_with (first
                    | (at_builtin; refine wpList_append_own _ rfl _ _ 74 rfl W2.heap.size 4 i0 (.bool false) 1 1 Tryd.underlying74 hi hz0 hz1 hz2 rfl (by decide) _ _ _ rfl HOWN.out ⟨wr.heap.size, 0, none⟩ 1 1 [.bool true] rfl rfl (cell_one_new _ _ _) (by simp [Value.oneCell']) hml (by omega) (by simp; omega) ?_)
                    | go_in)
                  intro v' w2 hown' hgrow _
                  have hb2 : Below W2.heap.size W2 w2 := hbA.grown hgrow (by simp; omega) (fun q hq => (HV2 q hq).1)
                  rw [show boV nx ++ [Value.bool true] = boV (nx ++ [true]) from by simp [boV]] at hown'
                  obtain ⟨g3, cap3, rfl, hg3, hg3'⟩ := kown_form hown' (Nat.succ_pos _)
                  have HE : Hid (_ ∧ _) := ⟨hown', hb2⟩
                  clear HOWN HV2 hgrow hbA hown' hb2
                  go_wp2_with fail
                  go_roundw
                  case rel => exact ⟨i + 1, cap3, g3, _, by omega, rfl, by first | rfl | go_num | simp, HE.out.1, HN.out, HE.out.2⟩
                  case measure => simp [intOf]; omega
              · obtain rfl : i = s.size := by omega
                have j3 : ¬ ((s.size : Int) < (s.size : Int)) := by omega
                have HE : Hid (_ ∧ _ ∧ _) := ⟨hown, hnx, hb⟩
                clear hown hb hnx
                go_wp2_with fail
                go_roundw
                case rel => exact ⟨k + 1, cap2, g2, nx, by omega, rfl, by first | rfl | go_num | simp, kown_mono HE.out.1 hbz, HE.out.2.1, HBW.out.trans (HE.out.2.2.mono hbz)⟩
                case measure => simp [intOf]; omega
          · obtain rfl : y = false := by rw [HY.out, if_neg h42]
            have hb1 : ((a.toNat : Int) == 42) = false := beq_ne h42
            have H42 : Hid (a ≠ 42) := h42
            clear h42 HY
            go_wp2_with fail
            generalize W2.alloc (.cells #[.bool false] 4) = w1 at *
            go_loopw [8, 9] (fun v8 v9 wx => Hid (∃ (i cap g : Nat) (nx : List Bool), i ≤ s.size ∧ v8 = .slice (some ⟨g, 0, none⟩) (i + 1) cap ∧ v9 = .int .i64 (i : Int) ∧ wx.ownsRow W2.heap.size 4 1 v8 (i + 1) (boV nx) ∧ RowP P.data.toList s.data.toList (k + 1) i nx ∧ Below W2.heap.size W2 wx)) (fun _ v9 _ => s.size - (intOf v9).toNat)
            case atStart => exact ⟨0, 1, W2.heap.size, _, by omega, rfl, rfl, HO1.out, HG.out, HB1.out⟩
            case round =>
              obtain ⟨i, cap2, g2, nx, hin, rfl, rfl, hown, hnx, hb⟩ := Hid.out hrel
              clear hrel HO1 HB1 HG hc0 hx0
              by_cases hlt : i < s.size
              · have j3 : (i : Int) < (s.size : Int) := by omega
                obtain ⟨c, hc⟩ : ∃ c : UInt8, s[i]'hlt = c := ⟨_, rfl⟩
                have HC : Hid (s.data.toList[i]? = some c) := by show s.data.toList[i]? = some c; rw [← hc]; exact Lib.data_getElem? s i hlt
                obtain ⟨x, hx⟩ := HR.out.there (show i ≤ s.size by omega)
                have hc1 : wr.cell? ⟨g1, i, none⟩ = some (.bool x) := cell_at (HWR.out wr hb) (by omega) hx
                have hsz := hb.size
                obtain ⟨z, HZ⟩ : ∃ z : Bool, Hid (z = (x && (a == 63 || a == c))) := ⟨_, rfl⟩
                have HOWN : Hid ((wr.alloc (.cells #[.bool z] 4)).drew.ownsRow W2.heap.size 4 1 (.slice (some ⟨g2, 0, none⟩) (i + 1) cap2) (i + 1) (boV nx)) := (hown.alloc _).drew
                have HV2 := (hown.alloc (.cells #[.bool z] 4)).drew.lt
                have hml : i + 1 + 1 ≤ maxLen := Nat.le_trans (by omega : i + 1 + 1 ≤ 140737488355328) (by decide)
                have hbA : Below W2.heap.size W2 (wr.alloc (.cells #[.bool z] 4)).drew := (hb.alloc hsz _).drew
                have HN : Hid (RowP P.data.toList s.data.toList (k + 1) (i + 1) (nx ++ [z])) := HZ.out ▸ HR.out.step_one hnx HA.out H42.out HC.out hx (by simp)
                clear hown hb hnx hx
                have hu1 : (undef = Value.bool false) = False := eq_false (by intro h; cases h)
                have hu2 : (undef = Value.bool true) = False := eq_false (by intro h; cases h)
                cases x
                · obtain rfl : z = false := HZ.out
                  clear HZ
                  go_wp2_with fail
                  refine wp_region_partsS (fun _ => True) [([0, 1, 2, 3], 4, false), ([5, 6, 7], 8, false), ([], 9, false), ([10, 11, 12, 14, 15], 13, true), ([], 16, false), ([], 17, false), ([18, 19], 20, false), ([], 21, false)] [22] [] (by kernel_rfl) (by kernel_rfl) trivial (partsI_force ?_)
                  simp only [List.cons_append, List.nil_append, List.append_nil, List.filterMap_cons, List.filterMap_nil, List.getElem?_toArray, List.getElem?_cons_zero, List.getElem?_cons_succ]
                  go_wp2_with fail
                  refine ⟨rfl, trivial, partsI_force ?_⟩
                  simp only [List.cons_append, List.nil_append, List.append_nil, List.filterMap_cons, List.filterMap_nil, List.getElem?_toArray, List.getElem?_cons_zero, List.getElem?_cons_succ]
                  go_wp2_with fail
                  refine ⟨rfl, trivial, partsI_force ?_⟩
                  simp only [List.cons_append, List.nil_append, List.append_nil, List.filterMap_cons, List.filterMap_nil, List.getElem?_toArray, List.getElem?_cons_zero, List.getElem?_cons_succ]
                  go_wp2_with fail
                  refine ⟨rfl, trivial, partsI_yield ?_⟩
                  simp only [List.cons_append, List.nil_append, List.append_nil, List.filterMap_cons, List.filterMap_nil, List.getElem?_toArray, List.getElem?_cons_zero, List.getElem?_cons_succ]
                  go_wp2_with fail
                  refine ⟨rfl, _, undef, rfl, Or.inr ⟨by rfl, rfl⟩, partsI_force ?_⟩
                  simp only [Act.put, List.setIfInBounds_toArray, List.set_cons_zero, List.set_cons_succ]
                  simp only [List.cons_append, List.nil_append, List.append_nil, List.filterMap_cons, List.filterMap_nil, List.getElem?_toArray, List.getElem?_cons_zero, List.getElem?_cons_succ]
                  go_wp2_with fail
                  refine ⟨rfl, trivial, partsI_force ?_⟩
                  simp only [List.cons_append, List.nil_append, List.append_nil, List.filterMap_cons, List.filterMap_nil, List.getElem?_toArray, List.getElem?_cons_zero, List.getElem?_cons_succ]
                  go_wp2_with fail
                  refine ⟨rfl, trivial, partsI_force ?_⟩
                  simp only [List.cons_append, List.nil_append, List.append_nil, List.filterMap_cons, List.filterMap_nil, List.getElem?_toArray, List.getElem?_cons_zero, List.getElem?_cons_succ]
                  go_wp2_with fail
                  refine ⟨rfl, trivial, partsI_force ?_⟩
                  simp only [List.cons_append, List.nil_append, List.append_nil, List.filterMap_cons, List.filterMap_nil, List.getElem?_toArray, List.getElem?_cons_zero, List.getElem?_cons_succ]
                  refine wpList_append_own _ rfl _ _ 74 rfl W2.heap.size 4 i0 (.bool false) 1 1 Tryd.underlying74 hi hz0 hz1 hz2 rfl (by decide) _ _ _ rfl HOWN.out ⟨wr.heap.size, 0, none⟩ 1 1 [.bool false] rfl rfl (fun j u h => cell_one_new wr _ _ j u h) (by simp [Value.oneCell']) hml (by omega) (by simp; omega) ?_
                  intro v' w2 hown' hgrow _
                  have hb2 : Below W2.heap.size W2 w2 := hbA.grown hgrow (by simp; omega) (fun q hq => (HV2 q hq).1)
                  rw [show boV nx ++ [Value.bool false] = boV (nx ++ [false]) from by simp [boV]] at hown'
                  obtain ⟨g3, cap3, rfl, hg3, hg3'⟩ := kown_form hown' (Nat.succ_pos _)
                  have HE : Hid (_ ∧ _) := ⟨hown', hb2⟩
                  clear HOWN HV2 hgrow hbA hown' hb2
                  simp only [Act.put, List.setIfInBounds_toArray, List.set_cons_zero, List.set_cons_succ]
                  refine ⟨rfl, trivial, partsI_last ?_⟩
                  simp only [List.cons_append, List.nil_append, List.append_nil, List.filterMap_cons, List.filterMap_nil, List.getElem?_toArray, List.getElem?_cons_zero, List.getElem?_cons_succ]
                  go_wp2_with fail
                  refine ⟨rfl, ?_⟩
                  go_wp2_with fail
                  go_roundw
                  case rel => exact ⟨i + 1, cap3, g3, _, by omega, rfl, by first | rfl | go_num | simp, HE.out.1, HN.out, HE.out.2⟩
                  case measure => simp [intOf]; omega
                · by_cases h63 : a = 63
                  · obtain rfl : z = true := by rw [HZ.out, h63]; rfl
                    have hb3 : ((a.toNat : Int) == 63) = true := by rw [h63]; rfl
                    clear HZ h63
                    go_wp2_with fail
                    refine wp_region_partsS (fun _ => True) [([0, 1, 2, 3], 4, false), ([5, 6, 7], 8, false), ([], 9, false), ([10, 11, 12, 14, 15], 13, true), ([], 16, false), ([], 17, false), ([18, 19], 20, false), ([], 21, false)] [22] [] (by kernel_rfl) (by kernel_rfl) trivial (partsI_force ?_)
                    simp only [List.cons_append, List.nil_append, List.append_nil, List.filterMap_cons, List.filterMap_nil, List.getElem?_toArray, List.getElem?_cons_zero, List.getElem?_cons_succ]
                    go_wp2_with fail
                    refine ⟨rfl, trivial, partsI_force ?_⟩
                    simp only [List.cons_append, List.nil_append, List.append_nil, List.filterMap_cons, List.filterMap_nil, List.getElem?_toArray, List.getElem?_cons_zero, List.getElem?_cons_succ]
                    go_wp2_with fail
                    refine ⟨rfl, trivial, partsI_force ?_⟩
                    simp only [List.cons_append, List.nil_append, List.append_nil, List.filterMap_cons, List.filterMap_nil, List.getElem?_toArray, List.getElem?_cons_zero, List.getElem?_cons_succ]
                    go_wp2_with fail
                    refine ⟨rfl, trivial, partsI_yield ?_⟩
                    simp only [List.cons_append, List.nil_append, List.append_nil, List.filterMap_cons, List.filterMap_nil, List.getElem?_toArray, List.getElem?_cons_zero, List.getElem?_cons_succ]
                    go_wp2_with fail
                    refine ⟨rfl, _, undef, rfl, Or.inr ⟨by rfl, rfl⟩, partsI_force ?_⟩
                    simp only [Act.put, List.setIfInBounds_toArray, List.set_cons_zero, List.set_cons_succ]
                    simp only [List.cons_append, List.nil_append, List.append_nil, List.filterMap_cons, List.filterMap_nil, List.getElem?_toArray, List.getElem?_cons_zero, List.getElem?_cons_succ]
                    go_wp2_with fail
                    refine ⟨rfl, trivial, partsI_force ?_⟩
                    simp only [List.cons_append, List.nil_append, List.append_nil, List.filterMap_cons, List.filterMap_nil, List.getElem?_toArray, List.getElem?_cons_zero, List.getElem?_cons_succ]
                    go_wp2_with fail
                    refine ⟨rfl, trivial, partsI_force ?_⟩
                    simp only [List.cons_append, List.nil_append, List.append_nil, List.filterMap_cons, List.filterMap_nil, List.getElem?_toArray, List.getElem?_cons_zero, List.getElem?_cons_succ]
                    go_wp2_with fail
                    refine ⟨rfl, trivial, partsI_force ?_⟩
                    simp only [List.cons_append, List.nil_append, List.append_nil, List.filterMap_cons, List.filterMap_nil, List.getElem?_toArray, List.getElem?_cons_zero, List.getElem?_cons_succ]
                    refine wpList_append_own _ rfl _ _ 74 rfl W2.heap.size 4 i0 (.bool false) 1 1 Tryd.underlying74 hi hz0 hz1 hz2 rfl (by decide) _ _ _ rfl HOWN.out ⟨wr.heap.size, 0, none⟩ 1 1 [.bool true] rfl rfl (fun j u h => cell_one_new wr _ _ j u h) (by simp [Value.oneCell']) hml (by omega) (by simp; omega) ?_
                    intro v' w2 hown' hgrow _
                    have hb2 : Below W2.heap.size W2 w2 := hbA.grown hgrow (by simp; omega) (fun q hq => (HV2 q hq).1)
                    rw [show boV nx ++ [Value.bool true] = boV (nx ++ [true]) from by simp [boV]] at hown'
                    obtain ⟨g3, cap3, rfl, hg3, hg3'⟩ := kown_form hown' (Nat.succ_pos _)
                    have HE : Hid (_ ∧ _) := ⟨hown', hb2⟩
                    clear HOWN HV2 hgrow hbA hown' hb2
                    simp only [Act.put, List.setIfInBounds_toArray, List.set_cons_zero, List.set_cons_succ]
                    refine ⟨rfl, trivial, partsI_last ?_⟩
                    simp only [List.cons_append, List.nil_append, List.append_nil, List.filterMap_cons, List.filterMap_nil, List.getElem?_toArray, List.getElem?_cons_zero, List.getElem?_cons_succ]
                    go_wp2_with fail
                    refine ⟨rfl, ?_⟩
                    go_wp2_with fail
                    go_roundw
                    case rel => exact ⟨i + 1, cap3, g3, _, by omega, rfl, by first | rfl | go_num | simp, HE.out.1, HN.out, HE.out.2⟩
                    case measure => simp [intOf]; omega
                  · have hb3 : ((a.toNat : Int) == 63) = false := beq_ne h63
                    by_cases hac : a = c
                    · obtain rfl : z = true := by rw [HZ.out, hac]; simp
                      have hb4 : ((a.toNat : Int) == (c.toNat : Int)) = true := by rw [hac]; simp
                      clear HZ h63 hac
                      go_wp2_with fail
                      refine wp_region_partsS (fun _ => True) [([0, 1, 2, 3], 4, false), ([5, 6, 7], 8, false), ([], 9, false), ([10, 11, 12, 14, 15], 13, true), ([], 16, false), ([], 17, false), ([18, 19], 20, false), ([], 21, false)] [22] [] (by kernel_rfl) (by kernel_rfl) trivial (partsI_force ?_)
                      simp only [List.cons_append, List.nil_append, List.append_nil, List.filterMap_cons, List.filterMap_nil, List.getElem?_toArray, List.getElem?_cons_zero, List.getElem?_cons_succ]
                      go_wp2_with fail
                      refine ⟨rfl, trivial, partsI_force ?_⟩
                      simp only [List.cons_append, List.nil_append, List.append_nil, List.filterMap_cons, List.filterMap_nil, List.getElem?_toArray, List.getElem?_cons_zero, List.getElem?_cons_succ]
                      go_wp2_with fail
                      refine ⟨rfl, trivial, partsI_force ?_⟩
                      simp only [List.cons_append, List.nil_append, List.append_nil, List.filterMap_cons, List.filterMap_nil, List.getElem?_toArray, List.getElem?_cons_zero, List.getElem?_cons_succ]
                      go_wp2_with fail
                      refine ⟨rfl, trivial, partsI_yield ?_⟩
                      simp only [List.cons_append, List.nil_append, List.append_nil, List.filterMap_cons, List.filterMap_nil, List.getElem?_toArray, List.getElem?_cons_zero, List.getElem?_cons_succ]
                      go_wp2_with fail
                      refine ⟨rfl, _, .int .u8 (a.toNat : Int), rfl, Or.inl ⟨by rfl, fun W hW => by go_simp⟩, partsI_force ?_⟩
                      simp only [Act.put, List.setIfInBounds_toArray, List.set_cons_zero, List.set_cons_succ]
                      simp only [List.cons_append, List.nil_append, List.append_nil, List.filterMap_cons, List.filterMap_nil, List.getElem?_toArray, List.getElem?_cons_zero, List.getElem?_cons_succ]
                      go_wp2_with fail
                      refine ⟨rfl, trivial, partsI_force ?_⟩
                      simp only [List.cons_append, List.nil_append, List.append_nil, List.filterMap_cons, List.filterMap_nil, List.getElem?_toArray, List.getElem?_cons_zero, List.getElem?_cons_succ]
                      go_wp2_with fail
                      refine ⟨rfl, trivial, partsI_force ?_⟩
                      simp only [List.cons_append, List.nil_append, List.append_nil, List.filterMap_cons, List.filterMap_nil, List.getElem?_toArray, List.getElem?_cons_zero, List.getElem?_cons_succ]
                      go_wp2_with fail
                      refine ⟨rfl, trivial, partsI_force ?_⟩
                      simp only [List.cons_append, List.nil_append, List.append_nil, List.filterMap_cons, List.filterMap_nil, List.getElem?_toArray, List.getElem?_cons_zero, List.getElem?_cons_succ]
                      refine wpList_append_own _ rfl _ _ 74 rfl W2.heap.size 4 i0 (.bool false) 1 1 Tryd.underlying74 hi hz0 hz1 hz2 rfl (by decide) _ _ _ rfl HOWN.out ⟨wr.heap.size, 0, none⟩ 1 1 [.bool true] rfl rfl (fun j u h => cell_one_new wr _ _ j u h) (by simp [Value.oneCell']) hml (by omega) (by simp; omega) ?_
                      intro v' w2 hown' hgrow _
                      have hb2 : Below W2.heap.size W2 w2 := hbA.grown hgrow (by simp; omega) (fun q hq => (HV2 q hq).1)
                      rw [show boV nx ++ [Value.bool true] = boV (nx ++ [true]) from by simp [boV]] at hown'
                      obtain ⟨g3, cap3, rfl, hg3, hg3'⟩ := kown_form hown' (Nat.succ_pos _)
                      have HE : Hid (_ ∧ _) := ⟨hown', hb2⟩
                      clear HOWN HV2 hgrow hbA hown' hb2
                      simp only [Act.put, List.setIfInBounds_toArray, List.set_cons_zero, List.set_cons_succ]
                      refine ⟨rfl, trivial, partsI_last ?_⟩
                      simp only [List.cons_append, List.nil_append, List.append_nil, List.filterMap_cons, List.filterMap_nil, List.getElem?_toArray, List.getElem?_cons_zero, List.getElem?_cons_succ]
                      go_wp2_with fail
                      refine ⟨rfl, ?_⟩
                      go_wp2_with fail
                      go_roundw
                      case rel => exact ⟨i + 1, cap3, g3, _, by omega, rfl, by first | rfl | go_num | simp, HE.out.1, HN.out, HE.out.2⟩
                      case measure => simp [intOf]; omega
                    · obtain rfl : z = false := by rw [HZ.out]; simp [h63, hac]
                      have hb4 : ((a.toNat : Int) == (c.toNat : Int)) = false := beq_ne hac
                      clear HZ h63 hac
                      go_wp2_with fail
                      refine wp_region_partsS (fun _ => True) [([0, 1, 2, 3], 4, false), ([5, 6, 7], 8, false), ([], 9, false), ([10, 11, 12, 14, 15], 13, true), ([], 16, false), ([], 17, false), ([18, 19], 20, false), ([], 21, false)] [22] [] (by kernel_rfl) (by kernel_rfl) trivial (partsI_force ?_)
                      simp only [List.cons_append, List.nil_append, List.append_nil, List.filterMap_cons, List.filterMap_nil, List.getElem?_toArray, List.getElem?_cons_zero, List.getElem?_cons_succ]
                      go_wp2_with fail
                      refine ⟨rfl, trivial, partsI_force ?_⟩
                      simp only [List.cons_append, List.nil_append, List.append_nil, List.filterMap_cons, List.filterMap_nil, List.getElem?_toArray, List.getElem?_cons_zero, List.getElem?_cons_succ]
                      go_wp2_with fail
                      refine ⟨rfl, trivial, partsI_force ?_⟩
                      simp only [List.cons_append, List.nil_append, List.append_nil, List.filterMap_cons, List.filterMap_nil, List.getElem?_toArray, List.getElem?_cons_zero, List.getElem?_cons_succ]
                      go_wp2_with fail
                      refine ⟨rfl, trivial, partsI_yield ?_⟩
                      simp only [List.cons_append, List.nil_append, List.append_nil, List.filterMap_cons, List.filterMap_nil, List.getElem?_toArray, List.getElem?_cons_zero, List.getElem?_cons_succ]
                      go_wp2_with fail
                      refine ⟨rfl, _, .int .u8 (a.toNat : Int), rfl, Or.inl ⟨by rfl, fun W hW => by go_simp⟩, partsI_force ?_⟩
                      simp only [Act.put, List.setIfInBounds_toArray, List.set_cons_zero, List.set_cons_succ]
                      simp only [List.cons_append, List.nil_append, List.append_nil, List.filterMap_cons, List.filterMap_nil, List.getElem?_toArray, List.getElem?_cons_zero, List.getElem?_cons_succ]
                      go_wp2_with fail
                      refine ⟨rfl, trivial, partsI_force ?_⟩
                      simp only [List.cons_append, List.nil_append, List.append_nil, List.filterMap_cons, List.filterMap_nil, List.getElem?_toArray, List.getElem?_cons_zero, List.getElem?_cons_succ]
                      go_wp2_with fail
                      refine ⟨rfl, trivial, partsI_force ?_⟩
                      simp only [List.cons_append, List.nil_append, List.append_nil, List.filterMap_cons, List.filterMap_nil, List.getElem?_toArray, List.getElem?_cons_zero, List.getElem?_cons_succ]
                      go_wp2_with fail
                      refine ⟨rfl, trivial, partsI_force ?_⟩
                      simp only [List.cons_append, List.nil_append, List.append_nil, List.filterMap_cons, List.filterMap_nil, List.getElem?_toArray, List.getElem?_cons_zero, List.getElem?_cons_succ]
                      refine wpList_append_own _ rfl _ _ 74 rfl W2.heap.size 4 i0 (.bool false) 1 1 Tryd.underlying74 hi hz0 hz1 hz2 rfl (by decide) _ _ _ rfl HOWN.out ⟨wr.heap.size, 0, none⟩ 1 1 [.bool false] rfl rfl (fun j u h => cell_one_new wr _ _ j u h) (by simp [Value.oneCell']) hml (by omega) (by simp; omega) ?_
                      intro v' w2 hown' hgrow _
                      have hb2 : Below W2.heap.size W2 w2 := hbA.grown hgrow (by simp; omega) (fun q hq => (HV2 q hq).1)
                      rw [show boV nx ++ [Value.bool false] = boV (nx ++ [false]) from by simp [boV]] at hown'
                      obtain ⟨g3, cap3, rfl, hg3, hg3'⟩ := kown_form hown' (Nat.succ_pos _)
                      have HE : Hid (_ ∧ _) := ⟨hown', hb2⟩
                      clear HOWN HV2 hgrow hbA hown' hb2
                      simp only [Act.put, List.setIfInBounds_toArray, List.set_cons_zero, List.set_cons_succ]
                      refine ⟨rfl, trivial, partsI_last ?_⟩
                      simp only [List.cons_append, List.nil_append, List.append_nil, List.filterMap_cons, List.filterMap_nil, List.getElem?_toArray, List.getElem?_cons_zero, List.getElem?_cons_succ]
                      go_wp2_with fail
                      refine ⟨rfl, ?_⟩
                      go_wp2_with fail
                      go_roundw
                      case rel => exact ⟨i + 1, cap3, g3, _, by omega, rfl, by first | rfl | go_num | simp, HE.out.1, HN.out, HE.out.2⟩
                      case measure => simp [intOf]; omega
              · obtain rfl : i = s.size := by omega
                have j3 : ¬ ((s.size : Int) < (s.size : Int)) := by omega
                have HE : Hid (_ ∧ _ ∧ _) := ⟨hown, hnx, hb⟩
                clear hown hb hnx
                go_wp2_with fail
                go_roundw
                case rel => exact ⟨k + 1, cap2, g2, nx, by omega, rfl, by first | rfl | go_num | simp, kown_mono HE.out.1 hbz, HE.out.2.1, HBW.out.trans (HE.out.2.2.mono hbz)⟩
                case measure => simp [intOf]; omega
        · obtain rfl : k = P.size := by omega
          have j2 : ¬ ((P.size : Int) < (P.size : Int)) := by omega
          obtain ⟨x, hx⟩ := hrow.there (Nat.le_refl _)
          have hc0 : W2.cell? ⟨g1, s.size, none⟩ = some (.bool x) := cell_at hown (by omega) hx
          obtain rfl : x = mb := by
            have := hrow.2 _ _ hx
            rw [HPL.out, HSL.out, List.take_length, List.take_length] at this
            exact Bool.eq_iff_iff.2 (this.trans HMB.out.symm)
          have HB : Hid (Below w.heap.size w W2) := hb
          clear hown hrow hb
          go_wp2_with fail
          go_ret
          exact ⟨rfl, HB.out⟩
end
end Go.Proofs.YtgpghdhkbliodaaDoor
