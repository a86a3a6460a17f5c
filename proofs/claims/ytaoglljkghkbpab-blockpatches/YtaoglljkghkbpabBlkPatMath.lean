/- The patches of two blocks, laid, make the one of the other; two patches compared. -/
import Derived.Test.YtaoglljkghkbpabBlkPatches
import Derived.Test.YtaoglljkghkbpabBlkApply
import Derived.Handy
namespace Go.Proofs.Ytaoglljkghkbpab
open Go Go.RowKit
set_option linter.unusedSimpArgs false
set_option linter.unusedVariables false

theorem PatL.bounds {f g : Nat → Nat} {a : Nat} {l : List (Nat × Nat)} (h : PatL f g a l) : ∀ x ∈ l, a ≤ x.1 ∧ x.1 < x.2 ∧ x.2 ≤ 256 := by
  induction h with
  | done _ => exact fun x hx => nomatch hx
  | skip _ _ _ ih => exact fun x hx => by have := ih x hx; omega
  | take ha he _ ih =>
    intro x hx
    rcases List.mem_cons.1 hx with rfl | hx
    · exact ⟨Nat.le_refl _, ha, he.2.1⟩
    · have := ih x hx
      omega
theorem PatL.self {f : Nat → Nat} {a : Nat} {l : List (Nat × Nat)} (h : PatL f f a l) : l = [] := by
  induction h with
  | done _ => rfl
  | skip _ _ _ ih => exact ih
  | take ha he _ _ => exact absurd rfl (he.2.2.1 _ (Nat.le_refl _) ha)
def pP (l : List (Nat × Nat)) : Nat → Int := fun i => ((l.getD i (0, 0)).1 : Int)
def pT (g : Nat → Nat) (l : List (Nat × Nat)) : Nat → ByteArray := fun i => strN (fun j => g ((l.getD i (0, 0)).1 + j)) ((l.getD i (0, 0)).2 - (l.getD i (0, 0)).1)
theorem put_stretch (g F : Nat → Nat) (hg : ∀ i, g i < 256) (a e : Nat) (h : a ≤ e) (i : Nat) : putAt F ((a : Int)).toNat (strN (fun j => g (a + j)) (e - a)).size (tbyte (strN (fun j => g (a + j)) (e - a))) i = if a ≤ i ∧ i < e then g i else F i := by
  unfold putAt
  rw [strN_size, Int.toNat_natCast]
  by_cases h1 : a ≤ i ∧ i < e
  · rw [if_pos (by omega), if_pos h1, strN_at (fun j => g (a + j)) _ _ (by omega) (hg _), show a + (i - a) = i by omega]
  · rw [if_neg (by omega), if_neg h1]
/-- what is laid from the stretch number t on -/
theorem fold_all {f g : Nat → Nat} (hg : ∀ i, g i < 256) (l : List (Nat × Nat)) {a : Nat} {r : List (Nat × Nat)} (h : PatL f g a r) : ∀ t, t ≤ l.length → l.drop t = r → (∀ i, i < 256 → foldP f (pP l) (pT g l) t i = if i < a then g i else f i) → ∀ i, i < 256 → foldP f (pP l) (pT g l) l.length i = g i := by
  induction h with
  | @done a ha =>
    intro t hle ht hF i hi
    have htl : l.length ≤ t := by simpa using ht
    obtain rfl : t = l.length := by omega
    rw [hF i hi, if_pos (by omega)]
  | @skip a r ha he _ ih =>
    intro t hle ht hF
    refine ih t hle ht fun i hi => ?_
    rw [hF i hi]
    by_cases h1 : i < a
    · rw [if_pos h1, if_pos (by omega)]
    · rw [if_neg h1]
      by_cases h2 : i = a
      · subst h2
        rw [if_pos (by omega), he]
      · rw [if_neg (by omega)]
  | @take a e r ha he _ ih =>
    intro t hle ht hF
    have htl : t < l.length := by
      rcases Nat.lt_or_ge t l.length with q | q
      · exact q
      · rw [List.drop_eq_nil_of_le q] at ht
        cases ht
    have hget : l.getD t (0, 0) = (a, e) := by
      rw [List.getD_eq_getElem?_getD]
      have := congrArg (fun z => z[0]?) ht
      simp only [List.getElem?_drop, Nat.add_zero, List.getElem?_cons_zero] at this
      rw [this]
      rfl
    refine ih (t + 1) htl ?_ fun i hi => ?_
    · have := congrArg (List.drop 1) ht
      simpa [List.drop_drop] using this
    · show putAt (foldP f (pP l) (pT g l) t) (pP l t).toNat (pT g l t).size (tbyte (pT g l t)) i = _
      unfold pP pT
      rw [hget]
      refine (put_stretch g _ hg a e (by omega) i).trans ?_
      have hFi := hF i hi
      unfold pP pT at hFi
      by_cases h1 : a ≤ i ∧ i < e
      · rw [if_pos h1, if_pos h1.2]
      · rw [if_neg h1, hFi]
        by_cases h2 : i < a
        · rw [if_pos h2, if_pos (by omega)]
        · rw [if_neg h2, if_neg (by omega)]
theorem fold_pat {f g : Nat → Nat} (hg : ∀ i, g i < 256) {l : List (Nat × Nat)} (h : PatL f g 0 l) : bkSame (foldP f (pP l) (pT g l) l.length) g :=
  fold_all hg l h 0 (Nat.zero_le _) rfl fun i _ => by
    rw [if_neg (by omega)]
    rfl
theorem fit_pat {f g : Nat → Nat} {l : List (Nat × Nat)} (h : PatL f g 0 l) : ∀ i, i < l.length → Fit (pP l i) ((pT g l i).size : Int) := fun i hi => by
  have hm : l.getD i (0, 0) ∈ l := by
    rw [List.getD_eq_getElem?_getD, List.getElem?_eq_getElem hi]
    exact List.getElem_mem _
  have := h.bounds _ hm
  unfold pP pT
  rw [strN_size]
  unfold Fit
  omega
theorem dcnt_end {f g : Nat → Nat} {a : Nat} : ∀ e, a ≤ e → (∀ j, a ≤ j → j < e → f j ≠ g j) → dcnt f g e = dcnt f g a + (e - a)
  | 0, h, _ => by
    obtain rfl : a = 0 := by omega
    simp
  | e + 1, h, hd => by
    by_cases he : a = e + 1
    · rw [he]
      omega
    · have ih := dcnt_end e (by omega) fun j h1 h2 => hd j h1 (by omega)
      show dcnt f g e + (if f e = g e then 0 else 1) = _
      rw [if_neg (hd e (by omega) (by omega)), ih]
      omega
theorem kbeqB (a b : ByteArray) : (a == b) = decide (a = b) := by
  obtain ⟨x⟩ := a
  obtain ⟨y⟩ := b
  have e : ((⟨x⟩ : ByteArray) == ⟨y⟩) = (x == y) := rfl
  rw [e]
  by_cases h : x = y
  · subst h
    simp
  · have h2 : ¬ ((⟨x⟩ : ByteArray) = ⟨y⟩) := fun q => h (by injection q)
    rw [decide_eq_false h2]
    simpa using h
theorem eq_pat_at (d : Nat) (a : Int) (S : ByteArray) (w : World) : (Op.equalIn (d + 1 + 1) 28 (.agg #[.int .i64 a, .string S]) (.agg #[.int .i64 a, .string S])).run Try.prog w = .ok true w := by
  have h1 : ∀ x y : Int, (Op.equalIn (d + 1) 3 (.int .i64 x) (.int .i64 y)).run Try.prog w = .ok (x == y) w := fun x y => by simp [Op.equalIn, run_underlying Try.underlying3]
  have h2 : ∀ x y : ByteArray, (Op.equalIn (d + 1) 9 (.string x) (.string y)).run Try.prog w = .ok (x == y) w := fun x y => by simp [Op.equalIn, run_underlying Try.underlying9]
  have p1 : ∀ (x : Int) (y : ByteArray), (part 3 #[.int .i64 x, .string y] 0).run Try.prog w = .ok (.int .i64 x) w := fun x y => by simp [part, isAgg, run_underlying Try.underlying3]
  have p2 : ∀ (x : Int) (y : ByteArray), (part 9 #[.int .i64 x, .string y] 1).run Try.prog w = .ok (.string y) w := fun x y => by simp [part, isAgg, run_underlying Try.underlying9]
  rw [Op.equalIn]
  simp only [Sem.run_bind, run_underlying Try.underlying28, Result.andThen_ok]
  simp [Op.eqFields, p1, p2, h1, h2, kbeqB]
theorem eq_pat (a : Int) (S : ByteArray) (w : World) : (Op.equalIn 10000 28 (.agg #[.int .i64 a, .string S]) (.agg #[.int .i64 a, .string S])).run Try.prog w = .ok true w := eq_pat_at 9998 a S w
theorem patCells_at (g : Nat → Nat) : ∀ (l : List (Nat × Nat)) (i : Nat), i < l.length → (patCells g l)[i * 2]? = some (.int .i64 (pP l i)) ∧ (patCells g l)[i * 2 + 1]? = some (.string (pT g l i))
  | [], i, h => absurd h (by simp)
  | x :: l, 0, _ => by simp [patCells, pP, pT]
  | x :: l, i + 1, h => by
    have ih := patCells_at g l i (by simpa using h)
    have e : patCells g (x :: l) = .int .i64 ((x.1 : Nat) : Int) :: .string (strN (fun j => g (x.1 + j)) (x.2 - x.1)) :: patCells g l := by simp [patCells]
    rw [e, show (i + 1) * 2 = i * 2 + 1 + 1 by omega, show i * 2 + 1 + 1 + 1 = (i * 2 + 1) + 1 + 1 by omega]
    simp only [List.getElem?_cons_succ]
    refine ⟨ih.1.trans ?_, ih.2.trans ?_⟩ <;> simp [pP, pT]
theorem own_pats {w : World} {B : Nat} {e : TypeId} {v : Value} {f g : Nat → Nat} {l : List (Nat × Nat)} (hl : PatL f g 0 l) (h : w.ownsRow B e 2 v l.length (patCells g l)) : ∃ a cap, v = .slice a l.length cap ∧ IsPats w a l.length (pP l) (pT g l) := by
  rcases h.2 with ⟨rfl, h0⟩ | ⟨b, cap, cur, rfl, hb, hg, hcap, _, hsz, htake⟩
  · exact ⟨none, 0, by rw [h0], fun i hi => absurd hi (by omega)⟩
  · refine ⟨_, cap, rfl, fun i hi => ⟨b, 0, rfl, (Array.getElem?_eq_some_iff.1 hg).1, ?_, ?_, ?_, ?_⟩⟩
    · rw [Nat.zero_add, h.cellAt (i * 2) (by omega)]
      exact (patCells_at g l i hi).1
    · rw [Nat.zero_add, h.cellAt (i * 2 + 1) (by omega)]
      exact (patCells_at g l i hi).2
    · have := fit_pat hl i hi
      unfold Fit at this
      omega
    · have := fit_pat hl i hi
      unfold Fit at this
      omega
end Go.Proofs.Ytaoglljkghkbpab
