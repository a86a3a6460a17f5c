/- The document's lists of entries: Add, Remove, Swap. -/
import Derived.Test.YtimjggkdpmgpjaaGreatDoorHNaStr
import Derived.Test.YtimjggkdpmgpjaaGreatDoorHMathCount
import Derived.Deep.MidRow
import Derived.Test.YtimjggkdpmgpjaaGreatDoorHDiSort1
import GoSem.Claim
import GoSem.ClaimJoined
import GoSem.ClaimMapViews
import Derived.JoinedTies
import Derived.KernelRfl
import Derived.RowKit
import Derived.WalkKit
import Derived.ProofKit
import Derived.OpenShut
import Derived.Carry
import Derived.Deep.Slices
import Derived.Lib.SmallJoins
import Derived.SizedLaws
import Derived.SliceStrings
import Derived.ChangeArms
import Derived.Laws.AppendOwnNone
import Derived.Test.YtimjggkdpmgpjaaGreatDoorHNaDecode
import Derived.Handy
import Derived.Test.YtimjggkdpmgpjaaGreatDoorHDiAdd
import Derived.BigQuiet
import Derived.Deep.QuietTactic
import Derived.Test.YtimjggkdpmgpjaaGreatDoorHOrders
import Derived.Deep.Cut

namespace Go.Proofs.YtimjggkdpmgpjaaGreatDoor
theorem sgLHDiRListK : (∀ (α : Type) (a : α) (l r : List α), (a :: l) ++ r = a :: (l ++ r)) ∧ (∀ (α : Type) (l : List α), [] ++ l = l) ∧ (∀ (α : Type) (l : List α), l ++ [] = l) ∧ (∀ (α β : Type) (f : α → Option β) (a : α) (l : List α), (a :: l).filterMap f = match f a with | none => l.filterMap f | some b => b :: l.filterMap f) ∧ (∀ (α β : Type) (f : α → Option β), [].filterMap f = []) ∧ (∀ (α : Type) (l : List α) (i : Nat), l.toArray[i]? = l[i]?) ∧ (∀ (α : Type) (a : α) (l : List α), (a :: l)[0]? = some a) ∧ (∀ (α : Type) (a : α) (l : List α) (i : Nat), (a :: l)[i + 1]? = l[i]?) :=
  ⟨fun _ _ _ _ => List.cons_append, fun _ _ => List.nil_append _, fun _ _ => List.append_nil _, fun _ _ _ _ _ => List.filterMap_cons, fun _ _ _ => List.filterMap_nil, fun _ _ _ => List.getElem?_toArray, fun _ _ _ => List.getElem?_cons_zero, fun _ _ _ _ => List.getElem?_cons_succ⟩
theorem sgPHDiRListK : (∀ (α : Type) (l : List α) (i : Nat) (a : α), l.toArray.setIfInBounds i a = (l.set i a).toArray) ∧ (∀ (α : Type) (a b : α) (l : List α), (a :: l).set 0 b = b :: l) ∧ (∀ (α : Type) (a b : α) (l : List α) (i : Nat), (a :: l).set (i + 1) b = a :: l.set i b) :=
  ⟨fun _ _ _ _ => List.setIfInBounds_toArray _ _ _, fun _ _ _ _ => List.set_cons_zero, fun _ _ _ _ _ => List.set_cons_succ⟩
end Go.Proofs.YtimjggkdpmgpjaaGreatDoor
namespace Go.Proofs.YtimjggkdpmgpjaaGreatDoor
open Go Go.RowKit Go.Nam
set_option linter.unusedVariables false
set_option linter.unusedSimpArgs false
/-- entries compared: by name, then by inode -/
def lcC (x y : Int × ByteArray) : Int := orC (Lib.compareBytes x.2.data.toList y.2.data.toList) (Lib.compareInt x.1 y.1)
/-- less -/
def LkL (x y : Int × ByteArray) : Prop := lcC x y < 0
theorem ci_one (x y : Int) : Lib.compareInt x y = -1 ∧ x < y ∨ Lib.compareInt x y = 0 ∧ x = y ∨ Lib.compareInt x y = 1 ∧ y < x := by
  unfold Lib.compareInt
  by_cases h : x < y
  · rw [if_pos h]; exact .inl ⟨rfl, h⟩
  · rw [if_neg h]
    by_cases h2 : x > y
    · rw [if_pos h2]; exact .inr (.inr ⟨rfl, h2⟩)
    · rw [if_neg h2]; exact .inr (.inl ⟨rfl, by omega⟩)
theorem lcC_iff (x y : Int × ByteArray) : LkL x y ↔ (Lib.compareBytes x.2.data.toList y.2.data.toList = -1 ∨ (x.2.data.toList = y.2.data.toList ∧ x.1 < y.1)) := by
  unfold LkL lcC orC
  rcases cmp_one x.2.data.toList y.2.data.toList with h | h | h
  · rw [if_pos (by omega), h]
    simp
  · rw [if_neg (by omega), h]
    have := cmp_zero.1 h
    rcases ci_one x.1 y.1 with ⟨e, hx⟩ | ⟨e, hx⟩ | ⟨e, hx⟩ <;> rw [e] <;> simp [this] <;> omega
  · rw [if_pos (by omega), h]
    have hne : x.2.data.toList ≠ y.2.data.toList := fun e => by have := cmp_zero.2 e; omega
    simp [hne]
theorem cmp_lt {x y z : List UInt8} (h1 : Lib.compareBytes x y = -1) (h2 : Lib.compareBytes y z = -1) : Lib.compareBytes x z = -1 := by
  have h0 := cmp_one x z
  rw [cmp_lex] at *
  obtain ⟨h3, h4⟩ := lexN_trans _ _ _ (Int.le_trans (Int.le_of_eq h1) (by decide)) (Int.le_trans (Int.le_of_eq h2) (by decide))
  rcases h0 with h | h | h
  · exact h
  · have := (h4 h).1; omega
  · omega
theorem lk_not (x y : Int × ByteArray) : ¬ LkL y x ↔ (Lib.compareBytes x.2.data.toList y.2.data.toList = -1 ∨ (x.2.data.toList = y.2.data.toList ∧ x.1 ≤ y.1)) := by
  rw [lcC_iff]
  rcases cmp_one x.2.data.toList y.2.data.toList with h | h | h
  · have h2 : Lib.compareBytes y.2.data.toList x.2.data.toList = 1 := by rw [cmp_flip]; omega
    have hne : y.2.data.toList ≠ x.2.data.toList := fun e => by have := cmp_zero.2 e; omega
    simp [h, h2, hne]
  · have e := cmp_zero.1 h
    have h2 : Lib.compareBytes y.2.data.toList x.2.data.toList = 0 := cmp_zero.2 e.symm
    constructor
    · intro hh
      exact .inr ⟨e, Int.not_lt.1 fun q => hh (.inr ⟨e.symm, q⟩)⟩
    · rintro (q | ⟨_, q⟩) (q2 | ⟨_, q2⟩)
      · omega
      · omega
      · omega
      · omega
  · have h2 : Lib.compareBytes y.2.data.toList x.2.data.toList = -1 := by rw [cmp_flip]; omega
    have hne : x.2.data.toList ≠ y.2.data.toList := fun e => by have := cmp_zero.2 e; omega
    simp [h, h2, hne]
theorem lk_T (x y z : Int × ByteArray) (h1 : ¬ LkL y x) (h2 : ¬ LkL z y) : ¬ LkL z x := by
  rw [lk_not] at *
  rcases h1 with h1 | ⟨h1, h3⟩
  · rcases h2 with h2 | ⟨h2, h4⟩
    · exact .inl (cmp_lt h1 h2)
    · rw [h2] at h1; exact .inl h1
  · rcases h2 with h2 | ⟨h2, h4⟩
    · rw [← h1] at h2; exact .inl h2
    · exact .inr ⟨h1.trans h2, by omega⟩
theorem lk_A (x y : Int × ByteArray) (h : LkL x y) : ¬ LkL y x := by
  rw [lk_not]
  rw [lcC_iff] at h
  rcases h with h | ⟨h, h2⟩
  · exact .inl h
  · exact .inr ⟨h, by omega⟩
theorem lk_eq {x y : Int × ByteArray} (h1 : ¬ LkL x y) (h2 : ¬ LkL y x) : x = y := by
  rw [lk_not] at h1 h2
  rcases h1 with h1 | ⟨h1, h3⟩
  · rcases h2 with h2 | ⟨h2, h4⟩
    · rw [cmp_flip] at h1; omega
    · have := cmp_zero.2 h2.symm; omega
  · rcases h2 with h2 | ⟨h2, h4⟩
    · have := cmp_zero.2 h1.symm; omega
    · refine Prod.ext (by omega) ?_
      cases hx : x.2; cases hy : y.2
      rw [hx, hy] at h2
      simp at h2
      rw [h2]
set_option maxRecDepth 100000 in
set_option maxHeartbeats 4000000 in
theorem sortCmp_any (i j : Int) (s t : ByteArray) (w : World) : Calls Tryz.prog 138 #[.agg #[.int .i64 i, .string s], .agg #[.int .i64 j, .string t]] w fun e w' => e = .returned (.int .i64 (lcC (i, s) (j, t))) ∧ Below w.heap.size w w' := by
  have HC : Hid (∀ w : World, Calls Tryz.prog 140 #[.string s, .string t] w fun e w' => e = .returned (.int .i64 (Lib.compareBytes s.data.toList t.data.toList)) ∧ w' = w) := compare_any s t
  have HI : Hid (∀ w : World, Calls Tryz.prog 141 #[.int .i64 i, .int .i64 j] w fun e w' => e = .returned (.int .i64 (Lib.compareInt i j)) ∧ w' = w) := compareInt_any _ _
  have HN : Hid (orC (Lib.compareBytes s.data.toList t.data.toList) (Lib.compareInt i j) = lcC (i, s) (j, t)) := rfl
  generalize Lib.compareBytes s.data.toList t.data.toList = c at *
  generalize Lib.compareInt i j = d at *
  generalize lcC (i, s) (j, t) = r at *
  go_enter Tryz.func138, Tryz.ntmps138
  go_wp2_with fail
  have KX : Hid (Blk ((w.alloc (.cells #[.int .i64 i, .string s] 54)).alloc (.cells #[.int .i64 j, .string t] 54)) w.heap.size 54 #[.int .i64 i, .string s]) := (Blk.new w 54 _).alloc _
  have KY : Hid (Blk ((w.alloc (.cells #[.int .i64 i, .string s] 54)).alloc (.cells #[.int .i64 j, .string t] 54)) (w.heap.size + 1) 54 #[.int .i64 j, .string t]) := by
    have := Blk.new (w.alloc (.cells #[.int .i64 i, .string s] 54)) 54 #[.int .i64 j, .string t]
    show Blk _ _ _ _
    simpa using this
  have HBW : Hid (Below w.heap.size w ((w.alloc (.cells #[.int .i64 i, .string s] 54)).alloc (.cells #[.int .i64 j, .string t] 54))) := ((Below.refl _ w).alloc (Nat.le_refl _) _).alloc (by simp) _
  generalize (w.alloc (.cells #[.int .i64 i, .string s] 54)).alloc (.cells #[.int .i64 j, .string t] 54) = W at *
  refine wp_region_partsS (fun U => Below W.heap.size W U) [([], 0, true), ([], 1, true), ([], 2, true), ([], 3, true), ([], 5, true), ([], 6, true), ([], 7, true), ([], 8, true), ([], 4, false), ([], 9, false), ([], 10, false), ([], 11, false)] [12] [] (by kernel_rfl) (by kernel_rfl) (Below.refl _ _).drew (partsI_yield ?_)
  simp only [sgLHDiRListK]
  have hS : Below W.heap.size W W.drew := (Below.refl _ _).drew
  go_wp2_with fail
  first
    | refine ⟨rfl, _, .pointer (some ⟨w.heap.size, 1, none⟩), rfl, Or.inl ⟨by rfl, fun U hU => by go_simp⟩, partsI_yield ?_⟩
    | refine ⟨rfl, .pointer (some ⟨w.heap.size, 1, none⟩), Or.inl ⟨by rfl, fun U hU => by go_simp⟩, partsI_yield ?_⟩
  simp only [Act.put, sgPHDiRListK]
  simp only [sgLHDiRListK]
  go_wp2_with fail
  first
    | refine ⟨rfl, _, .string s, rfl, Or.inl ⟨by rfl, fun U hU => by have c9 := (KX.out.below hU KX.out.lt).cell 1; go_simp⟩, partsI_yield ?_⟩
    | refine ⟨rfl, .string s, Or.inl ⟨by rfl, fun U hU => by have c9 := (KX.out.below hU KX.out.lt).cell 1; go_simp⟩, partsI_yield ?_⟩
  simp only [Act.put, sgPHDiRListK]
  simp only [sgLHDiRListK]
  go_wp2_with fail
  first
    | refine ⟨rfl, _, .pointer (some ⟨(w.heap.size + 1), 1, none⟩), rfl, Or.inl ⟨by rfl, fun U hU => by go_simp⟩, partsI_yield ?_⟩
    | refine ⟨rfl, .pointer (some ⟨(w.heap.size + 1), 1, none⟩), Or.inl ⟨by rfl, fun U hU => by go_simp⟩, partsI_yield ?_⟩
  simp only [Act.put, sgPHDiRListK]
  simp only [sgLHDiRListK]
  go_wp2_with fail
  first
    | refine ⟨rfl, _, .string t, rfl, Or.inl ⟨by rfl, fun U hU => by have c9 := (KY.out.below hU KY.out.lt).cell 1; go_simp⟩, partsI_yield ?_⟩
    | refine ⟨rfl, .string t, Or.inl ⟨by rfl, fun U hU => by have c9 := (KY.out.below hU KY.out.lt).cell 1; go_simp⟩, partsI_yield ?_⟩
  simp only [Act.put, sgPHDiRListK]
  simp only [sgLHDiRListK]
  go_wp2_with fail
  first
    | refine ⟨rfl, _, .pointer (some ⟨w.heap.size, 0, none⟩), rfl, Or.inl ⟨by rfl, fun U hU => by go_simp⟩, partsI_yield ?_⟩
    | refine ⟨rfl, .pointer (some ⟨w.heap.size, 0, none⟩), Or.inl ⟨by rfl, fun U hU => by go_simp⟩, partsI_yield ?_⟩
  simp only [Act.put, sgPHDiRListK]
  simp only [sgLHDiRListK]
  go_wp2_with fail
  first
    | refine ⟨rfl, _, .int .i64 i, rfl, Or.inl ⟨by rfl, fun U hU => by have c9 := (KX.out.below hU KX.out.lt).cell 0; go_simp⟩, partsI_yield ?_⟩
    | refine ⟨rfl, .int .i64 i, Or.inl ⟨by rfl, fun U hU => by have c9 := (KX.out.below hU KX.out.lt).cell 0; go_simp⟩, partsI_yield ?_⟩
  simp only [Act.put, sgPHDiRListK]
  simp only [sgLHDiRListK]
  go_wp2_with fail
  first
    | refine ⟨rfl, _, .pointer (some ⟨(w.heap.size + 1), 0, none⟩), rfl, Or.inl ⟨by rfl, fun U hU => by go_simp⟩, partsI_yield ?_⟩
    | refine ⟨rfl, .pointer (some ⟨(w.heap.size + 1), 0, none⟩), Or.inl ⟨by rfl, fun U hU => by go_simp⟩, partsI_yield ?_⟩
  simp only [Act.put, sgPHDiRListK]
  simp only [sgLHDiRListK]
  go_wp2_with fail
  first
    | refine ⟨rfl, _, .int .i64 j, rfl, Or.inl ⟨by rfl, fun U hU => by have c9 := (KY.out.below hU KY.out.lt).cell 0; go_simp⟩, partsI_force ?_⟩
    | refine ⟨rfl, .int .i64 j, Or.inl ⟨by rfl, fun U hU => by have c9 := (KY.out.below hU KY.out.lt).cell 0; go_simp⟩, partsI_force ?_⟩
  simp only [Act.put, sgPHDiRListK]
  simp only [sgLHDiRListK]
  go_wp2_with fail
  refine (HC.out _).mono ?_
  rintro e w9 ⟨rfl, hw9⟩
  subst w9
  go_wp2_with fail
  refine ⟨rfl, hS, partsI_force ?_⟩
  simp only [sgLHDiRListK]
  go_wp2_with fail
  refine (HI.out _).mono ?_
  rintro e w9 ⟨rfl, hw9⟩
  subst w9
  go_wp2_with fail
  refine ⟨rfl, hS, partsI_force ?_⟩
  simp only [sgLHDiRListK]
  obtain ⟨W1, hW1⟩ : ∃ W1, W1 = (W.alloc (.cells #[.int .i64 c, .int .i64 d] 3)).drew := ⟨_, rfl⟩
  have k1 : Blk W1 W.heap.size 3 #[.int .i64 c, .int .i64 d] := by rw [hW1]; exact (Blk.new W 3 _).drew
  have b1 : Below W.heap.size W W1 := by rw [hW1]; exact ((Below.refl _ W).alloc (Nat.le_refl _) _).drew
  have HO : Hid (Calls Tryz.prog 139 #[.slice (some ⟨W.heap.size, 0, none⟩) 2 2] W1 fun e w' => e = .returned (.int .i64 (orC c d)) ∧ w' = W1) := or_two c d W.heap.size _ (k1.cell 0) (k1.cell 1)
  have HB1 : Hid (Below W.heap.size W W1) := b1
  clear k1 b1 hS
  subst hW1
  go_wp2_with fail
  refine ⟨rfl, HB1.out, partsI_force ?_⟩
  simp only [sgLHDiRListK]
  go_wp2_with fail
  refine HO.out.mono ?_
  rintro e w9 ⟨rfl, hw9⟩
  subst w9
  go_wp2_with fail
  refine ⟨rfl, HB1.out, partsI_last ?_⟩
  simp only [sgLHDiRListK]
  go_wp2_with fail
  refine ⟨rfl, ?_⟩
  go_wp2_with fail
  go_ret
  exact ⟨by rw [← HN.out]; rfl, HBW.out.trans (HB1.out.mono HBW.out.size)⟩
end Go.Proofs.YtimjggkdpmgpjaaGreatDoor

namespace Go.Proofs.YtimjggkdpmgpjaaGreatDoor
open Go Go.RowKit Go.Nam
set_option linter.unusedVariables false
set_option linter.unusedSimpArgs false
abbrev Lk := Int × ByteArray
/-- the cells of entries -/
def lkR : List Lk → List Value
  | [] => []
  | x :: l => .int .i64 x.1 :: .string x.2 :: lkR l
theorem lkR_len : ∀ l : List Lk, (lkR l).length = l.length * 2
  | [] => rfl
  | x :: l => by simp [lkR, lkR_len l]; omega
theorem lkR_app : ∀ l m : List Lk, lkR (l ++ m) = lkR l ++ lkR m
  | [], m => rfl
  | x :: l, m => by simp [lkR, lkR_app l m]
theorem lkR_mem : ∀ (l : List Lk) (u : Value), u ∈ lkR l → u.oneCell' = true
  | [], u, h => by simp [lkR] at h
  | x :: l, u, h => by
    simp only [lkR, List.mem_cons] at h
    rcases h with rfl | rfl | h
    · rfl
    · rfl
    · exact lkR_mem l u h
theorem lkR_at : ∀ (l : List Lk) (i : Nat) (x : Lk), l[i]? = some x → (lkR l)[i * 2]? = some (.int .i64 x.1) ∧ (lkR l)[i * 2 + 1]? = some (.string x.2)
  | [], i, x, h => by simp at h
  | y :: l, 0, x, h => by simp at h; subst h; exact ⟨rfl, rfl⟩
  | y :: l, i + 1, x, h => by
    have ih := lkR_at l i x (by simpa using h)
    rw [show (i + 1) * 2 = i * 2 + 1 + 1 from by omega]
    exact ⟨ih.1, ih.2⟩
theorem lkR_take : ∀ (l : List Lk) (k : Nat), lkR (l.take k) = (lkR l).take (k * 2)
  | [], k => by simp [lkR]
  | x :: l, 0 => by simp [lkR]
  | x :: l, k + 1 => by rw [List.take_succ_cons, lkR, lkR, lkR_take l k, show (k + 1) * 2 = k * 2 + 1 + 1 from by omega]; rfl
theorem lkR_drop : ∀ (l : List Lk) (k : Nat), lkR (l.drop k) = (lkR l).drop (k * 2)
  | [], k => by simp [lkR]
  | x :: l, 0 => by simp
  | x :: l, k + 1 => by rw [List.drop_succ_cons, lkR, lkR_drop l k, show (k + 1) * 2 = k * 2 + 1 + 1 from by omega]; rfl
/-- the first n of N, S as a list -/
def liR (N : Nat → Int) (S : Nat → ByteArray) (n : Nat) : List Lk := (List.range n).map fun i => (N i, S i)
theorem liR_len (N : Nat → Int) (S : Nat → ByteArray) (n : Nat) : (liR N S n).length = n := by simp [liR]
theorem liR_get (N : Nat → Int) (S : Nat → ByteArray) (n i : Nat) (h : i < n) : (liR N S n)[i]? = some (N i, S i) := by simp [liR, h]
theorem liR_cells (N : Nat → Int) (S : Nat → ByteArray) : ∀ n, lkR (liR N S n) = lkL N S n
  | 0 => rfl
  | n + 1 => by
    have ih := liR_cells N S n
    unfold liR at ih ⊢
    rw [List.range_succ, List.map_append, lkR_app, ih, lkL]
    rfl
theorem li_of (R : List Lk) : R = liR (fun i => (R.getD i (0, ⟨#[]⟩)).1) (fun i => (R.getD i (0, ⟨#[]⟩)).2) R.length := by
  apply List.ext_getElem?
  intro i
  by_cases h : i < R.length
  · rw [liR_get _ _ _ _ h, List.getElem?_eq_getElem h]
    simp [List.getD, h]
  · rw [List.getElem?_eq_none (by omega), List.getElem?_eq_none (by rw [liR_len]; omega)]
/-- a permutation of places makes the same entries -/
theorem pm_perm {n : Nat} {s : Nat → Nat} (h : Pm 0 n s) : ((List.range n).map s).Perm (List.range n) := by
  have hnd : ((List.range n).map s).Nodup := by
    rw [List.Nodup, List.pairwise_map]
    exact List.Pairwise.imp (fun hne e => hne (h.2.2 _ _ e)) List.nodup_range
  rw [List.perm_ext_iff_of_nodup hnd List.nodup_range]
  have hin : ∀ y, y ∈ (List.range n).map s → y < n := fun y hy => by
    obtain ⟨p, hp, rfl⟩ := List.mem_map.1 hy
    exact (h.2.1 p (Nat.zero_le _) (List.mem_range.1 hp)).2
  intro x
  refine ⟨fun hx => List.mem_range.2 (hin x hx), fun hx => Classical.byContradiction fun hno => ?_⟩
  have hsub : (List.range n).map s ⊆ (List.range n).erase x := fun y hy => (List.mem_erase_of_ne (fun e => hno (by rw [← e]; exact hy))).2 (List.mem_range.2 (hin y hy))
  have hle := hnd.length_le_of_subset hsub
  rw [List.length_erase_of_mem hx] at hle
  have := List.mem_range.1 hx
  simp at hle
  omega
theorem en_perm (N : Nat → Int) (S : Nat → ByteArray) {n : Nat} {s : Nat → Nat} (h : Pm 0 n s) : (liR (fun p => N (s p)) (fun p => S (s p)) n).Perm (liR N S n) := by
  have := (pm_perm h).map fun i => (N i, S i)
  rw [List.map_map] at this
  exact this
/-- sorted, as a list -/
def SoR (R : List Lk) : Prop := R.Pairwise fun a b => ¬ LkL b a
theorem so_soR {N : Nat → Int} {S : Nat → ByteArray} {s : Nat → Nat} {n : Nat} (h : So LkL (EnS N S s) 0 n) : SoR (liR (fun p => N (s p)) (fun p => S (s p)) n) := by
  unfold SoR liR
  rw [List.pairwise_map]
  rw [List.pairwise_iff_getElem]
  intro i j hi hj hij
  simp only [List.getElem_range]
  exact h i j (Nat.zero_le _) hij (by simpa using hj)
theorem soR_eq {R Q : List Lk} (h1 : SoR R) (h2 : SoR Q) (hp : R.Perm Q) : R = Q :=
  hp.eq_of_pairwise (fun a b _ _ k1 k2 => lk_eq k2 k1) h1 h2
theorem lk_irr (x : Lk) : ¬ LkL x x := fun h => lk_A x x h h
/-- one entry put where it belongs -/
theorem soR_put {R : List Lk} {x : Lk} {k : Nat} (h : SoR R) (hk : k ≤ R.length) (hl : k = 0 ∨ ∃ y, R[k - 1]? = some y ∧ ¬ LkL x y) (hr : ∀ j y, k ≤ j → R[j]? = some y → LkL x y) : SoR (R.take k ++ ([x] ++ R.drop k)) := by
  unfold SoR
  rw [List.pairwise_append]
  refine ⟨h.sublist (List.take_sublist _ _), ?_, ?_⟩
  · rw [List.singleton_append, List.pairwise_cons]
    refine ⟨fun y hy => ?_, h.sublist (List.drop_sublist _ _)⟩
    obtain ⟨j, hj, e⟩ := List.getElem_of_mem hy
    rw [List.getElem_drop] at e
    exact lk_A _ _ (hr (k + j) y (by omega) (by rw [← e]; exact List.getElem?_eq_getElem _))
  · intro a ha b hb
    obtain ⟨i, hi, e⟩ := List.getElem_of_mem ha
    rw [List.length_take] at hi
    rw [List.getElem_take] at e
    have hik : i < k := by omega
    rcases hl with h0 | ⟨y, hy, hxy⟩
    · omega
    have hk1 : k - 1 < R.length := (List.getElem?_eq_some_iff.1 hy).1
    have hy2 := (List.getElem?_eq_some_iff.1 hy).2
    have hay : ¬ LkL y a := by
      by_cases c : i = k - 1
      · subst c; rw [← e, hy2]; exact lk_irr _
      · have := (List.pairwise_iff_getElem.1 h) i (k - 1) (by omega) hk1 (by omega)
        rw [hy2, e] at this
        exact this
    rw [List.singleton_append, List.mem_cons] at hb
    rcases hb with rfl | hb
    · exact lk_T _ _ _ hay hxy
    · obtain ⟨j, hj, e2⟩ := List.getElem_of_mem hb
      rw [List.length_drop] at hj
      rw [List.getElem_drop] at e2
      have := (List.pairwise_iff_getElem.1 h) i (k + j) (by omega) (by omega) (by omega)
      rw [e, e2] at this
      exact this
theorem put_perm (R : List Lk) (x : Lk) (k : Nat) : (R.take k ++ ([x] ++ R.drop k)).Perm (R ++ [x]) := by
  have h1 : (R.take k ++ ([x] ++ R.drop k)).Perm (R.take k ++ (R.drop k ++ [x])) := List.Perm.append_left _ (List.perm_append_comm)
  have e : R.take k ++ (R.drop k ++ [x]) = R ++ [x] := by rw [← List.append_assoc, List.take_append_drop]
  rw [e] at h1
  exact h1
/-- entries in the memory from a place on -/
def IsR (w : World) (b o : Nat) (M : List Lk) : Prop := ∀ j u, (lkR M)[j]? = some u → w.cell? ⟨b, o + j, none⟩ = some u
theorem IsR.take {w : World} {b o : Nat} {M : List Lk} (h : IsR w b o M) (k : Nat) : IsR w b o (M.take k) := fun j u hu => by
  rw [lkR_take, List.getElem?_take] at hu
  split at hu
  · exact h j u hu
  · cases hu
theorem IsR.drop {w : World} {b o : Nat} {M : List Lk} (h : IsR w b o M) (k : Nat) : IsR w b (o + k * 2) (M.drop k) := fun j u hu => by
  rw [lkR_drop, List.getElem?_drop] at hu
  rw [Nat.add_assoc]
  exact h _ u hu
theorem IsR.below {w w' : World} {b o B : Nat} {M : List Lk} (h : IsR w b o M) (hb : Below B w w') (hB : b < B) : IsR w' b o M := fun j u hu => (hb.cell (p := ⟨b, o + j, none⟩) hB).trans (h j u hu)
theorem own_isR {w : World} {B e n cap g : Nat} {M : List Lk} (h : w.ownsRow B e 2 (.slice (some ⟨g, 0, none⟩) n cap) n (lkR M)) : IsR w g 0 M := fun j u hu => by
  have h1 := h.1
  have h2 := (List.getElem?_eq_some_iff.1 hu).1
  rw [Nat.zero_add, h.cellAt j (by omega)]
  exact hu
/-- append(own, entries...) -/
theorem wpList_append_lks {P : Program} {ops : Array Oper} {rest : List Oper} {o : Oper} {a : Act} {w : World} {Q : Exit → Act → World → Prop} (hgd : o.guard = none) (s x : Operand) (t : TypeId)
    (ho : o.op = .call { callee := .builtin .append, args := #[s, x], argTypes := #[t, t] }) (B : Nat) (e : TypeId) (i : TypeInfo) (z : Value) (ht : P.underlying t = some (.slice e)) (hi : P.info? e = some i) (hz : i.zero = some z) (hsize : i.size = 2) (hby : i.bytes = 24) (hzs : z.cells.size = 2)
    (v : Value) (A : List Lk) (k : Nat) (hk : k = A.length) (hs : a.eval s = v) (hown : w.ownsRow B e 2 v k (lkR A)) (b of m c : Nat) (M : List Lk) (hm : m = M.length) (hx : a.eval x = .slice (some ⟨b, of, none⟩) m c) (hA : IsR w b of M) (hn : (A.length + M.length) * 24 ≤ 140737488355328) (hbase : B ≤ w.heap.size)
    (h : ∀ v' w', w'.ownsRow B e 2 v' (k + m) (lkR (A ++ M)) → Below B w w' → w.grownBy w' v.ownBlock → wpList P ops Q rest (a.put o.dst v') w') : wpList P ops Q (o :: rest) a w := by
  have hv := hown.lt
  refine wpList_append_own _ hgd s x t ho B e i z 2 24 ht hi hz hsize hby hzs (by decide) v k (lkR A) hs hown ⟨b, of, none⟩ m c (lkR M) hx (by rw [lkR_len, hm]) (fun j u hu => ?_) (lkR_mem M) (by unfold maxLen; omega) (by omega) hbase fun v' w' h1 h2 _ => ?_
  · rw [Addr.add_mid]; exact hA j u hu
  · rw [← lkR_app] at h1
    exact h v' w' h1 ((Below.refl _ _).grown h2 hbase (fun k hk => (hv k hk).1)) h2
end Go.Proofs.YtimjggkdpmgpjaaGreatDoor

namespace Go.Proofs.YtimjggkdpmgpjaaGreatDoor
open Go.ChangeShapes Go.WideShapes Go.ChangeAt Go.RowKit Go.Joins
set_option linter.unusedVariables false
set_option linter.unusedSimpArgs false
theorem lkL_mem (N : Nat → Int) (S : Nat → ByteArray) : ∀ n u, u ∈ lkL N S n → u.oneCell' = true
  | 0, u, h => by simp [lkL] at h
  | n + 1, u, h => by
    rw [lkL, List.mem_append] at h
    rcases h with h | h
    · exact lkL_mem N S n u h
    · simp at h
      rcases h with rfl | rfl <;> rfl
theorem lkL_get (N : Nat → Int) (S : Nat → ByteArray) : ∀ n j u, (lkL N S n)[j]? = some u → ∃ i, i < n ∧ ((j = i * 2 ∧ u = .int .i64 (N i)) ∨ (j = i * 2 + 1 ∧ u = .string (S i)))
  | 0, j, u, h => by simp [lkL] at h
  | n + 1, j, u, h => by
    have hl := lkL_len N S n
    rw [lkL] at h
    by_cases hj : j < n * 2
    · rw [List.getElem?_append_left (by omega)] at h
      obtain ⟨i, hi, hh⟩ := lkL_get N S n j u h
      exact ⟨i, by omega, hh⟩
    · rw [List.getElem?_append_right (by omega), hl] at h
      have hlt : j - n * 2 < 2 := by have := (List.getElem?_eq_some_iff.1 h).1; simpa using this
      by_cases e : j = n * 2
      · rw [e, Nat.sub_self] at h
        simp at h
        exact ⟨n, by omega, Or.inl ⟨e, h.symm⟩⟩
      · have e2 : j = n * 2 + 1 := by omega
        rw [e2, show n * 2 + 1 - n * 2 = 1 from by omega] at h
        simp at h
        exact ⟨n, by omega, Or.inr ⟨e2, h.symm⟩⟩
theorem wpList_append_links {P : Program} {ops : Array Oper} {rest : List Oper} {o : Oper} {a : Act} {w : World} {Q : Exit → Act → World → Prop} (hgd : o.guard = none) (s x : Operand) (t : TypeId)
    (ho : o.op = .call { callee := .builtin .append, args := #[s, x], argTypes := #[t, t] }) (B : Nat) (e : TypeId) (i : TypeInfo) (z : Value) (ht : P.underlying t = some (.slice e)) (hi : P.info? e = some i) (hz : i.zero = some z) (hsize : i.size = 2) (hby : i.bytes = 24) (hzs : z.cells.size = 2)
    (v : Value) (hs : a.eval s = v) (hown : w.ownsRow B e 2 v 0 []) (a1 : Option Addr) (n c : Nat) (N : Nat → Int) (S : Nat → ByteArray) (hx : a.eval x = .slice a1 n c) (hA : IsLkC w a1 n N S) (hN : a1 = none → n = 0 ∧ c = 0) (hn : n * 24 ≤ 140737488355328) (hbase : B ≤ w.heap.size)
    (h : ∀ v' w', w'.ownsRow B e 2 v' n (lkL N S n) → Below B w w' → wpList P ops Q rest (a.put o.dst v') w') : wpList P ops Q (o :: rest) a w := by
  cases a1 with
  | none =>
    obtain ⟨rfl, rfl⟩ := hN rfl
    exact wpList_append_own_none hgd s x t ho B e i 2 ht hi v 0 [] hs hown hx (h v w hown (Below.refl _ _))
  | some ad =>
    have hv := hown.lt
    refine wpList_append_own _ hgd s x t ho B e i z 2 24 ht hi hz hsize hby hzs (by decide) v 0 [] hs hown ad n c (lkL N S n) hx (lkL_len N S n) (fun j u hu => ?_) (lkL_mem N S n) (by unfold maxLen; omega) (by omega) hbase fun v' w' h1 h2 _ => ?_
    · obtain ⟨k, hk, hh⟩ := lkL_get N S n j u hu
      obtain ⟨b, o2, e1, _, c0, c1⟩ := hA k hk
      injection e1 with e2
      subst e2
      rcases hh with ⟨rfl, rfl⟩ | ⟨rfl, rfl⟩
      · rw [Addr.add_mid]; exact c0
      · rw [Addr.add_mid, ← Nat.add_assoc]; exact c1
    · rw [List.nil_append, Nat.zero_add] at h1
      exact h v' w' h1 ((Below.refl _ _).grown h2 hbase (fun k hk => (hv k hk).1))
end Go.Proofs.YtimjggkdpmgpjaaGreatDoor

namespace Go.Proofs.YtimjggkdpmgpjaaGreatDoor
open Go Go.RowKit
set_option linter.unusedSimpArgs false
set_option linter.unusedVariables false
set_option maxRecDepth 100000 in
set_option maxHeartbeats 4000000 in
/-- Add that fails: the list itself, and why -/
theorem radd17_no (a : Option Addr) (n c : Nat) (hn : n ≤ 140737488351232) (N : Nat → Int) (S : Nat → ByteArray) (i : Int) (s : ByteArray) (p : Nat) (hp : FirstN S n p s) (r : Int) (hr : r = if encE i s ≠ 0 then encE i s else if p < n then 172 else 173) (hb : encE i s ≠ 0 ∨ p < n ∨ 16384 ≤ n) (w : World) (hI : IsLkC w a n N S) : Calls Tryz.prog 23 #[.slice a n c, lkV i s] w fun e w' => e = .returned (.tuple #[.slice a n c, .int .i64 r]) ∧ Below w.heap.size w w' := by
  have HE : Hid (∀ w : World, Calls Tryz.prog 46 #[lkV i s] w fun e w' => e = .returned (.tuple #[.string (encT i s), .int .i64 (encE i s)]) ∧ Below w.heap.size w w') := rencode_any i s
  have HF : Hid (∀ W, Below w.heap.size w W → Calls Tryz.prog 47 #[.slice a n c, .string s] W fun e w' => e = .returned (.tuple #[.int .i64 (if p < n then N p else 0), .int .i64 (if p < n then (p : Int) else -1)]) ∧ w' = W) := fun W hW => rfind17_any a n c p hn N S s hp _ _ rfl rfl W (hI.below hW)
  have HR : Hid (r = if encE i s ≠ 0 then encE i s else if p < n then 172 else 173) := hr
  clear hr hI hp
  generalize encT i s = ET at *
  generalize encE i s = EE at *
  unfold lkV at *
  have b0 : Blk (w.alloc (.cells #[.int .i64 i, .string s] 82)) w.heap.size 82 #[.int .i64 i, .string s] := Blk.new _ _ _
  have HB0 : Hid (Below w.heap.size w (w.alloc (.cells #[.int .i64 i, .string s] 82))) := below_new1 _ _
  have c0 : (w.alloc (.cells #[.int .i64 i, .string s] 82)).cell? ⟨w.heap.size, 0, none⟩ = some (.int .i64 i) := (b0.cell 0).trans rfl
  have c1 : (w.alloc (.cells #[.int .i64 i, .string s] 82)).cell? ⟨w.heap.size, 1, none⟩ = some (.string s) := (b0.cell 1).trans rfl
  go_enter Tryz.func23, Tryz.ntmps23
  go_wp2_with fail
  generalize (w.alloc (.cells #[.int .i64 i, .string s] 82)) = w0 at *
  refine (HE.out _).mono ?_
  rintro e w1 ⟨rfl, hb1⟩
  have HB1 : Hid (Below w.heap.size w w1) := HB0.out.trans (hb1.mono HB0.out.size)
  have b1 := b0.below hb1 b0.lt
  clear c0 c1 hb1 b0 HB0 HE
  have c1 : w1.cell? ⟨w.heap.size, 1, none⟩ = some (.string s) := (b1.cell 1).trans rfl
  by_cases h0 : EE = 0
  · subst h0
    have HF1 := HF.out w1 HB1.out
    clear HF
    by_cases hq : p < n
    · have HR2 : Hid (r = 172) := by show r = 172; rw [HR.out, if_neg (by simp), if_pos hq]
      rw [if_pos hq, if_pos hq] at HF1
      have p0 : (0 : Int) ≤ (p : Int) := by omega
      generalize N p = NP at *
      clear HR hb b1
      go_wp2_with fail
      refine HF1.mono ?_
      rintro e w2 ⟨rfl, hw2⟩
      subst w2
      go_wp2_with fail
      go_ret2
      exact ⟨by rw [HR2.out]; rfl, HB1.out⟩
    · have HR2 : Hid (r = 173) := by show r = 173; rw [HR.out, if_neg (by simp), if_neg hq]
      rw [if_neg hq, if_neg hq] at HF1
      have hl : (16384 : Int) ≤ (n : Int) := by
        rcases hb with hb | hb | hb
        · exact absurd rfl hb
        · exact absurd hb hq
        · omega
      clear HR hb b1
      go_wp2_with fail
      refine HF1.mono ?_
      rintro e w2 ⟨rfl, hw2⟩
      subst w2
      go_wp2_with fail
      go_ret2
      exact ⟨by rw [HR2.out]; rfl, HB1.out⟩
  · have HR2 : Hid (r = EE) := by show r = EE; rw [HR.out, if_pos h0]
    clear HR hb b1 HF
    go_wp2_with fail
    go_ret2
    exact ⟨by rw [HR2.out]; rfl, HB1.out⟩
end Go.Proofs.YtimjggkdpmgpjaaGreatDoor

namespace Go.Proofs.YtimjggkdpmgpjaaGreatDoor
open Go Go.RowKit
set_option linter.unusedSimpArgs false
set_option linter.unusedVariables false
theorem sc_same (W : World) (p : Addr) (v u : Value) (h : W.cell? p = some u) : (W.setCell p v).cell? p = some v := by
  first | exact World.cell?_setCell_same _ _ _ h | exact World.cell?_setCell_same h | exact World.cell?_setCell_same (h := h) ..
theorem sc_other (W : World) (p q : Addr) (v : Value) (h : p ≠ q) : (W.setCell p v).cell? q = W.cell? q := by
  first | exact World.cell?_setCell_other _ _ _ _ h | exact World.cell?_setCell_other _ _ _ h | exact World.cell?_setCell_other (h := h) ..
theorem ad_ne {g o g' o' : Nat} (h : g ≠ g' ∨ o ≠ o') : (⟨g, o, none⟩ : Addr) ≠ ⟨g', o', none⟩ := by
  intro e
  injection e with e1 e2
  rcases h with h | h
  · exact h e1
  · exact h e2
theorem IsLk.put {W : World} {g m : Nat} {N : Nat → Int} {S : Nat → ByteArray} (h : IsLk W g m N S) (r : Nat) (hr : r < m) (i : Int) (s : ByteArray) : IsLk ((W.setCell ⟨g, r * 2, none⟩ (.int .i64 i)).setCell ⟨g, r * 2 + 1, none⟩ (.string s)) g m (upN N r i) (upS S r s) := fun j hj => by
  have a0 := (h j hj).1
  have a1 := (h j hj).2
  unfold upN upS
  by_cases c : j = r
  · subst c
    rw [if_pos rfl, if_pos rfl]
    refine ⟨?_, ?_⟩
    · rw [sc_other _ _ _ _ (ad_ne (.inr (by omega)))]
      exact sc_same _ _ _ _ a0
    · refine sc_same _ _ _ (.string (S j)) ?_
      rw [sc_other _ _ _ _ (ad_ne (.inr (by omega)))]
      exact a1
  · rw [if_neg c, if_neg c, sc_other _ _ _ _ (ad_ne (.inr (by omega))), sc_other _ _ _ _ (ad_ne (.inr (by omega))), sc_other _ _ _ _ (ad_ne (.inr (by omega))), sc_other _ _ _ _ (ad_ne (.inr (by omega)))]
    exact ⟨a0, a1⟩
theorem IsLk.same {W : World} {g m m' : Nat} {N N' : Nat → Int} {S S' : Nat → ByteArray} (h : IsLk W g m N S) (hm : m' ≤ m) (hN : ∀ p, p < m' → N p = N' p ∧ S p = S' p) : IsLk W g m' N' S' := fun j hj => by
  rw [← (hN j hj).1, ← (hN j hj).2]
  exact h j (by omega)
theorem IsLk.turns {W W' : World} {T : Nat → Prop} {g m : Nat} {N : Nat → Int} {S : Nat → ByteArray} (h : IsLk W g m N S) (ht : Turns T W W') (hg : g < W.heap.size) (hT : ¬ T g) : IsLk W' g m N S := fun j hj => by
  have hb := ht.block g hg hT
  refine ⟨(World.cell?_of_block (w := W) (w' := W') (a := ⟨g, j * 2, none⟩) hb).trans (h j hj).1, (World.cell?_of_block (w := W) (w' := W') (a := ⟨g, j * 2 + 1, none⟩) hb).trans (h j hj).2⟩
section
variable {w : World} {x mf ml mc : Nat} {cp : Option Addr} {top : Int} {H : Nat → Hd} {D : Nat → Nat → Nat → Nat} {n k st : Nat} {N : Nat → Int} {S : Nat → ByteArray}
end
end Go.Proofs.YtimjggkdpmgpjaaGreatDoor

namespace Go.Proofs.YtimjggkdpmgpjaaGreatDoor
open Go Go.RowKit Go.Nam
set_option linter.unusedSimpArgs false
set_option linter.unusedVariables false
theorem wpList_append_links2 {P : Program} {ops : Array Oper} {rest : List Oper} {o : Oper} {a : Act} {w : World} {Q : Exit → Act → World → Prop} (hgd : o.guard = none) (s x : Operand) (t : TypeId)
    (ho : o.op = .call { callee := .builtin .append, args := #[s, x], argTypes := #[t, t] }) (B : Nat) (e : TypeId) (i : TypeInfo) (z : Value) (ht : P.underlying t = some (.slice e)) (hi : P.info? e = some i) (hz : i.zero = some z) (hsize : i.size = 2) (hby : i.bytes = 24) (hzs : z.cells.size = 2)
    (v : Value) (hs : a.eval s = v) (hown : w.ownsRow B e 2 v 0 []) (a1 : Option Addr) (n c : Nat) (N : Nat → Int) (S : Nat → ByteArray) (hx : a.eval x = .slice a1 n c) (hA : IsLkC w a1 n N S) (hN : a1 = none → n = 0 ∧ c = 0) (hn : n * 24 ≤ 140737488355328) (hbase : B ≤ w.heap.size)
    (h : ∀ v' w', w'.ownsRow B e 2 v' n (lkL N S n) → Below B w w' → w.grownBy w' v.ownBlock → wpList P ops Q rest (a.put o.dst v') w') : wpList P ops Q (o :: rest) a w := by
  cases a1 with
  | none =>
    obtain ⟨rfl, rfl⟩ := hN rfl
    exact wpList_append_own_none hgd s x t ho B e i 2 ht hi v 0 [] hs hown hx (h v w hown (Below.refl _ _) ⟨rfl, rfl, rfl, Nat.le_refl _, fun _ _ _ => rfl⟩)
  | some ad =>
    have hv := hown.lt
    refine wpList_append_own _ hgd s x t ho B e i z 2 24 ht hi hz hsize hby hzs (by decide) v 0 [] hs hown ad n c (lkL N S n) hx (lkL_len N S n) (fun j u hu => ?_) (lkL_mem N S n) (by unfold maxLen; omega) (by omega) hbase fun v' w' h1 h2 _ => ?_
    · obtain ⟨k, hk, hh⟩ := lkL_get N S n j u hu
      obtain ⟨b, o2, e1, _, c0, c1⟩ := hA k hk
      injection e1 with e2
      subst e2
      rcases hh with ⟨rfl, rfl⟩ | ⟨rfl, rfl⟩
      · rw [Addr.add_mid]; exact c0
      · rw [Addr.add_mid, ← Nat.add_assoc]; exact c1
    · rw [List.nil_append, Nat.zero_add] at h1
      exact h v' w' h1 ((Below.refl _ _).grown h2 hbase (fun k hk => (hv k hk).1)) h2

theorem va_lbR (N : Nat → Int) (S : Nat → ByteArray) (n : Nat) : (va (n * 2) (lbF N S)).toList = lkL N S n := by
  apply List.ext_getElem?
  intro q
  by_cases h : q < n * 2
  · rw [Array.getElem?_toList, va_at _ h]
    unfold lbF
    have := dlk_at N S n (q / 2) (by omega)
    by_cases e : q % 2 = 0
    · rw [if_pos e, ← this.1]
      congr 1
      omega
    · rw [if_neg e, ← this.2]
      congr 1
      omega
  · rw [List.getElem?_eq_none (by rw [Array.length_toList, va_size]; omega), List.getElem?_eq_none (by rw [lkL_len]; omega)]
theorem own_lbR {w : World} {B t n cap g : Nat} {N : Nat → Int} {S : Nat → ByteArray} (h : w.ownsRow B t 2 (.slice (some ⟨g, 0, none⟩) n cap) n (lkL N S n)) : ∃ tl : Array Value, Blk w g t (lbC tl n N S) ∧ tl.size = (cap - n) * 2 ∧ n ≤ cap ∧ cap ≤ maxLen ∧ B ≤ g := by
  rcases h.2 with ⟨hv, _⟩ | ⟨g', cap', cur, hv, hB, hg, hn, hm, hs, ht⟩
  · cases hv
  · cases hv
    refine ⟨(cur.toList.drop (n * 2)).toArray, ?_, ?_, hn, hm, hB⟩
    · have e : lbC (cur.toList.drop (n * 2)).toArray n N S = cur := by
        apply Array.ext'
        unfold lbC
        rw [Array.toList_append, va_lbR, ← ht]
        simp
      rw [e]
      exact hg
    · simp
      rw [hs]
      omega

theorem lb_lkC {w : World} {g t n m : Nat} {N : Nat → Int} {S : Nat → ByteArray} {tl : Array Value} (h : Blk w g t (lbC tl n N S)) (hm : m ≤ n) : IsLkC w (some ⟨g, 0, none⟩) m N S := fun i hi => ⟨g, 0, rfl, h.lt, by rw [Nat.zero_add]; exact lb_c0 h i (by omega), by rw [Nat.zero_add]; exact lb_c1 h i (by omega)⟩
theorem own_lkC {w : World} {B t n cap g : Nat} {N : Nat → Int} {S : Nat → ByteArray} (h : w.ownsRow B t 2 (.slice (some ⟨g, 0, none⟩) n cap) n (lkL N S n)) : IsLkC w (some ⟨g, 0, none⟩) n N S := by
  obtain ⟨tl, h1, _⟩ := own_lbR h
  exact lb_lkC h1 (Nat.le_refl _)
theorem lkL_snoc (N : Nat → Int) (S : Nat → ByteArray) (n : Nat) (i : Int) (s : ByteArray) : lkR (liR N S n ++ [(i, s)]) = lkL (upN N n i) (upS S n s) (n + 1) := by
  rw [← liR_cells]
  congr 1
  unfold liR
  rw [List.range_succ, List.map_append]
  congr 1
  · refine List.map_congr_left fun q hq => ?_
    have := List.mem_range.1 hq
    unfold upN upS
    rw [if_neg (by omega), if_neg (by omega)]
  · simp [upN, upS]
end Go.Proofs.YtimjggkdpmgpjaaGreatDoor
