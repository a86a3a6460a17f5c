/- The document's lists of entries. -/
import Derived.Test.YtojnlmfahgeidaaGreatDoorHNaSoC
import Derived.Deep.MidRow
import Derived.Test.YtojnlmfahgeidaaGreatDoorHDiSort2
import GoSem.Claim
import GoSem.ClaimJoined
import GoSem.ClaimMapViews
import Derived.JoinedTies
import Derived.KernelRfl
import Derived.RowKit
import Derived.WalkKit
import Derived.ProofKit
import Derived.OpenShut
import Derived.Carry
import Derived.Deep.Slices
import Derived.Lib.SmallJoins
import Derived.SizedLaws
import Derived.SliceStrings
import Derived.ChangeArms
import Derived.Laws.AppendOwnNone
import Derived.Test.YtojnlmfahgeidaaGreatDoorHBlkTxt
import Derived.Test.YtojnlmfahgeidaaGreatDoorHMath
import Derived.Handy
import Derived.Test.YtojnlmfahgeidaaGreatDoorHBytes
import Derived.Test.YtojnlmfahgeidaaGreatDoorHDiFillK
import Derived.Deep.Cut

namespace Go.Proofs.YtojnlmfahgeidaaGreatDoor
theorem sgLHDiRRem : (∀ (α : Type) (a : α) (l r : List α), (a :: l) ++ r = a :: (l ++ r)) ∧ (∀ (α : Type) (l : List α), [] ++ l = l) ∧ (∀ (α : Type) (l : List α), l ++ [] = l) ∧ (∀ (α β : Type) (f : α → Option β) (a : α) (l : List α), (a :: l).filterMap f = match f a with | none => l.filterMap f | some b => b :: l.filterMap f) ∧ (∀ (α β : Type) (f : α → Option β), [].filterMap f = []) ∧ (∀ (α : Type) (l : List α) (i : Nat), l.toArray[i]? = l[i]?) ∧ (∀ (α : Type) (a : α) (l : List α), (a :: l)[0]? = some a) ∧ (∀ (α : Type) (a : α) (l : List α) (i : Nat), (a :: l)[i + 1]? = l[i]?) :=
  ⟨fun _ _ _ _ => List.cons_append, fun _ _ => List.nil_append _, fun _ _ => List.append_nil _, fun _ _ _ _ _ => List.filterMap_cons, fun _ _ _ => List.filterMap_nil, fun _ _ _ => List.getElem?_toArray, fun _ _ _ => List.getElem?_cons_zero, fun _ _ _ _ => List.getElem?_cons_succ⟩
theorem sgPHDiRRem : (∀ (α : Type) (l : List α) (i : Nat) (a : α), l.toArray.setIfInBounds i a = (l.set i a).toArray) ∧ (∀ (α : Type) (a b : α) (l : List α), (a :: l).set 0 b = b :: l) ∧ (∀ (α : Type) (a b : α) (l : List α) (i : Nat), (a :: l).set (i + 1) b = a :: l.set i b) :=
  ⟨fun _ _ _ _ => List.setIfInBounds_toArray _ _ _, fun _ _ _ _ => List.set_cons_zero, fun _ _ _ _ _ => List.set_cons_succ⟩
end Go.Proofs.YtojnlmfahgeidaaGreatDoor
namespace Go.Proofs.YtojnlmfahgeidaaGreatDoor
open Go Go.RowKit Go.Nam
set_option linter.unusedVariables false
set_option linter.unusedSimpArgs false
abbrev Lk := Int × ByteArray
/-- the cells of entries -/
def lkR : List Lk → List Value
  | [] => []
  | x :: l => .int .i64 x.1 :: .string x.2 :: lkR l
theorem lkR_len : ∀ l : List Lk, (lkR l).length = l.length * 2
  | [] => rfl
  | x :: l => by simp [lkR, lkR_len l]; omega
theorem lkR_app : ∀ l m : List Lk, lkR (l ++ m) = lkR l ++ lkR m
  | [], m => rfl
  | x :: l, m => by simp [lkR, lkR_app l m]
theorem lkR_mem : ∀ (l : List Lk) (u : Value), u ∈ lkR l → u.oneCell' = true
  | [], u, h => by simp [lkR] at h
  | x :: l, u, h => by
    simp only [lkR, List.mem_cons] at h
    rcases h with rfl | rfl | h
    · rfl
    · rfl
    · exact lkR_mem l u h
theorem lkR_at : ∀ (l : List Lk) (i : Nat) (x : Lk), l[i]? = some x → (lkR l)[i * 2]? = some (.int .i64 x.1) ∧ (lkR l)[i * 2 + 1]? = some (.string x.2)
  | [], i, x, h => by simp at h
  | y :: l, 0, x, h => by simp at h; subst h; exact ⟨rfl, rfl⟩
  | y :: l, i + 1, x, h => by
    have ih := lkR_at l i x (by simpa using h)
    rw [show (i + 1) * 2 = i * 2 + 1 + 1 from by omega]
    exact ⟨ih.1, ih.2⟩
theorem lkR_take : ∀ (l : List Lk) (k : Nat), lkR (l.take k) = (lkR l).take (k * 2)
  | [], k => by simp [lkR]
  | x :: l, 0 => by simp [lkR]
  | x :: l, k + 1 => by rw [List.take_succ_cons, lkR, lkR, lkR_take l k, show (k + 1) * 2 = k * 2 + 1 + 1 from by omega]; rfl
theorem lkR_drop : ∀ (l : List Lk) (k : Nat), lkR (l.drop k) = (lkR l).drop (k * 2)
  | [], k => by simp [lkR]
  | x :: l, 0 => by simp
  | x :: l, k + 1 => by rw [List.drop_succ_cons, lkR, lkR_drop l k, show (k + 1) * 2 = k * 2 + 1 + 1 from by omega]; rfl
/-- the first n of N, S as a list -/
def liR (N : Nat → Int) (S : Nat → ByteArray) (n : Nat) : List Lk := (List.range n).map fun i => (N i, S i)
theorem liR_len (N : Nat → Int) (S : Nat → ByteArray) (n : Nat) : (liR N S n).length = n := by simp [liR]
theorem liR_get (N : Nat → Int) (S : Nat → ByteArray) (n i : Nat) (h : i < n) : (liR N S n)[i]? = some (N i, S i) := by simp [liR, h]
theorem liR_cells (N : Nat → Int) (S : Nat → ByteArray) : ∀ n, lkR (liR N S n) = lkL N S n
  | 0 => rfl
  | n + 1 => by
    have ih := liR_cells N S n
    unfold liR at ih ⊢
    rw [List.range_succ, List.map_append, lkR_app, ih, lkL]
    rfl
theorem li_of (R : List Lk) : R = liR (fun i => (R.getD i (0, ⟨#[]⟩)).1) (fun i => (R.getD i (0, ⟨#[]⟩)).2) R.length := by
  apply List.ext_getElem?
  intro i
  by_cases h : i < R.length
  · rw [liR_get _ _ _ _ h, List.getElem?_eq_getElem h]
    simp [List.getD, h]
  · rw [List.getElem?_eq_none (by omega), List.getElem?_eq_none (by rw [liR_len]; omega)]
/-- a permutation of places makes the same entries -/
theorem pm_perm {n : Nat} {s : Nat → Nat} (h : Pm 0 n s) : ((List.range n).map s).Perm (List.range n) := by
  have hnd : ((List.range n).map s).Nodup := by
    rw [List.Nodup, List.pairwise_map]
    exact List.Pairwise.imp (fun hne e => hne (h.2.2 _ _ e)) List.nodup_range
  rw [List.perm_ext_iff_of_nodup hnd List.nodup_range]
  have hin : ∀ y, y ∈ (List.range n).map s → y < n := fun y hy => by
    obtain ⟨p, hp, rfl⟩ := List.mem_map.1 hy
    exact (h.2.1 p (Nat.zero_le _) (List.mem_range.1 hp)).2
  intro x
  refine ⟨fun hx => List.mem_range.2 (hin x hx), fun hx => Classical.byContradiction fun hno => ?_⟩
  have hsub : (List.range n).map s ⊆ (List.range n).erase x := fun y hy => (List.mem_erase_of_ne (fun e => hno (by rw [← e]; exact hy))).2 (List.mem_range.2 (hin y hy))
  have hle := hnd.length_le_of_subset hsub
  rw [List.length_erase_of_mem hx] at hle
  have := List.mem_range.1 hx
  simp at hle
  omega
theorem en_perm (N : Nat → Int) (S : Nat → ByteArray) {n : Nat} {s : Nat → Nat} (h : Pm 0 n s) : (liR (fun p => N (s p)) (fun p => S (s p)) n).Perm (liR N S n) := by
  have := (pm_perm h).map fun i => (N i, S i)
  rw [List.map_map] at this
  exact this
/-- sorted, as a list -/
def SoR (R : List Lk) : Prop := R.Pairwise fun a b => ¬ LkL b a
theorem so_soR {N : Nat → Int} {S : Nat → ByteArray} {s : Nat → Nat} {n : Nat} (h : So LkL (EnS N S s) 0 n) : SoR (liR (fun p => N (s p)) (fun p => S (s p)) n) := by
  unfold SoR liR
  rw [List.pairwise_map]
  rw [List.pairwise_iff_getElem]
  intro i j hi hj hij
  simp only [List.getElem_range]
  exact h i j (Nat.zero_le _) hij (by simpa using hj)
theorem soR_eq {R Q : List Lk} (h1 : SoR R) (h2 : SoR Q) (hp : R.Perm Q) : R = Q :=
  hp.eq_of_pairwise (fun a b _ _ k1 k2 => lk_eq k2 k1) h1 h2
theorem lk_irr (x : Lk) : ¬ LkL x x := fun h => lk_A x x h h
/-- one entry put where it belongs -/
theorem soR_put {R : List Lk} {x : Lk} {k : Nat} (h : SoR R) (hk : k ≤ R.length) (hl : k = 0 ∨ ∃ y, R[k - 1]? = some y ∧ ¬ LkL x y) (hr : ∀ j y, k ≤ j → R[j]? = some y → LkL x y) : SoR (R.take k ++ ([x] ++ R.drop k)) := by
  unfold SoR
  rw [List.pairwise_append]
  refine ⟨h.sublist (List.take_sublist _ _), ?_, ?_⟩
  · rw [List.singleton_append, List.pairwise_cons]
    refine ⟨fun y hy => ?_, h.sublist (List.drop_sublist _ _)⟩
    obtain ⟨j, hj, e⟩ := List.getElem_of_mem hy
    rw [List.getElem_drop] at e
    exact lk_A _ _ (hr (k + j) y (by omega) (by rw [← e]; exact List.getElem?_eq_getElem _))
  · intro a ha b hb
    obtain ⟨i, hi, e⟩ := List.getElem_of_mem ha
    rw [List.length_take] at hi
    rw [List.getElem_take] at e
    have hik : i < k := by omega
    rcases hl with h0 | ⟨y, hy, hxy⟩
    · omega
    have hk1 : k - 1 < R.length := (List.getElem?_eq_some_iff.1 hy).1
    have hy2 := (List.getElem?_eq_some_iff.1 hy).2
    have hay : ¬ LkL y a := by
      by_cases c : i = k - 1
      · subst c; rw [← e, hy2]; exact lk_irr _
      · have := (List.pairwise_iff_getElem.1 h) i (k - 1) (by omega) hk1 (by omega)
        rw [hy2, e] at this
        exact this
    rw [List.singleton_append, List.mem_cons] at hb
    rcases hb with rfl | hb
    · exact lk_T _ _ _ hay hxy
    · obtain ⟨j, hj, e2⟩ := List.getElem_of_mem hb
      rw [List.length_drop] at hj
      rw [List.getElem_drop] at e2
      have := (List.pairwise_iff_getElem.1 h) i (k + j) (by omega) (by omega) (by omega)
      rw [e, e2] at this
      exact this
theorem put_perm (R : List Lk) (x : Lk) (k : Nat) : (R.take k ++ ([x] ++ R.drop k)).Perm (R ++ [x]) := by
  have h1 : (R.take k ++ ([x] ++ R.drop k)).Perm (R.take k ++ (R.drop k ++ [x])) := List.Perm.append_left _ (List.perm_append_comm)
  have e : R.take k ++ (R.drop k ++ [x]) = R ++ [x] := by rw [← List.append_assoc, List.take_append_drop]
  rw [e] at h1
  exact h1
/-- entries in the memory from a place on -/
def IsR (w : World) (b o : Nat) (M : List Lk) : Prop := ∀ j u, (lkR M)[j]? = some u → w.cell? ⟨b, o + j, none⟩ = some u
theorem IsR.take {w : World} {b o : Nat} {M : List Lk} (h : IsR w b o M) (k : Nat) : IsR w b o (M.take k) := fun j u hu => by
  rw [lkR_take, List.getElem?_take] at hu
  split at hu
  · exact h j u hu
  · cases hu
theorem IsR.drop {w : World} {b o : Nat} {M : List Lk} (h : IsR w b o M) (k : Nat) : IsR w b (o + k * 2) (M.drop k) := fun j u hu => by
  rw [lkR_drop, List.getElem?_drop] at hu
  rw [Nat.add_assoc]
  exact h _ u hu
theorem IsR.below {w w' : World} {b o B : Nat} {M : List Lk} (h : IsR w b o M) (hb : Below B w w') (hB : b < B) : IsR w' b o M := fun j u hu => (hb.cell (p := ⟨b, o + j, none⟩) hB).trans (h j u hu)
theorem own_isR {w : World} {B e n cap g : Nat} {M : List Lk} (h : w.ownsRow B e 2 (.slice (some ⟨g, 0, none⟩) n cap) n (lkR M)) : IsR w g 0 M := fun j u hu => by
  have h1 := h.1
  have h2 := (List.getElem?_eq_some_iff.1 hu).1
  rw [Nat.zero_add, h.cellAt j (by omega)]
  exact hu
/-- append(own, entries...) -/
theorem wpList_append_lks {P : Program} {ops : Array Oper} {rest : List Oper} {o : Oper} {a : Act} {w : World} {Q : Exit → Act → World → Prop} (hgd : o.guard = none) (s x : Operand) (t : TypeId)
    (ho : o.op = .call { callee := .builtin .append, args := #[s, x], argTypes := #[t, t] }) (B : Nat) (e : TypeId) (i : TypeInfo) (z : Value) (ht : P.underlying t = some (.slice e)) (hi : P.info? e = some i) (hz : i.zero = some z) (hsize : i.size = 2) (hby : i.bytes = 24) (hzs : z.cells.size = 2)
    (v : Value) (A : List Lk) (k : Nat) (hk : k = A.length) (hs : a.eval s = v) (hown : w.ownsRow B e 2 v k (lkR A)) (b of m c : Nat) (M : List Lk) (hm : m = M.length) (hx : a.eval x = .slice (some ⟨b, of, none⟩) m c) (hA : IsR w b of M) (hn : (A.length + M.length) * 24 ≤ 140737488355328) (hbase : B ≤ w.heap.size)
    (h : ∀ v' w', w'.ownsRow B e 2 v' (k + m) (lkR (A ++ M)) → Below B w w' → w.grownBy w' v.ownBlock → wpList P ops Q rest (a.put o.dst v') w') : wpList P ops Q (o :: rest) a w := by
  have hv := hown.lt
  refine wpList_append_own _ hgd s x t ho B e i z 2 24 ht hi hz hsize hby hzs (by decide) v k (lkR A) hs hown ⟨b, of, none⟩ m c (lkR M) hx (by rw [lkR_len, hm]) (fun j u hu => ?_) (lkR_mem M) (by unfold maxLen; omega) (by omega) hbase fun v' w' h1 h2 _ => ?_
  · rw [Addr.add_mid]; exact hA j u hu
  · rw [← lkR_app] at h1
    exact h v' w' h1 ((Below.refl _ _).grown h2 hbase (fun k hk => (hv k hk).1)) h2
end Go.Proofs.YtojnlmfahgeidaaGreatDoor

namespace Go.Proofs.YtojnlmfahgeidaaGreatDoor
open Go.ChangeShapes Go.WideShapes Go.ChangeAt Go.RowKit Go.Joins
set_option linter.unusedVariables false
set_option linter.unusedSimpArgs false
theorem lkL_mem (N : Nat → Int) (S : Nat → ByteArray) : ∀ n u, u ∈ lkL N S n → u.oneCell' = true
  | 0, u, h => by simp [lkL] at h
  | n + 1, u, h => by
    rw [lkL, List.mem_append] at h
    rcases h with h | h
    · exact lkL_mem N S n u h
    · simp at h
      rcases h with rfl | rfl <;> rfl
theorem lkL_get (N : Nat → Int) (S : Nat → ByteArray) : ∀ n j u, (lkL N S n)[j]? = some u → ∃ i, i < n ∧ ((j = i * 2 ∧ u = .int .i64 (N i)) ∨ (j = i * 2 + 1 ∧ u = .string (S i)))
  | 0, j, u, h => by simp [lkL] at h
  | n + 1, j, u, h => by
    have hl := lkL_len N S n
    rw [lkL] at h
    by_cases hj : j < n * 2
    · rw [List.getElem?_append_left (by omega)] at h
      obtain ⟨i, hi, hh⟩ := lkL_get N S n j u h
      exact ⟨i, by omega, hh⟩
    · rw [List.getElem?_append_right (by omega), hl] at h
      have hlt : j - n * 2 < 2 := by have := (List.getElem?_eq_some_iff.1 h).1; simpa using this
      by_cases e : j = n * 2
      · rw [e, Nat.sub_self] at h
        simp at h
        exact ⟨n, by omega, Or.inl ⟨e, h.symm⟩⟩
      · have e2 : j = n * 2 + 1 := by omega
        rw [e2, show n * 2 + 1 - n * 2 = 1 from by omega] at h
        simp at h
        exact ⟨n, by omega, Or.inr ⟨e2, h.symm⟩⟩
theorem wpList_append_links {P : Program} {ops : Array Oper} {rest : List Oper} {o : Oper} {a : Act} {w : World} {Q : Exit → Act → World → Prop} (hgd : o.guard = none) (s x : Operand) (t : TypeId)
    (ho : o.op = .call { callee := .builtin .append, args := #[s, x], argTypes := #[t, t] }) (B : Nat) (e : TypeId) (i : TypeInfo) (z : Value) (ht : P.underlying t = some (.slice e)) (hi : P.info? e = some i) (hz : i.zero = some z) (hsize : i.size = 2) (hby : i.bytes = 24) (hzs : z.cells.size = 2)
    (v : Value) (hs : a.eval s = v) (hown : w.ownsRow B e 2 v 0 []) (a1 : Option Addr) (n c : Nat) (N : Nat → Int) (S : Nat → ByteArray) (hx : a.eval x = .slice a1 n c) (hA : IsLkC w a1 n N S) (hN : a1 = none → n = 0 ∧ c = 0) (hn : n * 24 ≤ 140737488355328) (hbase : B ≤ w.heap.size)
    (h : ∀ v' w', w'.ownsRow B e 2 v' n (lkL N S n) → Below B w w' → wpList P ops Q rest (a.put o.dst v') w') : wpList P ops Q (o :: rest) a w := by
  cases a1 with
  | none =>
    obtain ⟨rfl, rfl⟩ := hN rfl
    exact wpList_append_own_none hgd s x t ho B e i 2 ht hi v 0 [] hs hown hx (h v w hown (Below.refl _ _))
  | some ad =>
    have hv := hown.lt
    refine wpList_append_own _ hgd s x t ho B e i z 2 24 ht hi hz hsize hby hzs (by decide) v 0 [] hs hown ad n c (lkL N S n) hx (lkL_len N S n) (fun j u hu => ?_) (lkL_mem N S n) (by unfold maxLen; omega) (by omega) hbase fun v' w' h1 h2 _ => ?_
    · obtain ⟨k, hk, hh⟩ := lkL_get N S n j u hu
      obtain ⟨b, o2, e1, _, c0, c1⟩ := hA k hk
      injection e1 with e2
      subst e2
      rcases hh with ⟨rfl, rfl⟩ | ⟨rfl, rfl⟩
      · rw [Addr.add_mid]; exact c0
      · rw [Addr.add_mid, ← Nat.add_assoc]; exact c1
    · rw [List.nil_append, Nat.zero_add] at h1
      exact h v' w' h1 ((Below.refl _ _).grown h2 hbase (fun k hk => (hv k hk).1))
end Go.Proofs.YtojnlmfahgeidaaGreatDoor

namespace Go.Proofs.YtojnlmfahgeidaaGreatDoor
open Go Go.RowKit
set_option linter.unusedSimpArgs false
set_option linter.unusedVariables false
set_option maxRecDepth 100000 in
set_option maxHeartbeats 4000000 in
/-- Add that fails: the list itself, and why -/
theorem radd17_no (a : Option Addr) (n c : Nat) (hn : n ≤ 140737488351232) (N : Nat → Int) (S : Nat → ByteArray) (i : Int) (s : ByteArray) (p : Nat) (hp : FirstN S n p s) (r : Int) (hr : r = if encE i s ≠ 0 then encE i s else if p < n then 172 else 173) (hb : encE i s ≠ 0 ∨ p < n ∨ 16384 ≤ n) (w : World) (hI : IsLkC w a n N S) : Calls Tryz.prog 51 #[.slice a n c, lkV i s] w fun e w' => e = .returned (.tuple #[.slice a n c, .int .i64 r]) ∧ Below w.heap.size w w' := by
  have HE : Hid (∀ w : World, Calls Tryz.prog 112 #[lkV i s] w fun e w' => e = .returned (.tuple #[.string (encT i s), .int .i64 (encE i s)]) ∧ Below w.heap.size w w') := rencode_any i s
  have HF : Hid (∀ W, Below w.heap.size w W → Calls Tryz.prog 20 #[.slice a n c, .string s] W fun e w' => e = .returned (.tuple #[.int .i64 (if p < n then N p else 0), .int .i64 (if p < n then (p : Int) else -1)]) ∧ w' = W) := fun W hW => rfind17_any a n c p hn N S s hp _ _ rfl rfl W (hI.below hW)
  have HR : Hid (r = if encE i s ≠ 0 then encE i s else if p < n then 172 else 173) := hr
  clear hr hI hp
  generalize encT i s = ET at *
  generalize encE i s = EE at *
  unfold lkV at *
  have b0 : Blk (w.alloc (.cells #[.int .i64 i, .string s] 58)) w.heap.size 58 #[.int .i64 i, .string s] := Blk.new _ _ _
  have HB0 : Hid (Below w.heap.size w (w.alloc (.cells #[.int .i64 i, .string s] 58))) := below_new1 _ _
  have c0 : (w.alloc (.cells #[.int .i64 i, .string s] 58)).cell? ⟨w.heap.size, 0, none⟩ = some (.int .i64 i) := (b0.cell 0).trans rfl
  have c1 : (w.alloc (.cells #[.int .i64 i, .string s] 58)).cell? ⟨w.heap.size, 1, none⟩ = some (.string s) := (b0.cell 1).trans rfl
  go_enter Tryz.func51, Tryz.ntmps51
  go_wp2_with fail
  generalize (w.alloc (.cells #[.int .i64 i, .string s] 58)) = w0 at *
  refine (HE.out _).mono ?_
  rintro e w1 ⟨rfl, hb1⟩
  have HB1 : Hid (Below w.heap.size w w1) := HB0.out.trans (hb1.mono HB0.out.size)
  have b1 := b0.below hb1 b0.lt
  clear c0 c1 hb1 b0 HB0 HE
  have c1 : w1.cell? ⟨w.heap.size, 1, none⟩ = some (.string s) := (b1.cell 1).trans rfl
  by_cases h0 : EE = 0
  · subst h0
    have HF1 := HF.out w1 HB1.out
    clear HF
    by_cases hq : p < n
    · have HR2 : Hid (r = 172) := by show r = 172; rw [HR.out, if_neg (by simp), if_pos hq]
      rw [if_pos hq, if_pos hq] at HF1
      have p0 : (0 : Int) ≤ (p : Int) := by omega
      generalize N p = NP at *
      clear HR hb b1
      go_wp2_with fail
      refine HF1.mono ?_
      rintro e w2 ⟨rfl, hw2⟩
      subst w2
      go_wp2_with fail
      go_ret2
      exact ⟨by rw [HR2.out]; rfl, HB1.out⟩
    · have HR2 : Hid (r = 173) := by show r = 173; rw [HR.out, if_neg (by simp), if_neg hq]
      rw [if_neg hq, if_neg hq] at HF1
      have hl : (16384 : Int) ≤ (n : Int) := by
        rcases hb with hb | hb | hb
        · exact absurd rfl hb
        · exact absurd hb hq
        · omega
      clear HR hb b1
      go_wp2_with fail
      refine HF1.mono ?_
      rintro e w2 ⟨rfl, hw2⟩
      subst w2
      go_wp2_with fail
      go_ret2
      exact ⟨by rw [HR2.out]; rfl, HB1.out⟩
  · have HR2 : Hid (r = EE) := by show r = EE; rw [HR.out, if_pos h0]
    clear HR hb b1 HF
    go_wp2_with fail
    go_ret2
    exact ⟨by rw [HR2.out]; rfl, HB1.out⟩
end Go.Proofs.YtojnlmfahgeidaaGreatDoor

namespace Go.Proofs.YtojnlmfahgeidaaGreatDoor
open Go Go.RowKit Go.Nam
set_option linter.unusedSimpArgs false
set_option linter.unusedVariables false
theorem wpList_append_links2 {P : Program} {ops : Array Oper} {rest : List Oper} {o : Oper} {a : Act} {w : World} {Q : Exit → Act → World → Prop} (hgd : o.guard = none) (s x : Operand) (t : TypeId)
    (ho : o.op = .call { callee := .builtin .append, args := #[s, x], argTypes := #[t, t] }) (B : Nat) (e : TypeId) (i : TypeInfo) (z : Value) (ht : P.underlying t = some (.slice e)) (hi : P.info? e = some i) (hz : i.zero = some z) (hsize : i.size = 2) (hby : i.bytes = 24) (hzs : z.cells.size = 2)
    (v : Value) (hs : a.eval s = v) (hown : w.ownsRow B e 2 v 0 []) (a1 : Option Addr) (n c : Nat) (N : Nat → Int) (S : Nat → ByteArray) (hx : a.eval x = .slice a1 n c) (hA : IsLkC w a1 n N S) (hN : a1 = none → n = 0 ∧ c = 0) (hn : n * 24 ≤ 140737488355328) (hbase : B ≤ w.heap.size)
    (h : ∀ v' w', w'.ownsRow B e 2 v' n (lkL N S n) → Below B w w' → w.grownBy w' v.ownBlock → wpList P ops Q rest (a.put o.dst v') w') : wpList P ops Q (o :: rest) a w := by
  cases a1 with
  | none =>
    obtain ⟨rfl, rfl⟩ := hN rfl
    exact wpList_append_own_none hgd s x t ho B e i 2 ht hi v 0 [] hs hown hx (h v w hown (Below.refl _ _) ⟨rfl, rfl, rfl, Nat.le_refl _, fun _ _ _ => rfl⟩)
  | some ad =>
    have hv := hown.lt
    refine wpList_append_own _ hgd s x t ho B e i z 2 24 ht hi hz hsize hby hzs (by decide) v 0 [] hs hown ad n c (lkL N S n) hx (lkL_len N S n) (fun j u hu => ?_) (lkL_mem N S n) (by unfold maxLen; omega) (by omega) hbase fun v' w' h1 h2 _ => ?_
    · obtain ⟨k, hk, hh⟩ := lkL_get N S n j u hu
      obtain ⟨b, o2, e1, _, c0, c1⟩ := hA k hk
      injection e1 with e2
      subst e2
      rcases hh with ⟨rfl, rfl⟩ | ⟨rfl, rfl⟩
      · rw [Addr.add_mid]; exact c0
      · rw [Addr.add_mid, ← Nat.add_assoc]; exact c1
    · rw [List.nil_append, Nat.zero_add] at h1
      exact h v' w' h1 ((Below.refl _ _).grown h2 hbase (fun k hk => (hv k hk).1)) h2

theorem va_lbR (N : Nat → Int) (S : Nat → ByteArray) (n : Nat) : (va (n * 2) (lbF N S)).toList = lkL N S n := by
  apply List.ext_getElem?
  intro q
  by_cases h : q < n * 2
  · rw [Array.getElem?_toList, va_at _ h]
    unfold lbF
    have := dlk_at N S n (q / 2) (by omega)
    by_cases e : q % 2 = 0
    · rw [if_pos e, ← this.1]
      congr 1
      omega
    · rw [if_neg e, ← this.2]
      congr 1
      omega
  · rw [List.getElem?_eq_none (by rw [Array.length_toList, va_size]; omega), List.getElem?_eq_none (by rw [lkL_len]; omega)]
theorem own_lbR {w : World} {B t n cap g : Nat} {N : Nat → Int} {S : Nat → ByteArray} (h : w.ownsRow B t 2 (.slice (some ⟨g, 0, none⟩) n cap) n (lkL N S n)) : ∃ tl : Array Value, Blk w g t (lbC tl n N S) ∧ tl.size = (cap - n) * 2 ∧ n ≤ cap ∧ cap ≤ maxLen ∧ B ≤ g := by
  rcases h.2 with ⟨hv, _⟩ | ⟨g', cap', cur, hv, hB, hg, hn, hm, hs, ht⟩
  · cases hv
  · cases hv
    refine ⟨(cur.toList.drop (n * 2)).toArray, ?_, ?_, hn, hm, hB⟩
    · have e : lbC (cur.toList.drop (n * 2)).toArray n N S = cur := by
        apply Array.ext'
        unfold lbC
        rw [Array.toList_append, va_lbR, ← ht]
        simp
      rw [e]
      exact hg
    · simp
      rw [hs]
      omega

theorem lb_lkC {w : World} {g t n m : Nat} {N : Nat → Int} {S : Nat → ByteArray} {tl : Array Value} (h : Blk w g t (lbC tl n N S)) (hm : m ≤ n) : IsLkC w (some ⟨g, 0, none⟩) m N S := fun i hi => ⟨g, 0, rfl, h.lt, by rw [Nat.zero_add]; exact lb_c0 h i (by omega), by rw [Nat.zero_add]; exact lb_c1 h i (by omega)⟩
theorem own_lkC {w : World} {B t n cap g : Nat} {N : Nat → Int} {S : Nat → ByteArray} (h : w.ownsRow B t 2 (.slice (some ⟨g, 0, none⟩) n cap) n (lkL N S n)) : IsLkC w (some ⟨g, 0, none⟩) n N S := by
  obtain ⟨tl, h1, _⟩ := own_lbR h
  exact lb_lkC h1 (Nat.le_refl _)
theorem lkL_snoc (N : Nat → Int) (S : Nat → ByteArray) (n : Nat) (i : Int) (s : ByteArray) : lkR (liR N S n ++ [(i, s)]) = lkL (upN N n i) (upS S n s) (n + 1) := by
  rw [← liR_cells]
  congr 1
  unfold liR
  rw [List.range_succ, List.map_append]
  congr 1
  · refine List.map_congr_left fun q hq => ?_
    have := List.mem_range.1 hq
    unfold upN upS
    rw [if_neg (by omega), if_neg (by omega)]
  · simp [upN, upS]
end Go.Proofs.YtojnlmfahgeidaaGreatDoor

namespace Go.Proofs.YtojnlmfahgeidaaGreatDoor
open Go Go.RowKit Go.Nam
set_option linter.unusedSimpArgs false
set_option linter.unusedVariables false
set_option maxRecDepth 100000 in
set_option maxHeartbeats 8000000 in
theorem radd17_ok (a : Option Addr) (n c : Nat) (hn : n < 16384) (hN : a = none → n = 0 ∧ c = 0) (N : Nat → Int) (S : Nat → ByteArray) (i : Int) (s : ByteArray) (p : Nat) (hp : FirstN S n p s) (hpn : ¬ p < n) (hi : encE i s = 0) (w : World) (hI : IsLkC w a n N S) :
    Calls Tryz.prog 51 #[.slice a n c, lkV i s] w fun e w' => ∃ g5 c5 : Nat, e = .returned (.tuple #[.slice (some ⟨g5, 0, none⟩) (n + 1) c5, .int .i64 0]) ∧ IsLkC w' (some ⟨g5, 0, none⟩) (n + 1) (upN N n i) (upS S n s) ∧ w.heap.size ≤ g5 ∧ Below w.heap.size w w' := by
  obtain ⟨i0, hi0, hz0, hz1, hz2⟩ := info_parts infoRLk
  have HE : Hid (∀ w : World, Calls Tryz.prog 112 #[lkV i s] w fun e w' => e = .returned (.tuple #[.string (encT i s), .int .i64 0]) ∧ Below w.heap.size w w') := fun w => by
    have := rencode_any i s w
    rw [hi] at this
    exact this
  have HF : Hid (∀ W, Below w.heap.size w W → Calls Tryz.prog 20 #[.slice a n c, .string s] W fun e w' => e = .returned (.tuple #[.int .i64 0, .int .i64 (-1)]) ∧ w' = W) := fun W hW => by
    have := rfind17_any a n c p (by omega) N S s hp _ _ rfl rfl W (hI.below hW)
    rw [if_neg hpn, if_neg hpn] at this
    exact this
  have HII : Hid (IsLkC w a n N S) := hI
  have HNN : Hid (a = none → n = 0 ∧ c = 0) := hN
  have HBD : Hid (((liR N S n).length + [((i, s) : Lk)].length) * 24 ≤ 140737488355328) := by show _ ≤ _; rw [liR_len]; simp; omega
  have hl : (n : Int) < 16384 := by omega
  clear hI hN hp hpn hi
  generalize encT i s = ET at *
  unfold lkV at *
  have b0 : Blk (w.alloc (.cells #[.int .i64 i, .string s] 58)) w.heap.size 58 #[.int .i64 i, .string s] := Blk.new _ _ _
  have HB0 : Hid (Below w.heap.size w (w.alloc (.cells #[.int .i64 i, .string s] 58))) := below_new1 _ _
  have c0 : (w.alloc (.cells #[.int .i64 i, .string s] 58)).cell? ⟨w.heap.size, 0, none⟩ = some (.int .i64 i) := (b0.cell 0).trans rfl
  have c1 : (w.alloc (.cells #[.int .i64 i, .string s] 58)).cell? ⟨w.heap.size, 1, none⟩ = some (.string s) := (b0.cell 1).trans rfl
  go_enter Tryz.func51, Tryz.ntmps51
  go_wp2_with fail
  generalize (w.alloc (.cells #[.int .i64 i, .string s] 58)) = w0 at *
  refine (HE.out _).mono ?_
  rintro e W0 ⟨rfl, hb1⟩
  have HB1 : Hid (Below w.heap.size w W0) := HB0.out.trans (hb1.mono HB0.out.size)
  have b1 := b0.below hb1 b0.lt
  clear c0 c1 hb1 b0 HB0 HE
  have c1 : W0.cell? ⟨w.heap.size, 1, none⟩ = some (.string s) := (b1.cell 1).trans rfl
  have HB0 : Hid (Below w.heap.size w W0 ∧ Blk W0 w.heap.size 58 #[.int .i64 i, .string s]) := ⟨HB1.out, b1⟩
  have HBD0 : Hid (Below w.heap.size w W0.drew ∧ Blk W0.drew w.heap.size 58 #[.int .i64 i, .string s]) := ⟨HB1.out.drew, b1⟩
  have HIA : Hid (∀ U : World, Below W0.heap.size W0 U → IsLkC U a n N S) := fun U hU => (HII.out.below HB1.out).below hU
  have HF1 := HF.out W0 HB1.out
  clear HF b1
  go_wp2_with fail
  refine HF1.mono ?_
  rintro e w2 ⟨rfl, hw2⟩
  subst w2
  clear HF1 c1
  go_wp2_with fail
  refine wp_region_plan (fun U => Below w.heap.size w U ∧ Blk U w.heap.size 58 #[.int .i64 i, .string s]) (.yield [1] 3 (.fork 0 4 (.fork 2 4 (.force [] 4 (.force [] 5 (.fin [6, 7]))) (.force [] 2 (.force [] 5 (.fin [6, 7])))) (.force [] 0 (.force [] 2 (.force [] 5 (.fin [6, 7])))))) (by kernel_rfl) (by kernel_rfl) HBD0.out (plan_yield ?_)
  simp only [sgLHDiRRem]
  go_wp2_with fail
  first
    | refine ⟨rfl, _, .agg #[.int .i64 i, .string s], rfl, Or.inl ⟨by rfl, fun U hU => by have c8 := (hU.2.cell 0).trans rfl; have c9 := (hU.2.cell 1).trans rfl; go_simp⟩, plan_fork ?_ ?_⟩
    | refine ⟨rfl, .agg #[.int .i64 i, .string s], Or.inl ⟨by rfl, fun U hU => by have c8 := (hU.2.cell 0).trans rfl; have c9 := (hU.2.cell 1).trans rfl; go_simp⟩, plan_fork ?_ ?_⟩
  · simp only [Act.put, sgPHDiRRem]
    simp only [sgLHDiRRem]
    have HEA : Hid (((W0.alloc (.cells #[] 58)).drew).ownsRow W0.heap.size 58 2 (.slice (some ⟨W0.heap.size, 0, none⟩) 0 0) 0 []) := (kown_empty (Blk.new W0 58 #[]) (Nat.le_refl _)).drew
    have HSA : Hid (Below W0.heap.size W0 ((W0.alloc (.cells #[] 58)).drew)) := ((Below.refl _ W0).alloc (Nat.le_refl _) _).drew
    have HBA : Hid (Below w.heap.size w ((W0.alloc (.cells #[] 58)).drew) ∧ Blk ((W0.alloc (.cells #[] 58)).drew) w.heap.size 58 #[.int .i64 i, .string s]) := ⟨HB0.out.1.trans ((HSA.out).mono HB0.out.1.size), HB0.out.2.below (HSA.out) HB0.out.2.lt⟩
    go_wp2_with fail
    refine ⟨rfl, HBA.out, plan_fork ?_ ?_⟩
    · simp only [sgLHDiRRem]
      have HE0 : Hid _ := HEA.out
      have HS1 : Hid _ := HSA.out
      refine wpList_append_links2 rfl _ _ 28 rfl W0.heap.size 58 i0 (.agg #[.int .i64 0, .string ⟨#[]⟩]) Tryz.underlying28 hi0 hz0 hz1 hz2 rfl (.slice (some ⟨W0.heap.size, 0, none⟩) 0 0) rfl HE0.out a n c N S rfl (HIA.out _ HS1.out) HNN.out (by omega) HS1.out.size ?_
      intro v2 U2 ho2 hb2 hg2
      obtain ⟨q2, c2, rfl⟩ := kown_slice ho2
      have HO2 : Hid (U2.ownsRow W0.heap.size 58 2 (.slice q2 n c2) n (lkR (liR N S n))) := by rw [liR_cells]; exact ho2
      have HS2 : Hid (Below W0.heap.size W0 U2) := HS1.out.trans (hb2.mono (Nat.le_refl _))
      have HB2 : Hid (Below w.heap.size w U2 ∧ Blk U2 w.heap.size 58 #[.int .i64 i, .string s]) := ⟨HB0.out.1.trans ((HS2.out).mono HB0.out.1.size), HB0.out.2.below (HS2.out) HB0.out.2.lt⟩
      clear ho2 hb2 hg2
      go_wp2_with fail
      refine ⟨rfl, HB2.out, plan_force ?_⟩
      simp only [sgLHDiRRem]
      have HX4 : Hid (IsR (U2.alloc (.cells #[.int .i64 i, .string s] 58)) U2.heap.size 0 [(i, s)]) := fun j u hu => by
        have := cells_new2L U2 (.int .i64 i) (.string s) 58 j u hu
        rwa [Addr.add_mid] at this
      have HO2' : Hid ((U2.alloc (.cells #[.int .i64 i, .string s] 58)).ownsRow W0.heap.size 58 2 (.slice q2 n c2) n (lkR (liR N S n))) := HO2.out.alloc _
      have HS2' : Hid (Below W0.heap.size W0 (U2.alloc (.cells #[.int .i64 i, .string s] 58))) := HS2.out.alloc HS2.out.size _
      have HB2' : Hid (Below w.heap.size w (U2.alloc (.cells #[.int .i64 i, .string s] 58)) ∧ Blk (U2.alloc (.cells #[.int .i64 i, .string s] 58)) w.heap.size 58 #[.int .i64 i, .string s]) := ⟨HB0.out.1.trans ((HS2'.out).mono HB0.out.1.size), HB0.out.2.below (HS2'.out) HB0.out.2.lt⟩
      go_wp2_with fail
      refine ⟨rfl, HB2'.out, plan_force ?_⟩
      simp only [sgLHDiRRem]
      clear HO2 HS2 HB2
      have HO2 : Hid _ := HO2'.out
      have HS2 : Hid _ := HS2'.out
      refine wpList_append_lks rfl _ _ 28 rfl W0.heap.size 58 i0 (.agg #[.int .i64 0, .string ⟨#[]⟩]) Tryz.underlying28 hi0 hz0 hz1 hz2 rfl (.slice q2 n c2) (liR N S n) n (liR_len N S n).symm rfl HO2.out U2.heap.size 0 1 1 [(i, s)] rfl rfl HX4.out HBD.out HS2.out.size ?_
      intro v5 U5 ho5 hb5 hg5
      have HS5 : Hid (Below W0.heap.size W0 U5) := HS2.out.trans (hb5.mono (Nat.le_refl _))
      have HB5 : Hid (Below w.heap.size w U5 ∧ Blk U5 w.heap.size 58 #[.int .i64 i, .string s]) := ⟨HB0.out.1.trans ((HS5.out).mono HB0.out.1.size), HB0.out.2.below (HS5.out) HB0.out.2.lt⟩
      obtain ⟨g5, c5, rfl, _⟩ := kown_form ho5 (by omega)
      rw [lkL_snoc] at ho5
      have HI5 : Hid (IsLkC U5 (some ⟨g5, 0, none⟩) (n + 1) (upN N n i) (upS S n s)) := own_lkC ho5
      have HGE : Hid (w.heap.size ≤ g5) := by
        obtain ⟨_, _, _, _, _, hBg⟩ := own_lbR ho5
        exact Nat.le_trans HB0.out.1.size hBg
      clear ho5 hb5 hg5
      go_wp2_with fail
      refine ⟨rfl, HB5.out, plan_fin ?_⟩
      simp only [sgLHDiRRem]
      go_wp2_with fail
      refine ⟨rfl, ?_⟩
      go_wp2_with fail
      go_ret2
      exact ⟨g5, c5, rfl, HI5.out, HGE.out, HB5.out.1⟩
    · simp only [sgLHDiRRem]
      have HX9 : Hid (IsR (((W0.alloc (.cells #[] 58)).alloc (.cells #[.int .i64 i, .string s] 58)).drew) (W0.heap.size + 1) 0 [(i, s)]) := fun j u hu => by
        have := cells_new2L (W0.alloc (.cells #[] 58)) (.int .i64 i) (.string s) 58 j u hu
        rw [Addr.add_mid] at this
        simpa using this
      have HE0 : Hid ((((W0.alloc (.cells #[] 58)).alloc (.cells #[.int .i64 i, .string s] 58)).drew).ownsRow W0.heap.size 58 2 (.slice (some ⟨W0.heap.size, 0, none⟩) 0 0) 0 []) := ((kown_empty (Blk.new W0 58 #[]) (Nat.le_refl _)).alloc _).drew
      have HS1 : Hid (Below W0.heap.size W0 (((W0.alloc (.cells #[] 58)).alloc (.cells #[.int .i64 i, .string s] 58)).drew)) := (((Below.refl _ W0).alloc (Nat.le_refl _) _).alloc (by simp) _).drew
      have HBS1 : Hid (Below w.heap.size w (((W0.alloc (.cells #[] 58)).alloc (.cells #[.int .i64 i, .string s] 58)).drew) ∧ Blk (((W0.alloc (.cells #[] 58)).alloc (.cells #[.int .i64 i, .string s] 58)).drew) w.heap.size 58 #[.int .i64 i, .string s]) := ⟨HB0.out.1.trans ((HS1.out).mono HB0.out.1.size), HB0.out.2.below (HS1.out) HB0.out.2.lt⟩
      go_wp2_with fail
      refine ⟨rfl, HBS1.out, plan_force ?_⟩
      simp only [sgLHDiRRem]
      refine wpList_append_links2 rfl _ _ 28 rfl W0.heap.size 58 i0 (.agg #[.int .i64 0, .string ⟨#[]⟩]) Tryz.underlying28 hi0 hz0 hz1 hz2 rfl (.slice (some ⟨W0.heap.size, 0, none⟩) 0 0) rfl HE0.out a n c N S rfl (HIA.out _ HS1.out) HNN.out (by omega) HS1.out.size ?_
      intro v2 U2 ho2 hb2 hg2
      obtain ⟨q2, c2, rfl⟩ := kown_slice ho2
      have HO2 : Hid (U2.ownsRow W0.heap.size 58 2 (.slice q2 n c2) n (lkR (liR N S n))) := by rw [liR_cells]; exact ho2
      have HS2 : Hid (Below W0.heap.size W0 U2) := HS1.out.trans (hb2.mono (Nat.le_refl _))
      have HB2 : Hid (Below w.heap.size w U2 ∧ Blk U2 w.heap.size 58 #[.int .i64 i, .string s]) := ⟨HB0.out.1.trans ((HS2.out).mono HB0.out.1.size), HB0.out.2.below (HS2.out) HB0.out.2.lt⟩
      have HX4 : Hid (IsR U2 (W0.heap.size + 1) 0 [(i, s)]) := fun j u hu => hg2.cell (HX9.out j u hu) (by simp [Value.ownBlock])
      clear ho2 hb2 hg2
      go_wp2_with fail
      refine ⟨rfl, HB2.out, plan_force ?_⟩
      simp only [sgLHDiRRem]
      refine wpList_append_lks rfl _ _ 28 rfl W0.heap.size 58 i0 (.agg #[.int .i64 0, .string ⟨#[]⟩]) Tryz.underlying28 hi0 hz0 hz1 hz2 rfl (.slice q2 n c2) (liR N S n) n (liR_len N S n).symm rfl HO2.out (W0.heap.size + 1) 0 1 1 [(i, s)] rfl rfl HX4.out HBD.out HS2.out.size ?_
      intro v5 U5 ho5 hb5 hg5
      have HS5 : Hid (Below W0.heap.size W0 U5) := HS2.out.trans (hb5.mono (Nat.le_refl _))
      have HB5 : Hid (Below w.heap.size w U5 ∧ Blk U5 w.heap.size 58 #[.int .i64 i, .string s]) := ⟨HB0.out.1.trans ((HS5.out).mono HB0.out.1.size), HB0.out.2.below (HS5.out) HB0.out.2.lt⟩
      obtain ⟨g5, c5, rfl, _⟩ := kown_form ho5 (by omega)
      rw [lkL_snoc] at ho5
      have HI5 : Hid (IsLkC U5 (some ⟨g5, 0, none⟩) (n + 1) (upN N n i) (upS S n s)) := own_lkC ho5
      have HGE : Hid (w.heap.size ≤ g5) := by
        obtain ⟨_, _, _, _, _, hBg⟩ := own_lbR ho5
        exact Nat.le_trans HB0.out.1.size hBg
      clear ho5 hb5 hg5
      go_wp2_with fail
      refine ⟨rfl, HB5.out, plan_fin ?_⟩
      simp only [sgLHDiRRem]
      go_wp2_with fail
      refine ⟨rfl, ?_⟩
      go_wp2_with fail
      go_ret2
      exact ⟨g5, c5, rfl, HI5.out, HGE.out, HB5.out.1⟩
  · simp only [Act.put, sgPHDiRRem]
    simp only [sgLHDiRRem]
    have HSB : Hid (Below W0.heap.size W0 ((W0.alloc (.cells #[.int .i64 i, .string s] 58)).drew)) := ((Below.refl _ W0).alloc (Nat.le_refl _) _).drew
    have HBB : Hid (Below w.heap.size w ((W0.alloc (.cells #[.int .i64 i, .string s] 58)).drew) ∧ Blk ((W0.alloc (.cells #[.int .i64 i, .string s] 58)).drew) w.heap.size 58 #[.int .i64 i, .string s]) := ⟨HB0.out.1.trans ((HSB.out).mono HB0.out.1.size), HB0.out.2.below (HSB.out) HB0.out.2.lt⟩
    go_wp2_with fail
    refine ⟨rfl, HBB.out, plan_force ?_⟩
    simp only [sgLHDiRRem]
    have HX9 : Hid (IsR (((W0.alloc (.cells #[.int .i64 i, .string s] 58)).alloc (.cells #[] 58)).drew) W0.heap.size 0 [(i, s)]) := fun j u hu => by
      have h1 := cells_new2L W0 (.int .i64 i) (.string s) 58 j u hu
      rw [Addr.add_mid] at h1
      exact (((Below.refl _ (W0.alloc (.cells #[.int .i64 i, .string s] 58))).alloc (Nat.le_refl _) (.cells #[] 58)).cell (p := ⟨W0.heap.size, 0 + j, none⟩) (by simp)).trans h1
    have HE0 : Hid ((((W0.alloc (.cells #[.int .i64 i, .string s] 58)).alloc (.cells #[] 58)).drew).ownsRow W0.heap.size 58 2 (.slice (some ⟨W0.heap.size + 1, 0, none⟩) 0 0) 0 []) := by
      have := (kown_empty (size := 2) (B := W0.heap.size) (Blk.new (W0.alloc (.cells #[.int .i64 i, .string s] 58)) 58 #[]) (by simp)).drew
      show World.ownsRow _ _ _ _ _ _ _
      simpa using this
    have HS1 : Hid (Below W0.heap.size W0 (((W0.alloc (.cells #[.int .i64 i, .string s] 58)).alloc (.cells #[] 58)).drew)) := (((Below.refl _ W0).alloc (Nat.le_refl _) _).alloc (by simp) _).drew
    have HBS1 : Hid (Below w.heap.size w (((W0.alloc (.cells #[.int .i64 i, .string s] 58)).alloc (.cells #[] 58)).drew) ∧ Blk (((W0.alloc (.cells #[.int .i64 i, .string s] 58)).alloc (.cells #[] 58)).drew) w.heap.size 58 #[.int .i64 i, .string s]) := ⟨HB0.out.1.trans ((HS1.out).mono HB0.out.1.size), HB0.out.2.below (HS1.out) HB0.out.2.lt⟩
    go_wp2_with fail
    refine ⟨rfl, HBS1.out, plan_force ?_⟩
    simp only [sgLHDiRRem]
    refine wpList_append_links2 rfl _ _ 28 rfl W0.heap.size 58 i0 (.agg #[.int .i64 0, .string ⟨#[]⟩]) Tryz.underlying28 hi0 hz0 hz1 hz2 rfl (.slice (some ⟨(W0.heap.size + 1), 0, none⟩) 0 0) rfl HE0.out a n c N S rfl (HIA.out _ HS1.out) HNN.out (by omega) HS1.out.size ?_
    intro v2 U2 ho2 hb2 hg2
    obtain ⟨q2, c2, rfl⟩ := kown_slice ho2
    have HO2 : Hid (U2.ownsRow W0.heap.size 58 2 (.slice q2 n c2) n (lkR (liR N S n))) := by rw [liR_cells]; exact ho2
    have HS2 : Hid (Below W0.heap.size W0 U2) := HS1.out.trans (hb2.mono (Nat.le_refl _))
    have HB2 : Hid (Below w.heap.size w U2 ∧ Blk U2 w.heap.size 58 #[.int .i64 i, .string s]) := ⟨HB0.out.1.trans ((HS2.out).mono HB0.out.1.size), HB0.out.2.below (HS2.out) HB0.out.2.lt⟩
    have HX4 : Hid (IsR U2 W0.heap.size 0 [(i, s)]) := fun j u hu => hg2.cell (HX9.out j u hu) (by simp [Value.ownBlock])
    clear ho2 hb2 hg2
    go_wp2_with fail
    refine ⟨rfl, HB2.out, plan_force ?_⟩
    simp only [sgLHDiRRem]
    refine wpList_append_lks rfl _ _ 28 rfl W0.heap.size 58 i0 (.agg #[.int .i64 0, .string ⟨#[]⟩]) Tryz.underlying28 hi0 hz0 hz1 hz2 rfl (.slice q2 n c2) (liR N S n) n (liR_len N S n).symm rfl HO2.out W0.heap.size 0 1 1 [(i, s)] rfl rfl HX4.out HBD.out HS2.out.size ?_
    intro v5 U5 ho5 hb5 hg5
    have HS5 : Hid (Below W0.heap.size W0 U5) := HS2.out.trans (hb5.mono (Nat.le_refl _))
    have HB5 : Hid (Below w.heap.size w U5 ∧ Blk U5 w.heap.size 58 #[.int .i64 i, .string s]) := ⟨HB0.out.1.trans ((HS5.out).mono HB0.out.1.size), HB0.out.2.below (HS5.out) HB0.out.2.lt⟩
    obtain ⟨g5, c5, rfl, _⟩ := kown_form ho5 (by omega)
    rw [lkL_snoc] at ho5
    have HI5 : Hid (IsLkC U5 (some ⟨g5, 0, none⟩) (n + 1) (upN N n i) (upS S n s)) := own_lkC ho5
    have HGE : Hid (w.heap.size ≤ g5) := by
      obtain ⟨_, _, _, _, _, hBg⟩ := own_lbR ho5
      exact Nat.le_trans HB0.out.1.size hBg
    clear ho5 hb5 hg5
    go_wp2_with fail
    refine ⟨rfl, HB5.out, plan_fin ?_⟩
    simp only [sgLHDiRRem]
    go_wp2_with fail
    refine ⟨rfl, ?_⟩
    go_wp2_with fail
    go_ret2
    exact ⟨g5, c5, rfl, HI5.out, HGE.out, HB5.out.1⟩
end Go.Proofs.YtojnlmfahgeidaaGreatDoor

namespace Go.Proofs.YtojnlmfahgeidaaGreatDoor
open Go Go.RowKit Go.Nam
set_option linter.unusedSimpArgs false
set_option linter.unusedVariables false
set_option maxRecDepth 100000 in
set_option maxHeartbeats 8000000 in
theorem rremove17_no (a : Option Addr) (n c : Nat) (hn : n ≤ 16384) (N : Nat → Int) (S : Nat → ByteArray) (s : ByteArray) (p : Nat) (hp : FirstN S n p s) (hpn : isName s.data.toList = true → ¬ p < n) (re : Int) (hre : re = if isName s.data.toList = true then 171 else 130) (w : World) (hI : IsLkC w a n N S) :
    Calls Tryz.prog 53 #[.slice a n c, .string s] w fun e w' => e = .returned (.tuple #[.slice a n c, .int .i64 0, .int .i64 re]) ∧ w' = w := by
  have HIS : Hid (∀ w : World, Calls Tryz.prog 21 #[.string s] w fun e w' => e = .returned (.bool (isName s.data.toList)) ∧ w' = w) := is_any s
  have HF : Hid (isName s.data.toList = true → Calls Tryz.prog 20 #[.slice a n c, .string s] w fun e w' => e = .returned (.tuple #[.int .i64 0, .int .i64 (-1)]) ∧ w' = w) := fun h => by
    have := rfind17_any a n c p (by omega) N S s hp _ _ rfl rfl w hI
    rw [if_neg (hpn h), if_neg (hpn h)] at this
    exact this
  clear hI hp hpn
  generalize isName s.data.toList = nm at *
  cases nm
  · have HR : Hid (re = 130) := by show _ = _; rw [hre]; rfl
    clear hre HF
    go_enter Tryz.func53, Tryz.ntmps53
    go_wp2_with fail
    refine (HIS.out _).mono ?_
    rintro e w1 ⟨rfl, rfl⟩
    go_wp2_with fail
    go_ret3
    exact ⟨by rw [HR.out] <;> rfl, rfl⟩
  · have HR : Hid (re = 171) := by show _ = _; rw [hre]; rfl
    have HF1 := HF.out rfl
    clear hre HF
    go_enter Tryz.func53, Tryz.ntmps53
    go_wp2_with fail
    refine (HIS.out _).mono ?_
    rintro e w1 ⟨rfl, rfl⟩
    go_wp2_with fail
    refine HF1.mono ?_
    rintro e w2 ⟨rfl, hw⟩
    subst w2
    go_wp2_with fail
    go_ret3
    exact ⟨by rw [HR.out] <;> rfl, rfl⟩
set_option maxRecDepth 100000 in
set_option maxHeartbeats 8000000 in
theorem rremove17_ok (a : Option Addr) (k c : Nat) (hk : k < 16384) (hN : a = none → k + 1 = 0 ∧ c = 0) (N : Nat → Int) (S : Nat → ByteArray) (s : ByteArray) (p : Nat) (hp : FirstN S (k + 1) p s) (hpk : p ≤ k) (hnm : isName s.data.toList = true) (w : World) (hI : IsLkC w a (k + 1) N S) :
    Calls Tryz.prog 53 #[.slice a (k + 1) c, .string s] w fun e w' => ∃ g5 c5 : Nat, e = .returned (.tuple #[.slice (some ⟨g5, 0, none⟩) k c5, .int .i64 (N p), .int .i64 0]) ∧ IsLkC w' (some ⟨g5, 0, none⟩) k (mvN N k p) (mvS S k p) ∧ w.heap.size ≤ g5 ∧ Below w.heap.size w w' := by
  obtain ⟨i0, hi0, hz0, hz1, hz2⟩ := info_parts infoRLk
  have HIS : Hid (∀ w : World, Calls Tryz.prog 21 #[.string s] w fun e w' => e = .returned (.bool true) ∧ w' = w) := fun w => by
    have := is_any s w
    rw [hnm] at this
    exact this
  have HF : Hid (Calls Tryz.prog 20 #[.slice a (k + 1) c, .string s] w fun e w' => e = .returned (.tuple #[.int .i64 (N p), .int .i64 (p : Int)]) ∧ w' = w) := by
    have := rfind17_any a (k + 1) c p (by omega) N S s hp _ _ rfl rfl w hI
    rw [if_pos (by omega), if_pos (by omega)] at this
    exact this
  obtain ⟨n, hn⟩ : ∃ n, n = k + 1 := ⟨_, rfl⟩
  rw [← hn] at hI hN HF ⊢
  have hp0 : (0 : Int) ≤ (p : Int) := by omega
  have hpn : (p : Int) < (n : Int) := by omega
  have HNN : Hid (a = none → n = 0 ∧ c = 0) := hN
  have HNK : Hid (n = k + 1) := hn
  have hnb : n ≤ 16384 := by omega
  have HE0 : Hid ((w.alloc (.cells #[] 58)).ownsRow w.heap.size 58 2 (.slice (some ⟨w.heap.size, 0, none⟩) 0 0) 0 []) := kown_empty (Blk.new w 58 #[]) (Nat.le_refl _)
  have HSA : Hid (Below w.heap.size w (w.alloc (.cells #[] 58))) := (Below.refl _ w).alloc (Nat.le_refl _) _
  have HSZ : Hid (w.heap.size ≤ (w.alloc (.cells #[] 58)).heap.size) := HSA.out.size
  have HIA : Hid (IsLkC (w.alloc (.cells #[] 58)) a n N S) := hI.below HSA.out
  have HPK : Hid (p ≤ k) := hpk
  clear hI hp hnm hN hn hpk
  generalize hNP : N p = NP at *
  go_enter Tryz.func53, Tryz.ntmps53
  go_wp2_with fail
  refine (HIS.out _).mono ?_
  rintro e w1 ⟨rfl, hw1⟩
  subst w1
  go_wp2_with fail
  refine HF.out.mono ?_
  rintro e w2 ⟨rfl, hw⟩
  subst w2
  go_upto_region 7 with (first | (refine wpList_append_links2 (by rfl) _ _ 28 (by rfl) w.heap.size 58 i0 (.agg #[.int .i64 0, .string ⟨#[]⟩]) Tryz.underlying28 hi0 hz0 hz1 hz2 rfl (.slice (some ⟨w.heap.size, 0, none⟩) 0 0) (by rfl) (by exact HE0.out) a n c N S (by rfl) (by exact HIA.out) HNN.out (by omega) (by exact HSZ.out) (fun v2 U2 ho2 hb2 hg2 => ?_); simp only [Act.put, sgPHDiRRem]) | fail)
  have hn := HNK.out
  have hpk := HPK.out
  obtain ⟨g2, c2, rfl, _⟩ := kown_form ho2 (by omega)
  obtain ⟨tl, hB, htl, hnc, hcm, hBg⟩ := own_lbR ho2
  have HGE : Hid (w.heap.size ≤ g2) := hBg
  have c0 := lb_c0 hB k (by omega)
  have c1 := lb_c1 hB k (by omega)
  have d0 := lb_c0 hB p (by omega)
  have d1 := lb_c1 hB p (by omega)
  have f0 : U2.frozen? ⟨g2, p * 2, none⟩ = false := hB.frozen _
  have f1 : U2.frozen? ⟨g2, p * 2 + 1, none⟩ = false := hB.frozen _
  have HK : Hid (Blk ((U2.setCell ⟨g2, p * 2, none⟩ (.int .i64 (N k))).setCell ⟨g2, p * 2 + 1, none⟩ (.string (S k))) g2 58 (lbC tl n (mvN N k p) (mvS S k p))) := lb_put hB p (by omega) (N k) (S k)
  have HBE : Hid (Below w.heap.size w ((U2.setCell ⟨g2, p * 2, none⟩ (.int .i64 (N k))).setCell ⟨g2, p * 2 + 1, none⟩ (.string (S k)))) := ((HSA.out.trans hb2).setCell (p := ⟨g2, p * 2, none⟩) hBg _).setCell (p := ⟨g2, p * 2 + 1, none⟩) hBg _
  have e1 : IntKind.i64.wrap ((n : Int) - 1) = (k : Int) := by simp [IntKind.wrap, IntKind.signed, IntKind.bits]; omega
  have k0 : (0 : Int) ≤ (k : Int) := by omega
  have kn : (k : Int) < (n : Int) := by omega
  have kc : (k : Int) ≤ (c2 : Int) := by omega
  have HKN : Hid (k ≤ n) := by show _ ≤ _; omega
  clear hB htl hnc hcm hBg ho2 hb2 hg2 HE0 HSA HIA HSZ HNN HIS HF hn hpk
  go_wp2_with fail
  go_ret3
  exact ⟨g2, c2, rfl, lb_lkC HK.out HKN.out, HGE.out, HBE.out⟩
end Go.Proofs.YtojnlmfahgeidaaGreatDoor
