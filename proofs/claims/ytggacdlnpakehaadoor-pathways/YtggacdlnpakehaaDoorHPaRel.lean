/- Relative: the way from one path to another one. -/
import Derived.Test.YtggacdlnpakehaaDoorHPaClean
import Derived.Test.YtggacdlnpakehaaDoorHPaMatch
import Derived.Shelf.Bits.Mul64
import Derived.Test.YtggacdlnpakehaaDoorProg
import Derived.Laws.MakeOwn
import Derived.Laws.CopyOwn
import Derived.Test.YtggacdlnpakehaaDoorHRowf
import Derived.Laws.AppendOwnNone

namespace Go.Proofs.YtggacdlnpakehaaDoor
open Go Go.RowKit Go.Nam
set_option linter.unusedVariables false
set_option linter.unusedSimpArgs false
theorem take_stop : ∀ (x r : List UInt8), (x ++ 47 :: r).takeWhile (fun b => b != 47) = x.takeWhile (fun b => b != 47)
  | [], r => rfl
  | b :: x, r => by
    rw [List.cons_append, List.takeWhile_cons, List.takeWhile_cons, take_stop x r]
theorem seg_stop (A r : List UInt8) {i : Nat} (hi : i ≤ A.length) : segL (A ++ 47 :: r) i = segL A i := by
  unfold segL
  rw [List.drop_append_of_le_length hi, take_stop]
theorem pts_stop (A r : List UInt8) : ∀ (n i : Nat), A.length + 1 - i ≤ n → i ≤ A.length + 1 → pts (A ++ 47 :: r) i = pts A i ++ pts (A ++ 47 :: r) (A.length + 1)
  | 0, i, h, hi => by
    obtain rfl : i = A.length + 1 := by omega
    rw [pts_end (l := A) (by omega), List.nil_append]
  | n + 1, i, h, hi => by
    by_cases h1 : i = A.length + 1
    · subst h1
      rw [pts_end (l := A) (by omega), List.nil_append]
    by_cases h2 : i = A.length
    · subst h2
      rw [pts_end (l := A) (Nat.le_refl _), List.nil_append]
      exact pts_slash (by rw [List.getElem?_append_right (Nat.le_refl _), Nat.sub_self]; rfl)
    have h3 : i < A.length := by omega
    have hl : i < (A ++ 47 :: r).length := by simp; omega
    by_cases hs : segL A i = []
    · rw [pts_skip h3 hs, pts_skip hl (by rw [seg_stop A r (by omega)]; exact hs)]
      exact pts_stop A r n (i + 1) (by omega) (by omega)
    · rw [pts_part h3 hs, pts_part hl (by rw [seg_stop A r (by omega)]; exact hs), seg_stop A r (by omega)]
      have hle := segL_le A i
      rw [List.cons_append, pts_stop A r n (i + (segL A i).length + 1) (by omega) (by omega)]
theorem runP_app : ∀ (xs ys : List (Nat × ByteArray)) (N : List ByteArray) (d : Bool), (runP N d xs).2.2.2 = 0 → runP N d (xs ++ ys) = runP (runP N d xs).1 (runP N d xs).2.1 ys
  | [], ys, N, d, h => rfl
  | x :: xs, ys, N, d, h => by
    by_cases hb : badE N x.2 = 0
    · rw [List.cons_append, runP_good hb, runP_good hb] at *
      exact runP_app xs ys _ _ h
    · rw [runP_bad hb] at h
      exact absurd h hb
/-- all texts gone through, none wrong -/
def runT : List ByteArray → Bool → List ByteArray → Option (List ByteArray × Bool)
  | N, d, [] => some (N, d)
  | N, d, x :: xs => if badE N x = 0 then runT (nxtN N x) (dirP x) xs else none
theorem runP_runT : ∀ (xs : List (Nat × ByteArray)) (N : List ByteArray) (d : Bool) {M : List ByteArray} {e : Bool}, runT N d (xs.map (·.2)) = some (M, e) → runP N d xs = (M, e, 0, 0)
  | [], N, d, M, e, h => by
    simp only [List.map_nil, runT, Option.some.injEq, Prod.mk.injEq] at h
    rw [runP, h.1, h.2]
  | x :: xs, N, d, M, e, h => by
    rw [List.map_cons, runT] at h
    by_cases hb : badE N x.2 = 0
    · rw [if_pos hb] at h
      rw [runP_good hb]
      exact runP_runT xs _ _ h
    · rw [if_neg hb] at h
      cases h
/-- not empty, and no slash in it -/
def Pln (x : ByteArray) : Prop := x.data.toList ≠ [] ∧ ∀ b ∈ x.data.toList, b ≠ 47
theorem name_pln {x : ByteArray} (h : isName x.data.toList = true) : Pln x := ⟨(name_ne h).1, name_bytes h⟩
theorem dd_pln : Pln ⟨#[46, 46]⟩ := ⟨by decide, by decide⟩
theorem dot_pln : Pln ⟨#[46]⟩ := ⟨by decide, by decide⟩
theorem pts_acc : ∀ (L : List ByteArray) (A : List UInt8), (∀ x ∈ L, Pln x) → (pts (A ++ accN L) A.length).map (·.2) = L
  | [], A, _ => by
    rw [pts_end (by simp [accN, Lib.joinTail])]
    rfl
  | x :: L, A, h => by
    have hx := h x (by simp)
    have e0 : (A ++ accN (x :: L))[A.length]? = some 47 := by
      rw [List.getElem?_append_right (Nat.le_refl _), Nat.sub_self, acc_cons]
      rfl
    have e1 : segL (A ++ accN (x :: L)) (A.length + 1) = x.data.toList := by
      unfold segL
      have e9 : (A ++ accN (x :: L)).drop (A.length + 1) = x.data.toList ++ accN L := by
        rw [acc_cons, List.drop_append, List.drop_eq_nil_of_le (by omega), List.nil_append]
        simp
      rw [e9]
      exact take_name _ hx.2 (acc_head L)
    have hlt : A.length + 1 < (A ++ accN (x :: L)).length := by
      rw [acc_cons]
      have := List.length_pos_iff.2 hx.1
      simp only [List.length_append, List.length_cons]
      omega
    rw [pts_slash e0, pts_part hlt (by rw [e1]; exact hx.1), ← pts_behind, e1, bsL_of]
    have e2 : A ++ accN (x :: L) = (A ++ 47 :: x.data.toList) ++ accN L := by rw [acc_cons]; simp
    have e3 : A.length + 1 + x.data.toList.length = (A ++ 47 :: x.data.toList).length := by simp; omega
    rw [List.map_cons, e2, e3, pts_acc L (A ++ 47 :: x.data.toList) fun y hy => h y (by simp [hy])]
theorem runT_dots : ∀ (j : Nat) (N L : List ByteArray) (d : Bool), j ≤ N.length → ∃ e, runT N d (List.replicate j ⟨#[46, 46]⟩ ++ L) = runT (N.take (N.length - j)) e L
  | 0, N, L, d, h => ⟨d, by rw [Nat.sub_zero, List.take_length]; rfl⟩
  | j + 1, N, L, d, h => by
    have hb : badE N ⟨#[46, 46]⟩ = 0 := by simp [badE]
    have hn : nxtN N ⟨#[46, 46]⟩ = N.dropLast := by simp [nxtN]
    rw [List.replicate_succ, List.cons_append, runT, if_pos hb, hn]
    obtain ⟨e, he⟩ := runT_dots j N.dropLast L (dirP ⟨#[46, 46]⟩) (by rw [List.length_dropLast]; omega)
    refine ⟨e, he.trans ?_⟩
    rw [List.dropLast_eq_take, List.take_take, List.length_take, show min (min (N.length - 1) N.length - j) (N.length - 1) = N.length - (j + 1) by omega]
theorem runT_names : ∀ (L K : List ByteArray) (d : Bool), (∀ x ∈ L, isName x.data.toList = true) → K.length + L.length ≤ 32 → ∃ e, runT K d L = some (K ++ L, e)
  | [], K, d, _, _ => ⟨d, by simp [runT]⟩
  | x :: L, K, d, h, hl => by
    have hx := h x (by simp)
    have hb : badE K x = 0 := by
      unfold badE
      rw [if_neg (name_ne hx).2.1, if_neg (name_ne hx).2.2, if_pos hx, if_neg (by simp at hl; omega)]
    have hn : nxtN K x = K ++ [x] := by
      unfold nxtN
      rw [if_neg (name_ne hx).2.1, if_neg (name_ne hx).2.2]
    rw [runT, if_pos hb, hn]
    obtain ⟨e, he⟩ := runT_names L (K ++ [x]) (dirP x) (fun y hy => h y (by simp [hy])) (by simp at hl ⊢; omega)
    exact ⟨e, by rw [he]; simp⟩
theorem cm_take : ∀ N M : List ByteArray, N.take (cmN N M) = M.take (cmN N M)
  | [], M => by simp [cmN]
  | x :: N, [] => by simp [cmN]
  | x :: N, y :: M => by
    unfold cmN
    split
    · rename_i h
      rw [List.take_succ_cons, List.take_succ_cons, h, cm_take N M]
    · simp
theorem cm_pre : ∀ (N : List ByteArray) (k : Nat), k ≤ N.length → cmN N (N.take k) = k
  | [], k, h => by simp at h; subst h; rfl
  | x :: N, 0, h => rfl
  | x :: N, k + 1, h => by
    rw [List.take_succ_cons, cmN, if_pos rfl, cm_pre N k (by simpa using h)]
theorem runT_way (N M : List ByteArray) (d : Bool) (hN : GoodN N) (hM : GoodN M) : ∃ e, runT N d (wayL N M) = some (M, e) := by
  have hk := cmN_le N M
  unfold wayL
  obtain ⟨e, he⟩ := runT_dots (N.length - cmN N M) N (M.drop (cmN N M)) d (by omega)
  have h1 : N.length - (N.length - cmN N M) = cmN N M := by omega
  rw [h1, cm_take] at he
  obtain ⟨e2, he2⟩ := runT_names (M.drop (cmN N M)) (M.take (cmN N M)) e (fun x hx => hM.2 x (List.mem_of_mem_drop hx)) (by
    have := hM.1
    rw [List.length_take, List.length_drop]
    omega)
  exact ⟨e2, by rw [he, he2, List.take_append_drop]⟩
theorem way_pln (N M : List ByteArray) (hM : GoodN M) : ∀ x ∈ wayL N M, Pln x := by
  intro x hx
  unfold wayL at hx
  rcases List.mem_append.1 hx with h | h
  · rw [List.eq_of_mem_replicate h]; exact dd_pln
  · exact name_pln (hM.2 x (List.mem_of_mem_drop h))
/-- the way by texts that are not none -/
def wayT (N M : List ByteArray) : List ByteArray := if wayL N M = [] then [⟨#[46]⟩] else wayL N M
theorem wayT_ne (N M : List ByteArray) : wayT N M ≠ [] := by
  unfold wayT
  split
  · simp
  · assumption
theorem wayT_pln (N M : List ByteArray) (hM : GoodN M) : ∀ x ∈ wayT N M, Pln x := by
  unfold wayT
  split
  · intro x hx
    rw [List.mem_singleton.1 hx]
    exact dot_pln
  · exact way_pln N M hM
theorem wayT_acc (N M : List ByteArray) : 47 :: (wayS N M).data.toList = accN (wayT N M) := by
  unfold wayS wayT
  by_cases h : wayL N M = []
  · rw [if_pos h, if_pos h]
    simp [accN, Lib.joinTail]
  · rw [if_neg h, if_neg h, bsL_data, ← frm_acc h]
    rfl
theorem runT_wayT (N M : List ByteArray) (d : Bool) (hN : GoodN N) (hM : GoodN M) : ∃ e, runT N d (wayT N M) = some (M, e) := by
  unfold wayT
  by_cases h : wayL N M = []
  · rw [if_pos h]
    obtain ⟨e, he⟩ := runT_way N M d hN hM
    rw [h] at he
    simp only [runT, Option.some.injEq, Prod.mk.injEq] at he
    have hb : badE N ⟨#[46]⟩ = 0 := by simp [badE]
    have hn : nxtN N ⟨#[46]⟩ = N := by simp [nxtN]
    exact ⟨_, by rw [runT, if_pos hb, hn, runT, he.1]⟩
  · rw [if_neg h]
    exact runT_way N M d hN hM
/-- the way joined to the first path is read as the second's names -/
theorem way_prs {l : List UInt8} {N M : List ByteArray} {d : Bool} {i : Nat} (hp : prs l = (N, d, i, 0)) (hM : GoodN M) (hl : (l ++ 47 :: (wayS N M).data.toList).length ≤ 1024) : (prs (l ++ 47 :: (wayS N M).data.toList)).1 = M ∧ (prs (l ++ 47 :: (wayS N M).data.toList)).2.2.2 = 0 := by
  have hG : GoodN N := by have := good_prs l; rwa [hp] at this
  have h0 : l[0]? = some 47 ∧ (runP [] false (pts l 0)).2.2.2 = 0 ∧ (runP [] false (pts l 0)).1 = N := by
    unfold prs at hp
    split at hp
    · simp at hp
    · split at hp
      · rename_i h47
        split at hp
        · rename_i hz
          simp only [Prod.mk.injEq] at hp
          exact ⟨h47, hz, hp.1⟩
        · rename_i hz
          simp only [Prod.mk.injEq] at hp
          exact absurd hp.2.2.2 hz
      · simp at hp
  obtain ⟨h47, hz, hN⟩ := h0
  have hpos : 0 < l.length := (List.getElem?_eq_some_iff.1 h47).1
  have hr : runP [] false (pts (l ++ 47 :: (wayS N M).data.toList) 0) = runP N (runP [] false (pts l 0)).2.1 (pts (l ++ 47 :: (wayS N M).data.toList) (l.length + 1)) := by
    rw [pts_stop l _ (l.length + 1) 0 (by omega) (by omega), runP_app _ _ _ _ hz, hN]
  have hs : pts (l ++ 47 :: (wayS N M).data.toList) (l.length + 1) = pts (l ++ accN (wayT N M)) l.length := by
    rw [← wayT_acc]
    exact (pts_slash (by rw [List.getElem?_append_right (Nat.le_refl _), Nat.sub_self]; rfl)).symm
  obtain ⟨e, he⟩ := runT_wayT N M (runP [] false (pts l 0)).2.1 hG hM
  have hm := pts_acc (wayT N M) l (wayT_pln N M hM)
  rw [← hm] at he
  have hf := runP_runT _ _ _ he
  rw [← hs, ← hr] at hf
  unfold prs
  rw [if_neg (by omega), if_pos (by rw [List.getElem?_append_left hpos]; exact h47), hf]
  exact ⟨rfl, rfl⟩
theorem way_long {l : List UInt8} {N M : List ByteArray} (hl : 1024 < (l ++ 47 :: (wayS N M).data.toList).length) : (prs (l ++ 47 :: (wayS N M).data.toList)).2.2.2 = 181 := by
  unfold prs
  rw [if_pos hl]
theorem way_first (N M : List ByteArray) (hM : GoodN M) : (wayS N M).data.toList[0]? ≠ some 47 := by
  have h := wayT_acc N M
  have hp := wayT_pln N M hM
  have hne := wayT_ne N M
  cases hw : wayT N M with
  | nil => exact absurd hw hne
  | cons x L =>
    rw [hw, acc_cons] at h
    injection h with _ h
    rw [h]
    have hx := hp x (by rw [hw]; simp)
    cases hxd : x.data.toList with
    | nil => exact absurd hxd hx.1
    | cons b y =>
      rw [List.cons_append]
      intro e
      simp at e
      exact hx.2 b (by rw [hxd]; simp) e
theorem acc_take (N : List ByteArray) (k : Nat) : (accN (N.take k)).length ≤ (accN N).length := by
  have h : accN N = accN (N.take k) ++ accN (N.drop k) := by rw [← acc_app, List.take_append_drop]
  rw [h, List.length_append]
  omega
theorem frm_take (N : List ByteArray) (k : Nat) : (frmL (N.take k)).length ≤ (frmL N).length := by
  by_cases h : N.take k = []
  · rw [h, frm_nil]
    unfold frmL
    simp
  · have h2 : N ≠ [] := fun e => h (by rw [e]; simp)
    rw [frm_acc h, frm_acc h2]
    exact acc_take N k
theorem allM_texts : ∀ (xs : List (Nat × ByteArray)) (M : List ByteArray), (∀ x ∈ xs, ∀ b ∈ x.2.data.toList, b ≠ 42 ∧ b ≠ 63) → (AllM xs M ↔ xs.map (·.2) = M)
  | [], M, _ => by rw [allM_nil]; simp [eq_comm]
  | x :: xs, [], _ => by simp [AllM]
  | x :: xs, n :: M, h => by
    have ih := allM_texts xs M fun y hy => h y (by simp [hy])
    have hm : ∀ (p s : List UInt8), (∀ b ∈ p, b ≠ 42 ∧ b ≠ 63) → (Mat p s ↔ p = s) := by
      intro p
      induction p with
      | nil => intro s _; rw [Mat.nil_iff]; exact eq_comm
      | cons b p ihp =>
        intro s hb
        have hb0 := hb b (by simp)
        cases s with
        | nil => simp [Mat.one_nil hb0.1]
        | cons c s =>
          rw [Mat.one_iff hb0.1, ihp s fun y hy => hb y (by simp [hy])]
          simp [hb0.2]
    show Mat x.2.data.toList n.data.toList ∧ AllM xs M ↔ _
    rw [ih, hm _ _ (h x (by simp)), List.map_cons, List.cons.injEq]
    constructor
    · rintro ⟨h1, h2⟩; exact ⟨ba_ext h1, h2⟩
    · rintro ⟨h1, h2⟩; exact ⟨by rw [h1], h2⟩
theorem pts_frm {N : List ByteArray} (hG : GoodN N) : (pts (frmL N) 0).map (·.2) = N := by
  by_cases hN : N = []
  · subst hN
    rw [frm_nil]
    kernel_rfl
  · rw [frm_acc hN]
    exact pts_acc N [] fun x hx => name_pln (hG.2 x hx)
/-- a path's one form without signs is a pattern of just that path -/
theorem allM_frm {N : List ByteArray} (hG : GoodN N) (hno : ∀ b ∈ frmL N, b ≠ 42 ∧ b ≠ 63) (M : List ByteArray) : AllM (pts (frmL N) 0) M ↔ N = M := by
  have hp := pts_frm hG
  rw [allM_texts, hp]
  intro x hx b hb
  have hxN : x.2 ∈ N := by rw [← hp]; exact List.mem_map_of_mem hx
  refine hno b ?_
  have hne : N ≠ [] := fun e => by rw [e] at hxN; simp at hxN
  rw [frm_acc hne]
  unfold accN
  simp only [Lib.joinTail]
  rw [List.mem_flatten]
  refine ⟨[47] ++ x.2.data.toList, ?_, List.mem_append_right _ hb⟩
  rw [List.map_map]
  exact List.mem_map.2 ⟨x.2, hxN, rfl⟩
end Go.Proofs.YtggacdlnpakehaaDoor

namespace Go.Proofs
open Go.Shelf
def Tryd.mulA_ren : Go.Shelf.Ren := ⟨fun | 212 => 27 | 263 => 42 | 264 => 43 | n => n, fun | 46 => 50 | 51 => 75 | 146 => 76 | 53 => 78 | 148 => 79 | n => n, fun | n => n⟩
theorem Tryd.mulA : Go.Proofs.Lays.n212 Tryd.prog Tryd.mulA_ren := {
  mixed := by kernel_rfl
  f212 := Tryd.func27.trans (congrArg some (by kernel_rfl))
  f263 := Tryd.func42.trans (congrArg some (by kernel_rfl))
  f264 := Tryd.func43.trans (congrArg some (by kernel_rfl))
  t46 := Tryd.underlying50
  a46 := Tryd.isAgg50
  z46 := Tryd.sizeOf50
  v46 := Tryd.zeroValue50
  t51 := Tryd.underlying75
  a51 := Tryd.isAgg75
  z51 := Tryd.sizeOf75
  v51 := Tryd.zeroValue75
  t53 := Tryd.underlying78
  a53 := Tryd.isAgg78
  z53 := Tryd.sizeOf78
  v53 := Tryd.zeroValue78
  t146 := Tryd.underlying76
  a146 := Tryd.isAgg76
  z146 := Tryd.sizeOf76
  v146 := Tryd.zeroValue76
  t148 := Tryd.underlying79
  a148 := Tryd.isAgg79
  z148 := Tryd.sizeOf79
  v148 := Tryd.zeroValue79 }
end Go.Proofs

namespace Go.Proofs.YtggacdlnpakehaaDoor
open Go Go.RowKit Go.Shelf
set_option linter.unusedVariables false
set_option linter.unusedSimpArgs false
/-- n texts, and empty ones behind them -/
def rpC (x : ByteArray) (k n : Nat) : List Value := List.replicate n (.string x) ++ List.replicate (k - n) (.string ⟨#[]⟩)
theorem rpC_len (x : ByteArray) {k n : Nat} (h : n ≤ k) : (rpC x k n).length = k := by unfold rpC; simp; omega
theorem rpC_put (x : ByteArray) {k n c : Nat} (h : n + c ≤ k) : (rpC x k n).take n ++ (List.replicate c (Value.string x) ++ (rpC x k n).drop (n + c)) = rpC x k (n + c) := by
  unfold rpC
  rw [List.take_append_of_le_length (by simp), List.take_of_length_le (by simp), List.drop_append]
  simp [Nat.sub_sub]
  rw [← List.append_assoc, List.replicate_append_replicate]
theorem rpC_at (x : ByteArray) {k n j : Nat} (h : j < n) : (rpC x k n)[j]? = some (.string x) := by
  unfold rpC
  rw [List.getElem?_append_left (by simpa using h)]
  simp [h]
theorem make_strs (k : Nat) (hk : k ≤ 32) (w : World) : (Instr.makeSlice 28 (.int .i64 (k : Int)) (.int .i64 (k : Int))).run Tryd.prog w = .ok (.slice (some ⟨w.heap.size, 0, none⟩) k k) (w.alloc (.cells (rpC ⟨#[]⟩ k 0).toArray 9)) := by
  obtain ⟨i0, hi, hz0, hz1, hz2⟩ := info_parts infoStr
  have := run_make (P := Tryd.prog) w 28 9 i0 (.string ⟨#[]⟩) Tryd.underlying28 hi hz0 .i64 .i64 (k : Int) (k : Int) (by omega) (Int.le_refl _) (by rw [hz2]; omega) (by omega)
  rw [hz1] at this
  rw [show ((k : Int)).toNat = k by omega] at this
  have e : madeCells #[Value.string ⟨#[]⟩] k = (rpC ⟨#[]⟩ k 0).toArray := by
    apply Array.ext'
    unfold madeCells rpC
    simp [Nat.mod_one]
    rw [List.map_const', List.length_range]
  simp only [Value.cells, e, Nat.mul_one] at this
  exact this
set_option maxRecDepth 100000 in
set_option maxHeartbeats 4000000 in
theorem repeat_one (x : ByteArray) {g o c k : Nat} (hk : k ≤ 32) (w : World) (hg : g < w.heap.size) (hc : w.cell? ⟨g, o, none⟩ = some (.string x)) :
    Calls Tryd.prog 16 #[.slice (some ⟨g, o, none⟩) 1 c, .int .i64 (k : Int)] w fun e w' => e = .returned (.slice (some ⟨w.heap.size, 0, none⟩) k k) ∧ Blk w' w.heap.size 9 (rpC x k k).toArray ∧ Below w.heap.size w w' := by
  have HMul : Hid (∀ w : World, Calls Tryd.prog 27 #[.int .u64 1, .int .u64 (k : Int)] w fun e w' => e = .returned (.tuple #[.int .u64 0, .int .u64 (k : Int)]) ∧ w' = w) := fun w => by
    have := Any.bits_Mul Tryd.mulA 1 k (by omega) (by omega) w
    rw [Nat.one_mul, Nat.div_eq_of_lt (by omega), Nat.mod_eq_of_lt (by omega)] at this
    exact this
  have hmk := make_strs k hk
  have hk0 : ¬ ((k : Int) < 0) := by omega
  have hw1 : IntKind.u64.wrap (k : Int) = (k : Int) := by rw [IntKind.wrap_u64]; omega
  have hw2 : IntKind.i64.wrap (k : Int) = (k : Int) := by rw [IntKind.wrap_i64]; omega
  have hkm : ¬ ((9223372036854775807 : Int) < (k : Int)) := by omega
  go_enter Tryd.func16, Tryd.ntmps16
  go_wp2_with fail
  refine (HMul.out _).mono ?_
  rintro e w9 ⟨rfl, hw9⟩
  subst w9
  obtain ⟨W0, hW0⟩ : ∃ W0, w.alloc (.cells (rpC ⟨#[]⟩ k 0).toArray 9) = W0 := ⟨_, rfl⟩
  have kb0 : Blk W0 w.heap.size 9 (rpC x k 0).toArray := by rw [← hW0]; exact Blk.new w _ _
  have b0 : Below w.heap.size w W0 := by rw [← hW0]; exact (Below.refl _ w).alloc (Nat.le_refl _) _
  have hc0 : W0.cell? ⟨g, o, none⟩ = some (.string x) := (b0.cell (p := ⟨g, o, none⟩) hg).trans hc
  obtain ⟨f, hf⟩ : ∃ f, min 1 k = f := ⟨_, rfl⟩
  have hfk : 0 + f ≤ k := by omega
  have e1 := rpC_put x hfk
  have kb1 : Blk (W0.setRow w.heap.size ((rpC x k 0).toArray.toList.take 0 ++ (List.replicate f (Value.string x) ++ (rpC x k 0).toArray.toList.drop (0 + (List.replicate f (Value.string x)).length))).toArray) w.heap.size 9 (rpC x k f).toArray := by
    rw [List.length_replicate, e1, Nat.zero_add]
    exact setRow_heap W0 _ _ _ _ _ kb0
  have b1 := below_setRow b0 (Nat.le_refl _) ((rpC x k 0).toArray.toList.take 0 ++ (List.replicate f (Value.string x) ++ (rpC x k 0).toArray.toList.drop (0 + (List.replicate f (Value.string x)).length))).toArray
  have HI : Hid (_ ∧ _) := ⟨kb1, b1⟩
  have hgk : 0 < k → 0 < f := by omega
  clear kb1 b1 e1
  have hsz : (Tryd.prog.info? 9).map (·.size) = some 1 := by kernel_rfl
  have hcn : (List.replicate f (Value.string x)).length = Nat.min 1 k := by rw [List.length_replicate]; exact hf.symm
  have hsrc : ∀ j v, (List.replicate f (Value.string x))[j]? = some v → W0.cell? ((⟨g, o, none⟩ : Addr).add j) = some v := fun j v hv => by
    rw [List.getElem?_replicate] at hv
    split at hv
    · injection hv with hv
      subst hv
      have : j = 0 := by omega
      subst this
      exact hc0
    · cases hv
  have hfit : 0 + (List.replicate f (Value.string x)).length ≤ (rpC x k 0).toArray.size := by
    rw [List.length_replicate]
    show _ ≤ (rpC x k 0).length
    rw [rpC_len x (by omega)]
    exact hfk
  have hone : ∀ v ∈ List.replicate f (Value.string x), v.oneCell' = true := fun v hv => by rw [List.eq_of_mem_replicate hv]; rfl
  subst hW0
  go_wp2_with (first
    | (refine wpList_copy_own rfl _ _ 28 28 rfl 9 Tryd.underlying28 hsz w.heap.size 0 k k ⟨g, o, none⟩ 1 c (by rfl) (by rfl) (rpC x k 0).toArray 9 kb0 (List.replicate f (Value.string x)) hcn hsrc hfit hone ?_)
    | fail)
  clear kb0 b0 hc0 hf hcn hsrc hfit hone
  go_loopw [8] (fun v wr => Hid (∃ n : Nat, n ≤ k ∧ (0 < k → 0 < n) ∧ v = .int .i64 (n : Int) ∧ Blk wr w.heap.size 9 (rpC x k n).toArray ∧ Below w.heap.size w wr)) (fun v wr => k - (intOf v).toNat)
  case atStart =>
    refine ⟨f, by omega, hgk, ?_, ?_, ?_⟩
    · simp
    · first | exact HI.out.1 | simpa using HI.out.1
    · first | exact HI.out.2 | simpa using HI.out.2
  case round =>
    obtain ⟨n, hn, hn0, rfl, kb, hb⟩ := Hid.out hrel
    clear hrel HI
    by_cases hi : n < k
    · have hiz : (n : Int) < (k : Int) := by omega
      have hnz : (0 : Int) ≤ (n : Int) := by omega
      have hnk : (n : Int) ≤ (k : Int) := by omega
      have hnp : 0 < n := hn0 (by omega)
      obtain ⟨q, hq⟩ : ∃ q, min n (k - n) = q := ⟨_, rfl⟩
      have hqk : n + q ≤ k := by omega
      have hq0 : 0 < q := by omega
      have e1 := rpC_put x hqk
      have kb1 : Blk (wr.setRow w.heap.size ((rpC x k n).toArray.toList.take n ++ (List.replicate q (Value.string x) ++ (rpC x k n).toArray.toList.drop (n + (List.replicate q (Value.string x)).length))).toArray) w.heap.size 9 (rpC x k (n + q)).toArray := by
        rw [List.length_replicate, e1]
        exact setRow_heap wr _ _ _ _ _ kb
      have b1 := below_setRow hb (Nat.le_refl _) ((rpC x k n).toArray.toList.take n ++ (List.replicate q (Value.string x) ++ (rpC x k n).toArray.toList.drop (n + (List.replicate q (Value.string x)).length))).toArray
      have HJ : Hid (_ ∧ _) := ⟨kb1, b1⟩
      clear kb1 b1 e1
      have hcn : (List.replicate q (Value.string x)).length = Nat.min n (k - n) := by rw [List.length_replicate]; exact hq.symm
      have hsrc : ∀ j v, (List.replicate q (Value.string x))[j]? = some v → wr.cell? ((⟨w.heap.size, 0, none⟩ : Addr).add j) = some v := fun j v hv => by
        rw [List.getElem?_replicate] at hv
        split at hv
        · injection hv with hv
          subst hv
          have h1 := kb.cell j
          have h2 : (⟨w.heap.size, 0, none⟩ : Addr).add j = ⟨w.heap.size, j, none⟩ := by simp [Addr.add]; intro h; exact h.symm
          rw [h2, h1]
          have h3 := rpC_at x (k := k) (n := n) (j := j) (by omega)
          simpa using h3
        · cases hv
      have hfit : n + (List.replicate q (Value.string x)).length ≤ (rpC x k n).toArray.size := by
        rw [List.length_replicate]
        show _ ≤ (rpC x k n).length
        rw [rpC_len x hn]
        exact hqk
      have hone : ∀ v ∈ List.replicate q (Value.string x), v.oneCell' = true := fun v hv => by rw [List.eq_of_mem_replicate hv]; rfl
      have hrun := run_copy_row (P := Tryd.prog) wr.drew 28 28 3 9 w.heap.size n (k - n) (k - n) ⟨w.heap.size, 0, none⟩ n k (rpC x k n).toArray 9 (List.replicate q (Value.string x)) Tryd.underlying28 hsz kb hcn hsrc hfit hone
      clear kb hb hcn hsrc hfit hone
      rw [List.length_replicate] at hrun
      obtain ⟨kj, bj⟩ := HJ.out
      rw [List.length_replicate] at kj bj
      have HJ2 : Hid (_ ∧ _) := ⟨kj.drew, bj.drew⟩
      clear HJ kj bj
      have hnq : IntKind.i64.wrap ((n : Int) + (q : Int)) = ((n + q : Nat) : Int) := by rw [IntKind.wrap_i64]; omega
      go_wp2_with fail
      go_region
      go_wp2_with fail
      go_roundw
      case rel =>
        refine ⟨n + q, hqk, fun _ => by omega, ?_, ?_, ?_⟩
        · first | rfl | go_num | simp
        · first | exact HJ2.out.1 | simpa using HJ2.out.1
        · first | exact HJ2.out.2 | simpa using HJ2.out.2
      case measure => simp [intOf]; omega
    · obtain rfl : n = k := by omega
      have hiz : ¬ (n : Int) < (n : Int) := by omega
      have HJ : Hid (_ ∧ _) := ⟨kb, hb⟩
      clear kb hb
      go_wp2_with fail
      go_ret
      exact ⟨rfl, HJ.out.1, HJ.out.2⟩
end Go.Proofs.YtggacdlnpakehaaDoor

namespace Go.Proofs.YtggacdlnpakehaaDoor
open Go Go.RowKit Go.Shelf
set_option linter.unusedVariables false
set_option linter.unusedSimpArgs false
/-- a block of texts that is full, as an own row -/
theorem own_full {w : World} {B g : Nat} {L : List ByteArray} (hB : B ≤ g) (hk : Blk w g 9 (L.map Value.string).toArray) (hl : L.length ≤ 1000) : w.ownsRow B 9 1 (.slice (some ⟨g, 0, none⟩) L.length L.length) L.length (L.map Value.string) :=
  ⟨by simp, .inr ⟨g, L.length, (L.map Value.string).toArray, rfl, hB, hk, Nat.le_refl _, by unfold maxLen; omega, by simp, by rw [Nat.mul_one, List.take_of_length_le (by simp)]⟩⟩
theorem rpC_full (x : ByteArray) (k : Nat) : rpC x k k = (List.replicate k x).map Value.string := by
  unfold rpC
  simp
theorem wayL_len (N M : List ByteArray) : (wayL N M).length = (N.length - cmN N M) + (M.length - cmN N M) := by
  unfold wayL
  simp
theorem way_jn {N M : List ByteArray} (hN : GoodN N) (hM : GoodN M) : (Lib.join ((wayL N M).map (·.data.toList)) [47]).length ≤ 1000000 := by
  by_cases h : wayL N M = []
  · rw [h]; decide
  · have h1 : (frmL (wayL N M)).length ≤ 3000 := by
      rw [frm_acc h]
      unfold wayL
      rw [acc_app, List.length_append, rep_len]
      have hgd : GoodN (M.drop (cmN N M)) := ⟨by have := hM.1; rw [List.length_drop]; omega, fun x hx => hM.2 x (List.mem_of_mem_drop hx)⟩
      have := good_len hgd
      have := hN.1
      omega
    unfold frmL at h1
    rw [List.length_cons] at h1
    omega
theorem IsN.dropA {w : World} {g : Nat} {N : List ByteArray} {o : Nat} (h : IsN w (some ⟨g, o, none⟩) N) (k : Nat) : IsN w (some ⟨g, o + k, none⟩) (N.drop k) := by
  rcases h with rfl | ⟨g', o', e, hg, hc⟩
  · exact .inl (by simp)
  · cases e
    refine .inr ⟨g, o + k, rfl, hg, fun j x hj => ?_⟩
    rw [List.getElem?_drop] at hj
    rw [Nat.add_assoc]
    exact hc _ _ hj
/-- append(own, names...) -/
theorem wpList_append_strs {P : Program} {ops : Array Oper} {rest : List Oper} {o : Oper} {a : Act} {w : World} {Q : Exit → Act → World → Prop} (hgd : o.guard = none) (s x : Operand) (t : TypeId)
    (ho : o.op = .call { callee := .builtin .append, args := #[s, x], argTypes := #[t, t] }) (B : Nat) (e : TypeId) (i : TypeInfo) (z : Value) (ht : P.underlying t = some (.slice e)) (hi : P.info? e = some i) (hz : i.zero = some z) (hsize : i.size = 1) (hby : i.bytes = 16) (hzs : z.cells.size = 1)
    (v : Value) (A : List ByteArray) (hs : a.eval s = v) (hown : w.ownsRow B e 1 v A.length (A.map Value.string)) (a1 : Option Addr) (c m : Nat) (N : List ByteArray) (hm : m = N.length) (hx : a.eval x = .slice a1 m c) (hA : IsN w a1 N) (hN : a1 = none → N.length = 0 ∧ c = 0) (hn : A.length + N.length ≤ 1000) (hbase : B ≤ w.heap.size)
    (h : ∀ v' w', w'.ownsRow B e 1 v' (A ++ N).length ((A ++ N).map Value.string) → Below B w w' → wpList P ops Q rest (a.put o.dst v') w') : wpList P ops Q (o :: rest) a w := by
  subst hm
  cases a1 with
  | none =>
    obtain ⟨h0, rfl⟩ := hN rfl
    have h0' : N = [] := List.length_eq_zero_iff.1 h0
    subst h0'
    exact wpList_append_own_none hgd s x t ho B e i 1 ht hi v A.length (A.map Value.string) hs hown hx (h v w (by rw [List.append_nil]; exact hown) (Below.refl _ _))
  | some ad =>
    have hv := hown.lt
    refine wpList_append_own w hgd s x t ho B e i z 1 16 ht hi hz hsize hby hzs (by decide) v A.length (A.map Value.string) hs hown ad N.length c (N.map Value.string) hx (by simp) (fun j u hu => ?_) (fun u hu => ?_) (by unfold maxLen; omega) (by omega) hbase fun v' w' h1 h2 _ => ?_
    · rw [List.getElem?_map] at hu
      cases hxj : N[j]? with
      | none => rw [hxj] at hu; cases hu
      | some y =>
        rw [hxj] at hu
        injection hu with hu
        rcases hA with rfl | ⟨g, o, e1, _, hc⟩
        · simp at hxj
        · injection e1 with e2
          subst e2
          rw [Addr.add_mid, ← hu]
          exact hc j y hxj
    · obtain ⟨j, _, rfl⟩ := List.mem_map.1 hu
      rfl
    · rw [← List.length_append, ← List.map_append] at h1
      exact h v' w' h1 ((Below.refl _ _).grown h2 hbase (fun k hk => (hv k hk).1))
set_option maxRecDepth 100000 in
set_option maxHeartbeats 4000000 in
theorem prel_ok (s t : ByteArray) {N M : List ByteArray} {d d2 : Bool} {i i2 : Nat} (hp : prs s.data.toList = (N, d, i, 0)) (hp2 : prs t.data.toList = (M, d2, i2, 0)) (w : World) : Calls Tryd.prog 5 #[.string s, .string t] w fun e w' => e = .returned (.tuple #[.string (wayS N M), .int .i64 0]) ∧ Below w.heap.size w w' := by
  have hG : GoodN N := by have := good_prs s.data.toList; rwa [hp] at this
  have hG2 : GoodN M := by have := good_prs t.data.toList; rwa [hp2] at this
  have HX := both_ok s t hp hp2
  obtain ⟨k, hk⟩ : ∃ k, cmN N M = k := ⟨_, rfl⟩
  have hkl := cmN_le N M
  rw [hk] at hkl
  have HK : Hid (cmN N M = k) := hk
  have HG : Hid (GoodN N ∧ GoodN M) := ⟨hG, hG2⟩
  have hNl := hG.1
  have hMl := hG2.1
  obtain ⟨r, hr⟩ : ∃ r, wayS N M = r := ⟨_, rfl⟩
  have HR : Hid (wayS N M = r) := hr
  rw [hr]
  clear hk hG hG2 hp hp2 hr
  obtain ⟨i0, hi0, hz0, hz1, hz2⟩ := info_parts infoStr
  go_enter Tryd.func5, Tryd.ntmps5
  go_wp2_with fail
  refine (HX _).mono ?_
  rintro e w1 ⟨a, c, b, c2, rfl, ho, ho2, hb⟩
  have hcap2 := own_cap ho2
  have HS : Hid (Calls Tryd.prog 15 #[.slice a N.length c, .slice b M.length c2] w1 fun e w' => e = .returned (.int .i64 (k : Int)) ∧ ∃ n, w' = w1.drewN n) := by
    have := shared_any (c := c) (d := c2) (own_isN ho) (own_isN ho2) (by omega) (by omega)
    rwa [HK.out] at this
  have HM : Hid (IsN w1 b M) := own_isN ho2
  have HBN : Hid ((b = none → M.length = 0 ∧ c2 = 0) ∧ (b = none ∨ ∃ g, b = some ⟨g, 0, none⟩)) := by
    rcases ho2.2 with ⟨hv, hn⟩ | ⟨g, cap, cur, hv, _⟩
    · injection hv with h1 h2 h3
      exact ⟨fun _ => ⟨hn, h3⟩, .inl h1⟩
    · cases hv
      exact ⟨fun h => by simp at h, .inr ⟨g, rfl⟩⟩
  have HB : Hid (Below w.heap.size w w1) := hb
  clear ho ho2 hb HX
  go_wp2_with fail
  refine HS.out.mono ?_
  rintro e w2 ⟨rfl, n, rfl⟩
  clear HS
  have HB2 : Hid (Below w.heap.size w (w1.drewN n)) := bdrewN HB.out n
  have HM2 : Hid (IsN (w1.drewN n) b M) := HM.out.dN n
  generalize w1.drewN n = W at *
  clear HB HM
  obtain ⟨nn, hn⟩ : ∃ n, N.length = n := ⟨_, rfl⟩
  obtain ⟨m, hm⟩ : ∃ m, M.length = m := ⟨_, rfl⟩
  have HL : Hid (N.length = nn ∧ M.length = m) := ⟨hn, hm⟩
  rw [hn] at hkl hNl ⊢
  rw [hm] at hkl hMl hcap2 HBN ⊢
  clear hn hm
  have hsub : IntKind.i64.wrap ((nn : Int) - (k : Int)) = ((nn - k : Nat) : Int) := by rw [IntKind.wrap_i64]; omega
  have hk0 : (0 : Int) ≤ (k : Int) := by omega
  have hkm : (k : Int) ≤ (m : Int) := by omega
  have hmc : (m : Int) ≤ (c2 : Int) := by omega
  -- the tail of the second
  rcases HBN.out.2 with hbn | ⟨g, hbg⟩
  · obtain ⟨hm0, hc0⟩ := HBN.out.1 hbn
    subst hbn
    subst hc0
    subst hm0
    obtain rfl : k = 0 := by omega
    have hsub0 : IntKind.i64.wrap (nn : Int) = (nn : Int) := by rw [IntKind.wrap_i64]; omega
    go_wp2_with fail
    refine wp_region_partsS (fun U => Hid True) [([1, 3, 6, 7], 2, true), ([], 4, true), ([], 8, true), ([], 0, false), ([], 5, false), ([], 9, false)] [10] [] (by kernel_rfl) (by kernel_rfl) (show Hid True from trivial) (partsI_yield ?_)
    simp only [List.cons_append, List.nil_append, List.append_nil, List.filterMap_cons, List.filterMap_nil, List.getElem?_toArray, List.getElem?_cons_zero, List.getElem?_cons_succ]
    go_wp2_with fail
    first
      | refine ⟨rfl, _, .int .i64 (nn : Int), rfl, Or.inl ⟨by rfl, fun U hU => by first | (go_simp; done) | (go_simp; exact ho3)⟩, partsI_yield ?_⟩
      | refine ⟨rfl, .int .i64 (nn : Int), Or.inl ⟨by rfl, fun U hU => by first | (go_simp; done) | (go_simp; exact ho3)⟩, partsI_yield ?_⟩
    simp only [Act.put, List.setIfInBounds_toArray, List.set_cons_zero, List.set_cons_succ]
    simp only [List.cons_append, List.nil_append, List.append_nil, List.filterMap_cons, List.filterMap_nil, List.getElem?_toArray, List.getElem?_cons_zero, List.getElem?_cons_succ]
    go_wp2_with fail
    first
      | refine ⟨rfl, _, .int .i64 ((nn : Nat) : Int), rfl, Or.inl ⟨by rfl, fun U hU => by first | (go_simp; done) | (go_simp; exact ho3)⟩, partsI_yield ?_⟩
      | refine ⟨rfl, .int .i64 ((nn : Nat) : Int), Or.inl ⟨by rfl, fun U hU => by first | (go_simp; done) | (go_simp; exact ho3)⟩, partsI_yield ?_⟩
    simp only [Act.put, List.setIfInBounds_toArray, List.set_cons_zero, List.set_cons_succ]
    simp only [List.cons_append, List.nil_append, List.append_nil, List.filterMap_cons, List.filterMap_nil, List.getElem?_toArray, List.getElem?_cons_zero, List.getElem?_cons_succ]
    go_wp2_with fail
    first
      | refine ⟨rfl, _, .slice none 0 0, rfl, Or.inl ⟨by rfl, fun U hU => by first | (go_simp; done) | (go_simp; exact ho3)⟩, partsI_force ?_⟩
      | refine ⟨rfl, .slice none 0 0, Or.inl ⟨by rfl, fun U hU => by first | (go_simp; done) | (go_simp; exact ho3)⟩, partsI_force ?_⟩
    simp only [Act.put, List.setIfInBounds_toArray, List.set_cons_zero, List.set_cons_succ]
    simp only [List.cons_append, List.nil_append, List.append_nil, List.filterMap_cons, List.filterMap_nil, List.getElem?_toArray, List.getElem?_cons_zero, List.getElem?_cons_succ]
    go_wp2_with fail
    refine ⟨rfl, (show Hid True from trivial), partsI_force ?_⟩
    simp only [List.cons_append, List.nil_append, List.append_nil, List.filterMap_cons, List.filterMap_nil, List.getElem?_toArray, List.getElem?_cons_zero, List.getElem?_cons_succ]
    obtain ⟨W1, hW1⟩ : ∃ W1, W1 = (W.alloc (.cells #[.string ⟨#[46, 46]⟩] 9)).drew := ⟨_, rfl⟩
    have kd : Blk W1 W.heap.size 9 #[.string ⟨#[46, 46]⟩] := by rw [hW1]; exact (Blk.new W 9 _).drew
    have bd : Below W.heap.size W W1 := by rw [hW1]; exact ((Below.refl _ W).alloc (Nat.le_refl _) _).drew
    have HRp : Hid (Calls Tryd.prog 16 #[.slice (some ⟨W.heap.size, 0, none⟩) 1 1, .int .i64 ((nn : Nat) : Int)] W1 fun e w' => e = .returned (.slice (some ⟨W1.heap.size, 0, none⟩) (nn) (nn)) ∧ Blk w' W1.heap.size 9 (rpC ⟨#[46, 46]⟩ (nn) (nn)).toArray ∧ Below W1.heap.size W1 w') := repeat_one ⟨#[46, 46]⟩ (by omega) W1 kd.lt (kd.cell 0)
    have HD : Hid (_ ∧ _) := ⟨kd, bd⟩
    clear kd bd
    subst hW1
    go_wp2_with fail
    refine HRp.out.mono ?_
    rintro e W2 ⟨rfl, kr, br⟩
    obtain ⟨kd, bd⟩ := HD.out
    clear HD HRp
    generalize (W.alloc (.cells #[.string ⟨#[46, 46]⟩] 9)).drew = W1 at *
    go_wp2_with fail
    refine ⟨rfl, (show Hid True from trivial), partsI_force ?_⟩
    simp only [List.cons_append, List.nil_append, List.append_nil, List.filterMap_cons, List.filterMap_nil, List.getElem?_toArray, List.getElem?_cons_zero, List.getElem?_cons_succ]
    rw [rpC_full] at kr
    have hrl : (List.replicate (nn) (⟨#[46, 46]⟩ : ByteArray)).length = nn := List.length_replicate
    have HOW : Hid (W2.ownsRow W.heap.size 9 1 (.slice (some ⟨W1.heap.size, 0, none⟩) (nn) (nn)) (List.replicate (nn) (⟨#[46, 46]⟩ : ByteArray)).length ((List.replicate (nn) (⟨#[46, 46]⟩ : ByteArray)).map Value.string)) := by
      have := own_full (B := W.heap.size) bd.size kr (by rw [hrl]; omega)
      rw [hrl] at this ⊢
      exact this
    have B2 : Below W.heap.size W W2 := bd.trans (br.mono bd.size)
    have HIS : Hid (IsN W2 none (M.drop 0)) := by
      have := HM2.out.below B2
      rw [List.drop_zero]; exact this
    have HNO : Hid ((none : Option Addr) = none → (M.drop 0).length = 0 ∧ 0 = 0) := by
      exact fun _ => ⟨by rw [List.drop_zero]; exact HL.out.2, rfl⟩
    have hdl : (M.drop 0).length = 0 := by rw [List.length_drop, HL.out.2]
    have hsz2 := B2.size
    have HRP : Hid (List.replicate (nn) (⟨#[46, 46]⟩ : ByteArray) ++ M.drop 0 = wayL N M) := by
      show _ = _
      unfold wayL
      rw [HK.out, HL.out.1]
      all_goals (first | rfl | simp)
    generalize List.replicate (nn) (⟨#[46, 46]⟩ : ByteArray) = RP at *
    have HB3 : Hid (Below w.heap.size w W2) := HB2.out.trans (B2.mono HB2.out.size)
    have hsz3 := HB2.out.size
    clear kr br kd bd HM2 B2
    refine wpList_append_strs rfl _ _ 28 rfl W.heap.size 9 i0 (.string ⟨#[]⟩) Tryd.underlying28 hi0 hz0 hz1 hz2 rfl _ RP rfl HOW.out none 0 (0) (M.drop 0) hdl.symm rfl HIS.out HNO.out (by omega) hsz2 ?_
    intro v' W3 hown3 hb3
    have HB4 : Hid (Below w.heap.size w W3) := HB3.out.trans (hb3.mono hsz3)
    rw [HRP.out] at hown3
    obtain ⟨a4, c4, rfl⟩ := kown_slice hown3
    have hcap4 := own_cap hown3
    have HI4 : Hid (IsN W3 a4 (wayL N M)) := own_isN hown3
    clear hown3 hb3 HOW HIS HNO HRP HB3 hdl hsz2
    go_wp2_with fail
    refine ⟨rfl, (show Hid True from trivial), partsI_last ?_⟩
    simp only [List.cons_append, List.nil_append, List.append_nil, List.filterMap_cons, List.filterMap_nil, List.getElem?_toArray, List.getElem?_cons_zero, List.getElem?_cons_succ]
    go_wp2_with fail
    refine ⟨rfl, ?_⟩
    by_cases hw0 : wayL N M = []
    · have hl0 : (wayL N M).length = 0 := by rw [hw0]; rfl
      obtain rfl : r = ⟨#[46]⟩ := by rw [← HR.out]; unfold wayS; rw [if_pos hw0]
      rw [hl0]
      clear hcap4 hw0
      go_wp2_with fail
      go_ret2
      exact ⟨rfl, HB4.out⟩
    · have hlp : ¬ (wayL N M).length = 0 := by simpa using hw0
      have hwl : (wayL N M).length ≤ 64 := by rw [wayL_len, HK.out, HL.out.1, HL.out.2]; omega
      have HJ : Hid (Calls Tryd.prog 17 #[.slice a4 (wayL N M).length c4, .string ⟨#[47]⟩] W3 fun e w' => e = .returned (.string r) ∧ Below W3.heap.size W3 w') := by
        have h1 := join_any (c := c4) HI4.out hcap4 (by omega) (way_jn HG.out.1 HG.out.2)
        have h2 : r = bsL (Lib.join ((wayL N M).map (·.data.toList)) [47]) := by rw [← HR.out]; unfold wayS; rw [if_neg hw0]
        rw [h2]
        exact h1
      generalize (wayL N M).length = wl at *
      have hwz : ¬ (wl : Int) = 0 := by omega
      clear hcap4 hw0 HI4
      go_wp2_with fail
      refine HJ.out.mono ?_
      rintro e W4 ⟨rfl, hb5⟩
      go_wp2_with fail
      go_ret2
      exact ⟨rfl, HB4.out.trans (hb5.mono HB4.out.size)⟩
  · subst hbg
    obtain ⟨o, ho1, ho2⟩ : ∃ o, (c2 = k → o = 0) ∧ (¬ c2 = k → o = k) := ⟨if c2 = k then 0 else k, fun h => by rw [if_pos h], fun h => by rw [if_neg h]⟩
    have ho3 : (if c2 = k then some (⟨g, 0, none⟩ : Addr) else some ⟨g, k, none⟩) = some ⟨g, o, none⟩ := by
      by_cases h : c2 = k
      · rw [ho1 h, if_pos h]
      · rw [ho2 h, if_neg h]
    go_wp2_with fail
    refine wp_region_partsS (fun U => Hid True) [([1, 3, 6, 7], 2, true), ([], 4, true), ([], 8, true), ([], 0, false), ([], 5, false), ([], 9, false)] [10] [] (by kernel_rfl) (by kernel_rfl) (show Hid True from trivial) (partsI_yield ?_)
    simp only [List.cons_append, List.nil_append, List.append_nil, List.filterMap_cons, List.filterMap_nil, List.getElem?_toArray, List.getElem?_cons_zero, List.getElem?_cons_succ]
    go_wp2_with fail
    first
      | refine ⟨rfl, _, .int .i64 (nn : Int), rfl, Or.inl ⟨by rfl, fun U hU => by first | (go_simp; done) | (go_simp; exact ho3)⟩, partsI_yield ?_⟩
      | refine ⟨rfl, .int .i64 (nn : Int), Or.inl ⟨by rfl, fun U hU => by first | (go_simp; done) | (go_simp; exact ho3)⟩, partsI_yield ?_⟩
    simp only [Act.put, List.setIfInBounds_toArray, List.set_cons_zero, List.set_cons_succ]
    simp only [List.cons_append, List.nil_append, List.append_nil, List.filterMap_cons, List.filterMap_nil, List.getElem?_toArray, List.getElem?_cons_zero, List.getElem?_cons_succ]
    go_wp2_with fail
    first
      | refine ⟨rfl, _, .int .i64 ((nn - k : Nat) : Int), rfl, Or.inl ⟨by rfl, fun U hU => by first | (go_simp; done) | (go_simp; exact ho3)⟩, partsI_yield ?_⟩
      | refine ⟨rfl, .int .i64 ((nn - k : Nat) : Int), Or.inl ⟨by rfl, fun U hU => by first | (go_simp; done) | (go_simp; exact ho3)⟩, partsI_yield ?_⟩
    simp only [Act.put, List.setIfInBounds_toArray, List.set_cons_zero, List.set_cons_succ]
    simp only [List.cons_append, List.nil_append, List.append_nil, List.filterMap_cons, List.filterMap_nil, List.getElem?_toArray, List.getElem?_cons_zero, List.getElem?_cons_succ]
    go_wp2_with fail
    first
      | refine ⟨rfl, _, .slice (some ⟨g, o, none⟩) (m - k) (c2 - k), rfl, Or.inl ⟨by rfl, fun U hU => by first | (go_simp; done) | (go_simp; exact ho3)⟩, partsI_force ?_⟩
      | refine ⟨rfl, .slice (some ⟨g, o, none⟩) (m - k) (c2 - k), Or.inl ⟨by rfl, fun U hU => by first | (go_simp; done) | (go_simp; exact ho3)⟩, partsI_force ?_⟩
    simp only [Act.put, List.setIfInBounds_toArray, List.set_cons_zero, List.set_cons_succ]
    simp only [List.cons_append, List.nil_append, List.append_nil, List.filterMap_cons, List.filterMap_nil, List.getElem?_toArray, List.getElem?_cons_zero, List.getElem?_cons_succ]
    go_wp2_with fail
    refine ⟨rfl, (show Hid True from trivial), partsI_force ?_⟩
    simp only [List.cons_append, List.nil_append, List.append_nil, List.filterMap_cons, List.filterMap_nil, List.getElem?_toArray, List.getElem?_cons_zero, List.getElem?_cons_succ]
    obtain ⟨W1, hW1⟩ : ∃ W1, W1 = (W.alloc (.cells #[.string ⟨#[46, 46]⟩] 9)).drew := ⟨_, rfl⟩
    have kd : Blk W1 W.heap.size 9 #[.string ⟨#[46, 46]⟩] := by rw [hW1]; exact (Blk.new W 9 _).drew
    have bd : Below W.heap.size W W1 := by rw [hW1]; exact ((Below.refl _ W).alloc (Nat.le_refl _) _).drew
    have HRp : Hid (Calls Tryd.prog 16 #[.slice (some ⟨W.heap.size, 0, none⟩) 1 1, .int .i64 ((nn - k : Nat) : Int)] W1 fun e w' => e = .returned (.slice (some ⟨W1.heap.size, 0, none⟩) (nn - k) (nn - k)) ∧ Blk w' W1.heap.size 9 (rpC ⟨#[46, 46]⟩ (nn - k) (nn - k)).toArray ∧ Below W1.heap.size W1 w') := repeat_one ⟨#[46, 46]⟩ (by omega) W1 kd.lt (kd.cell 0)
    have HD : Hid (_ ∧ _) := ⟨kd, bd⟩
    clear kd bd
    subst hW1
    go_wp2_with fail
    refine HRp.out.mono ?_
    rintro e W2 ⟨rfl, kr, br⟩
    obtain ⟨kd, bd⟩ := HD.out
    clear HD HRp
    generalize (W.alloc (.cells #[.string ⟨#[46, 46]⟩] 9)).drew = W1 at *
    go_wp2_with fail
    refine ⟨rfl, (show Hid True from trivial), partsI_force ?_⟩
    simp only [List.cons_append, List.nil_append, List.append_nil, List.filterMap_cons, List.filterMap_nil, List.getElem?_toArray, List.getElem?_cons_zero, List.getElem?_cons_succ]
    rw [rpC_full] at kr
    have hrl : (List.replicate (nn - k) (⟨#[46, 46]⟩ : ByteArray)).length = nn - k := List.length_replicate
    have HOW : Hid (W2.ownsRow W.heap.size 9 1 (.slice (some ⟨W1.heap.size, 0, none⟩) (nn - k) (nn - k)) (List.replicate (nn - k) (⟨#[46, 46]⟩ : ByteArray)).length ((List.replicate (nn - k) (⟨#[46, 46]⟩ : ByteArray)).map Value.string)) := by
      have := own_full (B := W.heap.size) bd.size kr (by rw [hrl]; omega)
      rw [hrl] at this ⊢
      exact this
    have B2 : Below W.heap.size W W2 := bd.trans (br.mono bd.size)
    have HIS : Hid (IsN W2 (some ⟨g, o, none⟩) (M.drop k)) := by
      have := HM2.out.below B2
      by_cases h : c2 = k
      · exact .inl (List.drop_eq_nil_of_le (by rw [HL.out.2]; omega))
      · rw [ho2 h]
        have := this.dropA k
        rwa [Nat.zero_add] at this
    have HNO : Hid (((some ⟨g, o, none⟩) : Option Addr) = none → (M.drop k).length = 0 ∧ (c2 - k) = 0) := by
      exact fun h => by cases h
    have hdl : (M.drop k).length = m - k := by rw [List.length_drop, HL.out.2]
    have hsz2 := B2.size
    have HRP : Hid (List.replicate (nn - k) (⟨#[46, 46]⟩ : ByteArray) ++ M.drop k = wayL N M) := by
      show _ = _
      unfold wayL
      rw [HK.out, HL.out.1]
      all_goals (first | rfl | simp)
    generalize List.replicate (nn - k) (⟨#[46, 46]⟩ : ByteArray) = RP at *
    have HB3 : Hid (Below w.heap.size w W2) := HB2.out.trans (B2.mono HB2.out.size)
    have hsz3 := HB2.out.size
    clear kr br kd bd HM2 B2
    refine wpList_append_strs rfl _ _ 28 rfl W.heap.size 9 i0 (.string ⟨#[]⟩) Tryd.underlying28 hi0 hz0 hz1 hz2 rfl _ RP rfl HOW.out (some ⟨g, o, none⟩) (c2 - k) (m - k) (M.drop k) hdl.symm rfl HIS.out HNO.out (by omega) hsz2 ?_
    intro v' W3 hown3 hb3
    have HB4 : Hid (Below w.heap.size w W3) := HB3.out.trans (hb3.mono hsz3)
    rw [HRP.out] at hown3
    obtain ⟨a4, c4, rfl⟩ := kown_slice hown3
    have hcap4 := own_cap hown3
    have HI4 : Hid (IsN W3 a4 (wayL N M)) := own_isN hown3
    clear hown3 hb3 HOW HIS HNO HRP HB3 hdl hsz2
    go_wp2_with fail
    refine ⟨rfl, (show Hid True from trivial), partsI_last ?_⟩
    simp only [List.cons_append, List.nil_append, List.append_nil, List.filterMap_cons, List.filterMap_nil, List.getElem?_toArray, List.getElem?_cons_zero, List.getElem?_cons_succ]
    go_wp2_with fail
    refine ⟨rfl, ?_⟩
    by_cases hw0 : wayL N M = []
    · have hl0 : (wayL N M).length = 0 := by rw [hw0]; rfl
      obtain rfl : r = ⟨#[46]⟩ := by rw [← HR.out]; unfold wayS; rw [if_pos hw0]
      rw [hl0]
      clear hcap4 hw0
      go_wp2_with fail
      go_ret2
      exact ⟨rfl, HB4.out⟩
    · have hlp : ¬ (wayL N M).length = 0 := by simpa using hw0
      have hwl : (wayL N M).length ≤ 64 := by rw [wayL_len, HK.out, HL.out.1, HL.out.2]; omega
      have HJ : Hid (Calls Tryd.prog 17 #[.slice a4 (wayL N M).length c4, .string ⟨#[47]⟩] W3 fun e w' => e = .returned (.string r) ∧ Below W3.heap.size W3 w') := by
        have h1 := join_any (c := c4) HI4.out hcap4 (by omega) (way_jn HG.out.1 HG.out.2)
        have h2 : r = bsL (Lib.join ((wayL N M).map (·.data.toList)) [47]) := by rw [← HR.out]; unfold wayS; rw [if_neg hw0]
        rw [h2]
        exact h1
      generalize (wayL N M).length = wl at *
      have hwz : ¬ (wl : Int) = 0 := by omega
      clear hcap4 hw0 HI4
      go_wp2_with fail
      refine HJ.out.mono ?_
      rintro e W4 ⟨rfl, hb5⟩
      go_wp2_with fail
      go_ret2
      exact ⟨rfl, HB4.out.trans (hb5.mono HB4.out.size)⟩
set_option maxRecDepth 100000 in
set_option maxHeartbeats 4000000 in
theorem prel_any (s t : ByteArray) (w : World) : Calls Tryd.prog 5 #[.string s, .string t] w fun e w' => e = .returned (.tuple #[.string (reR s.data.toList t.data.toList).1, .int .i64 (reR s.data.toList t.data.toList).2]) ∧ Below w.heap.size w w' := by
  unfold reR
  by_cases hz : (prs s.data.toList).2.2.2 = 0
  · rw [if_pos hz]
    by_cases hz2 : (prs t.data.toList).2.2.2 = 0
    · rw [if_pos hz2]
      obtain ⟨N, d, i, z, hp⟩ : ∃ N d i z, prs s.data.toList = (N, d, i, z) := ⟨_, _, _, _, rfl⟩
      obtain ⟨M, d2, i2, z2, hp2⟩ : ∃ M d2 i2 z2, prs t.data.toList = (M, d2, i2, z2) := ⟨_, _, _, _, rfl⟩
      rw [hp] at hz ⊢
      rw [hp2] at hz2 ⊢
      obtain rfl : z = 0 := hz
      obtain rfl : z2 = 0 := hz2
      exact prel_ok s t hp hp2 w
    · rw [if_neg hz2]
      have HX := both_bad2 s t hz hz2
      generalize (prs t.data.toList).2.2.2 = z at *
      have hzb : (z == 0) = false := by simpa using hz2
      have hzn : (z != 0) = true := by simpa using hz2
      clear hz
      go_enter Tryd.func5, Tryd.ntmps5
      go_wp2_with fail
      refine (HX _).mono ?_
      rintro e w1 ⟨rfl, hb⟩
      go_wp2_with fail
      go_ret2
      exact ⟨rfl, hb⟩
  · rw [if_neg hz]
    have HX := both_bad1 s t hz
    generalize (prs s.data.toList).2.2.2 = z at *
    have hzb : (z == 0) = false := by simpa using hz
    have hzn : (z != 0) = true := by simpa using hz
    go_enter Tryd.func5, Tryd.ntmps5
    go_wp2_with fail
    refine (HX _).mono ?_
    rintro e w1 ⟨rfl, hb⟩
    go_wp2_with fail
    go_ret2
    exact ⟨rfl, hb⟩
end Go.Proofs.YtggacdlnpakehaaDoor
