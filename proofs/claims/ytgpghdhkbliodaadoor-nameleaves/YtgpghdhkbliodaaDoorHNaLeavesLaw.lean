/- The law of leaves of entries. -/
import Derived.Test.YtgpghdhkbliodaaDoorHNaLeaf
import Derived.Test.YtgpghdhkbliodaaDoorHNaEntriesLaw
import Derived.Handy
import Derived.Test.YtgpghdhkbliodaaDoorHEqState
import Derived.Test.YtgpghdhkbliodaaDoorHNaDecode
import Derived.Test.YtgpghdhkbliodaaDoorRows
import Derived.WalkKit
import Derived.ProofKit
import Derived.OpenShut
import Derived.Carry
import Derived.Deep.Slices
import Derived.Deep.MidRow
import Derived.Lib.SmallJoins
import Derived.SizedLaws
import Derived.SliceStrings
import Derived.ChangeArms
import Derived.Laws.AppendOwnNone

namespace Go.Proofs.YtgpghdhkbliodaaDoor
open Go Go.RowKit
set_option linter.unusedVariables false
theorem decV_cut (s t : ByteArray) (a : Nat) (h : a + 64 ≤ s.size) (ht : s.extract a (a + 64) = t) (h64 : t.size = 64) : decV s (a : Int) = decV t 0 := by
  have hx : t.extract (0 : Int).toNat ((0 : Int).toNat + 64) = t := by
    show t.extract 0 64 = t
    have hz3 : (t.extract 0 64).size = 64 := by rw [extract_size _ _ _ (by rw [h64]; exact Nat.le_refl _)]
    refine text_ext (hz3.trans h64.symm) fun j hj => ?_
    rw [hz3] at hj
    rw [tbyte_extract _ _ _ _ (by rw [h64]; exact Nat.le_refl _) (by omega), Nat.zero_add]
  have c1 : 0 ≤ (a : Int) ∧ (a : Int) ≤ (s.size : Int) - 64 := by omega
  have c2 : (0 : Int) ≤ 0 ∧ (0 : Int) ≤ (t.size : Int) - 64 := by rw [h64]; decide
  unfold decV
  rw [Int.toNat_natCast, ht, hx, if_pos c1, if_pos c2]
/-- what the leaf has at a place among the first n -/
theorem leF_at (N : Nat → Int) (S : Nat → ByteArray) (n p j : Nat) (hp : p < n) (hj : j < 64) : leF N S n (p * 64 + j) = tbyte (encT (N p) (S p)) j := by
  induction n with
  | zero => omega
  | succ n ih =>
    show putAt (leF N S n) (n * 64) 64 (tbyte (encT (N n) (S n))) (p * 64 + j) = _
    unfold putAt
    by_cases e : p = n
    · subst e
      rw [if_pos (by omega), Nat.add_sub_cancel_left]
    · rw [if_neg (by omega)]
      exact ih (by omega)
theorem leF_out (N : Nat → Int) (S : Nat → ByteArray) (n j : Nat) (hj : n * 64 ≤ j) : leF N S n j = 0 := by
  induction n with
  | zero => rfl
  | succ n ih =>
    show putAt (leF N S n) (n * 64) 64 (tbyte (encT (N n) (S n))) j = 0
    unfold putAt
    rw [if_neg (by omega)]
    exact ih (by omega)
theorem leF_lt (N : Nat → Int) (S : Nat → ByteArray) (n j : Nat) : leF N S n j < 256 := by
  induction n generalizing j with
  | zero => exact Nat.zero_lt_succ _
  | succ n ih =>
    show putAt (leF N S n) (n * 64) 64 (tbyte (encT (N n) (S n))) j < 256
    exact putAt_lt ih (tbyte_lt _) j
theorem leE_each (N : Nat → Int) (S : Nat → ByteArray) {n p : Nat} (h : leE N S n = 0) (hp : p < n) : encE (N p) (S p) = 0 := by
  cases Classical.em (leE N S (p + 1) = 0) with
  | inl h1 =>
    have h2 : (if leE N S p ≠ 0 then leE N S p else encE (N p) (S p)) = 0 := h1
    by_cases h3 : leE N S p = 0
    · rw [if_neg (by simp [h3])] at h2; exact h2
    · rw [if_pos h3] at h2; exact absurd h2 h3
  | inr h1 => exact absurd ((leE_more N S (by omega : p + 1 ≤ n) h1).symm.trans h) h1
theorem pl_in (N : Nat → Int) (S : Nat → ByteArray) (n p : Nat) (h4 : n ≤ 4) (h : leE N S n = 0) (hp : p < n) : pl (leF N S n) p = (N p, S p, true, 0) := by
  have he := leE_each N S h hp
  have hz : (strN (leF N S n) 256).size = 256 := strN_size _ _
  have h64 : (encT (N p) (S p)).size = 64 := by unfold encT; rw [if_pos he, strN_size]
  have hc : (strN (leF N S n) 256).extract (p * 64) (p * 64 + 64) = encT (N p) (S p) := by
    have hz2 : ((strN (leF N S n) 256).extract (p * 64) (p * 64 + 64)).size = 64 := by rw [extract_size _ _ _ (by rw [hz]; omega)]; omega
    refine text_ext (hz2.trans h64.symm) fun j hj => ?_
    rw [hz2] at hj
    rw [tbyte_extract _ _ _ _ (by rw [hz]; omega) (by omega), strN_at _ _ _ (by omega) (leF_lt _ _ _ _), leF_at N S n p j hp hj]
  show decV (strN (leF N S n) 256) ((p : Int) * 64) = _
  rw [show (p : Int) * 64 = ((p * 64 : Nat) : Int) from by omega, decV_cut _ _ _ (by rw [hz]; omega) hc h64]
  exact dec_enc (N p) (S p) he
theorem pl_out (N : Nat → Int) (S : Nat → ByteArray) (n p : Nat) (h4 : n ≤ 4) (hp : n ≤ p) (hp4 : p < 4) : pl (leF N S n) p = (0, ⟨#[]⟩, false, 0) := by
  have hz : (strN (leF N S n) 256).size = 256 := strN_size _ _
  have hz2 : ((strN (leF N S n) 256).extract (p * 64) (p * 64 + 64)).size = 64 := by rw [extract_size _ _ _ (by rw [hz]; omega)]; omega
  have hzt : zT ((strN (leF N S n) 256).extract (p * 64) (p * 64 + 64)) = true := by
    unfold zT
    rw [List.all_eq_true]
    intro b hb
    obtain ⟨j, hj, rfl⟩ := List.getElem_of_mem hb
    have hj2 : j < 64 := by rw [← Lib.size_eq, hz2] at hj; exact hj
    have hb0 : tbyte ((strN (leF N S n) 256).extract (p * 64) (p * 64 + 64)) j = 0 := by
      rw [tbyte_extract _ _ _ _ (by rw [hz]; omega) (by omega), strN_at _ _ _ (by omega) (leF_lt _ _ _ _), leF_out N S n _ (by omega)]
    unfold tbyte at hb0
    rw [List.getD_eq_getElem?_getD, List.getElem?_eq_getElem hj] at hb0
    have : ((strN (leF N S n) 256).extract (p * 64) (p * 64 + 64)).data.toList[j] = 0 := UInt8.toNat_inj.1 hb0
    rw [this]; rfl
  show decV (strN (leF N S n) 256) ((p : Int) * 64) = _
  rw [show (p : Int) * 64 = ((p * 64 : Nat) : Int) from by omega]
  unfold decV
  rw [if_pos (by rw [hz]; omega), Int.toNat_natCast, hzt, if_pos rfl]
theorem flOk_back (N : Nat → Int) (S : Nat → ByteArray) (n : Nat) (h4 : n ≤ 4) (h : leE N S n = 0) : flOk (leF N S n) n 4 := by
  intro p hp
  by_cases hpn : p < n
  · rw [pl_in N S n p h4 h hpn]
    exact ⟨rfl, (decide_eq_true (by omega)).symm⟩
  · rw [pl_out N S n p h4 (by omega) hp]
    exact ⟨rfl, (decide_eq_false (by omega)).symm⟩
theorem plI_back (N : Nat → Int) (S : Nat → ByteArray) (n : Nat) (h4 : n ≤ 4) (h : leE N S n = 0) (p : Nat) (hp : p < n) : plI (leF N S n) p = N p ∧ plS (leF N S n) p = S p := by
  unfold plI plS
  rw [pl_in N S n p h4 h hp]
  exact ⟨rfl, rfl⟩
end Go.Proofs.YtgpghdhkbliodaaDoor

namespace Go.Proofs.YtgpghdhkbliodaaDoor
set_option maxRecDepth 20000
open Go Go.RowKit
set_option linter.unusedVariables false
set_option linter.unusedSimpArgs false
/-- entries of a caller's slice -/
def IsLkC (W : World) (a : Option Addr) (n : Nat) (N : Nat → Int) (S : Nat → ByteArray) : Prop := ∀ i, i < n → ∃ b o, a = some ⟨b, o, none⟩ ∧ b < W.heap.size ∧ W.cell? ⟨b, o + i * 2, none⟩ = some (.int .i64 (N i)) ∧ W.cell? ⟨b, o + i * 2 + 1, none⟩ = some (.string (S i))
theorem IsLkC.below {W V : World} {a : Option Addr} {n : Nat} {N : Nat → Int} {S : Nat → ByteArray} (h : IsLkC W a n N S) (hb : Below W.heap.size W V) : IsLkC V a n N S := fun i hi => by
  obtain ⟨b, o, h1, h2, h3, h4⟩ := h i hi
  exact ⟨b, o, h1, Nat.lt_of_lt_of_le h2 hb.size, (hb.cell h2).trans h3, (hb.cell h2).trans h4⟩
set_option maxHeartbeats 4000000 in
theorem given_any (a : Option Addr) (n c : Nat) (hn : n * 24 ≤ 140737488355328) (N : Nat → Int) (S : Nat → ByteArray) (w : World) (hI : IsLkC w a n N S) :
    Calls Tryd.prog 15 #[.slice a n c] w fun e w' => (∃ v, e = .returned v ∧ w'.ownsRow w.heap.size 29 2 v n (lkL N S n)) ∧ Below w.heap.size w w' := by
  obtain ⟨i0, hi, hz0, hz1, hz2⟩ := info_parts infoRLk
  have HI : Hid (IsLkC w a n N S) := hI
  clear hI
  have HLL : Hid (∀ m, lkL N S (m + 1) = lkL N S m ++ [.int .i64 (N m), .string (S m)]) := fun m => rfl
  have H0 : Hid (Below w.heap.size w (w.alloc (.cells #[] 29)) ∧ (w.alloc (.cells #[] 29)).ownsRow w.heap.size 29 2 (.slice (some ⟨w.heap.size, 0, none⟩) 0 0) 0 []) := ⟨below_new1 _ _, World.ownsRow_lit w #[] 0 (Nat.le_refl _) (by decide) rfl⟩
  go_enter Tryd.func15, Tryd.ntmps15
  go_wp2_with fail
  generalize w.alloc (.cells #[] 29) = w1 at H0 ⊢
  go_loopw [3, 4] (fun v3 v4 wr => Hid (∃ (i : Nat) (v : Value), i ≤ n ∧ v4 = .int .i64 (i : Int) ∧ v3 = v ∧ wr.ownsRow w.heap.size 29 2 v i (lkL N S i) ∧ Below w.heap.size w wr)) (fun _ v4 _ => n - (intOf v4).toNat)
  case atStart => exact ⟨0, _, by omega, rfl, rfl, H0.out.2, H0.out.1⟩
  case round =>
    obtain ⟨i, v, hin, rfl, rfl, hown, hb⟩ := Hid.out hrel
    clear hrel H0
    by_cases h1 : i < n
    · have i1 : (i : Int) < (n : Int) := by omega
      obtain ⟨b, o, rfl, hbl, q0, q1⟩ := HI.out i h1
      have HL1 := HLL.out i
      generalize N i = ni at q0 HL1
      generalize S i = si at q1 HL1
      have HLQ : Hid (lkL N S (i + 1) = lkL N S i ++ [.int .i64 ni, .string si]) := HL1
      clear HL1
      have hsz := hb.size
      have HOWN : Hid ((wr.alloc (.cells #[.int .i64 ni, .string si] 29)).drew.ownsRow w.heap.size 29 2 u3 i (lkL N S i)) := (hown.alloc _).drew
      have HV2 := (hown.alloc (.cells #[.int .i64 ni, .string si] 29)).drew.lt
      have hml : i + 1 ≤ maxLen := Nat.le_trans (by omega : i + 1 ≤ 140737488355328) (by decide)
      have hbA : Below w.heap.size w (wr.alloc (.cells #[.int .i64 ni, .string si] 29)).drew := (hb.alloc hsz _).drew
      have hsz2 := hbA.size
      have hS9 : wr.drew.cell? ⟨b, o + i * 2, none⟩ = some (.int .i64 ni) ∧ wr.drew.cell? ⟨b, o + i * 2 + 1, none⟩ = some (.string si) := ⟨(hb.cell hbl).trans q0, (hb.cell hbl).trans q1⟩
      have hS10 : (wr.alloc (.cells #[.int .i64 ni, .string si] 29)).drew.cell? ⟨b, o + i * 2, none⟩ = some (.int .i64 ni) ∧ (wr.alloc (.cells #[.int .i64 ni, .string si] 29)).drew.cell? ⟨b, o + i * 2 + 1, none⟩ = some (.string si) := ⟨(hbA.cell hbl).trans q0, (hbA.cell hbl).trans q1⟩
      have cc0 := hS9.1
      have cc1 := hS9.2
      clear hown hb
      go_wp2_with fail
      refine wp_region_partsS (fun W => W.cell? ⟨b, o + i * 2, none⟩ = some (.int .i64 ni) ∧ W.cell? ⟨b, o + i * 2 + 1, none⟩ = some (.string si)) [([0, 1, 2, 3, 6, 7, 8], 4, true), ([], 5, true), ([], 9, false), ([], 10, false), ([], 11, false), ([], 12, false), ([], 13, false)] [14] [] (by kernel_rfl) (by kernel_rfl) hS9 (partsI_yield ?_)
      simp only [List.cons_append, List.nil_append, List.append_nil, List.filterMap_cons, List.filterMap_nil, List.getElem?_toArray, List.getElem?_cons_zero, List.getElem?_cons_succ]
      go_wp2_with fail
      refine ⟨rfl, _, .pointer (some ⟨b, o + i * 2, none⟩), rfl, Or.inl ⟨by rfl, fun W hW => by go_simp⟩, partsI_yield ?_⟩
      simp only [Act.put, List.setIfInBounds_toArray, List.set_cons_zero, List.set_cons_succ]
      simp only [List.cons_append, List.nil_append, List.append_nil, List.filterMap_cons, List.filterMap_nil, List.getElem?_toArray, List.getElem?_cons_zero, List.getElem?_cons_succ]
      go_wp2_with fail
      refine ⟨rfl, _, .int .i64 ni, rfl, Or.inl ⟨by rfl, fun W hW => by have hW1 := hW.1; go_simp⟩, partsI_force ?_⟩
      simp only [Act.put, List.setIfInBounds_toArray, List.set_cons_zero, List.set_cons_succ]
      simp only [List.cons_append, List.nil_append, List.append_nil, List.filterMap_cons, List.filterMap_nil, List.getElem?_toArray, List.getElem?_cons_zero, List.getElem?_cons_succ]
      go_wp2_with fail
      refine ⟨rfl, hS9, partsI_force ?_⟩
      simp only [List.cons_append, List.nil_append, List.append_nil, List.filterMap_cons, List.filterMap_nil, List.getElem?_toArray, List.getElem?_cons_zero, List.getElem?_cons_succ]
      go_wp2_with fail
      refine ⟨rfl, hS9, partsI_force ?_⟩
      simp only [List.cons_append, List.nil_append, List.append_nil, List.filterMap_cons, List.filterMap_nil, List.getElem?_toArray, List.getElem?_cons_zero, List.getElem?_cons_succ]
      go_wp2_with fail
      refine ⟨rfl, hS9, partsI_force ?_⟩
      simp only [List.cons_append, List.nil_append, List.append_nil, List.filterMap_cons, List.filterMap_nil, List.getElem?_toArray, List.getElem?_cons_zero, List.getElem?_cons_succ]
      go_wp2_with fail
      refine ⟨rfl, hS10, partsI_force ?_⟩
      simp only [List.cons_append, List.nil_append, List.append_nil, List.filterMap_cons, List.filterMap_nil, List.getElem?_toArray, List.getElem?_cons_zero, List.getElem?_cons_succ]
      refine wpList_append_own _ rfl _ _ 37 rfl w.heap.size 29 i0 (.agg #[.int .i64 0, .string ⟨#[]⟩]) 2 24 Tryd.underlying37 hi hz0 hz1 hz2 rfl (by decide) _ _ _ rfl HOWN.out ⟨wr.heap.size, 0, none⟩ 1 1 [.int .i64 ni, .string si] rfl rfl (fun j u h => cells_new2L wr (.int .i64 ni) (.string si) 29 j u h) (by simp [Value.oneCell']) hml (by omega) hsz2 ?_
      intro v' w5 hown' hgrow _
      have hb5 : Below w.heap.size w w5 := hbA.grown hgrow hsz2 (fun q hq => (HV2 q hq).1)
      rw [← HLQ.out] at hown'
      have HE : Hid (_ ∧ _) := ⟨hown', hb5⟩
      clear HOWN HV2 hgrow hbA hown' hb5
      simp only [Act.put, List.setIfInBounds_toArray, List.set_cons_zero, List.set_cons_succ]
      refine ⟨rfl, ⟨(HE.out.2.cell hbl).trans q0, (HE.out.2.cell hbl).trans q1⟩, partsI_last ?_⟩
      simp only [List.cons_append, List.nil_append, List.append_nil, List.filterMap_cons, List.filterMap_nil, List.getElem?_toArray, List.getElem?_cons_zero, List.getElem?_cons_succ]
      go_wp2_with fail
      refine ⟨rfl, ?_⟩
      go_wp2_with fail
      go_roundw
      case rel => exact ⟨i + 1, v', by omega, by first | rfl | go_num | simp, rfl, HE.out.1, HE.out.2⟩
      case measure => simp [intOf]; omega
    · obtain rfl : i = n := by omega
      have i1 : ¬ ((i : Int) < (i : Int)) := by omega
      have HE : Hid (_ ∧ _) := ⟨hown, hb⟩
      clear hown hb
      go_wp2_with fail
      go_ret
      exact ⟨⟨_, rfl, HE.out.1⟩, HE.out.2⟩
end Go.Proofs.YtgpghdhkbliodaaDoor

namespace Go.Proofs.YtgpghdhkbliodaaDoor
set_option maxRecDepth 20000
open Go Go.RowKit
set_option linter.unusedVariables false
set_option linter.unusedSimpArgs false
theorem lkL_at (N : Nat → Int) (S : Nat → ByteArray) : ∀ (n i : Nat), i < n → (lkL N S n)[i * 2]? = some (.int .i64 (N i)) ∧ (lkL N S n)[i * 2 + 1]? = some (.string (S i))
  | 0, i, h => absurd h (Nat.not_lt_zero _)
  | n + 1, i, h => by
    have hl := lkL_len N S n
    by_cases e : i = n
    · subst e
      rw [lkL, List.getElem?_append_right (by omega), List.getElem?_append_right (by omega), hl]
      rw [show i * 2 - i * 2 = 0 from by omega, show i * 2 + 1 - i * 2 = 1 from by omega]
      exact ⟨rfl, rfl⟩
    · rw [lkL, List.getElem?_append_left (by omega), List.getElem?_append_left (by omega)]
      exact lkL_at N S n i (by omega)
theorem lkL_congr {N M : Nat → Int} {S T : Nat → ByteArray} : ∀ n, (∀ i, i < n → N i = M i ∧ S i = T i) → lkL N S n = lkL M T n
  | 0, _ => rfl
  | n + 1, h => by rw [lkL, lkL, lkL_congr n (fun i hi => h i (by omega)), (h n (by omega)).1, (h n (by omega)).2]
theorem own_lk {w : World} {B t g n cap : Nat} {N : Nat → Int} {S : Nat → ByteArray} (h : w.ownsRow B t 2 (.slice (some ⟨g, 0, none⟩) n cap) n (lkL N S n)) : IsLk w g n N S := fun i hi => by
  rw [h.cellAt (i * 2) (by omega), h.cellAt (i * 2 + 1) (by omega)]
  exact lkL_at N S n i hi
set_option maxHeartbeats 4000000 in
theorem links_zero (a b : Option Addr) (c d : Nat) (w : World) :
    Calls Tryd.prog 12 #[.slice a 0 c, .slice b 0 d] w fun e w' => e = .returned (.bool true) ∧ w' = w := by
  go_enter Tryd.func12, Tryd.ntmps12
  go_wp2_with fail
  go_loop [5] (fun v => Hid (v = .int .i64 0)) (fun _ => 0)
  case atStart => exact rfl
  case round =>
    obtain rfl := Hid.out hrel
    go_wp2_with fail
    go_ret
    exact ⟨rfl, rfl⟩
theorem links_own (n B1 B2 t1 t2 : Nat) (va vb : Value) (N : Nat → Int) (S : Nat → ByteArray) (hn : n ≤ 4611686018427387904) (w : World) (ha : w.ownsRow B1 t1 2 va n (lkL N S n)) (hb : w.ownsRow B2 t2 2 vb n (lkL N S n)) :
    Calls Tryd.prog 12 #[va, vb] w fun e w' => e = .returned (.bool true) ∧ ∃ m, w' = w.drewN m := by
  by_cases h : 0 < n
  · obtain ⟨g1, c1, rfl, _, _⟩ := kown_form ha h
    obtain ⟨g2, c2, rfl, _, _⟩ := kown_form hb h
    exact links_yes n c1 c2 g1 g2 N S hn w (own_lk ha) (own_lk hb)
  · obtain rfl : n = 0 := by omega
    have f : ∀ {B t : Nat} {v : Value}, w.ownsRow B t 2 v 0 (lkL N S 0) → ∃ a c, v = .slice a 0 c := fun h => by
      rcases h.2 with ⟨rfl, _⟩ | ⟨g, cap, cur, rfl, _⟩
      · exact ⟨_, _, rfl⟩
      · exact ⟨_, _, rfl⟩
    obtain ⟨a, c, rfl⟩ := f ha
    obtain ⟨b, d, rfl⟩ := f hb
    exact (links_zero a b c d w).mono fun e w' ⟨h1, h2⟩ => ⟨h1, 0, h2⟩
end Go.Proofs.YtgpghdhkbliodaaDoor

namespace Go.Proofs.YtgpghdhkbliodaaDoor
open Go Go.RowKit
set_option linter.unusedVariables false
/-- Leaf's answer: the error and the leaf -/
def lfE (N : Nat → Int) (S : Nat → ByteArray) (n : Nat) : Int := if 4 < n then 1 else leE N S n
def lfF (N : Nat → Int) (S : Nat → ByteArray) (n : Nat) : Nat → Nat := if lfE N S n = 0 then leF N S n else fun _ => 0
theorem lfE_ok {N : Nat → Int} {S : Nat → ByteArray} {n : Nat} (h : lfE N S n = 0) : n ≤ 4 ∧ leE N S n = 0 ∧ lfF N S n = leF N S n := by
  have h1 : ¬ 4 < n := fun h1 => by unfold lfE at h; rw [if_pos h1] at h; cases h
  have h2 : leE N S n = 0 := by unfold lfE at h; rwa [if_neg h1] at h
  refine ⟨by omega, h2, ?_⟩
  unfold lfF
  rw [if_pos h]
theorem lfF_lt (N : Nat → Int) (S : Nat → ByteArray) (n j : Nat) : lfF N S n j < 256 := by
  unfold lfF
  split
  · exact leF_lt _ _ _ _
  · exact Nat.zero_lt_succ _
theorem own_slice {w : World} {B t n : Nat} {v : Value} {xs : List Value} (h : w.ownsRow B t 2 v n xs) : ∃ a c, v = .slice a n c := by
  rcases h.2 with ⟨rfl, rfl⟩ | ⟨g, cap, cur, rfl, _⟩
  · exact ⟨_, _, rfl⟩
  · exact ⟨_, _, rfl⟩
theorem own_lks {w : World} {B t n c : Nat} {a : Option Addr} {N : Nat → Int} {S : Nat → ByteArray} (h : w.ownsRow B t 2 (.slice a n c) n (lkL N S n)) : IsLks w a n N S := fun h0 => by
  obtain ⟨g, cap, e, _, hg⟩ := kown_form h h0
  injection e with e1 e2 e3
  subst e1
  subst e3
  exact ⟨g, rfl, hg, own_lk h⟩
theorem leaf_one {w : World} {B t n : Nat} {v : Value} {N : Nat → Int} {S : Nat → ByteArray} (hn : n ≤ 4611686018427387904) (h : w.ownsRow B t 2 v n (lkL N S n)) :
    Calls Tryd.prog 13 #[v] w fun e w' => e = .returned (.tuple #[.agg (va 256 (iv .u8 (lfF N S n))), .int .i64 (lfE N S n)]) ∧ Below w.heap.size w w' := by
  obtain ⟨a, c, rfl⟩ := own_slice h
  by_cases h4 : 4 < n
  · have he : lfE N S n = 1 := if_pos h4
    have hf : lfF N S n = fun _ => 0 := by unfold lfF; rw [he]; rfl
    rw [he, hf]
    exact leaf_many a n c h4 hn w
  · have he : lfE N S n = leE N S n := if_neg h4
    unfold lfF
    rw [he]
    exact leaf_any a n c (by omega) N S w (own_lks h)
theorem rleaf_one {w : World} {B t n : Nat} {v : Value} {N : Nat → Int} {S : Nat → ByteArray} (hn : n ≤ 4611686018427387904) (h : w.ownsRow B t 2 v n (lkL N S n)) :
    Calls Tryd.prog 14 #[v] w fun e w' => e = .returned (.tuple #[.agg (va 256 (iv .u8 (lfF N S n))), .int .i64 (lfE N S n)]) ∧ Below w.heap.size w w' := by
  obtain ⟨a, c, rfl⟩ := own_slice h
  by_cases h4 : 4 < n
  · have he : lfE N S n = 1 := if_pos h4
    have hf : lfF N S n = fun _ => 0 := by unfold lfF; rw [he]; rfl
    rw [he, hf]
    exact rleaf_many a n c h4 hn w
  · have he : lfE N S n = leE N S n := if_neg h4
    unfold lfF
    rw [he]
    exact rleaf_any a n c (by omega) N S w (own_lks h)
/-- whether FromLeaf answers entries -/
def FrOk (f : Nat → Nat) (q : Int) : Prop := (0 ≤ q ∧ q ≤ 4) ∧ flOk f q 4
theorem from_both (f : Nat → Nat) (hf : ∀ i, f i < 256) (q : Int) :
    (¬ FrOk f q ∧ ∃ g : Int, g ≠ 0 ∧ (∀ w : World, Calls Tryd.prog 16 #[.agg (va 256 (iv .u8 f)), .int .i64 q] w fun e w' => e = .returned (.tuple #[.slice none 0 0, .int .i64 g]) ∧ Below w.heap.size w w') ∧
      (∀ w : World, Calls Tryd.prog 17 #[.agg (va 256 (iv .u8 f)), .int .i64 q] w fun e w' => (∃ a c, e = .returned (.tuple #[.slice a 0 c, .int .i64 g])) ∧ Below w.heap.size w w')) ∨
    (FrOk f q ∧ ∃ m : Nat, q = (m : Int) ∧ m ≤ 4 ∧ (∀ w : World, Calls Tryd.prog 16 #[.agg (va 256 (iv .u8 f)), .int .i64 q] w fun e w' => (∃ v, e = .returned (.tuple #[v, .int .i64 0]) ∧ w'.ownsRow w.heap.size 23 2 v m (lkL (plI f) (plS f) m)) ∧ Below w.heap.size w w') ∧
      (∀ w : World, Calls Tryd.prog 17 #[.agg (va 256 (iv .u8 f)), .int .i64 q] w fun e w' => (∃ v, e = .returned (.tuple #[v, .int .i64 0]) ∧ w'.ownsRow (w.heap.size + 1) 29 2 v m (lkL (plI f) (plS f) m)) ∧ Below w.heap.size w w')) := by
  by_cases h : 0 ≤ q ∧ q ≤ 4
  · obtain ⟨m, rfl⟩ : ∃ m : Nat, q = (m : Int) := ⟨q.toNat, by omega⟩
    by_cases hk : flOk f m 4
    · refine Or.inr ⟨⟨h, hk⟩, m, rfl, by omega, fun w => ?_, fun w => ?_⟩
      · refine (fromLeaf_any f hf m (by omega) w).mono fun e w' ⟨h1, h2⟩ => ⟨?_, h2⟩
        rcases h1 with ⟨h3, _⟩ | ⟨_, h3⟩
        · exact absurd hk h3
        · exact h3
      · refine (rfromLeaf_any f hf m (by omega) w).mono fun e w' ⟨h1, h2⟩ => ⟨?_, h2⟩
        rcases h1 with ⟨h3, _⟩ | ⟨_, h3⟩
        · exact absurd hk h3
        · exact h3
    · refine Or.inl ⟨fun h2 => hk h2.2, 131, by decide, fun w => ?_, fun w => ?_⟩
      · refine (fromLeaf_any f hf m (by omega) w).mono fun e w' ⟨h1, h2⟩ => ⟨?_, h2⟩
        rcases h1 with ⟨_, h3⟩ | ⟨h3, _⟩
        · exact h3
        · exact absurd h3 hk
      · refine (rfromLeaf_any f hf m (by omega) w).mono fun e w' ⟨h1, h2⟩ => ⟨?_, h2⟩
        rcases h1 with ⟨_, h3⟩ | ⟨h3, _⟩
        · exact h3
        · exact absurd h3 hk
  · refine Or.inl ⟨fun h2 => h h2.1, 1, by decide, fromLeaf_arg f q (by omega), rfromLeaf_arg f q (by omega)⟩
end Go.Proofs.YtgpghdhkbliodaaDoor

namespace Go.Proofs.YtgpghdhkbliodaaDoor
open Go.ChangeShapes Go.WideShapes Go.ChangeAt Go.RowKit Go.Joins
set_option linter.unusedVariables false
set_option linter.unusedSimpArgs false
theorem lkL_mem (N : Nat → Int) (S : Nat → ByteArray) : ∀ n u, u ∈ lkL N S n → u.oneCell' = true
  | 0, u, h => by simp [lkL] at h
  | n + 1, u, h => by
    rw [lkL, List.mem_append] at h
    rcases h with h | h
    · exact lkL_mem N S n u h
    · simp at h
      rcases h with rfl | rfl <;> rfl
theorem lkL_get (N : Nat → Int) (S : Nat → ByteArray) : ∀ n j u, (lkL N S n)[j]? = some u → ∃ i, i < n ∧ ((j = i * 2 ∧ u = .int .i64 (N i)) ∨ (j = i * 2 + 1 ∧ u = .string (S i)))
  | 0, j, u, h => by simp [lkL] at h
  | n + 1, j, u, h => by
    have hl := lkL_len N S n
    rw [lkL] at h
    by_cases hj : j < n * 2
    · rw [List.getElem?_append_left (by omega)] at h
      obtain ⟨i, hi, hh⟩ := lkL_get N S n j u h
      exact ⟨i, by omega, hh⟩
    · rw [List.getElem?_append_right (by omega), hl] at h
      have hlt : j - n * 2 < 2 := by have := (List.getElem?_eq_some_iff.1 h).1; simpa using this
      by_cases e : j = n * 2
      · rw [e, Nat.sub_self] at h
        simp at h
        exact ⟨n, by omega, Or.inl ⟨e, h.symm⟩⟩
      · have e2 : j = n * 2 + 1 := by omega
        rw [e2, show n * 2 + 1 - n * 2 = 1 from by omega] at h
        simp at h
        exact ⟨n, by omega, Or.inr ⟨e2, h.symm⟩⟩
theorem wpList_append_links {P : Program} {ops : Array Oper} {rest : List Oper} {o : Oper} {a : Act} {w : World} {Q : Exit → Act → World → Prop} (hgd : o.guard = none) (s x : Operand) (t : TypeId)
    (ho : o.op = .call { callee := .builtin .append, args := #[s, x], argTypes := #[t, t] }) (B : Nat) (e : TypeId) (i : TypeInfo) (z : Value) (ht : P.underlying t = some (.slice e)) (hi : P.info? e = some i) (hz : i.zero = some z) (hsize : i.size = 2) (hby : i.bytes = 24) (hzs : z.cells.size = 2)
    (v : Value) (hs : a.eval s = v) (hown : w.ownsRow B e 2 v 0 []) (a1 : Option Addr) (n c : Nat) (N : Nat → Int) (S : Nat → ByteArray) (hx : a.eval x = .slice a1 n c) (hA : IsLkC w a1 n N S) (hN : a1 = none → n = 0 ∧ c = 0) (hn : n * 24 ≤ 140737488355328) (hbase : B ≤ w.heap.size)
    (h : ∀ v' w', w'.ownsRow B e 2 v' n (lkL N S n) → Below B w w' → wpList P ops Q rest (a.put o.dst v') w') : wpList P ops Q (o :: rest) a w := by
  cases a1 with
  | none =>
    obtain ⟨rfl, rfl⟩ := hN rfl
    exact wpList_append_own_none hgd s x t ho B e i 2 ht hi v 0 [] hs hown hx (h v w hown (Below.refl _ _))
  | some ad =>
    have hv := hown.lt
    refine wpList_append_own _ hgd s x t ho B e i z 2 24 ht hi hz hsize hby hzs (by decide) v 0 [] hs hown ad n c (lkL N S n) hx (lkL_len N S n) (fun j u hu => ?_) (lkL_mem N S n) (by unfold maxLen; omega) (by omega) hbase fun v' w' h1 h2 _ => ?_
    · obtain ⟨k, hk, hh⟩ := lkL_get N S n j u hu
      obtain ⟨b, o2, e1, _, c0, c1⟩ := hA k hk
      injection e1 with e2
      subst e2
      rcases hh with ⟨rfl, rfl⟩ | ⟨rfl, rfl⟩
      · rw [Addr.add_mid]; exact c0
      · rw [Addr.add_mid, ← Nat.add_assoc]; exact c1
    · rw [List.nil_append, Nat.zero_add] at h1
      exact h v' w' h1 ((Below.refl _ _).grown h2 hbase (fun k hk => (hv k hk).1))
theorem lcell_lt {W : World} {b o : Nat} {v : Value} (h : W.cell? ⟨b, o, none⟩ = some v) : b < W.heap.size := by
  apply Nat.lt_of_not_le
  intro hle
  have : W.heap[b]? = none := Array.getElem?_eq_none_iff.2 hle
  simp [World.cell?, this] at h
set_option maxRecDepth 100000 in
theorem open_links {H : Type} {enc : TypeId × Value → H} {W : World} {a0 : Option Addr} {len cap fuel : Nat} {x : DataW H × List MemPlace}
    (hf : DataW.trod enc Tryd.prog W 0 (fun _ => true) true fuel 36 [.slice a0 len cap] = some x) (hsz : ∀ n ∈ x.1.weights Tryd.prog 36, n ≤ reachBytes) :
    ∃ (NS : (Nat → Int) × (Nat → ByteArray)), len ≤ 9223372036854775807 ∧ len * 24 ≤ 140737488351232 ∧ (a0 = none → len = 0 ∧ cap = 0) ∧ IsLkC W a0 len NS.1 NS.2 := by
  rcases Deep.open_slice Tryd.underlying36 hf with ⟨hcs, hx⟩ | ⟨a, len', cap', m, n, D, Pl, hcs, _, hl, hm, hmm, hx, hel⟩
  · simp at hcs
    obtain ⟨rfl, rfl, rfl⟩ := hcs
    exact ⟨(fun _ => 0, fun _ => ⟨#[]⟩), by omega, by omega, fun _ => ⟨rfl, rfl⟩, fun i hi => absurd hi (by omega)⟩
  · simp at hcs
    obtain ⟨rfl, rfl, rfl⟩ := hcs
    subst hx
    simp only [if_true] at hmm
    subst hmm
    have hu := Tryd.underlying36
    have hby : Tryd.prog.bytesOf 23 = 24 := by kernel_rfl
    have hw0 := hsz ((((List.range len).map D).length + ((List.range (m - len)).map fun j => D (len + j)).length) * Tryd.prog.bytesOf 23) (by simp [DataW.weights, hu])
    rw [hby] at hw0
    simp only [List.length_map, List.length_range] at hw0
    have hlen4 : len * 24 ≤ 140737488351232 := by
      unfold reachBytes at hw0
      omega
    have hce : Tryd.prog.cellsOf 23 = 2 := by kernel_rfl
    have hci : Tryd.prog.cellsOf 3 = 1 := by kernel_rfl
    have hcu : Tryd.prog.cellsOf 9 = 1 := by kernel_rfl
    have hsp : 0 < len → a.spot = none := fun h0 => by
      obtain ⟨cs', h1, _⟩ := hel 0 (by omega)
      rw [hce] at h1
      obtain ⟨_, hcl, hcell⟩ := World.cells?_some h1
      match cs', hcl with
      | [v0, v1], _ => simpa [Addr.add] using World.cell?_spot (hcell 0 (by omega))
    have each : ∀ i, ∃ q : Int × ByteArray, i < len → ∃ b o, a = ⟨b, o, none⟩ ∧ b < W.heap.size ∧ W.cell? ⟨b, o + i * 2, none⟩ = some (.int .i64 q.1) ∧ W.cell? ⟨b, o + i * 2 + 1, none⟩ = some (.string q.2) := by
      intro i
      by_cases hi : i < len
      · obtain ⟨cs', h1, h2⟩ := hel i (by omega)
        rw [hce] at h1
        obtain ⟨_, hcl, hcell⟩ := World.cells?_some h1
        obtain ⟨xs, k, hk, hxy, _, hxl, hfs⟩ := DataW.trod_struct Tryd.underlying23 h2
        match xs, hxl, cs', hcl with
        | [y0, y1], _, [v0, v1], _ =>
          have g0 := hfs 0 _ rfl
          have g1 := hfs 1 _ rfl
          simp [hci, hcu] at g0 g1
          obtain ⟨p, e0, _, w0⟩ := DataW.trod_int Tryd.underlying3 g0
          obtain ⟨r, e1, _, w1⟩ := DataW.trod_string Tryd.underlying9 g1
          simp at e0 e1
          subst e0 e1
          refine ⟨(p, r), fun _ => ?_⟩
          have c0 := hcell 0 (by decide)
          have c1 := hcell 1 (by decide)
          obtain ⟨b, off, spot⟩ := a
          have hspot : spot = none := hsp (by omega)
          subst hspot
          simp only [Addr.add_mid, List.getElem?_cons_zero, List.getElem?_cons_succ] at c0 c1
          exact ⟨b, off, rfl, lcell_lt c0, c0, c1⟩
      · exact ⟨(0, ⟨#[]⟩), fun h => absurd h hi⟩
    refine ⟨(fun i => (Classical.choose (each i)).1, fun i => (Classical.choose (each i)).2), by omega, hlen4, fun h => by simp at h, fun i hi => ?_⟩
    obtain ⟨b, o, rfl, h1, h2⟩ := Classical.choose_spec (each i) hi
    exact ⟨b, o, rfl, h1, h2⟩
end Go.Proofs.YtgpghdhkbliodaaDoor

namespace Go.Proofs.YtgpghdhkbliodaaDoor
open Go Go.RowKit
set_option linter.unusedVariables false
set_option linter.unusedSimpArgs false
theorem bdrew0 (w : World) (m : Nat) : Below w.heap.size w (w.drewN m) := bdrewN (Below.refl _ _) m
/-- both FromLeafs, and links of what they answer -/
theorem from_uni (f : Nat → Nat) (hf : ∀ i, f i < 256) (q : Int) : ∃ (g : Int) (PV QV : World → Value → Prop), (∀ w v w', PV w v → Below w.heap.size w w' → PV w' v) ∧ (∀ w v w', QV w v → Below w.heap.size w w' → QV w' v) ∧
    (∀ w : World, Calls Tryd.prog 16 #[.agg (va 256 (iv .u8 f)), .int .i64 q] w fun e w' => (∃ v, e = .returned (.tuple #[v, .int .i64 g]) ∧ PV w' v) ∧ Below w.heap.size w w') ∧
    (∀ w : World, Calls Tryd.prog 17 #[.agg (va 256 (iv .u8 f)), .int .i64 q] w fun e w' => (∃ v, e = .returned (.tuple #[v, .int .i64 g]) ∧ QV w' v) ∧ Below w.heap.size w w') ∧
    (∀ (w : World) p r, PV w p → QV w r → Calls Tryd.prog 12 #[p, r] w fun e w' => e = .returned (.bool true) ∧ Below w.heap.size w w') := by
  rcases from_both f hf q with ⟨_, g, _, h1, h2⟩ | ⟨_, m, hm, hm4, h1, h2⟩
  · refine ⟨g, fun _ v => v = .slice none 0 0, fun _ v => ∃ a c, v = .slice a 0 c, fun _ _ _ h _ => h, fun _ _ _ h _ => h, fun w => ?_, fun w => ?_, fun w p r hp hr => ?_⟩
    · refine (h1 w).mono ?_
      rintro e w' ⟨rfl, hb⟩
      exact ⟨⟨_, rfl, rfl⟩, hb⟩
    · refine (h2 w).mono ?_
      rintro e w' ⟨⟨a, c, rfl⟩, hb⟩
      exact ⟨⟨_, rfl, a, c, rfl⟩, hb⟩
    · obtain ⟨a, c, rfl⟩ := hr
      subst hp
      refine (links_zero none a 0 c w).mono ?_
      rintro e w' ⟨rfl, rfl⟩
      exact ⟨rfl, Below.refl _ _⟩
  · refine ⟨0, fun w v => ∃ B, w.ownsRow B 23 2 v m (lkL (plI f) (plS f) m), fun w v => ∃ B, w.ownsRow B 29 2 v m (lkL (plI f) (plS f) m), fun _ _ _ h hb => ⟨h.choose, kown_below h.choose_spec hb⟩, fun _ _ _ h hb => ⟨h.choose, kown_below h.choose_spec hb⟩, fun w => ?_, fun w => ?_, fun w p r hp hr => ?_⟩
    · refine (h1 w).mono ?_
      rintro e w' ⟨⟨v, rfl, ho⟩, hb⟩
      exact ⟨⟨v, rfl, _, ho⟩, hb⟩
    · refine (h2 w).mono ?_
      rintro e w' ⟨⟨v, rfl, ho⟩, hb⟩
      exact ⟨⟨v, rfl, _, ho⟩, hb⟩
    · obtain ⟨B1, o1⟩ := hp
      obtain ⟨B2, o2⟩ := hr
      refine (links_own m B1 B2 _ _ p r _ _ (by omega) w o1 o2).mono ?_
      rintro e w' ⟨rfl, k, rfl⟩
      exact ⟨rfl, bdrew0 _ _⟩
/-- FromLeaf of Leaf's answer -/
theorem back_uni (N : Nat → Int) (S : Nat → ByteArray) (n : Nat) : ∃ (j : Int) (BV : World → Value → Prop), (∀ w v w', BV w v → Below w.heap.size w w' → BV w' v) ∧
    (∀ w : World, Calls Tryd.prog 16 #[.agg (va 256 (iv .u8 (lfF N S n))), .int .i64 (n : Int)] w fun e w' => (∃ v, e = .returned (.tuple #[v, .int .i64 j]) ∧ BV w' v) ∧ Below w.heap.size w w') ∧
    (lfE N S n = 0 → j = 0 ∧ ∀ w v, BV w v → ∃ B, w.ownsRow B 23 2 v n (lkL N S n)) := by
  rcases from_both (lfF N S n) (lfF_lt N S n) (n : Int) with ⟨hno, g, _, h1, _⟩ | ⟨_, m, hm, hm4, h1, _⟩
  · refine ⟨g, fun _ _ => True, fun _ _ _ h _ => h, fun w => ?_, fun h0 => ?_⟩
    · refine (h1 w).mono ?_
      rintro e w' ⟨rfl, hb⟩
      exact ⟨⟨_, rfl, trivial⟩, hb⟩
    · obtain ⟨h4, h5, h6⟩ := lfE_ok h0
      refine absurd ⟨⟨by omega, by omega⟩, ?_⟩ hno
      rw [h6]
      exact flOk_back N S n h4 h5
  · obtain rfl : n = m := by omega
    refine ⟨0, fun w v => ∃ B, w.ownsRow B 23 2 v n (lkL (plI (lfF N S n)) (plS (lfF N S n)) n), fun _ _ _ h hb => ⟨h.choose, kown_below h.choose_spec hb⟩, fun w => ?_, fun h0 => ⟨rfl, fun w v ⟨B, ho⟩ => ⟨B, ?_⟩⟩⟩
    · refine (h1 w).mono ?_
      rintro e w' ⟨⟨v, rfl, ho⟩, hb⟩
      exact ⟨⟨v, rfl, _, ho⟩, hb⟩
    · obtain ⟨h4, h5, h6⟩ := lfE_ok h0
      rw [h6, lkL_congr n (plI_back N S n h4 h5)] at ho
      exact ho
end Go.Proofs.YtgpghdhkbliodaaDoor

namespace Go.Proofs.YtgpghdhkbliodaaDoor
open Go Go.RowKit
set_option linter.unusedVariables false
set_option linter.unusedSimpArgs false
/-- what the law keeps: the block handed in, Leaf's two answers, the entries appended -/
structure LvS (w V : World) (f F : Nat → Nat) (v : Value) (n : Nat) (L : List Value) (gx gy : Nat) : Prop where
  b : Below w.heap.size w V
  o : V.ownsRow w.heap.size 23 2 v n L
  kb : Blk V w.heap.size 40 (va 256 (iv .u8 f))
  kx : Blk V gx 40 (va 256 (iv .u8 F))
  ky : Blk V gy 39 (va 256 (iv .u8 F))
theorem LvS.go {w V V' : World} {f F : Nat → Nat} {v : Value} {n gx gy : Nat} {L : List Value} (h : LvS w V f F v n L gx gy) (hb : Below V.heap.size V V') : LvS w V' f F v n L gx gy :=
  ⟨h.b.trans (hb.mono h.b.size), kown_below h.o hb, h.kb.below hb h.kb.lt, h.kx.below hb h.kx.lt, h.ky.below hb h.ky.lt⟩
theorem leaves_uni (k : Int) : ∃ m i : Int, (∀ w : World, Calls Tryd.prog 18 #[.int .i64 k] w fun e w' => e = .returned (.tuple #[.int .i64 m, .int .i64 i]) ∧ w' = w) ∧
    ((k < 0 ∨ 16384 < k) ∧ m = 0 ∧ i = 1 ∨ ∃ n : Nat, k = (n : Int) ∧ n ≤ 16384 ∧ m = (((n + 3) / 4 : Nat) : Int) ∧ i = 0) := by
  by_cases h : k < 0 ∨ 16384 < k
  · exact ⟨0, 1, leaves_arg k h, .inl ⟨h, rfl, rfl⟩⟩
  · obtain ⟨n, rfl⟩ : ∃ n : Nat, k = (n : Int) := ⟨k.toNat, by omega⟩
    exact ⟨_, 0, leaves_ok n (by omega), .inr ⟨n, rfl, by omega, rfl, rfl⟩⟩
theorem new_set (w : World) (t : TypeId) (cs ds : Array Value) : Below w.heap.size w ((w.alloc (.cells cs t)).setRow w.heap.size ds) := below_setRow (below_new1 w _) (Nat.le_refl _) ds
set_option maxRecDepth 100000 in
set_option maxHeartbeats 16000000 in
theorem nameLeavesLaw (a : Option Addr) (n c : Nat) (hn : n * 24 ≤ 140737488351232) (hN : a = none → n = 0 ∧ c = 0) (N : Nat → Int) (S : Nat → ByteArray) (f : Nat → Nat) (hf : ∀ i, f i < 256) (k : Int) (w : World) (hI : IsLkC w a n N S) :
    Calls Tryd.prog 4 #[.slice a n c, bkV f, .int .i64 k] w fun e w' => e = .returned (.bool true) ∧ Below w.heap.size w w' := by
  obtain ⟨i0, hi, hz0, hz1, hz2⟩ := info_parts infoLk
  obtain ⟨g, PV, QV, hPs, hQs, hP, hQ, hLk⟩ := from_uni f hf k
  obtain ⟨j, BV, hBs, hB, hBk⟩ := back_uni N S n
  obtain ⟨mm, ii, hLv, hLvs⟩ := leaves_uni k
  have HV : Hid _ := hLv
  have HVS : Hid _ := hLvs
  clear hLv hLvs
  have HI : Hid (∀ V, Below w.heap.size w V → IsLkC V a n N S) := fun V hV => hI.below hV
  have HPS : Hid ((∀ w v w', PV w v → Below w.heap.size w w' → PV w' v) ∧ (∀ w v w', QV w v → Below w.heap.size w w' → QV w' v) ∧ (∀ w v w', BV w v → Below w.heap.size w w' → BV w' v)) := ⟨hPs, hQs, hBs⟩
  have HP : Hid _ := hP
  have HQ : Hid _ := hQ
  have HK : Hid _ := hLk
  have HB : Hid _ := hB
  have HBK : Hid _ := hBk
  have HN : Hid (n ≤ 4611686018427387904 ∧ n * 24 ≤ 140737488355328) := ⟨by omega, by omega⟩
  have HA : Hid (∀ w : World, Calls Tryd.prog 11 #[] w fun e w' => e = .returned (.bool true) ∧ Below w.heap.size w w') := awake13_any
  have HG : Hid (∀ V, Below w.heap.size w V → Calls Tryd.prog 15 #[.slice a n c] V fun e w' => (∃ v, e = .returned v ∧ w'.ownsRow V.heap.size 29 2 v n (lkL N S n)) ∧ Below V.heap.size V w') := fun V hV => given_any a n c (by omega) N S V (hI.below hV)
  have HL : Hid (∀ (V : World) B t v, V.ownsRow B t 2 v n (lkL N S n) → Calls Tryd.prog 13 #[v] V fun e w' => e = .returned (.tuple #[.agg (va 256 (iv .u8 (lfF N S n))), .int .i64 (lfE N S n)]) ∧ Below V.heap.size V w') := fun V B t v h => leaf_one (by omega) h
  have HR : Hid (∀ (V : World) B t v, V.ownsRow B t 2 v n (lkL N S n) → Calls Tryd.prog 14 #[v] V fun e w' => e = .returned (.tuple #[.agg (va 256 (iv .u8 (lfF N S n))), .int .i64 (lfE N S n)]) ∧ Below V.heap.size V w') := fun V B t v h => rleaf_one (by omega) h
  have HLO : Hid (∀ (V : World) B1 B2 t1 t2 va vb, V.ownsRow B1 t1 2 va n (lkL N S n) → V.ownsRow B2 t2 2 vb n (lkL N S n) → Calls Tryd.prog 12 #[va, vb] V fun e w' => e = .returned (.bool true) ∧ Below V.heap.size V w') := fun V B1 B2 t1 t2 va vb h1 h2 => by
    refine (links_own n B1 B2 t1 t2 va vb N S (by omega) V h1 h2).mono ?_
    rintro e w' ⟨rfl, m, rfl⟩
    exact ⟨rfl, bdrew0 _ _⟩
  clear hI hPs hQs hBs hP hQ hLk hB hBk
  generalize hF : lfF N S n = F at *
  generalize hE : lfE N S n = ee at *
  clear hF hE
  have hz := zero_bk
  have hzr := zero_b256
  have hq : ∀ w, (Op.equalIn 10000 40 (.agg (va 256 (iv .u8 F))) (.agg (va 256 (iv .u8 F)))).run Tryd.prog w = .ok true w := fun w => by
    have := eq_bk 40 Tryd.underlying40 F F w
    rw [decide_eq_true (fun _ _ => rfl)] at this
    exact this
  unfold bkV
  go_enter Tryd.func4, Tryd.ntmps4
  have b0 := Blk.new w 40 (va 256 (iv .u8 f))
  have hb0 := below_new1 w (Obj.cells (va 256 (iv IntKind.u8 f)) 40)
  have hbA := below_new1 (w.alloc (Obj.cells (va 256 (iv IntKind.u8 f)) 40)) (.cells #[] 23)
  have hOWN := kown_empty (size := 2) (Blk.new1 w (Obj.cells (va 256 (iv IntKind.u8 f)) 40) 23 #[]) (Nat.le_refl (w.heap.size + 1))
  have hbwA := hb0.trans (hbA.mono hb0.size)
  have HD1 := HI.out _ hbwA
  have H1 : Hid (Below w.heap.size w ((w.alloc (Obj.cells (va 256 (iv IntKind.u8 f)) 40)).alloc (.cells #[] 23)) ∧ Blk ((w.alloc (Obj.cells (va 256 (iv IntKind.u8 f)) 40)).alloc (.cells #[] 23)) w.heap.size 40 (va 256 (iv .u8 f))) := ⟨hbwA, b0.alloc _⟩
  have HO1 : Hid _ := hOWN
  have HC1 : Hid _ := HD1
  clear b0 hb0 hbA hbwA hOWN HD1
  go_wp2_with (first
    | (at_builtin; refine wpList_append_links rfl _ _ 36 rfl (w.heap.size + 1) 23 i0 (.agg #[.int .i64 0, .string ⟨#[]⟩]) Tryd.underlying36 hi hz0 hz1 hz2 rfl _ rfl HO1.out a n c N S rfl HC1.out hN HN.out.2 (by first | (simp; done) | (simp; omega)) ?_)
    | go_in)
  intro v2 w2 hown2 hb2
  have b2 := H1.out.2.below hb2 (Nat.lt_succ_self _)
  have hbw2 : Below w.heap.size w w2 := H1.out.1.trans (hb2.mono (Nat.le_succ _))
  have HL2 := HL.out w2 _ _ v2 hown2
  have H2 : Hid (Below w.heap.size w w2 ∧ w2.ownsRow w.heap.size 23 2 v2 n (lkL N S n) ∧ Blk w2 w.heap.size 40 (va 256 (iv .u8 f))) := ⟨hbw2, kown_mono hown2 (Nat.le_succ _), b2⟩
  clear b2 hbw2 hown2 hb2 H1 HO1 HC1 HL
  go_wp2_with fail
  refine HL2.mono ?_
  rintro e w3 ⟨rfl, hb3⟩
  have c3 := Blk.new w3 40 (va 256 (iv .u8 fun _ => 0))
  have HB3 : Hid (Below w2.heap.size w2 w3) := hb3
  clear hb3 HL2
  go_wp2_with (first
    | (refine wpList_store_row (by rfl) 40 _ _ (by rfl) (w3.heap.size) (va 256 (iv .u8 F)) (by rfl) (by rfl) 40 _ c3 (sizeBk.trans (by rw [va_size])) (by simp only [va_size]) (iv_one _ _ _) ?_; simp only [Act.put, List.setIfInBounds_toArray, List.set_cons_zero, List.set_cons_succ])
    | fail)
  have hb4 := HB3.out.trans ((new_set w3 40 (va 256 (iv .u8 fun _ => 0)) (va 256 (iv .u8 F))).mono HB3.out.size)
  have c4 := c3.set (va 256 (iv .u8 F))
  clear c3 HB3
  generalize w3.heap.size = gx at hb4 c4 ⊢
  generalize (w3.alloc (Obj.cells (va 256 (iv IntKind.u8 fun _ => 0)) 40)).setRow gx (va 256 (iv .u8 F)) = w4 at hb4 c4 ⊢
  have H4 : Hid (Below w.heap.size w w4 ∧ w4.ownsRow w.heap.size 23 2 v2 n (lkL N S n) ∧ Blk w4 w.heap.size 40 (va 256 (iv .u8 f)) ∧ Blk w4 gx 40 (va 256 (iv .u8 F))) := ⟨H2.out.1.trans (hb4.mono H2.out.1.size), kown_below H2.out.2.1 hb4, H2.out.2.2.below hb4 H2.out.2.2.lt, c4⟩
  clear hb4 c4 H2
  have HG4 := HG.out w4 H4.out.1
  refine HG4.mono ?_
  rintro e w5 ⟨⟨v5, rfl, ho5⟩, hb5⟩
  have HR5 := HR.out w5 _ _ v5 ho5
  have H5 : Hid (Below w.heap.size w w5 ∧ w5.ownsRow w.heap.size 23 2 v2 n (lkL N S n) ∧ Blk w5 w.heap.size 40 (va 256 (iv .u8 f)) ∧ Blk w5 gx 40 (va 256 (iv .u8 F))) := ⟨H4.out.1.trans (hb5.mono H4.out.1.size), kown_below H4.out.2.1 hb5, H4.out.2.2.1.below hb5 H4.out.2.2.1.lt, H4.out.2.2.2.below hb5 H4.out.2.2.2.lt⟩
  clear hb5 ho5 HG4 H4 HR
  go_wp2_with fail
  refine HR5.mono ?_
  rintro e w6 ⟨rfl, hb6⟩
  have c6 := Blk.new w6 39 (va 256 (iv .u8 fun _ => 0))
  have HB6 : Hid (Below w5.heap.size w5 w6) := hb6
  have k7 := H5.out.2.2.1.below (hb6.trans ((new_set w6 39 (va 256 (iv .u8 fun _ => 0)) (va 256 (iv .u8 F))).mono hb6.size)) H5.out.2.2.1.lt
  clear hb6 HR5
  go_wp2_with (first
    | (refine wpList_store_row (by rfl) 39 _ _ (by rfl) (w6.heap.size) (va 256 (iv .u8 F)) (by rfl) (by rfl) 39 _ c6 (sizeB256.trans (by rw [va_size])) (by simp only [va_size]) (iv_one _ _ _) ?_; simp only [Act.put, List.setIfInBounds_toArray, List.set_cons_zero, List.set_cons_succ])
    | (refine wpList_load_row (by rfl) 40 _ (by rfl) (w.heap.size) (by rfl) 40 (va 256 (iv .u8 f)) (0, 0) _ k7 Tryd.underlying40 (by rfl) (sizeBk.trans (by rw [va_size])) ?_; simp only [Act.put, List.setIfInBounds_toArray, List.set_cons_zero, List.set_cons_succ])
    | fail)
  have hb7 := HB6.out.trans ((new_set w6 39 (va 256 (iv .u8 fun _ => 0)) (va 256 (iv .u8 F))).mono HB6.out.size)
  have c7 := c6.set (va 256 (iv .u8 F))
  clear c6 HB6
  generalize w6.heap.size = gy at hb7 c7 ⊢
  generalize (w6.alloc (Obj.cells (va 256 (iv IntKind.u8 fun _ => 0)) 39)).setRow gy (va 256 (iv .u8 F)) = w7 at hb7 c7 ⊢
  have H7 : LvS w w7 f F v2 n (lkL N S n) gx gy := ⟨H5.out.1.trans (hb7.mono H5.out.1.size), kown_below H5.out.2.1 hb7, H5.out.2.2.1.below hb7 H5.out.2.2.1.lt, H5.out.2.2.2.below hb7 H5.out.2.2.2.lt, c7⟩
  clear hb7 c7 H5 k7
  refine (HP.out _).mono ?_
  rintro e w8 ⟨⟨p8, rfl, hp8⟩, hb8⟩
  have H8 := H7.go hb8
  have HP8 : Hid (PV w8 p8) := hp8
  have k8 := H8.kb
  clear hb8 hp8 H7 HP
  go_wp2_with (first
    | (refine wpList_load_row (by rfl) 40 _ (by rfl) (w.heap.size) (by rfl) 40 (va 256 (iv .u8 f)) (0, 0) _ k8 Tryd.underlying40 (by rfl) (sizeBk.trans (by rw [va_size])) ?_; simp only [Act.put, List.setIfInBounds_toArray, List.set_cons_zero, List.set_cons_succ])
    | fail)
  refine (HQ.out _).mono ?_
  rintro e w9 ⟨⟨q9, rfl, hq9⟩, hb9⟩
  have H9 := H8.go hb9
  have HPQ : Hid (PV w9 p8 ∧ QV w9 q9) := ⟨HPS.out.1 _ _ _ HP8.out hb9, hq9⟩
  clear hb9 hq9 H8 HP8 k8 HQ
  go_wp2_with fail
  refine (HV.out _).mono ?_
  rintro e w9' ⟨rfl, hw⟩
  subst hw
  clear HV
  go_wp2_with fail
  refine (HA.out _).mono ?_
  rintro e w10 ⟨rfl, hb10⟩
  have H10 := H9.go hb10
  have HK10 := HK.out w10 p8 q9 (HPS.out.1 _ _ _ HPQ.out.1 hb10) (HPS.out.2.1 _ _ _ HPQ.out.2 hb10)
  have kx := H10.kx
  have ky := H10.ky
  have hne1 : (ee != ee) = false := by simp
  have hne2 : (g != g) = false := by simp
  clear hb10 H9 HPQ HK HA
  go_wp2_with (first
    | (refine wpList_load_rowg (by rfl) 40 _ (by rfl) (gx) (by rfl) 40 (va 256 (iv .u8 F)) (0, 0) _ kx Tryd.underlying40 (by rfl) (sizeBk.trans (by rw [va_size])) ?_; simp only [Act.put, List.setIfInBounds_toArray, List.set_cons_zero, List.set_cons_succ])
    | (refine wpList_load_rowg (by rfl) 39 _ (by rfl) (gy) (by rfl) 39 (va 256 (iv .u8 F)) (0, 0) _ ky Tryd.underlying39 (by rfl) (sizeB256.trans (by rw [va_size])) ?_; simp only [Act.put, List.setIfInBounds_toArray, List.set_cons_zero, List.set_cons_succ])
    | fail)
  refine HK10.mono ?_
  rintro e w11 ⟨rfl, hb11⟩
  have H11 := H10.go hb11
  have HG11 := HG.out w11 H11.b
  clear hb11 H10 HK10 kx ky
  go_wp2_with fail
  refine HG11.mono ?_
  rintro e w12 ⟨⟨v12, rfl, ho12⟩, hb12⟩
  have H12 := H11.go hb12
  have HL12 := HLO.out w12 _ _ _ _ v2 v12 H12.o ho12
  clear hb12 ho12 H11 HG11
  go_wp2_with fail
  refine HL12.mono ?_
  rintro e w13 ⟨rfl, hb13⟩
  have H13 := H12.go hb13
  have kx := H13.kx
  clear hb13 H12 HL12
  go_wp2_with (first
    | (refine wpList_load_row (by rfl) 40 _ (by rfl) (gx) (by rfl) 40 (va 256 (iv .u8 F)) (0, 0) _ kx Tryd.underlying40 (by rfl) (sizeBk.trans (by rw [va_size])) ?_; simp only [Act.put, List.setIfInBounds_toArray, List.set_cons_zero, List.set_cons_succ])
    | fail)
  refine (HB.out _).mono ?_
  rintro e w14 ⟨⟨v14, rfl, hv14⟩, hb14⟩
  have H14 := H13.go hb14
  have HV14 : Hid (BV w14 v14) := hv14
  have HG14 := HG.out w14 H14.b
  clear hb14 hv14 H13 kx HB hq hz hzr
  by_cases e0 : ee = 0
  · obtain ⟨rfl, hbk⟩ := HBK.out e0
    have HW : Hid _ := hbk
    have b0 : (ee == 0) = true := by rw [e0]; rfl
    clear hbk HBK e0 hne1 hne2
    go_wp2_with fail
    refine HG14.mono ?_
    rintro e w15 ⟨⟨v15, rfl, ho15⟩, hb15⟩
    have H15 := H14.go hb15
    obtain ⟨B15, o15⟩ := HW.out w15 v14 (HPS.out.2.2 _ _ _ HV14.out hb15)
    have HL15 := HLO.out w15 _ _ _ _ v14 v15 o15 ho15
    clear hb15 ho15 o15 H14 HG14 HV14 HW
    go_wp2_with fail
    refine HL15.mono ?_
    rintro e w16 ⟨rfl, hb16⟩
    have HZ : Hid (Below w.heap.size w w16) := (H15.go hb16).b
    clear hb16 H15 HL15
    rcases HVS.out with ⟨hk, rfl, rfl⟩ | ⟨u, rfl, hu, rfl, rfl⟩
    · clear HVS
      by_cases h1 : k < 0
      · clear hk
        go_wp2_with fail
        go_ret
        exact ⟨rfl, HZ.out⟩
      · have h2 : 16384 < k := by omega
        clear hk
        go_wp2_with fail
        go_ret
        exact ⟨rfl, HZ.out⟩
    · clear HVS
      have n1 : ¬ ((u : Int) < 0) := by omega
      have n2 : ¬ ((16384 : Int) < (u : Int)) := by omega
      go_wp2_with fail
      go_ret
      exact ⟨rfl, HZ.out⟩
  · have b0 : (ee == 0) = false := by simpa using e0
    have HZ : Hid (Below w.heap.size w w14) := H14.b
    clear HBK e0 hne1 hne2 HG14 HV14 H14
    rcases HVS.out with ⟨hk, rfl, rfl⟩ | ⟨u, rfl, hu, rfl, rfl⟩
    · clear HVS
      by_cases h1 : k < 0
      · clear hk
        go_wp2_with fail
        go_ret
        exact ⟨rfl, HZ.out⟩
      · have h2 : 16384 < k := by omega
        clear hk
        go_wp2_with fail
        go_ret
        exact ⟨rfl, HZ.out⟩
    · clear HVS
      have n1 : ¬ ((u : Int) < 0) := by omega
      have n2 : ¬ ((16384 : Int) < (u : Int)) := by omega
      go_wp2_with fail
      go_ret
      exact ⟨rfl, HZ.out⟩
end Go.Proofs.YtgpghdhkbliodaaDoor
