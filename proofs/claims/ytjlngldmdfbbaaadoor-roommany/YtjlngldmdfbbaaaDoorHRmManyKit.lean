/- What the statement of many blocks keeps; which of those that are let go is the first that can't be. -/
import Derived.Test.YtjlngldmdfbbaaaDoorHRmKeepsLaw
import Derived.Maps.AppendAt
import Derived.Handy
import Derived.Test.YtjlngldmdfbbaaaDoorHRmRef
import Derived.Test.YtjlngldmdfbbaaaDoorHRmLoad

namespace Go.Proofs.YtjlngldmdfbbaaaDoor
open Go Go.RowKit
set_option linter.unusedVariables false
set_option linter.unusedSimpArgs false
section
variable {w : World} {B k n c : Nat} {f : Nat → Int}
theorem rrstate_any (h : SA w B k n c f) (p : Nat) (hp : p < 4294967296) : Calls Tryd.prog 30 #[.slice (some ⟨k, 0, none⟩) n c, .int .u32 (p : Int)] w fun e w' => e = .returned (.int .i64 (if p < n then f p else 0)) ∧ w' = w := by
  have hn := h.n2
  by_cases hlt : p < n
  · rw [if_pos hlt]
    have cs := h.at hlt
    have q1 : ¬ ((n : Int) ≤ (p : Int)) := by omega
    have q2 : (p : Int) < (n : Int) := by omega
    clear h
    generalize f p = z at *
    go_enter Tryd.func30, Tryd.ntmps30
    go_wp2_with fail
    go_ret
    exact ⟨rfl, rfl⟩
  · rw [if_neg hlt]
    have q1 : (n : Int) ≤ (p : Int) := by omega
    clear h
    go_enter Tryd.func30, Tryd.ntmps30
    go_wp2_with fail
    go_ret
    exact ⟨rfl, rfl⟩
set_option maxRecDepth 100000 in
set_option maxHeartbeats 4000000 in
theorem rrlist_any (h : SA w B k n c f) (s : Int) : Calls Tryd.prog 8 #[.slice (some ⟨k, 0, none⟩) n c, .int .i64 s] w fun e w' => ∃ v, e = .returned v ∧ w'.ownsRow w.heap.size 36 1 v (onesL (fun p => decide (f p = s)) n).length (u32L (onesL (fun p => decide (f p = s)) n)) ∧ Below w.heap.size w w' := by
  obtain ⟨i0, hi, hz0, hz1, hz2⟩ := info_parts infoU32
  have hn := h.n2
  have HS : Hid (∀ V, Below w.heap.size w V → SA V B k n c f) := fun V hV => h.below hV
  have hbN := below_new1 w (.cells #[] 36)
  have HO0 : Hid ((w.alloc (.cells #[] 36)).ownsRow w.heap.size 36 1 (.slice (some ⟨w.heap.size, 0, none⟩) 0 0) 0 []) := kown_empty (Blk.new w 36 #[]) (Nat.le_refl _)
  clear h
  go_enter Tryd.func8, Tryd.ntmps8
  go_wp2_with fail
  generalize w.alloc (.cells #[] 36) = w1 at *
  go_loopw [5, 10] (fun v t wr => Hid (∃ j : Nat, j ≤ n ∧ t = .int .i64 (j : Int) ∧ wr.ownsRow w.heap.size 36 1 v (onesL (fun p => decide (f p = s)) j).length (u32L (onesL (fun p => decide (f p = s)) j)) ∧ Below w.heap.size w wr)) (fun _ t _ => n - (intOf t).toNat)
  case atStart => exact ⟨0, by omega, rfl, HO0.out, hbN⟩
  case round =>
    obtain ⟨j, hj, rfl, hown, hb⟩ := Hid.out hrel
    clear hrel HO0 hbN
    have hln : (onesL (fun p => decide (f p = s)) j).length ≤ j := by
      unfold onesL
      exact Nat.le_trans (List.length_filter_le _ _) (by rw [List.length_range]; exact Nat.le_refl _)
    by_cases hlt : j < n
    · have cs := (HS.out wr hb).at hlt
      have j0 : (0 : Int) ≤ (j : Int) := by omega
      have j1 : (j : Int) < (n : Int) := by omega
      have hcv : ((j : Int) % 4294967296) = (j : Int) := by omega
      have HJ : Hid (j < n ∧ n ≤ 8192) := ⟨hlt, hn⟩
      have hsc := onesL_succ (fun p => decide (f p = s)) j
      by_cases he : f j = s
      · have hsc2 : u32L (onesL (fun p => decide (f p = s)) (j + 1)) = u32L (onesL (fun p => decide (f p = s)) j) ++ [Value.int .u32 (j : Int)] := by
          rw [hsc, he]
          simp [u32L, hcv]
        have hle2 : (onesL (fun p => decide (f p = s)) (j + 1)).length = (onesL (fun p => decide (f p = s)) j).length + 1 := by
          rw [hsc, he]
          simp
        have HSC : Hid (_ ∧ _) := ⟨hsc2, hle2⟩
        rw [he] at cs
        have hsz := hb.size
        have HOWN : Hid ((wr.alloc (.cells #[.int .u32 (j : Int)] 36)).ownsRow _ _ _ _ _ _) := hown.alloc _
        have HV2 := (hown.alloc (.cells #[.int .u32 (j : Int)] 36)).lt
        have hbA : Below w.heap.size w (wr.alloc (.cells #[.int .u32 (j : Int)] 36)) := hb.alloc hsz _
        have hml : (onesL (fun p => decide (f p = s)) j).length + 1 ≤ maxLen := Nat.le_trans (show _ ≤ 8193 by omega) (by decide)
        obtain ⟨av, capv, rfl⟩ := kown_slice hown
        clear hown hb HS hsc hsc2 hle2 he
        generalize (onesL (fun p => decide (f p = s)) j).length = ll at *
        go_wp2_with (first
          | (at_builtin; refine wpList_append_own _ rfl _ _ 22 rfl w.heap.size 36 i0 (.int .u32 0) 1 4 Tryd.underlying22 hi hz0 hz1 hz2 rfl (by decide) _ _ _ rfl HOWN.out ⟨wr.heap.size, 0, none⟩ 1 1 [.int .u32 (j : Int)] rfl rfl (cell_one_new _ _ _) (by simp [Value.oneCell']) hml (by omega) (by simp; omega) ?_)
          | go_in)
        intro v' w2 hown' hgrow _
        have hb2 : Below w.heap.size w w2 := hbA.grown hgrow (by simp; omega) (fun q hq => (HV2 q hq).1)
        rw [← HSC.out.1, ← HSC.out.2] at hown'
        have HE : Hid (_ ∧ _) := ⟨hown', hb2⟩
        clear HOWN HV2 hgrow hbA hown' hb2
        go_wp2_with fail
        go_roundw
        case rel => exact ⟨j + 1, HJ.out.1, by first | rfl | go_num | simp, HE.out.1, HE.out.2⟩
        case measure => simp [intOf]; have := HJ.out; omega
      · have hsc2 : onesL (fun p => decide (f p = s)) (j + 1) = onesL (fun p => decide (f p = s)) j := by
          rw [hsc]
          simp [he]
        rw [← hsc2] at hown
        have HE : Hid (_ ∧ _) := ⟨hown, hb⟩
        clear hown hb HS hsc hsc2
        generalize f j = z at *
        go_wp2_with fail
        go_roundw
        case rel => exact ⟨j + 1, HJ.out.1, by first | rfl | go_num | simp, HE.out.1, HE.out.2⟩
        case measure => simp [intOf]; have := HJ.out; omega
    · obtain rfl : j = n := by omega
      have j1 : ¬ ((j : Int) < (j : Int)) := by omega
      have HE : Hid (_ ∧ _) := ⟨hown, hb⟩
      clear hown hb HS
      go_wp2_with fail
      go_ret
      exact ⟨_, rfl, HE.out.1, HE.out.2⟩
end
end Go.Proofs.YtjlngldmdfbbaaaDoor

namespace Go.Proofs.YtjlngldmdfbbaaaDoor
open Go Go.RowKit
set_option linter.unusedVariables false
set_option linter.unusedSimpArgs false
theorem stL_one (f : Nat → Int) (n : Nat) : ∀ u ∈ stL f n, u.oneCell' = true := fun u hu => by
  obtain ⟨i, _, rfl⟩ := List.mem_map.1 hu
  rfl
section
variable {w : World} {B k n c : Nat} {f : Nat → Int}
theorem SA.news (h : SA w B k n c f) : ∀ j u, (stL f n)[j]? = some u → w.cell? ((⟨k, 0, none⟩ : Addr).add j) = some u := fun j u hu => by
  have hj : j < n := by
    have := (List.getElem?_eq_some_iff.1 hu).1
    rwa [stL_len] at this
  rw [stL_at _ _ _ hj] at hu
  rw [Addr.add_mid, Nat.zero_add, h.at hj]
  exact hu
set_option maxRecDepth 100000 in
set_option maxHeartbeats 4000000 in
theorem rrtake_any (h1 : 1 ≤ n) (h : SA w B k n c f) : Calls Tryd.prog 9 #[.slice (some ⟨k, 0, none⟩) n c] w fun e w' =>
    (((∀ p, p < n → f p ≠ 1) ∧ e = .returned (.tuple #[.slice (some ⟨k, 0, none⟩) n c, .int .u32 0, .int .i64 3])) ∨
    (∃ p k' c', p < n ∧ f p = 1 ∧ (∀ q, q < p → f q ≠ 1) ∧ e = .returned (.tuple #[.slice (some ⟨k', 0, none⟩) n c', .int .u32 (p : Int), .int .i64 0]) ∧ SA w' w.heap.size k' n c' (fun q => if q = p then 3 else f q))) ∧ Below w.heap.size w w' := by
  obtain ⟨i0, hi, hz0, hz1, hz2⟩ := info_parts infoInt
  have hn := h.n2
  have HS : Hid (∀ V, Below w.heap.size w V → SA V B k n c f) := fun V hV => h.below hV
  clear h
  go_enter Tryd.func9, Tryd.ntmps9
  go_wp2_with fail
  go_loopw [9] (fun t wr => Hid (∃ j : Nat, j ≤ n ∧ t = .int .i64 (j : Int) ∧ (∀ q, q < j → f q ≠ 1) ∧ Below w.heap.size w wr)) (fun t _ => n - (intOf t).toNat)
  case atStart => exact ⟨0, by omega, rfl, fun q hq => by omega, Below.refl _ _⟩
  case round =>
    obtain ⟨j, hj, rfl, hall, hb⟩ := Hid.out hrel
    clear hrel
    by_cases hlt : j < n
    · have cs := (HS.out wr hb).at hlt
      have j0 : (0 : Int) ≤ (j : Int) := by omega
      have j1 : (j : Int) < (n : Int) := by omega
      have HJ : Hid (j < n ∧ n ≤ 8192 ∧ (∀ q, q < j → f q ≠ 1)) := ⟨hlt, hn, hall⟩
      by_cases he : f j = 1
      · have HE1 : Hid (f j = 1) := he
        rw [he] at cs
        have hsz := hb.size
        have hbA : Below w.heap.size w (wr.alloc (.cells #[] 3)) := hb.alloc hsz _
        have HOWN : Hid ((wr.alloc (.cells #[] 3)).ownsRow w.heap.size 3 1 (.slice (some ⟨wr.heap.size, 0, none⟩) 0 0) 0 []) := kown_empty (Blk.new wr 3 #[]) hsz
        have HV2 := (HOWN.out).lt
        have HNEW : Hid (∀ j u, (stL f n)[j]? = some u → (wr.alloc (.cells #[] 3)).cell? ((⟨k, 0, none⟩ : Addr).add j) = some u) := (HS.out _ hbA).news
        have HLEN : Hid ((stL f n).length = n * 1) := by show _ = _; rw [stL_len, Nat.mul_one]
        have hml : 0 + n ≤ maxLen := Nat.le_trans (show _ ≤ 8192 by omega) (by decide)
        clear hall he hb HS
        go_wp2_with (first
          | (at_builtin; refine bi_append_at rfl _ _ 29 rfl w.heap.size 3 i0 (.int .i64 0) 1 8 Tryd.underlying29 hi hz0 hz1 hz2 rfl (by decide) _ 0 [] rfl HOWN.out ⟨k, 0, none⟩ n c (stL f n) rfl HLEN.out HNEW.out (stL_one f n) hml (by omega) (by simp; omega) ?_)
          | go_in)
        intro v' w2 hown' hgrow _
        have hb2 : Below w.heap.size w w2 := hbA.grown hgrow (by simp; omega) (fun q hq => (HV2 q hq).1)
        try rw [Nat.zero_add, List.nil_append] at hown'
        obtain ⟨g3, cap3, rfl, hg3, hg3'⟩ := kown_form hown' (by omega)
        have hS2 : SA w2 w.heap.size g3 n cap3 f := ⟨hn, hown'⟩
        have c2 := hS2.at HJ.out.1
        have f2 := hS2.frozen j
        have hcv : ((j : Int) % 4294967296) = (j : Int) := by omega
        have HE : Hid (SA (w2.setCell ⟨g3, j, none⟩ (.int .i64 3)) w.heap.size g3 n cap3 (fun q => if q = j then 3 else f q) ∧ Below w.heap.size w (w2.setCell ⟨g3, j, none⟩ (.int .i64 3))) := ⟨hS2.put j 3, hb2.setCell (p := ⟨g3, j, none⟩) hS2.lt.1 _⟩
        clear HOWN HV2 HNEW HLEN hgrow hbA hown' hb2 hS2
        go_wp2_with fail
        go_ret3
        exact ⟨.inr ⟨j, g3, cap3, HJ.out.1, HE1.out, HJ.out.2.2, rfl, HE.out.1⟩, HE.out.2⟩
      · have HE1 : Hid (f j ≠ 1) := he
        have HB : Hid (Below w.heap.size w wr) := hb
        have heb : (f j == 1) = false := by simp [he]
        clear hall hb HS
        generalize hfj : f j = z at *
        go_wp2_with fail
        go_roundw
        case rel =>
          refine ⟨j + 1, HJ.out.1, by first | rfl | go_num | simp, fun q hq => ?_, HB.out⟩
          by_cases e : q = j
          · rw [e, hfj]; exact HE1.out
          · exact HJ.out.2.2 q (by omega)
        case measure => simp [intOf]; have := HJ.out; omega
    · obtain rfl : j = n := by omega
      have j1 : ¬ ((j : Int) < (j : Int)) := by omega
      have HE : Hid (_ ∧ _) := ⟨hall, hb⟩
      clear hall hb HS
      go_wp2_with fail
      go_ret3
      exact ⟨.inl ⟨HE.out.1, rfl⟩, HE.out.2⟩
end
end Go.Proofs.YtjlngldmdfbbaaaDoor

namespace Go.Proofs.YtjlngldmdfbbaaaDoor
open Go Go.RowKit
set_option linter.unusedVariables false
set_option linter.unusedSimpArgs false
section
variable {w : World} {B k n c : Nat} {f : Nat → Int}
theorem rrlet_bad (h : SA w B k n c f) (p : Nat) (hp : p < 4294967296) (hbad : ¬ (p < n ∧ (f p = 2 ∨ f p = 3))) : Calls Tryd.prog 10 #[.slice (some ⟨k, 0, none⟩) n c, .int .u32 (p : Int)] w fun e w' => e = .returned (.tuple #[.slice (some ⟨k, 0, none⟩) n c, .int .i64 121]) ∧ w' = w := by
  have hn := h.n2
  by_cases hlt : p < n
  · have cs := h.at hlt
    have q1 : ¬ ((n : Int) ≤ (p : Int)) := by omega
    have q2 : (p : Int) < (n : Int) := by omega
    have z2 : ¬ f p = 2 := fun e => hbad ⟨hlt, .inl e⟩
    have z3 : ¬ f p = 3 := fun e => hbad ⟨hlt, .inr e⟩
    clear h hbad
    generalize f p = z at *
    have z2n : (z != 2) = true := by simp [z2]
    have z3n : (z != 3) = true := by simp [z3]
    go_enter Tryd.func10, Tryd.ntmps10
    go_wp2_with fail
    go_ret2
    exact ⟨rfl, rfl⟩
  · have q1 : (n : Int) ≤ (p : Int) := by omega
    clear h hbad
    go_enter Tryd.func10, Tryd.ntmps10
    go_wp2_with fail
    go_ret2
    exact ⟨rfl, rfl⟩
set_option maxRecDepth 100000 in
set_option maxHeartbeats 4000000 in
theorem rrlet_ok (h1 : 1 ≤ n) (h : SA w B k n c f) (p : Nat) (hp : p < 4294967296) (hlt : p < n) (hok : f p = 2 ∨ f p = 3) : Calls Tryd.prog 10 #[.slice (some ⟨k, 0, none⟩) n c, .int .u32 (p : Int)] w fun e w' => ∃ k' c', e = .returned (.tuple #[.slice (some ⟨k', 0, none⟩) n c', .int .i64 0]) ∧ SA w' w.heap.size k' n c' (fun q => if q = p then (if f p = 2 then 4 else 1) else f q) ∧ Below w.heap.size w w' := by
  obtain ⟨i0, hi, hz0, hz1, hz2⟩ := info_parts infoInt
  have hn := h.n2
  have cs := h.at hlt
  have q1 : ¬ ((n : Int) ≤ (p : Int)) := by omega
  have q2 : (p : Int) < (n : Int) := by omega
  have hbA : Below w.heap.size w (w.alloc (.cells #[] 3)) := below_new1 _ _
  have HOWN : Hid ((w.alloc (.cells #[] 3)).ownsRow w.heap.size 3 1 (.slice (some ⟨w.heap.size, 0, none⟩) 0 0) 0 []) := kown_empty (Blk.new w 3 #[]) (Nat.le_refl _)
  have HV2 := (HOWN.out).lt
  have HNEW : Hid (∀ j u, (stL f n)[j]? = some u → (w.alloc (.cells #[] 3)).cell? ((⟨k, 0, none⟩ : Addr).add j) = some u) := (h.below hbA).news
  have HLEN : Hid ((stL f n).length = n * 1) := by show _ = _; rw [stL_len, Nat.mul_one]
  have hml : 0 + n ≤ maxLen := Nat.le_trans (show _ ≤ 8192 by omega) (by decide)
  have HC : Hid (∀ V, Below w.heap.size w V → V.cell? ⟨k, p, none⟩ = some (.int .i64 (f p))) := fun V hV => (h.below hV).at hlt
  have HPN : Hid (p < n) := hlt
  clear h
  rcases hok with he | he
  all_goals
    rw [he] at cs
    have HE1 : Hid (f p = _) := he
    go_enter Tryd.func10, Tryd.ntmps10
    go_wp2_with (first
      | (at_builtin; refine bi_append_at rfl _ _ 29 rfl w.heap.size 3 i0 (.int .i64 0) 1 8 Tryd.underlying29 hi hz0 hz1 hz2 rfl (by decide) _ 0 [] rfl HOWN.out ⟨k, 0, none⟩ n c (stL f n) rfl HLEN.out HNEW.out (stL_one f n) hml (by omega) (by simp) ?_)
      | go_in)
    intro v' w2 hown' hgrow _
    have hb2 : Below w.heap.size w w2 := hbA.grown hgrow (by simp) (fun q hq => (HV2 q hq).1)
    try rw [Nat.zero_add, List.nil_append] at hown'
    obtain ⟨g3, cap3, rfl, hg3, hg3'⟩ := kown_form hown' (by omega)
    have hS2 : SA w2 w.heap.size g3 n cap3 f := ⟨hn, hown'⟩
    have c2 := hS2.at HPN.out
    have f2 := hS2.frozen p
    have cs2 := HC.out w2 hb2
    rw [he] at cs2
    have HE : Hid (∀ x : Int, SA (w2.setCell ⟨g3, p, none⟩ (.int .i64 x)) w.heap.size g3 n cap3 (fun q => if q = p then x else f q) ∧ Below w.heap.size w (w2.setCell ⟨g3, p, none⟩ (.int .i64 x))) := fun x => ⟨hS2.put p x, hb2.setCell (p := ⟨g3, p, none⟩) hS2.lt.1 _⟩
    clear HOWN HV2 HNEW HLEN hgrow hbA hown' hb2 hS2 HC
    go_wp2_with fail
    go_ret2
  · exact ⟨g3, cap3, rfl, (HE.out 4).1, (HE.out 4).2⟩
  · exact ⟨g3, cap3, rfl, (HE.out 1).1, (HE.out 1).2⟩
end
end Go.Proofs.YtjlngldmdfbbaaaDoor

namespace Go.Proofs.YtjlngldmdfbbaaaDoor
open Go Go.RowKit
set_option linter.unusedVariables false
set_option linter.unusedSimpArgs false
section
variable {n : Nat} {F G : Nat → Bool}
/-- the states, told by what both trees have -/
def tieS (F G : Nat → Bool) (n : Nat) (p : Nat) : Int := (stAt F G n p : Int)
theorem tie_new (A : Nat → Nat) (N : Nat) {p : Nat} (hp : p < n) : newS A N p = tieS (memA A N) (memA A N) n p := by
  unfold newS tieS stAt stN
  by_cases h : p = 0
  · rw [if_pos h, if_pos (.inl h)]
    rfl
  · have h' : ¬ n ≤ p := by omega
    cases memA A N p <;> simp [h, h']
theorem tie_free {p : Nat} (hp : p < n) : tieS F G n p = 1 ↔ 1 ≤ p ∧ F p = false ∧ G p = false := by
  unfold tieS stAt stN
  by_cases h : p = 0
  · simp [h]
  · have h' : ¬ (p = 0 ∨ n ≤ p) := by omega
    have h1 : 1 ≤ p := by omega
    cases F p <;> cases G p <;> simp [h', h1]
theorem tie_let {p : Nat} (hp : p < n) (hG0 : G 0 = false) : (tieS F G n p = 2 ∨ tieS F G n p = 3) ↔ G p = true := by
  unfold tieS stAt stN
  by_cases h : p = 0
  · simp [h, hG0]
  · have h' : ¬ (p = 0 ∨ n ≤ p) := by omega
    cases F p <;> cases G p <;> simp [h']
theorem tie_take {p q : Nat} (hp : 1 ≤ p) (hF : F p = false) (hq : q < n) : (if q = p then (3 : Int) else tieS F G n q) = tieS F (fun x => if x = p then true else G x) n q := by
  unfold tieS stAt stN
  by_cases h : q = p
  · subst h
    have h' : ¬ (q = 0 ∨ n ≤ q) := by omega
    simp [h', hF]
  · simp [h]
theorem tie_gone {p q : Nat} (hp : 1 ≤ p) (hG : G p = true) (hpn : p < n) (hq : q < n) : (if q = p then (if tieS F G n p = 2 then (4 : Int) else 1) else tieS F G n q) = tieS F (fun x => if x = p then false else G x) n q := by
  unfold tieS stAt stN
  by_cases h : q = p
  · subst h
    have h' : ¬ (q = 0 ∨ n ≤ q) := by omega
    cases F q <;> simp [h', hG]
  · simp [h]
/-- the least free block, told by the states -/
theorem tie_least {p : Nat} (hp : p < n) (h1 : tieS F G n p = 1) (hl : ∀ q, q < p → tieS F G n q ≠ 1) : freeF F G n = (p : Int) := by
  obtain ⟨p1, hF, hG⟩ := (tie_free hp).1 h1
  refine (nxt_eq ⟨fun e => by omega, fun _ => ⟨p, rfl, p1, hp, by simp [hF, hG], fun q q1 q2 => ?_⟩⟩).symm
  have := hl q q2
  rw [Ne, tie_free (by omega)] at this
  cases hFq : F q <;> cases hGq : G q <;> simp_all
theorem tie_none (h : ∀ p, p < n → tieS F G n p ≠ 1) : freeF F G n = -1 := by
  refine (nxt_eq ⟨fun _ q q1 q2 => ?_, fun e => absurd rfl e⟩).symm
  have := h q q2
  rw [Ne, tie_free q2] at this
  cases hFq : F q <;> cases hGq : G q <;> simp_all
theorem tie_list (s : Int) {p : Nat} (hp : p < n) : decide (tieS F G n p = s) = inF F G n s p := by
  unfold tieS inF
  simp [hp]
theorem tie_state {p : Nat} : (if p < n then tieS F G n p else 0) = tieS F G n p := by
  by_cases h : p < n
  · rw [if_pos h]
  · rw [if_neg h]
    unfold tieS stAt
    rw [if_pos (.inr (by omega))]
    rfl
end
end Go.Proofs.YtjlngldmdfbbaaaDoor

namespace Go.Proofs.YtjlngldmdfbbaaaDoor
open Go Go.RowKit
set_option linter.unusedVariables false
set_option linter.unusedSimpArgs false
section
variable {w : World} {B k n c : Nat} {f : Nat → Int}
/-- whether a state is one of those that would be used -/
def keptB (z : Int) : Bool := (z == 2) || (z == 3)
set_option maxRecDepth 100000 in
set_option maxHeartbeats 4000000 in
theorem lawLeaves_any (h1 : 1 ≤ n) (h : SA w B k n c f) : Calls Tryd.prog 31 #[.slice (some ⟨k, 0, none⟩) n c] w fun e w' => ∃ v W, e = .returned (.tuple #[v, .bool true]) ∧ (∀ i, W i < 18446744073709551616) ∧ (∀ p, bitF W p = (decide (p < n) && keptB (f p))) ∧ w'.ownsRow w.heap.size 89 256 v (lvN n) (byL (lvsF W) (lvN n * 256)) ∧ Below w.heap.size w w' := by
  have hn := h.n2
  have HN := newM_ok n h1 hn w
  have HS : Hid (∀ V, Below w.heap.size w V → SA V B k n c f) := fun V hV => h.below hV
  clear h
  go_enter Tryd.func31, Tryd.ntmps31
  go_wp2_with fail
  refine HN.mono ?_
  rintro e w1 ⟨g, b, cm, rfl, hM1, hb1⟩
  have HM1 : Hid (BM w1 w.heap.size g n b cm (fun _ => 0) ∧ Below w.heap.size w w1) := ⟨hM1, hb1⟩
  clear hM1 hb1 HN
  go_wp2_with fail
  go_loopw [22] (fun t wr => Hid (∃ (j : Nat) (W : Nat → Nat), j ≤ n ∧ t = .int .i64 (j : Int) ∧ BM wr w.heap.size g n b cm W ∧ (∀ p, bitF W p = (decide (p < j) && keptB (f p))) ∧ Below w.heap.size w wr)) (fun t _ => n - (intOf t).toNat)
  case atStart => exact ⟨0, fun _ => 0, by omega, rfl, HM1.out.1, fun p => by rw [bitF_zero]; simp, HM1.out.2⟩
  case round =>
    obtain ⟨j, W, hj, rfl, hM, hbits, hb⟩ := Hid.out hrel
    clear hrel HM1
    by_cases hlt : j < n
    · have cs := (HS.out wr hb).at hlt
      have j0 : (0 : Int) ≤ (j : Int) := by omega
      have j1 : (j : Int) < (n : Int) := by omega
      have HSE := set_in wr hM j hlt
      have HJ : Hid (j < n ∧ n ≤ 8192) := ⟨hlt, hn⟩
      have HMM : Hid (BM wr w.heap.size g n b cm W ∧ (∀ p, bitF W p = (decide (p < j) && keptB (f p))) ∧ Below w.heap.size w wr) := ⟨hM, hbits, hb⟩
      have HYES : Hid (keptB (f j) = true → ∀ w3, BM w3 w.heap.size g n b cm (putW W j) → Only b wr w3 → BM w3 w.heap.size g n b cm (putW W j) ∧ (∀ p, bitF (putW W j) p = (decide (p < j + 1) && keptB (f p))) ∧ Below w.heap.size w w3) := fun hk w3 hM3 hO3 => by
        refine ⟨hM3, fun p => ?_, hb.trans (hO3.below hb.size hM3.blt.1)⟩
        rw [put_ifL, hbits]
        by_cases e : p = j
        · subst e
          simp [hk]
        · rw [if_neg e]
          by_cases e2 : p < j
          · have e3 : p < j + 1 := by omega
            simp [e2, e3]
          · have e3 : ¬ p < j + 1 := by omega
            simp [e2, e3]
      have HNO : Hid (keptB (f j) = false → ∀ p, bitF W p = (decide (p < j + 1) && keptB (f p))) := fun hk p => by
        rw [hbits]
        by_cases e : p = j
        · subst e
          simp [hk]
        · by_cases e2 : p < j
          · have e3 : p < j + 1 := by omega
            simp [e2, e3]
          · have e3 : ¬ p < j + 1 := by omega
            simp [e2, e3]
      clear hM hbits hb HS
      generalize hfj : f j = z at *
      clear hfj
      by_cases z2 : z = 2
      · subst z2
        go_wp2_with fail
        refine HSE.mono ?_
        rintro e w3 ⟨rfl, hM3, hO3⟩
        have HE : Hid (_ ∧ _ ∧ _) := HYES.out rfl w3 hM3 hO3
        clear hM3 hO3 HSE HMM HYES HNO cs
        go_wp2_with fail
        go_roundw
        case rel => exact ⟨j + 1, putW W j, HJ.out.1, by first | rfl | go_num | simp, HE.out.1, HE.out.2.1, HE.out.2.2⟩
        case measure => simp [intOf]; have := HJ.out; omega
      · by_cases z3 : z = 3
        · subst z3
          go_wp2_with fail
          refine HSE.mono ?_
          rintro e w3 ⟨rfl, hM3, hO3⟩
          have HE : Hid (_ ∧ _ ∧ _) := HYES.out rfl w3 hM3 hO3
          clear hM3 hO3 HSE HMM HYES HNO cs
          go_wp2_with fail
          go_roundw
          case rel => exact ⟨j + 1, putW W j, HJ.out.1, by first | rfl | go_num | simp, HE.out.1, HE.out.2.1, HE.out.2.2⟩
          case measure => simp [intOf]; have := HJ.out; omega
        · have z2b : (z == 2) = false := by simp [z2]
          have z3b : (z == 3) = false := by simp [z3]
          have HE : Hid (∀ p, bitF W p = (decide (p < j + 1) && keptB (f p))) := HNO.out (by unfold keptB; rw [z2b, z3b]; rfl)
          clear HSE HYES HNO
          go_wp2_with fail
          go_roundw
          case rel => exact ⟨j + 1, W, HJ.out.1, by first | rfl | go_num | simp, HMM.out.1, HE.out, HMM.out.2.2⟩
          case measure => simp [intOf]; have := HJ.out; omega
    · obtain rfl : j = n := by omega
      have j1 : ¬ ((j : Int) < (j : Int)) := by omega
      have HLV := leavesM_any wr hM
      have HF : Hid ((∀ i, W i < 18446744073709551616) ∧ (∀ p, bitF W p = (decide (p < j) && keptB (f p))) ∧ Below w.heap.size w wr) := ⟨hM.lt, hbits, hb⟩
      clear hM hbits hb HS
      go_wp2_with fail
      refine HLV.mono ?_
      rintro e w3 ⟨v, rfl, hown, hb3⟩
      have HE : Hid (w3.ownsRow w.heap.size 89 256 v (lvN j) (byL (lvsF W) (lvN j * 256)) ∧ Below w.heap.size w w3) := ⟨kown_mono hown HF.out.2.2.size, HF.out.2.2.trans (hb3.mono HF.out.2.2.size)⟩
      clear hown hb3 HLV
      go_wp2_with fail
      go_ret2
      exact ⟨v, W, rfl, HF.out.1, HF.out.2.1, HE.out.1, HE.out.2⟩
end
end Go.Proofs.YtjlngldmdfbbaaaDoor

namespace Go.Proofs.YtjlngldmdfbbaaaDoor
open Go Go.RowKit
set_option linter.unusedVariables false
set_option linter.unusedSimpArgs false
section
variable {w : World} {P : Nat → Prop} {r n B k c : Nat} {F G : Nat → Bool} {f : Nat → Int}
set_option maxRecDepth 100000 in
set_option maxHeartbeats 8000000 in
theorem stands_any (hT : TabAt w) (h0 : 0 < w.heap.size) (h : RoomIs w P r n F G) (hS : SA w B k n c f) (hf : ∀ p, p < n → f p = tieS F G n p) (a : Option Addr) (M cc : Nat) (hM : M ≤ 9223372036854775807) (A : Nat → Nat) (hD : IsU32s w a M A) : Calls Tryd.prog 15 #[.pointer (some ⟨r, 0, none⟩), .slice (some ⟨k, 0, none⟩) n c, .slice a M cc] w fun e w' => e = .returned (.bool true) ∧ Below w.heap.size w w' := by
  obtain ⟨hn16, hn2, hF00, hG00, hF0, hG0⟩ := h.facts
  have HA : Hid (∀ X, Below w.heap.size w X → RoomIs X P r n F G ∧ SA X B k n c f ∧ TabAt X ∧ 0 < X.heap.size ∧ IsU32s X a M A) := fun X hX => ⟨h.below hX, hS.below hX, hT.below h0 hX, Nat.lt_of_lt_of_le h0 hX.size, hD.below hX⟩
  have HL : Hid (∀ s : Int, onesL (fun p => decide (f p = s)) n = onesL (inF F G n s) n) := fun s => ones_eq fun p hp => by rw [hf p hp]; exact tie_list s hp
  have HXL : Hid (∀ I : Nat → Bool, (onesL I n).length ≤ 8192) := fun I => by
    unfold onesL
    exact Nat.le_trans (List.length_filter_le _ _) (by rw [List.length_range]; exact hn2)
  have HK : Hid (∀ p, (decide (p < n) && keptB (f p)) = G p) := fun p => by
    by_cases hp : p < n
    · rw [hf p hp]
      have := tie_let (F := F) hp hG00
      unfold keptB
      cases hg : G p with
      | true =>
        rcases this.2 hg with e | e <;> simp [e, hp]
      | false =>
        have hq : ¬ (tieS F G n p = 2 ∨ tieS F G n p = 3) := fun q => by rw [this.1 q] at hg; cases hg
        have q2 : ¬ tieS F G n p = 2 := fun q => hq (.inl q)
        have q3 : ¬ tieS F G n p = 3 := fun q => hq (.inr q)
        simp [q2, q3]
    · rw [hG0 p (by omega)]
      simp [hp]
  have HST : Hid (∀ p, (if p < n then f p else 0) = (stAt F G n p : Int)) := fun p => by
    by_cases hp : p < n
    · rw [if_pos hp, hf p hp]
      rfl
    · have := tie_state (F := F) (G := G) (n := n) (p := p)
      rw [if_neg hp] at this ⊢
      exact this
  obtain ⟨gu, bu, cu, gn, bn, cn, U, X0, hR0, _, _⟩ := h
  have HBL := rblocks_any hR0
  clear hS hf hT hD hR0
  go_enter Tryd.func15, Tryd.ntmps15
  go_wp2_with fail
  refine HBL.mono ?_
  rintro e w1 ⟨rfl, m1, rfl⟩
  have hb1 : Below w.heap.size w (w.drewN m1) := below_dN (Below.refl _ _) m1
  generalize w.drewN m1 = w1 at *
  clear HBL
  go_wp2_with fail
  go_loopw [7] (fun t wr => Hid (∃ s : Int, -1 ≤ s ∧ s ≤ 6 ∧ t = .int .i64 s ∧ Below w.heap.size w wr)) (fun t _ => (6 - intOf t).toNat)
  case atStart => exact ⟨-1, by decide, by decide, rfl, hb1⟩
  case round =>
    clear hb1
    obtain ⟨s, hs1, hs2, rfl, hb⟩ := Hid.out hrel
    clear hrel
    by_cases hs5 : s ≤ 5
    · have HR1 := rrlist_any (HA.out wr hb).2.1 s
      rw [HL.out s] at HR1
      have HJ : Hid (-1 ≤ s ∧ s ≤ 5) := ⟨hs1, hs5⟩
      have HB : Hid (Below w.heap.size w wr) := hb
      clear hb
      go_wp2_with fail
      refine HR1.mono ?_
      rintro e w2 ⟨v1, rfl, ho1, hb2⟩
      have hbw2 := HB.out.trans (hb2.mono HB.out.size)
      have HR2 := rlist_any (HA.out w2 hbw2).2.2.1 (HA.out w2 hbw2).2.2.2.1 (HA.out w2 hbw2).1 s
      have HO1 : Hid (∀ X, Below w2.heap.size w2 X → X.ownsRow w.heap.size 36 1 v1 (onesL (inF F G n s) n).length (u32L (onesL (inF F G n s) n))) := fun X hX => kown_below (kown_mono ho1 HB.out.size) hX
      clear HR1 ho1 hb2
      go_wp2_with fail
      refine HR2.mono ?_
      rintro e w3 ⟨v2, rfl, ho2, _, hb3⟩
      have hbw3 := hbw2.trans (hb3.mono hbw2.size)
      have HC := rcountR_any (HA.out w3 hbw3).1 s
      rw [← ones_len] at HC
      have HO2 : Hid (∀ X, Below w3.heap.size w3 X → X.ownsRow w.heap.size 36 1 v1 (onesL (inF F G n s) n).length (u32L (onesL (inF F G n s) n)) ∧ X.ownsRow w.heap.size 36 1 v2 (onesL (inF F G n s) n).length (u32L (onesL (inF F G n s) n)) ∧ Below w.heap.size w X) := fun X hX => ⟨HO1.out X (hb3.trans (hX.mono hb3.size)), kown_below (kown_mono ho2 hbw2.size) hX, hbw3.trans (hX.mono hbw3.size)⟩
      have hll := HXL.out (inF F G n s)
      clear HR2 HO1 ho2 hb3 hbw2 hbw3
      obtain ⟨a1, p1, rfl⟩ := kown_slice (HO2.out w3 (Below.refl _ _)).1
      obtain ⟨a2, p2, rfl⟩ := kown_slice (HO2.out w3 (Below.refl _ _)).2.1
      go_wp2_with fail
      refine HC.mono ?_
      rintro e w4 ⟨rfl, hb4⟩
      obtain ⟨o1, o2, hbw4⟩ := HO2.out w4 hb4
      obtain ⟨a3, p3, e3, hI1⟩ := own_u32 o1
      obtain ⟨a4, p4, e4, hI2⟩ := own_u32 o2
      injection e3 with e31 e32 e33
      subst e31
      subst e33
      injection e4 with e41 e42 e43
      subst e41
      subst e43
      have HSM : Hid (Calls Tryd.prog 29 #[.slice a2 (onesL (inF F G n s) n).length p2, .slice a1 (onesL (inF F G n s) n).length p1] w4 fun e w' => e = .returned (.bool true) ∧ Below w4.heap.size w4 w') := by
        have := sameU_any _ p2 p1 (by omega) a2 a1 _ _ w4 hI2 hI1
        rw [decide_eq_true (fun i _ => rfl)] at this
        exact this
      have HO4 : Hid (w4.ownsRow w.heap.size 36 1 (.slice a2 (onesL (inF F G n s) n).length p2) (onesL (inF F G n s) n).length (u32L (onesL (inF F G n s) n)) ∧ Below w.heap.size w w4) := ⟨o2, hbw4⟩
      clear HC HO2 hb4 o1 o2 hbw4 hI1 hI2
      generalize onesL (inF F G n s) n = xs at *
      go_wp2_with fail
      refine HSM.out.mono ?_
      rintro e w5 ⟨rfl, hb5⟩
      have HO5 : Hid (w5.ownsRow w.heap.size 36 1 (.slice a2 xs.length p2) xs.length (u32L xs) ∧ Below w.heap.size w w5) := ⟨kown_below HO4.out.1 hb5, HO4.out.2.trans (hb5.mono HO4.out.2.size)⟩
      clear HSM HO4 hb5
      go_wp2_with fail
      go_loopw [44] (fun t wr => Hid (∃ (j : Nat) (ys : List Value), j ≤ xs.length ∧ t = .int .i64 (j : Int) ∧ wr.ownsRow w.heap.size 36 1 (.slice a2 xs.length p2) xs.length ys ∧ Below w.heap.size w wr)) (fun t _ => xs.length - (intOf t).toNat)
      case atStart => exact ⟨0, _, by omega, rfl, HO5.out.1, HO5.out.2⟩
      case round =>
        clear HO5
        obtain ⟨j, ys, hj, rfl, hown, hb⟩ := Hid.out hrel
        clear hrel
        by_cases hlt : j < xs.length
        · obtain ⟨gv, capv, hv, hg1, hg2⟩ := kown_form hown (by omega)
          injection hv with hv1 hv2 hv3
          subst hv1
          subst hv3
          have hyl : ys.length = xs.length * 1 := hown.1
          have c2 : wr.cell? ⟨gv, j, none⟩ = some (ys[j]'(by omega)) := by rw [hown.cellAt j (by omega), List.getElem?_eq_getElem (by omega)]
          have f2 := hown.frozenAt j
          have j0 : (0 : Int) ≤ (j : Int) := by omega
          have j1 : (j : Int) < (xs.length : Int) := by omega
          have HE : Hid (_ ∧ Below w.heap.size w (wr.setCell ⟨gv, j, none⟩ (.int .u32 0)) ∧ j < xs.length) := ⟨(hown.stored j (.int .u32 0)).1, hb.setCell (p := ⟨gv, j, none⟩) hg1 _, hlt⟩
          generalize (ys[j]'(by omega)) = yv at c2
          clear hown hb hg1 hg2 hyl
          go_wp2_with fail
          go_roundw
          case rel => exact ⟨j + 1, _, HE.out.2.2, by first | rfl | go_num | simp, HE.out.1, HE.out.2.1⟩
          case measure => simp [intOf]; have := HE.out.2.2; omega
        · have j1 : ¬ ((j : Int) < (xs.length : Int)) := by omega
          have HE : Hid (Below w.heap.size w wr) := hb
          clear hown hb
          go_wp2_with fail
          go_roundw
          case rel => exact ⟨s + 1, by have := HJ.out; omega, by have := HJ.out; omega, by first | rfl | go_num | simp, HE.out⟩
          case measure => simp [intOf]; have := HJ.out; omega
    · obtain rfl : s = 6 := by omega
      have HB : Hid (Below w.heap.size w wr) := hb
      clear hb hs1 hs2 hs5 HL HXL
      go_wp2_with fail
      go_loopw [53] (fun t wr => Hid (∃ j : Nat, j ≤ M ∧ t = .int .i64 (j : Int) ∧ Below w.heap.size w wr)) (fun t _ => M - (intOf t).toNat)
      case atStart => exact ⟨0, by omega, rfl, HB.out⟩
      case round =>
        clear HB
        obtain ⟨j, hj, rfl, hb⟩ := Hid.out hrel
        clear hrel
        by_cases hlt : j < M
        · obtain ⟨u1, b1, o1, rfl, l1, r1⟩ := (HA.out wr hb).2.2.2.2 j hlt
          have k0 : (0 : Int) ≤ (j : Int) := by omega
          have k1 : (j : Int) < (M : Int) := by omega
          have HR := rstate_any (HA.out wr hb).1 (A j) u1
          have HRR : Hid (∀ m, Calls Tryd.prog 30 #[.slice (some ⟨k, 0, none⟩) n c, .int .u32 (A j : Int)] (wr.drewN m) fun e w' => e = .returned (.int .i64 (stAt F G n (A j) : Int)) ∧ w' = wr.drewN m) := fun m => by
            have := rrstate_any (HA.out _ (below_dN hb m)).2.1 (A j) u1
            rw [HST.out (A j)] at this
            exact this
          have HJ : Hid (j < M ∧ Below w.heap.size w wr) := ⟨hlt, hb⟩
          clear hb
          generalize (stAt F G n (A j) : Int) = z at *
          generalize (A j : Int) = x at *
          go_wp2_with fail
          refine HR.mono ?_
          rintro e w2 ⟨rfl, m2, rfl⟩
          have HR2 := HRR.out m2
          have HB2 : Hid (Below w.heap.size w (wr.drewN m2)) := below_dN HJ.out.2 m2
          clear HR HRR
          generalize wr.drewN m2 = w2 at *
          go_wp2_with fail
          refine HR2.mono ?_
          rintro e w3 ⟨rfl, rfl⟩
          clear HR2
          go_wp2_with fail
          go_roundw
          case rel => exact ⟨j + 1, HJ.out.1, by first | rfl | go_num | simp, HB2.out⟩
          case measure => simp [intOf]; have := HJ.out.1; omega
        · have j1 : ¬ ((j : Int) < (M : Int)) := by omega
          have HLL := lawLeaves_any (by omega) (HA.out wr hb).2.1
          have HB : Hid (Below w.heap.size w wr ∧ lvN n ≤ 9223372036854775807) := ⟨hb, by have := lvN_le hn2; omega⟩
          clear hb HST hlt
          go_wp2_with fail
          refine HLL.mono ?_
          rintro e w2 ⟨v, W, rfl, hWl, hWb, ho2, hb2⟩
          have hbw2 := HB.out.1.trans (hb2.mono HB.out.1.size)
          have HRL := rleaves_any (HA.out w2 hbw2).1
          have HW : Hid ((∀ i, W i < 18446744073709551616) ∧ (∀ p, bitF W p = G p) ∧ (∀ X, Below w2.heap.size w2 X → X.ownsRow w.heap.size 89 256 v (lvN n) (byL (lvsF W) (lvN n * 256)))) := ⟨hWl, fun p => (hWb p).trans (HK.out p), fun X hX => kown_below (kown_mono ho2 HB.out.1.size) hX⟩
          clear hWl hWb ho2 hb2 HLL HK
          obtain ⟨a1, p1, rfl⟩ := kown_slice (HW.out.2.2 w2 (Below.refl _ _))
          go_wp2_with fail
          refine HRL.mono ?_
          rintro e w3 ⟨v2, X, rfl, hXl, hXb, ho3, hb3⟩
          have hbw3 := hbw2.trans (hb3.mono hbw2.size)
          obtain rfl : X = W := funext (words_ext hXl HW.out.1 fun p => (hXb p).trans (HW.out.2.1 p).symm)
          obtain ⟨a2, p2, rfl, hI2⟩ := own_blks ho3
          obtain ⟨a3, p3, e3, hI3⟩ := own_blks (HW.out.2.2 w3 hb3)
          injection e3 with e31 e32 e33
          subst e31
          subst e33
          have HQ : Hid (Calls Tryd.prog 32 #[.slice a2 (lvN n) p2, .slice a1 (lvN n) p1] w3 fun e w' => e = .returned (.bool true) ∧ Below w3.heap.size w3 w') := by
            have := lawBlocks_any (lvN n) p2 p1 HB.out.2 a2 a1 _ _ w3 hI2 hI3
            rw [decide_eq_true (fun i _ j _ => rfl)] at this
            exact this
          clear hI2 hI3 ho3 hXl hXb HRL HW
          go_wp2_with fail
          refine HQ.out.mono ?_
          rintro e w4 ⟨rfl, hb4⟩
          have hbw4 := hbw3.trans (hb4.mono hbw3.size)
          go_wp2_with fail
          go_ret
          exact ⟨rfl, hbw4⟩
end
end Go.Proofs.YtjlngldmdfbbaaaDoor

namespace Go.Proofs.YtjlngldmdfbbaaaDoor
open Go Go.RowKit
set_option linter.unusedVariables false
set_option linter.unusedSimpArgs false
section
variable {w V V' : World} {P : Nat → Prop} {r n k c k' c' : Nat} {F G F' G' : Nat → Bool} {f g : Nat → Int}
/-- a room in a world V that grew out of w, with the document's states f in block k, which is not the room's -/
structure RS (w V : World) (P : Nat → Prop) (r n : Nat) (F G : Nat → Bool) (k c : Nat) (f : Nat → Int) : Prop where
  room : RoomIs V P r n F G
  sa : SA V w.heap.size k n c f
  out : ¬ P k
  up : ∀ j, V.heap.size ≤ j → P j
  low : ∀ j, j < w.heap.size → ¬ P j
  big : Below w.heap.size w V
theorem RS.gap (h : RS w V P r n F G k c f) (hb : Below V.heap.size V V') : RS w V' (fun j => (j < V.heap.size ∧ P j) ∨ V'.heap.size ≤ j) r n F G k c f := by
  refine ⟨(h.room.reown fun j hj hp => .inl ⟨hj, hp⟩).below hb, h.sa.below hb, ?_, fun j hj => .inr hj, fun j hj => ?_, h.big.trans (hb.mono h.big.size)⟩
  · rintro (⟨_, hp⟩ | hp)
    · exact h.out hp
    · have := h.sa.lt.2
      have := hb.size
      omega
  · rintro (⟨_, hp⟩ | hp)
    · exact h.low j hj hp
    · have := h.big.size
      have := hb.size
      omega
theorem RS.turn (h : RS w V P r n F G k c f) (ha : RoomIs V' P r n F' G') (ht : Touch P V V') : RS w V' P r n F' G' k c f :=
  ⟨ha, h.sa.keep (ht.block k h.sa.lt.2 h.out), h.out, fun j hj => h.up j (Nat.le_trans ht.size hj), h.low, h.big.trans (ht.below h.big.size h.low)⟩
/-- the document's states are new ones -/
theorem RS.next (h : RS w V P r n F G k c f) (hb : Below V.heap.size V V') (hs : SA V' V.heap.size k' n c' g) : RS w V' (fun j => (j < V.heap.size ∧ P j) ∨ V'.heap.size ≤ j) r n F G k' c' g := by
  have hg := h.gap hb
  refine ⟨hg.room, hs.mono h.big.size, ?_, hg.up, hg.low, hg.big⟩
  have := hs.lt
  rintro (⟨hp, _⟩ | hp) <;> omega
theorem RS.mono {u : World} (h : RS w V P r n F G k c f) (hb : Below u.heap.size u w) : RS u V P r n F G k c f := ⟨h.room, h.sa.mono hb.size, h.out, h.up, fun j hj => h.low j (Nat.lt_of_lt_of_le hj hb.size), hb.trans (h.big.mono hb.size)⟩
end
end Go.Proofs.YtjlngldmdfbbaaaDoor

namespace Go.Proofs.YtjlngldmdfbbaaaDoor
open Go Go.RowKit
set_option linter.unusedVariables false
set_option linter.unusedSimpArgs false
/-- the room's own blocks -/
def RP (b B : Nat) : Nat → Prop := fun j => b < j ∧ j < B
/-- a room in a world W that grew out of w, and the argument's box -/
structure MR (w W : World) (B r n : Nat) (F G : Nat → Bool) (xN : Int) (al : Option Addr) (NL cl : Nat) : Prop where
  room : RoomIs W (RP w.heap.size B) r n F G
  big : Below w.heap.size w W
  box : Blk W w.heap.size 24 #[.int .i64 xN, .slice al NL cl]
  hB : B ≤ W.heap.size
  hw : w.heap.size < B
section
variable {w W W' : World} {B r n k c : Nat} {F G G' : Nat → Bool} {xN : Int} {al : Option Addr} {NL cl : Nat} {f : Nat → Int} {A : Nat → Nat}
theorem MR.go (h : MR w W B r n F G xN al NL cl) (hb : Below W.heap.size W W') : MR w W' B r n F G xN al NL cl := ⟨h.room.below hb, h.big.trans (hb.mono h.big.size), h.box.below hb h.box.lt, Nat.le_trans h.hB hb.size, h.hw⟩
theorem MR.turn (h : MR w W B r n F G xN al NL cl) (hr : RoomIs W' (RP w.heap.size B) r n F G') (ht : Touch (RP w.heap.size B) W W') : MR w W' B r n F G' xN al NL cl :=
  ⟨hr, h.big.trans (ht.below h.big.size fun j hj hp => by have := hp.1; omega), (ht.block _ h.box.lt fun hp => by have := hp.1; omega).trans h.box, Nat.le_trans h.hB ht.size, h.hw⟩
theorem MR.sa (h : SA W B k n c f) (ht : Touch (RP w.heap.size B) W W') : SA W' B k n c f := h.keep (ht.block k h.lt.2 fun hp => by have := hp.2; have := h.lt.1; omega)
theorem MR.tab (h : MR w W B r n F G xN al NL cl) (hT : TabAt w) (h0 : 0 < w.heap.size) : TabAt W := hT.below h0 h.big
theorem MR.pos (h : MR w W B r n F G xN al NL cl) (h0 : 0 < w.heap.size) : 0 < W.heap.size := Nat.lt_of_lt_of_le h0 h.big.size
/-- what TakeMany tells -/
def TkD (F G : Nat → Bool) (n : Nat) (xN : Int) (W : World) (B : Nat) (v : Value) (er : Int) (G1 : Nat → Bool) : Prop :=
  (xN < 0 ∧ v = .slice none 0 0 ∧ er = 1 ∧ G1 = G) ∨
  (0 ≤ xN ∧ (cntF (inF F G n 1) n : Int) < xN ∧ v = .slice none 0 0 ∧ er = 3 ∧ G1 = G) ∨
  (∃ m g : Nat, xN = (m : Int) ∧ m ≤ cntF (inF F G n 1) n ∧ v = .slice (some ⟨g, 0, none⟩) m m ∧ er = 0 ∧ G1 = tkG F n G m ∧ B ≤ g ∧ Blk W g 36 (va m (tkC (tkP F n G) m)) ∧ ∀ j, j < m → freeF F (tkG F n G j) n = (tkP F n G j : Int) ∧ tkP F n G j < n)
theorem TkD.go {v : Value} {er : Int} {G1 : Nat → Bool} (h : TkD F G n xN W B v er G1) (hb : Below W.heap.size W W') : TkD F G n xN W' B v er G1 := by
  rcases h with h | h | ⟨m, g, h1, h2, h3, h4, h5, h6, h7, h8⟩
  · exact .inl h
  · exact .inr (.inl h)
  · exact .inr (.inr ⟨m, g, h1, h2, h3, h4, h5, h6, h7.below hb h7.lt, h8⟩)
theorem takemany_all (hT : TabAt w) (h0 : 0 < w.heap.size) (h : MR w W B r n F G xN al NL cl) : Calls Tryd.prog 7 #[.pointer (some ⟨r, 0, none⟩), .int .i64 xN] W fun e w' => ∃ (v : Value) (er : Int) (G1 : Nat → Bool), e = .returned (.tuple #[v, .int .i64 er]) ∧ TkD F G n xN w' B v er G1 ∧ RoomIs w' (RP w.heap.size B) r n F G1 ∧ Touch (RP w.heap.size B) W w' := by
  by_cases hx : xN < 0
  · refine (rtakemany_neg r xN hx W).mono ?_
    rintro e w' ⟨rfl, rfl⟩
    exact ⟨_, _, G, rfl, .inl ⟨hx, rfl, rfl, rfl⟩, h.room, Touch.refl _ _⟩
  · by_cases hc : (cntF (inF F G n 1) n : Int) < xN
    · refine (rtakemany_no h.room xN (by omega) hc).mono ?_
      rintro e w' ⟨rfl, hb⟩
      exact ⟨_, _, G, rfl, .inr (.inl ⟨by omega, hc, rfl, rfl, rfl⟩), h.room.below hb, Touch.of_below hb⟩
    · obtain ⟨m, rfl⟩ : ∃ m : Nat, xN = (m : Int) := ⟨xN.toNat, by omega⟩
      refine (rtakemany_ok (h.tab hT h0) (h.pos h0) h.room (fun k hk => Nat.lt_of_lt_of_le hk.2 h.hB) (fun hk => by have := hk.1; omega) m (by omega)).mono ?_
      rintro e w' ⟨g, rfl, hg, hb, hR, ht, hall⟩
      exact ⟨_, _, _, rfl, .inr (.inr ⟨m, g, rfl, by omega, rfl, rfl, rfl, Nat.le_trans h.hB hg, hb, hall⟩), hR, ht⟩
theorem lt_first : ∀ N, ¬ LtOk A G N → ∃ k, k < N ∧ LtOk A G k ∧ ltG A G k (A k) = false
  | 0, h => absurd (fun j hj => by omega) h
  | N + 1, h => by
    by_cases c : LtOk A G N
    · refine ⟨N, by omega, c, ?_⟩
      cases hq : ltG A G N (A N) with
      | false => rfl
      | true =>
        refine absurd (fun j hj => ?_) h
        by_cases e : j = N
        · subst e; exact hq
        · exact c j (by omega)
    · obtain ⟨k, h1, h2, h3⟩ := lt_first N c
      exact ⟨k, by omega, h2, h3⟩
theorem lt_uniq {k k' : Nat} (h1 : LtOk A G k) (h2 : ltG A G k (A k) = false) (h3 : LtOk A G k') (h4 : ltG A G k' (A k') = false) : k = k' := by
  rcases Nat.lt_trichotomy k k' with c | c | c
  · have := h3 k c; rw [h2] at this; cases this
  · exact c
  · have := h1 k' c; rw [h4] at this; cases this
theorem lt_seen : ∀ (i : Nat) {q : Nat}, ltG A G i q = true → ∀ j, j < i → A j ≠ q
  | 0, q, _, j, hj => by omega
  | i + 1, q, h, j, hj => by
    have h' : (if q = A i then false else ltG A G i q) = true := h
    by_cases c : q = A i
    · rw [if_pos c] at h'; cases h'
    · rw [if_neg c] at h'
      by_cases e : j = i
      · subst e; exact fun e2 => c e2.symm
      · exact lt_seen i h' j (by omega)
theorem ltG_out (hG : ∀ p, n ≤ p → G p = false) : ∀ i p, n ≤ p → ltG A G i p = false
  | 0, p, h => hG p h
  | i + 1, p, h => by
    show (if p = A i then false else ltG A G i p) = false
    split
    · rfl
    · exact ltG_out hG i p h
theorem ltG_zero (hG : G 0 = false) : ∀ i, ltG A G i 0 = false
  | 0 => hG
  | i + 1 => by
    show (if 0 = A i then false else ltG A G i 0) = false
    split
    · rfl
    · exact ltG_zero hG i
end
end Go.Proofs.YtjlngldmdfbbaaaDoor
