/- The document's Compare of texts of every length. -/
import Derived.Test.YtjlngldmdfbbaaaHNaJoin
import Derived.Test.YtjlngldmdfbbaaaHSegsW
import Derived.Handy
import Derived.Test.YtjlngldmdfbbaaaHNaSoC
import Derived.Deep.MidRow
import Derived.BigQuiet
import Derived.Deep.QuietTactic

namespace Go.Proofs.Ytjlngldmdfbbaaa
open Go Go.RowKit Go.Nam
set_option linter.unusedVariables false
set_option linter.unusedSimpArgs false
theorem va_lb (N : Nat → Int) (S : Nat → ByteArray) : ∀ n, (va (n * 2) (lbF N S)).toList = lkL N S n
  | 0 => by simp [va, lkL]
  | n + 1 => by
    have ih := va_lb N S n
    unfold va at ih ⊢
    rw [show (n + 1) * 2 = n * 2 + 1 + 1 by omega, List.range_succ, List.range_succ]
    simp only [List.map_append, List.map_cons, List.map_nil]
    simp only at ih
    rw [lkL, ← ih, List.append_assoc]
    have e0 : lbF N S (n * 2) = .int .i64 (N n) := by unfold lbF; rw [if_pos (by omega), show n * 2 / 2 = n by omega]
    have e1 : lbF N S (n * 2 + 1) = .string (S n) := by unfold lbF; rw [if_neg (by omega), show (n * 2 + 1) / 2 = n by omega]
    rw [e0, e1]
    rfl
theorem own_lb {w : World} {B n cap g : Nat} {N : Nat → Int} {S : Nat → ByteArray} (h : w.ownsRow B 30 2 (.slice (some ⟨g, 0, none⟩) n cap) n (lkL N S n)) : ∃ tl : Array Value, Blk w g 30 (lbC tl n N S) ∧ tl.size = (cap - n) * 2 ∧ n ≤ cap ∧ cap ≤ maxLen ∧ B ≤ g := by
  rcases h.2 with ⟨hv, _⟩ | ⟨g', cap', cur, hv, hB, hg, hn, hm, hs, ht⟩
  · cases hv
  · cases hv
    refine ⟨(cur.toList.drop (n * 2)).toArray, ?_, ?_, hn, hm, hB⟩
    · have e : lbC (cur.toList.drop (n * 2)).toArray n N S = cur := by
        apply Array.ext'
        unfold lbC
        rw [Array.toList_append, va_lb, ← ht]
        simp
      rw [e]
      exact hg
    · simp
      rw [hs]
      omega
theorem lb_own {w : World} {B n cap g : Nat} {N : Nat → Int} {S : Nat → ByteArray} {tl : Array Value} (h : Blk w g 30 (lbC tl n N S)) (ht : tl.size = (cap - n) * 2) (hn : n ≤ cap) (hm : cap ≤ maxLen) (hB : B ≤ g) : w.ownsRow B 30 2 (.slice (some ⟨g, 0, none⟩) n cap) n (lkL N S n) := by
  refine ⟨lkL_len N S n, .inr ⟨g, cap, _, rfl, hB, h, hn, hm, ?_, ?_⟩⟩
  · unfold lbC
    rw [Array.size_append, va_size, ht]
    omega
  · unfold lbC
    rw [Array.toList_append, va_lb, List.take_append_of_le_length (by rw [lkL_len]; exact Nat.le_refl _), List.take_of_length_le (by rw [lkL_len]; exact Nat.le_refl _)]
theorem own_lkc {w : World} {B t n : Nat} {v : Value} {N : Nat → Int} {S : Nat → ByteArray} (h : w.ownsRow B t 2 v n (lkL N S n)) : ∃ a c, v = .slice a n c ∧ IsLkC w a n N S ∧ (a = none → n = 0 ∧ c = 0) := by
  rcases h.2 with ⟨rfl, rfl⟩ | ⟨g, cap, cur, rfl, hB, hg, hn, hm, hs, ht⟩
  · exact ⟨none, 0, rfl, fun i hi => by omega, fun _ => ⟨rfl, rfl⟩⟩
  · refine ⟨some ⟨g, 0, none⟩, cap, rfl, fun i hi => ⟨g, 0, rfl, (Array.getElem?_eq_some_iff.1 hg).1, ?_, ?_⟩, fun e => by cases e⟩
    · rw [Nat.zero_add]; exact (own_lk h i hi).1
    · rw [Nat.zero_add]; exact (own_lk h i hi).2
theorem eq_lks_nil (d : Nat) (p : Option Addr) (n cap : Nat) (w : World) : (Op.equalIn (d + 1) 22 (.slice p n cap) (.slice none 0 0)).run Try.prog w = .ok p.isNone w := by
  cases p <;> simp [Op.equalIn, run_underlying Try.underlying22]
theorem lks_nil (p : Option Addr) (n cap : Nat) (w : World) : Sem.run Try.prog (binOp .eql 22 (.slice p n cap) (.slice none 0 0)) w = .ok (.bool p.isNone) w := by
  simp only [binOp]
  simp [show Op.equal 22 (.slice p n cap) (.slice none 0 0) = Op.equalIn (9999 + 1) 22 (.slice p n cap) (.slice none 0 0) from rfl, eq_lks_nil 9999 p n cap w]
set_option maxRecDepth 100000 in
set_option maxHeartbeats 4000000 in
theorem clone_lks (a : Option Addr) (n c : Nat) (N : Nat → Int) (S : Nat → ByteArray) (hn : n * 24 ≤ 140737488355328) (w : World) (hI : IsLkC w a n N S) (ha : a = none → n = 0 ∧ c = 0) :
    Calls Try.prog 9 #[.slice a n c] w fun e w' => ∃ v, e = .returned v ∧ w'.ownsRow w.heap.size 30 2 v n (lkL N S n) ∧ Below w.heap.size w w' := by
  obtain ⟨i0, hi0, hz0, hz1, hz2⟩ := info_parts infoLk
  cases a with
  | none =>
    obtain ⟨rfl, rfl⟩ := ha rfl
    have hnl := lks_nil none 0 0
    have hin : (none : Option Addr).isNone = true := rfl
    go_enter Try.func9, Try.ntmps9
    go_wp2_with fail
    go_ret
    exact ⟨_, rfl, World.ownsRow_nil _ _ _ _, Below.refl _ _⟩
  | some ad =>
    have HE : Hid ((w.alloc (.cells #[] 30)).ownsRow w.heap.size 30 2 (.slice (some ⟨w.heap.size, 0, none⟩) 0 0) 0 []) := kown_empty (Blk.new w 30 #[]) (Nat.le_refl _)
    have hb0 : Below w.heap.size w (w.alloc (.cells #[] 30)) := (Below.refl _ w).alloc (Nat.le_refl _) _
    have HI : Hid (IsLkC (w.alloc (.cells #[] 30)) (some ad) n N S) := hI.below hb0
    have HB : Hid (Below w.heap.size w (w.alloc (.cells #[] 30))) := hb0
    have HA : Hid ((some ad : Option Addr) = none → n = 0 ∧ c = 0) := fun h => by cases h
    have hnl := lks_nil (some ad) n c
    have hin : (some ad).isNone = false := rfl
    clear hI hb0 ha
    go_enter Try.func9, Try.ntmps9
    go_wp2_with (first
      | (at_builtin; refine wpList_append_links rfl _ _ 22 rfl w.heap.size 30 i0 (.agg #[.int .i64 0, .string ⟨#[]⟩]) Try.underlying22 hi0 hz0 hz1 hz2 rfl _ rfl HE.out (some ad) n c N S rfl HI.out HA.out hn (by simp) ?_)
      | fail)
    intro v' w' ho hb
    have HO : Hid (w'.ownsRow w.heap.size 30 2 v' n (lkL N S n) ∧ Below w.heap.size w w') := ⟨ho, HB.out.trans (hb.mono (Nat.le_refl _))⟩
    clear ho hb
    go_wp2_with fail
    go_ret
    exact ⟨_, rfl, HO.out.1, HO.out.2⟩
set_option maxRecDepth 100000 in
theorem ins_zero (a : Option Addr) (c : Nat) (V : World) : Calls Try.prog 24 #[.slice a 0 c, .int .i64 0, .int .i64 0, fvS] V fun e w' => e = .returned (.tuple #[]) ∧ V = w' := by
  have h1 : IntKind.i64.wrap ((0 : Int) + 1) = 1 := by decide
  go_enter Try.func24, Try.ntmps24
  go_wp2_with fail
  go_loopw [8] (fun v8 wr => v8 = .int .i64 1 ∧ V = wr) (fun _ _ => 0)
  case atStart => exact ⟨by first | rfl | simp, rfl⟩
  case round =>
    obtain ⟨rfl, rfl⟩ := hrel
    go_wp2_with fail
    go_end0
    exact ⟨rfl, rfl⟩
set_option maxRecDepth 100000 in
theorem sort_zero (a : Option Addr) (c : Nat) (V : World) : Calls Try.prog 18 #[.slice a 0 c, .int .i64 0, fvS] V fun e w' => e = .returned (.tuple #[]) ∧ V = w' := by
  have HI : Hid (∀ V : World, Calls Try.prog 24 #[.slice a 0 c, .int .i64 0, .int .i64 0, fvS] V fun e w' => e = .returned (.tuple #[]) ∧ V = w') := ins_zero a c
  go_enter Try.func18, Try.ntmps18
  go_wp2_with fail
  go_loopw [7, 8] (fun v7 v8 wr => v7 = .int .i64 0 ∧ v8 = .int .i64 20 ∧ V = wr) (fun _ _ _ => 0)
  case atStart => exact ⟨by first | rfl | simp, by first | rfl | simp, rfl⟩
  case round =>
    obtain ⟨rfl, rfl, rfl⟩ := hrel
    go_wp2_with fail
    refine (HI.out _).mono ?_
    rintro e w9 ⟨rfl, rfl⟩
    go_wp2_with fail
    go_loopw [6] (fun v6 wr => v6 = .int .i64 20 ∧ V = wr) (fun _ _ => 0)
    case atStart => exact ⟨by first | rfl | simp, rfl⟩
    case round =>
      obtain ⟨rfl, rfl⟩ := hrel
      go_wp2_with fail
      go_end0
      exact ⟨rfl, rfl⟩
/-- entries in place, sorted -/
theorem sortF_any (v : Value) (n B : Nat) (N : Nat → Int) (S : Nat → ByteArray) (hn : n ≤ 1000000000000000) (w : World) (h : w.ownsRow B 30 2 v n (lkL N S n)) :
    Calls Try.prog 10 #[v, fvS] w fun e w' => e = .returned (.tuple #[]) ∧ ∃ s, Pm 0 n s ∧ w'.ownsRow B 30 2 v n (lkL (fun p => N (s p)) (fun p => S (s p)) n) ∧ So LkL (En N S s) 0 n ∧ Turns (fun z => v.ownBlock = some z) w w' := by
  obtain ⟨a, c, rfl⟩ := kown_slice h
  have HX : Hid (Calls Try.prog 18 #[.slice a n c, .int .i64 (n : Int), fvS] w fun e w' => e = .returned (.tuple #[]) ∧ ∃ s, Pm 0 n s ∧ w'.ownsRow B 30 2 (.slice a n c) n (lkL (fun p => N (s p)) (fun p => S (s p)) n) ∧ So LkL (En N S s) 0 n ∧ Turns (fun z => (Value.slice a n c).ownBlock = some z) w w') := by
    show Calls _ _ _ _ _
    by_cases h0 : n = 0
    · subst h0
      refine (sort_zero a c w).mono ?_
      rintro e w' ⟨rfl, rfl⟩
      exact ⟨rfl, id, Pm.refl _ _, h, fun p q _ _ h3 => by omega, Turns.bel (Below.refl _ _)⟩
    · obtain ⟨g, cap, e, _⟩ := kown_form h (by omega)
      injection e with e1 _ e3
      subst e1 e3
      obtain ⟨tl, hB, h1, h2, h3, h4⟩ := own_lb h
      refine (stable_any tl g n c n fvS LkL (ins_any tl g n c n (Nat.le_refl _) hn) (sym_any tl g n c n (Nat.le_refl _) hn) N S hn w hB).mono ?_
      rintro e w' ⟨rfl, s, hs, hb, hso, ht⟩
      exact ⟨rfl, s, hs, lb_own hb h1 h2 h3 h4, hso, ⟨ht.os, ht.tape, ht.output, ht.size, fun z hz hq => ht.block z hz fun e => hq (by rw [e]; rfl)⟩⟩
  clear h
  go_enter Try.func10, Try.ntmps10
  go_wp2_with fail
  refine HX.out.mono ?_
  rintro e w' ⟨rfl, hh⟩
  have HH : Hid _ := hh
  clear hh
  go_wp2_with fail
  go_end0
  exact ⟨rfl, HH.out⟩
set_option maxRecDepth 100000 in
set_option maxHeartbeats 4000000 in
theorem sorted_any (a : Option Addr) (n c : Nat) (N : Nat → Int) (S : Nat → ByteArray) (hn : n * 24 ≤ 140737488355328) (w : World) (hI : IsLkC w a n N S) (ha : a = none → n = 0 ∧ c = 0) :
    Calls Try.prog 4 #[.slice a n c] w fun e w' => ∃ v s, e = .returned v ∧ Pm 0 n s ∧ w'.ownsRow w.heap.size 30 2 v n (lkL (fun p => N (s p)) (fun p => S (s p)) n) ∧ So LkL (En N S s) 0 n ∧ Below w.heap.size w w' := by
  have HC : Hid (Calls Try.prog 9 #[.slice a n c] w fun e w' => ∃ v, e = .returned v ∧ w'.ownsRow w.heap.size 30 2 v n (lkL N S n) ∧ Below w.heap.size w w') := clone_lks a n c N S hn w hI ha
  have hnn : n ≤ 1000000000000000 := by omega
  have HN : Hid (n ≤ 1000000000000000) := hnn
  clear hI ha hn hnn
  go_enter Try.func4, Try.ntmps4
  go_wp2_with fail
  refine HC.out.mono ?_
  rintro e w1 ⟨v, rfl, ho, hb⟩
  have hlt := ho.lt
  have HS : Hid (_ ∧ ∀ z, v.ownBlock = some z → w.heap.size ≤ z) := ⟨sortF_any v n w.heap.size N S HN.out w1 ho, fun z hz => (hlt z hz).1⟩
  have HB : Hid (Below w.heap.size w w1) := hb
  clear ho hb hlt HC
  go_wp2_with fail
  refine HS.out.1.mono ?_
  rintro e w2 ⟨rfl, s, hs, ho, hso, ht⟩
  have HH : Hid (_ ∧ _ ∧ _ ∧ Below w.heap.size w w2) := ⟨hs, ho, hso, HB.out.trans (ht.below HB.out.size fun z hz => HS.out.2 z hz)⟩
  clear hs ho hso ht
  go_wp2_with fail
  go_ret
  first | exact ⟨_, s, rfl, HH.out.1, HH.out.2.1, HH.out.2.2.1, HH.out.2.2.2⟩ | exact ⟨_, rfl, s, HH.out.1, HH.out.2.1, HH.out.2.2.1, HH.out.2.2.2⟩
end Go.Proofs.Ytjlngldmdfbbaaa

namespace Go.Proofs.Ytjlngldmdfbbaaa
open Go Go.RowKit Go.Nam
set_option linter.unusedVariables false
set_option linter.unusedSimpArgs false
abbrev Lk := Int × ByteArray
/-- the cells of entries -/
def lkR : List Lk → List Value
  | [] => []
  | x :: l => .int .i64 x.1 :: .string x.2 :: lkR l
theorem lkR_len : ∀ l : List Lk, (lkR l).length = l.length * 2
  | [] => rfl
  | x :: l => by simp [lkR, lkR_len l]; omega
theorem lkR_app : ∀ l m : List Lk, lkR (l ++ m) = lkR l ++ lkR m
  | [], m => rfl
  | x :: l, m => by simp [lkR, lkR_app l m]
theorem lkR_mem : ∀ (l : List Lk) (u : Value), u ∈ lkR l → u.oneCell' = true
  | [], u, h => by simp [lkR] at h
  | x :: l, u, h => by
    simp only [lkR, List.mem_cons] at h
    rcases h with rfl | rfl | h
    · rfl
    · rfl
    · exact lkR_mem l u h
theorem lkR_at : ∀ (l : List Lk) (i : Nat) (x : Lk), l[i]? = some x → (lkR l)[i * 2]? = some (.int .i64 x.1) ∧ (lkR l)[i * 2 + 1]? = some (.string x.2)
  | [], i, x, h => by simp at h
  | y :: l, 0, x, h => by simp at h; subst h; exact ⟨rfl, rfl⟩
  | y :: l, i + 1, x, h => by
    have ih := lkR_at l i x (by simpa using h)
    rw [show (i + 1) * 2 = i * 2 + 1 + 1 from by omega]
    exact ⟨ih.1, ih.2⟩
theorem lkR_take : ∀ (l : List Lk) (k : Nat), lkR (l.take k) = (lkR l).take (k * 2)
  | [], k => by simp [lkR]
  | x :: l, 0 => by simp [lkR]
  | x :: l, k + 1 => by rw [List.take_succ_cons, lkR, lkR, lkR_take l k, show (k + 1) * 2 = k * 2 + 1 + 1 from by omega]; rfl
theorem lkR_drop : ∀ (l : List Lk) (k : Nat), lkR (l.drop k) = (lkR l).drop (k * 2)
  | [], k => by simp [lkR]
  | x :: l, 0 => by simp
  | x :: l, k + 1 => by rw [List.drop_succ_cons, lkR, lkR_drop l k, show (k + 1) * 2 = k * 2 + 1 + 1 from by omega]; rfl
/-- the first n of N, S as a list -/
def liR (N : Nat → Int) (S : Nat → ByteArray) (n : Nat) : List Lk := (List.range n).map fun i => (N i, S i)
theorem liR_cells (N : Nat → Int) (S : Nat → ByteArray) : ∀ n, lkR (liR N S n) = lkL N S n
  | 0 => rfl
  | n + 1 => by
    have ih := liR_cells N S n
    unfold liR at ih ⊢
    rw [List.range_succ, List.map_append, lkR_app, ih, lkL]
    rfl
/-- a permutation of places makes the same entries -/
theorem pm_perm {n : Nat} {s : Nat → Nat} (h : Pm 0 n s) : ((List.range n).map s).Perm (List.range n) := by
  have hnd : ((List.range n).map s).Nodup := by
    rw [List.Nodup, List.pairwise_map]
    exact List.Pairwise.imp (fun hne e => hne (h.2.2 _ _ e)) List.nodup_range
  rw [List.perm_ext_iff_of_nodup hnd List.nodup_range]
  have hin : ∀ y, y ∈ (List.range n).map s → y < n := fun y hy => by
    obtain ⟨p, hp, rfl⟩ := List.mem_map.1 hy
    exact (h.2.1 p (Nat.zero_le _) (List.mem_range.1 hp)).2
  intro x
  refine ⟨fun hx => List.mem_range.2 (hin x hx), fun hx => Classical.byContradiction fun hno => ?_⟩
  have hsub : (List.range n).map s ⊆ (List.range n).erase x := fun y hy => (List.mem_erase_of_ne (fun e => hno (by rw [← e]; exact hy))).2 (List.mem_range.2 (hin y hy))
  have hle := hnd.length_le_of_subset hsub
  rw [List.length_erase_of_mem hx] at hle
  have := List.mem_range.1 hx
  simp at hle
  omega
theorem en_perm (N : Nat → Int) (S : Nat → ByteArray) {n : Nat} {s : Nat → Nat} (h : Pm 0 n s) : (liR (fun p => N (s p)) (fun p => S (s p)) n).Perm (liR N S n) := by
  have := (pm_perm h).map fun i => (N i, S i)
  rw [List.map_map] at this
  exact this
/-- sorted, as a list -/
def SoR (R : List Lk) : Prop := R.Pairwise fun a b => ¬ LkL b a
theorem so_soR {N : Nat → Int} {S : Nat → ByteArray} {s : Nat → Nat} {n : Nat} (h : So LkL (En N S s) 0 n) : SoR (liR (fun p => N (s p)) (fun p => S (s p)) n) := by
  unfold SoR liR
  rw [List.pairwise_map]
  rw [List.pairwise_iff_getElem]
  intro i j hi hj hij
  simp only [List.getElem_range]
  exact h i j (Nat.zero_le _) hij (by simpa using hj)
theorem soR_eq {R Q : List Lk} (h1 : SoR R) (h2 : SoR Q) (hp : R.Perm Q) : R = Q :=
  hp.eq_of_pairwise (fun a b _ _ k1 k2 => lk_eq k2 k1) h1 h2
theorem lk_irr (x : Lk) : ¬ LkL x x := fun h => lk_A x x h h
/-- one entry put where it belongs -/
theorem soR_put {R : List Lk} {x : Lk} {k : Nat} (h : SoR R) (hk : k ≤ R.length) (hl : k = 0 ∨ ∃ y, R[k - 1]? = some y ∧ ¬ LkL x y) (hr : ∀ j y, k ≤ j → R[j]? = some y → LkL x y) : SoR (R.take k ++ ([x] ++ R.drop k)) := by
  unfold SoR
  rw [List.pairwise_append]
  refine ⟨h.sublist (List.take_sublist _ _), ?_, ?_⟩
  · rw [List.singleton_append, List.pairwise_cons]
    refine ⟨fun y hy => ?_, h.sublist (List.drop_sublist _ _)⟩
    obtain ⟨j, hj, e⟩ := List.getElem_of_mem hy
    rw [List.getElem_drop] at e
    exact lk_A _ _ (hr (k + j) y (by omega) (by rw [← e]; exact List.getElem?_eq_getElem _))
  · intro a ha b hb
    obtain ⟨i, hi, e⟩ := List.getElem_of_mem ha
    rw [List.length_take] at hi
    rw [List.getElem_take] at e
    have hik : i < k := by omega
    rcases hl with h0 | ⟨y, hy, hxy⟩
    · omega
    have hk1 : k - 1 < R.length := (List.getElem?_eq_some_iff.1 hy).1
    have hy2 := (List.getElem?_eq_some_iff.1 hy).2
    have hay : ¬ LkL y a := by
      by_cases c : i = k - 1
      · subst c; rw [← e, hy2]; exact lk_irr _
      · have := (List.pairwise_iff_getElem.1 h) i (k - 1) (by omega) hk1 (by omega)
        rw [hy2, e] at this
        exact this
    rw [List.singleton_append, List.mem_cons] at hb
    rcases hb with rfl | hb
    · exact lk_T _ _ _ hay hxy
    · obtain ⟨j, hj, e2⟩ := List.getElem_of_mem hb
      rw [List.length_drop] at hj
      rw [List.getElem_drop] at e2
      have := (List.pairwise_iff_getElem.1 h) i (k + j) (by omega) (by omega) (by omega)
      rw [e, e2] at this
      exact this
theorem put_perm (R : List Lk) (x : Lk) (k : Nat) : (R.take k ++ ([x] ++ R.drop k)).Perm (R ++ [x]) := by
  have h1 : (R.take k ++ ([x] ++ R.drop k)).Perm (R.take k ++ (R.drop k ++ [x])) := List.Perm.append_left _ (List.perm_append_comm)
  have e : R.take k ++ (R.drop k ++ [x]) = R ++ [x] := by rw [← List.append_assoc, List.take_append_drop]
  rw [e] at h1
  exact h1
/-- entries in the memory from a place on -/
def IsR (w : World) (b o : Nat) (M : List Lk) : Prop := ∀ j u, (lkR M)[j]? = some u → w.cell? ⟨b, o + j, none⟩ = some u
theorem IsR.take {w : World} {b o : Nat} {M : List Lk} (h : IsR w b o M) (k : Nat) : IsR w b o (M.take k) := fun j u hu => by
  rw [lkR_take, List.getElem?_take] at hu
  split at hu
  · exact h j u hu
  · cases hu
theorem IsR.drop {w : World} {b o : Nat} {M : List Lk} (h : IsR w b o M) (k : Nat) : IsR w b (o + k * 2) (M.drop k) := fun j u hu => by
  rw [lkR_drop, List.getElem?_drop] at hu
  rw [Nat.add_assoc]
  exact h _ u hu
theorem IsR.below {w w' : World} {b o B : Nat} {M : List Lk} (h : IsR w b o M) (hb : Below B w w') (hB : b < B) : IsR w' b o M := fun j u hu => (hb.cell (p := ⟨b, o + j, none⟩) hB).trans (h j u hu)
theorem own_isR {w : World} {B e n cap g : Nat} {M : List Lk} (h : w.ownsRow B e 2 (.slice (some ⟨g, 0, none⟩) n cap) n (lkR M)) : IsR w g 0 M := fun j u hu => by
  have h1 := h.1
  have h2 := (List.getElem?_eq_some_iff.1 hu).1
  rw [Nat.zero_add, h.cellAt j (by omega)]
  exact hu
/-- append(own, entries...) -/
theorem wpList_append_lks {P : Program} {ops : Array Oper} {rest : List Oper} {o : Oper} {a : Act} {w : World} {Q : Exit → Act → World → Prop} (hgd : o.guard = none) (s x : Operand) (t : TypeId)
    (ho : o.op = .call { callee := .builtin .append, args := #[s, x], argTypes := #[t, t] }) (B : Nat) (e : TypeId) (i : TypeInfo) (z : Value) (ht : P.underlying t = some (.slice e)) (hi : P.info? e = some i) (hz : i.zero = some z) (hsize : i.size = 2) (hby : i.bytes = 24) (hzs : z.cells.size = 2)
    (v : Value) (A : List Lk) (k : Nat) (hk : k = A.length) (hs : a.eval s = v) (hown : w.ownsRow B e 2 v k (lkR A)) (b of m c : Nat) (M : List Lk) (hm : m = M.length) (hx : a.eval x = .slice (some ⟨b, of, none⟩) m c) (hA : IsR w b of M) (hn : (A.length + M.length) * 24 ≤ 140737488355328) (hbase : B ≤ w.heap.size)
    (h : ∀ v' w', w'.ownsRow B e 2 v' (k + m) (lkR (A ++ M)) → Below B w w' → w.grownBy w' v.ownBlock → wpList P ops Q rest (a.put o.dst v') w') : wpList P ops Q (o :: rest) a w := by
  have hv := hown.lt
  refine wpList_append_own _ hgd s x t ho B e i z 2 24 ht hi hz hsize hby hzs (by decide) v k (lkR A) hs hown ⟨b, of, none⟩ m c (lkR M) hx (by rw [lkR_len, hm]) (fun j u hu => ?_) (lkR_mem M) (by unfold maxLen; omega) (by omega) hbase fun v' w' h1 h2 _ => ?_
  · rw [Addr.add_mid]; exact hA j u hu
  · rw [← lkR_app] at h1
    exact h v' w' h1 ((Below.refl _ _).grown h2 hbase (fun k hk => (hv k hk).1)) h2
end Go.Proofs.Ytjlngldmdfbbaaa

namespace Go.Proofs.Ytjlngldmdfbbaaa
set_option maxRecDepth 20000
open Go Go.RowKit Go.Nam
set_option linter.unusedVariables false
set_option linter.unusedSimpArgs false
set_option maxHeartbeats 4000000 in
theorem rcompare_big (a b : ByteArray) (ha : a.size ≤ 9223372036854775807) (hb : b.size ≤ 9223372036854775807) (w : World) :
    Calls Try.prog 17 #[.string a, .string b] w fun e w' => e = .returned (.int .i64 (Lib.compareBytes a.data.toList b.data.toList)) ∧ ∃ n, w' = w.drewN n := by
  have HAL : Hid (a.size = a.data.toList.length) := Lib.size_eq a
  have HBL : Hid (b.size = b.data.toList.length) := Lib.size_eq b
  generalize hc : Lib.compareBytes a.data.toList b.data.toList = c
  have HC : Hid (Lib.compareBytes a.data.toList b.data.toList = c) := hc
  clear hc
  go_enter Try.func17, Try.ntmps17
  go_wp2_with fail
  go_loopw [5] (fun v wr => Hid (∃ i : Nat, i ≤ a.size ∧ i ≤ b.size ∧ v = .int .i64 (i : Int) ∧ Lib.compareBytes (a.data.toList.drop i) (b.data.toList.drop i) = c ∧ ∃ n, wr = w.drewN n)) (fun v _ => a.size - (intOf v).toNat)
  case atStart => exact ⟨0, by omega, by omega, rfl, HC.out, 0, rfl⟩
  case round =>
    obtain ⟨i, hia, hib, rfl, hcc, nd, rfl⟩ := Hid.out hrel
    have HI : Hid (Lib.compareBytes (a.data.toList.drop i) (b.data.toList.drop i) = c) := hcc
    clear hrel hcc HC
    have fin : Hid (∀ n, ∃ m, (w.drewN nd).drewN n = w.drewN m) := fun n => ⟨_, World.drewN_drewN _ _ _⟩
    by_cases h1 : i < a.size
    · have i1 : (i : Int) < (a.size : Int) := by omega
      by_cases h2 : i < b.size
      · have i2 : (i : Int) < (b.size : Int) := by omega
        obtain ⟨x, hx⟩ : ∃ x : UInt8, a[i]'h1 = x := ⟨_, rfl⟩
        obtain ⟨y, hy⟩ : ∃ y : UInt8, b[i]'h2 = y := ⟨_, rfl⟩
        have HX : Hid (a.data.toList[i]? = some x) := by show _ = _; rw [← hx]; exact Lib.data_getElem? a i h1
        have HY : Hid (b.data.toList[i]? = some y) := by show _ = _; rw [← hy]; exact Lib.data_getElem? b i h2
        have HN : Hid ((if x < y then (-1 : Int) else if y < x then 1 else Lib.compareBytes (a.data.toList.drop (i + 1)) (b.data.toList.drop (i + 1))) = c) := by
          have := HI.out
          rw [dropAt HX.out, dropAt HY.out] at this
          exact this
        clear HI HX HY
        by_cases c1 : x < y
        · have l1 : (x.toNat : Int) < (y.toNat : Int) := by have := UInt8.lt_iff_toNat_lt.1 c1; omega
          obtain rfl : -1 = c := by have := HN.out; rwa [if_pos c1] at this
          clear HN c1
          go_wp2_with fail
          go_quiet (fail)
          go_wp2_with fail
          go_ret
          exact ⟨rfl, fin.out _⟩
        · have l1 : ¬ ((x.toNat : Int) < (y.toNat : Int)) := by intro h; exact c1 (UInt8.lt_iff_toNat_lt.2 (by omega))
          by_cases c2 : y < x
          · have l2 : (y.toNat : Int) < (x.toNat : Int) := by have := UInt8.lt_iff_toNat_lt.1 c2; omega
            obtain rfl : 1 = c := by have := HN.out; rwa [if_neg c1, if_pos c2] at this
            clear HN c1 c2
            go_wp2_with fail
            go_quiet (fail)
            have fin2 : Hid (∀ n, ∃ m, ((w.drewN nd).drewN nq).drewN n = w.drewN m) := fun n => ⟨_, by rw [World.drewN_drewN, World.drewN_drewN]⟩
            generalize (w.drewN nd).drewN nq = w3 at fin2 ⊢
            go_wp2_with fail
            go_quiet (fail)
            go_wp2_with fail
            go_ret
            exact ⟨rfl, fin2.out _⟩
          · have l2 : ¬ ((y.toNat : Int) < (x.toNat : Int)) := by intro h; exact c2 (UInt8.lt_iff_toNat_lt.2 (by omega))
            have HM : Hid (Lib.compareBytes (a.data.toList.drop (i + 1)) (b.data.toList.drop (i + 1)) = c) := by have := HN.out; rwa [if_neg c1, if_neg c2] at this
            clear HN c1 c2
            go_wp2_with fail
            go_quiet (fail)
            have fin2 : Hid (∀ n, ∃ m, ((w.drewN nd).drewN nq).drewN n = w.drewN m) := fun n => ⟨_, by rw [World.drewN_drewN, World.drewN_drewN]⟩
            generalize (w.drewN nd).drewN nq = w3 at fin2 ⊢
            go_wp2_with fail
            go_quiet (fail)
            go_wp2_with fail
            go_roundw
            case rel => exact ⟨i + 1, by omega, by omega, by first | rfl | go_num | simp, HM.out, fin2.out _⟩
            case measure => simp [intOf]; omega
      · have i2 : ¬ ((i : Int) < (b.size : Int)) := by omega
        obtain rfl : 1 = c := (cmp_nil_drop i (by rw [← HAL.out]; exact h1) (by rw [← HBL.out]; omega)).symm.trans HI.out
        have l1 : ¬ ((a.size : Int) < (b.size : Int)) := by omega
        have l2 : (b.size : Int) < (a.size : Int) := by omega
        go_wp2_with fail
        go_ret
        exact ⟨rfl, nd, rfl⟩
    · have i1 : ¬ ((i : Int) < (a.size : Int)) := by omega
      by_cases h2 : i < b.size
      · obtain rfl : -1 = c := (cmp_drop_nil i (by rw [← HBL.out]; exact h2) (by rw [← HAL.out]; omega)).symm.trans HI.out
        have l1 : (a.size : Int) < (b.size : Int) := by omega
        go_wp2_with fail
        go_ret
        exact ⟨rfl, nd, rfl⟩
      · obtain rfl : 0 = c := (cmp_nil_nil i (by rw [← HAL.out]; omega) (by rw [← HBL.out]; omega)).symm.trans HI.out
        have l1 : ¬ ((a.size : Int) < (b.size : Int)) := by omega
        have l2 : ¬ ((b.size : Int) < (a.size : Int)) := by omega
        go_wp2_with fail
        go_ret
        exact ⟨rfl, nd, rfl⟩
end Go.Proofs.Ytjlngldmdfbbaaa
