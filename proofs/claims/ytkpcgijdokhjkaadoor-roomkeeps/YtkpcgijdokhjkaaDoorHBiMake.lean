/- New maps of bits: New, Clone, Fill, Of: the contracts. -/
import Derived.Test.YtkpcgijdokhjkaaDoorHBiWord
import Derived.Test.YtkpcgijdokhjkaaDoorHSegsP
import Derived.Deep.QuietTactic
import Derived.BigQuiet
import Derived.Deep.Heap
import Derived.Handy
import Derived.OpenShut
import Derived.Deep.MidRow
import Derived.Great.BuildSlice
import Derived.OwnWalk
import Derived.Maps.AppendAt
import Derived.Laws.MakeOwn
import Derived.Laws.OwnMore

namespace Go.Proofs.YtkpcgijdokhjkaaDoor
open Go Go.RowKit
set_option linter.unusedVariables false
set_option linter.unusedSimpArgs false

def wdL (W : Nat → Nat) (m : Nat) : List Value := (List.range m).map (iv .u64 W)
theorem wdL_at (W : Nat → Nat) (m i : Nat) (h : i < m) : (wdL W m)[i]? = some (.int .u64 ((W i : Nat) : Int)) := by simp [wdL, iv, h]
theorem wdL_len (W : Nat → Nat) (m : Nat) : (wdL W m).length = m := by simp [wdL]
theorem wdL_one (W : Nat → Nat) (m : Nat) : ∀ u ∈ wdL W m, u.oneCell' = true := fun u hu => by
  obtain ⟨i, _, rfl⟩ := List.mem_map.1 hu
  rfl
theorem wdL_set (W : Nat → Nat) (m i x : Nat) : (wdL W m).set i (.int .u64 ((x : Nat) : Int)) = wdL (updN W i x) m := by
  apply List.ext_getElem?
  intro j
  rw [List.getElem?_set]
  by_cases hj : j < m
  · rw [wdL_at (updN W i x) _ _ hj]
    by_cases he : i = j
    · subst he
      rw [if_pos rfl, wdL_len, if_pos hj]
      unfold updN
      rw [if_pos rfl]
    · rw [if_neg he, wdL_at _ _ _ hj]
      unfold updN
      rw [if_neg (Ne.symm he)]
  · have e1 : (wdL W m)[j]? = none := List.getElem?_eq_none (by rw [wdL_len]; omega)
    have e2 : (wdL (updN W i x) m)[j]? = none := List.getElem?_eq_none (by rw [wdL_len]; omega)
    rw [e1, e2, wdL_len]
    split
    · rw [if_neg (by omega)]
    · rfl
/-- only one block turns -/
structure Only (b : Nat) (w w' : World) : Prop where
  os : w'.os = w.os
  tape : w'.tape = w.tape
  output : w'.output = w.output
  size : w.heap.size ≤ w'.heap.size
  block : ∀ k, k < w.heap.size → k ≠ b → w'.heap[k]? = w.heap[k]?
theorem Only.of_below {b : Nat} {w w' : World} (h : Below w.heap.size w w') : Only b w w' := ⟨h.os, h.tape, h.output, h.size, fun k hk _ => h.block k hk⟩
theorem Only.below {b B : Nat} {w w' : World} (h : Only b w w') (hB : B ≤ w.heap.size) (hb : B ≤ b) : Below B w w' := ⟨h.os, h.tape, h.output, h.size, fun k hk => h.block k (by omega) (by omega)⟩
theorem Only.trans {b b' : Nat} {w v u : World} (h : Only b w v) (k : Only b' v u) (hb : b' = b ∨ w.heap.size ≤ b') : Only b w u :=
  ⟨k.os.trans h.os, k.tape.trans h.tape, k.output.trans h.output, Nat.le_trans h.size k.size, fun j hj hne => (k.block j (Nat.lt_of_lt_of_le hj h.size) fun e => by rcases hb with z | z <;> omega).trans (h.block j hj hne)⟩
theorem Only.set (w : World) (b j : Nat) (x : Value) : Only b w (w.setCell ⟨b, j, none⟩ x) := ⟨rfl, rfl, rfl, by rw [Deep.nblk_setCell]; exact Nat.le_refl _, fun k _ hk => Deep.blk_setCell_other w ⟨b, j, none⟩ x k hk⟩
theorem Only.drew (b : Nat) (w : World) : Only b w w.drew := ⟨rfl, rfl, rfl, Nat.le_refl _, fun _ _ _ => rfl⟩
theorem Only.drewN (b : Nat) (w : World) (m : Nat) : Only b w (w.drewN m) := ⟨rfl, rfl, rfl, Nat.le_refl _, fun _ _ _ => rfl⟩
theorem below_dN {B : Nat} {w0 w : World} (h : Below B w0 w) (n : Nat) : Below B w0 (w.drewN n) := ⟨h.1, h.2, h.3, h.4, h.5⟩

/-- a map of n bits in block g, its words in block b -/
structure BM (w : World) (B g n b c : Nat) (W : Nat → Nat) : Prop where
  n1 : 1 ≤ n
  n2 : n ≤ 8192
  gB : B ≤ g
  cells : Blk w g 97 #[.int .i64 (n : Int), .slice (some ⟨b, 0, none⟩) (16 * lvN n) c]
  row : w.ownsRow B 94 1 (.slice (some ⟨b, 0, none⟩) (16 * lvN n) c) (16 * lvN n) (wdL W (16 * lvN n))
  lt : ∀ i, W i < 18446744073709551616
  tail : ∀ p, n ≤ p → bitF W p = false
section
variable {w w' : World} {B g n b c : Nat} {W : Nat → Nat}
theorem lvN_le (h : n ≤ 8192) : lvN n ≤ 8 := by unfold lvN; omega
theorem lvN_ge : n ≤ 1024 * lvN n := by unfold lvN; omega
theorem lvN_pos (h : 1 ≤ n) : 1 ≤ lvN n := by unfold lvN; omega
theorem BM.glt (h : BM w B g n b c W) : g < w.heap.size := h.cells.lt
theorem BM.blt (h : BM w B g n b c W) : B ≤ b ∧ b < w.heap.size := h.row.lt b rfl
theorem BM.ne (h : BM w B g n b c W) : b ≠ g := by
  rcases h.row.2 with ⟨hn, _⟩ | ⟨g', cap', cur, hv, hb, hg, _⟩
  · cases hn
  · injection hv with hv1 hv2 hv3
    injection hv1 with hv1
    injection hv1 with hv1
    subst hv1
    intro e
    rw [e] at hg
    have := h.cells
    unfold Blk at this
    rw [hg] at this
    injection this with this
    injection this with h1 h2
    exact absurd h2 (by decide)
theorem BM.keep (h : BM w B g n b c W) (hg : w'.heap[g]? = w.heap[g]?) (hb : w'.heap[b]? = w.heap[b]?) : BM w' B g n b c W :=
  ⟨h.n1, h.n2, h.gB, hg.trans h.cells, kown_kept h.row fun k _ hv => by
    have : k = b := by simp [Value.ownBlock] at hv; omega
    subst this
    exact hb, h.lt, h.tail⟩
theorem BM.below (h : BM w B g n b c W) (hb : Below w.heap.size w w') : BM w' B g n b c W := h.keep (hb.block g h.glt) (hb.block b h.blt.2)
theorem BM.only {b' : Nat} (h : BM w B g n b c W) (ho : Only b' w w') (h1 : b' ≠ g) (h2 : b' ≠ b) : BM w' B g n b c W := h.keep (ho.block g h.glt (Ne.symm h1)) (ho.block b h.blt.2 (Ne.symm h2))
theorem BM.dN (h : BM w B g n b c W) (m : Nat) : BM (w.drewN m) B g n b c W := h.keep rfl rfl
theorem BM.mono {B' : Nat} (h : BM w B g n b c W) (hB : B' ≤ B) : BM w B' g n b c W := ⟨h.n1, h.n2, Nat.le_trans hB h.gB, h.cells, kown_mono h.row hB, h.lt, h.tail⟩
theorem BM.congr {V : Nat → Nat} (h : BM w B g n b c W) (hV : ∀ i, V i < 18446744073709551616) (he : ∀ p, bitF V p = bitF W p) : BM w B g n b c V := by
  have : V = W := funext fun i => words_ext hV h.lt he i
  rw [this]
  exact h
theorem BM.c0 (h : BM w B g n b c W) : w.cell? ⟨g, 0, none⟩ = some (.int .i64 (n : Int)) := by rw [h.cells.cell]; rfl
theorem BM.c1 (h : BM w B g n b c W) : w.cell? ⟨g, 1, none⟩ = some (.slice (some ⟨b, 0, none⟩) (16 * lvN n) c) := by rw [h.cells.cell]; rfl
theorem BM.word (h : BM w B g n b c W) {i : Nat} (hi : i < 16 * lvN n) : w.cell? ⟨b, i, none⟩ = some (.int .u64 ((W i : Nat) : Int)) := by
  rw [h.row.cellAt i (by omega), wdL_at _ _ _ hi]
theorem BM.word_in (h : BM w B g n b c W) {p : Nat} (hp : p < n) : p / 64 < 16 * lvN n := by
  have := lvN_ge (n := n)
  omega
theorem BM.frozen (h : BM w B g n b c W) (i : Nat) : w.frozen? ⟨b, i, none⟩ = false := h.row.frozenAt i
/-- a word laid -/
theorem BM.put (h : BM w B g n b c W) {i x : Nat} (hi : i < 16 * lvN n) (hx : x < 18446744073709551616) (ht : ∀ p, n ≤ p → bitF (updN W i x) p = false) : BM (w.setCell ⟨b, i, none⟩ (.int .u64 ((x : Nat) : Int))) B g n b c (updN W i x) :=
  ⟨h.n1, h.n2, h.gB, h.cells.put_other _ _ (Ne.symm h.ne), by
    have := (h.row.stored i (.int .u64 ((x : Nat) : Int))).1
    rw [wdL_set] at this
    exact this, fun j => by unfold updN; split; exact hx; exact h.lt j, ht⟩

theorem bsize_any (w : World) (h : BM w B g n b c W) : Calls Tryd.prog 48 #[.pointer (some ⟨g, 0, none⟩)] w fun e w' => e = .returned (.int .i64 (n : Int)) ∧ w' = w := by
  have c0 := h.c0
  clear h
  go_enter Tryd.func48, Tryd.ntmps48
  go_wp2
  go_ret
  exact ⟨rfl, rfl⟩
theorem inside_yes (w : World) (h : BM w B g n b c W) (p : Nat) (hp : p < n) : Calls Tryd.prog 56 #[.pointer (some ⟨g, 0, none⟩), .int .i64 (p : Int)] w fun e w' => e = .returned (.bool true) ∧ w' = w := by
  have hp' : (p : Int) < (n : Int) := by omega
  have HS : Hid (Calls Tryd.prog 48 #[.pointer (some ⟨g, 0, none⟩)] w fun e w' => e = .returned (.int .i64 (n : Int)) ∧ w' = w) := bsize_any w h
  clear h hp
  go_enter Tryd.func56, Tryd.ntmps56
  go_wp2_with fail
  refine HS.out.mono ?_
  rintro e w' ⟨rfl, rfl⟩
  go_wp2
  go_ret
  exact ⟨by simp [hp'], rfl⟩
theorem inside_no (w : World) (h : BM w B g n b c W) (p : Int) (hp : p < 0 ∨ (n : Int) ≤ p) : Calls Tryd.prog 56 #[.pointer (some ⟨g, 0, none⟩), .int .i64 p] w fun e w' => e = .returned (.bool false) ∧ w' = w := by
  have HS : Hid (Calls Tryd.prog 48 #[.pointer (some ⟨g, 0, none⟩)] w fun e w' => e = .returned (.int .i64 (n : Int)) ∧ w' = w) := bsize_any w h
  clear h
  by_cases h0 : p < 0
  · clear HS
    have h1 : ¬ (0 ≤ p) := by omega
    go_enter Tryd.func56, Tryd.ntmps56
    go_wp2
    go_ret
    exact ⟨rfl, rfl⟩
  · have h1 : 0 ≤ p := by omega
    have h2 : ¬ (p < (n : Int)) := by omega
    go_enter Tryd.func56, Tryd.ntmps56
    go_wp2_with fail
    refine HS.out.mono ?_
    rintro e w' ⟨rfl, rfl⟩
    go_wp2
    go_ret
    exact ⟨by simp [h2], rfl⟩
theorem quo64 (p : Nat) : (p : Int).tdiv 64 = ((p / 64 : Nat) : Int) := by
  rw [Int.tdiv_eq_ediv_of_nonneg (by omega)]; omega
set_option maxHeartbeats 1000000 in
theorem has_yes (w : World) (h : BM w B g n b c W) (p : Nat) (hp : p < n) : Calls Tryd.prog 26 #[.pointer (some ⟨g, 0, none⟩), .int .i64 (p : Int)] w fun e w' => e = .returned (.bool (bitF W p)) ∧ ∃ m, w' = w.drewN m := by
  have c1 := h.c1
  have cw := h.word (h.word_in hp)
  have hq := quo64 p
  have hwq : IntKind.i64.wrap ((p / 64 : Nat) : Int) = ((p / 64 : Nat) : Int) := wrapI64_id _ (by omega) (by have := h.n2; omega)
  have i0 : ((p / 64 : Nat) : Int) < ((16 * lvN n : Nat) : Int) := by have := h.word_in hp; omega
  have HI : Hid (∀ m, Calls Tryd.prog 56 #[.pointer (some ⟨g, 0, none⟩), .int .i64 (p : Int)] (w.drewN m) fun e w' => e = .returned (.bool true) ∧ w' = (w.drewN m)) := fun m => inside_yes _ (h.dN m) p hp
  have HO : Hid (∀ m, Calls Tryd.prog 57 #[.int .i64 (p : Int)] (w.drewN m) fun e w' => e = .returned (.int .u64 ((2 ^ (p % 64) : Nat) : Int)) ∧ w' = (w.drewN m)) := fun m => one_any p (by have := h.n2; omega) _
  have HB : Hid (((bits .and .u64 ((W (p / 64) : Nat) : Int) ((2 ^ (p % 64) : Nat) : Int)) != 0) = bitF W p) := by
    show ((bits .and .u64 ((W (p / 64) : Nat) : Int) ((2 ^ (p % 64) : Nat) : Int)) != 0) = bitF W p
    rw [u64_and_nat _ _ (h.lt _) (pow_lt_u64 _ (by omega))]
    unfold bitF
    rw [bne, and_pow_ne]
    simp
  clear h hp
  generalize p / 64 = q at *
  generalize W q = x at *
  generalize 2 ^ (p % 64) = y at *
  generalize 16 * lvN n = k at *
  go_enter Tryd.func26, Tryd.ntmps26
  go_wp2_with fail
  go_quiet (first
    | (go_at_call 56; exact Calls.quiet_of_same (HI.out _))
    | (go_at_call 57; exact Calls.quiet_of_same (HO.out _)))
  go_wp2_with fail
  go_ret
  exact ⟨by rw [← HB.out]; rfl, _, rfl⟩
theorem has_no (w : World) (h : BM w B g n b c W) (p : Int) (hp : p < 0 ∨ (n : Int) ≤ p) : Calls Tryd.prog 26 #[.pointer (some ⟨g, 0, none⟩), .int .i64 p] w fun e w' => e = .returned (.bool false) ∧ ∃ m, w' = w.drewN m := by
  have HI : Hid (∀ m, Calls Tryd.prog 56 #[.pointer (some ⟨g, 0, none⟩), .int .i64 p] (w.drewN m) fun e w' => e = .returned (.bool false) ∧ w' = (w.drewN m)) := fun m => inside_no _ (h.dN m) p hp
  clear h hp
  go_enter Tryd.func26, Tryd.ntmps26
  go_wp2_with fail
  go_quiet ((go_at_call 56; exact Calls.quiet_of_same (HI.out _)))
  go_wp2_with fail
  go_ret
  exact ⟨rfl, _, rfl⟩
set_option maxHeartbeats 2000000 in
theorem set_new (w : World) (h : BM w B g n b c W) (p : Nat) (hp : p < n) (hf : bitF W p = false) : Calls Tryd.prog 43 #[.pointer (some ⟨g, 0, none⟩), .int .i64 (p : Int)] w fun e w' => e = .returned (.bool true) ∧ BM w' B g n b c (putW W p) ∧ Only b w w' := by
  have hq := quo64 p
  have hwq : IntKind.i64.wrap ((p / 64 : Nat) : Int) = ((p / 64 : Nat) : Int) := wrapI64_id _ (by omega) (by have := h.n2; omega)
  have i0 : ((p / 64 : Nat) : Int) < ((16 * lvN n : Nat) : Int) := by have := h.word_in hp; omega
  have HI : Hid (Calls Tryd.prog 56 #[.pointer (some ⟨g, 0, none⟩), .int .i64 (p : Int)] w fun e w' => e = .returned (.bool true) ∧ w' = w) := inside_yes _ h p hp
  have HH : Hid (Calls Tryd.prog 26 #[.pointer (some ⟨g, 0, none⟩), .int .i64 (p : Int)] w fun e w' => e = .returned (.bool (bitF W p)) ∧ ∃ m, w' = w.drewN m) := has_yes w h p hp
  have HO : Hid (∀ w : World, Calls Tryd.prog 57 #[.int .i64 (p : Int)] w fun e w' => e = .returned (.int .u64 ((2 ^ (p % 64) : Nat) : Int)) ∧ w' = w) := fun w => one_any p (by have := h.n2; omega) _
  have HV : Hid (bits .or .u64 ((W (p / 64) : Nat) : Int) ((2 ^ (p % 64) : Nat) : Int) = ((putW W p (p / 64) : Nat) : Int)) := by
    show bits .or .u64 ((W (p / 64) : Nat) : Int) ((2 ^ (p % 64) : Nat) : Int) = ((putW W p (p / 64) : Nat) : Int)
    rw [u64_or_nat _ _ (h.lt _) (pow_lt_u64 _ (by omega))]
    unfold putW updN
    rw [if_pos rfl]

  have HP : Hid (∀ V : World, BM V B g n b c W → BM (V.setCell ⟨b, p / 64, none⟩ (.int .u64 ((putW W p (p / 64) : Nat) : Int))) B g n b c (putW W p)) := fun V hV => by
    have e : putW W p = updN W (p / 64) (putW W p (p / 64)) := by
      unfold putW
      funext i
      unfold updN
      split <;> simp_all
    have ht : ∀ r, n ≤ r → bitF (putW W p) r = false := fun r hr => by
      rw [bitF_put, hV.tail r hr]
      simp; omega
    rw [e] at ht
    have := hV.put (hV.word_in hp) (putW_lt hV.lt p (p / 64)) ht
    rw [← e] at this
    exact this
  rw [hf] at HH
  generalize hw' : putW W p = W' at *
  clear hw' hf
  go_enter Tryd.func43, Tryd.ntmps43
  go_wp2_with fail
  refine HI.out.mono ?_
  rintro e w1 ⟨rfl, rfl⟩
  go_wp2_with fail
  refine HH.out.mono ?_
  rintro e w2 ⟨rfl, md, rfl⟩
  go_wp2_with fail
  have h1 : BM (w1.drewN md).drew B g n b c W := h.keep rfl rfl
  have ho1 : Only b w1 (w1.drewN md).drew := (Only.drewN _ _ _).trans (Only.drew b _) (.inl rfl)
  have cw := h1.word (h1.word_in hp)
  have cf := h1.frozen (p / 64)
  have c1 := h1.c1
  clear HI HH h hp
  generalize (w1.drewN md) = v at *
  generalize p / 64 = q at *
  generalize hx : W q = x at *
  clear hx
  generalize W' q = x' at *
  generalize 2 ^ (p % 64) = y at *
  generalize hk : 16 * lvN n = k at *
  clear hk
  have S0 : v.drew.cell? ⟨g, 1, none⟩ = some (.slice (some ⟨b, 0, none⟩) k c) ∧ v.drew.cell? ⟨b, q, none⟩ = some (.int .u64 (x : Int)) ∧ v.drew.frozen? ⟨b, q, none⟩ = false ∧ BM v.drew B g n b c W ∧ Only b w1 v.drew := ⟨c1, cw, cf, h1, ho1⟩
  clear c1 cw cf h1 ho1
  refine wp_region_partsS (fun V => V.cell? ⟨g, 1, none⟩ = some (.slice (some ⟨b, 0, none⟩) k c) ∧ V.cell? ⟨b, q, none⟩ = some (.int .u64 (x : Int)) ∧ V.frozen? ⟨b, q, none⟩ = false ∧ BM V B g n b c W ∧ Only b w1 V) [([0, 4, 8], 1, true), ([], 2, true), ([], 3, true), ([], 5, true), ([6], 7, true), ([], 9, false), ([], 10, false)] [11] [12] (by kernel_rfl) (by kernel_rfl) S0 (partsI_yield ?_)
  simp only [List.cons_append, List.nil_append, List.append_nil, List.filterMap_cons, List.filterMap_nil, List.getElem?_toArray, List.getElem?_cons_zero, List.getElem?_cons_succ]
  go_wp2_with fail
  refine ⟨rfl, _, .pointer (some ⟨g, 0, none⟩), rfl, Or.inl ⟨by rfl, fun W hW => by go_simp⟩, partsI_yield ?_⟩
  simp only [Act.put, List.setIfInBounds_toArray, List.set_cons_zero, List.set_cons_succ]
  simp only [List.cons_append, List.nil_append, List.append_nil, List.filterMap_cons, List.filterMap_nil, List.getElem?_toArray, List.getElem?_cons_zero, List.getElem?_cons_succ]
  go_wp2_with fail
  refine ⟨rfl, _, .pointer (some ⟨g, 1, none⟩), rfl, Or.inl ⟨by rfl, fun W hW => by go_simp⟩, partsI_yield ?_⟩
  simp only [Act.put, List.setIfInBounds_toArray, List.set_cons_zero, List.set_cons_succ]
  simp only [List.cons_append, List.nil_append, List.append_nil, List.filterMap_cons, List.filterMap_nil, List.getElem?_toArray, List.getElem?_cons_zero, List.getElem?_cons_succ]
  go_wp2_with fail
  refine ⟨rfl, _, .slice (some ⟨b, 0, none⟩) k c, rfl, Or.inl ⟨by rfl, fun W hW => by have c1 := hW.1; go_simp⟩, partsI_yield ?_⟩
  simp only [Act.put, List.setIfInBounds_toArray, List.set_cons_zero, List.set_cons_succ]
  simp only [List.cons_append, List.nil_append, List.append_nil, List.filterMap_cons, List.filterMap_nil, List.getElem?_toArray, List.getElem?_cons_zero, List.getElem?_cons_succ]
  go_wp2_with fail
  refine ⟨rfl, _, .int .i64 (q : Int), rfl, Or.inl ⟨by rfl, fun W hW => by go_simp⟩, partsI_yield ?_⟩
  simp only [Act.put, List.setIfInBounds_toArray, List.set_cons_zero, List.set_cons_succ]
  simp only [List.cons_append, List.nil_append, List.append_nil, List.filterMap_cons, List.filterMap_nil, List.getElem?_toArray, List.getElem?_cons_zero, List.getElem?_cons_succ]
  go_wp2_with fail
  refine ⟨rfl, _, .int .u64 (x : Int), rfl, Or.inl ⟨by rfl, fun W hW => by have c1 := hW.2.1; go_simp⟩, partsI_force ?_⟩
  simp only [Act.put, List.setIfInBounds_toArray, List.set_cons_zero, List.set_cons_succ]
  simp only [List.cons_append, List.nil_append, List.append_nil, List.filterMap_cons, List.filterMap_nil, List.getElem?_toArray, List.getElem?_cons_zero, List.getElem?_cons_succ]
  go_wp2_with fail
  refine (HO.out _).mono ?_
  rintro e w2 ⟨rfl, rfl⟩
  go_wp2_with fail
  refine ⟨rfl, S0, partsI_force ?_⟩
  simp only [List.cons_append, List.nil_append, List.append_nil, List.filterMap_cons, List.filterMap_nil, List.getElem?_toArray, List.getElem?_cons_zero, List.getElem?_cons_succ]
  go_wp2_with fail
  refine ⟨rfl, S0, partsI_last ?_⟩
  simp only [List.cons_append, List.nil_append, List.append_nil, List.filterMap_cons, List.filterMap_nil, List.getElem?_toArray, List.getElem?_cons_zero, List.getElem?_cons_succ]
  rw [HV.out]
  obtain ⟨c1, cw, cf, h1, ho1⟩ := S0
  have h2 := HP.out v.drew h1
  have ho2 := ho1.trans (Only.set v.drew b q (.int .u64 (x' : Int))) (.inl rfl)
  clear HP HO HV h1 ho1
  go_wp2_with fail
  refine ⟨rfl, ?_⟩
  go_wp2_with fail
  go_ret
  exact ⟨rfl, h2, ho2⟩
set_option maxHeartbeats 2000000 in
theorem clear_one (w : World) (h : BM w B g n b c W) (p : Nat) (hp : p < n) (hf : bitF W p = true) : Calls Tryd.prog 44 #[.pointer (some ⟨g, 0, none⟩), .int .i64 (p : Int)] w fun e w' => e = .returned (.bool true) ∧ BM w' B g n b c (clrW W p) ∧ Only b w w' := by
  have hq := quo64 p
  have hwq : IntKind.i64.wrap ((p / 64 : Nat) : Int) = ((p / 64 : Nat) : Int) := wrapI64_id _ (by omega) (by have := h.n2; omega)
  have i0 : ((p / 64 : Nat) : Int) < ((16 * lvN n : Nat) : Int) := by have := h.word_in hp; omega
  have HH : Hid (Calls Tryd.prog 26 #[.pointer (some ⟨g, 0, none⟩), .int .i64 (p : Int)] w fun e w' => e = .returned (.bool (bitF W p)) ∧ ∃ m, w' = w.drewN m) := has_yes w h p hp
  have HO : Hid (∀ w : World, Calls Tryd.prog 57 #[.int .i64 (p : Int)] w fun e w' => e = .returned (.int .u64 ((2 ^ (p % 64) : Nat) : Int)) ∧ w' = w) := fun w => one_any p (by have := h.n2; omega) _
  have HV : Hid (bits .andNot .u64 ((W (p / 64) : Nat) : Int) ((2 ^ (p % 64) : Nat) : Int) = ((clrW W p (p / 64) : Nat) : Int)) := by
    show bits .andNot .u64 ((W (p / 64) : Nat) : Int) ((2 ^ (p % 64) : Nat) : Int) = ((clrW W p (p / 64) : Nat) : Int)
    rw [u64_andNot_nat _ _ (h.lt _) (pow_lt_u64 _ (by omega))]
    unfold clrW updN
    rw [if_pos rfl]
    rfl
  have HP : Hid (∀ V : World, BM V B g n b c W → BM (V.setCell ⟨b, p / 64, none⟩ (.int .u64 ((clrW W p (p / 64) : Nat) : Int))) B g n b c (clrW W p)) := fun V hV => by
    have e : clrW W p = updN W (p / 64) (clrW W p (p / 64)) := by
      unfold clrW
      funext i
      unfold updN
      split <;> simp_all
    have ht : ∀ r, n ≤ r → bitF (clrW W p) r = false := fun r hr => by
      rw [bitF_clr, hV.tail r hr]
      simp
    rw [e] at ht
    have := hV.put (hV.word_in hp) (clrW_lt hV.lt p (p / 64)) ht
    rw [← e] at this
    exact this
  rw [hf] at HH
  generalize hw' : clrW W p = W' at *
  clear hw' hf
  go_enter Tryd.func44, Tryd.ntmps44
  go_wp2_with fail
  refine HH.out.mono ?_
  rintro e w2 ⟨rfl, md, rfl⟩
  go_wp2_with fail
  have h1 : BM (w.drewN md).drew B g n b c W := h.keep rfl rfl
  have ho1 : Only b w (w.drewN md).drew := (Only.drewN _ _ _).trans (Only.drew b _) (.inl rfl)
  have cw := h1.word (h1.word_in hp)
  have cf := h1.frozen (p / 64)
  have c1 := h1.c1
  clear HH h hp
  generalize (w.drewN md) = v at *
  generalize p / 64 = q at *
  generalize hx : W q = x at *
  clear hx
  generalize W' q = x' at *
  generalize 2 ^ (p % 64) = y at *
  generalize hk : 16 * lvN n = k at *
  clear hk
  have S0 : v.drew.cell? ⟨g, 1, none⟩ = some (.slice (some ⟨b, 0, none⟩) k c) ∧ v.drew.cell? ⟨b, q, none⟩ = some (.int .u64 (x : Int)) ∧ v.drew.frozen? ⟨b, q, none⟩ = false ∧ BM v.drew B g n b c W ∧ Only b w v.drew := ⟨c1, cw, cf, h1, ho1⟩
  clear c1 cw cf h1 ho1
  refine wp_region_partsS (fun V => V.cell? ⟨g, 1, none⟩ = some (.slice (some ⟨b, 0, none⟩) k c) ∧ V.cell? ⟨b, q, none⟩ = some (.int .u64 (x : Int)) ∧ V.frozen? ⟨b, q, none⟩ = false ∧ BM V B g n b c W ∧ Only b w V) [([0, 4, 8], 1, true), ([], 2, true), ([], 3, true), ([], 5, true), ([6], 7, true), ([], 9, false), ([], 10, false)] [11] [12] (by kernel_rfl) (by kernel_rfl) S0 (partsI_yield ?_)
  simp only [List.cons_append, List.nil_append, List.append_nil, List.filterMap_cons, List.filterMap_nil, List.getElem?_toArray, List.getElem?_cons_zero, List.getElem?_cons_succ]
  go_wp2_with fail
  refine ⟨rfl, _, .pointer (some ⟨g, 0, none⟩), rfl, Or.inl ⟨by rfl, fun W hW => by go_simp⟩, partsI_yield ?_⟩
  simp only [Act.put, List.setIfInBounds_toArray, List.set_cons_zero, List.set_cons_succ]
  simp only [List.cons_append, List.nil_append, List.append_nil, List.filterMap_cons, List.filterMap_nil, List.getElem?_toArray, List.getElem?_cons_zero, List.getElem?_cons_succ]
  go_wp2_with fail
  refine ⟨rfl, _, .pointer (some ⟨g, 1, none⟩), rfl, Or.inl ⟨by rfl, fun W hW => by go_simp⟩, partsI_yield ?_⟩
  simp only [Act.put, List.setIfInBounds_toArray, List.set_cons_zero, List.set_cons_succ]
  simp only [List.cons_append, List.nil_append, List.append_nil, List.filterMap_cons, List.filterMap_nil, List.getElem?_toArray, List.getElem?_cons_zero, List.getElem?_cons_succ]
  go_wp2_with fail
  refine ⟨rfl, _, .slice (some ⟨b, 0, none⟩) k c, rfl, Or.inl ⟨by rfl, fun W hW => by have c1 := hW.1; go_simp⟩, partsI_yield ?_⟩
  simp only [Act.put, List.setIfInBounds_toArray, List.set_cons_zero, List.set_cons_succ]
  simp only [List.cons_append, List.nil_append, List.append_nil, List.filterMap_cons, List.filterMap_nil, List.getElem?_toArray, List.getElem?_cons_zero, List.getElem?_cons_succ]
  go_wp2_with fail
  refine ⟨rfl, _, .int .i64 (q : Int), rfl, Or.inl ⟨by rfl, fun W hW => by go_simp⟩, partsI_yield ?_⟩
  simp only [Act.put, List.setIfInBounds_toArray, List.set_cons_zero, List.set_cons_succ]
  simp only [List.cons_append, List.nil_append, List.append_nil, List.filterMap_cons, List.filterMap_nil, List.getElem?_toArray, List.getElem?_cons_zero, List.getElem?_cons_succ]
  go_wp2_with fail
  refine ⟨rfl, _, .int .u64 (x : Int), rfl, Or.inl ⟨by rfl, fun W hW => by have c1 := hW.2.1; go_simp⟩, partsI_force ?_⟩
  simp only [Act.put, List.setIfInBounds_toArray, List.set_cons_zero, List.set_cons_succ]
  simp only [List.cons_append, List.nil_append, List.append_nil, List.filterMap_cons, List.filterMap_nil, List.getElem?_toArray, List.getElem?_cons_zero, List.getElem?_cons_succ]
  go_wp2_with fail
  refine (HO.out _).mono ?_
  rintro e w2 ⟨rfl, rfl⟩
  go_wp2_with fail
  refine ⟨rfl, S0, partsI_force ?_⟩
  simp only [List.cons_append, List.nil_append, List.append_nil, List.filterMap_cons, List.filterMap_nil, List.getElem?_toArray, List.getElem?_cons_zero, List.getElem?_cons_succ]
  go_wp2_with fail
  refine ⟨rfl, S0, partsI_last ?_⟩
  simp only [List.cons_append, List.nil_append, List.append_nil, List.filterMap_cons, List.filterMap_nil, List.getElem?_toArray, List.getElem?_cons_zero, List.getElem?_cons_succ]
  rw [HV.out]
  obtain ⟨c1, cw, cf, h1, ho1⟩ := S0
  have h2 := HP.out v.drew h1
  have ho2 := ho1.trans (Only.set v.drew b q (.int .u64 (x' : Int))) (.inl rfl)
  clear HP HO HV h1 ho1
  go_wp2_with fail
  refine ⟨rfl, ?_⟩
  go_wp2_with fail
  go_ret
  exact ⟨rfl, h2, ho2⟩
/-- a place that is one, or none: nothing happens -/
theorem set_not (w : World) (h : BM w B g n b c W) (p : Int) (hp : p < 0 ∨ (n : Int) ≤ p ∨ (0 ≤ p ∧ p < n ∧ bitF W p.toNat = true)) : Calls Tryd.prog 43 #[.pointer (some ⟨g, 0, none⟩), .int .i64 p] w fun e w' => e = .returned (.bool false) ∧ ∃ m, w' = w.drewN m := by
  by_cases h0 : p < 0 ∨ (n : Int) ≤ p
  · have HI : Hid (Calls Tryd.prog 56 #[.pointer (some ⟨g, 0, none⟩), .int .i64 p] w fun e w' => e = .returned (.bool false) ∧ w' = w) := inside_no _ h p h0
    clear h hp
    go_enter Tryd.func43, Tryd.ntmps43
    go_wp2_with fail
    refine HI.out.mono ?_
    rintro e w' ⟨rfl, rfl⟩
    go_wp2
    go_ret
    exact ⟨rfl, 0, rfl⟩
  · obtain ⟨q, rfl⟩ := Int.eq_ofNat_of_zero_le (a := p) (by omega)
    have hq : q < n := by omega
    have hf : bitF W q = true := by
      rcases hp with z | z | z
      · omega
      · omega
      · simpa using z.2.2
    have HI : Hid (Calls Tryd.prog 56 #[.pointer (some ⟨g, 0, none⟩), .int .i64 (q : Int)] w fun e w' => e = .returned (.bool true) ∧ w' = w) := inside_yes _ h q hq
    have HH : Hid (Calls Tryd.prog 26 #[.pointer (some ⟨g, 0, none⟩), .int .i64 (q : Int)] w fun e w' => e = .returned (.bool (bitF W q)) ∧ ∃ m, w' = w.drewN m) := has_yes w h q hq
    rw [hf] at HH
    clear h hp hf h0 hq
    go_enter Tryd.func43, Tryd.ntmps43
    go_wp2_with fail
    refine HI.out.mono ?_
    rintro e w' ⟨rfl, rfl⟩
    go_wp2_with fail
    refine HH.out.mono ?_
    rintro e w2 ⟨rfl, md, rfl⟩
    go_wp2
    go_ret
    exact ⟨rfl, md, rfl⟩
theorem clear_not (w : World) (h : BM w B g n b c W) (p : Int) (hp : p < 0 ∨ (n : Int) ≤ p ∨ (0 ≤ p ∧ p < n ∧ bitF W p.toNat = false)) : Calls Tryd.prog 44 #[.pointer (some ⟨g, 0, none⟩), .int .i64 p] w fun e w' => e = .returned (.bool false) ∧ ∃ m, w' = w.drewN m := by
  have HH : Hid (Calls Tryd.prog 26 #[.pointer (some ⟨g, 0, none⟩), .int .i64 p] w fun e w' => e = .returned (.bool false) ∧ ∃ m, w' = w.drewN m) := by
    by_cases h0 : p < 0 ∨ (n : Int) ≤ p
    · exact has_no w h p h0
    · obtain ⟨q, rfl⟩ := Int.eq_ofNat_of_zero_le (a := p) (by omega)
      have hf : bitF W q = false := by
        rcases hp with z | z | z
        · omega
        · omega
        · simpa using z.2.2
      have := has_yes w h q (by omega)
      rw [hf] at this
      exact this
  clear h hp
  go_enter Tryd.func44, Tryd.ntmps44
  go_wp2_with fail
  refine HH.out.mono ?_
  rintro e w2 ⟨rfl, md, rfl⟩
  go_wp2
  go_ret
  exact ⟨rfl, md, rfl⟩
/-- Set, Clear of a place -/
theorem set_in (w : World) (h : BM w B g n b c W) (p : Nat) (hp : p < n) : Calls Tryd.prog 43 #[.pointer (some ⟨g, 0, none⟩), .int .i64 (p : Int)] w fun e w' => e = .returned (.bool (!bitF W p)) ∧ BM w' B g n b c (putW W p) ∧ Only b w w' := by
  cases hf : bitF W p
  · exact set_new w h p hp hf
  · refine (set_not w h p (.inr (.inr ⟨by omega, by omega, by simpa using hf⟩))).mono ?_
    rintro e w' ⟨rfl, m, rfl⟩
    refine ⟨rfl, (h.dN m).congr (putW_lt h.lt p) fun q => ?_, Only.drewN _ _ _⟩
    rw [bitF_put]
    by_cases hq : q = p
    · rw [hq, hf]; simp
    · simp [hq]
end
end Go.Proofs.YtkpcgijdokhjkaaDoor

namespace Go.Proofs.YtkpcgijdokhjkaaDoor
open Go.RowKit
set_option linter.unusedSimpArgs false
set_option linter.unusedVariables false

def Fit (a m : Int) : Prop := 0 ≤ a ∧ 0 ≤ m ∧ a ≤ 256 - m
instance (a m : Int) : Decidable (Fit a m) := by unfold Fit; infer_instance

end Go.Proofs.YtkpcgijdokhjkaaDoor

namespace Go.Proofs.YtkpcgijdokhjkaaDoor
open Go Go.RowKit
set_option linter.unusedVariables false

/-- the slice at a of n blocks, told by L -/
def IsBlks (w : World) (a : Option Addr) (n : Nat) (L : Nat → Nat → Nat) : Prop :=
  ∀ i, i < n → ∃ b o, a = some ⟨b, o, none⟩ ∧ b < w.heap.size ∧ w.rangeAt b (o + i * 256) ((List.range 256).map (iv .u8 (L i)))
theorem range_below {w w' : World} {B b o : Nat} {cs : List Value} (h : w.rangeAt b o cs) (hb : Below B w w') (hB : b < B) : w'.rangeAt b o cs := fun j v hv => by
  rw [← h j v hv]
  simp [World.cell?, hb.block b hB]
theorem IsBlks.below {w w' : World} {a : Option Addr} {n : Nat} {L : Nat → Nat → Nat} (h : IsBlks w a n L) (hb : Below w.heap.size w w') : IsBlks w' a n L := fun i hi => by
  obtain ⟨b, o, e, h1, h2⟩ := h i hi
  exact ⟨b, o, e, Nat.lt_of_lt_of_le h1 hb.size, range_below h2 hb h1⟩
end Go.Proofs.YtkpcgijdokhjkaaDoor

namespace Go.Proofs.YtkpcgijdokhjkaaDoor
open Go Go.RowKit
set_option linter.unusedVariables false
set_option linter.unusedSimpArgs false

theorem made_one1 (v : Value) (n : Nat) : madeCells #[v] n = va n fun _ => v := by
  refine va_ext (size_madeCells _ _) fun i hi => ?_
  unfold madeCells
  simp [hi, Nat.mod_one]
theorem infoU64 : (Tryd.prog.info? 94).map (fun i => (i.zero, i.size, i.bytes)) = some (some (.int .u64 0), 1, 8) := by kernel_rfl
theorem make_words (n : Nat) (hn : n ≤ 8192) (w : World) : (Instr.makeSlice 95 (.int .i64 (n : Int)) (.int .i64 (n : Int))).run Tryd.prog w = .ok (.slice (some ⟨w.heap.size, 0, none⟩) n n) (w.alloc (.cells (va n fun _ => .int .u64 0) 94)) := by
  obtain ⟨i0, hi, hz0, hz1, hz2⟩ := info_parts infoU64
  have := run_make (P := Tryd.prog) w 95 94 i0 (.int .u64 0) Tryd.underlying95 hi hz0 .i64 .i64 (n : Int) (n : Int) (by omega) (Int.le_refl _) (by rw [hz2]; omega) (by omega)
  rw [hz1] at this
  simp only [Int.toNat_natCast, Value.cells, made_one1, Nat.mul_one] at this
  exact this
theorem own_made1 {w : World} {g t n : Nat} {f : Nat → Value} (h : Blk w g t (va n f)) (hn : n ≤ 8192) (B : Nat) (hB : B ≤ g) : w.ownsRow B t 1 (.slice (some ⟨g, 0, none⟩) n n) n ((List.range n).map f) :=
  ⟨by simp, .inr ⟨g, n, _, rfl, hB, h, Nat.le_refl _, by unfold maxLen; omega, by rw [va_size, Nat.mul_one], by rw [va_toList, List.take_of_length_le (by simp)]⟩⟩
theorem bitF_zero (p : Nat) : bitF (fun _ => 0) p = false := by simp [bitF]
set_option maxHeartbeats 1000000 in
theorem newM_ok (n : Nat) (h1 : 1 ≤ n) (h2 : n ≤ 8192) (w : World) : Calls Tryd.prog 53 #[.int .i64 (n : Int)] w fun e w' => ∃ g b c, e = .returned (.tuple #[.pointer (some ⟨g, 0, none⟩), .int .i64 0]) ∧ BM w' w.heap.size g n b c (fun _ => 0) ∧ Below w.heap.size w w' := by
  have a1 : ¬ ((n : Int) < 1) := by omega
  have a2 : ¬ ((8192 : Int) < (n : Int)) := by omega
  have hl := lvN_le h2
  have hm : wrap64 ((lvN n : Int) * 16) = ((16 * lvN n : Nat) : Int) := by rw [w64, wrapI64_id _ (by omega) (by omega)]; omega
  have hk := make_words (16 * lvN n) (by omega)
  have HF : Hid (∀ w : World, BM ((w.alloc (.cells (va (16 * lvN n) fun _ => .int .u64 0) 94)).alloc (.cells #[.int .i64 (n : Int), .slice (some ⟨w.heap.size, 0, none⟩) (16 * lvN n) (16 * lvN n)] 97)) w.heap.size (w.heap.size + 1) n w.heap.size (16 * lvN n) (fun _ => 0)) := fun w =>
    ⟨h1, h2, by omega, Blk.new1 _ _ _ _, own_made1 (f := iv .u64 fun _ => 0) ((Blk.new _ _ _).alloc _) (by omega) _ (Nat.le_refl _), fun _ => by decide, fun p _ => bitF_zero p⟩
  clear hl
  generalize 16 * lvN n = k at *
  go_enter Tryd.func53, Tryd.ntmps53
  go_wp2_with fail
  refine (leaves_any n h2 _).mono ?_
  rintro e w1 ⟨rfl, rfl⟩
  go_wp2_with fail
  go_ret2
  exact ⟨_, _, _, rfl, HF.out w1, below_new2 _ _ _⟩
theorem bi_append_at {P : Program} {ops : Array Oper} {rest : List Oper} {o : Oper} {a : Act} {w : World} {Q : Exit → Act → World → Prop} (hgd : o.guard = none) (s x : Operand) (t : TypeId)
    (ho : o.op = .call { callee := .builtin .append, args := #[s, x], argTypes := #[t, t] })
    (base : Nat) (e : TypeId) (i : TypeInfo) (z : Value) (size bytes : Nat) (ht : P.underlying t = some (.slice e)) (hi : P.info? e = some i) (hz : i.zero = some z)
    (hsize : i.size = size) (hby : i.bytes = bytes) (hzs : z.cells.size = size) (hsz : 0 < size)
    (v : Value) (n : Nat) (xs : List Value) (hs : a.eval s = v) (hown : w.ownsRow base e size v n xs)
    (ad : Addr) (m c : Nat) (news : List Value) (hx : a.eval x = .slice (some ad) m c) (hl : news.length = m * size) (hnews : ∀ j u, news[j]? = some u → w.cell? (ad.add j) = some u) (h1 : ∀ u ∈ news, u.oneCell' = true)
    (h63 : n + m ≤ maxLen) (hbytes : (n + m) * bytes ≤ 140737488355328) (hbase : base ≤ w.heap.size)
    (h : ∀ v' w', w'.ownsRow base e size v' (n + m) (xs ++ news) → w.grownBy w' v.ownBlock → (v'.ownBlock = v.ownBlock ∨ v'.ownBlock = some w.heap.size) → wpList P ops Q rest (a.put o.dst v') w') :
    wpList P ops Q (o :: rest) a w := by
  obtain ⟨v', w', hr, g1, g2, g3, g4⟩ := run_append_own_at (P := P) w base t o.type e i z size bytes ht hi hz hsize hby hzs hsz v n xs hown ad m c news hl hnews h1 h63 hbytes hbase
  refine wpList_plain hgd fun K hK => ?_
  unfold Oper.wp
  simp [execOp, ho, resolve, invoke, builtin, hs, hx, hr, Result.andThen]
  exact hK _ _ (h v' w' g1 g2 g4)
theorem nil_words_in (d : Nat) (p : Option Addr) (n cap : Nat) (w : World) : (Op.equalIn (d + 1) 95 (.slice p n cap) (.slice none 0 0)).run Tryd.prog w = .ok p.isNone w := by
  cases p <;> simp [Op.equalIn, run_underlying Tryd.underlying95]
theorem nil_words (p : Option Addr) (n cap : Nat) (w : World) : Sem.run Tryd.prog (binOp .eql 95 (.slice p n cap) (.slice none 0 0)) w = .ok (.bool p.isNone) w := by
  simp only [binOp]
  simp [show Op.equal 95 (.slice p n cap) (.slice none 0 0) = Op.equalIn (9999 + 1) 95 (.slice p n cap) (.slice none 0 0) from rfl, nil_words_in 9999 p n cap w]
set_option maxHeartbeats 2000000 in
theorem cloneWords_any (B n b cap : Nat) (hn : n ≤ 8192) (hn0 : 0 < n) (xs : List Value) (hone : ∀ u ∈ xs, u.oneCell' = true) (w : World) (h : w.ownsRow B 94 1 (.slice (some ⟨b, 0, none⟩) n cap) n xs) :
    Calls Tryd.prog 62 #[.slice (some ⟨b, 0, none⟩) n cap] w fun e w' => ∃ b' c, e = .returned (.slice (some ⟨b', 0, none⟩) n c) ∧ w'.ownsRow w.heap.size 94 1 (.slice (some ⟨b', 0, none⟩) n c) n xs ∧ Below w.heap.size w w' := by
  obtain ⟨i0, hi, hz0, hz1, hz2⟩ := info_parts infoU64
  have hq := nil_words (some ⟨b, 0, none⟩) n cap
  have HC : Hid (∀ j u, xs[j]? = some u → (w.alloc (.cells #[] 94)).cell? ((⟨b, 0, none⟩ : Addr).add j) = some u) := (h.alloc _).cells rfl
  have HO : Hid ((w.alloc (.cells #[] 94)).ownsRow w.heap.size 94 1 (.slice (some ⟨w.heap.size, 0, none⟩) 0 0) 0 []) := World.ownsRow_lit w #[] 0 (Nat.le_refl _) (by decide) rfl
  have hl := h.1
  go_enter Tryd.func62, Tryd.ntmps62
  go_wp2_with (first
    | (at_builtin; refine bi_append_at rfl _ _ 95 rfl w.heap.size 94 i0 (.int .u64 0) 1 8 Tryd.underlying95 hi hz0 hz1 hz2 rfl (by decide) _ _ _ rfl HO.out ⟨b, 0, none⟩ n cap xs rfl hl HC.out hone (by unfold maxLen; omega) (by omega) (by simp) ?_)
    | go_in)
  intro v2 w2 hown2 hgrow2 _
  have hb2 : Below w.heap.size w w2 := ((Below.refl _ _).alloc (Nat.le_refl _) _).grown hgrow2 (by simp) (fun k hk => by simp [Value.ownBlock] at hk; omega)
  obtain ⟨va0, vc0, hve, _⟩ := kown_form hown2 (by omega)
  subst hve
  go_wp2_with fail
  go_ret
  exact ⟨_, _, rfl, hown2, hb2⟩
section
variable {B g n b c : Nat} {W : Nat → Nat}
set_option maxHeartbeats 2000000 in
theorem bclone_any (w : World) (h : BM w B g n b c W) : Calls Tryd.prog 39 #[.pointer (some ⟨g, 0, none⟩)] w fun e w' => ∃ g' b' c', e = .returned (.pointer (some ⟨g', 0, none⟩)) ∧ BM w' w.heap.size g' n b' c' W ∧ Below w.heap.size w w' := by
  have hl := lvN_le h.n2
  have hl1 := lvN_pos h.n1
  have HC : Hid (∀ V : World, BM V B g n b c W → Calls Tryd.prog 62 #[.slice (some ⟨b, 0, none⟩) (16 * lvN n) c] V fun e w' => ∃ b' c', e = .returned (.slice (some ⟨b', 0, none⟩) (16 * lvN n) c') ∧ w'.ownsRow V.heap.size 94 1 (.slice (some ⟨b', 0, none⟩) (16 * lvN n) c') (16 * lvN n) (wdL W (16 * lvN n)) ∧ Below V.heap.size V w') := fun V hV => cloneWords_any B (16 * lvN n) b c (by omega) (by omega) _ (wdL_one _ _) V hV.row
  have HF : Hid (∀ (V : World) (b' c' : Nat), V.ownsRow w.heap.size 94 1 (.slice (some ⟨b', 0, none⟩) (16 * lvN n) c') (16 * lvN n) (wdL W (16 * lvN n)) → w.heap.size ≤ V.heap.size → BM (V.alloc (.cells #[.int .i64 (n : Int), .slice (some ⟨b', 0, none⟩) (16 * lvN n) c'] 97)) w.heap.size V.heap.size n b' c' W) := fun V b' c' hr hs => ⟨h.n1, h.n2, hs, Blk.new _ _ _, hr.alloc _, h.lt, h.tail⟩
  clear hl hl1
  go_enter Tryd.func39, Tryd.ntmps39
  go_wp2_with fail
  have c1 : w.drew.cell? ⟨g, 1, none⟩ = some (.slice (some ⟨b, 0, none⟩) (16 * lvN n) c) := h.c1
  generalize 16 * lvN n = k at *
  have S0 : w.drew.cell? ⟨g, 0, none⟩ = some (.int .i64 (n : Int)) ∧ BM w.drew B g n b c W ∧ Below w.heap.size w w.drew := ⟨h.c0, h.keep rfl rfl, (Below.refl _ _).drew⟩
  refine wp_region_partsS (fun V => V.cell? ⟨g, 0, none⟩ = some (.int .i64 (n : Int)) ∧ BM V B g n b c W ∧ Below w.heap.size w V) [([0, 4], 1, true), ([], 2, true), ([], 3, true), ([], 5, false), ([], 6, false), ([], 7, false), ([], 8, false), ([], 9, false), ([], 10, false)] [11] [] (by kernel_rfl) (by kernel_rfl) S0 (partsI_yield ?_)
  simp only [List.cons_append, List.nil_append, List.append_nil, List.filterMap_cons, List.filterMap_nil, List.getElem?_toArray, List.getElem?_cons_zero, List.getElem?_cons_succ]
  go_wp2_with fail
  refine ⟨rfl, _, .pointer (some ⟨g, 0, none⟩), rfl, Or.inl ⟨by rfl, fun W hW => by go_simp⟩, partsI_yield ?_⟩
  simp only [Act.put, List.setIfInBounds_toArray, List.set_cons_zero, List.set_cons_succ]
  simp only [List.cons_append, List.nil_append, List.append_nil, List.filterMap_cons, List.filterMap_nil, List.getElem?_toArray, List.getElem?_cons_zero, List.getElem?_cons_succ]
  go_wp2_with fail
  refine ⟨rfl, _, .pointer (some ⟨g, 0, none⟩), rfl, Or.inl ⟨by rfl, fun W hW => by go_simp⟩, partsI_yield ?_⟩
  simp only [Act.put, List.setIfInBounds_toArray, List.set_cons_zero, List.set_cons_succ]
  simp only [List.cons_append, List.nil_append, List.append_nil, List.filterMap_cons, List.filterMap_nil, List.getElem?_toArray, List.getElem?_cons_zero, List.getElem?_cons_succ]
  go_wp2_with fail
  refine ⟨rfl, _, .int .i64 (n : Int), rfl, Or.inl ⟨by rfl, fun W hW => by have c0 := hW.1; go_simp⟩, partsI_force ?_⟩
  simp only [Act.put, List.setIfInBounds_toArray, List.set_cons_zero, List.set_cons_succ]
  simp only [List.cons_append, List.nil_append, List.append_nil, List.filterMap_cons, List.filterMap_nil, List.getElem?_toArray, List.getElem?_cons_zero, List.getElem?_cons_succ]
  go_wp2_with fail
  refine ⟨rfl, S0, partsI_force ?_⟩
  simp only [List.cons_append, List.nil_append, List.append_nil, List.filterMap_cons, List.filterMap_nil, List.getElem?_toArray, List.getElem?_cons_zero, List.getElem?_cons_succ]
  go_wp2_with fail
  refine ⟨rfl, S0, partsI_force ?_⟩
  simp only [List.cons_append, List.nil_append, List.append_nil, List.filterMap_cons, List.filterMap_nil, List.getElem?_toArray, List.getElem?_cons_zero, List.getElem?_cons_succ]
  go_wp2_with fail
  refine ⟨rfl, S0, partsI_force ?_⟩
  simp only [List.cons_append, List.nil_append, List.append_nil, List.filterMap_cons, List.filterMap_nil, List.getElem?_toArray, List.getElem?_cons_zero, List.getElem?_cons_succ]
  go_wp2_with fail
  refine (HC.out _ S0.2.1).mono ?_
  rintro e w2 ⟨b2, c2, rfl, hr2, hb2⟩
  have S1 : w2.cell? ⟨g, 0, none⟩ = some (.int .i64 (n : Int)) ∧ BM w2 B g n b c W ∧ Below w.heap.size w w2 := ⟨(S0.2.1.below hb2).c0, S0.2.1.below hb2, S0.2.2.trans (hb2.mono S0.2.2.size)⟩
  have hs2 : w.drew.heap.size < w2.heap.size := by have := hr2.lt b2 rfl; omega
  go_wp2_with fail
  refine ⟨rfl, S1, partsI_force ?_⟩
  simp only [List.cons_append, List.nil_append, List.append_nil, List.filterMap_cons, List.filterMap_nil, List.getElem?_toArray, List.getElem?_cons_zero, List.getElem?_cons_succ]
  go_wp2_with fail
  refine ⟨rfl, S1, partsI_force ?_⟩
  simp only [List.cons_append, List.nil_append, List.append_nil, List.filterMap_cons, List.filterMap_nil, List.getElem?_toArray, List.getElem?_cons_zero, List.getElem?_cons_succ]
  go_wp2_with fail
  refine ⟨rfl, ⟨(S1.2.1.below (below_new1 _ _)).c0, S1.2.1.below (below_new1 _ _), S1.2.2.trans ((below_new1 _ _).mono S1.2.2.size)⟩, partsI_last ?_⟩
  simp only [List.cons_append, List.nil_append, List.append_nil, List.filterMap_cons, List.filterMap_nil, List.getElem?_toArray, List.getElem?_cons_zero, List.getElem?_cons_succ]
  go_wp2_with fail
  refine ⟨rfl, ?_⟩
  go_wp2_with fail
  go_ret
  exact ⟨_, _, _, rfl, HF.out w2 b2 c2 hr2 hb2.size, S1.2.2.trans ((below_new1 _ _).mono S1.2.2.size)⟩
/-- all bits from a stretch one -/
def filF (F : Nat → Bool) (x y : Nat) (p : Nat) : Bool := (decide (x ≤ p) && decide (p < y)) || F p
set_option maxHeartbeats 2000000 in
theorem fill_ok (w : World) (h : BM w B g n b c W) (x y : Nat) (hxy : x ≤ y) (hy : y ≤ n) : Calls Tryd.prog 76 #[.pointer (some ⟨g, 0, none⟩), .int .i64 (x : Int), .int .i64 (y : Int)] w fun e w' => e = .returned (.int .i64 0) ∧ ∃ W', BM w' B g n b c W' ∧ (∀ p, bitF W' p = filF (bitF W) x y p) ∧ Only b w w' := by
  have c0 := h.c0
  have a1 : ¬ ((x : Int) < 0) := by omega
  have a2 : ¬ ((y : Int) < (x : Int)) := by omega
  have a3 : ¬ ((n : Int) < (y : Int)) := by omega
  have hn2 := h.n2
  have H : Hid (BM w B g n b c W) := h
  clear h
  go_enter Tryd.func76, Tryd.ntmps76
  go_wp2_with fail
  go_loopw [7] (fun t wr => ∃ (k : Nat) (W' : Nat → Nat), x ≤ k ∧ k ≤ y ∧ t = .int .i64 (k : Int) ∧ BM wr B g n b c W' ∧ (∀ p, bitF W' p = filF (bitF W) x k p) ∧ Only b w wr) (fun t _ => y - (intOf t).toNat)
  case atStart =>
    refine ⟨x, W, Nat.le_refl _, hxy, rfl, H.out, fun p => ?_, Only.of_below (Below.refl _ _)⟩
    unfold filF
    have : (decide (x ≤ p) && decide (p < x)) = false := by simp
    rw [this]
    rfl
  case round =>
    obtain ⟨k, W', k1, k2, rfl, hM, hbits, ho⟩ := hrel
    by_cases hlt : k < y
    · have a4 : (k : Int) < (y : Int) := by omega
      go_wp2_with fail
      refine (set_in wr hM k (by omega)).mono ?_
      rintro e w2 ⟨rfl, hM2, ho2⟩
      go_wp2_with fail
      refine ⟨⟨k + 1, putW W' k, by omega, by omega, by go_num, hM2, fun p => ?_, ho.trans ho2 (.inl rfl)⟩, ?_⟩
      · rw [bitF_put, hbits]
        unfold filF
        by_cases hp : p = k
        · subst hp
          simp; omega
        · have e1 : decide (p = k) = false := by simp [hp]
          have e2 : decide (p < k + 1) = decide (p < k) := by
            apply decide_eq_decide.2; omega
          rw [e1, e2]
          rfl
      · simp [intOf]; omega
    · obtain rfl : k = y := by omega
      have a4 : ¬ ((k : Int) < (k : Int)) := by omega
      go_wp2_with fail
      go_ret
      exact ⟨rfl, W', hM, hbits, ho⟩
end
end Go.Proofs.YtkpcgijdokhjkaaDoor
