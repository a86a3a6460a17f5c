/- Maps of bits asked: Count, seek, Free, Next: the contracts. -/
import Derived.Test.YtkaaenkhiooomaaDoorHSegsP
import Derived.Deep.QuietTactic
import Derived.BigQuiet
import Derived.Deep.Heap
import Derived.Handy
import Derived.Test.YtkaaenkhiooomaaDoorHBlkOwn
import Derived.OpenShut
import Derived.Deep.MidRow
import Derived.Great.BuildSlice
import Derived.OwnWalk
import Derived.Maps.AppendAt
import Derived.Laws.MakeOwn
import Derived.Laws.OwnMore

namespace Go.Proofs.YtkaaenkhiooomaaDoor
open Go Go.RowKit
set_option linter.unusedVariables false
set_option linter.unusedSimpArgs false

def wdL (W : Nat → Nat) (m : Nat) : List Value := (List.range m).map (iv .u64 W)
theorem wdL_at (W : Nat → Nat) (m i : Nat) (h : i < m) : (wdL W m)[i]? = some (.int .u64 ((W i : Nat) : Int)) := by simp [wdL, iv, h]
theorem wdL_len (W : Nat → Nat) (m : Nat) : (wdL W m).length = m := by simp [wdL]
theorem wdL_set (W : Nat → Nat) (m i x : Nat) : (wdL W m).set i (.int .u64 ((x : Nat) : Int)) = wdL (updN W i x) m := by
  apply List.ext_getElem?
  intro j
  rw [List.getElem?_set]
  by_cases hj : j < m
  · rw [wdL_at (updN W i x) _ _ hj]
    by_cases he : i = j
    · subst he
      rw [if_pos rfl, wdL_len, if_pos hj]
      unfold updN
      rw [if_pos rfl]
    · rw [if_neg he, wdL_at _ _ _ hj]
      unfold updN
      rw [if_neg (Ne.symm he)]
  · have e1 : (wdL W m)[j]? = none := List.getElem?_eq_none (by rw [wdL_len]; omega)
    have e2 : (wdL (updN W i x) m)[j]? = none := List.getElem?_eq_none (by rw [wdL_len]; omega)
    rw [e1, e2, wdL_len]
    split
    · rw [if_neg (by omega)]
    · rfl
/-- only one block turns -/
structure Only (b : Nat) (w w' : World) : Prop where
  os : w'.os = w.os
  tape : w'.tape = w.tape
  output : w'.output = w.output
  size : w.heap.size ≤ w'.heap.size
  block : ∀ k, k < w.heap.size → k ≠ b → w'.heap[k]? = w.heap[k]?
theorem Only.below {b B : Nat} {w w' : World} (h : Only b w w') (hB : B ≤ w.heap.size) (hb : B ≤ b) : Below B w w' := ⟨h.os, h.tape, h.output, h.size, fun k hk => h.block k (by omega) (by omega)⟩
theorem Only.trans {b b' : Nat} {w v u : World} (h : Only b w v) (k : Only b' v u) (hb : b' = b ∨ w.heap.size ≤ b') : Only b w u :=
  ⟨k.os.trans h.os, k.tape.trans h.tape, k.output.trans h.output, Nat.le_trans h.size k.size, fun j hj hne => (k.block j (Nat.lt_of_lt_of_le hj h.size) fun e => by rcases hb with z | z <;> omega).trans (h.block j hj hne)⟩
theorem Only.set (w : World) (b j : Nat) (x : Value) : Only b w (w.setCell ⟨b, j, none⟩ x) := ⟨rfl, rfl, rfl, by rw [Deep.nblk_setCell]; exact Nat.le_refl _, fun k _ hk => Deep.blk_setCell_other w ⟨b, j, none⟩ x k hk⟩
theorem Only.drew (b : Nat) (w : World) : Only b w w.drew := ⟨rfl, rfl, rfl, Nat.le_refl _, fun _ _ _ => rfl⟩
theorem Only.drewN (b : Nat) (w : World) (m : Nat) : Only b w (w.drewN m) := ⟨rfl, rfl, rfl, Nat.le_refl _, fun _ _ _ => rfl⟩
theorem below_dN {B : Nat} {w0 w : World} (h : Below B w0 w) (n : Nat) : Below B w0 (w.drewN n) := ⟨h.1, h.2, h.3, h.4, h.5⟩

/-- a map of n bits in block g, its words in block b -/
structure BM (w : World) (B g n b c : Nat) (W : Nat → Nat) : Prop where
  n1 : 1 ≤ n
  n2 : n ≤ 8192
  gB : B ≤ g
  cells : Blk w g 73 #[.int .i64 (n : Int), .slice (some ⟨b, 0, none⟩) (16 * lvN n) c]
  row : w.ownsRow B 69 1 (.slice (some ⟨b, 0, none⟩) (16 * lvN n) c) (16 * lvN n) (wdL W (16 * lvN n))
  lt : ∀ i, W i < 18446744073709551616
  tail : ∀ p, n ≤ p → bitF W p = false
section
variable {w w' : World} {B g n b c : Nat} {W : Nat → Nat}
theorem lvN_le (h : n ≤ 8192) : lvN n ≤ 8 := by unfold lvN; omega
theorem lvN_ge : n ≤ 1024 * lvN n := by unfold lvN; omega
theorem BM.glt (h : BM w B g n b c W) : g < w.heap.size := h.cells.lt
theorem BM.blt (h : BM w B g n b c W) : B ≤ b ∧ b < w.heap.size := h.row.lt b rfl
theorem BM.ne (h : BM w B g n b c W) : b ≠ g := by
  rcases h.row.2 with ⟨hn, _⟩ | ⟨g', cap', cur, hv, hb, hg, _⟩
  · cases hn
  · injection hv with hv1 hv2 hv3
    injection hv1 with hv1
    injection hv1 with hv1
    subst hv1
    intro e
    rw [e] at hg
    have := h.cells
    unfold Blk at this
    rw [hg] at this
    injection this with this
    injection this with h1 h2
    exact absurd h2 (by decide)
theorem BM.keep (h : BM w B g n b c W) (hg : w'.heap[g]? = w.heap[g]?) (hb : w'.heap[b]? = w.heap[b]?) : BM w' B g n b c W :=
  ⟨h.n1, h.n2, h.gB, hg.trans h.cells, kown_kept h.row fun k _ hv => by
    have : k = b := by simp [Value.ownBlock] at hv; omega
    subst this
    exact hb, h.lt, h.tail⟩
theorem BM.below (h : BM w B g n b c W) (hb : Below w.heap.size w w') : BM w' B g n b c W := h.keep (hb.block g h.glt) (hb.block b h.blt.2)
theorem BM.only {b' : Nat} (h : BM w B g n b c W) (ho : Only b' w w') (h1 : b' ≠ g) (h2 : b' ≠ b) : BM w' B g n b c W := h.keep (ho.block g h.glt (Ne.symm h1)) (ho.block b h.blt.2 (Ne.symm h2))
theorem BM.dN (h : BM w B g n b c W) (m : Nat) : BM (w.drewN m) B g n b c W := h.keep rfl rfl
theorem BM.mono {B' : Nat} (h : BM w B g n b c W) (hB : B' ≤ B) : BM w B' g n b c W := ⟨h.n1, h.n2, Nat.le_trans hB h.gB, h.cells, kown_mono h.row hB, h.lt, h.tail⟩
theorem BM.congr {V : Nat → Nat} (h : BM w B g n b c W) (hV : ∀ i, V i < 18446744073709551616) (he : ∀ p, bitF V p = bitF W p) : BM w B g n b c V := by
  have : V = W := funext fun i => words_ext hV h.lt he i
  rw [this]
  exact h
theorem BM.c0 (h : BM w B g n b c W) : w.cell? ⟨g, 0, none⟩ = some (.int .i64 (n : Int)) := by rw [h.cells.cell]; rfl
theorem BM.c1 (h : BM w B g n b c W) : w.cell? ⟨g, 1, none⟩ = some (.slice (some ⟨b, 0, none⟩) (16 * lvN n) c) := by rw [h.cells.cell]; rfl
theorem BM.word (h : BM w B g n b c W) {i : Nat} (hi : i < 16 * lvN n) : w.cell? ⟨b, i, none⟩ = some (.int .u64 ((W i : Nat) : Int)) := by
  rw [h.row.cellAt i (by omega), wdL_at _ _ _ hi]
theorem BM.word_in (h : BM w B g n b c W) {p : Nat} (hp : p < n) : p / 64 < 16 * lvN n := by
  have := lvN_ge (n := n)
  omega
theorem BM.frozen (h : BM w B g n b c W) (i : Nat) : w.frozen? ⟨b, i, none⟩ = false := h.row.frozenAt i
/-- a word laid -/
theorem BM.put (h : BM w B g n b c W) {i x : Nat} (hi : i < 16 * lvN n) (hx : x < 18446744073709551616) (ht : ∀ p, n ≤ p → bitF (updN W i x) p = false) : BM (w.setCell ⟨b, i, none⟩ (.int .u64 ((x : Nat) : Int))) B g n b c (updN W i x) :=
  ⟨h.n1, h.n2, h.gB, h.cells.put_other _ _ (Ne.symm h.ne), by
    have := (h.row.stored i (.int .u64 ((x : Nat) : Int))).1
    rw [wdL_set] at this
    exact this, fun j => by unfold updN; split; exact hx; exact h.lt j, ht⟩

theorem bsize_any (w : World) (h : BM w B g n b c W) : Calls Tryd.prog 28 #[.pointer (some ⟨g, 0, none⟩)] w fun e w' => e = .returned (.int .i64 (n : Int)) ∧ w' = w := by
  have c0 := h.c0
  clear h
  go_enter Tryd.func28, Tryd.ntmps28
  go_wp2
  go_ret
  exact ⟨rfl, rfl⟩
theorem inside_yes (w : World) (h : BM w B g n b c W) (p : Nat) (hp : p < n) : Calls Tryd.prog 36 #[.pointer (some ⟨g, 0, none⟩), .int .i64 (p : Int)] w fun e w' => e = .returned (.bool true) ∧ w' = w := by
  have hp' : (p : Int) < (n : Int) := by omega
  have HS : Hid (Calls Tryd.prog 28 #[.pointer (some ⟨g, 0, none⟩)] w fun e w' => e = .returned (.int .i64 (n : Int)) ∧ w' = w) := bsize_any w h
  clear h hp
  go_enter Tryd.func36, Tryd.ntmps36
  go_wp2_with fail
  refine HS.out.mono ?_
  rintro e w' ⟨rfl, rfl⟩
  go_wp2
  go_ret
  exact ⟨by simp [hp'], rfl⟩
theorem inside_no (w : World) (h : BM w B g n b c W) (p : Int) (hp : p < 0 ∨ (n : Int) ≤ p) : Calls Tryd.prog 36 #[.pointer (some ⟨g, 0, none⟩), .int .i64 p] w fun e w' => e = .returned (.bool false) ∧ w' = w := by
  have HS : Hid (Calls Tryd.prog 28 #[.pointer (some ⟨g, 0, none⟩)] w fun e w' => e = .returned (.int .i64 (n : Int)) ∧ w' = w) := bsize_any w h
  clear h
  by_cases h0 : p < 0
  · clear HS
    have h1 : ¬ (0 ≤ p) := by omega
    go_enter Tryd.func36, Tryd.ntmps36
    go_wp2
    go_ret
    exact ⟨rfl, rfl⟩
  · have h1 : 0 ≤ p := by omega
    have h2 : ¬ (p < (n : Int)) := by omega
    go_enter Tryd.func36, Tryd.ntmps36
    go_wp2_with fail
    refine HS.out.mono ?_
    rintro e w' ⟨rfl, rfl⟩
    go_wp2
    go_ret
    exact ⟨by simp [h2], rfl⟩
theorem quo64 (p : Nat) : (p : Int).tdiv 64 = ((p / 64 : Nat) : Int) := by
  rw [Int.tdiv_eq_ediv_of_nonneg (by omega)]; omega
set_option maxHeartbeats 1000000 in
theorem has_yes (w : World) (h : BM w B g n b c W) (p : Nat) (hp : p < n) : Calls Tryd.prog 30 #[.pointer (some ⟨g, 0, none⟩), .int .i64 (p : Int)] w fun e w' => e = .returned (.bool (bitF W p)) ∧ ∃ m, w' = w.drewN m := by
  have c1 := h.c1
  have cw := h.word (h.word_in hp)
  have hq := quo64 p
  have hwq : IntKind.i64.wrap ((p / 64 : Nat) : Int) = ((p / 64 : Nat) : Int) := wrapI64_id _ (by omega) (by have := h.n2; omega)
  have i0 : ((p / 64 : Nat) : Int) < ((16 * lvN n : Nat) : Int) := by have := h.word_in hp; omega
  have HI : Hid (∀ m, Calls Tryd.prog 36 #[.pointer (some ⟨g, 0, none⟩), .int .i64 (p : Int)] (w.drewN m) fun e w' => e = .returned (.bool true) ∧ w' = (w.drewN m)) := fun m => inside_yes _ (h.dN m) p hp
  have HO : Hid (∀ m, Calls Tryd.prog 44 #[.int .i64 (p : Int)] (w.drewN m) fun e w' => e = .returned (.int .u64 ((2 ^ (p % 64) : Nat) : Int)) ∧ w' = (w.drewN m)) := fun m => one_any p (by have := h.n2; omega) _
  have HB : Hid (((bits .and .u64 ((W (p / 64) : Nat) : Int) ((2 ^ (p % 64) : Nat) : Int)) != 0) = bitF W p) := by
    show ((bits .and .u64 ((W (p / 64) : Nat) : Int) ((2 ^ (p % 64) : Nat) : Int)) != 0) = bitF W p
    rw [u64_and_nat _ _ (h.lt _) (pow_lt_u64 _ (by omega))]
    unfold bitF
    rw [bne, and_pow_ne]
    simp
  clear h hp
  generalize p / 64 = q at *
  generalize W q = x at *
  generalize 2 ^ (p % 64) = y at *
  generalize 16 * lvN n = k at *
  go_enter Tryd.func30, Tryd.ntmps30
  go_wp2_with fail
  go_quiet (first
    | (go_at_call 36; exact Calls.quiet_of_same (HI.out _))
    | (go_at_call 44; exact Calls.quiet_of_same (HO.out _)))
  go_wp2_with fail
  go_ret
  exact ⟨by rw [← HB.out]; rfl, _, rfl⟩
theorem has_no (w : World) (h : BM w B g n b c W) (p : Int) (hp : p < 0 ∨ (n : Int) ≤ p) : Calls Tryd.prog 30 #[.pointer (some ⟨g, 0, none⟩), .int .i64 p] w fun e w' => e = .returned (.bool false) ∧ ∃ m, w' = w.drewN m := by
  have HI : Hid (∀ m, Calls Tryd.prog 36 #[.pointer (some ⟨g, 0, none⟩), .int .i64 p] (w.drewN m) fun e w' => e = .returned (.bool false) ∧ w' = (w.drewN m)) := fun m => inside_no _ (h.dN m) p hp
  clear h hp
  go_enter Tryd.func30, Tryd.ntmps30
  go_wp2_with fail
  go_quiet ((go_at_call 36; exact Calls.quiet_of_same (HI.out _)))
  go_wp2_with fail
  go_ret
  exact ⟨rfl, _, rfl⟩
set_option maxHeartbeats 2000000 in
theorem set_new (w : World) (h : BM w B g n b c W) (p : Nat) (hp : p < n) (hf : bitF W p = false) : Calls Tryd.prog 21 #[.pointer (some ⟨g, 0, none⟩), .int .i64 (p : Int)] w fun e w' => e = .returned (.bool true) ∧ BM w' B g n b c (putW W p) ∧ Only b w w' := by
  have hq := quo64 p
  have hwq : IntKind.i64.wrap ((p / 64 : Nat) : Int) = ((p / 64 : Nat) : Int) := wrapI64_id _ (by omega) (by have := h.n2; omega)
  have i0 : ((p / 64 : Nat) : Int) < ((16 * lvN n : Nat) : Int) := by have := h.word_in hp; omega
  have HI : Hid (Calls Tryd.prog 36 #[.pointer (some ⟨g, 0, none⟩), .int .i64 (p : Int)] w fun e w' => e = .returned (.bool true) ∧ w' = w) := inside_yes _ h p hp
  have HH : Hid (Calls Tryd.prog 30 #[.pointer (some ⟨g, 0, none⟩), .int .i64 (p : Int)] w fun e w' => e = .returned (.bool (bitF W p)) ∧ ∃ m, w' = w.drewN m) := has_yes w h p hp
  have HO : Hid (∀ w : World, Calls Tryd.prog 44 #[.int .i64 (p : Int)] w fun e w' => e = .returned (.int .u64 ((2 ^ (p % 64) : Nat) : Int)) ∧ w' = w) := fun w => one_any p (by have := h.n2; omega) _
  have HV : Hid (bits .or .u64 ((W (p / 64) : Nat) : Int) ((2 ^ (p % 64) : Nat) : Int) = ((putW W p (p / 64) : Nat) : Int)) := by
    show bits .or .u64 ((W (p / 64) : Nat) : Int) ((2 ^ (p % 64) : Nat) : Int) = ((putW W p (p / 64) : Nat) : Int)
    rw [u64_or_nat _ _ (h.lt _) (pow_lt_u64 _ (by omega))]
    unfold putW updN
    rw [if_pos rfl]

  have HP : Hid (∀ V : World, BM V B g n b c W → BM (V.setCell ⟨b, p / 64, none⟩ (.int .u64 ((putW W p (p / 64) : Nat) : Int))) B g n b c (putW W p)) := fun V hV => by
    have e : putW W p = updN W (p / 64) (putW W p (p / 64)) := by
      unfold putW
      funext i
      unfold updN
      split <;> simp_all
    have ht : ∀ r, n ≤ r → bitF (putW W p) r = false := fun r hr => by
      rw [bitF_put, hV.tail r hr]
      simp; omega
    rw [e] at ht
    have := hV.put (hV.word_in hp) (putW_lt hV.lt p (p / 64)) ht
    rw [← e] at this
    exact this
  rw [hf] at HH
  generalize hw' : putW W p = W' at *
  clear hw' hf
  go_enter Tryd.func21, Tryd.ntmps21
  go_wp2_with fail
  refine HI.out.mono ?_
  rintro e w1 ⟨rfl, rfl⟩
  go_wp2_with fail
  refine HH.out.mono ?_
  rintro e w2 ⟨rfl, md, rfl⟩
  go_wp2_with fail
  have h1 : BM (w1.drewN md).drew B g n b c W := h.keep rfl rfl
  have ho1 : Only b w1 (w1.drewN md).drew := (Only.drewN _ _ _).trans (Only.drew b _) (.inl rfl)
  have cw := h1.word (h1.word_in hp)
  have cf := h1.frozen (p / 64)
  have c1 := h1.c1
  clear HI HH h hp
  generalize (w1.drewN md) = v at *
  generalize p / 64 = q at *
  generalize hx : W q = x at *
  clear hx
  generalize W' q = x' at *
  generalize 2 ^ (p % 64) = y at *
  generalize hk : 16 * lvN n = k at *
  clear hk
  have S0 : v.drew.cell? ⟨g, 1, none⟩ = some (.slice (some ⟨b, 0, none⟩) k c) ∧ v.drew.cell? ⟨b, q, none⟩ = some (.int .u64 (x : Int)) ∧ v.drew.frozen? ⟨b, q, none⟩ = false ∧ BM v.drew B g n b c W ∧ Only b w1 v.drew := ⟨c1, cw, cf, h1, ho1⟩
  clear c1 cw cf h1 ho1
  refine wp_region_partsS (fun V => V.cell? ⟨g, 1, none⟩ = some (.slice (some ⟨b, 0, none⟩) k c) ∧ V.cell? ⟨b, q, none⟩ = some (.int .u64 (x : Int)) ∧ V.frozen? ⟨b, q, none⟩ = false ∧ BM V B g n b c W ∧ Only b w1 V) [([0, 4, 8], 1, true), ([], 2, true), ([], 3, true), ([], 5, true), ([6], 7, true), ([], 9, false), ([], 10, false)] [11] [12] (by kernel_rfl) (by kernel_rfl) S0 (partsI_yield ?_)
  simp only [List.cons_append, List.nil_append, List.append_nil, List.filterMap_cons, List.filterMap_nil, List.getElem?_toArray, List.getElem?_cons_zero, List.getElem?_cons_succ]
  go_wp2_with fail
  refine ⟨rfl, _, .pointer (some ⟨g, 0, none⟩), rfl, Or.inl ⟨by rfl, fun W hW => by go_simp⟩, partsI_yield ?_⟩
  simp only [Act.put, List.setIfInBounds_toArray, List.set_cons_zero, List.set_cons_succ]
  simp only [List.cons_append, List.nil_append, List.append_nil, List.filterMap_cons, List.filterMap_nil, List.getElem?_toArray, List.getElem?_cons_zero, List.getElem?_cons_succ]
  go_wp2_with fail
  refine ⟨rfl, _, .pointer (some ⟨g, 1, none⟩), rfl, Or.inl ⟨by rfl, fun W hW => by go_simp⟩, partsI_yield ?_⟩
  simp only [Act.put, List.setIfInBounds_toArray, List.set_cons_zero, List.set_cons_succ]
  simp only [List.cons_append, List.nil_append, List.append_nil, List.filterMap_cons, List.filterMap_nil, List.getElem?_toArray, List.getElem?_cons_zero, List.getElem?_cons_succ]
  go_wp2_with fail
  refine ⟨rfl, _, .slice (some ⟨b, 0, none⟩) k c, rfl, Or.inl ⟨by rfl, fun W hW => by have c1 := hW.1; go_simp⟩, partsI_yield ?_⟩
  simp only [Act.put, List.setIfInBounds_toArray, List.set_cons_zero, List.set_cons_succ]
  simp only [List.cons_append, List.nil_append, List.append_nil, List.filterMap_cons, List.filterMap_nil, List.getElem?_toArray, List.getElem?_cons_zero, List.getElem?_cons_succ]
  go_wp2_with fail
  refine ⟨rfl, _, .int .i64 (q : Int), rfl, Or.inl ⟨by rfl, fun W hW => by go_simp⟩, partsI_yield ?_⟩
  simp only [Act.put, List.setIfInBounds_toArray, List.set_cons_zero, List.set_cons_succ]
  simp only [List.cons_append, List.nil_append, List.append_nil, List.filterMap_cons, List.filterMap_nil, List.getElem?_toArray, List.getElem?_cons_zero, List.getElem?_cons_succ]
  go_wp2_with fail
  refine ⟨rfl, _, .int .u64 (x : Int), rfl, Or.inl ⟨by rfl, fun W hW => by have c1 := hW.2.1; go_simp⟩, partsI_force ?_⟩
  simp only [Act.put, List.setIfInBounds_toArray, List.set_cons_zero, List.set_cons_succ]
  simp only [List.cons_append, List.nil_append, List.append_nil, List.filterMap_cons, List.filterMap_nil, List.getElem?_toArray, List.getElem?_cons_zero, List.getElem?_cons_succ]
  go_wp2_with fail
  refine (HO.out _).mono ?_
  rintro e w2 ⟨rfl, rfl⟩
  go_wp2_with fail
  refine ⟨rfl, S0, partsI_force ?_⟩
  simp only [List.cons_append, List.nil_append, List.append_nil, List.filterMap_cons, List.filterMap_nil, List.getElem?_toArray, List.getElem?_cons_zero, List.getElem?_cons_succ]
  go_wp2_with fail
  refine ⟨rfl, S0, partsI_last ?_⟩
  simp only [List.cons_append, List.nil_append, List.append_nil, List.filterMap_cons, List.filterMap_nil, List.getElem?_toArray, List.getElem?_cons_zero, List.getElem?_cons_succ]
  rw [HV.out]
  obtain ⟨c1, cw, cf, h1, ho1⟩ := S0
  have h2 := HP.out v.drew h1
  have ho2 := ho1.trans (Only.set v.drew b q (.int .u64 (x' : Int))) (.inl rfl)
  clear HP HO HV h1 ho1
  go_wp2_with fail
  refine ⟨rfl, ?_⟩
  go_wp2_with fail
  go_ret
  exact ⟨rfl, h2, ho2⟩
/-- a place that is one, or none: nothing happens -/
theorem set_not (w : World) (h : BM w B g n b c W) (p : Int) (hp : p < 0 ∨ (n : Int) ≤ p ∨ (0 ≤ p ∧ p < n ∧ bitF W p.toNat = true)) : Calls Tryd.prog 21 #[.pointer (some ⟨g, 0, none⟩), .int .i64 p] w fun e w' => e = .returned (.bool false) ∧ ∃ m, w' = w.drewN m := by
  by_cases h0 : p < 0 ∨ (n : Int) ≤ p
  · have HI : Hid (Calls Tryd.prog 36 #[.pointer (some ⟨g, 0, none⟩), .int .i64 p] w fun e w' => e = .returned (.bool false) ∧ w' = w) := inside_no _ h p h0
    clear h hp
    go_enter Tryd.func21, Tryd.ntmps21
    go_wp2_with fail
    refine HI.out.mono ?_
    rintro e w' ⟨rfl, rfl⟩
    go_wp2
    go_ret
    exact ⟨rfl, 0, rfl⟩
  · obtain ⟨q, rfl⟩ := Int.eq_ofNat_of_zero_le (a := p) (by omega)
    have hq : q < n := by omega
    have hf : bitF W q = true := by
      rcases hp with z | z | z
      · omega
      · omega
      · simpa using z.2.2
    have HI : Hid (Calls Tryd.prog 36 #[.pointer (some ⟨g, 0, none⟩), .int .i64 (q : Int)] w fun e w' => e = .returned (.bool true) ∧ w' = w) := inside_yes _ h q hq
    have HH : Hid (Calls Tryd.prog 30 #[.pointer (some ⟨g, 0, none⟩), .int .i64 (q : Int)] w fun e w' => e = .returned (.bool (bitF W q)) ∧ ∃ m, w' = w.drewN m) := has_yes w h q hq
    rw [hf] at HH
    clear h hp hf h0 hq
    go_enter Tryd.func21, Tryd.ntmps21
    go_wp2_with fail
    refine HI.out.mono ?_
    rintro e w' ⟨rfl, rfl⟩
    go_wp2_with fail
    refine HH.out.mono ?_
    rintro e w2 ⟨rfl, md, rfl⟩
    go_wp2
    go_ret
    exact ⟨rfl, md, rfl⟩
/-- Set, Clear of a place -/
theorem set_in (w : World) (h : BM w B g n b c W) (p : Nat) (hp : p < n) : Calls Tryd.prog 21 #[.pointer (some ⟨g, 0, none⟩), .int .i64 (p : Int)] w fun e w' => e = .returned (.bool (!bitF W p)) ∧ BM w' B g n b c (putW W p) ∧ Only b w w' := by
  cases hf : bitF W p
  · exact set_new w h p hp hf
  · refine (set_not w h p (.inr (.inr ⟨by omega, by omega, by simpa using hf⟩))).mono ?_
    rintro e w' ⟨rfl, m, rfl⟩
    refine ⟨rfl, (h.dN m).congr (putW_lt h.lt p) fun q => ?_, Only.drewN _ _ _⟩
    rw [bitF_put]
    by_cases hq : q = p
    · rw [hq, hf]; simp
    · simp [hq]
end
end Go.Proofs.YtkaaenkhiooomaaDoor

namespace Go.Proofs.YtkaaenkhiooomaaDoor
open Go.RowKit
set_option linter.unusedSimpArgs false
set_option linter.unusedVariables false

def Fit (a m : Int) : Prop := 0 ≤ a ∧ 0 ≤ m ∧ a ≤ 256 - m
instance (a m : Int) : Decidable (Fit a m) := by unfold Fit; infer_instance

end Go.Proofs.YtkaaenkhiooomaaDoor

namespace Go.Proofs.YtkaaenkhiooomaaDoor
open Go Go.RowKit
set_option linter.unusedVariables false

/-- the slice at a of n blocks, told by L -/
def IsBlks (w : World) (a : Option Addr) (n : Nat) (L : Nat → Nat → Nat) : Prop :=
  ∀ i, i < n → ∃ b o, a = some ⟨b, o, none⟩ ∧ b < w.heap.size ∧ w.rangeAt b (o + i * 256) ((List.range 256).map (iv .u8 (L i)))
theorem range_below {w w' : World} {B b o : Nat} {cs : List Value} (h : w.rangeAt b o cs) (hb : Below B w w') (hB : b < B) : w'.rangeAt b o cs := fun j v hv => by
  rw [← h j v hv]
  simp [World.cell?, hb.block b hB]
theorem IsBlks.below {w w' : World} {a : Option Addr} {n : Nat} {L : Nat → Nat → Nat} (h : IsBlks w a n L) (hb : Below w.heap.size w w') : IsBlks w' a n L := fun i hi => by
  obtain ⟨b, o, e, h1, h2⟩ := h i hi
  exact ⟨b, o, e, Nat.lt_of_lt_of_le h1 hb.size, range_below h2 hb h1⟩
end Go.Proofs.YtkaaenkhiooomaaDoor

namespace Go.Proofs.YtkaaenkhiooomaaDoor
open Go.RowKit
set_option linter.unusedSimpArgs false
set_option linter.unusedVariables false

theorem fold_set : ∀ (l : List Value) (k : Nat) (A : Array Value), k + l.length ≤ A.size →
    ((l.zipIdx k).foldl (fun cs (x : Value × Nat) => cs.setIfInBounds (0 + x.2) x.1) A).size = A.size ∧
    ∀ i, ((l.zipIdx k).foldl (fun cs (x : Value × Nat) => cs.setIfInBounds (0 + x.2) x.1) A)[i]? = if k ≤ i ∧ i < k + l.length then l[i - k]? else A[i]?
  | [], k, A, h => ⟨rfl, fun i => by simp; omega⟩
  | v :: l, k, A, h => by
    rw [List.zipIdx_cons, List.foldl_cons]
    obtain ⟨h1, h2⟩ := fold_set l (k + 1) (A.setIfInBounds (0 + k) v) (by simp at h ⊢; omega)
    refine ⟨by rw [h1]; simp, fun i => ?_⟩
    rw [h2 i]
    simp at h
    by_cases hi : i = k
    · subst hi
      rw [if_neg (by omega), if_pos (by simp), Nat.zero_add, Array.getElem?_setIfInBounds, if_pos rfl, if_pos (by omega), Nat.sub_self]
      rfl
    · by_cases hj : k + 1 ≤ i ∧ i < k + 1 + l.length
      · rw [if_pos hj, if_pos (by simp; omega)]
        obtain ⟨d, hd⟩ : ∃ d, i - k = d + 1 := ⟨i - k - 1, by omega⟩
        rw [hd, List.getElem?_cons_succ, show i - (k + 1) = d by omega]
      · rw [if_neg hj, if_neg (by simp; omega), Array.getElem?_setIfInBounds, if_neg (by omega)]
theorem fill_one (n : Nat) (cells cs : Array Value) (h1 : cells.size = n) (h2 : cs.size = n) : Instr.fill (fun i => some (i * n, n)) cells [(0, .agg cs)] = some cs := by
  have hc : (Value.agg cs).cells = cs := rfl
  unfold Instr.fill
  simp only [hc, h2, h1, ne_eq, not_true_eq_false, decide_false, Bool.false_or, Nat.zero_mul, Nat.zero_add, Nat.lt_irrefl, decide_false, gt_iff_lt, if_false, Bool.false_eq_true]
  unfold Instr.fill
  congr 1
  obtain ⟨e1, e2⟩ := fold_set cs.toList 0 cells (by simp [h1, h2])
  apply Array.ext_getElem?
  intro i
  have := e2 i
  simp only [Nat.zero_add] at this e1
  have e3 : cs.zipIdx.foldl (fun cs (x : Value × Nat) => match x with | (c, j) => cs.setIfInBounds j c) cells = (cs.toList.zipIdx 0).foldl (fun cs (x : Value × Nat) => cs.setIfInBounds x.2 x.1) cells := by
    rw [← Array.foldl_toList]
    simp
  rw [e3, this]
  by_cases hi : i < cs.size
  · rw [if_pos (by simpa using hi)]
    simp
  · rw [if_neg (by simpa using hi), Array.getElem?_eq_none (by omega), Array.getElem?_eq_none (by omega)]
/-- a slice of one array -/
theorem wpList_build1 {P : Program} {ops : Array Oper} {rest : List Oper} {o : Oper} {a : Act} {w : World} {Q : Exit → Act → World → Prop} (hg : o.guard = none) (t e : TypeId) (x : Operand) (ho : o.op = .buildSlice t 1 #[(0, x)])
    (cs : Array Value) (hx : a.eval x = .agg cs) (ie : TypeInfo) (z : Value) (n : Nat)
    (hu : P.underlying t = some (.slice e)) (hie : P.info? e = some ie) (hz : ie.zero = some z) (hn : ie.size = n) (hcs : cs.size = n) (h0 : 0 < n) (h24 : n ≤ 16777216)
    (h : wpList P ops Q rest (a.put o.dst (.slice (some ⟨w.heap.size, 0, none⟩) 1 1)) (w.alloc (.cells cs e))) : wpList P ops Q (o :: rest) a w := by
  refine wpList_buildSlice hg t e 1 _ ho cs ie z hu hie hz (by rw [hn]; omega) (by rw [hn]; omega) ?_ h
  rw [hn]
  have e1 : (Array.map (fun (x : Nat × Operand) => match x with | (i, x) => (i, a.eval x)) #[(0, x)]).toList = [(0, Value.agg cs)] := by
    simp [hx]
  rw [e1]
  exact fill_one n _ _ (by simp) hcs
theorem cells_new (w : World) (cs : Array Value) (t : TypeId) : ∀ j u, cs.toList[j]? = some u → (w.alloc (.cells cs t)).cell? ((⟨w.heap.size, 0, none⟩ : Addr).add j) = some u := fun j u hu => by
  have hb : Blk (w.alloc (.cells cs t)) w.heap.size t cs := Blk.new w t cs
  rw [Addr.add_mid, Nat.zero_add, hb.cell]
  simpa using hu
end Go.Proofs.YtkaaenkhiooomaaDoor

namespace Go.Proofs.YtkaaenkhiooomaaDoor
open Go Go.RowKit
set_option linter.unusedVariables false
set_option linter.unusedSimpArgs false

theorem made_one1 (v : Value) (n : Nat) : madeCells #[v] n = va n fun _ => v := by
  refine va_ext (size_madeCells _ _) fun i hi => ?_
  unfold madeCells
  simp [hi, Nat.mod_one]
theorem infoU64 : (Tryd.prog.info? 69).map (fun i => (i.zero, i.size, i.bytes)) = some (some (.int .u64 0), 1, 8) := by kernel_rfl
theorem infoBool : (Tryd.prog.info? 4).map (fun i => (i.zero, i.size, i.bytes)) = some (some (.bool false), 1, 1) := by kernel_rfl
theorem make_words (n : Nat) (hn : n ≤ 8192) (w : World) : (Instr.makeSlice 71 (.int .i64 (n : Int)) (.int .i64 (n : Int))).run Tryd.prog w = .ok (.slice (some ⟨w.heap.size, 0, none⟩) n n) (w.alloc (.cells (va n fun _ => .int .u64 0) 69)) := by
  obtain ⟨i0, hi, hz0, hz1, hz2⟩ := info_parts infoU64
  have := run_make (P := Tryd.prog) w 71 69 i0 (.int .u64 0) Tryd.underlying71 hi hz0 .i64 .i64 (n : Int) (n : Int) (by omega) (Int.le_refl _) (by rw [hz2]; omega) (by omega)
  rw [hz1] at this
  simp only [Int.toNat_natCast, Value.cells, made_one1, Nat.mul_one] at this
  exact this
theorem make_bools (n : Nat) (hn : n ≤ 8192) (w : World) : (Instr.makeSlice 24 (.int .i64 (n : Int)) (.int .i64 (n : Int))).run Tryd.prog w = .ok (.slice (some ⟨w.heap.size, 0, none⟩) n n) (w.alloc (.cells (va n fun _ => .bool false) 4)) := by
  obtain ⟨i0, hi, hz0, hz1, hz2⟩ := info_parts infoBool
  have := run_make (P := Tryd.prog) w 24 4 i0 (.bool false) Tryd.underlying24 hi hz0 .i64 .i64 (n : Int) (n : Int) (by omega) (Int.le_refl _) (by rw [hz2]; omega) (by omega)
  rw [hz1] at this
  simp only [Int.toNat_natCast, Value.cells, made_one1, Nat.mul_one] at this
  exact this
theorem own_made1 {w : World} {g t n : Nat} {f : Nat → Value} (h : Blk w g t (va n f)) (hn : n ≤ 8192) (B : Nat) (hB : B ≤ g) : w.ownsRow B t 1 (.slice (some ⟨g, 0, none⟩) n n) n ((List.range n).map f) :=
  ⟨by simp, .inr ⟨g, n, _, rfl, hB, h, Nat.le_refl _, by unfold maxLen; omega, by rw [va_size, Nat.mul_one], by rw [va_toList, List.take_of_length_le (by simp)]⟩⟩
theorem bitF_zero (p : Nat) : bitF (fun _ => 0) p = false := by simp [bitF]
set_option maxHeartbeats 1000000 in
theorem newM_ok (n : Nat) (h1 : 1 ≤ n) (h2 : n ≤ 8192) (w : World) : Calls Tryd.prog 27 #[.int .i64 (n : Int)] w fun e w' => ∃ g b c, e = .returned (.tuple #[.pointer (some ⟨g, 0, none⟩), .int .i64 0]) ∧ BM w' w.heap.size g n b c (fun _ => 0) ∧ Below w.heap.size w w' := by
  have a1 : ¬ ((n : Int) < 1) := by omega
  have a2 : ¬ ((8192 : Int) < (n : Int)) := by omega
  have hl := lvN_le h2
  have hm : wrap64 ((lvN n : Int) * 16) = ((16 * lvN n : Nat) : Int) := by rw [w64, wrapI64_id _ (by omega) (by omega)]; omega
  have hk := make_words (16 * lvN n) (by omega)
  have HF : Hid (∀ w : World, BM ((w.alloc (.cells (va (16 * lvN n) fun _ => .int .u64 0) 69)).alloc (.cells #[.int .i64 (n : Int), .slice (some ⟨w.heap.size, 0, none⟩) (16 * lvN n) (16 * lvN n)] 73)) w.heap.size (w.heap.size + 1) n w.heap.size (16 * lvN n) (fun _ => 0)) := fun w =>
    ⟨h1, h2, by omega, Blk.new1 _ _ _ _, own_made1 (f := iv .u64 fun _ => 0) ((Blk.new _ _ _).alloc _) (by omega) _ (Nat.le_refl _), fun _ => by decide, fun p _ => bitF_zero p⟩
  clear hl
  generalize 16 * lvN n = k at *
  go_enter Tryd.func27, Tryd.ntmps27
  go_wp2_with fail
  refine (leaves_any n h2 _).mono ?_
  rintro e w1 ⟨rfl, rfl⟩
  go_wp2_with fail
  go_ret2
  exact ⟨_, _, _, rfl, HF.out w1, below_new2 _ _ _⟩
theorem newM_no (p : Int) (hp : p < 1 ∨ 8192 < p) (w : World) : Calls Tryd.prog 27 #[.int .i64 p] w fun e w' => e = .returned (.tuple #[.pointer none, .int .i64 1]) ∧ w' = w := by
  by_cases h : p < 1
  · go_enter Tryd.func27, Tryd.ntmps27
    go_wp2
    go_ret2
    exact ⟨rfl, rfl⟩
  · have h3 : 8192 < p := by omega
    go_enter Tryd.func27, Tryd.ntmps27
    go_wp2
    go_ret2
    exact ⟨rfl, rfl⟩
theorem bi_append_at {P : Program} {ops : Array Oper} {rest : List Oper} {o : Oper} {a : Act} {w : World} {Q : Exit → Act → World → Prop} (hgd : o.guard = none) (s x : Operand) (t : TypeId)
    (ho : o.op = .call { callee := .builtin .append, args := #[s, x], argTypes := #[t, t] })
    (base : Nat) (e : TypeId) (i : TypeInfo) (z : Value) (size bytes : Nat) (ht : P.underlying t = some (.slice e)) (hi : P.info? e = some i) (hz : i.zero = some z)
    (hsize : i.size = size) (hby : i.bytes = bytes) (hzs : z.cells.size = size) (hsz : 0 < size)
    (v : Value) (n : Nat) (xs : List Value) (hs : a.eval s = v) (hown : w.ownsRow base e size v n xs)
    (ad : Addr) (m c : Nat) (news : List Value) (hx : a.eval x = .slice (some ad) m c) (hl : news.length = m * size) (hnews : ∀ j u, news[j]? = some u → w.cell? (ad.add j) = some u) (h1 : ∀ u ∈ news, u.oneCell' = true)
    (h63 : n + m ≤ maxLen) (hbytes : (n + m) * bytes ≤ 140737488355328) (hbase : base ≤ w.heap.size)
    (h : ∀ v' w', w'.ownsRow base e size v' (n + m) (xs ++ news) → w.grownBy w' v.ownBlock → (v'.ownBlock = v.ownBlock ∨ v'.ownBlock = some w.heap.size) → wpList P ops Q rest (a.put o.dst v') w') :
    wpList P ops Q (o :: rest) a w := by
  obtain ⟨v', w', hr, g1, g2, g3, g4⟩ := run_append_own_at (P := P) w base t o.type e i z size bytes ht hi hz hsize hby hzs hsz v n xs hown ad m c news hl hnews h1 h63 hbytes hbase
  refine wpList_plain hgd fun K hK => ?_
  unfold Oper.wp
  simp [execOp, ho, resolve, invoke, builtin, hs, hx, hr, Result.andThen]
  exact hK _ _ (h v' w' g1 g2 g4)
section
variable {B g n b c : Nat} {W : Nat → Nat}
end
end Go.Proofs.YtkaaenkhiooomaaDoor

namespace Go.Proofs.YtkaaenkhiooomaaDoor
open Go Go.RowKit
set_option linter.unusedVariables false
set_option linter.unusedSimpArgs false
section
variable {B g n b c : Nat} {W : Nat → Nat}
theorem sumW_le (W : Nat → Nat) (k : Nat) : sumW W k ≤ 64 * k := by rw [sumW_cnt]; exact cntF_le _ _
set_option maxHeartbeats 1000000 in
theorem count_any (w : World) (h : BM w B g n b c W) : Calls Tryd.prog 29 #[.pointer (some ⟨g, 0, none⟩)] w fun e w' => e = .returned (.int .i64 (cntF (bitF W) n : Int)) ∧ w' = w := by
  have c1 := h.c1
  have hl := lvN_le h.n2
  have HW : Hid (∀ i, i < 16 * lvN n → w.cell? ⟨b, i, none⟩ = some (.int .u64 ((W i : Nat) : Int))) := fun i hi => h.word hi
  have HL : Hid (∀ i, W i < 18446744073709551616) := h.lt
  have HE : Hid (sumW W (16 * lvN n) = cntF (bitF W) n) := by
    show sumW W (16 * lvN n) = cntF (bitF W) n
    rw [sumW_cnt]
    exact cntF_tail _ _ _ (by have := lvN_ge (n := n); omega) h.tail
  clear h
  have hk : 16 * lvN n ≤ 128 := by omega
  clear hl
  generalize 16 * lvN n = k at *
  go_enter Tryd.func29, Tryd.ntmps29
  go_wp2_with fail
  go_loop [3, 13] (fun t i => ∃ j : Nat, j ≤ k ∧ i = .int .i64 (j : Int) ∧ t = .int .i64 (sumW W j : Int)) (fun _ i => k - (intOf i).toNat)
  case atStart => exact ⟨0, by omega, rfl, rfl⟩
  case round =>
    obtain ⟨j, hj, rfl, rfl⟩ := hrel
    have hs := sumW_le W j
    by_cases hlt : j < k
    · have cw := HW.out j hlt
      have a1 : (j : Int) < (k : Int) := by omega
      have HS : Hid (wrap64 ((sumW W j : Int) + (onesTo (W j) 64 : Int)) = (sumW W (j + 1) : Int)) := by
        show wrap64 ((sumW W j : Int) + (onesTo (W j) 64 : Int)) = (sumW W (j + 1) : Int)
        have := onesTo_le (W j) 64
        rw [w64, wrapI64_id _ (by omega) (by omega)]
        show _ = ((sumW W j + onesTo (W j) 64 : Nat) : Int)
        omega
      go_wp2_with fail
      refine (ones_any (W j) (HL.out j) _).mono ?_
      rintro e w' ⟨rfl, rfl⟩
      go_wp2
      go_round
      case rel => exact ⟨j + 1, by omega, by go_num, by rw [HS.out]⟩
      case measure => simp [intOf]; omega
    · obtain rfl : j = k := by omega
      have a1 : ¬ ((j : Int) < (j : Int)) := by omega
      go_wp2_with fail
      go_ret
      exact ⟨by rw [← HE.out]; rfl, rfl⟩
/-- a word with its bits turned over, or not -/
def Turn (tn : Nat) (is : Bool) : Prop := (tn = 0 ∧ is = true) ∨ (tn = 18446744073709551615 ∧ is = false)
theorem Turn.bit {tn : Nat} {is : Bool} (h : Turn tn is) (W : Nat → Nat) (i j : Nat) (hj : j < 64) : (W i ^^^ tn).testBit j = (bitF W (64 * i + j) == is) := by
  rw [bitF_at W i j hj, Nat.testBit_xor]
  rcases h with ⟨rfl, rfl⟩ | ⟨rfl, rfl⟩
  · cases (W i).testBit j <;> simp
  · rw [show (18446744073709551615 : Nat) = 2 ^ 64 - 1 from rfl, Nat.testBit_two_pow_sub_one]
    cases (W i).testBit j <;> simp [hj]
theorem Turn.lt {tn : Nat} {is : Bool} (h : Turn tn is) : tn < 18446744073709551616 := by
  rcases h with ⟨rfl, rfl⟩ | ⟨rfl, rfl⟩ <;> decide
/-- what is left of a word behind the places ahead -/
def Left (W : Nat → Nat) (is : Bool) (f a x : Nat) : Prop := f < 64 * (a + 1) ∧ x < 18446744073709551616 ∧ (∀ j, j < 64 → x.testBit j = (decide (f ≤ 64 * a + j) && (bitF W (64 * a + j) == is))) ∧ (∀ q, f ≤ q → q < 64 * a → bitF W q = !is)
theorem beq_not {b is : Bool} (h : (b == is) = false) : b = !is := by cases b <;> cases is <;> first | rfl | exact absurd h (by decide)
theorem left_first {tn : Nat} {is : Bool} (h : Turn tn is) (hl : ∀ i, W i < 18446744073709551616) (f : Nat) : Left W is f (f / 64) ((W (f / 64) ^^^ tn) &&& notN (2 ^ (f % 64) - 1)) := by
  refine ⟨by omega, and_lt64 _ _ (xor_lt64 _ _ (hl _) h.lt), fun j hj => ?_, fun q h1 h2 => by omega⟩
  have hp : 2 ^ (f % 64) < 18446744073709551616 := pow_lt_u64 _ (by omega)
  rw [Nat.testBit_and, notN_bit _ _ (by omega) hj, h.bit W _ _ hj, Nat.testBit_two_pow_sub_one]
  have : (!decide (j < f % 64)) = decide (f ≤ 64 * (f / 64) + j) := by
    rw [← decide_not]; apply decide_eq_decide.2; omega
  rw [this, Bool.and_comm]
theorem left_all {is : Bool} {f a : Nat} (h0 : Left W is f a 0) : ∀ q, f ≤ q → q < 64 * (a + 1) → bitF W q = !is := fun q h1 h2 => by
  by_cases hq : q < 64 * a
  · exact h0.2.2.2 q h1 hq
  · have := h0.2.2.1 (q - 64 * a) (by omega)
    rw [show 64 * a + (q - 64 * a) = q from by omega] at this
    simp only [Nat.zero_testBit, h1, decide_true, Bool.true_and] at this
    exact beq_not this.symm
theorem left_next {tn : Nat} {is : Bool} (h : Turn tn is) (hl : ∀ i, W i < 18446744073709551616) {f a : Nat} (h0 : Left W is f a 0) : Left W is f (a + 1) (W (a + 1) ^^^ tn) := by
  refine ⟨by have := h0.1; omega, xor_lt64 _ _ (hl _) h.lt, fun j hj => ?_, left_all h0⟩
  rw [h.bit W _ _ hj]
  have hf : f ≤ 64 * (a + 1) + j := by have := h0.1; omega
  simp [hf]
/-- the lowest bit of what is left is the place that is looked for -/
theorem left_low {is : Bool} {f a x : Nat} (h : Left W is f a x) (h0 : x ≠ 0) : f ≤ 64 * a + Lib.ctz 64 x ∧ bitF W (64 * a + Lib.ctz 64 x) = is ∧ (∀ q, f ≤ q → q < 64 * a + Lib.ctz 64 x → bitF W q = !is) ∧ Lib.ctz 64 x < 64 := by
  obtain ⟨l1, l2, l3⟩ := low_at x h.2.1 h0
  have e := h.2.2.1 _ l3
  rw [l1] at e
  have e2 := (Bool.and_eq_true_iff.1 e.symm)
  refine ⟨of_decide_eq_true e2.1, eq_of_beq e2.2, fun q h1 h2 => ?_, l3⟩
  by_cases hq : q < 64 * a
  · exact h.2.2.2 q h1 hq
  · have := h.2.2.1 (q - 64 * a) (by omega)
    rw [show 64 * a + (q - 64 * a) = q from by omega, l2 _ (by omega)] at this
    simp only [h1, decide_true, Bool.true_and] at this
    exact beq_not this.symm
theorem seek_out (w : World) (h : BM w B g n b c W) (f : Int) (tn : Nat) (hf : (n : Int) ≤ f) : Calls Tryd.prog 50 #[.pointer (some ⟨g, 0, none⟩), .int .i64 f, .int .u64 (tn : Int)] w fun e w' => e = .returned (.int .i64 (-1)) ∧ w' = w := by
  have a0 : max f 0 = f := by have := h.n1; omega
  have HI : Hid (Calls Tryd.prog 36 #[.pointer (some ⟨g, 0, none⟩), .int .i64 f] w fun e w' => e = .returned (.bool false) ∧ w' = w) := inside_no _ h f (.inr hf)
  clear h
  go_enter Tryd.func50, Tryd.ntmps50
  go_wp2_with fail
  refine HI.out.mono ?_
  rintro e w' ⟨rfl, rfl⟩
  go_wp2_with fail
  go_ret
  exact ⟨rfl, rfl⟩
theorem nat_ne_neg (k : Nat) : ((k : Nat) : Int) ≠ -1 := by omega
set_option maxHeartbeats 4000000 in
theorem seek_in (w : World) (hT : TabAt w) (h : BM w B g n b c W) (f : Int) (m : Nat) (hm : max f 0 = (m : Int)) (hf : m < n) (tn : Nat) (is : Bool) (ht : Turn tn is) : Calls Tryd.prog 50 #[.pointer (some ⟨g, 0, none⟩), .int .i64 f, .int .u64 (tn : Int)] w fun e w' => e = .returned (.int .i64 (nxt (bitF W) is n m)) ∧ w' = w := by
  have c1 := h.c1
  have hq := quo64 m
  have hn2 := h.n2
  have hwq : IntKind.i64.wrap ((m / 64 : Nat) : Int) = ((m / 64 : Nat) : Int) := wrapI64_id _ (by omega) (by omega)
  have hk0 := lvN_le hn2
  have hkn : n ≤ 64 * (16 * lvN n) := by have := lvN_ge (n := n); omega
  have HI : Hid (Calls Tryd.prog 36 #[.pointer (some ⟨g, 0, none⟩), .int .i64 (m : Int)] w fun e w' => e = .returned (.bool true) ∧ w' = w) := inside_yes _ h m hf
  have HJ : Hid (∀ p : Nat, p < n → Calls Tryd.prog 36 #[.pointer (some ⟨g, 0, none⟩), .int .i64 (p : Int)] w fun e w' => e = .returned (.bool true) ∧ w' = w) := fun p hp => inside_yes _ h p hp
  have HK : Hid (∀ p : Nat, n ≤ p → Calls Tryd.prog 36 #[.pointer (some ⟨g, 0, none⟩), .int .i64 (p : Int)] w fun e w' => e = .returned (.bool false) ∧ w' = w) := fun p hp => inside_no _ h p (.inr (by omega))
  have HO := one_any m (by omega) w
  have HW : Hid (∀ i, i < 16 * lvN n → w.cell? ⟨b, i, none⟩ = some (.int .u64 ((W i : Nat) : Int))) := fun i hi => h.word hi
  have HX : Hid (∀ i, bits .xor .u64 ((W i : Nat) : Int) (tn : Int) = ((W i ^^^ tn : Nat) : Int)) := fun i => u64_xor_nat _ _ (h.lt i) ht.lt
  have hpow : 2 ^ (m % 64) < 18446744073709551616 := pow_lt_u64 _ (by omega)
  have hpos : 0 < 2 ^ (m % 64) := Nat.two_pow_pos _
  have HA : IntKind.u64.wrap (((2 ^ (m % 64) : Nat) : Int) - 1) = ((2 ^ (m % 64) - 1 : Nat) : Int) := by
    rw [show ((2 ^ (m % 64) : Nat) : Int) - 1 = ((2 ^ (m % 64) - 1 : Nat) : Int) from by omega]
    exact wrapU64 _ (by omega)
  have HN : bits .andNot .u64 ((W (m / 64) ^^^ tn : Nat) : Int) ((2 ^ (m % 64) - 1 : Nat) : Int) = (((W (m / 64) ^^^ tn) &&& notN (2 ^ (m % 64) - 1) : Nat) : Int) := u64_andNot_nat _ _ (xor_lt64 _ _ (h.lt _) ht.lt) (by omega)
  have HL := left_first ht h.lt m
  have HNX : Hid (∀ a, Left W is m a 0 → Left W is m (a + 1) (W (a + 1) ^^^ tn)) := fun a ha => left_next ht h.lt ha
  have cw := HW.out (m / 64) (by omega)
  have HX0 := HX.out (m / 64)
  have i0 : ((m / 64 : Nat) : Int) < ((16 * lvN n : Nat) : Int) := by omega
  clear h ht hpow hpos
  generalize hx1 : W (m / 64) ^^^ tn = x1 at *
  generalize 2 ^ (m % 64) - 1 = x2 at *
  generalize 2 ^ (m % 64) = x3 at *
  generalize x1 &&& notN x2 = x4 at *
  generalize W (m / 64) = x0 at *
  have hk : 16 * lvN n ≤ 128 := by omega
  clear hk0 hx1
  generalize hq0 : m / 64 = a0 at *
  generalize 16 * lvN n = k at *
  have a0k : a0 < k := by omega
  by_cases hneg : f < 0
  · obtain rfl : m = 0 := by omega
    obtain rfl : a0 = 0 := by omega
    go_enter Tryd.func50, Tryd.ntmps50
    go_wp2_with fail
    refine HI.out.mono ?_
    rintro e w' ⟨rfl, rfl⟩
    go_wp2_with fail
    refine HO.mono ?_
    rintro e w' ⟨rfl, rfl⟩
    go_wp2_with fail
    have HL0 : Hid (Left W is 0 0 x4) := HL
    clear HI HO HA HN HX0 cw HL hq0 hq hwq i0 hm hneg
    go_loop [7, 9] (fun t x => ∃ a y : Nat, a < k ∧ t = .int .i64 (a : Int) ∧ x = .int .u64 (y : Int) ∧ Left W is 0 a y) (fun t _ => k - (intOf t).toNat)
    case atStart => exact ⟨0, x4, a0k, rfl, rfl, HL0.out⟩
    case round =>
      obtain ⟨a, y, ha, rfl, rfl, hy⟩ := hrel
      have hy1 := hy.2.1
      by_cases h0 : y = 0
      · subst h0
        have HY : Hid (Left W is 0 a 0) := hy
        clear hy
        by_cases hlt : a + 1 < k
        · have hw : wrap64 ((a : Int) + 1) = ((a + 1 : Nat) : Int) := by rw [w64, wrapI64_id _ (by omega) (by omega)]; omega
          have cw := HW.out (a + 1) hlt
          have b1 : ¬ (((a + 1 : Nat) : Int) = (k : Int)) := by omega
          have b2 : ((a + 1 : Nat) : Int) < (k : Int) := by omega
          have HX0 := HX.out (a + 1)
          have HY2 := HNX.out a HY.out
          have HY3 : Hid (Left W is 0 (a + 1) (W (a + 1) ^^^ tn)) := HY2
          clear HY2
          have HM : Hid (a + 1 < k ∧ a < k) := ⟨hlt, ha⟩
          generalize W (a + 1) ^^^ tn = y2 at *
          generalize hA1 : a + 1 = a1 at *
          go_wp2
          go_round
          case rel => exact ⟨a1, y2, HM.out.1, by rw [← hA1]; rfl, rfl, HY3.out⟩
          case measure => simp [intOf]; have := HM.out; omega
        · have hw : wrap64 ((a : Int) + 1) = (k : Int) := by rw [w64, wrapI64_id _ (by omega) (by omega)]; omega
          have hr : NextIs (bitF W) is n 0 (-1) := ⟨fun _ p h1 h2 => left_all HY.out p h1 (by omega), fun e => absurd rfl e⟩
          have HR : Hid ((-1 : Int) = nxt (bitF W) is n 0) := nxt_eq hr
          clear hr
          go_wp2
          go_ret
          exact ⟨by rw [← HR.out]; rfl, rfl⟩
      · obtain ⟨l1, l2, l3, l4⟩ := left_low hy h0
        have HLow := low_any y hy1 h0 _ hT
        have ep : ((64 * a + Lib.ctz 64 y : Nat) : Int) = (a : Int) * 64 + (Lib.ctz 64 y : Int) := by omega
        have e0 : ((y : Int) == 0) = false := by simp; omega
        generalize Lib.ctz 64 y = z at *
        by_cases hpn : 64 * a + z < n
        · have hr : NextIs (bitF W) is n 0 ((64 * a + z : Nat) : Int) := ⟨fun e => absurd e (nat_ne_neg _), fun _ => ⟨64 * a + z, Eq.refl _, l1, hpn, l2, l3⟩⟩
          have HR : Hid (((64 * a + z : Nat) : Int) = nxt (bitF W) is n 0) := nxt_eq hr
          clear hr
          have HIN := HJ.out _ hpn
          clear l1 l2 l3 hy hpn
          rw [ep] at HIN HR
          clear ep
          go_wp2_with fail
          refine HLow.mono ?_
          intro e w2 hw2
          obtain ⟨he2, hw2⟩ := hw2
          subst he2
          subst hw2
          go_wp2_with fail
          refine HIN.mono ?_
          intro e w2 hw2
          obtain ⟨he2, hw2⟩ := hw2
          subst he2
          subst hw2
          go_wp2_with fail
          go_ret
          exact ⟨by rw [← HR.out]; rfl, rfl⟩
        · have hr : NextIs (bitF W) is n 0 (-1) := ⟨fun _ p h1 h2 => l3 p h1 (Nat.lt_of_lt_of_le h2 (Nat.le_of_not_lt hpn)), fun e => absurd rfl e⟩
          have HR : Hid ((-1 : Int) = nxt (bitF W) is n 0) := nxt_eq hr
          clear hr
          have HIN := HK.out (64 * a + z) (Nat.le_of_not_lt hpn)
          clear l1 l2 l3 hy hpn
          rw [ep] at HIN
          clear ep
          go_wp2_with fail
          refine HLow.mono ?_
          intro e w2 hw2
          obtain ⟨he2, hw2⟩ := hw2
          subst he2
          subst hw2
          go_wp2_with fail
          refine HIN.mono ?_
          intro e w2 hw2
          obtain ⟨he2, hw2⟩ := hw2
          subst he2
          subst hw2
          go_wp2_with fail
          go_ret
          exact ⟨by rw [← HR.out]; rfl, rfl⟩
  · obtain rfl : f = (m : Int) := by omega
    clear hm hneg
    have hneg2 : (0 : Int) ≤ (m : Int) := by omega
    go_enter Tryd.func50, Tryd.ntmps50
    go_wp2_with fail
    refine HI.out.mono ?_
    rintro e w' ⟨rfl, rfl⟩
    go_wp2_with fail
    refine HO.mono ?_
    rintro e w' ⟨rfl, rfl⟩
    go_wp2_with fail
    have HL0 : Hid (Left W is m a0 x4) := HL
    clear HI HO HA HN HX0 cw HL hq0 hq hwq i0
    go_loop [7, 9] (fun t x => ∃ a y : Nat, a < k ∧ t = .int .i64 (a : Int) ∧ x = .int .u64 (y : Int) ∧ Left W is m a y) (fun t _ => k - (intOf t).toNat)
    case atStart => exact ⟨a0, x4, a0k, rfl, rfl, HL0.out⟩
    case round =>
      obtain ⟨a, y, ha, rfl, rfl, hy⟩ := hrel
      have hy1 := hy.2.1
      by_cases h0 : y = 0
      · subst h0
        have HY : Hid (Left W is m a 0) := hy
        clear hy
        by_cases hlt : a + 1 < k
        · have hw : wrap64 ((a : Int) + 1) = ((a + 1 : Nat) : Int) := by rw [w64, wrapI64_id _ (by omega) (by omega)]; omega
          have cw := HW.out (a + 1) hlt
          have b1 : ¬ (((a + 1 : Nat) : Int) = (k : Int)) := by omega
          have b2 : ((a + 1 : Nat) : Int) < (k : Int) := by omega
          have HX0 := HX.out (a + 1)
          have HY2 := HNX.out a HY.out
          have HY3 : Hid (Left W is m (a + 1) (W (a + 1) ^^^ tn)) := HY2
          clear HY2
          have HM : Hid (a + 1 < k ∧ a < k) := ⟨hlt, ha⟩
          generalize W (a + 1) ^^^ tn = y2 at *
          generalize hA1 : a + 1 = a1 at *
          go_wp2
          go_round
          case rel => exact ⟨a1, y2, HM.out.1, by rw [← hA1]; rfl, rfl, HY3.out⟩
          case measure => simp [intOf]; have := HM.out; omega
        · have hw : wrap64 ((a : Int) + 1) = (k : Int) := by rw [w64, wrapI64_id _ (by omega) (by omega)]; omega
          have hr : NextIs (bitF W) is n m (-1) := ⟨fun _ p h1 h2 => left_all HY.out p h1 (by omega), fun e => absurd rfl e⟩
          have HR : Hid ((-1 : Int) = nxt (bitF W) is n m) := nxt_eq hr
          clear hr
          go_wp2
          go_ret
          exact ⟨by rw [← HR.out]; rfl, rfl⟩
      · obtain ⟨l1, l2, l3, l4⟩ := left_low hy h0
        have HLow := low_any y hy1 h0 _ hT
        have ep : ((64 * a + Lib.ctz 64 y : Nat) : Int) = (a : Int) * 64 + (Lib.ctz 64 y : Int) := by omega
        have e0 : ((y : Int) == 0) = false := by simp; omega
        generalize Lib.ctz 64 y = z at *
        by_cases hpn : 64 * a + z < n
        · have hr : NextIs (bitF W) is n m ((64 * a + z : Nat) : Int) := ⟨fun e => absurd e (nat_ne_neg _), fun _ => ⟨64 * a + z, Eq.refl _, l1, hpn, l2, l3⟩⟩
          have HR : Hid (((64 * a + z : Nat) : Int) = nxt (bitF W) is n m) := nxt_eq hr
          clear hr
          have HIN := HJ.out _ hpn
          clear l1 l2 l3 hy hpn
          rw [ep] at HIN HR
          clear ep
          go_wp2_with fail
          refine HLow.mono ?_
          intro e w2 hw2
          obtain ⟨he2, hw2⟩ := hw2
          subst he2
          subst hw2
          go_wp2_with fail
          refine HIN.mono ?_
          intro e w2 hw2
          obtain ⟨he2, hw2⟩ := hw2
          subst he2
          subst hw2
          go_wp2_with fail
          go_ret
          exact ⟨by rw [← HR.out]; rfl, rfl⟩
        · have hr : NextIs (bitF W) is n m (-1) := ⟨fun _ p h1 h2 => l3 p h1 (Nat.lt_of_lt_of_le h2 (Nat.le_of_not_lt hpn)), fun e => absurd rfl e⟩
          have HR : Hid ((-1 : Int) = nxt (bitF W) is n m) := nxt_eq hr
          clear hr
          have HIN := HK.out (64 * a + z) (Nat.le_of_not_lt hpn)
          clear l1 l2 l3 hy hpn
          rw [ep] at HIN
          clear ep
          go_wp2_with fail
          refine HLow.mono ?_
          intro e w2 hw2
          obtain ⟨he2, hw2⟩ := hw2
          subst he2
          subst hw2
          go_wp2_with fail
          refine HIN.mono ?_
          intro e w2 hw2
          obtain ⟨he2, hw2⟩ := hw2
          subst he2
          subst hw2
          go_wp2_with fail
          go_ret
          exact ⟨by rw [← HR.out]; rfl, rfl⟩
/-- Next and Free: the least place from one on that is one, that is nought -/
def fromN (f : Int) : Nat := (max f 0).toNat
theorem seek_any (w : World) (hT : TabAt w) (h : BM w B g n b c W) (f : Int) (tn : Nat) (is : Bool) (ht : Turn tn is) : Calls Tryd.prog 50 #[.pointer (some ⟨g, 0, none⟩), .int .i64 f, .int .u64 (tn : Int)] w fun e w' => e = .returned (.int .i64 (nxt (bitF W) is n (fromN f))) ∧ w' = w := by
  by_cases hf : (n : Int) ≤ f
  · refine (seek_out w h f tn hf).mono ?_
    rintro e w' ⟨rfl, rfl⟩
    have hr : NextIs (bitF W) is n (fromN f) (-1) := ⟨fun _ p h1 h2 => by unfold fromN at h1; omega, fun e => absurd rfl e⟩
    exact ⟨by rw [← nxt_eq hr], rfl⟩
  · exact seek_in w hT h f (fromN f) (by unfold fromN; omega) (by have := h.n1; unfold fromN; omega) tn is ht
theorem next_any (w : World) (hT : TabAt w) (h : BM w B g n b c W) (f : Int) : Calls Tryd.prog 33 #[.pointer (some ⟨g, 0, none⟩), .int .i64 f] w fun e w' => e = .returned (.int .i64 (nxt (bitF W) true n (fromN f))) ∧ w' = w := by
  have HS : Hid (Calls Tryd.prog 50 #[.pointer (some ⟨g, 0, none⟩), .int .i64 f, .int .u64 0] w fun e w' => e = .returned (.int .i64 (nxt (bitF W) true n (fromN f))) ∧ w' = w) := seek_any w hT h f 0 true (.inl ⟨rfl, rfl⟩)
  clear h
  generalize nxt (bitF W) true n (fromN f) = r at *
  go_enter Tryd.func33, Tryd.ntmps33
  go_wp2_with fail
  refine HS.out.mono ?_
  rintro e w' ⟨rfl, rfl⟩
  go_wp2_with fail
  go_ret
  exact ⟨rfl, rfl⟩
theorem free_any (w : World) (hT : TabAt w) (h : BM w B g n b c W) (f : Int) : Calls Tryd.prog 32 #[.pointer (some ⟨g, 0, none⟩), .int .i64 f] w fun e w' => e = .returned (.int .i64 (nxt (bitF W) false n (fromN f))) ∧ w' = w := by
  have HS : Hid (Calls Tryd.prog 50 #[.pointer (some ⟨g, 0, none⟩), .int .i64 f, .int .u64 18446744073709551615] w fun e w' => e = .returned (.int .i64 (nxt (bitF W) false n (fromN f))) ∧ w' = w) := seek_any w hT h f 18446744073709551615 false (.inr ⟨rfl, rfl⟩)
  clear h
  generalize nxt (bitF W) false n (fromN f) = r at *
  go_enter Tryd.func32, Tryd.ntmps32
  go_wp2_with fail
  refine HS.out.mono ?_
  rintro e w' ⟨rfl, rfl⟩
  go_wp2_with fail
  go_ret
  exact ⟨rfl, rfl⟩
end
end Go.Proofs.YtkaaenkhiooomaaDoor
