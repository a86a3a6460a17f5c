/- The leaves of a text: the program's contract of Cut. -/
import Derived.Test.YtgcnmopgpdmocaaDoorHSegsP
import Derived.Deep.QuietTactic
import Derived.BigQuiet
import Derived.Deep.Heap
import Derived.Handy
import Derived.Test.YtgcnmopgpdmocaaDoorHBlkOwn
import Derived.OpenShut
import Derived.Deep.MidRow
import Derived.Great.BuildSlice
import Derived.OwnWalk
import Derived.Maps.AppendAt

namespace Go.Proofs.YtgcnmopgpdmocaaDoor
open Go Go.RowKit
set_option linter.unusedVariables false
set_option linter.unusedSimpArgs false

def wdL (W : Nat → Nat) (m : Nat) : List Value := (List.range m).map (iv .u64 W)
theorem wdL_at (W : Nat → Nat) (m i : Nat) (h : i < m) : (wdL W m)[i]? = some (.int .u64 ((W i : Nat) : Int)) := by simp [wdL, iv, h]
theorem wdL_len (W : Nat → Nat) (m : Nat) : (wdL W m).length = m := by simp [wdL]
theorem wdL_one (W : Nat → Nat) (m : Nat) : ∀ u ∈ wdL W m, u.oneCell' = true := fun u hu => by
  obtain ⟨i, _, rfl⟩ := List.mem_map.1 hu
  rfl
theorem wdL_set (W : Nat → Nat) (m i x : Nat) : (wdL W m).set i (.int .u64 ((x : Nat) : Int)) = wdL (updN W i x) m := by
  apply List.ext_getElem?
  intro j
  rw [List.getElem?_set]
  by_cases hj : j < m
  · rw [wdL_at (updN W i x) _ _ hj]
    by_cases he : i = j
    · subst he
      rw [if_pos rfl, wdL_len, if_pos hj]
      unfold updN
      rw [if_pos rfl]
    · rw [if_neg he, wdL_at _ _ _ hj]
      unfold updN
      rw [if_neg (Ne.symm he)]
  · have e1 : (wdL W m)[j]? = none := List.getElem?_eq_none (by rw [wdL_len]; omega)
    have e2 : (wdL (updN W i x) m)[j]? = none := List.getElem?_eq_none (by rw [wdL_len]; omega)
    rw [e1, e2, wdL_len]
    split
    · rw [if_neg (by omega)]
    · rfl
/-- only one block turns -/
structure Only (b : Nat) (w w' : World) : Prop where
  os : w'.os = w.os
  tape : w'.tape = w.tape
  output : w'.output = w.output
  size : w.heap.size ≤ w'.heap.size
  block : ∀ k, k < w.heap.size → k ≠ b → w'.heap[k]? = w.heap[k]?
theorem Only.of_below {b : Nat} {w w' : World} (h : Below w.heap.size w w') : Only b w w' := ⟨h.os, h.tape, h.output, h.size, fun k hk _ => h.block k hk⟩
theorem Only.below {b B : Nat} {w w' : World} (h : Only b w w') (hB : B ≤ w.heap.size) (hb : B ≤ b) : Below B w w' := ⟨h.os, h.tape, h.output, h.size, fun k hk => h.block k (by omega) (by omega)⟩
theorem Only.trans {b b' : Nat} {w v u : World} (h : Only b w v) (k : Only b' v u) (hb : b' = b ∨ w.heap.size ≤ b') : Only b w u :=
  ⟨k.os.trans h.os, k.tape.trans h.tape, k.output.trans h.output, Nat.le_trans h.size k.size, fun j hj hne => (k.block j (Nat.lt_of_lt_of_le hj h.size) fun e => by rcases hb with z | z <;> omega).trans (h.block j hj hne)⟩
theorem Only.set (w : World) (b j : Nat) (x : Value) : Only b w (w.setCell ⟨b, j, none⟩ x) := ⟨rfl, rfl, rfl, by rw [Deep.nblk_setCell]; exact Nat.le_refl _, fun k _ hk => Deep.blk_setCell_other w ⟨b, j, none⟩ x k hk⟩
theorem Only.drew (b : Nat) (w : World) : Only b w w.drew := ⟨rfl, rfl, rfl, Nat.le_refl _, fun _ _ _ => rfl⟩
theorem Only.drewN (b : Nat) (w : World) (m : Nat) : Only b w (w.drewN m) := ⟨rfl, rfl, rfl, Nat.le_refl _, fun _ _ _ => rfl⟩
theorem below_dN {B : Nat} {w0 w : World} (h : Below B w0 w) (n : Nat) : Below B w0 (w.drewN n) := ⟨h.1, h.2, h.3, h.4, h.5⟩

/-- a map of n bits in block g, its words in block b -/
structure BM (w : World) (B g n b c : Nat) (W : Nat → Nat) : Prop where
  n1 : 1 ≤ n
  n2 : n ≤ 8192
  gB : B ≤ g
  cells : Blk w g 61 #[.int .i64 (n : Int), .slice (some ⟨b, 0, none⟩) (16 * lvN n) c]
  row : w.ownsRow B 57 1 (.slice (some ⟨b, 0, none⟩) (16 * lvN n) c) (16 * lvN n) (wdL W (16 * lvN n))
  lt : ∀ i, W i < 18446744073709551616
  tail : ∀ p, n ≤ p → bitF W p = false
section
variable {w w' : World} {B g n b c : Nat} {W : Nat → Nat}
theorem lvN_le (h : n ≤ 8192) : lvN n ≤ 8 := by unfold lvN; omega
theorem lvN_ge : n ≤ 1024 * lvN n := by unfold lvN; omega
theorem lvN_pos (h : 1 ≤ n) : 1 ≤ lvN n := by unfold lvN; omega
theorem BM.glt (h : BM w B g n b c W) : g < w.heap.size := h.cells.lt
theorem BM.blt (h : BM w B g n b c W) : B ≤ b ∧ b < w.heap.size := h.row.lt b rfl
theorem BM.ne (h : BM w B g n b c W) : b ≠ g := by
  rcases h.row.2 with ⟨hn, _⟩ | ⟨g', cap', cur, hv, hb, hg, _⟩
  · cases hn
  · injection hv with hv1 hv2 hv3
    injection hv1 with hv1
    injection hv1 with hv1
    subst hv1
    intro e
    rw [e] at hg
    have := h.cells
    unfold Blk at this
    rw [hg] at this
    injection this with this
    injection this with h1 h2
    exact absurd h2 (by decide)
theorem BM.keep (h : BM w B g n b c W) (hg : w'.heap[g]? = w.heap[g]?) (hb : w'.heap[b]? = w.heap[b]?) : BM w' B g n b c W :=
  ⟨h.n1, h.n2, h.gB, hg.trans h.cells, kown_kept h.row fun k _ hv => by
    have : k = b := by simp [Value.ownBlock] at hv; omega
    subst this
    exact hb, h.lt, h.tail⟩
theorem BM.below (h : BM w B g n b c W) (hb : Below w.heap.size w w') : BM w' B g n b c W := h.keep (hb.block g h.glt) (hb.block b h.blt.2)
theorem BM.only {b' : Nat} (h : BM w B g n b c W) (ho : Only b' w w') (h1 : b' ≠ g) (h2 : b' ≠ b) : BM w' B g n b c W := h.keep (ho.block g h.glt (Ne.symm h1)) (ho.block b h.blt.2 (Ne.symm h2))
theorem BM.dN (h : BM w B g n b c W) (m : Nat) : BM (w.drewN m) B g n b c W := h.keep rfl rfl
theorem BM.mono {B' : Nat} (h : BM w B g n b c W) (hB : B' ≤ B) : BM w B' g n b c W := ⟨h.n1, h.n2, Nat.le_trans hB h.gB, h.cells, kown_mono h.row hB, h.lt, h.tail⟩
theorem BM.congr {V : Nat → Nat} (h : BM w B g n b c W) (hV : ∀ i, V i < 18446744073709551616) (he : ∀ p, bitF V p = bitF W p) : BM w B g n b c V := by
  have : V = W := funext fun i => words_ext hV h.lt he i
  rw [this]
  exact h
theorem BM.c0 (h : BM w B g n b c W) : w.cell? ⟨g, 0, none⟩ = some (.int .i64 (n : Int)) := by rw [h.cells.cell]; rfl
theorem BM.c1 (h : BM w B g n b c W) : w.cell? ⟨g, 1, none⟩ = some (.slice (some ⟨b, 0, none⟩) (16 * lvN n) c) := by rw [h.cells.cell]; rfl
theorem BM.word (h : BM w B g n b c W) {i : Nat} (hi : i < 16 * lvN n) : w.cell? ⟨b, i, none⟩ = some (.int .u64 ((W i : Nat) : Int)) := by
  rw [h.row.cellAt i (by omega), wdL_at _ _ _ hi]
theorem BM.word_in (h : BM w B g n b c W) {p : Nat} (hp : p < n) : p / 64 < 16 * lvN n := by
  have := lvN_ge (n := n)
  omega
theorem BM.frozen (h : BM w B g n b c W) (i : Nat) : w.frozen? ⟨b, i, none⟩ = false := h.row.frozenAt i
/-- a word laid -/
theorem BM.put (h : BM w B g n b c W) {i x : Nat} (hi : i < 16 * lvN n) (hx : x < 18446744073709551616) (ht : ∀ p, n ≤ p → bitF (updN W i x) p = false) : BM (w.setCell ⟨b, i, none⟩ (.int .u64 ((x : Nat) : Int))) B g n b c (updN W i x) :=
  ⟨h.n1, h.n2, h.gB, h.cells.put_other _ _ (Ne.symm h.ne), by
    have := (h.row.stored i (.int .u64 ((x : Nat) : Int))).1
    rw [wdL_set] at this
    exact this, fun j => by unfold updN; split; exact hx; exact h.lt j, ht⟩

theorem bsize_any (w : World) (h : BM w B g n b c W) : Calls Tryd.prog 33 #[.pointer (some ⟨g, 0, none⟩)] w fun e w' => e = .returned (.int .i64 (n : Int)) ∧ w' = w := by
  have c0 := h.c0
  clear h
  go_enter Tryd.func33, Tryd.ntmps33
  go_wp2
  go_ret
  exact ⟨rfl, rfl⟩
theorem inside_yes (w : World) (h : BM w B g n b c W) (p : Nat) (hp : p < n) : Calls Tryd.prog 38 #[.pointer (some ⟨g, 0, none⟩), .int .i64 (p : Int)] w fun e w' => e = .returned (.bool true) ∧ w' = w := by
  have hp' : (p : Int) < (n : Int) := by omega
  have HS : Hid (Calls Tryd.prog 33 #[.pointer (some ⟨g, 0, none⟩)] w fun e w' => e = .returned (.int .i64 (n : Int)) ∧ w' = w) := bsize_any w h
  clear h hp
  go_enter Tryd.func38, Tryd.ntmps38
  go_wp2_with fail
  refine HS.out.mono ?_
  rintro e w' ⟨rfl, rfl⟩
  go_wp2
  go_ret
  exact ⟨by simp [hp'], rfl⟩
theorem inside_no (w : World) (h : BM w B g n b c W) (p : Int) (hp : p < 0 ∨ (n : Int) ≤ p) : Calls Tryd.prog 38 #[.pointer (some ⟨g, 0, none⟩), .int .i64 p] w fun e w' => e = .returned (.bool false) ∧ w' = w := by
  have HS : Hid (Calls Tryd.prog 33 #[.pointer (some ⟨g, 0, none⟩)] w fun e w' => e = .returned (.int .i64 (n : Int)) ∧ w' = w) := bsize_any w h
  clear h
  by_cases h0 : p < 0
  · clear HS
    have h1 : ¬ (0 ≤ p) := by omega
    go_enter Tryd.func38, Tryd.ntmps38
    go_wp2
    go_ret
    exact ⟨rfl, rfl⟩
  · have h1 : 0 ≤ p := by omega
    have h2 : ¬ (p < (n : Int)) := by omega
    go_enter Tryd.func38, Tryd.ntmps38
    go_wp2_with fail
    refine HS.out.mono ?_
    rintro e w' ⟨rfl, rfl⟩
    go_wp2
    go_ret
    exact ⟨by simp [h2], rfl⟩
theorem quo64 (p : Nat) : (p : Int).tdiv 64 = ((p / 64 : Nat) : Int) := by
  rw [Int.tdiv_eq_ediv_of_nonneg (by omega)]; omega
set_option maxHeartbeats 1000000 in
theorem has_yes (w : World) (h : BM w B g n b c W) (p : Nat) (hp : p < n) : Calls Tryd.prog 25 #[.pointer (some ⟨g, 0, none⟩), .int .i64 (p : Int)] w fun e w' => e = .returned (.bool (bitF W p)) ∧ ∃ m, w' = w.drewN m := by
  have c1 := h.c1
  have cw := h.word (h.word_in hp)
  have hq := quo64 p
  have hwq : IntKind.i64.wrap ((p / 64 : Nat) : Int) = ((p / 64 : Nat) : Int) := wrapI64_id _ (by omega) (by have := h.n2; omega)
  have i0 : ((p / 64 : Nat) : Int) < ((16 * lvN n : Nat) : Int) := by have := h.word_in hp; omega
  have HI : Hid (∀ m, Calls Tryd.prog 38 #[.pointer (some ⟨g, 0, none⟩), .int .i64 (p : Int)] (w.drewN m) fun e w' => e = .returned (.bool true) ∧ w' = (w.drewN m)) := fun m => inside_yes _ (h.dN m) p hp
  have HO : Hid (∀ m, Calls Tryd.prog 39 #[.int .i64 (p : Int)] (w.drewN m) fun e w' => e = .returned (.int .u64 ((2 ^ (p % 64) : Nat) : Int)) ∧ w' = (w.drewN m)) := fun m => one_any p (by have := h.n2; omega) _
  have HB : Hid (((bits .and .u64 ((W (p / 64) : Nat) : Int) ((2 ^ (p % 64) : Nat) : Int)) != 0) = bitF W p) := by
    show ((bits .and .u64 ((W (p / 64) : Nat) : Int) ((2 ^ (p % 64) : Nat) : Int)) != 0) = bitF W p
    rw [u64_and_nat _ _ (h.lt _) (pow_lt_u64 _ (by omega))]
    unfold bitF
    rw [bne, and_pow_ne]
    simp
  clear h hp
  generalize p / 64 = q at *
  generalize W q = x at *
  generalize 2 ^ (p % 64) = y at *
  generalize 16 * lvN n = k at *
  go_enter Tryd.func25, Tryd.ntmps25
  go_wp2_with fail
  go_quiet (first
    | (go_at_call 38; exact Calls.quiet_of_same (HI.out _))
    | (go_at_call 39; exact Calls.quiet_of_same (HO.out _)))
  go_wp2_with fail
  go_ret
  exact ⟨by rw [← HB.out]; rfl, _, rfl⟩
theorem has_no (w : World) (h : BM w B g n b c W) (p : Int) (hp : p < 0 ∨ (n : Int) ≤ p) : Calls Tryd.prog 25 #[.pointer (some ⟨g, 0, none⟩), .int .i64 p] w fun e w' => e = .returned (.bool false) ∧ ∃ m, w' = w.drewN m := by
  have HI : Hid (∀ m, Calls Tryd.prog 38 #[.pointer (some ⟨g, 0, none⟩), .int .i64 p] (w.drewN m) fun e w' => e = .returned (.bool false) ∧ w' = (w.drewN m)) := fun m => inside_no _ (h.dN m) p hp
  clear h hp
  go_enter Tryd.func25, Tryd.ntmps25
  go_wp2_with fail
  go_quiet ((go_at_call 38; exact Calls.quiet_of_same (HI.out _)))
  go_wp2_with fail
  go_ret
  exact ⟨rfl, _, rfl⟩
set_option maxHeartbeats 2000000 in
theorem set_new (w : World) (h : BM w B g n b c W) (p : Nat) (hp : p < n) (hf : bitF W p = false) : Calls Tryd.prog 14 #[.pointer (some ⟨g, 0, none⟩), .int .i64 (p : Int)] w fun e w' => e = .returned (.bool true) ∧ BM w' B g n b c (putW W p) ∧ Only b w w' := by
  have hq := quo64 p
  have hwq : IntKind.i64.wrap ((p / 64 : Nat) : Int) = ((p / 64 : Nat) : Int) := wrapI64_id _ (by omega) (by have := h.n2; omega)
  have i0 : ((p / 64 : Nat) : Int) < ((16 * lvN n : Nat) : Int) := by have := h.word_in hp; omega
  have HI : Hid (Calls Tryd.prog 38 #[.pointer (some ⟨g, 0, none⟩), .int .i64 (p : Int)] w fun e w' => e = .returned (.bool true) ∧ w' = w) := inside_yes _ h p hp
  have HH : Hid (Calls Tryd.prog 25 #[.pointer (some ⟨g, 0, none⟩), .int .i64 (p : Int)] w fun e w' => e = .returned (.bool (bitF W p)) ∧ ∃ m, w' = w.drewN m) := has_yes w h p hp
  have HO : Hid (∀ w : World, Calls Tryd.prog 39 #[.int .i64 (p : Int)] w fun e w' => e = .returned (.int .u64 ((2 ^ (p % 64) : Nat) : Int)) ∧ w' = w) := fun w => one_any p (by have := h.n2; omega) _
  have HV : Hid (bits .or .u64 ((W (p / 64) : Nat) : Int) ((2 ^ (p % 64) : Nat) : Int) = ((putW W p (p / 64) : Nat) : Int)) := by
    show bits .or .u64 ((W (p / 64) : Nat) : Int) ((2 ^ (p % 64) : Nat) : Int) = ((putW W p (p / 64) : Nat) : Int)
    rw [u64_or_nat _ _ (h.lt _) (pow_lt_u64 _ (by omega))]
    unfold putW updN
    rw [if_pos rfl]

  have HP : Hid (∀ V : World, BM V B g n b c W → BM (V.setCell ⟨b, p / 64, none⟩ (.int .u64 ((putW W p (p / 64) : Nat) : Int))) B g n b c (putW W p)) := fun V hV => by
    have e : putW W p = updN W (p / 64) (putW W p (p / 64)) := by
      unfold putW
      funext i
      unfold updN
      split <;> simp_all
    have ht : ∀ r, n ≤ r → bitF (putW W p) r = false := fun r hr => by
      rw [bitF_put, hV.tail r hr]
      simp; omega
    rw [e] at ht
    have := hV.put (hV.word_in hp) (putW_lt hV.lt p (p / 64)) ht
    rw [← e] at this
    exact this
  rw [hf] at HH
  generalize hw' : putW W p = W' at *
  clear hw' hf
  go_enter Tryd.func14, Tryd.ntmps14
  go_wp2_with fail
  refine HI.out.mono ?_
  rintro e w1 ⟨rfl, rfl⟩
  go_wp2_with fail
  refine HH.out.mono ?_
  rintro e w2 ⟨rfl, md, rfl⟩
  go_wp2_with fail
  have h1 : BM (w1.drewN md).drew B g n b c W := h.keep rfl rfl
  have ho1 : Only b w1 (w1.drewN md).drew := (Only.drewN _ _ _).trans (Only.drew b _) (.inl rfl)
  have cw := h1.word (h1.word_in hp)
  have cf := h1.frozen (p / 64)
  have c1 := h1.c1
  clear HI HH h hp
  generalize (w1.drewN md) = v at *
  generalize p / 64 = q at *
  generalize hx : W q = x at *
  clear hx
  generalize W' q = x' at *
  generalize 2 ^ (p % 64) = y at *
  generalize hk : 16 * lvN n = k at *
  clear hk
  have S0 : v.drew.cell? ⟨g, 1, none⟩ = some (.slice (some ⟨b, 0, none⟩) k c) ∧ v.drew.cell? ⟨b, q, none⟩ = some (.int .u64 (x : Int)) ∧ v.drew.frozen? ⟨b, q, none⟩ = false ∧ BM v.drew B g n b c W ∧ Only b w1 v.drew := ⟨c1, cw, cf, h1, ho1⟩
  clear c1 cw cf h1 ho1
  refine wp_region_partsS (fun V => V.cell? ⟨g, 1, none⟩ = some (.slice (some ⟨b, 0, none⟩) k c) ∧ V.cell? ⟨b, q, none⟩ = some (.int .u64 (x : Int)) ∧ V.frozen? ⟨b, q, none⟩ = false ∧ BM V B g n b c W ∧ Only b w1 V) [([0, 4, 8], 1, true), ([], 2, true), ([], 3, true), ([], 5, true), ([6], 7, true), ([], 9, false), ([], 10, false)] [11] [12] (by kernel_rfl) (by kernel_rfl) S0 (partsI_yield ?_)
  simp only [List.cons_append, List.nil_append, List.append_nil, List.filterMap_cons, List.filterMap_nil, List.getElem?_toArray, List.getElem?_cons_zero, List.getElem?_cons_succ]
  go_wp2_with fail
  refine ⟨rfl, _, .pointer (some ⟨g, 0, none⟩), rfl, Or.inl ⟨by rfl, fun W hW => by go_simp⟩, partsI_yield ?_⟩
  simp only [Act.put, List.setIfInBounds_toArray, List.set_cons_zero, List.set_cons_succ]
  simp only [List.cons_append, List.nil_append, List.append_nil, List.filterMap_cons, List.filterMap_nil, List.getElem?_toArray, List.getElem?_cons_zero, List.getElem?_cons_succ]
  go_wp2_with fail
  refine ⟨rfl, _, .pointer (some ⟨g, 1, none⟩), rfl, Or.inl ⟨by rfl, fun W hW => by go_simp⟩, partsI_yield ?_⟩
  simp only [Act.put, List.setIfInBounds_toArray, List.set_cons_zero, List.set_cons_succ]
  simp only [List.cons_append, List.nil_append, List.append_nil, List.filterMap_cons, List.filterMap_nil, List.getElem?_toArray, List.getElem?_cons_zero, List.getElem?_cons_succ]
  go_wp2_with fail
  refine ⟨rfl, _, .slice (some ⟨b, 0, none⟩) k c, rfl, Or.inl ⟨by rfl, fun W hW => by have c1 := hW.1; go_simp⟩, partsI_yield ?_⟩
  simp only [Act.put, List.setIfInBounds_toArray, List.set_cons_zero, List.set_cons_succ]
  simp only [List.cons_append, List.nil_append, List.append_nil, List.filterMap_cons, List.filterMap_nil, List.getElem?_toArray, List.getElem?_cons_zero, List.getElem?_cons_succ]
  go_wp2_with fail
  refine ⟨rfl, _, .int .i64 (q : Int), rfl, Or.inl ⟨by rfl, fun W hW => by go_simp⟩, partsI_yield ?_⟩
  simp only [Act.put, List.setIfInBounds_toArray, List.set_cons_zero, List.set_cons_succ]
  simp only [List.cons_append, List.nil_append, List.append_nil, List.filterMap_cons, List.filterMap_nil, List.getElem?_toArray, List.getElem?_cons_zero, List.getElem?_cons_succ]
  go_wp2_with fail
  refine ⟨rfl, _, .int .u64 (x : Int), rfl, Or.inl ⟨by rfl, fun W hW => by have c1 := hW.2.1; go_simp⟩, partsI_force ?_⟩
  simp only [Act.put, List.setIfInBounds_toArray, List.set_cons_zero, List.set_cons_succ]
  simp only [List.cons_append, List.nil_append, List.append_nil, List.filterMap_cons, List.filterMap_nil, List.getElem?_toArray, List.getElem?_cons_zero, List.getElem?_cons_succ]
  go_wp2_with fail
  refine (HO.out _).mono ?_
  rintro e w2 ⟨rfl, rfl⟩
  go_wp2_with fail
  refine ⟨rfl, S0, partsI_force ?_⟩
  simp only [List.cons_append, List.nil_append, List.append_nil, List.filterMap_cons, List.filterMap_nil, List.getElem?_toArray, List.getElem?_cons_zero, List.getElem?_cons_succ]
  go_wp2_with fail
  refine ⟨rfl, S0, partsI_last ?_⟩
  simp only [List.cons_append, List.nil_append, List.append_nil, List.filterMap_cons, List.filterMap_nil, List.getElem?_toArray, List.getElem?_cons_zero, List.getElem?_cons_succ]
  rw [HV.out]
  obtain ⟨c1, cw, cf, h1, ho1⟩ := S0
  have h2 := HP.out v.drew h1
  have ho2 := ho1.trans (Only.set v.drew b q (.int .u64 (x' : Int))) (.inl rfl)
  clear HP HO HV h1 ho1
  go_wp2_with fail
  refine ⟨rfl, ?_⟩
  go_wp2_with fail
  go_ret
  exact ⟨rfl, h2, ho2⟩
set_option maxHeartbeats 2000000 in
theorem clear_one (w : World) (h : BM w B g n b c W) (p : Nat) (hp : p < n) (hf : bitF W p = true) : Calls Tryd.prog 15 #[.pointer (some ⟨g, 0, none⟩), .int .i64 (p : Int)] w fun e w' => e = .returned (.bool true) ∧ BM w' B g n b c (clrW W p) ∧ Only b w w' := by
  have hq := quo64 p
  have hwq : IntKind.i64.wrap ((p / 64 : Nat) : Int) = ((p / 64 : Nat) : Int) := wrapI64_id _ (by omega) (by have := h.n2; omega)
  have i0 : ((p / 64 : Nat) : Int) < ((16 * lvN n : Nat) : Int) := by have := h.word_in hp; omega
  have HH : Hid (Calls Tryd.prog 25 #[.pointer (some ⟨g, 0, none⟩), .int .i64 (p : Int)] w fun e w' => e = .returned (.bool (bitF W p)) ∧ ∃ m, w' = w.drewN m) := has_yes w h p hp
  have HO : Hid (∀ w : World, Calls Tryd.prog 39 #[.int .i64 (p : Int)] w fun e w' => e = .returned (.int .u64 ((2 ^ (p % 64) : Nat) : Int)) ∧ w' = w) := fun w => one_any p (by have := h.n2; omega) _
  have HV : Hid (bits .andNot .u64 ((W (p / 64) : Nat) : Int) ((2 ^ (p % 64) : Nat) : Int) = ((clrW W p (p / 64) : Nat) : Int)) := by
    show bits .andNot .u64 ((W (p / 64) : Nat) : Int) ((2 ^ (p % 64) : Nat) : Int) = ((clrW W p (p / 64) : Nat) : Int)
    rw [u64_andNot_nat _ _ (h.lt _) (pow_lt_u64 _ (by omega))]
    unfold clrW updN
    rw [if_pos rfl]
    rfl
  have HP : Hid (∀ V : World, BM V B g n b c W → BM (V.setCell ⟨b, p / 64, none⟩ (.int .u64 ((clrW W p (p / 64) : Nat) : Int))) B g n b c (clrW W p)) := fun V hV => by
    have e : clrW W p = updN W (p / 64) (clrW W p (p / 64)) := by
      unfold clrW
      funext i
      unfold updN
      split <;> simp_all
    have ht : ∀ r, n ≤ r → bitF (clrW W p) r = false := fun r hr => by
      rw [bitF_clr, hV.tail r hr]
      simp
    rw [e] at ht
    have := hV.put (hV.word_in hp) (clrW_lt hV.lt p (p / 64)) ht
    rw [← e] at this
    exact this
  rw [hf] at HH
  generalize hw' : clrW W p = W' at *
  clear hw' hf
  go_enter Tryd.func15, Tryd.ntmps15
  go_wp2_with fail
  refine HH.out.mono ?_
  rintro e w2 ⟨rfl, md, rfl⟩
  go_wp2_with fail
  have h1 : BM (w.drewN md).drew B g n b c W := h.keep rfl rfl
  have ho1 : Only b w (w.drewN md).drew := (Only.drewN _ _ _).trans (Only.drew b _) (.inl rfl)
  have cw := h1.word (h1.word_in hp)
  have cf := h1.frozen (p / 64)
  have c1 := h1.c1
  clear HH h hp
  generalize (w.drewN md) = v at *
  generalize p / 64 = q at *
  generalize hx : W q = x at *
  clear hx
  generalize W' q = x' at *
  generalize 2 ^ (p % 64) = y at *
  generalize hk : 16 * lvN n = k at *
  clear hk
  have S0 : v.drew.cell? ⟨g, 1, none⟩ = some (.slice (some ⟨b, 0, none⟩) k c) ∧ v.drew.cell? ⟨b, q, none⟩ = some (.int .u64 (x : Int)) ∧ v.drew.frozen? ⟨b, q, none⟩ = false ∧ BM v.drew B g n b c W ∧ Only b w v.drew := ⟨c1, cw, cf, h1, ho1⟩
  clear c1 cw cf h1 ho1
  refine wp_region_partsS (fun V => V.cell? ⟨g, 1, none⟩ = some (.slice (some ⟨b, 0, none⟩) k c) ∧ V.cell? ⟨b, q, none⟩ = some (.int .u64 (x : Int)) ∧ V.frozen? ⟨b, q, none⟩ = false ∧ BM V B g n b c W ∧ Only b w V) [([0, 4, 8], 1, true), ([], 2, true), ([], 3, true), ([], 5, true), ([6], 7, true), ([], 9, false), ([], 10, false)] [11] [12] (by kernel_rfl) (by kernel_rfl) S0 (partsI_yield ?_)
  simp only [List.cons_append, List.nil_append, List.append_nil, List.filterMap_cons, List.filterMap_nil, List.getElem?_toArray, List.getElem?_cons_zero, List.getElem?_cons_succ]
  go_wp2_with fail
  refine ⟨rfl, _, .pointer (some ⟨g, 0, none⟩), rfl, Or.inl ⟨by rfl, fun W hW => by go_simp⟩, partsI_yield ?_⟩
  simp only [Act.put, List.setIfInBounds_toArray, List.set_cons_zero, List.set_cons_succ]
  simp only [List.cons_append, List.nil_append, List.append_nil, List.filterMap_cons, List.filterMap_nil, List.getElem?_toArray, List.getElem?_cons_zero, List.getElem?_cons_succ]
  go_wp2_with fail
  refine ⟨rfl, _, .pointer (some ⟨g, 1, none⟩), rfl, Or.inl ⟨by rfl, fun W hW => by go_simp⟩, partsI_yield ?_⟩
  simp only [Act.put, List.setIfInBounds_toArray, List.set_cons_zero, List.set_cons_succ]
  simp only [List.cons_append, List.nil_append, List.append_nil, List.filterMap_cons, List.filterMap_nil, List.getElem?_toArray, List.getElem?_cons_zero, List.getElem?_cons_succ]
  go_wp2_with fail
  refine ⟨rfl, _, .slice (some ⟨b, 0, none⟩) k c, rfl, Or.inl ⟨by rfl, fun W hW => by have c1 := hW.1; go_simp⟩, partsI_yield ?_⟩
  simp only [Act.put, List.setIfInBounds_toArray, List.set_cons_zero, List.set_cons_succ]
  simp only [List.cons_append, List.nil_append, List.append_nil, List.filterMap_cons, List.filterMap_nil, List.getElem?_toArray, List.getElem?_cons_zero, List.getElem?_cons_succ]
  go_wp2_with fail
  refine ⟨rfl, _, .int .i64 (q : Int), rfl, Or.inl ⟨by rfl, fun W hW => by go_simp⟩, partsI_yield ?_⟩
  simp only [Act.put, List.setIfInBounds_toArray, List.set_cons_zero, List.set_cons_succ]
  simp only [List.cons_append, List.nil_append, List.append_nil, List.filterMap_cons, List.filterMap_nil, List.getElem?_toArray, List.getElem?_cons_zero, List.getElem?_cons_succ]
  go_wp2_with fail
  refine ⟨rfl, _, .int .u64 (x : Int), rfl, Or.inl ⟨by rfl, fun W hW => by have c1 := hW.2.1; go_simp⟩, partsI_force ?_⟩
  simp only [Act.put, List.setIfInBounds_toArray, List.set_cons_zero, List.set_cons_succ]
  simp only [List.cons_append, List.nil_append, List.append_nil, List.filterMap_cons, List.filterMap_nil, List.getElem?_toArray, List.getElem?_cons_zero, List.getElem?_cons_succ]
  go_wp2_with fail
  refine (HO.out _).mono ?_
  rintro e w2 ⟨rfl, rfl⟩
  go_wp2_with fail
  refine ⟨rfl, S0, partsI_force ?_⟩
  simp only [List.cons_append, List.nil_append, List.append_nil, List.filterMap_cons, List.filterMap_nil, List.getElem?_toArray, List.getElem?_cons_zero, List.getElem?_cons_succ]
  go_wp2_with fail
  refine ⟨rfl, S0, partsI_last ?_⟩
  simp only [List.cons_append, List.nil_append, List.append_nil, List.filterMap_cons, List.filterMap_nil, List.getElem?_toArray, List.getElem?_cons_zero, List.getElem?_cons_succ]
  rw [HV.out]
  obtain ⟨c1, cw, cf, h1, ho1⟩ := S0
  have h2 := HP.out v.drew h1
  have ho2 := ho1.trans (Only.set v.drew b q (.int .u64 (x' : Int))) (.inl rfl)
  clear HP HO HV h1 ho1
  go_wp2_with fail
  refine ⟨rfl, ?_⟩
  go_wp2_with fail
  go_ret
  exact ⟨rfl, h2, ho2⟩
/-- a place that is one, or none: nothing happens -/
theorem set_not (w : World) (h : BM w B g n b c W) (p : Int) (hp : p < 0 ∨ (n : Int) ≤ p ∨ (0 ≤ p ∧ p < n ∧ bitF W p.toNat = true)) : Calls Tryd.prog 14 #[.pointer (some ⟨g, 0, none⟩), .int .i64 p] w fun e w' => e = .returned (.bool false) ∧ ∃ m, w' = w.drewN m := by
  by_cases h0 : p < 0 ∨ (n : Int) ≤ p
  · have HI : Hid (Calls Tryd.prog 38 #[.pointer (some ⟨g, 0, none⟩), .int .i64 p] w fun e w' => e = .returned (.bool false) ∧ w' = w) := inside_no _ h p h0
    clear h hp
    go_enter Tryd.func14, Tryd.ntmps14
    go_wp2_with fail
    refine HI.out.mono ?_
    rintro e w' ⟨rfl, rfl⟩
    go_wp2
    go_ret
    exact ⟨rfl, 0, rfl⟩
  · obtain ⟨q, rfl⟩ := Int.eq_ofNat_of_zero_le (a := p) (by omega)
    have hq : q < n := by omega
    have hf : bitF W q = true := by
      rcases hp with z | z | z
      · omega
      · omega
      · simpa using z.2.2
    have HI : Hid (Calls Tryd.prog 38 #[.pointer (some ⟨g, 0, none⟩), .int .i64 (q : Int)] w fun e w' => e = .returned (.bool true) ∧ w' = w) := inside_yes _ h q hq
    have HH : Hid (Calls Tryd.prog 25 #[.pointer (some ⟨g, 0, none⟩), .int .i64 (q : Int)] w fun e w' => e = .returned (.bool (bitF W q)) ∧ ∃ m, w' = w.drewN m) := has_yes w h q hq
    rw [hf] at HH
    clear h hp hf h0 hq
    go_enter Tryd.func14, Tryd.ntmps14
    go_wp2_with fail
    refine HI.out.mono ?_
    rintro e w' ⟨rfl, rfl⟩
    go_wp2_with fail
    refine HH.out.mono ?_
    rintro e w2 ⟨rfl, md, rfl⟩
    go_wp2
    go_ret
    exact ⟨rfl, md, rfl⟩
theorem clear_not (w : World) (h : BM w B g n b c W) (p : Int) (hp : p < 0 ∨ (n : Int) ≤ p ∨ (0 ≤ p ∧ p < n ∧ bitF W p.toNat = false)) : Calls Tryd.prog 15 #[.pointer (some ⟨g, 0, none⟩), .int .i64 p] w fun e w' => e = .returned (.bool false) ∧ ∃ m, w' = w.drewN m := by
  have HH : Hid (Calls Tryd.prog 25 #[.pointer (some ⟨g, 0, none⟩), .int .i64 p] w fun e w' => e = .returned (.bool false) ∧ ∃ m, w' = w.drewN m) := by
    by_cases h0 : p < 0 ∨ (n : Int) ≤ p
    · exact has_no w h p h0
    · obtain ⟨q, rfl⟩ := Int.eq_ofNat_of_zero_le (a := p) (by omega)
      have hf : bitF W q = false := by
        rcases hp with z | z | z
        · omega
        · omega
        · simpa using z.2.2
      have := has_yes w h q (by omega)
      rw [hf] at this
      exact this
  clear h hp
  go_enter Tryd.func15, Tryd.ntmps15
  go_wp2_with fail
  refine HH.out.mono ?_
  rintro e w2 ⟨rfl, md, rfl⟩
  go_wp2
  go_ret
  exact ⟨rfl, md, rfl⟩
/-- Set, Clear of a place -/
theorem set_in (w : World) (h : BM w B g n b c W) (p : Nat) (hp : p < n) : Calls Tryd.prog 14 #[.pointer (some ⟨g, 0, none⟩), .int .i64 (p : Int)] w fun e w' => e = .returned (.bool (!bitF W p)) ∧ BM w' B g n b c (putW W p) ∧ Only b w w' := by
  cases hf : bitF W p
  · exact set_new w h p hp hf
  · refine (set_not w h p (.inr (.inr ⟨by omega, by omega, by simpa using hf⟩))).mono ?_
    rintro e w' ⟨rfl, m, rfl⟩
    refine ⟨rfl, (h.dN m).congr (putW_lt h.lt p) fun q => ?_, Only.drewN _ _ _⟩
    rw [bitF_put]
    by_cases hq : q = p
    · rw [hq, hf]; simp
    · simp [hq]
theorem clear_in (w : World) (h : BM w B g n b c W) (p : Nat) (hp : p < n) : Calls Tryd.prog 15 #[.pointer (some ⟨g, 0, none⟩), .int .i64 (p : Int)] w fun e w' => e = .returned (.bool (bitF W p)) ∧ BM w' B g n b c (clrW W p) ∧ Only b w w' := by
  cases hf : bitF W p
  · refine (clear_not w h p (.inr (.inr ⟨by omega, by omega, by simpa using hf⟩))).mono ?_
    rintro e w' ⟨rfl, m, rfl⟩
    refine ⟨rfl, (h.dN m).congr (clrW_lt h.lt p) fun q => ?_, Only.drewN _ _ _⟩
    rw [bitF_clr]
    by_cases hq : q = p
    · rw [hq, hf]; simp
    · simp [hq]
  · exact clear_one w h p hp hf
end
end Go.Proofs.YtgcnmopgpdmocaaDoor

namespace Go.Proofs.YtgcnmopgpdmocaaDoor
open Go.RowKit
set_option linter.unusedSimpArgs false
set_option linter.unusedVariables false

def Fit (a m : Int) : Prop := 0 ≤ a ∧ 0 ≤ m ∧ a ≤ 256 - m
instance (a m : Int) : Decidable (Fit a m) := by unfold Fit; infer_instance

end Go.Proofs.YtgcnmopgpdmocaaDoor

namespace Go.Proofs.YtgcnmopgpdmocaaDoor
open Go Go.ChangeShapes Go.WideShapes

section
variable {H : Type} {enc : TypeId × Value → H} {P : Program} {w : World} {base : Nat} {spare : Nat → Bool} {held : Bool}

theorem okWide_array {r : Reach} {b0 : Nat} {t e : TypeId} {n : Nat} {v : Value} (ht : P.underlying t = some (.array n e)) (h : Value.okWide P w r b0 t v) : ∃ cs, v = .agg cs ∧ cs.size = P.cellsOf t := by
  simp only [Value.okWide, ht] at h
  obtain ⟨cs, h1, h2, _⟩ := h
  exact ⟨cs, h1, h2⟩

theorem mapM_same {α β : Type} {f g : α → Option β} : ∀ {l : List α}, (∀ x ∈ l, f x = g x) → l.mapM f = l.mapM g
  | [], _ => rfl
  | a :: l, h => by
    simp only [List.mapM_cons]
    rw [h a (by simp), mapM_same fun x hx => h x (by simp [hx])]

theorem trod_int_any {k : IntKind} {e : TypeId} (he : P.underlying e = some (.int k)) {m : Nat} {cs : List Value} {x : DataW H × List MemPlace} (h : DataW.trod enc P w base spare held m e cs = some x)
    (w1 : World) (sp : Nat → Bool) : DataW.trod enc P w1 base sp held m e cs = some x := by
  cases m with
  | zero => simp [DataW.trod] at h
  | succ m =>
    obtain ⟨n, rfl, rfl, hw⟩ := DataW.trod_int he h
    simp [DataW.trod, he, hw]

theorem open_ints {r : Reach} {b0 : Nat} {t e : TypeId} {n : Nat} {k : IntKind} {v : Value} {d : DataW H} {p : List MemPlace} (ht : P.underlying t = some (.array n e)) (he : P.underlying e = some (.int k)) (hce : P.cellsOf e = 1) (hct : P.cellsOf t = n)
    (hv : Value.okWide P w r b0 t v) (h : DataW.Trod enc P w base spare held t v d p) :
    ∃ xs : List Int, xs.length = n ∧ v = .agg (xs.map (Value.int k)).toArray ∧ (∀ x ∈ xs, (Lit.int k x).wf = true) ∧ p = [] ∧ ∀ (w1 : World) (sp : Nat → Bool), DataW.Trod enc P w1 base sp held t v d [] := by
  obtain ⟨cs, rfl, hsz⟩ := okWide_array ht hv
  obtain ⟨fuel, hf⟩ := h
  obtain ⟨xs, m, rfl, hx, hl, hn, hall⟩ := DataW.trod_array ht hf
  have hl' : (Value.agg cs).cells.toList.length = n := hl.trans hct
  have hcs : (Value.agg cs).cells = cs := rfl
  rw [hcs] at hl' hall hf
  have elem : ∀ i, i < n → ∃ z : Int, cs.toList[i]? = some (.int k z) ∧ xs[i]? = some (.lit (.int k z), []) ∧ (Lit.int k z).wf = true := fun i hi => by
    have h1 := hall i hi
    have hget : xs[i]? = some xs[i] := List.getElem?_eq_getElem (by omega)
    rw [hget, hce, Nat.mul_one] at h1
    obtain ⟨z, hz, hz2, hz3⟩ := DataW.trod_int he h1
    refine ⟨z, ?_, by rw [hget, hz2], hz3⟩
    have h2 : (cs.toList.drop i).head? = some (.int k z) := by
      cases hd : cs.toList.drop i with
      | nil => rw [hd] at hz; simp at hz
      | cons a l => rw [hd] at hz; simp at hz; rw [hz]; rfl
    rw [List.head?_drop] at h2
    exact h2
  have hp : p = [] := by
    simp only [Prod.mk.injEq] at hx
    rw [hx.2]
    have : ∀ y ∈ xs, y.2 = [] := fun y hy => by
      obtain ⟨i, hi, rfl⟩ := List.getElem_of_mem hy
      obtain ⟨z, _, h2, _⟩ := elem i (by omega)
      rw [List.getElem?_eq_getElem hi] at h2
      simp only [Option.some.injEq] at h2
      rw [h2]
    exact List.flatMap_eq_nil_iff.2 this
  refine ⟨cs.toList.map fun v => match v with | .int _ z => z | _ => 0, by simpa using hl', ?_, ?_, hp, fun w1 sp => ⟨m + 1, ?_⟩⟩
  · congr 1
    apply Array.ext_getElem?
    intro i
    simp only [List.map_map, List.getElem?_toArray, List.getElem?_map]
    by_cases hi : i < n
    · obtain ⟨z, h1, _, _⟩ := elem i hi
      have h2 : cs[i]? = some (.int k z) := by simpa using h1
      rw [h2, h1]; rfl
    · have h1 : cs[i]? = none := Array.getElem?_eq_none (by simp at hl'; omega)
      have h2 : cs.toList[i]? = none := List.getElem?_eq_none (by omega)
      rw [h1, h2]; rfl
  · intro x hx2
    obtain ⟨v, hv2, rfl⟩ := List.mem_map.1 hx2
    obtain ⟨i, hi, rfl⟩ := List.getElem_of_mem hv2
    obtain ⟨z, h1, _, h3⟩ := elem i (by omega)
    rw [List.getElem?_eq_getElem hi] at h1
    simp only [Option.some.injEq] at h1
    rw [h1]; exact h3
  · rw [hp] at hf
    rw [hcs]
    unfold DataW.trod at hf ⊢
    rw [ht] at hf ⊢
    simp only at hf ⊢
    rw [mapM_same (g := fun i => DataW.trod enc P w base spare held m e ((cs.toList.drop (i * P.cellsOf e)).take (P.cellsOf e))) (fun i hi => ?_)]
    · exact hf
    · have hi' : i < n := by simpa using hi
      have h1 := hall i hi'
      have hget : xs[i]? = some xs[i] := List.getElem?_eq_getElem (by omega)
      rw [hget] at h1
      rw [h1]
      exact trod_int_any he h1 w1 sp
end
end Go.Proofs.YtgcnmopgpdmocaaDoor

namespace Go.Proofs.YtgcnmopgpdmocaaDoor
open Go Go.RowKit
set_option linter.unusedVariables false

/-- the slice at a of n blocks, told by L -/
def IsBlks (w : World) (a : Option Addr) (n : Nat) (L : Nat → Nat → Nat) : Prop :=
  ∀ i, i < n → ∃ b o, a = some ⟨b, o, none⟩ ∧ b < w.heap.size ∧ w.rangeAt b (o + i * 256) ((List.range 256).map (iv .u8 (L i)))
theorem range_below {w w' : World} {B b o : Nat} {cs : List Value} (h : w.rangeAt b o cs) (hb : Below B w w') (hB : b < B) : w'.rangeAt b o cs := fun j v hv => by
  rw [← h j v hv]
  simp [World.cell?, hb.block b hB]
theorem IsBlks.below {w w' : World} {a : Option Addr} {n : Nat} {L : Nat → Nat → Nat} (h : IsBlks w a n L) (hb : Below w.heap.size w w') : IsBlks w' a n L := fun i hi => by
  obtain ⟨b, o, e, h1, h2⟩ := h i hi
  exact ⟨b, o, e, Nat.lt_of_lt_of_le h1 hb.size, range_below h2 hb h1⟩
end Go.Proofs.YtgcnmopgpdmocaaDoor

namespace Go.Proofs.YtgcnmopgpdmocaaDoor
open Go.RowKit
set_option linter.unusedSimpArgs false
set_option linter.unusedVariables false

theorem fold_set : ∀ (l : List Value) (k : Nat) (A : Array Value), k + l.length ≤ A.size →
    ((l.zipIdx k).foldl (fun cs (x : Value × Nat) => cs.setIfInBounds (0 + x.2) x.1) A).size = A.size ∧
    ∀ i, ((l.zipIdx k).foldl (fun cs (x : Value × Nat) => cs.setIfInBounds (0 + x.2) x.1) A)[i]? = if k ≤ i ∧ i < k + l.length then l[i - k]? else A[i]?
  | [], k, A, h => ⟨rfl, fun i => by simp; omega⟩
  | v :: l, k, A, h => by
    rw [List.zipIdx_cons, List.foldl_cons]
    obtain ⟨h1, h2⟩ := fold_set l (k + 1) (A.setIfInBounds (0 + k) v) (by simp at h ⊢; omega)
    refine ⟨by rw [h1]; simp, fun i => ?_⟩
    rw [h2 i]
    simp at h
    by_cases hi : i = k
    · subst hi
      rw [if_neg (by omega), if_pos (by simp), Nat.zero_add, Array.getElem?_setIfInBounds, if_pos rfl, if_pos (by omega), Nat.sub_self]
      rfl
    · by_cases hj : k + 1 ≤ i ∧ i < k + 1 + l.length
      · rw [if_pos hj, if_pos (by simp; omega)]
        obtain ⟨d, hd⟩ : ∃ d, i - k = d + 1 := ⟨i - k - 1, by omega⟩
        rw [hd, List.getElem?_cons_succ, show i - (k + 1) = d by omega]
      · rw [if_neg hj, if_neg (by simp; omega), Array.getElem?_setIfInBounds, if_neg (by omega)]
theorem fill_one (n : Nat) (cells cs : Array Value) (h1 : cells.size = n) (h2 : cs.size = n) : Instr.fill (fun i => some (i * n, n)) cells [(0, .agg cs)] = some cs := by
  have hc : (Value.agg cs).cells = cs := rfl
  unfold Instr.fill
  simp only [hc, h2, h1, ne_eq, not_true_eq_false, decide_false, Bool.false_or, Nat.zero_mul, Nat.zero_add, Nat.lt_irrefl, decide_false, gt_iff_lt, if_false, Bool.false_eq_true]
  unfold Instr.fill
  congr 1
  obtain ⟨e1, e2⟩ := fold_set cs.toList 0 cells (by simp [h1, h2])
  apply Array.ext_getElem?
  intro i
  have := e2 i
  simp only [Nat.zero_add] at this e1
  have e3 : cs.zipIdx.foldl (fun cs (x : Value × Nat) => match x with | (c, j) => cs.setIfInBounds j c) cells = (cs.toList.zipIdx 0).foldl (fun cs (x : Value × Nat) => cs.setIfInBounds x.2 x.1) cells := by
    rw [← Array.foldl_toList]
    simp
  rw [e3, this]
  by_cases hi : i < cs.size
  · rw [if_pos (by simpa using hi)]
    simp
  · rw [if_neg (by simpa using hi), Array.getElem?_eq_none (by omega), Array.getElem?_eq_none (by omega)]
/-- a slice of one array -/
theorem wpList_build1 {P : Program} {ops : Array Oper} {rest : List Oper} {o : Oper} {a : Act} {w : World} {Q : Exit → Act → World → Prop} (hg : o.guard = none) (t e : TypeId) (x : Operand) (ho : o.op = .buildSlice t 1 #[(0, x)])
    (cs : Array Value) (hx : a.eval x = .agg cs) (ie : TypeInfo) (z : Value) (n : Nat)
    (hu : P.underlying t = some (.slice e)) (hie : P.info? e = some ie) (hz : ie.zero = some z) (hn : ie.size = n) (hcs : cs.size = n) (h0 : 0 < n) (h24 : n ≤ 16777216)
    (h : wpList P ops Q rest (a.put o.dst (.slice (some ⟨w.heap.size, 0, none⟩) 1 1)) (w.alloc (.cells cs e))) : wpList P ops Q (o :: rest) a w := by
  refine wpList_buildSlice hg t e 1 _ ho cs ie z hu hie hz (by rw [hn]; omega) (by rw [hn]; omega) ?_ h
  rw [hn]
  have e1 : (Array.map (fun (x : Nat × Operand) => match x with | (i, x) => (i, a.eval x)) #[(0, x)]).toList = [(0, Value.agg cs)] := by
    simp [hx]
  rw [e1]
  exact fill_one n _ _ (by simp) hcs
theorem cells_new (w : World) (cs : Array Value) (t : TypeId) : ∀ j u, cs.toList[j]? = some u → (w.alloc (.cells cs t)).cell? ((⟨w.heap.size, 0, none⟩ : Addr).add j) = some u := fun j u hu => by
  have hb : Blk (w.alloc (.cells cs t)) w.heap.size t cs := Blk.new w t cs
  rw [Addr.add_mid, Nat.zero_add, hb.cell]
  simpa using hu
end Go.Proofs.YtgcnmopgpdmocaaDoor
