/- The leaves of a text: the program's contract of Cut. -/
import Derived.Test.YtjlngldmdfbbaaaDoorHOrders
import Derived.Test.YtjlngldmdfbbaaaDoorHSegsP
import Derived.Deep.QuietTactic
import Derived.BigQuiet
import Derived.Deep.Heap
import Derived.Handy
import Derived.OpenShut
import Derived.Deep.MidRow
import Derived.Great.BuildSlice
import Derived.OwnWalk
import Derived.Maps.AppendAt

namespace Go.Proofs.YtjlngldmdfbbaaaDoor
open Go Go.RowKit
set_option linter.unusedVariables false
set_option linter.unusedSimpArgs false

def wdL (W : Nat → Nat) (m : Nat) : List Value := (List.range m).map (iv .u64 W)
theorem wdL_at (W : Nat → Nat) (m i : Nat) (h : i < m) : (wdL W m)[i]? = some (.int .u64 ((W i : Nat) : Int)) := by simp [wdL, iv, h]
theorem wdL_len (W : Nat → Nat) (m : Nat) : (wdL W m).length = m := by simp [wdL]
theorem wdL_one (W : Nat → Nat) (m : Nat) : ∀ u ∈ wdL W m, u.oneCell' = true := fun u hu => by
  obtain ⟨i, _, rfl⟩ := List.mem_map.1 hu
  rfl
theorem wdL_set (W : Nat → Nat) (m i x : Nat) : (wdL W m).set i (.int .u64 ((x : Nat) : Int)) = wdL (updN W i x) m := by
  apply List.ext_getElem?
  intro j
  rw [List.getElem?_set]
  by_cases hj : j < m
  · rw [wdL_at (updN W i x) _ _ hj]
    by_cases he : i = j
    · subst he
      rw [if_pos rfl, wdL_len, if_pos hj]
      unfold updN
      rw [if_pos rfl]
    · rw [if_neg he, wdL_at _ _ _ hj]
      unfold updN
      rw [if_neg (Ne.symm he)]
  · have e1 : (wdL W m)[j]? = none := List.getElem?_eq_none (by rw [wdL_len]; omega)
    have e2 : (wdL (updN W i x) m)[j]? = none := List.getElem?_eq_none (by rw [wdL_len]; omega)
    rw [e1, e2, wdL_len]
    split
    · rw [if_neg (by omega)]
    · rfl
/-- only one block turns -/
structure Only (b : Nat) (w w' : World) : Prop where
  os : w'.os = w.os
  tape : w'.tape = w.tape
  output : w'.output = w.output
  size : w.heap.size ≤ w'.heap.size
  block : ∀ k, k < w.heap.size → k ≠ b → w'.heap[k]? = w.heap[k]?
theorem Only.of_below {b : Nat} {w w' : World} (h : Below w.heap.size w w') : Only b w w' := ⟨h.os, h.tape, h.output, h.size, fun k hk _ => h.block k hk⟩
theorem Only.below {b B : Nat} {w w' : World} (h : Only b w w') (hB : B ≤ w.heap.size) (hb : B ≤ b) : Below B w w' := ⟨h.os, h.tape, h.output, h.size, fun k hk => h.block k (by omega) (by omega)⟩
theorem Only.trans {b b' : Nat} {w v u : World} (h : Only b w v) (k : Only b' v u) (hb : b' = b ∨ w.heap.size ≤ b') : Only b w u :=
  ⟨k.os.trans h.os, k.tape.trans h.tape, k.output.trans h.output, Nat.le_trans h.size k.size, fun j hj hne => (k.block j (Nat.lt_of_lt_of_le hj h.size) fun e => by rcases hb with z | z <;> omega).trans (h.block j hj hne)⟩
theorem Only.set (w : World) (b j : Nat) (x : Value) : Only b w (w.setCell ⟨b, j, none⟩ x) := ⟨rfl, rfl, rfl, by rw [Deep.nblk_setCell]; exact Nat.le_refl _, fun k _ hk => Deep.blk_setCell_other w ⟨b, j, none⟩ x k hk⟩
theorem Only.drew (b : Nat) (w : World) : Only b w w.drew := ⟨rfl, rfl, rfl, Nat.le_refl _, fun _ _ _ => rfl⟩
theorem Only.drewN (b : Nat) (w : World) (m : Nat) : Only b w (w.drewN m) := ⟨rfl, rfl, rfl, Nat.le_refl _, fun _ _ _ => rfl⟩
theorem below_dN {B : Nat} {w0 w : World} (h : Below B w0 w) (n : Nat) : Below B w0 (w.drewN n) := ⟨h.1, h.2, h.3, h.4, h.5⟩

/-- a map of n bits in block g, its words in block b -/
structure BM (w : World) (B g n b c : Nat) (W : Nat → Nat) : Prop where
  n1 : 1 ≤ n
  n2 : n ≤ 8192
  gB : B ≤ g
  cells : Blk w g 76 #[.int .i64 (n : Int), .slice (some ⟨b, 0, none⟩) (16 * lvN n) c]
  row : w.ownsRow B 61 1 (.slice (some ⟨b, 0, none⟩) (16 * lvN n) c) (16 * lvN n) (wdL W (16 * lvN n))
  lt : ∀ i, W i < 18446744073709551616
  tail : ∀ p, n ≤ p → bitF W p = false
section
variable {w w' : World} {B g n b c : Nat} {W : Nat → Nat}
theorem lvN_le (h : n ≤ 8192) : lvN n ≤ 8 := by unfold lvN; omega
theorem lvN_ge : n ≤ 1024 * lvN n := by unfold lvN; omega
theorem lvN_pos (h : 1 ≤ n) : 1 ≤ lvN n := by unfold lvN; omega
theorem BM.glt (h : BM w B g n b c W) : g < w.heap.size := h.cells.lt
theorem BM.blt (h : BM w B g n b c W) : B ≤ b ∧ b < w.heap.size := h.row.lt b rfl
theorem BM.ne (h : BM w B g n b c W) : b ≠ g := by
  rcases h.row.2 with ⟨hn, _⟩ | ⟨g', cap', cur, hv, hb, hg, _⟩
  · cases hn
  · injection hv with hv1 hv2 hv3
    injection hv1 with hv1
    injection hv1 with hv1
    subst hv1
    intro e
    rw [e] at hg
    have := h.cells
    unfold Blk at this
    rw [hg] at this
    injection this with this
    injection this with h1 h2
    exact absurd h2 (by decide)
theorem BM.keep (h : BM w B g n b c W) (hg : w'.heap[g]? = w.heap[g]?) (hb : w'.heap[b]? = w.heap[b]?) : BM w' B g n b c W :=
  ⟨h.n1, h.n2, h.gB, hg.trans h.cells, kown_kept h.row fun k _ hv => by
    have : k = b := by simp [Value.ownBlock] at hv; omega
    subst this
    exact hb, h.lt, h.tail⟩
theorem BM.below (h : BM w B g n b c W) (hb : Below w.heap.size w w') : BM w' B g n b c W := h.keep (hb.block g h.glt) (hb.block b h.blt.2)
theorem BM.only {b' : Nat} (h : BM w B g n b c W) (ho : Only b' w w') (h1 : b' ≠ g) (h2 : b' ≠ b) : BM w' B g n b c W := h.keep (ho.block g h.glt (Ne.symm h1)) (ho.block b h.blt.2 (Ne.symm h2))
theorem BM.dN (h : BM w B g n b c W) (m : Nat) : BM (w.drewN m) B g n b c W := h.keep rfl rfl
theorem BM.mono {B' : Nat} (h : BM w B g n b c W) (hB : B' ≤ B) : BM w B' g n b c W := ⟨h.n1, h.n2, Nat.le_trans hB h.gB, h.cells, kown_mono h.row hB, h.lt, h.tail⟩
theorem BM.congr {V : Nat → Nat} (h : BM w B g n b c W) (hV : ∀ i, V i < 18446744073709551616) (he : ∀ p, bitF V p = bitF W p) : BM w B g n b c V := by
  have : V = W := funext fun i => words_ext hV h.lt he i
  rw [this]
  exact h
theorem BM.c0 (h : BM w B g n b c W) : w.cell? ⟨g, 0, none⟩ = some (.int .i64 (n : Int)) := by rw [h.cells.cell]; rfl
theorem BM.c1 (h : BM w B g n b c W) : w.cell? ⟨g, 1, none⟩ = some (.slice (some ⟨b, 0, none⟩) (16 * lvN n) c) := by rw [h.cells.cell]; rfl
theorem BM.word (h : BM w B g n b c W) {i : Nat} (hi : i < 16 * lvN n) : w.cell? ⟨b, i, none⟩ = some (.int .u64 ((W i : Nat) : Int)) := by
  rw [h.row.cellAt i (by omega), wdL_at _ _ _ hi]
theorem BM.word_in (h : BM w B g n b c W) {p : Nat} (hp : p < n) : p / 64 < 16 * lvN n := by
  have := lvN_ge (n := n)
  omega
theorem BM.frozen (h : BM w B g n b c W) (i : Nat) : w.frozen? ⟨b, i, none⟩ = false := h.row.frozenAt i
/-- a word laid -/
theorem BM.put (h : BM w B g n b c W) {i x : Nat} (hi : i < 16 * lvN n) (hx : x < 18446744073709551616) (ht : ∀ p, n ≤ p → bitF (updN W i x) p = false) : BM (w.setCell ⟨b, i, none⟩ (.int .u64 ((x : Nat) : Int))) B g n b c (updN W i x) :=
  ⟨h.n1, h.n2, h.gB, h.cells.put_other _ _ (Ne.symm h.ne), by
    have := (h.row.stored i (.int .u64 ((x : Nat) : Int))).1
    rw [wdL_set] at this
    exact this, fun j => by unfold updN; split; exact hx; exact h.lt j, ht⟩

theorem bsize_any (w : World) (h : BM w B g n b c W) : Calls Tryd.prog 49 #[.pointer (some ⟨g, 0, none⟩)] w fun e w' => e = .returned (.int .i64 (n : Int)) ∧ w' = w := by
  have c0 := h.c0
  clear h
  go_enter Tryd.func49, Tryd.ntmps49
  go_wp2
  go_ret
  exact ⟨rfl, rfl⟩
theorem inside_yes (w : World) (h : BM w B g n b c W) (p : Nat) (hp : p < n) : Calls Tryd.prog 35 #[.pointer (some ⟨g, 0, none⟩), .int .i64 (p : Int)] w fun e w' => e = .returned (.bool true) ∧ w' = w := by
  have hp' : (p : Int) < (n : Int) := by omega
  have HS : Hid (Calls Tryd.prog 49 #[.pointer (some ⟨g, 0, none⟩)] w fun e w' => e = .returned (.int .i64 (n : Int)) ∧ w' = w) := bsize_any w h
  clear h hp
  go_enter Tryd.func35, Tryd.ntmps35
  go_wp2_with fail
  refine HS.out.mono ?_
  rintro e w' ⟨rfl, rfl⟩
  go_wp2
  go_ret
  exact ⟨by simp [hp'], rfl⟩
theorem inside_no (w : World) (h : BM w B g n b c W) (p : Int) (hp : p < 0 ∨ (n : Int) ≤ p) : Calls Tryd.prog 35 #[.pointer (some ⟨g, 0, none⟩), .int .i64 p] w fun e w' => e = .returned (.bool false) ∧ w' = w := by
  have HS : Hid (Calls Tryd.prog 49 #[.pointer (some ⟨g, 0, none⟩)] w fun e w' => e = .returned (.int .i64 (n : Int)) ∧ w' = w) := bsize_any w h
  clear h
  by_cases h0 : p < 0
  · clear HS
    have h1 : ¬ (0 ≤ p) := by omega
    go_enter Tryd.func35, Tryd.ntmps35
    go_wp2
    go_ret
    exact ⟨rfl, rfl⟩
  · have h1 : 0 ≤ p := by omega
    have h2 : ¬ (p < (n : Int)) := by omega
    go_enter Tryd.func35, Tryd.ntmps35
    go_wp2_with fail
    refine HS.out.mono ?_
    rintro e w' ⟨rfl, rfl⟩
    go_wp2
    go_ret
    exact ⟨by simp [h2], rfl⟩
theorem quo64 (p : Nat) : (p : Int).tdiv 64 = ((p / 64 : Nat) : Int) := by
  rw [Int.tdiv_eq_ediv_of_nonneg (by omega)]; omega
set_option maxHeartbeats 1000000 in
theorem has_yes (w : World) (h : BM w B g n b c W) (p : Nat) (hp : p < n) : Calls Tryd.prog 36 #[.pointer (some ⟨g, 0, none⟩), .int .i64 (p : Int)] w fun e w' => e = .returned (.bool (bitF W p)) ∧ ∃ m, w' = w.drewN m := by
  have c1 := h.c1
  have cw := h.word (h.word_in hp)
  have hq := quo64 p
  have hwq : IntKind.i64.wrap ((p / 64 : Nat) : Int) = ((p / 64 : Nat) : Int) := wrapI64_id _ (by omega) (by have := h.n2; omega)
  have i0 : ((p / 64 : Nat) : Int) < ((16 * lvN n : Nat) : Int) := by have := h.word_in hp; omega
  have HI : Hid (∀ m, Calls Tryd.prog 35 #[.pointer (some ⟨g, 0, none⟩), .int .i64 (p : Int)] (w.drewN m) fun e w' => e = .returned (.bool true) ∧ w' = (w.drewN m)) := fun m => inside_yes _ (h.dN m) p hp
  have HO : Hid (∀ m, Calls Tryd.prog 37 #[.int .i64 (p : Int)] (w.drewN m) fun e w' => e = .returned (.int .u64 ((2 ^ (p % 64) : Nat) : Int)) ∧ w' = (w.drewN m)) := fun m => one_any p (by have := h.n2; omega) _
  have HB : Hid (((bits .and .u64 ((W (p / 64) : Nat) : Int) ((2 ^ (p % 64) : Nat) : Int)) != 0) = bitF W p) := by
    show ((bits .and .u64 ((W (p / 64) : Nat) : Int) ((2 ^ (p % 64) : Nat) : Int)) != 0) = bitF W p
    rw [u64_and_nat _ _ (h.lt _) (pow_lt_u64 _ (by omega))]
    unfold bitF
    rw [bne, and_pow_ne]
    simp
  clear h hp
  generalize p / 64 = q at *
  generalize W q = x at *
  generalize 2 ^ (p % 64) = y at *
  generalize 16 * lvN n = k at *
  go_enter Tryd.func36, Tryd.ntmps36
  go_wp2_with fail
  go_quiet (first
    | (go_at_call 35; exact Calls.quiet_of_same (HI.out _))
    | (go_at_call 37; exact Calls.quiet_of_same (HO.out _)))
  go_wp2_with fail
  go_ret
  exact ⟨by rw [← HB.out]; rfl, _, rfl⟩
theorem has_no (w : World) (h : BM w B g n b c W) (p : Int) (hp : p < 0 ∨ (n : Int) ≤ p) : Calls Tryd.prog 36 #[.pointer (some ⟨g, 0, none⟩), .int .i64 p] w fun e w' => e = .returned (.bool false) ∧ ∃ m, w' = w.drewN m := by
  have HI : Hid (∀ m, Calls Tryd.prog 35 #[.pointer (some ⟨g, 0, none⟩), .int .i64 p] (w.drewN m) fun e w' => e = .returned (.bool false) ∧ w' = (w.drewN m)) := fun m => inside_no _ (h.dN m) p hp
  clear h hp
  go_enter Tryd.func36, Tryd.ntmps36
  go_wp2_with fail
  go_quiet ((go_at_call 35; exact Calls.quiet_of_same (HI.out _)))
  go_wp2_with fail
  go_ret
  exact ⟨rfl, _, rfl⟩
set_option maxHeartbeats 2000000 in
theorem set_new (w : World) (h : BM w B g n b c W) (p : Nat) (hp : p < n) (hf : bitF W p = false) : Calls Tryd.prog 18 #[.pointer (some ⟨g, 0, none⟩), .int .i64 (p : Int)] w fun e w' => e = .returned (.bool true) ∧ BM w' B g n b c (putW W p) ∧ Only b w w' := by
  have hq := quo64 p
  have hwq : IntKind.i64.wrap ((p / 64 : Nat) : Int) = ((p / 64 : Nat) : Int) := wrapI64_id _ (by omega) (by have := h.n2; omega)
  have i0 : ((p / 64 : Nat) : Int) < ((16 * lvN n : Nat) : Int) := by have := h.word_in hp; omega
  have HI : Hid (Calls Tryd.prog 35 #[.pointer (some ⟨g, 0, none⟩), .int .i64 (p : Int)] w fun e w' => e = .returned (.bool true) ∧ w' = w) := inside_yes _ h p hp
  have HH : Hid (Calls Tryd.prog 36 #[.pointer (some ⟨g, 0, none⟩), .int .i64 (p : Int)] w fun e w' => e = .returned (.bool (bitF W p)) ∧ ∃ m, w' = w.drewN m) := has_yes w h p hp
  have HO : Hid (∀ w : World, Calls Tryd.prog 37 #[.int .i64 (p : Int)] w fun e w' => e = .returned (.int .u64 ((2 ^ (p % 64) : Nat) : Int)) ∧ w' = w) := fun w => one_any p (by have := h.n2; omega) _
  have HV : Hid (bits .or .u64 ((W (p / 64) : Nat) : Int) ((2 ^ (p % 64) : Nat) : Int) = ((putW W p (p / 64) : Nat) : Int)) := by
    show bits .or .u64 ((W (p / 64) : Nat) : Int) ((2 ^ (p % 64) : Nat) : Int) = ((putW W p (p / 64) : Nat) : Int)
    rw [u64_or_nat _ _ (h.lt _) (pow_lt_u64 _ (by omega))]
    unfold putW updN
    rw [if_pos rfl]

  have HP : Hid (∀ V : World, BM V B g n b c W → BM (V.setCell ⟨b, p / 64, none⟩ (.int .u64 ((putW W p (p / 64) : Nat) : Int))) B g n b c (putW W p)) := fun V hV => by
    have e : putW W p = updN W (p / 64) (putW W p (p / 64)) := by
      unfold putW
      funext i
      unfold updN
      split <;> simp_all
    have ht : ∀ r, n ≤ r → bitF (putW W p) r = false := fun r hr => by
      rw [bitF_put, hV.tail r hr]
      simp; omega
    rw [e] at ht
    have := hV.put (hV.word_in hp) (putW_lt hV.lt p (p / 64)) ht
    rw [← e] at this
    exact this
  rw [hf] at HH
  generalize hw' : putW W p = W' at *
  clear hw' hf
  go_enter Tryd.func18, Tryd.ntmps18
  go_wp2_with fail
  refine HI.out.mono ?_
  rintro e w1 ⟨rfl, rfl⟩
  go_wp2_with fail
  refine HH.out.mono ?_
  rintro e w2 ⟨rfl, md, rfl⟩
  go_wp2_with fail
  have h1 : BM (w1.drewN md).drew B g n b c W := h.keep rfl rfl
  have ho1 : Only b w1 (w1.drewN md).drew := (Only.drewN _ _ _).trans (Only.drew b _) (.inl rfl)
  have cw := h1.word (h1.word_in hp)
  have cf := h1.frozen (p / 64)
  have c1 := h1.c1
  clear HI HH h hp
  generalize (w1.drewN md) = v at *
  generalize p / 64 = q at *
  generalize hx : W q = x at *
  clear hx
  generalize W' q = x' at *
  generalize 2 ^ (p % 64) = y at *
  generalize hk : 16 * lvN n = k at *
  clear hk
  have S0 : v.drew.cell? ⟨g, 1, none⟩ = some (.slice (some ⟨b, 0, none⟩) k c) ∧ v.drew.cell? ⟨b, q, none⟩ = some (.int .u64 (x : Int)) ∧ v.drew.frozen? ⟨b, q, none⟩ = false ∧ BM v.drew B g n b c W ∧ Only b w1 v.drew := ⟨c1, cw, cf, h1, ho1⟩
  clear c1 cw cf h1 ho1
  refine wp_region_partsS (fun V => V.cell? ⟨g, 1, none⟩ = some (.slice (some ⟨b, 0, none⟩) k c) ∧ V.cell? ⟨b, q, none⟩ = some (.int .u64 (x : Int)) ∧ V.frozen? ⟨b, q, none⟩ = false ∧ BM V B g n b c W ∧ Only b w1 V) [([0, 4, 8], 1, true), ([], 2, true), ([], 3, true), ([], 5, true), ([6], 7, true), ([], 9, false), ([], 10, false)] [11] [12] (by kernel_rfl) (by kernel_rfl) S0 (partsI_yield ?_)
  simp only [List.cons_append, List.nil_append, List.append_nil, List.filterMap_cons, List.filterMap_nil, List.getElem?_toArray, List.getElem?_cons_zero, List.getElem?_cons_succ]
  go_wp2_with fail
  refine ⟨rfl, _, .pointer (some ⟨g, 0, none⟩), rfl, Or.inl ⟨by rfl, fun W hW => by go_simp⟩, partsI_yield ?_⟩
  simp only [Act.put, List.setIfInBounds_toArray, List.set_cons_zero, List.set_cons_succ]
  simp only [List.cons_append, List.nil_append, List.append_nil, List.filterMap_cons, List.filterMap_nil, List.getElem?_toArray, List.getElem?_cons_zero, List.getElem?_cons_succ]
  go_wp2_with fail
  refine ⟨rfl, _, .pointer (some ⟨g, 1, none⟩), rfl, Or.inl ⟨by rfl, fun W hW => by go_simp⟩, partsI_yield ?_⟩
  simp only [Act.put, List.setIfInBounds_toArray, List.set_cons_zero, List.set_cons_succ]
  simp only [List.cons_append, List.nil_append, List.append_nil, List.filterMap_cons, List.filterMap_nil, List.getElem?_toArray, List.getElem?_cons_zero, List.getElem?_cons_succ]
  go_wp2_with fail
  refine ⟨rfl, _, .slice (some ⟨b, 0, none⟩) k c, rfl, Or.inl ⟨by rfl, fun W hW => by have c1 := hW.1; go_simp⟩, partsI_yield ?_⟩
  simp only [Act.put, List.setIfInBounds_toArray, List.set_cons_zero, List.set_cons_succ]
  simp only [List.cons_append, List.nil_append, List.append_nil, List.filterMap_cons, List.filterMap_nil, List.getElem?_toArray, List.getElem?_cons_zero, List.getElem?_cons_succ]
  go_wp2_with fail
  refine ⟨rfl, _, .int .i64 (q : Int), rfl, Or.inl ⟨by rfl, fun W hW => by go_simp⟩, partsI_yield ?_⟩
  simp only [Act.put, List.setIfInBounds_toArray, List.set_cons_zero, List.set_cons_succ]
  simp only [List.cons_append, List.nil_append, List.append_nil, List.filterMap_cons, List.filterMap_nil, List.getElem?_toArray, List.getElem?_cons_zero, List.getElem?_cons_succ]
  go_wp2_with fail
  refine ⟨rfl, _, .int .u64 (x : Int), rfl, Or.inl ⟨by rfl, fun W hW => by have c1 := hW.2.1; go_simp⟩, partsI_force ?_⟩
  simp only [Act.put, List.setIfInBounds_toArray, List.set_cons_zero, List.set_cons_succ]
  simp only [List.cons_append, List.nil_append, List.append_nil, List.filterMap_cons, List.filterMap_nil, List.getElem?_toArray, List.getElem?_cons_zero, List.getElem?_cons_succ]
  go_wp2_with fail
  refine (HO.out _).mono ?_
  rintro e w2 ⟨rfl, rfl⟩
  go_wp2_with fail
  refine ⟨rfl, S0, partsI_force ?_⟩
  simp only [List.cons_append, List.nil_append, List.append_nil, List.filterMap_cons, List.filterMap_nil, List.getElem?_toArray, List.getElem?_cons_zero, List.getElem?_cons_succ]
  go_wp2_with fail
  refine ⟨rfl, S0, partsI_last ?_⟩
  simp only [List.cons_append, List.nil_append, List.append_nil, List.filterMap_cons, List.filterMap_nil, List.getElem?_toArray, List.getElem?_cons_zero, List.getElem?_cons_succ]
  rw [HV.out]
  obtain ⟨c1, cw, cf, h1, ho1⟩ := S0
  have h2 := HP.out v.drew h1
  have ho2 := ho1.trans (Only.set v.drew b q (.int .u64 (x' : Int))) (.inl rfl)
  clear HP HO HV h1 ho1
  go_wp2_with fail
  refine ⟨rfl, ?_⟩
  go_wp2_with fail
  go_ret
  exact ⟨rfl, h2, ho2⟩
set_option maxHeartbeats 2000000 in
theorem clear_one (w : World) (h : BM w B g n b c W) (p : Nat) (hp : p < n) (hf : bitF W p = true) : Calls Tryd.prog 58 #[.pointer (some ⟨g, 0, none⟩), .int .i64 (p : Int)] w fun e w' => e = .returned (.bool true) ∧ BM w' B g n b c (clrW W p) ∧ Only b w w' := by
  have hq := quo64 p
  have hwq : IntKind.i64.wrap ((p / 64 : Nat) : Int) = ((p / 64 : Nat) : Int) := wrapI64_id _ (by omega) (by have := h.n2; omega)
  have i0 : ((p / 64 : Nat) : Int) < ((16 * lvN n : Nat) : Int) := by have := h.word_in hp; omega
  have HH : Hid (Calls Tryd.prog 36 #[.pointer (some ⟨g, 0, none⟩), .int .i64 (p : Int)] w fun e w' => e = .returned (.bool (bitF W p)) ∧ ∃ m, w' = w.drewN m) := has_yes w h p hp
  have HO : Hid (∀ w : World, Calls Tryd.prog 37 #[.int .i64 (p : Int)] w fun e w' => e = .returned (.int .u64 ((2 ^ (p % 64) : Nat) : Int)) ∧ w' = w) := fun w => one_any p (by have := h.n2; omega) _
  have HV : Hid (bits .andNot .u64 ((W (p / 64) : Nat) : Int) ((2 ^ (p % 64) : Nat) : Int) = ((clrW W p (p / 64) : Nat) : Int)) := by
    show bits .andNot .u64 ((W (p / 64) : Nat) : Int) ((2 ^ (p % 64) : Nat) : Int) = ((clrW W p (p / 64) : Nat) : Int)
    rw [u64_andNot_nat _ _ (h.lt _) (pow_lt_u64 _ (by omega))]
    unfold clrW updN
    rw [if_pos rfl]
    rfl
  have HP : Hid (∀ V : World, BM V B g n b c W → BM (V.setCell ⟨b, p / 64, none⟩ (.int .u64 ((clrW W p (p / 64) : Nat) : Int))) B g n b c (clrW W p)) := fun V hV => by
    have e : clrW W p = updN W (p / 64) (clrW W p (p / 64)) := by
      unfold clrW
      funext i
      unfold updN
      split <;> simp_all
    have ht : ∀ r, n ≤ r → bitF (clrW W p) r = false := fun r hr => by
      rw [bitF_clr, hV.tail r hr]
      simp
    rw [e] at ht
    have := hV.put (hV.word_in hp) (clrW_lt hV.lt p (p / 64)) ht
    rw [← e] at this
    exact this
  rw [hf] at HH
  generalize hw' : clrW W p = W' at *
  clear hw' hf
  go_enter Tryd.func58, Tryd.ntmps58
  go_wp2_with fail
  refine HH.out.mono ?_
  rintro e w2 ⟨rfl, md, rfl⟩
  go_wp2_with fail
  have h1 : BM (w.drewN md).drew B g n b c W := h.keep rfl rfl
  have ho1 : Only b w (w.drewN md).drew := (Only.drewN _ _ _).trans (Only.drew b _) (.inl rfl)
  have cw := h1.word (h1.word_in hp)
  have cf := h1.frozen (p / 64)
  have c1 := h1.c1
  clear HH h hp
  generalize (w.drewN md) = v at *
  generalize p / 64 = q at *
  generalize hx : W q = x at *
  clear hx
  generalize W' q = x' at *
  generalize 2 ^ (p % 64) = y at *
  generalize hk : 16 * lvN n = k at *
  clear hk
  have S0 : v.drew.cell? ⟨g, 1, none⟩ = some (.slice (some ⟨b, 0, none⟩) k c) ∧ v.drew.cell? ⟨b, q, none⟩ = some (.int .u64 (x : Int)) ∧ v.drew.frozen? ⟨b, q, none⟩ = false ∧ BM v.drew B g n b c W ∧ Only b w v.drew := ⟨c1, cw, cf, h1, ho1⟩
  clear c1 cw cf h1 ho1
  refine wp_region_partsS (fun V => V.cell? ⟨g, 1, none⟩ = some (.slice (some ⟨b, 0, none⟩) k c) ∧ V.cell? ⟨b, q, none⟩ = some (.int .u64 (x : Int)) ∧ V.frozen? ⟨b, q, none⟩ = false ∧ BM V B g n b c W ∧ Only b w V) [([0, 4, 8], 1, true), ([], 2, true), ([], 3, true), ([], 5, true), ([6], 7, true), ([], 9, false), ([], 10, false)] [11] [12] (by kernel_rfl) (by kernel_rfl) S0 (partsI_yield ?_)
  simp only [List.cons_append, List.nil_append, List.append_nil, List.filterMap_cons, List.filterMap_nil, List.getElem?_toArray, List.getElem?_cons_zero, List.getElem?_cons_succ]
  go_wp2_with fail
  refine ⟨rfl, _, .pointer (some ⟨g, 0, none⟩), rfl, Or.inl ⟨by rfl, fun W hW => by go_simp⟩, partsI_yield ?_⟩
  simp only [Act.put, List.setIfInBounds_toArray, List.set_cons_zero, List.set_cons_succ]
  simp only [List.cons_append, List.nil_append, List.append_nil, List.filterMap_cons, List.filterMap_nil, List.getElem?_toArray, List.getElem?_cons_zero, List.getElem?_cons_succ]
  go_wp2_with fail
  refine ⟨rfl, _, .pointer (some ⟨g, 1, none⟩), rfl, Or.inl ⟨by rfl, fun W hW => by go_simp⟩, partsI_yield ?_⟩
  simp only [Act.put, List.setIfInBounds_toArray, List.set_cons_zero, List.set_cons_succ]
  simp only [List.cons_append, List.nil_append, List.append_nil, List.filterMap_cons, List.filterMap_nil, List.getElem?_toArray, List.getElem?_cons_zero, List.getElem?_cons_succ]
  go_wp2_with fail
  refine ⟨rfl, _, .slice (some ⟨b, 0, none⟩) k c, rfl, Or.inl ⟨by rfl, fun W hW => by have c1 := hW.1; go_simp⟩, partsI_yield ?_⟩
  simp only [Act.put, List.setIfInBounds_toArray, List.set_cons_zero, List.set_cons_succ]
  simp only [List.cons_append, List.nil_append, List.append_nil, List.filterMap_cons, List.filterMap_nil, List.getElem?_toArray, List.getElem?_cons_zero, List.getElem?_cons_succ]
  go_wp2_with fail
  refine ⟨rfl, _, .int .i64 (q : Int), rfl, Or.inl ⟨by rfl, fun W hW => by go_simp⟩, partsI_yield ?_⟩
  simp only [Act.put, List.setIfInBounds_toArray, List.set_cons_zero, List.set_cons_succ]
  simp only [List.cons_append, List.nil_append, List.append_nil, List.filterMap_cons, List.filterMap_nil, List.getElem?_toArray, List.getElem?_cons_zero, List.getElem?_cons_succ]
  go_wp2_with fail
  refine ⟨rfl, _, .int .u64 (x : Int), rfl, Or.inl ⟨by rfl, fun W hW => by have c1 := hW.2.1; go_simp⟩, partsI_force ?_⟩
  simp only [Act.put, List.setIfInBounds_toArray, List.set_cons_zero, List.set_cons_succ]
  simp only [List.cons_append, List.nil_append, List.append_nil, List.filterMap_cons, List.filterMap_nil, List.getElem?_toArray, List.getElem?_cons_zero, List.getElem?_cons_succ]
  go_wp2_with fail
  refine (HO.out _).mono ?_
  rintro e w2 ⟨rfl, rfl⟩
  go_wp2_with fail
  refine ⟨rfl, S0, partsI_force ?_⟩
  simp only [List.cons_append, List.nil_append, List.append_nil, List.filterMap_cons, List.filterMap_nil, List.getElem?_toArray, List.getElem?_cons_zero, List.getElem?_cons_succ]
  go_wp2_with fail
  refine ⟨rfl, S0, partsI_last ?_⟩
  simp only [List.cons_append, List.nil_append, List.append_nil, List.filterMap_cons, List.filterMap_nil, List.getElem?_toArray, List.getElem?_cons_zero, List.getElem?_cons_succ]
  rw [HV.out]
  obtain ⟨c1, cw, cf, h1, ho1⟩ := S0
  have h2 := HP.out v.drew h1
  have ho2 := ho1.trans (Only.set v.drew b q (.int .u64 (x' : Int))) (.inl rfl)
  clear HP HO HV h1 ho1
  go_wp2_with fail
  refine ⟨rfl, ?_⟩
  go_wp2_with fail
  go_ret
  exact ⟨rfl, h2, ho2⟩
/-- a place that is one, or none: nothing happens -/
theorem set_not (w : World) (h : BM w B g n b c W) (p : Int) (hp : p < 0 ∨ (n : Int) ≤ p ∨ (0 ≤ p ∧ p < n ∧ bitF W p.toNat = true)) : Calls Tryd.prog 18 #[.pointer (some ⟨g, 0, none⟩), .int .i64 p] w fun e w' => e = .returned (.bool false) ∧ ∃ m, w' = w.drewN m := by
  by_cases h0 : p < 0 ∨ (n : Int) ≤ p
  · have HI : Hid (Calls Tryd.prog 35 #[.pointer (some ⟨g, 0, none⟩), .int .i64 p] w fun e w' => e = .returned (.bool false) ∧ w' = w) := inside_no _ h p h0
    clear h hp
    go_enter Tryd.func18, Tryd.ntmps18
    go_wp2_with fail
    refine HI.out.mono ?_
    rintro e w' ⟨rfl, rfl⟩
    go_wp2
    go_ret
    exact ⟨rfl, 0, rfl⟩
  · obtain ⟨q, rfl⟩ := Int.eq_ofNat_of_zero_le (a := p) (by omega)
    have hq : q < n := by omega
    have hf : bitF W q = true := by
      rcases hp with z | z | z
      · omega
      · omega
      · simpa using z.2.2
    have HI : Hid (Calls Tryd.prog 35 #[.pointer (some ⟨g, 0, none⟩), .int .i64 (q : Int)] w fun e w' => e = .returned (.bool true) ∧ w' = w) := inside_yes _ h q hq
    have HH : Hid (Calls Tryd.prog 36 #[.pointer (some ⟨g, 0, none⟩), .int .i64 (q : Int)] w fun e w' => e = .returned (.bool (bitF W q)) ∧ ∃ m, w' = w.drewN m) := has_yes w h q hq
    rw [hf] at HH
    clear h hp hf h0 hq
    go_enter Tryd.func18, Tryd.ntmps18
    go_wp2_with fail
    refine HI.out.mono ?_
    rintro e w' ⟨rfl, rfl⟩
    go_wp2_with fail
    refine HH.out.mono ?_
    rintro e w2 ⟨rfl, md, rfl⟩
    go_wp2
    go_ret
    exact ⟨rfl, md, rfl⟩
theorem clear_not (w : World) (h : BM w B g n b c W) (p : Int) (hp : p < 0 ∨ (n : Int) ≤ p ∨ (0 ≤ p ∧ p < n ∧ bitF W p.toNat = false)) : Calls Tryd.prog 58 #[.pointer (some ⟨g, 0, none⟩), .int .i64 p] w fun e w' => e = .returned (.bool false) ∧ ∃ m, w' = w.drewN m := by
  have HH : Hid (Calls Tryd.prog 36 #[.pointer (some ⟨g, 0, none⟩), .int .i64 p] w fun e w' => e = .returned (.bool false) ∧ ∃ m, w' = w.drewN m) := by
    by_cases h0 : p < 0 ∨ (n : Int) ≤ p
    · exact has_no w h p h0
    · obtain ⟨q, rfl⟩ := Int.eq_ofNat_of_zero_le (a := p) (by omega)
      have hf : bitF W q = false := by
        rcases hp with z | z | z
        · omega
        · omega
        · simpa using z.2.2
      have := has_yes w h q (by omega)
      rw [hf] at this
      exact this
  clear h hp
  go_enter Tryd.func58, Tryd.ntmps58
  go_wp2_with fail
  refine HH.out.mono ?_
  rintro e w2 ⟨rfl, md, rfl⟩
  go_wp2
  go_ret
  exact ⟨rfl, md, rfl⟩
/-- Set, Clear of a place -/
theorem set_in (w : World) (h : BM w B g n b c W) (p : Nat) (hp : p < n) : Calls Tryd.prog 18 #[.pointer (some ⟨g, 0, none⟩), .int .i64 (p : Int)] w fun e w' => e = .returned (.bool (!bitF W p)) ∧ BM w' B g n b c (putW W p) ∧ Only b w w' := by
  cases hf : bitF W p
  · exact set_new w h p hp hf
  · refine (set_not w h p (.inr (.inr ⟨by omega, by omega, by simpa using hf⟩))).mono ?_
    rintro e w' ⟨rfl, m, rfl⟩
    refine ⟨rfl, (h.dN m).congr (putW_lt h.lt p) fun q => ?_, Only.drewN _ _ _⟩
    rw [bitF_put]
    by_cases hq : q = p
    · rw [hq, hf]; simp
    · simp [hq]
end
end Go.Proofs.YtjlngldmdfbbaaaDoor

namespace Go.Proofs.YtjlngldmdfbbaaaDoor
open Go.RowKit
set_option linter.unusedSimpArgs false
set_option linter.unusedVariables false

def Fit (a m : Int) : Prop := 0 ≤ a ∧ 0 ≤ m ∧ a ≤ 256 - m
instance (a m : Int) : Decidable (Fit a m) := by unfold Fit; infer_instance

set_option maxRecDepth 100000 in
theorem inside_any (a m : Int) (ha : -9223372036854775808 ≤ a ∧ a ≤ 9223372036854775807) (hm : -9223372036854775808 ≤ m ∧ m ≤ 9223372036854775807) (w : World) :
    Calls Tryd.prog 73 #[.int .i64 a, .int .i64 m] w fun e w' => e = .returned (.bool (decide (Fit a m))) ∧ w' = w := by
  obtain ⟨a1, a2⟩ := ha
  obtain ⟨m1, m2⟩ := hm
  by_cases h1 : 0 ≤ a
  · by_cases h2 : 0 ≤ m
    · by_cases h3 : a ≤ 256 - m
      · have hd : decide (Fit a m) = true := decide_eq_true ⟨h1, h2, h3⟩
        rw [hd]
        clear hd
        go_enter Tryd.func73, Tryd.ntmps73
        go_wp2_with fail
        go_ret
        exact ⟨rfl, rfl⟩
      · have hd : decide (Fit a m) = false := decide_eq_false fun h => h3 h.2.2
        rw [hd]
        clear hd
        go_enter Tryd.func73, Tryd.ntmps73
        go_wp2_with fail
        go_ret
        exact ⟨rfl, rfl⟩
    · have hd : decide (Fit a m) = false := decide_eq_false fun h => h2 h.2.1
      rw [hd]
      clear hd
      go_enter Tryd.func73, Tryd.ntmps73
      go_wp2_with fail
      go_ret
      exact ⟨rfl, rfl⟩
  · have hd : decide (Fit a m) = false := decide_eq_false fun h => h1 h.1
    rw [hd]
    clear hd
    go_enter Tryd.func73, Tryd.ntmps73
    go_wp2_with fail
    go_ret
    exact ⟨rfl, rfl⟩

set_option maxRecDepth 100000 in
set_option maxHeartbeats 4000000 in
theorem lay_fit (f : Nat → Nat) (r : Nat) (s : ByteArray) (h : r + s.size ≤ 256) (w : World) :
    Calls Tryd.prog 70 #[bkV f, .int .i64 (r : Int), .string s] w fun e w' => e = .returned (.tuple #[bkV (putAt f r s.size (tbyte s)), .int .i64 0]) ∧ Below w.heap.size w w' := by
  have hI : Hid (∀ w : World, Calls Tryd.prog 73 #[.int .i64 (r : Int), .int .i64 (s.size : Int)] w fun e w' => e = .returned (.bool true) ∧ w' = w) := fun w => by
    have := inside_any (r : Int) (s.size : Int) (by omega) (by omega) w
    rw [decide_eq_true (show Fit (r : Int) (s.size : Int) from ⟨by omega, by omega, by omega⟩)] at this
    exact this
  have hz := zero_bk
  obtain ⟨F, hF⟩ : ∃ F, F = putAt f r s.size (tbyte s) := ⟨_, rfl⟩
  rw [← hF]
  unfold bkV
  go_enter Tryd.func70, Tryd.ntmps70
  go_wp2_with fail
  refine (hI.out _).mono ?_
  rintro e w1 ⟨rfl, rfl⟩
  have b0 : Blk ((w.alloc (Obj.cells (va 256 (iv IntKind.u8 f)) 89)).alloc (Obj.cells (va 256 (iv IntKind.u8 fun x => 0)) 89)) w.heap.size 89 (va 256 (iv .u8 f)) := (Blk.new _ _ _).alloc _
  have b1 := Blk.new1 w (Obj.cells (va 256 (iv IntKind.u8 f)) 89) 89 (va 256 (iv IntKind.u8 fun x => 0))
  have hb := below_new2 w (Obj.cells (va 256 (iv IntKind.u8 f)) 89) (Obj.cells (va 256 (iv IntKind.u8 fun x => 0)) 89)
  generalize (w.alloc (Obj.cells (va 256 (iv IntKind.u8 f)) 89)).alloc (Obj.cells (va 256 (iv IntKind.u8 fun x => 0)) 89) = W at *
  clear hI hz
  have r0 : (0 : Int) ≤ (r : Int) := by omega
  have r1 : (r : Int) ≤ 256 := by omega
  by_cases hr : 256 = r
  · obtain rfl : r = 256 := hr.symm
    have hs0 : s.size = 0 := by omega
    have hc := run_copy_text (P := Tryd.prog) W 106 9 3 5 w.heap.size 0 0 0 s _ 89 0 Tryd.underlying106 ksizeU8 b0 (by show _ = min _ _; omega) (by rw [va_size]; decide)
    rw [splice_put 256 0 0 f (tbyte s) (by decide)] at hc
    have e0 : va 256 (iv .u8 (putAt f 0 0 (tbyte s))) = va 256 (iv .u8 (putAt f 256 s.size (tbyte s))) := va_congr fun i hi => by
      unfold iv putAt
      rw [if_neg (by omega), if_neg (by omega)]
    rw [e0] at hc
    have b2 := b0.set (va 256 (iv .u8 (putAt f 256 s.size (tbyte s))))
    have b3 := b1.other (g := w.heap.size) (va 256 (iv .u8 (putAt f 256 s.size (tbyte s)))) (by omega)
    have hb2 := below_setRow hb (Nat.le_refl _) (va 256 (iv .u8 (putAt f 256 s.size (tbyte s))))
    generalize W.setRow w.heap.size (va 256 (iv .u8 (putAt f 256 s.size (tbyte s)))) = W2 at *
    rw [← hF] at b2
    clear hF
    clear e0 b0 b1 hb
    go_wp2_with (first
      | (refine wpList_load_row (by rfl) 89 _ (by rfl) (w.heap.size) (by rfl) 89 (va 256 (iv .u8 F)) (0, 0) _ b2 Tryd.underlying89 (by rfl) (sizeBk.trans (by rw [va_size])) ?_; simp only [Act.put, List.setIfInBounds_toArray, List.set_cons_zero, List.set_cons_succ])
      | (refine wpList_store_row (by rfl) 89 _ _ (by rfl) (w.heap.size + 1) (va 256 (iv .u8 F)) (by rfl) (by rfl) 89 _ b3 (sizeBk.trans (by rw [va_size])) (by simp only [va_size]) (iv_one _ _ _) ?_; simp only [Act.put, List.setIfInBounds_toArray, List.set_cons_zero, List.set_cons_succ])
      | fail)
    try simp only [Exit.inBlock, Exit.then]
    refine bodyPost_ret (results_row2 Tryd.results70 _ _ (w.heap.size + 1) 89 (va 256 (iv .u8 F)) (0, 0) _ rfl (b3.set _) Tryd.underlying89 rfl (sizeBk.trans (by rw [va_size]))) rfl ?_
    exact ⟨rfl, below_setRow hb2 (by omega) _⟩
  · have hc := run_copy_text (P := Tryd.prog) W 106 9 3 5 w.heap.size r (256 - r) (256 - r) s _ 89 s.size Tryd.underlying106 ksizeU8 b0 (by show _ = min _ _; omega) (by rw [va_size]; exact h)
    rw [splice_put 256 r s.size f (tbyte s) h] at hc
    have b2 := b0.set (va 256 (iv .u8 (putAt f r s.size (tbyte s))))
    have b3 := b1.other (g := w.heap.size) (va 256 (iv .u8 (putAt f r s.size (tbyte s)))) (by omega)
    have hb2 := below_setRow hb (Nat.le_refl _) (va 256 (iv .u8 (putAt f r s.size (tbyte s))))
    generalize W.setRow w.heap.size (va 256 (iv .u8 (putAt f r s.size (tbyte s)))) = W2 at *
    rw [← hF] at b2
    clear hF
    clear b0 b1 hb
    go_wp2_with (first
      | (refine wpList_load_row (by rfl) 89 _ (by rfl) (w.heap.size) (by rfl) 89 (va 256 (iv .u8 F)) (0, 0) _ b2 Tryd.underlying89 (by rfl) (sizeBk.trans (by rw [va_size])) ?_; simp only [Act.put, List.setIfInBounds_toArray, List.set_cons_zero, List.set_cons_succ])
      | (refine wpList_store_row (by rfl) 89 _ _ (by rfl) (w.heap.size + 1) (va 256 (iv .u8 F)) (by rfl) (by rfl) 89 _ b3 (sizeBk.trans (by rw [va_size])) (by simp only [va_size]) (iv_one _ _ _) ?_; simp only [Act.put, List.setIfInBounds_toArray, List.set_cons_zero, List.set_cons_succ])
      | fail)
    try simp only [Exit.inBlock, Exit.then]
    refine bodyPost_ret (results_row2 Tryd.results70 _ _ (w.heap.size + 1) 89 (va 256 (iv .u8 F)) (0, 0) _ rfl (b3.set _) Tryd.underlying89 rfl (sizeBk.trans (by rw [va_size]))) rfl ?_
    exact ⟨rfl, below_setRow hb2 (by omega) _⟩

end Go.Proofs.YtjlngldmdfbbaaaDoor

namespace Go.Proofs.YtjlngldmdfbbaaaDoor
open Go.RowKit
set_option linter.unusedSimpArgs false
set_option linter.unusedVariables false

/-- the block of a text -/
theorem put_text (s : ByteArray) : bkV (putAt (fun _ => 0) 0 s.size (tbyte s)) = bkV (tbyte s) := bkV_congr fun i hi => by
  unfold putAt
  by_cases h : i < s.size
  · rw [if_pos (by omega), Nat.sub_zero]
  · rw [if_neg (by omega), tbyte_out s i (by omega)]

set_option maxRecDepth 100000 in
set_option maxHeartbeats 4000000 in
theorem blockOf_by (s : ByteArray) (F : Nat → Nat) (x : Int) (hL : ∀ w : World, Calls Tryd.prog 70 #[bkV fun _ => 0, .int .i64 0, .string s] w fun e w' => e = .returned (.tuple #[bkV F, .int .i64 x]) ∧ Below w.heap.size w w') (w : World) :
    Calls Tryd.prog 66 #[.string s] w fun e w' => e = .returned (.tuple #[bkV F, .int .i64 x]) ∧ Below w.heap.size w w' := by
  have HL : Hid (∀ w : World, Calls Tryd.prog 70 #[bkV fun _ => 0, .int .i64 0, .string s] w fun e w' => e = .returned (.tuple #[bkV F, .int .i64 x]) ∧ Below w.heap.size w w') := hL
  clear hL
  unfold bkV at *
  have hz := zero_bk
  have b0 := Blk.new w 89 (va 256 (iv .u8 fun _ => 0))
  have hb := below_new1 w (Obj.cells (va 256 (iv IntKind.u8 fun _ => 0)) 89)
  go_enter Tryd.func66, Tryd.ntmps66
  go_wp2_with fail
  generalize w.alloc (Obj.cells (va 256 (iv IntKind.u8 fun _ => 0)) 89) = W at *
  go_wp2_with fail
  refine (HL.out _).mono ?_
  rintro e w1 ⟨rfl, hb1⟩
  have b1 := b0.below hb1 b0.lt
  have hb2 : Below w.heap.size w w1 := hb.trans (hb1.mono hb.size)
  clear hb hb1 b0 HL hz
  go_wp2_with (first
    | (refine wpList_store_row (by rfl) 89 _ _ (by rfl) (w.heap.size) (va 256 (iv .u8 F)) (by rfl) (by rfl) 89 _ b1 (sizeBk.trans (by rw [va_size])) (by simp only [va_size]) (iv_one _ _ _) ?_; simp only [Act.put, List.setIfInBounds_toArray, List.set_cons_zero, List.set_cons_succ])
    | fail)
  try simp only [Exit.inBlock, Exit.then]
  refine bodyPost_ret (results_row2 Tryd.results66 _ _ (w.heap.size) 89 (va 256 (iv .u8 F)) (0, 0) _ rfl (b1.set _) Tryd.underlying89 rfl (sizeBk.trans (by rw [va_size]))) rfl ?_
  exact ⟨rfl, below_setRow hb2 (Nat.le_refl _) _⟩
theorem blockOf_fit (s : ByteArray) (h : s.size ≤ 256) (w : World) :
    Calls Tryd.prog 66 #[.string s] w fun e w' => e = .returned (.tuple #[bkV (tbyte s), .int .i64 0]) ∧ Below w.heap.size w w' := by
  refine blockOf_by s _ 0 (fun w => ?_) w
  have := lay_fit (fun _ => 0) 0 s (by omega) w
  rw [put_text] at this
  exact this
end Go.Proofs.YtjlngldmdfbbaaaDoor

namespace Go.Proofs.YtjlngldmdfbbaaaDoor
open Go Go.RowKit
set_option linter.unusedVariables false

theorem kblk_range {w : World} {g t n : Nat} {f : Nat → Value} (h : Blk w g t (va n f)) : w.rangeAt g 0 ((List.range n).map f) := fun j v hv => by
  refine h.range 0 n (by omega) j v ?_
  rw [← hv]
  simp
theorem kyields_load {P : Program} {ops : Array Oper} {S : World → Prop} {op : Oper} {a : Act} (hw : Region.wanted op (yielded ops a.tmps) = true) (ty : TypeId) (x : Operand) (ho : op.op = .load ty x)
    (b n : Nat) (f : Nat → Value) (hx : a.eval x = .pointer (some ⟨b, 0, none⟩)) (d : TypeDesc) (t : Nat) (hS : ∀ w, S w → Blk w b t (va n f))
    (hu : P.underlying ty = some d) (hd : d.isRow = true) (hi : (P.info? ty).map (·.size) = some n) : YieldsIf P ops S op (.agg (va n f)) a :=
  yieldsIf_load_mid hw ty x ho b 0 hx _ d (fun w h => kblk_range (hS w h)) hu hd (hi.trans (by simp))
end Go.Proofs.YtjlngldmdfbbaaaDoor

namespace Go.Proofs.YtjlngldmdfbbaaaDoor
open Go Go.RowKit
set_option linter.unusedVariables false

/-- the slice at a of n blocks, told by L -/
def IsBlks (w : World) (a : Option Addr) (n : Nat) (L : Nat → Nat → Nat) : Prop :=
  ∀ i, i < n → ∃ b o, a = some ⟨b, o, none⟩ ∧ b < w.heap.size ∧ w.rangeAt b (o + i * 256) ((List.range 256).map (iv .u8 (L i)))
theorem range_below {w w' : World} {B b o : Nat} {cs : List Value} (h : w.rangeAt b o cs) (hb : Below B w w') (hB : b < B) : w'.rangeAt b o cs := fun j v hv => by
  rw [← h j v hv]
  simp [World.cell?, hb.block b hB]
theorem IsBlks.below {w w' : World} {a : Option Addr} {n : Nat} {L : Nat → Nat → Nat} (h : IsBlks w a n L) (hb : Below w.heap.size w w') : IsBlks w' a n L := fun i hi => by
  obtain ⟨b, o, e, h1, h2⟩ := h i hi
  exact ⟨b, o, e, Nat.lt_of_lt_of_le h1 hb.size, range_below h2 hb h1⟩
end Go.Proofs.YtjlngldmdfbbaaaDoor

namespace Go.Proofs.YtjlngldmdfbbaaaDoor
open Go.RowKit
set_option linter.unusedSimpArgs false
set_option linter.unusedVariables false

theorem fold_set : ∀ (l : List Value) (k : Nat) (A : Array Value), k + l.length ≤ A.size →
    ((l.zipIdx k).foldl (fun cs (x : Value × Nat) => cs.setIfInBounds (0 + x.2) x.1) A).size = A.size ∧
    ∀ i, ((l.zipIdx k).foldl (fun cs (x : Value × Nat) => cs.setIfInBounds (0 + x.2) x.1) A)[i]? = if k ≤ i ∧ i < k + l.length then l[i - k]? else A[i]?
  | [], k, A, h => ⟨rfl, fun i => by simp; omega⟩
  | v :: l, k, A, h => by
    rw [List.zipIdx_cons, List.foldl_cons]
    obtain ⟨h1, h2⟩ := fold_set l (k + 1) (A.setIfInBounds (0 + k) v) (by simp at h ⊢; omega)
    refine ⟨by rw [h1]; simp, fun i => ?_⟩
    rw [h2 i]
    simp at h
    by_cases hi : i = k
    · subst hi
      rw [if_neg (by omega), if_pos (by simp), Nat.zero_add, Array.getElem?_setIfInBounds, if_pos rfl, if_pos (by omega), Nat.sub_self]
      rfl
    · by_cases hj : k + 1 ≤ i ∧ i < k + 1 + l.length
      · rw [if_pos hj, if_pos (by simp; omega)]
        obtain ⟨d, hd⟩ : ∃ d, i - k = d + 1 := ⟨i - k - 1, by omega⟩
        rw [hd, List.getElem?_cons_succ, show i - (k + 1) = d by omega]
      · rw [if_neg hj, if_neg (by simp; omega), Array.getElem?_setIfInBounds, if_neg (by omega)]
theorem fill_one (n : Nat) (cells cs : Array Value) (h1 : cells.size = n) (h2 : cs.size = n) : Instr.fill (fun i => some (i * n, n)) cells [(0, .agg cs)] = some cs := by
  have hc : (Value.agg cs).cells = cs := rfl
  unfold Instr.fill
  simp only [hc, h2, h1, ne_eq, not_true_eq_false, decide_false, Bool.false_or, Nat.zero_mul, Nat.zero_add, Nat.lt_irrefl, decide_false, gt_iff_lt, if_false, Bool.false_eq_true]
  unfold Instr.fill
  congr 1
  obtain ⟨e1, e2⟩ := fold_set cs.toList 0 cells (by simp [h1, h2])
  apply Array.ext_getElem?
  intro i
  have := e2 i
  simp only [Nat.zero_add] at this e1
  have e3 : cs.zipIdx.foldl (fun cs (x : Value × Nat) => match x with | (c, j) => cs.setIfInBounds j c) cells = (cs.toList.zipIdx 0).foldl (fun cs (x : Value × Nat) => cs.setIfInBounds x.2 x.1) cells := by
    rw [← Array.foldl_toList]
    simp
  rw [e3, this]
  by_cases hi : i < cs.size
  · rw [if_pos (by simpa using hi)]
    simp
  · rw [if_neg (by simpa using hi), Array.getElem?_eq_none (by omega), Array.getElem?_eq_none (by omega)]
/-- a slice of one array -/
theorem wpList_build1 {P : Program} {ops : Array Oper} {rest : List Oper} {o : Oper} {a : Act} {w : World} {Q : Exit → Act → World → Prop} (hg : o.guard = none) (t e : TypeId) (x : Operand) (ho : o.op = .buildSlice t 1 #[(0, x)])
    (cs : Array Value) (hx : a.eval x = .agg cs) (ie : TypeInfo) (z : Value) (n : Nat)
    (hu : P.underlying t = some (.slice e)) (hie : P.info? e = some ie) (hz : ie.zero = some z) (hn : ie.size = n) (hcs : cs.size = n) (h0 : 0 < n) (h24 : n ≤ 16777216)
    (h : wpList P ops Q rest (a.put o.dst (.slice (some ⟨w.heap.size, 0, none⟩) 1 1)) (w.alloc (.cells cs e))) : wpList P ops Q (o :: rest) a w := by
  refine wpList_buildSlice hg t e 1 _ ho cs ie z hu hie hz (by rw [hn]; omega) (by rw [hn]; omega) ?_ h
  rw [hn]
  have e1 : (Array.map (fun (x : Nat × Operand) => match x with | (i, x) => (i, a.eval x)) #[(0, x)]).toList = [(0, Value.agg cs)] := by
    simp [hx]
  rw [e1]
  exact fill_one n _ _ (by simp) hcs
theorem infoBk : (Tryd.prog.info? 89).map (fun i => (i.zero, i.size, i.bytes)) = some (some (.agg (va 256 (iv .u8 fun _ => 0))), 256, 256) := by kernel_rfl

/-- a block of a slice, loaded -/
theorem wpList_load_blk {P : Program} {ops : Array Oper} {rest : List Oper} {op : Oper} {a : Act} {w : World} {Q : Exit → Act → World → Prop} (hgd : op.guard = none) (ty : TypeId) (x : Operand) (ho : op.op = .load ty x)
    (b o n : Nat) (f : Nat → Value) (hx : a.eval x = .pointer (some ⟨b, o, none⟩)) (d : TypeDesc) (hc : w.rangeAt b o ((List.range n).map f))
    (hu : P.underlying ty = some d) (hd : d.isRow = true) (hi : (P.info? ty).map (·.size) = some n)
    (h : wpList P ops Q rest (a.put op.dst (.agg (va n f))) w) : wpList P ops Q (op :: rest) a w :=
  wpList_load_mid hgd ty x ho b o hx _ d hc hu hd (hi.trans (by simp)) h
theorem cells_new (w : World) (cs : Array Value) (t : TypeId) : ∀ j u, cs.toList[j]? = some u → (w.alloc (.cells cs t)).cell? ((⟨w.heap.size, 0, none⟩ : Addr).add j) = some u := fun j u hu => by
  have hb : Blk (w.alloc (.cells cs t)) w.heap.size t cs := Blk.new w t cs
  rw [Addr.add_mid, Nat.zero_add, hb.cell]
  simpa using hu
theorem kva_mem_one (n : Nat) (f : Nat → Nat) : ∀ v ∈ (va n (iv .u8 f)).toList, v.oneCell' = true := fun v hv => by
  rw [va_toList] at hv
  obtain ⟨i, _, rfl⟩ := List.mem_map.1 hv
  rfl
/-- a slice of blocks that the program made, told as one that is handed on -/
theorem own_blks {w : World} {B : Nat} {e : TypeId} {v : Value} {c : Nat} {F : Nat → Nat} (h : w.ownsRow B e 256 v c (byL F (c * 256))) : ∃ a cap, v = .slice a c cap ∧ IsBlks w a c fun i j => F (256 * i + j) := by
  rcases h.2 with ⟨rfl, rfl⟩ | ⟨g, cap, cur, rfl, hb, hg, hcap, _, hsz, htake⟩
  · exact ⟨none, 0, rfl, fun i hi => absurd hi (by omega)⟩
  · refine ⟨_, cap, rfl, fun i hi => ⟨g, 0, rfl, (Array.getElem?_eq_some_iff.1 hg).1, fun j u hu => ?_⟩⟩
    have hj : j < 256 := by
      have := (List.getElem?_eq_some_iff.1 hu).1
      simpa using this
    rw [show 0 + i * 256 + j = i * 256 + j by omega, h.cellAt (i * 256 + j) (by omega), byL_at _ _ _ (by omega), ← hu]
    simp [hj, iv, show 256 * i + j = i * 256 + j by omega]
end Go.Proofs.YtjlngldmdfbbaaaDoor
