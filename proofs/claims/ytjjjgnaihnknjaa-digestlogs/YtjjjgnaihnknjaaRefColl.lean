/- The first collision of a list of entries, by the document: its contract. -/
import Derived.Test.YtjjjgnaihnknjaaRefPut
import Derived.Handy
namespace Go.Proofs.Ytjjjgnaihnknjaa
open Go.RowKit
set_option linter.unusedSimpArgs false
set_option linter.unusedVariables false

theorem infoDig : (Try.prog.info? 38).map (fun i => (i.zero, i.size, i.bytes)) = some (some (.agg (va 32 (iv .u8 fun _ => 0))), 32, 32) := by kernel_rfl
theorem sizeDig : (Try.prog.info? 38).map (·.size) = some 32 := by kernel_rfl
/-- the cells of a digest, and of a row of them -/
def digL (d : Vector Nat 32) : List Value := (List.range 32).map (iv .u8 (dF d))
def sumCells (D : Nat → Vector Nat 32) (k : Nat) : List Value := (List.range k).flatMap fun j => digL (D j)
theorem digL_length (d : Vector Nat 32) : (digL d).length = 32 := by simp [digL]
theorem digL_one (d : Vector Nat 32) : ∀ u ∈ digL d, u.oneCell' = true := fun u hu => by
  unfold digL at hu
  obtain ⟨i, _, rfl⟩ := List.mem_map.1 hu
  rfl
theorem sumCells_succ (D : Nat → Vector Nat 32) (k : Nat) : sumCells D (k + 1) = sumCells D k ++ digL (D k) := by
  unfold sumCells
  rw [List.range_succ, List.flatMap_append]
  simp
theorem sumCells_length (D : Nat → Vector Nat 32) (k : Nat) : (sumCells D k).length = k * 32 := by
  induction k with
  | zero => simp [sumCells]
  | succ k ih => rw [sumCells_succ, List.length_append, ih, digL_length]; omega
theorem sumCells_at (D : Nat → Vector Nat 32) : ∀ (k i j : Nat), i < k → j < 32 → (sumCells D k)[i * 32 + j]? = some (iv .u8 (dF (D i)) j)
  | 0, i, j, hi, hj => by omega
  | k + 1, i, j, hi, hj => by
    rw [sumCells_succ]
    by_cases h : i < k
    · rw [List.getElem?_append_left (by rw [sumCells_length]; omega)]
      exact sumCells_at D k i j h hj
    · obtain rfl : i = k := by omega
      rw [List.getElem?_append_right (by rw [sumCells_length]; omega), sumCells_length, show i * 32 + j - i * 32 = j from by omega]
      simp [digL, hj]
theorem own_range {w : World} {B b k cap : Nat} {D : Nat → Vector Nat 32} (h : w.ownsRow B 38 32 (.slice (some ⟨b, 0, none⟩) k cap) k (sumCells D k)) (i : Nat) (hi : i < k) : w.rangeAt b (i * 32) ((List.range 32).map (iv .u8 (dF (D i)))) := fun j v hv => by
  have hj : j < 32 := by
    have := (List.getElem?_eq_some_iff.1 hv).1
    simpa using this
  rw [h.cellAt (i * 32 + j) (by omega), sumCells_at D k i j hi hj, ← hv]
  simp [hj]
theorem own_slice {w : World} {B e size k : Nat} {v : Value} {xs : List Value} (h : w.ownsRow B e size v k xs) (h0 : 0 < k) : ∃ b cap, v = .slice (some ⟨b, 0, none⟩) k cap ∧ B ≤ b ∧ b < w.heap.size := by
  rcases h.2 with ⟨_, h2⟩ | ⟨b, cap, cur, h1, h2, h3, _⟩
  · omega
  · exact ⟨b, cap, h1, h2, (Array.getElem?_eq_some_iff.1 h3).1⟩

theorem build_dig (f : Nat → Nat) : Array.foldl (fun (cs : Array Value) (x : Value × Nat) => cs.setIfInBounds x.snd x.fst) #[Value.int .u8 0, Value.int .u8 0, Value.int .u8 0, Value.int .u8 0, Value.int .u8 0, Value.int .u8 0, Value.int .u8 0, Value.int .u8 0, Value.int .u8 0, Value.int .u8 0, Value.int .u8 0, Value.int .u8 0, Value.int .u8 0, Value.int .u8 0, Value.int .u8 0, Value.int .u8 0, Value.int .u8 0, Value.int .u8 0, Value.int .u8 0, Value.int .u8 0, Value.int .u8 0, Value.int .u8 0, Value.int .u8 0, Value.int .u8 0, Value.int .u8 0, Value.int .u8 0, Value.int .u8 0, Value.int .u8 0, Value.int .u8 0, Value.int .u8 0, Value.int .u8 0, Value.int .u8 0] (va 32 (iv .u8 f)).zipIdx 0 (va 32 (iv .u8 f)).size = va 32 (iv .u8 f) := by kernel_rfl

set_option maxRecDepth 100000 in
set_option maxHeartbeats 8000000 in
theorem refColl_any (v : Value) (E : List (Nat × ByteArray)) (hE : E.length ≤ 4000000000000) (hOk : ∀ i, i < E.length → (E.getD i (0, ByteArray.empty)).1 < 256 ∧ (E.getD i (0, ByteArray.empty)).2.size ≤ 140737488351232) (w : World) (h : RefAt w v E) :
    Calls Try.prog 56 #[v] w fun e w' => ∃ i k b, e = .returned (.tuple #[.int .i64 ((i : Nat) : Int), .int .i64 ((k : Nat) : Int), .bool b]) ∧ CollIs (digAt E) E.length i k b ∧ Below w.heap.size w w' := by
  obtain ⟨i0, hi, hz0, hz1, hz2⟩ := info_parts infoDig
  have HI : Hid (Try.prog.info? 38 = some i0 ∧ i0.zero = some (.agg (va 32 (iv .u8 fun _ => 0))) ∧ i0.size = 32 ∧ i0.bytes = 32) := ⟨hi, hz0, hz1, hz2⟩
  clear hi hz0 hz1 hz2
  obtain ⟨b, cap, hv, hbl⟩ := h.2
  subst hv
  have HC : Hid (∀ i, i < E.length → w.cell? ⟨b, i * 2, none⟩ = some (.int .u8 (((E.getD i (0, ByteArray.empty)).1 : Nat) : Int)) ∧ w.cell? ⟨b, i * 2 + 1, none⟩ = some (.string (E.getD i (0, ByteArray.empty)).2)) := fun i hi => h.cells i hi
  have HO : Hid (∀ i, i < E.length → ∀ w : World, Calls Try.prog 15 #[.int .u8 (((E.getD i (0, ByteArray.empty)).1 : Nat) : Int), .string (E.getD i (0, ByteArray.empty)).2] w fun e w' => e = .returned (.agg (va 32 (iv .u8 (dF (digAt E i))))) ∧ Below w.heap.size w w') := fun i hi w => by
    unfold digAt
    rw [dF_dg]
    exact refOf_any _ (hOk i hi).1 _ (hOk i hi).2 w
  generalize digAt E = D at *
  clear h hOk
  have HOWN0 : Hid ((w.alloc (.cells #[] 38)).ownsRow w.heap.size 38 32 (.slice (some ⟨w.heap.size, 0, none⟩) 0 0) 0 (sumCells D 0)) := World.ownsRow_lit w #[] 0 (Nat.le_refl _) (by decide) rfl
  go_enter Try.func56, Try.ntmps56
  go_wp2_with fail
  go_loopw [5, 6] (fun s c wr => ∃ k : Nat, k ≤ E.length ∧ c = .int .i64 (k : Int) ∧ Below w.heap.size w wr ∧ Hid (wr.ownsRow w.heap.size 38 32 s k (sumCells D k)) ∧ ∀ y, y < k → ∀ x, x < y → D x ≠ D y) (fun _ c _ => E.length + 1 - (intOf c).toNat)
  case atStart =>
    exact ⟨0, Nat.zero_le _, rfl, (Below.refl _ _).alloc (Nat.le_refl _) _, HOWN0, fun y hy => absurd hy (by omega)⟩
  case round =>
    clear HOWN0
    obtain ⟨k, hk, rfl, hbel, HOWN, huniq⟩ := hrel
    by_cases hlt : k < E.length
    · have t0 : (k : Int) < (E.length : Int) := by omega
      have j0 : (0 : Int) ≤ (k : Int) := by omega
      obtain ⟨d0, d1⟩ := HC.out k hlt
      have hO := HO.out k hlt
      have d0' : ∀ W, Below w.heap.size w W → W.cell? ⟨b, k * 2, none⟩ = some (.int .u8 (((E.getD k (0, ByteArray.empty)).1 : Nat) : Int)) := fun W hW => by rw [hW.cell hbl]; exact d0
      have d1' : ∀ W, Below w.heap.size w W → W.cell? ⟨b, k * 2 + 1, none⟩ = some (.string (E.getD k (0, ByteArray.empty)).2) := fun W hW => by rw [hW.cell hbl]; exact d1
      generalize E.getD k (0, ByteArray.empty) = x at *
      have HO1 : Hid (∀ w : World, Calls Try.prog 15 #[.int .u8 ((x.1 : Nat) : Int), .string x.2] w fun e w' => e = .returned (.agg (va 32 (iv .u8 (dF (D k))))) ∧ Below w.heap.size w w') := hO
      clear hO
      go_wp2_with fail
      refine wp_region_partsI [] [([0, 1, 2, 3, 6, 7, 8], 4, true), ([], 5, true), ([], 9, true), ([], 10, true), ([], 11, false), ([], 12, false)] [] [13, 14] w.heap.size (by kernel_rfl) (by kernel_rfl) (fun _ hx => nomatch hx) (partsI_yield ?_)
      simp only [List.cons_append, List.nil_append, List.append_nil, List.filterMap_cons, List.filterMap_nil, List.getElem?_toArray, List.getElem?_cons_zero, List.getElem?_cons_succ]
      go_wp2_with fail
      refine ⟨rfl, _, .pointer (some ⟨b, k * 2, none⟩), rfl, Or.inl ⟨by rfl, fun W hW => by go_simp⟩, partsI_yield ?_⟩
      simp only [Act.put, List.setIfInBounds_toArray, List.set_cons_zero, List.set_cons_succ]
      simp only [List.cons_append, List.nil_append, List.append_nil, List.filterMap_cons, List.filterMap_nil, List.getElem?_toArray, List.getElem?_cons_zero, List.getElem?_cons_succ]
      go_wp2_with fail
      refine ⟨rfl, _, .int .u8 ((x.1 : Nat) : Int), rfl, Or.inl ⟨by rfl, fun W hW => by have cw := d0' W (hbel.trans hW); go_simp⟩, partsI_yield ?_⟩
      simp only [Act.put, List.setIfInBounds_toArray, List.set_cons_zero, List.set_cons_succ]
      simp only [List.cons_append, List.nil_append, List.append_nil, List.filterMap_cons, List.filterMap_nil, List.getElem?_toArray, List.getElem?_cons_zero, List.getElem?_cons_succ]
      go_wp2_with fail
      refine ⟨rfl, _, .pointer (some ⟨b, k * 2 + 1, none⟩), rfl, Or.inl ⟨by rfl, fun W hW => by go_simp⟩, partsI_yield ?_⟩
      simp only [Act.put, List.setIfInBounds_toArray, List.set_cons_zero, List.set_cons_succ]
      simp only [List.cons_append, List.nil_append, List.append_nil, List.filterMap_cons, List.filterMap_nil, List.getElem?_toArray, List.getElem?_cons_zero, List.getElem?_cons_succ]
      go_wp2_with fail
      refine ⟨rfl, _, .string x.2, rfl, Or.inl ⟨by rfl, fun W hW => by have cw := d1' W (hbel.trans hW); go_simp⟩, partsI_force ?_⟩
      simp only [Act.put, List.setIfInBounds_toArray, List.set_cons_zero, List.set_cons_succ]
      simp only [List.cons_append, List.nil_append, List.append_nil, List.filterMap_cons, List.filterMap_nil, List.getElem?_toArray, List.getElem?_cons_zero, List.getElem?_cons_succ]
      go_wp2_with fail
      refine (HO1.out _).mono ?_
      rintro e w1 ⟨rfl, hb1⟩
      have hS1 : Below w.heap.size wr w1 := (Below.refl _ _).drew.trans (hb1.mono hbel.size)
      have HOWN1 : Hid (w1.ownsRow w.heap.size 38 32 u5 k (sumCells D k)) := own_block HOWN.out (fun j hj => hb1.block j (HOWN.out.lt j hj).2)
      go_wp2_with fail
      refine ⟨rfl, hS1, partsI_force ?_⟩
      simp only [List.cons_append, List.nil_append, List.append_nil, List.filterMap_cons, List.filterMap_nil, List.getElem?_toArray, List.getElem?_cons_zero, List.getElem?_cons_succ]
      have hvs : (va 32 (iv .u8 (dF (D k)))).size = 32 := va_size _ _
      have hbd := build_dig (dF (D k))
      rw [hvs] at hbd
      go_wp2_with fail
      clear hvs
      have hS2 : Below w.heap.size wr (w1.alloc (.cells (va 32 (iv .u8 (dF (D k)))) 38)) := hS1.alloc (Nat.le_trans hbel.size hS1.size) _
      have HOWN2 : Hid ((w1.alloc (.cells (va 32 (iv .u8 (dF (D k)))) 38)).ownsRow w.heap.size 38 32 u5 k (sumCells D k)) := HOWN1.out.alloc _
      have HX : Hid (∀ j u, (digL (D k))[j]? = some u → (w1.alloc (.cells (va 32 (iv .u8 (dF (D k)))) 38)).cell? ((⟨w1.heap.size, 0, none⟩ : Addr).add j) = some u) := fun j u hu => by
        have hB := Blk.new w1 38 (va 32 (iv .u8 (dF (D k))))
        rw [Addr.add_mid, Nat.zero_add, hB.cell, ← hu]
        unfold digL va
        simp
      have s2 : w.heap.size ≤ (w1.alloc (.cells (va 32 (iv .u8 (dF (D k)))) 38)).heap.size := Nat.le_trans hbel.size hS2.size
      clear HOWN1 hb1
      generalize w1.alloc (.cells (va 32 (iv .u8 (dF (D k)))) 38) = w2 at *
      refine ⟨rfl, hS2, partsI_last ?_⟩
      simp only [List.cons_append, List.nil_append, List.append_nil, List.filterMap_cons, List.filterMap_nil, List.getElem?_toArray, List.getElem?_cons_zero, List.getElem?_cons_succ]
      have hl1 := digL_length (D k)
      have hone := digL_one (D k)
      obtain ⟨hi, hz0, hz1, hz2⟩ := HI.out
      refine wpList_append_own _ rfl _ _ 122 rfl w.heap.size 38 i0 _ 32 32 Try.underlying122 hi hz0 hz1 hz2 (va_size _ _) (by decide) u5 k _ rfl HOWN2.out ⟨w1.heap.size, 0, none⟩ 1 1 (digL (D k)) rfl hl1 HX.out hone (by unfold maxLen; omega) (by omega) s2 ?_
      intro v3 w3 own3 grow3 _
      rw [← sumCells_succ] at own3
      have hbel3 : Below w.heap.size w w3 := (hbel.trans hS2).grown grow3 s2 (fun j hj => (HOWN2.out.lt j hj).1)
      clear HX HOWN2 hS2 s2 grow3 hl1 hone hi hz0 hz1 hz2 hbd hS1
      obtain ⟨b3, cap3, hv3, hb3, hb3l⟩ := own_slice own3 (by omega)
      subst hv3
      have HOWN3 : Hid (w3.ownsRow w.heap.size 38 32 (.slice (some ⟨b3, 0, none⟩) (k + 1) cap3) (k + 1) (sumCells D (k + 1))) := own3
      clear own3
      go_wp2_with fail
      refine ⟨rfl, ?_⟩
      go_wp2_with fail
      go_loopw [7] (fun c wi => ∃ i : Nat, i ≤ k ∧ c = .int .i64 (i : Int) ∧ Below w.heap.size w wi ∧ Hid (wi.ownsRow w.heap.size 38 32 (.slice (some ⟨b3, 0, none⟩) (k + 1) cap3) (k + 1) (sumCells D (k + 1))) ∧ ∀ x, x < i → D x ≠ D k) (fun c _ => k + 1 - (intOf c).toNat)
      case atStart =>
        exact ⟨0, Nat.zero_le _, rfl, hbel3, HOWN3, fun y hy => absurd hy (by omega)⟩
      case round =>
        clear HOWN3 hbel3
        obtain ⟨i, hik, rfl, hbi, HOWNi, hne⟩ := hrel
        by_cases hlt2 : i < k
        · have t1 : (i : Int) < (k : Int) := by omega
          have j1 : (0 : Int) ≤ (i : Int) := by omega
          have j2 : (i : Int) < (k : Int) + 1 := by omega
          have j3 : (k : Int) < (k : Int) + 1 := by omega
          have hbl3 : b3 < wr.heap.size := (HOWNi.out.lt b3 rfl).2
          have hr1 := own_range HOWNi.out i (by omega)
          have hr2 := own_range HOWNi.out k (by omega)
          have hq := eq_dig 38 Try.underlying38 (D i) (D k)
          unfold dK at hq
          by_cases he : D i = D k
          · rw [decide_eq_true he] at hq
            have hc : CollIs D E.length i k true := .inl ⟨rfl, hlt2, hlt, he, hne, huniq⟩
            clear he
            go_wp2_with fail
            refine wp_region_partsI [] [([0, 1, 2, 4, 5, 6], 3, true), ([], 7, false), ([], 8, false)] [] [] wr.heap.size (by kernel_rfl) (by kernel_rfl) (fun _ hx => nomatch hx) (partsI_yield ?_)
            simp only [List.cons_append, List.nil_append, List.append_nil, List.filterMap_cons, List.filterMap_nil, List.getElem?_toArray, List.getElem?_cons_zero, List.getElem?_cons_succ]
            go_wp2_with fail
            refine ⟨rfl, _, .agg (va 32 (iv .u8 (dF (D i)))), rfl, ?_, partsI_force ?_⟩
            · exact yields_load_fa (by rfl) 38 _ (by rfl) b3 (i * 32) 32 (iv .u8 (dF (D i))) (by rfl) _ (fun W hW j v hv => by rw [hW.cell hbl3]; exact hr1 j v hv) Try.underlying38 (by rfl) sizeDig
            · simp only [Act.put, List.setIfInBounds_toArray, List.set_cons_zero, List.set_cons_succ]
              simp only [List.cons_append, List.nil_append, List.append_nil, List.filterMap_cons, List.filterMap_nil, List.getElem?_toArray, List.getElem?_cons_zero, List.getElem?_cons_succ]
              refine wpList_load_fa (by rfl) 38 _ (by rfl) b3 (k * 32) 32 (iv .u8 (dF (D k))) (by rfl) _ (show wr.drew.rangeAt b3 (k * 32) _ from hr2) Try.underlying38 (by rfl) sizeDig ?_
              simp only [Act.put, List.setIfInBounds_toArray, List.set_cons_zero, List.set_cons_succ]
              refine ⟨rfl, (Below.refl _ _).drew, partsI_force ?_⟩
              simp only [List.cons_append, List.nil_append, List.append_nil, List.filterMap_cons, List.filterMap_nil, List.getElem?_toArray, List.getElem?_cons_zero, List.getElem?_cons_succ]
              go_wp2_with fail
              refine ⟨rfl, (Below.refl _ _).drew, partsI_last ?_⟩
              simp only [List.cons_append, List.nil_append, List.append_nil, List.filterMap_cons, List.filterMap_nil, List.getElem?_toArray, List.getElem?_cons_zero, List.getElem?_cons_succ]
              refine ⟨rfl, ?_⟩
              go_wp2_with fail
              go_ret3
              exact ⟨i, k, true, rfl, hc, hbi.drew⟩
          · rw [decide_eq_false he] at hq
            have HNE : Hid (∀ x, x < i + 1 → D x ≠ D k) := fun x hx => by
              by_cases hxi : x = i
              · subst hxi; exact he
              · exact hne x (by omega)
            clear hne
            go_wp2_with fail
            refine wp_region_partsI [] [([0, 1, 2, 4, 5, 6], 3, true), ([], 7, false), ([], 8, false)] [] [] wr.heap.size (by kernel_rfl) (by kernel_rfl) (fun _ hx => nomatch hx) (partsI_yield ?_)
            simp only [List.cons_append, List.nil_append, List.append_nil, List.filterMap_cons, List.filterMap_nil, List.getElem?_toArray, List.getElem?_cons_zero, List.getElem?_cons_succ]
            go_wp2_with fail
            refine ⟨rfl, _, .agg (va 32 (iv .u8 (dF (D i)))), rfl, ?_, partsI_force ?_⟩
            · exact yields_load_fa (by rfl) 38 _ (by rfl) b3 (i * 32) 32 (iv .u8 (dF (D i))) (by rfl) _ (fun W hW j v hv => by rw [hW.cell hbl3]; exact hr1 j v hv) Try.underlying38 (by rfl) sizeDig
            · simp only [Act.put, List.setIfInBounds_toArray, List.set_cons_zero, List.set_cons_succ]
              simp only [List.cons_append, List.nil_append, List.append_nil, List.filterMap_cons, List.filterMap_nil, List.getElem?_toArray, List.getElem?_cons_zero, List.getElem?_cons_succ]
              refine wpList_load_fa (by rfl) 38 _ (by rfl) b3 (k * 32) 32 (iv .u8 (dF (D k))) (by rfl) _ (show wr.drew.rangeAt b3 (k * 32) _ from hr2) Try.underlying38 (by rfl) sizeDig ?_
              simp only [Act.put, List.setIfInBounds_toArray, List.set_cons_zero, List.set_cons_succ]
              refine ⟨rfl, (Below.refl _ _).drew, partsI_force ?_⟩
              simp only [List.cons_append, List.nil_append, List.append_nil, List.filterMap_cons, List.filterMap_nil, List.getElem?_toArray, List.getElem?_cons_zero, List.getElem?_cons_succ]
              go_wp2_with fail
              refine ⟨rfl, (Below.refl _ _).drew, partsI_last ?_⟩
              simp only [List.cons_append, List.nil_append, List.append_nil, List.filterMap_cons, List.filterMap_nil, List.getElem?_toArray, List.getElem?_cons_zero, List.getElem?_cons_succ]
              refine ⟨rfl, ?_⟩
              go_wp2_with fail
              refine ⟨⟨i + 1, by omega, by simp, hbi.drew, HOWNi, HNE.out⟩, ?_⟩
              simp [intOf]
              omega
        · have t1 : ¬ (i : Int) < (k : Int) := by omega
          obtain rfl : i = k := by omega
          have HU : Hid (∀ y, y < i + 1 → ∀ x, x < y → D x ≠ D y) := fun y hy x hx => by
            by_cases hyi : y = i
            · subst hyi; exact hne x hx
            · exact huniq y (by omega) x hx
          clear hne huniq
          go_wp2_with fail
          refine ⟨⟨i + 1, by omega, by simp, hbi, HOWNi, HU.out⟩, ?_⟩
          simp [intOf]
          omega
    · have t0 : ¬ (k : Int) < (E.length : Int) := by omega
      obtain rfl : k = E.length := by omega
      go_wp2_with fail
      go_ret3
      first | exact ⟨0, 0, false, rfl, .inr ⟨rfl, rfl, rfl, huniq⟩, hbel⟩ | exact ⟨0, 0, .inl ⟨rfl, .inr ⟨rfl, rfl, rfl, huniq⟩, hbel⟩⟩
end Go.Proofs.Ytjjjgnaihnknjaa
