/- The first collision of a log: the program's contract. -/
import Derived.Test.YtaoglljkghkbpaaLogEntry
import Derived.Test.YtaoglljkghkbpaaCollKit
import Derived.Handy
namespace Go.Proofs.Ytaoglljkghkbpaa
open Go.RowKit
set_option linter.unusedSimpArgs false
set_option linter.unusedVariables false

/-- the digests of a list of entries -/
def digAt (E : List (Nat × ByteArray)) (i : Nat) : Vector Nat 32 := dg (E.getD i (0, ByteArray.empty))
theorem isIn_mem (e : Nat × ByteArray) : ∀ E : List (Nat × ByteArray), isIn e E = true ↔ e ∈ E := by
  intro E
  induction E with
  | nil => simp [isIn, findIn]
  | cons x E ih =>
    unfold isIn at ih ⊢
    simp only [List.map_cons, findIn]
    by_cases h : e = x
    · subst h
      simp
    · simp [h, ih]
theorem isIn_at (E : List (Nat × ByteArray)) (i : Nat) (h : i < E.length) : isIn (E.getD i (0, ByteArray.empty)) E = true := by
  rw [isIn_mem]
  simp [List.getD, h]

set_option maxRecDepth 100000 in
set_option maxHeartbeats 4000000 in
theorem logColl_any (g r : Nat) (v : Value) (E : List (Nat × ByteArray)) (hE : E.length ≤ 4000000000000) (w : World) (h : LogAt w g r v E) :
    Calls Try.prog 36 #[.pointer (some ⟨g, 0, none⟩)] w fun e w' => ∃ i k b, e = .returned (.tuple #[.int .i64 ((i : Nat) : Int), .int .i64 ((k : Nat) : Int), .bool b]) ∧ CollIs (digAt E) E.length i k b ∧ Below w.heap.size w w' := by
  have hmm := @run_makeMap Try.prog
  have HH : Hid (LogAt w g r v E) := h
  obtain ⟨hB, hown, hM⟩ := h
  have hgl := hB.lt
  have hrl : r < w.heap.size := by obtain ⟨es, cl, hg, _⟩ := hM; exact (Array.getElem?_eq_some_iff.1 hg).1
  have HLK : Hid (∀ (i : Nat), i < E.length → ∀ w', Below w.heap.size w w' → Sem.run Try.prog (Instr.lookup 88 (.map (some r)) (.agg #[.int .u8 (((E.getD i (0, ByteArray.empty)).1 : Nat) : Int), .string (E.getD i (0, ByteArray.empty)).2]) false) w' = .ok (.agg (va 32 (iv .u8 (dF (digAt E i))))) w') := fun i hi w' hb => by
    have := HH.out.look (E.getD i (0, ByteArray.empty)) false hb
    rw [find_sum _ _ (isIn_at E i hi)] at this
    unfold digAt
    rw [dF_dg]
    simpa using this
  have hv : ∃ a cap, v = .slice a E.length cap := by
    rcases hown.2 with ⟨h1, h2⟩ | ⟨b, cap, cur, h1, _⟩
    · exact ⟨none, 0, by rw [h1, h2]⟩
    · exact ⟨_, cap, h1⟩
  obtain ⟨av, cap, hv⟩ := hv
  have HC : Hid (∀ i, i < E.length → ∃ b, av = some ⟨b, 0, none⟩ ∧ b < w.heap.size ∧ w.cell? ⟨b, i * 2, none⟩ = some (.int .u8 (((E.getD i (0, ByteArray.empty)).1 : Nat) : Int)) ∧ w.cell? ⟨b, i * 2 + 1, none⟩ = some (.string (E.getD i (0, ByteArray.empty)).2)) := fun i hi => by
    obtain ⟨q1, q2⟩ := entCells_at E i hi
    rcases hown.2 with ⟨h1, h2⟩ | ⟨b, cap', cur, h1, h2, h3, h4, _⟩
    · omega
    · rw [h1] at hv
      injection hv with e1 e2 e3
      have hown' := hown
      rw [h1] at hown'
      refine ⟨b, e1.symm, (Array.getElem?_eq_some_iff.1 h3).1, ?_, ?_⟩
      · rw [Nat.mul_comm, hown'.cellAt (2 * i) (by omega), q1]
      · rw [Nat.mul_comm, hown'.cellAt (2 * i + 1) (by omega), q2]
  subst hv
  have c0 : ∀ w', Below w.heap.size w w' → w'.cell? ⟨g, 0, none⟩ = some (.slice av E.length cap) := fun w' hb => by rw [(hB.below hb hgl).cell]; rfl
  have c0w := c0 (w.alloc (.map #[] 0)) ((Below.refl _ _).alloc (Nat.le_refl _) _)
  generalize digAt E = D at *
  generalize HN : E.length = N at *
  clear hown hM HH
  go_enter Try.func36, Try.ntmps36
  go_wp2_with fail
  go_loopw [19] (fun c wr => ∃ n : Nat, n ≤ N ∧ c = .int .i64 (n : Int) ∧ Below w.heap.size w wr ∧ MapIs dK intV wr w.heap.size (firstsL D n) ∧ ∀ y, y < n → ∀ x, x < y → D x ≠ D y) (fun c _ => N + 1 - (intOf c).toNat)
  case atStart =>
    refine ⟨0, Nat.zero_le _, rfl, (Below.refl _ _).alloc (Nat.le_refl _) _, ⟨#[], 0, heap_alloc_new w _, rfl⟩, fun y hy => absurd hy (by omega)⟩
  case round =>
    obtain ⟨n, hn, rfl, hbel, hmap, huniq⟩ := hrel
    have hgb := hB.below hbel hgl
    by_cases hi : n < N
    · obtain ⟨b, rfl, hbl, d0, d1⟩ := HC.out n hi
      have t0 : (n : Int) < (N : Int) := by omega
      have i0 : (0 : Int) ≤ (n : Int) := by omega
      have hlk := HLK.out n hi
      generalize E.getD n (0, ByteArray.empty) = x at *
      have d0' : wr.cell? ⟨b, n * 2, none⟩ = some (.int .u8 ((x.1 : Nat) : Int)) := by rw [hbel.cell hbl]; exact d0
      have d1' : wr.cell? ⟨b, n * 2 + 1, none⟩ = some (.string x.2) := by rw [hbel.cell hbl]; exact d1
      have e1 : Blk (wr.alloc (.cells #[.int .u8 ((x.1 : Nat) : Int), .string x.2] 98)) wr.heap.size 98 #[.int .u8 ((x.1 : Nat) : Int), .string x.2] := Blk.new _ _ _
      have hs1 : (wr.alloc (.cells #[.int .u8 ((x.1 : Nat) : Int), .string x.2] 98)).heap.size = wr.heap.size + 1 := by simp
      have hb1 : Below w.heap.size w (wr.alloc (.cells #[.int .u8 ((x.1 : Nat) : Int), .string x.2] 98)) := hbel.alloc hbel.size _
      have hmapl : w.heap.size < wr.heap.size := by obtain ⟨es, cl, hg, _⟩ := hmap; exact (Array.getElem?_eq_some_iff.1 hg).1
      have hmap1 := hmap.below (B := wr.heap.size) ((Below.refl _ wr).alloc (Nat.le_refl _) (.cells #[.int .u8 ((x.1 : Nat) : Int), .string x.2] 98)) hmapl
      have HL : Hid (∀ w', Below w.heap.size w w' → Sem.run Try.prog (Instr.lookup 88 (.map (some r)) (.agg #[.int .u8 ((x.1 : Nat) : Int), .string x.2]) false) w' = .ok (.agg (va 32 (iv .u8 (dF (D n))))) w') := hlk
      clear hlk
      go_wp2_with fail
      generalize (wr.alloc (.cells #[.int .u8 ((x.1 : Nat) : Int), .string x.2] 98)) = w1 at *
      have hB1 := hB.below hb1 hgl
      refine wp_region_partsI [7] [([4, 0], 1, true), ([], 2, true), ([], 3, true), ([], 5, true), ([], 6, false)] [] [7] w1.heap.size (by kernel_rfl) (by kernel_rfl) (lows_one ⟨⟨wr.heap.size, 0, none⟩, _, _, _, rfl, e1.lt, e1⟩) (partsI_yield ?_)
      simp only [List.cons_append, List.nil_append, List.append_nil, List.filterMap_cons, List.filterMap_nil, List.getElem?_toArray, List.getElem?_cons_zero, List.getElem?_cons_succ]
      refine wpList_load_row (by rfl) 98 _ (by rfl) wr.heap.size (by rfl) 98 #[.int .u8 ((x.1 : Nat) : Int), .string x.2] (0, 0) _ e1.drew Try.underlying98 (by rfl) sizeEnt ?_
      simp only [Act.put, List.setIfInBounds_toArray, List.set_cons_zero, List.set_cons_succ]
      go_wp2_with fail
      refine ⟨rfl, _, .pointer (some ⟨g, 0, none⟩), rfl, Or.inl ⟨by rfl, fun W hW => by go_simp⟩, partsI_yield ?_⟩
      simp only [Act.put, List.setIfInBounds_toArray, List.set_cons_zero, List.set_cons_succ]
      simp only [List.cons_append, List.nil_append, List.append_nil, List.filterMap_cons, List.filterMap_nil, List.getElem?_toArray, List.getElem?_cons_zero, List.getElem?_cons_succ]
      go_wp2_with fail
      refine ⟨rfl, _, .pointer (some ⟨g, 1, none⟩), rfl, Or.inl ⟨by rfl, fun W hW => by go_simp⟩, partsI_yield ?_⟩
      simp only [Act.put, List.setIfInBounds_toArray, List.set_cons_zero, List.set_cons_succ]
      simp only [List.cons_append, List.nil_append, List.append_nil, List.filterMap_cons, List.filterMap_nil, List.getElem?_toArray, List.getElem?_cons_zero, List.getElem?_cons_succ]
      go_wp2_with fail
      refine ⟨rfl, _, .map (some r), rfl, Or.inl ⟨by rfl, fun W hW => by have cw : W.cell? ⟨g, 1, none⟩ = some (.map (some r)) := (by rw [(hB1.below hW hB1.lt).cell]; rfl); go_simp⟩, partsI_yield ?_⟩
      simp only [Act.put, List.setIfInBounds_toArray, List.set_cons_zero, List.set_cons_succ]
      simp only [List.cons_append, List.nil_append, List.append_nil, List.filterMap_cons, List.filterMap_nil, List.getElem?_toArray, List.getElem?_cons_zero, List.getElem?_cons_succ]
      go_wp2_with fail
      refine ⟨rfl, _, .agg (va 32 (iv .u8 (dF (D n)))), rfl, Or.inl ⟨by rfl, fun W hW => by have lw := HL.out W (hb1.trans (hW.mono hb1.size)); go_simp⟩, partsI_force ?_⟩
      simp only [Act.put, List.setIfInBounds_toArray, List.set_cons_zero, List.set_cons_succ]
      simp only [List.cons_append, List.nil_append, List.append_nil, List.filterMap_cons, List.filterMap_nil, List.getElem?_toArray, List.getElem?_cons_zero, List.getElem?_cons_succ]
      go_wp2_with fail
      have hbn : Below w1.heap.size w1 (w1.alloc (.cells #[.int .u8 0, .int .u8 0, .int .u8 0, .int .u8 0, .int .u8 0, .int .u8 0, .int .u8 0, .int .u8 0, .int .u8 0, .int .u8 0, .int .u8 0, .int .u8 0, .int .u8 0, .int .u8 0, .int .u8 0, .int .u8 0, .int .u8 0, .int .u8 0, .int .u8 0, .int .u8 0, .int .u8 0, .int .u8 0, .int .u8 0, .int .u8 0, .int .u8 0, .int .u8 0, .int .u8 0, .int .u8 0, .int .u8 0, .int .u8 0, .int .u8 0, .int .u8 0] 69)).drew := ((Below.refl _ _).alloc (Nat.le_refl _) _).drew
      refine ⟨rfl, hbn, partsI_last ?_⟩
      simp only [List.cons_append, List.nil_append, List.append_nil, List.filterMap_cons, List.filterMap_nil, List.getElem?_toArray, List.getElem?_cons_zero, List.getElem?_cons_succ]
      have n0 : Blk (w1.alloc (.cells #[.int .u8 0, .int .u8 0, .int .u8 0, .int .u8 0, .int .u8 0, .int .u8 0, .int .u8 0, .int .u8 0, .int .u8 0, .int .u8 0, .int .u8 0, .int .u8 0, .int .u8 0, .int .u8 0, .int .u8 0, .int .u8 0, .int .u8 0, .int .u8 0, .int .u8 0, .int .u8 0, .int .u8 0, .int .u8 0, .int .u8 0, .int .u8 0, .int .u8 0, .int .u8 0, .int .u8 0, .int .u8 0, .int .u8 0, .int .u8 0, .int .u8 0, .int .u8 0] 69)).drew (wr.heap.size + 1) 69 (va 32 (iv .u8 fun _ => 0)) := by
        rw [← hs1]
        exact Blk.new _ _ _
      have hb2 : Below w1.heap.size w1 ((w1.alloc (.cells #[.int .u8 0, .int .u8 0, .int .u8 0, .int .u8 0, .int .u8 0, .int .u8 0, .int .u8 0, .int .u8 0, .int .u8 0, .int .u8 0, .int .u8 0, .int .u8 0, .int .u8 0, .int .u8 0, .int .u8 0, .int .u8 0, .int .u8 0, .int .u8 0, .int .u8 0, .int .u8 0, .int .u8 0, .int .u8 0, .int .u8 0, .int .u8 0, .int .u8 0, .int .u8 0, .int .u8 0, .int .u8 0, .int .u8 0, .int .u8 0, .int .u8 0, .int .u8 0] 69)).drew.setRow (wr.heap.size + 1) (va 32 (iv .u8 (dF (D n))))) := below_setRow hbn (by omega) _
      have n2 := n0.set (va 32 (iv .u8 (dF (D n))))
      refine wpList_store_row (by rfl) 69 _ _ (by rfl) (wr.heap.size + 1) (va 32 (iv .u8 (dF (D n)))) (by rfl) (by rfl) 69 _ n0 (sizeSum.trans (by rw [va_size])) (by rw [va_size, va_size]) (iv_one _ _ _) ?_
      simp only [Act.put, List.setIfInBounds_toArray, List.set_cons_zero, List.set_cons_succ]
      generalize ((w1.alloc (.cells #[.int .u8 0, .int .u8 0, .int .u8 0, .int .u8 0, .int .u8 0, .int .u8 0, .int .u8 0, .int .u8 0, .int .u8 0, .int .u8 0, .int .u8 0, .int .u8 0, .int .u8 0, .int .u8 0, .int .u8 0, .int .u8 0, .int .u8 0, .int .u8 0, .int .u8 0, .int .u8 0, .int .u8 0, .int .u8 0, .int .u8 0, .int .u8 0, .int .u8 0, .int .u8 0, .int .u8 0, .int .u8 0, .int .u8 0, .int .u8 0, .int .u8 0, .int .u8 0] 69)).drew.setRow (wr.heap.size + 1) (va 32 (iv .u8 (dF (D n))))) = w2 at *
      have hmap2 := hmap1.below hb2 (by omega)
      have hbel2 : Below w.heap.size w w2 := hb1.trans (hb2.mono hb1.size)
      clear HL hbn n0 hb2 hmap1 hmap hB1 e1 hb1 hgb
      refine ⟨rfl, ?_⟩
      have hlk2 := run_lookup_is Try.underlying99 dig_key zero_int hmap2 (D n) true
      cases hf : findIn (D n) (firstsL D n) with
      | some i =>
        have hlk3 : Sem.run Try.prog (Instr.lookup 99 (.map (some w.heap.size)) (.agg (va 32 (iv .u8 (dF (D n))))) true) w2 = .ok (.tuple #[.int .i64 ((i : Nat) : Int), .bool true]) w2 := by
          rw [hf] at hlk2
          exact hlk2
        clear hlk2
        have hc := firsts_some hf huniq N hi
        go_wp2_with (first
          | (refine wpList_load_row (by rfl) 69 _ (by rfl) (wr.heap.size + 1) (by rfl) 69 (va 32 (iv .u8 (dF (D n)))) (0, 0) _ n2 Try.underlying69 (by rfl) (sizeSum.trans (by rw [va_size])) ?_; simp only [Act.put, List.setIfInBounds_toArray, List.set_cons_zero, List.set_cons_succ])
          | fail)
        go_ret3
        exact ⟨i, n, true, rfl, hc, hbel2⟩
      | none =>
        have hlk3 : Sem.run Try.prog (Instr.lookup 99 (.map (some w.heap.size)) (.agg (va 32 (iv .u8 (dF (D n))))) true) w2 = .ok (.tuple #[.int .i64 0, .bool false]) w2 := by
          rw [hf] at hlk2
          exact hlk2
        clear hlk2
        have hu2 := firsts_none hf huniq
        obtain ⟨w3, hup, hmap3, hk3⟩ := run_update_is Try.underlying99 dig_key hmap2 (D n) n hf
        have hup2 : Sem.run Try.prog (Instr.mapUpdate 99 (.map (some w.heap.size)) (.agg (va 32 (iv .u8 (dF (D n))))) (.int .i64 (n : Int))) w2 = .ok () w3 := hup
        clear hup
        go_wp2_with (first
          | (refine wpList_load_row (by rfl) 69 _ (by rfl) (wr.heap.size + 1) (by rfl) 69 (va 32 (iv .u8 (dF (D n)))) (0, 0) _ n2 Try.underlying69 (by rfl) (sizeSum.trans (by rw [va_size])) ?_; simp only [Act.put, List.setIfInBounds_toArray, List.set_cons_zero, List.set_cons_succ])
          | fail)
        rw [← firsts_succ] at hmap3
        refine ⟨⟨n + 1, by omega, by simp, hbel2.trans (hk3.1.mono (Nat.le_refl _)), hmap3, hu2⟩, ?_⟩
        simp [intOf]
        omega
    · have t0 : ¬ (n : Int) < (N : Int) := by omega
      obtain rfl : n = N := by omega
      go_wp2_with fail
      go_ret3
      first | exact ⟨0, 0, false, rfl, .inr ⟨rfl, rfl, rfl, huniq⟩, hbel⟩ | exact ⟨0, 0, .inl ⟨rfl, .inr ⟨rfl, rfl, rfl, huniq⟩, hbel⟩⟩
end Go.Proofs.Ytaoglljkghkbpaa
