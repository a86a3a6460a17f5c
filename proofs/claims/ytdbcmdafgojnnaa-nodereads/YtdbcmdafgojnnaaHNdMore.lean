/- Nodes: the program's contracts of Kids, Empty and Swap; the statements' given. -/
import Derived.Test.YtdbcmdafgojnnaaHNdAwake
import Derived.Lib.SlBytesConst
import Derived.ArgAppend
import Derived.Handy

namespace Go.Proofs.Ytdbcmdafgojnnaa
open Go Go.RowKit
set_option linter.unusedSimpArgs false
set_option linter.unusedVariables false

theorem cells_mark (w : World) (cs : Array Value) (t : TypeId) (fr : Nat × Nat) (o : Obj) : ∀ j u, cs.toList[j]? = some u → ((w.alloc (.cells cs t fr)).alloc o).cell? ((⟨w.heap.size, 0, none⟩ : Addr).add j) = some u := fun j u hu => by
  have hb : ((w.alloc (.cells cs t fr)).alloc o).heap[w.heap.size]? = some (.cells cs t fr) := by
    rw [heap_alloc_old _ _ (by simp), heap_alloc_new]
  rw [Addr.add_mid, Nat.zero_add, cell_of_row _ _ j cs t fr hb]
  simpa using hu
theorem below_grown_none {w w' : World} (h : w.grownBy w' none) : Below w.heap.size w w' := (Below.refl _ _).grown h (Nat.le_refl _) (fun k hk => by cases hk)
theorem ndSize256 : (Try.prog.info? 59).map (·.size) = some 256 := by kernel_rfl
set_option maxRecDepth 100000 in
set_option maxHeartbeats 4000000 in
theorem refBlock_level (l : Int) (hl : l < 1 ∨ 6 < l) (K : Nat → Rf) (w : World) : Calls Try.prog 35 #[.agg (ndC l K)] w fun e w' => e = .returned (.tuple #[bkV fun _ => 0, .int .i64 1]) ∧ Below w.heap.size w w' := by
  unfold bkV
  have hz := zero_256
  have r0 : Blk ((w.alloc (.cells (ndC l K) 89)).alloc (.cells (va 256 (iv .u8 fun _ => 0)) 59)) w.heap.size 89 (va 133 (ndF l K)) := (Blk.new _ _ _).alloc _
  have r1 : Blk ((w.alloc (.cells (ndC l K) 89)).alloc (.cells (va 256 (iv .u8 fun _ => 0)) 59)) (w.heap.size + 1) 59 (va 256 (iv .u8 fun _ => 0)) := Blk.new1 _ _ _ _
  have hb : Below w.heap.size w ((w.alloc (.cells (ndC l K) 89)).alloc (.cells (va 256 (iv .u8 fun _ => 0)) 59)) := below_new2 _ _ _
  have hsz : ((w.alloc (.cells (ndC l K) 89)).alloc (.cells (va 256 (iv .u8 fun _ => 0)) 59)).heap.size = w.heap.size + 2 := by simp
  have x0 : ((w.alloc (.cells (ndC l K) 89)).alloc (.cells (va 256 (iv .u8 fun _ => 0)) 59)).cell? ⟨w.heap.size, 0, none⟩ = some (.int .i64 l) := by
    rw [r0.cell]
    exact va_at (ndF l K) (by decide)
  rcases hl with hl | hl
  · go_enter Try.func35, Try.ntmps35
    go_wp2_with (first
      | (refine wpList_store_row (by rfl) 59 _ _ (by rfl) (w.heap.size + 1) (va 256 (iv .u8 (fun _ => 0))) (by rfl) (by rfl) 59 (_) (by exact r1) (ndSize256.trans (by rw [va_size])) (by simp only [va_size]) (iv_one _ _ _) ?_; simp only [Act.put, List.setIfInBounds_toArray, List.set_cons_zero, List.set_cons_succ])
      | fail)
    try simp only [Exit.inBlock, Exit.then]
    refine bodyPost_ret (results_row2 Try.results35 _ _ (w.heap.size + 1) 59 (va 256 (iv .u8 (fun _ => 0))) (0, 0) _ rfl (r1.set _) Try.underlying59 rfl (ndSize256.trans (by rw [va_size]))) rfl ?_
    exact ⟨rfl, below_setRow hb (by omega) _⟩
  · go_enter Try.func35, Try.ntmps35
    go_wp2_with (first
      | (refine wpList_store_row (by rfl) 59 _ _ (by rfl) (w.heap.size + 1) (va 256 (iv .u8 (fun _ => 0))) (by rfl) (by rfl) 59 (_) (by exact r1) (ndSize256.trans (by rw [va_size])) (by simp only [va_size]) (iv_one _ _ _) ?_; simp only [Act.put, List.setIfInBounds_toArray, List.set_cons_zero, List.set_cons_succ])
      | fail)
    try simp only [Exit.inBlock, Exit.then]
    refine bodyPost_ret (results_row2 Try.results35 _ _ (w.heap.size + 1) 59 (va 256 (iv .u8 (fun _ => 0))) (0, 0) _ rfl (r1.set _) Try.underlying59 rfl (ndSize256.trans (by rw [va_size]))) rfl ?_
    exact ⟨rfl, below_setRow hb (by omega) _⟩
theorem head_cells (l : Nat) (K : Nat → Rf) : byL (nodeB l K) (8 + 36 * 0) = [Value.int .u8 110, .int .u8 111, .int .u8 100, .int .u8 101, .int .u8 (l : Int), .int .u8 0, .int .u8 0, .int .u8 0] := by rfl
theorem kid_cells (l : Nat) (K : Nat → Rf) (k : Nat) (hk : k < 4) : byL (nodeB l K) (8 + 36 * (k + 1)) = byL (nodeB l K) (8 + 36 * k) ++ byL (encR (K k)) 36 := by
  rw [show 8 + 36 * (k + 1) = 8 + 36 * k + 36 by omega, byL_add]
  congr 1
  exact byL_congr fun j hj => nodeB_kid l K k j hk hj
set_option maxRecDepth 100000 in
set_option maxHeartbeats 4000000 in
theorem refBlock_in (l : Nat) (h1 : 1 ≤ l) (h6 : l ≤ 6) (K : Nat → Rf) (hK : ∀ i, i < 4 → okD (K i).2) (hN : ∀ i, i < 4 → (K i).1 < 4294967296) (X : Nat → Nat) (Y : Int) (HXY : Hid ((X, Y) = if ndOk l K then (nodeB l K, (0 : Int)) else (fun _ => 0, 1))) (w : World) : Calls Try.prog 35 #[.agg (ndC (l : Int) K)] w fun e w' => e = .returned (.tuple #[bkV X, .int .i64 Y]) ∧ Below w.heap.size w w' := by
  unfold bkV
  obtain ⟨i0, hi, hz0, hz1, hz2⟩ := info_parts infoU8k
  have hz := zero_256
  have r0 : Blk ((w.alloc (.cells (ndC (l : Int) K) 89)).alloc (.cells (va 256 (iv .u8 fun _ => 0)) 59)) w.heap.size 89 (va 133 (ndF (l : Int) K)) := (Blk.new _ _ _).alloc _
  have r1 : Blk ((w.alloc (.cells (ndC (l : Int) K) 89)).alloc (.cells (va 256 (iv .u8 fun _ => 0)) 59)) (w.heap.size + 1) 59 (va 256 (iv .u8 fun _ => 0)) := Blk.new1 _ _ _ _
  have hb : Below w.heap.size w ((w.alloc (.cells (ndC (l : Int) K) 89)).alloc (.cells (va 256 (iv .u8 fun _ => 0)) 59)) := below_new2 _ _ _
  have hsz : ((w.alloc (.cells (ndC (l : Int) K) 89)).alloc (.cells (va 256 (iv .u8 fun _ => 0)) 59)).heap.size = w.heap.size + 2 := by simp
  have x0 : ((w.alloc (.cells (ndC (l : Int) K) 89)).alloc (.cells (va 256 (iv .u8 fun _ => 0)) 59)).cell? ⟨w.heap.size, 0, none⟩ = some (.int .i64 (l : Int)) := by
    rw [r0.cell]
    exact va_at (ndF (l : Int) K) (by decide)
  have e8 : (l : Int) % 256 = l := by omega
  have q0 : Blk ((((w.alloc (.cells (ndC (l : Int) K) 89)).alloc (.cells (va 256 (iv .u8 fun _ => 0)) 59)).alloc (.cells #[.int .u8 110, .int .u8 111, .int .u8 100, .int .u8 101] 5 (4, 5))).alloc (.cells #[.int .u8 (l : Int), .int .u8 0, .int .u8 0, .int .u8 0] 5)) w.heap.size 89 (va 133 (ndF (l : Int) K)) := (r0.alloc _).alloc _
  have q1 : Blk ((((w.alloc (.cells (ndC (l : Int) K) 89)).alloc (.cells (va 256 (iv .u8 fun _ => 0)) 59)).alloc (.cells #[.int .u8 110, .int .u8 111, .int .u8 100, .int .u8 101] 5 (4, 5))).alloc (.cells #[.int .u8 (l : Int), .int .u8 0, .int .u8 0, .int .u8 0] 5)) (w.heap.size + 1) 59 (va 256 (iv .u8 fun _ => 0)) := (r1.alloc _).alloc _
  have hb4 : Below w.heap.size w ((((w.alloc (.cells (ndC (l : Int) K) 89)).alloc (.cells (va 256 (iv .u8 fun _ => 0)) 59)).alloc (.cells #[.int .u8 110, .int .u8 111, .int .u8 100, .int .u8 101] 5 (4, 5))).alloc (.cells #[.int .u8 (l : Int), .int .u8 0, .int .u8 0, .int .u8 0] 5)) := (hb.alloc (by rw [hsz]; omega) _).alloc (by simp; omega) _
  have hs4 : ((((w.alloc (.cells (ndC (l : Int) K) 89)).alloc (.cells (va 256 (iv .u8 fun _ => 0)) 59)).alloc (.cells #[.int .u8 110, .int .u8 111, .int .u8 100, .int .u8 101] 5 (4, 5))).alloc (.cells #[.int .u8 (l : Int), .int .u8 0, .int .u8 0, .int .u8 0] 5)).heap.size = w.heap.size + 4 := by simp
  have HO4 : Hid (∀ j u, [Value.int .u8 110, .int .u8 111, .int .u8 100, .int .u8 101][j]? = some u → ((((w.alloc (.cells (ndC (l : Int) K) 89)).alloc (.cells (va 256 (iv .u8 fun _ => 0)) 59)).alloc (.cells #[.int .u8 110, .int .u8 111, .int .u8 100, .int .u8 101] 5 (4, 5))).alloc (.cells #[.int .u8 (l : Int), .int .u8 0, .int .u8 0, .int .u8 0] 5)).cell? ((⟨w.heap.size + 2, 0, none⟩ : Addr).add j) = some u) := fun j u hu => by
    have := cells_mark ((w.alloc (.cells (ndC (l : Int) K) 89)).alloc (.cells (va 256 (iv .u8 fun _ => 0)) 59)) #[.int .u8 110, .int .u8 111, .int .u8 100, .int .u8 101] 5 (4, 5) (.cells #[.int .u8 (l : Int), .int .u8 0, .int .u8 0, .int .u8 0] 5) j u hu
    rwa [hsz] at this
  have HC4 : Hid (∀ j u, [Value.int .u8 (l : Int), .int .u8 0, .int .u8 0, .int .u8 0][j]? = some u → ((((w.alloc (.cells (ndC (l : Int) K) 89)).alloc (.cells (va 256 (iv .u8 fun _ => 0)) 59)).alloc (.cells #[.int .u8 110, .int .u8 111, .int .u8 100, .int .u8 101] 5 (4, 5))).alloc (.cells #[.int .u8 (l : Int), .int .u8 0, .int .u8 0, .int .u8 0] 5)).cell? ((⟨w.heap.size + 3, 0, none⟩ : Addr).add j) = some u) := fun j u hu => by
    have := cells_new (((w.alloc (.cells (ndC (l : Int) K) 89)).alloc (.cells (va 256 (iv .u8 fun _ => 0)) 59)).alloc (.cells #[.int .u8 110, .int .u8 111, .int .u8 100, .int .u8 101] 5 (4, 5))) #[.int .u8 (l : Int), .int .u8 0, .int .u8 0, .int .u8 0] 5 j u hu
    rwa [show (((w.alloc (.cells (ndC (l : Int) K) 89)).alloc (.cells (va 256 (iv .u8 fun _ => 0)) 59)).alloc (.cells #[.int .u8 110, .int .u8 111, .int .u8 100, .int .u8 101] 5 (4, 5))).heap.size = w.heap.size + 3 by simp] at this
  have kc : (convert 77 77 (.slice (some ⟨w.heap.size + 2, 0, none⟩) 4 4)).run Try.prog (((w.alloc (.cells (ndC (l : Int) K) 89)).alloc (.cells (va 256 (iv .u8 fun _ => 0)) 59)).alloc (.cells #[.int .u8 110, .int .u8 111, .int .u8 100, .int .u8 101] 5)) = .ok (.slice (some ⟨w.heap.size + 2, 0, none⟩) 4 4) (((w.alloc (.cells (ndC (l : Int) K) 89)).alloc (.cells (va 256 (iv .u8 fun _ => 0)) 59)).alloc (.cells #[.int .u8 110, .int .u8 111, .int .u8 100, .int .u8 101] 5 (4, 5))) := by
    have := Lib.run_convert_bytes_const (P := Try.prog) ((w.alloc (.cells (ndC (l : Int) K) 89)).alloc (.cells (va 256 (iv .u8 fun _ => 0)) 59)) 77 5 #[.int .u8 110, .int .u8 111, .int .u8 100, .int .u8 101] 4 4 Try.underlying77 Try.underlying5
    rw [hsz] at this
    exact this
  go_enter Try.func35, Try.ntmps35
  go_wp2_with (first
    | (at_builtin; refine wpList_append_grows _ rfl _ _ 77 rfl 5 i0 (.int .u8 0) 1 1 Try.underlying77 hi hz0 hz1 hz2 rfl (by decide) (some ⟨w.heap.size + 2, 0, none⟩) 4 4 [.int .u8 110, .int .u8 111, .int .u8 100, .int .u8 101] rfl (fun h => by cases h) rfl (fun b hb j u hu => by injection hb with hb; subst hb; exact HO4.out j u hu) ⟨w.heap.size + 3, 0, none⟩ 4 4 [.int .u8 (l : Int), .int .u8 0, .int .u8 0, .int .u8 0] rfl rfl HC4.out (fun u hu => by simp at hu; rcases hu with rfl | rfl <;> rfl) (by decide) (by unfold maxLen; omega) (by omega) ?_)
    | go_in)
  intro v5 w5 ho5 hg5
  have hb5 : Below w.heap.size w w5 := hb4.grown hg5 (by omega) (fun k hk => by cases hk)
  have t0 : Blk w5 w.heap.size 89 (va 133 (ndF (l : Int) K)) := q0.below (below_grown_none hg5) q0.lt
  have t1 : Blk w5 (w.heap.size + 1) 59 (va 256 (iv .u8 fun _ => 0)) := q1.below (below_grown_none hg5) q1.lt
  have hs5 : w.heap.size + 4 ≤ w5.heap.size := by have := (below_grown_none hg5).size; omega
  have ho6 : w5.ownsRow (w.heap.size + 4) 5 1 v5 (8 + 36 * 0) (byL (nodeB l K) (8 + 36 * 0)) := by
    rw [head_cells]
    exact ho5
  clear q0 q1 r0 r1 hb hb4 HO4 HC4 x0 ho5 hg5 hs4 hsz kc
  obtain ⟨a5, c5, hv5⟩ := kown_slice ho6
  subst hv5
  go_wp2_with fail
  go_loopw [4, 5] (fun v i wr => ∃ (k : Nat) (a : Option Addr) (c : Nat), k ≤ 4 ∧ i = .int .i64 (k : Int) ∧ v = .slice a (8 + 36 * k) c ∧ wr.ownsRow (w.heap.size + 4) 5 1 v (8 + 36 * k) (byL (nodeB l K) (8 + 36 * k)) ∧ (∀ i, i < k → rOk (K i) = true) ∧ Blk wr w.heap.size 89 (va 133 (ndF (l : Int) K)) ∧ Blk wr (w.heap.size + 1) 59 (va 256 (iv .u8 fun _ => 0)) ∧ Below w.heap.size w wr ∧ w.heap.size + 4 ≤ wr.heap.size) (fun _ i _ => 4 - (intOf i).toNat)
  case atStart => exact ⟨0, a5, c5, by omega, rfl, rfl, ho6, fun i hi => absurd hi (by omega), t0, t1, hb5, hs5⟩
  case round =>
    clear t0 t1 hb5 hs5 ho6
    obtain ⟨k, a, c, hk, rfl, rfl, hown, hR, p0, p1, hb, hs⟩ := hrel
    by_cases hlt : k < 4
    · have k1 : (k : Int) < 4 := by omega
      have HKD : Hid (wr.rangeAt w.heap.size (1 + k * 33) ((List.range 33).map (rfF (K k).1 (K k).2))) := fun j v hv => by
        refine p0.range (1 + k * 33) 33 (by omega) j v ?_
        rw [← hv]
        congr 1
        refine List.map_congr_left fun i hi => ?_
        exact ndF_at _ K k i (by simpa using hi)
      have HRT : Hid (∀ w, Calls Try.prog 33 #[.agg (va 33 (rfF (K k).1 (K k).2))] w fun e w' => e = .returned (.bool (rOk (K k))) ∧ Below w.heap.size w w') := rright_any (K k)
      have HEN : Hid (∀ w, Calls Try.prog 31 #[.agg (va 33 (rfF (K k).1 (K k).2))] w fun e w' => ∃ g c, e = .returned (.slice (some ⟨g, 0, none⟩) 36 c) ∧ w'.ownsRow (w.heap.size + 1) 5 1 (.slice (some ⟨g, 0, none⟩) 36 c) 36 (byL (encR (K k)) 36) ∧ Below w.heap.size w w') := refEncR_any (K k) (hN k hlt)
      have HRK : Hid (∀ b, rOk (K k) = b → b = true → ∀ i, i < k + 1 → rOk (K i) = true) := fun b h1 h2 i hi => by
        rcases Nat.lt_or_ge i k with h | h
        · exact hR i h
        · rw [show i = k by omega, h1, h2]
      have HRF : Hid (rOk (K k) = false → ndOk l K = false) := fun h => by
        have : ((List.range 4).all fun i => rOk (K i)) = false := by
          rw [List.all_eq_false]
          exact ⟨k, by simpa using hlt, by simp [h]⟩
        unfold ndOk
        rw [this, Bool.and_false]
      have HKC : Hid (byL (nodeB l K) (8 + 36 * (k + 1)) = byL (nodeB l K) (8 + 36 * k) ++ byL (encR (K k)) 36) := kid_cells l K k hlt
      have HOW : Hid (wr.ownsRow (w.heap.size + 4) 5 1 (.slice a (8 + 36 * k) c) (8 + 36 * k) (byL (nodeB l K) (8 + 36 * k))) := hown
      clear hown
      generalize hrb : rOk (K k) = b at *
      go_wp2_with (first
        | (refine wpList_load_blk (by rfl) 70 _ (by rfl) (w.heap.size) (1 + k * 33) 33 (rfF (K k).1 (K k).2) (by rfl) _ (by exact HKD.out) Try.underlying70 rfl sizeRref ?_; simp only [Act.put, List.setIfInBounds_toArray, List.set_cons_zero, List.set_cons_succ])
        | fail)
      refine (HRT.out wr).mono ?_
      rintro e w6 ⟨rfl, hb6⟩
      have hs6 := hb6.size
      have m0 : Blk w6 w.heap.size 89 (va 133 (ndF (l : Int) K)) := p0.below hb6 (by omega)
      have m1 : Blk w6 (w.heap.size + 1) 59 (va 256 (iv .u8 fun _ => 0)) := p1.below hb6 (by omega)
      have HO6 : Hid (w6.ownsRow (w.heap.size + 4) 5 1 (.slice a (8 + 36 * k) c) (8 + 36 * k) (byL (nodeB l K) (8 + 36 * k))) := kown_below HOW.out hb6
      have hb7 : Below w.heap.size w w6 := hb.trans (hb6.mono (by omega))
      clear HKD p0 p1 HOW hb HRT hb6
      cases b
      · go_wp2_with (first
          | (refine wpList_store_row (by rfl) 59 _ _ (by rfl) (w.heap.size + 1) (va 256 (iv .u8 (fun _ => 0))) (by rfl) (by rfl) 59 (_) (by exact m1) (ndSize256.trans (by rw [va_size])) (by simp only [va_size]) (iv_one _ _ _) ?_; simp only [Act.put, List.setIfInBounds_toArray, List.set_cons_zero, List.set_cons_succ])
          | fail)
        try simp only [Exit.inBlock, Exit.then]
        refine bodyPost_ret (results_row2 Try.results35 _ _ (w.heap.size + 1) 59 (va 256 (iv .u8 (fun _ => 0))) (0, 0) _ rfl (m1.set _) Try.underlying59 rfl (ndSize256.trans (by rw [va_size]))) rfl ?_
        have e : ndOk (l : Int) K = false := HRF.out (by first | rfl | trivial)
        refine ⟨?_, below_setRow hb7 (by omega) _⟩
        have hxy := HXY.out
        rw [e] at hxy
        injection hxy with hx hy
        subst hx hy
        rfl
      · have HKD : Hid (w6.rangeAt w.heap.size (1 + k * 33) ((List.range 33).map (rfF (K k).1 (K k).2))) := fun j v hv => by
          refine m0.range (1 + k * 33) 33 (by omega) j v ?_
          rw [← hv]
          congr 1
          refine List.map_congr_left fun i hi => ?_
          exact ndF_at _ K k i (by simpa using hi)
        go_wp2_with (first
          | (refine wpList_load_blk (by rfl) 70 _ (by rfl) (w.heap.size) (1 + k * 33) 33 (rfF (K k).1 (K k).2) (by rfl) _ (by exact HKD.out) Try.underlying70 rfl sizeRref ?_; simp only [Act.put, List.setIfInBounds_toArray, List.set_cons_zero, List.set_cons_succ])
          | fail)
        refine (HEN.out w6).mono ?_
        rintro e w7 ⟨ge, ce, rfl, hoe, hb8⟩
        have hs8 := hb8.size
        have n0 : Blk w7 w.heap.size 89 (va 133 (ndF (l : Int) K)) := m0.below hb8 (by omega)
        have n1 : Blk w7 (w.heap.size + 1) 59 (va 256 (iv .u8 fun _ => 0)) := m1.below hb8 (by omega)
        have HO7 : Hid (w7.ownsRow (w.heap.size + 4) 5 1 (.slice a (8 + 36 * k) c) (8 + 36 * k) (byL (nodeB l K) (8 + 36 * k))) := kown_below HO6.out hb8
        have hb9 : Below w.heap.size w w7 := hb7.trans (hb8.mono (by omega))
        have HC : Hid (∀ j u, (byL (encR (K k)) 36)[j]? = some u → w7.cell? ((⟨ge, 0, none⟩ : Addr).add j) = some u) := fun j u hu => by
          have hj : j < 36 := by
            rcases Nat.lt_or_ge j 36 with h1 | h1
            · exact h1
            · rw [List.getElem?_eq_none (by rw [byL_length]; exact h1)] at hu
              cases hu
          rw [Addr.add_mid, Nat.zero_add, hoe.cellAt j (by omega)]
          exact hu
        have HL : Hid (∀ k', (Value.slice a (8 + 36 * k) c).ownBlock = some k' → (w.heap.size + 4) ≤ k') := fun k' hk' => (HO7.out.lt k' hk').1
        clear HKD m0 m1 HO6 hb7 hb8 hoe HEN
        go_wp2_with (first
          | (at_builtin; refine wpList_append_own_at rfl _ _ 77 rfl (w.heap.size + 4) 5 i0 (.int .u8 0) 1 1 Try.underlying77 hi hz0 hz1 hz2 rfl (by decide) _ _ _ rfl HO7.out ⟨ge, 0, none⟩ 36 ce (byL (encR (K k)) 36) rfl (by rw [byL_length]) HC.out (mem_iv_one _ _ _) (by unfold maxLen; omega) (by omega) (by omega) ?_)
          | go_in)
        intro v8 w8 ho8 hg8 _
        rw [← HKC.out, show 8 + 36 * k + 36 = 8 + 36 * (k + 1) by omega] at ho8
        have hb10 : Below w.heap.size w w8 := hb9.grown hg8 (by omega) (fun k' hk' => by have := HL.out k' hk'; omega)
        have hbB : Below (w.heap.size + 4) w7 w8 := (Below.refl _ _).grown hg8 (by omega) (fun k' hk' => HL.out k' hk')
        have o0 : Blk w8 w.heap.size 89 (va 133 (ndF (l : Int) K)) := n0.below hbB (by omega)
        have o1 : Blk w8 (w.heap.size + 1) 59 (va 256 (iv .u8 fun _ => 0)) := n1.below hbB (by omega)
        have hs10 := hbB.size
        obtain ⟨a8, c8, hv8⟩ := kown_slice ho8
        subst hv8
        have HO8 : Hid (w8.ownsRow (w.heap.size + 4) 5 1 (.slice a8 (8 + 36 * (k + 1)) c8) (8 + 36 * (k + 1)) (byL (nodeB l K) (8 + 36 * (k + 1)))) := ho8
        clear ho8 hg8 HO7 HC HL n0 n1 hb9 hbB
        go_wp2_with fail
        refine ⟨⟨_, _, _, _, _, _, _, _, _, _, _, _, _, _, _, _, _, _, _, _, _, ⟨k + 1, a8, c8, by omega, by simp, rfl, HO8.out, HRK.out true rfl rfl, o0, o1, hb10, by omega⟩, rfl⟩, ?_⟩
        simp [intOf]
        try omega
    · have e : k = 4 := by omega
      subst e
      have HO : Hid (ndOk l K = true) := by
        show ndOk l K = true
        unfold ndOk
        rw [Bool.and_eq_true, Bool.and_eq_true, decide_eq_true_eq, decide_eq_true_eq, List.all_eq_true]
        exact ⟨⟨by omega, by omega⟩, fun i hi => hR i (by simpa using hi)⟩
      have hxy := HXY.out
      rw [HO.out] at hxy
      injection hxy with hx hy
      clear HXY HO hR
      obtain ⟨gv, cv, hv, hgv, hgv2⟩ := kown_form hown (by omega)
      rw [hv] at hown ⊢
      clear hv
      have HOW : Hid (wr.ownsRow (w.heap.size + 4) 5 1 (.slice (some ⟨gv, 0, none⟩) (8 + 36 * 4) cv) (8 + 36 * 4) (byL (nodeB l K) (8 + 36 * 4))) := hown
      have z0 : Blk (wr.alloc (.cells (va 256 (iv .u8 fun _ => 0)) 59)) wr.heap.size 59 (va 256 (iv .u8 fun _ => 0)) := Blk.new _ _ _
      have z1 : Blk ((wr.alloc (.cells (va 256 (iv .u8 fun _ => 0)) 59)).setRow wr.heap.size (va 256 (iv .u8 fun _ => 0))) wr.heap.size 59 (va 256 (iv .u8 fun _ => 0)) := z0.set _
      have bz : Below wr.heap.size wr ((wr.alloc (.cells (va 256 (iv .u8 fun _ => 0)) 59)).setRow wr.heap.size (va 256 (iv .u8 fun _ => 0))) := below_setRow (below_new1 _ _) (Nat.le_refl _) _
      have k4 : ¬ (((4 : Nat) : Int) < 4) := by omega
      clear hown
      go_wp2_with (first
        | (refine wpList_store_row (by rfl) 59 _ _ (by rfl) (wr.heap.size) (va 256 (iv .u8 (fun _ => 0))) (by rfl) (by rfl) 59 (_) (by exact z0) (ndSize256.trans (by rw [va_size])) (by simp only [va_size]) (iv_one _ _ _) ?_; simp only [Act.put, List.setIfInBounds_toArray, List.set_cons_zero, List.set_cons_succ])
        | fail)
      clear z0
      generalize ((wr.alloc (.cells (va 256 (iv .u8 fun _ => 0)) 59)).setRow wr.heap.size (va 256 (iv .u8 fun _ => 0))) = wz at *
      generalize wr = wo at *
      go_loopw [7] (fun i wx => ∃ c : Nat, c ≤ 152 ∧ i = .int .i64 (c : Int) ∧ Blk wx wo.heap.size 59 (va 256 (iv .u8 fun j => if j < c then nodeB l K j else 0)) ∧ Below wo.heap.size wo wx) (fun i _ => 152 - (intOf i).toNat)
      case atStart => exact ⟨0, by omega, rfl, z1, bz⟩
      case round =>
        clear z1 bz
        obtain ⟨c, hc, rfl, hx2, hbx⟩ := hrel
        have hw := HOW.out
        have ho9 := kown_below hw (hbx)
        by_cases hlt2 : c < 152
        · have c1 : (c : Int) < 152 := by omega
          have c0 : (0 : Int) ≤ (c : Int) := by omega
          have y0 : wr.cell? ⟨gv, c, none⟩ = some (.int .u8 ((nodeB l K c : Nat) : Int)) := by
            rw [ho9.cellAt c (by omega), byL_at _ _ _ (by omega)]
          have f1 : wr.frozen? ⟨wo.heap.size, c, none⟩ = false := hx2.frozen c
          have y1 : ∃ z, wr.cell? ⟨wo.heap.size, c, none⟩ = some z := ⟨_, hx2.cv (by omega)⟩
          obtain ⟨z, y1⟩ := y1
          have HB2 : Hid (Blk (wr.setCell ⟨wo.heap.size, c, none⟩ (.int .u8 ((nodeB l K c : Nat) : Int))) wo.heap.size 59 (va 256 (iv .u8 fun j => if j < c + 1 then nodeB l K j else 0))) := by
            have := hx2.put c (.int .u8 ((nodeB l K c : Nat) : Int))
            rw [va_set] at this
            have e : va 256 (upd (iv .u8 (fun j => if j < c then nodeB l K j else 0)) c (.int .u8 ((nodeB l K c : Nat) : Int))) = va 256 (iv .u8 fun j => if j < c + 1 then nodeB l K j else 0) := va_congr fun j hj => by
              show (if j = c then Value.int .u8 ((nodeB l K c : Nat) : Int) else Value.int .u8 (((if j < c then nodeB l K j else 0 : Nat)) : Int)) = Value.int .u8 (((if j < c + 1 then nodeB l K j else 0 : Nat)) : Int)
              by_cases h : j = c
              · subst h
                rw [if_pos rfl, if_pos (by omega)]
              · rw [if_neg h]
                by_cases h2 : j < c
                · rw [if_pos h2, if_pos (by omega)]
                · rw [if_neg h2, if_neg (by omega)]
            rw [e] at this
            exact this
          have hbb : Below wo.heap.size wo (wr.setCell ⟨wo.heap.size, c, none⟩ (.int .u8 ((nodeB l K c : Nat) : Int))) := hbx.setCell (Nat.le_refl _) _
          generalize nodeB l K c = nb at *
          clear hx2 hbx ho9 hw HOW
          go_wp2_with fail
          refine ⟨⟨c + 1, by omega, by simp, HB2.out, hbb⟩, ?_⟩
          simp [intOf]
          try omega
        · have e : va 256 (iv .u8 (fun j => if j < c then nodeB l K j else 0)) = va 256 (iv .u8 (nodeB l K)) := va_congr fun j hj => by
            show Value.int .u8 (((if j < c then nodeB l K j else 0 : Nat)) : Int) = Value.int .u8 ((nodeB l K j : Nat) : Int)
            by_cases h2 : j < c
            · rw [if_pos h2]
            · rw [if_neg h2]
              congr 2
              unfold nodeB
              rw [if_neg (by omega), if_neg (by omega)]
          rw [e] at hx2
          have g1 : Blk wr (w.heap.size + 1) 59 (va 256 (iv .u8 fun _ => 0)) := p1.below hbx (by omega)
          have hbf : Below w.heap.size w wr := hb.trans (hbx.mono (by omega))
          have k5 : ¬ (c : Int) < 152 := by omega
          clear hw ho9 HOW e
          go_wp2_with (first
            | (refine wpList_load_rowg (by rfl) 59 _ (by rfl) (wo.heap.size) (by rfl) 59 (va 256 (iv .u8 (nodeB l K))) (0, 0) _ (by exact hx2) Try.underlying59 (by rfl) (ndSize256.trans (by rw [va_size])) ?_; simp only [Act.put, List.setIfInBounds_toArray, List.set_cons_zero, List.set_cons_succ])
            | (refine wpList_store_row (by rfl) 59 _ _ (by rfl) (w.heap.size + 1) (va 256 (iv .u8 (nodeB l K))) (by rfl) (by rfl) 59 (_) (by exact g1) (ndSize256.trans (by rw [va_size])) (by simp only [va_size]) (iv_one _ _ _) ?_; simp only [Act.put, List.setIfInBounds_toArray, List.set_cons_zero, List.set_cons_succ])
            | fail)
          try simp only [Exit.inBlock, Exit.then]
          refine bodyPost_ret (results_row2 Try.results35 _ _ (w.heap.size + 1) 59 (va 256 (iv .u8 (nodeB l K))) (0, 0) _ rfl (g1.set _) Try.underlying59 rfl (ndSize256.trans (by rw [va_size]))) rfl ?_
          refine ⟨?_, below_setRow hbf (by omega) _⟩
          subst hx hy
          rfl
theorem refBlock_any (l : Int) (K : Nat → Rf) (hK : ∀ i, i < 4 → okD (K i).2) (hN : ∀ i, i < 4 → (K i).1 < 4294967296) (w : World) : Calls Try.prog 35 #[.agg (ndC l K)] w fun e w' => e = .returned (.tuple #[bkV (blkF l K), .int .i64 (if ndOk l K then 0 else 1)]) ∧ Below w.heap.size w w' := by
  by_cases h : l < 1 ∨ 6 < l
  · have e : ndOk l K = false := by
      unfold ndOk
      rcases h with h | h
      · rw [decide_eq_false (p := 1 ≤ l) (by omega), Bool.false_and, Bool.false_and]
      · rw [decide_eq_false (p := l ≤ 6) (by omega), Bool.and_false, Bool.false_and]
    unfold blkF
    rw [e]
    exact refBlock_level l h K w
  · obtain ⟨n, rfl⟩ : ∃ n : Nat, l = (n : Int) := ⟨l.toNat, by omega⟩
    refine refBlock_in n (by omega) (by omega) K hK hN (blkF n K) (if ndOk n K then 0 else 1) ?_ w
    show (_, _) = _
    unfold blkF
    cases ndOk n K
    · rfl
    · rfl
end Go.Proofs.Ytdbcmdafgojnnaa

namespace Go.Proofs.Ytdbcmdafgojnnaa
open Go Go.RowKit
set_option linter.unusedSimpArgs false
set_option linter.unusedVariables false

/-- the first k references alone -/
def topK (K : Nat → Rf) (k : Nat) : Nat → Rf := fun i => if i < k then K i else rf0
theorem topK_step (K : Nat → Rf) (k : Nat) : kdSet (topK K k) k (K k) = topK K (k + 1) := by
  funext j
  unfold kdSet topK
  by_cases h : j = k
  · subst h
    rw [if_pos rfl, if_pos (by omega)]
  · rw [if_neg h]
    by_cases h2 : j < k
    · rw [if_pos h2, if_pos (by omega)]
    · rw [if_neg h2, if_neg (by omega)]
theorem nd_mid (l : Int) (K : Nat → Rf) (k : Nat) (hk : k < 4) {w : World} {g t : Nat} (h : Blk w g t (va 133 (ndF l K))) : w.rangeAt g (1 + k * 33) ((List.range 33).map (rfF (K k).1 (K k).2)) := fun j v hv => by
  refine h.range (1 + k * 33) 33 (by omega) j v ?_
  rw [← hv]
  congr 1
  refine List.map_congr_left fun i hi => ?_
  exact ndF_at _ K k i (by simpa using hi)
set_option maxRecDepth 100000 in
set_option maxHeartbeats 4000000 in
theorem ndGiven_any (l : Int) (K : Nat → Rf) (w : World) : Calls Try.prog 36 #[.agg (ndC l K)] w fun e w' => e = .returned (.agg (ndC l K)) ∧ Below w.heap.size w w' := by
  have hz := zero_rnode
  have HBT : Hid (Try.prog.built 89 [(0, .int .i64 l)] = some (ndC l fun _ => rf0)) := built_rnode1 l
  have r0 : Blk ((w.alloc (.cells (ndC l K) 83)).alloc (.cells (ndC 0 fun _ => rf0) 89)) w.heap.size 83 (va 133 (ndF l K)) := (Blk.new _ _ _).alloc _
  have x0 : ((w.alloc (.cells (ndC l K) 83)).alloc (.cells (ndC 0 fun _ => rf0) 89)).cell? ⟨w.heap.size, 0, none⟩ = some (.int .i64 l) := by
    rw [r0.cell]
    exact va_at (ndF l K) (by decide)
  have b0 : Blk (((w.alloc (.cells (ndC l K) 83)).alloc (.cells (ndC 0 fun _ => rf0) 89)).alloc (.cells (ndC 0 fun _ => rf0) 89)) (w.heap.size + 2) 89 (ndC 0 fun _ => rf0) := Blk.new2 _ _ _ _ _
  have a4 : Blk ((((w.alloc (.cells (ndC l K) 83)).alloc (.cells (ndC 0 fun _ => rf0) 89)).alloc (.cells (ndC 0 fun _ => rf0) 89)).setRow (w.heap.size + 2) (ndC l fun _ => rf0)) w.heap.size 83 (va 133 (ndF l K)) := (r0.alloc _).other _ (by omega)
  have q4 : Blk ((((w.alloc (.cells (ndC l K) 83)).alloc (.cells (ndC 0 fun _ => rf0) 89)).alloc (.cells (ndC 0 fun _ => rf0) 89)).setRow (w.heap.size + 2) (ndC l fun _ => rf0)) (w.heap.size + 1) 89 (ndC 0 fun _ => rf0) := ((Blk.new1 _ _ _ _).alloc _).other _ (by omega)
  have b4 : Blk ((((w.alloc (.cells (ndC l K) 83)).alloc (.cells (ndC 0 fun _ => rf0) 89)).alloc (.cells (ndC 0 fun _ => rf0) 89)).setRow (w.heap.size + 2) (ndC l fun _ => rf0)) (w.heap.size + 2) 89 (va 133 (ndF l fun _ => rf0)) := b0.set _
  have hb4 : Below w.heap.size w ((((w.alloc (.cells (ndC l K) 83)).alloc (.cells (ndC 0 fun _ => rf0) 89)).alloc (.cells (ndC 0 fun _ => rf0) 89)).setRow (w.heap.size + 2) (ndC l fun _ => rf0)) := below_setRow (below_new3 _ _ _ _) (by omega) _
  have hs4 : ((((w.alloc (.cells (ndC l K) 83)).alloc (.cells (ndC 0 fun _ => rf0) 89)).alloc (.cells (ndC 0 fun _ => rf0) 89)).setRow (w.heap.size + 2) (ndC l fun _ => rf0)).heap.size = w.heap.size + 3 := by simp
  clear r0
  go_enter Try.func36, Try.ntmps36
  go_wp2_with (first
    | (refine nd_build1 (by rfl) 89 _ (by rfl) (.int .i64 l) (by rfl) (ndC l fun _ => rf0) (by exact HBT.out) ?_; simp only [Act.put, List.setIfInBounds_toArray, List.set_cons_zero, List.set_cons_succ])
    | (refine wpList_store_row (by rfl) 89 _ _ (by rfl) (w.heap.size + 2) (ndC l fun _ => rf0) (by rfl) (by rfl) 89 (_) (by exact b0) (sizeRnode.trans (by rw [ndC_size])) (by simp only [ndC_size]) (ndC_all _ _) ?_; simp only [Act.put, List.setIfInBounds_toArray, List.set_cons_zero, List.set_cons_succ])
    | fail)
  clear b0 x0 HBT
  generalize ((((w.alloc (.cells (ndC l K) 83)).alloc (.cells (ndC 0 fun _ => rf0) 89)).alloc (.cells (ndC 0 fun _ => rf0) 89)).setRow (w.heap.size + 2) (ndC l fun _ => rf0)) = w4 at *
  go_loopw [4] (fun i wr => ∃ k : Nat, k ≤ 4 ∧ i = .int .i64 (k : Int) ∧ Blk wr w.heap.size 83 (va 133 (ndF l K)) ∧ Blk wr (w.heap.size + 1) 89 (ndC 0 fun _ => rf0) ∧ Blk wr (w.heap.size + 2) 89 (va 133 (ndF l (topK K k))) ∧ Below w.heap.size w wr ∧ w.heap.size + 3 ≤ wr.heap.size) (fun i _ => 4 - (intOf i).toNat)
  case atStart => exact ⟨0, by omega, rfl, a4, q4, b4, hb4, by omega⟩
  case round =>
    clear a4 q4 b4 hb4 hs4
    obtain ⟨k, hk, rfl, p0, p1, p2, hb, hs⟩ := hrel
    by_cases hlt : k < 4
    · have k1 : (k : Int) < 4 := by omega
      have HKD : Hid (wr.rangeAt w.heap.size (1 + k * 33) ((List.range 33).map (rfF (K k).1 (K k).2))) := nd_mid l K k hlt p0
      have HRF : Hid (∀ w, Calls Try.prog 30 #[.agg (va 33 (rfF (K k).1 (K k).2))] w fun e w' => e = .returned (.agg (rfC (K k))) ∧ Below w.heap.size w w') := refRef_any (K k)
      have HU : Hid (va 133 (over (ndF l (topK K k)) (1 + k * 33) (rfC (K k)).toList) = va 133 (ndF l (topK K (k + 1)))) := by
        show _ = _
        rw [nd_over _ _ k _ hlt, topK_step]
      go_wp2_with (first
        | (refine wpList_load_blk (by rfl) 48 _ (by rfl) (w.heap.size) (1 + k * 33) 33 (rfF (K k).1 (K k).2) (by rfl) _ (by exact HKD.out) Try.underlying48 rfl slSizeRef ?_; simp only [Act.put, List.setIfInBounds_toArray, List.set_cons_zero, List.set_cons_succ])
        | fail)
      refine (HRF.out wr).mono ?_
      rintro e w5 ⟨rfl, hb5⟩
      have hs5 := hb5.size
      have m0 : Blk w5 w.heap.size 83 (va 133 (ndF l K)) := p0.below hb5 (by omega)
      have m1 : Blk w5 (w.heap.size + 1) 89 (ndC 0 fun _ => rf0) := p1.below hb5 (by omega)
      have m2 : Blk w5 (w.heap.size + 2) 89 (va 133 (ndF l (topK K k))) := p2.below hb5 (by omega)
      have hb6 : Below w.heap.size w w5 := hb.trans (hb5.mono (by omega))
      clear HKD HRF p0 p1 p2 hb hb5
      go_wp2_with (first
        | (refine wpList_store_mid (by rfl) 70 _ _ (by rfl) (w.heap.size + 2) (1 + k * 33) (rfC (K k)) (by rfl) (by rfl) (by exact m2.there (1 + k * 33) _ (by rw [rfC_size, va_size]; omega)) (sizeRref.trans (by rw [rfC_size])) (rfC_all _) ?_; simp only [Act.put, List.setIfInBounds_toArray, List.set_cons_zero, List.set_cons_succ])
        | fail)
      have n0 : Blk (w5.setCells (w.heap.size + 2) (1 + k * 33) (rfC (K k)).toList) w.heap.size 83 (va 133 (ndF l K)) := m0.cells_other (by omega) _ _ _
      have n1 : Blk (w5.setCells (w.heap.size + 2) (1 + k * 33) (rfC (K k)).toList) (w.heap.size + 1) 89 (ndC 0 fun _ => rf0) := m1.cells_other (by omega) _ _ _
      have n2 : Blk (w5.setCells (w.heap.size + 2) (1 + k * 33) (rfC (K k)).toList) (w.heap.size + 2) 89 (va 133 (ndF l (topK K (k + 1)))) := by
        rw [← HU.out]
        exact m2.cells_put _ _ _
      have hb7 : Below w.heap.size w (w5.setCells (w.heap.size + 2) (1 + k * 33) (rfC (K k)).toList) := below_setCells (by omega) _ _ _ hb6
      have hs7 : (w5.setCells (w.heap.size + 2) (1 + k * 33) (rfC (K k)).toList).heap.size = w5.heap.size := size_setCells _ _ _
      clear m0 m1 m2 hb6
      generalize (w5.setCells (w.heap.size + 2) (1 + k * 33) (rfC (K k)).toList) = w6 at *
      go_wp2_with fail
      refine ⟨⟨k + 1, by omega, by simp, n0, n1, n2, hb7, by omega⟩, ?_⟩
      simp [intOf]
      try omega
    · have e : k = 4 := by omega
      subst e
      have HK : Hid (va 133 (ndF l (topK K 4)) = ndC l K) := nd_congr fun i hi => by
        unfold topK
        rw [if_pos hi]
      have c3 : Blk wr (w.heap.size + 2) 89 (ndC l K) := by
        rw [← HK.out]
        exact p2
      have k4 : ¬ (((4 : Nat) : Int) < 4) := by omega
      clear p2 HK
      go_wp2_with (first
        | (refine wpList_load_rowg (by rfl) 89 _ (by rfl) (w.heap.size + 2) (by rfl) 89 (ndC l K) (0, 0) _ (by exact c3) Try.underlying89 (by rfl) (sizeRnode.trans (by rw [ndC_size])) ?_; simp only [Act.put, List.setIfInBounds_toArray, List.set_cons_zero, List.set_cons_succ])
        | (refine wpList_store_row (by rfl) 89 _ _ (by rfl) (w.heap.size + 1) (ndC l K) (by rfl) (by rfl) 89 (_) (by exact p1) (sizeRnode.trans (by rw [ndC_size])) (by simp only [ndC_size]) (ndC_all _ _) ?_; simp only [Act.put, List.setIfInBounds_toArray, List.set_cons_zero, List.set_cons_succ])
        | fail)
      try simp only [Exit.inBlock, Exit.then]
      refine bodyPost_ret (results_cell_row Try.results36 _ _ (w.heap.size + 1) 89 (ndC l K) (0, 0) _ rfl (p1.set _) Try.underlying89 rfl (sizeRnode.trans (by rw [ndC_size]))) rfl ?_
      exact ⟨rfl, below_setRow hb (by omega) _⟩
/-- how many of the first k references are not none -/
def kcnt (K : Nat → Rf) : Nat → Nat
  | 0 => 0
  | k + 1 => kcnt K k + if K k = rf0 then 0 else 1
theorem kcnt_le (K : Nat → Rf) : ∀ k, kcnt K k ≤ k
  | 0 => Nat.le_refl _
  | k + 1 => by
    have := kcnt_le K k
    unfold kcnt
    split <;> omega
set_option maxRecDepth 100000 in
set_option maxHeartbeats 4000000 in
theorem kids_any (l : Int) (K : Nat → Rf) (w : World) : Calls Try.prog 38 #[.agg (ndC l K)] w fun e w' => e = .returned (.int .i64 ((kcnt K 4 : Nat) : Int)) ∧ Below w.heap.size w w' := by
  have hz := zero_ref
  have r0 : Blk (w.alloc (.cells (ndC l K) 83)) w.heap.size 83 (va 133 (ndF l K)) := Blk.new _ _ _
  have hb : Below w.heap.size w (w.alloc (.cells (ndC l K) 83)) := below_new1 _ _
  have hs : (w.alloc (.cells (ndC l K) 83)).heap.size = w.heap.size + 1 := by simp
  have HKD : Hid ((w.alloc (.cells (ndC l K) 83)).rangeAt w.heap.size 1 ((List.range 132).map (kdF K))) := fun j v hv => by
    refine r0.range 1 132 (by omega) j v ?_
    rw [← hv]
    congr 1
  go_enter Try.func38, Try.ntmps38
  go_wp2_with (first
    | (refine wpList_load_blk (by rfl) 81 _ (by rfl) (w.heap.size) (1) 132 (kdF K) (by rfl) _ (by exact HKD.out) Try.underlying81 rfl sizeKid ?_; simp only [Act.put, List.setIfInBounds_toArray, List.set_cons_zero, List.set_cons_succ])
    | fail)
  clear HKD r0
  generalize (w.alloc (.cells (ndC l K) 83)) = w0 at *
  go_loopw [3, 8] (fun n i wr => ∃ k : Nat, k ≤ 4 ∧ n = .int .i64 ((kcnt K k : Nat) : Int) ∧ i = .int .i64 (k : Int) ∧ Below w.heap.size w wr) (fun _ i _ => 4 - (intOf i).toNat)
  case atStart => exact ⟨0, by omega, rfl, rfl, hb⟩
  case round =>
    clear hb hs
    obtain ⟨k, hk, rfl, rfl, hb⟩ := hrel
    by_cases hlt : k < 4
    · have hx : ∀ W, (Instr.index 81 (.agg (va 132 (kdF K))) (.int .i64 (k : Int))).run Try.prog W = .ok (.agg (rfC (K k))) W := run_index_kid 81 48 Try.underlying81 _ Try.underlying48 rfl slSizeRef K k hlt
      have k1 : (k : Int) < 4 := by omega
      have hc := kcnt_le K k
      have hws := hb.size
      have p1 : Blk (wr.alloc (.cells (rfC rf0) 48)) wr.heap.size 48 (rfC rf0) := Blk.new _ _ _
      have HN : Hid (∀ w, Calls Try.prog 28 #[.agg (rfC (K k))] w fun e w' => e = .returned (.bool (decide (K k = rf0))) ∧ Below w.heap.size w w') := none_any (K k)
      have HC : Hid (kcnt K (k + 1) = kcnt K k + if K k = rf0 then 0 else 1) := rfl
      have hb1 : Below w.heap.size w ((wr.alloc (.cells (rfC rf0) 48)).setRow wr.heap.size (rfC (K k))) := below_setRow (hb.alloc hws _) hws _
      have hs1 : ((wr.alloc (.cells (rfC rf0) 48)).setRow wr.heap.size (rfC (K k))).heap.size = wr.heap.size + 1 := by simp
      go_wp2_with (first
        | (refine wpList_store_row (by rfl) 48 _ _ (by rfl) (wr.heap.size) (rfC (K k)) (by rfl) (by rfl) 48 (_) (by exact p1) (slSizeRef.trans (by rw [rfC_size])) (by simp only [rfC_size]) (rfC_all _) ?_; simp only [Act.put, List.setIfInBounds_toArray, List.set_cons_zero, List.set_cons_succ])
        | (refine wpList_load_rowg (by rfl) 48 _ (by rfl) (wr.heap.size) (by rfl) 48 (rfC (K k)) (0, 0) _ (by exact p1.set _) Try.underlying48 (by rfl) (slSizeRef.trans (by rw [rfC_size])) ?_; simp only [Act.put, List.setIfInBounds_toArray, List.set_cons_zero, List.set_cons_succ])
        | fail)
      clear p1
      generalize ((wr.alloc (.cells (rfC rf0) 48)).setRow wr.heap.size (rfC (K k))) = w2 at *
      refine (HN.out w2).mono ?_
      rintro e w3 ⟨rfl, hb3⟩
      have hb4 : Below w.heap.size w w3 := hb1.trans (hb3.mono (by omega))
      clear hb1 hb3 HN
      generalize kcnt K k = n at *
      by_cases h0 : K k = rf0
      · rw [if_pos h0] at HC
        rw [decide_eq_true h0]
        go_wp2_with fail
        go_roundw
        case rel => exact ⟨k + 1, by omega, by rw [HC.out]; simp, by simp, hb4⟩
        case measure => simp [intOf]; omega
      · rw [if_neg h0] at HC
        rw [decide_eq_false h0]
        go_wp2_with fail
        go_roundw
        case rel => exact ⟨k + 1, by omega, by rw [HC.out]; simp, by simp, hb4⟩
        case measure => simp [intOf]; omega
    · have e : k = 4 := by omega
      subst e
      have k4 : ¬ (((4 : Nat) : Int) < 4) := by omega
      go_wp2_with fail
      go_ret
      exact ⟨rfl, hb⟩
set_option maxRecDepth 100000 in
set_option maxHeartbeats 4000000 in
theorem empty_any (l : Int) (K : Nat → Rf) (w : World) : Calls Try.prog 39 #[.agg (ndC l K)] w fun e w' => e = .returned (.bool (decide (((kcnt K 4 : Nat) : Int) = 0))) ∧ Below w.heap.size w w' := by
  have r0 : Blk (w.alloc (.cells (ndC l K) 83)) w.heap.size 83 (ndC l K) := Blk.new _ _ _
  have hb : Below w.heap.size w (w.alloc (.cells (ndC l K) 83)) := below_new1 _ _
  have hs : (w.alloc (.cells (ndC l K) 83)).heap.size = w.heap.size + 1 := by simp
  have HK : Hid (∀ w, Calls Try.prog 38 #[.agg (ndC l K)] w fun e w' => e = .returned (.int .i64 ((kcnt K 4 : Nat) : Int)) ∧ Below w.heap.size w w') := kids_any l K
  generalize kcnt K 4 = n at *
  go_enter Try.func39, Try.ntmps39
  go_wp2_with (first
    | (refine wpList_load_rowg (by rfl) 83 _ (by rfl) (w.heap.size) (by rfl) 83 (ndC l K) (0, 0) _ (by exact r0) Try.underlying83 (by rfl) (sizeNode.trans (by rw [ndC_size])) ?_; simp only [Act.put, List.setIfInBounds_toArray, List.set_cons_zero, List.set_cons_succ])
    | fail)
  generalize (w.alloc (.cells (ndC l K) 83)) = w0 at *
  refine (HK.out w0).mono ?_
  rintro e w1 ⟨rfl, hb1⟩
  have hb2 : Below w.heap.size w w1 := hb.trans (hb1.mono (by omega))
  go_wp2_with fail
  go_ret
  exact ⟨rfl, hb2⟩
set_option maxRecDepth 100000 in
set_option maxHeartbeats 4000000 in
theorem swap_place (l : Int) (K : Nat → Rf) (i : Int) (r : Rf) (hi : i < 0 ∨ 3 < i) (w : World) : Calls Try.prog 37 #[.agg (ndC l K), .int .i64 i, .agg (rfC r)] w fun e w' => e = .returned (.tuple #[.agg (ndC 0 fun _ => rf0), .int .i64 1]) ∧ Below w.heap.size w w' := by
  have hz := zero_node
  have r0 : Blk (((w.alloc (.cells (ndC l K) 83)).alloc (.cells (rfC r) 48)).alloc (.cells (ndC 0 fun _ => rf0) 83)) w.heap.size 83 (va 133 (ndF l K)) := ((Blk.new _ _ _).alloc _).alloc _
  have r1 : Blk (((w.alloc (.cells (ndC l K) 83)).alloc (.cells (rfC r) 48)).alloc (.cells (ndC 0 fun _ => rf0) 83)) (w.heap.size + 1) 48 (rfC r) := (Blk.new1 _ _ _ _).alloc _
  have r2 : Blk (((w.alloc (.cells (ndC l K) 83)).alloc (.cells (rfC r) 48)).alloc (.cells (ndC 0 fun _ => rf0) 83)) (w.heap.size + 2) 83 (ndC 0 fun _ => rf0) := Blk.new2 _ _ _ _ _
  have hb : Below w.heap.size w (((w.alloc (.cells (ndC l K) 83)).alloc (.cells (rfC r) 48)).alloc (.cells (ndC 0 fun _ => rf0) 83)) := below_new3 _ _ _ _
  have hs : (((w.alloc (.cells (ndC l K) 83)).alloc (.cells (rfC r) 48)).alloc (.cells (ndC 0 fun _ => rf0) 83)).heap.size = w.heap.size + 3 := by simp
  rcases hi with hi | hi
  · go_enter Try.func37, Try.ntmps37
    go_wp2_with (first
      | (refine wpList_store_row (by rfl) 83 _ _ (by rfl) (w.heap.size + 2) (ndC 0 fun _ => rf0) (by rfl) (by rfl) 83 (_) (by exact r2) (sizeNode.trans (by rw [ndC_size])) (by simp only [ndC_size]) (ndC_all _ _) ?_; simp only [Act.put, List.setIfInBounds_toArray, List.set_cons_zero, List.set_cons_succ])
      | fail)
    try simp only [Exit.inBlock, Exit.then]
    refine bodyPost_ret (results_row2 Try.results37 _ _ (w.heap.size + 2) 83 (ndC 0 fun _ => rf0) (0, 0) _ rfl (r2.set _) Try.underlying83 rfl (sizeNode.trans (by rw [ndC_size]))) rfl ?_
    exact ⟨rfl, below_setRow hb (by omega) _⟩
  · have h4 : 4 ≤ i := by omega
    go_enter Try.func37, Try.ntmps37
    go_wp2_with (first
      | (refine wpList_store_row (by rfl) 83 _ _ (by rfl) (w.heap.size + 2) (ndC 0 fun _ => rf0) (by rfl) (by rfl) 83 (_) (by exact r2) (sizeNode.trans (by rw [ndC_size])) (by simp only [ndC_size]) (ndC_all _ _) ?_; simp only [Act.put, List.setIfInBounds_toArray, List.set_cons_zero, List.set_cons_succ])
      | fail)
    try simp only [Exit.inBlock, Exit.then]
    refine bodyPost_ret (results_row2 Try.results37 _ _ (w.heap.size + 2) 83 (ndC 0 fun _ => rf0) (0, 0) _ rfl (r2.set _) Try.underlying83 rfl (sizeNode.trans (by rw [ndC_size]))) rfl ?_
    exact ⟨rfl, below_setRow hb (by omega) _⟩
set_option maxRecDepth 100000 in
set_option maxHeartbeats 4000000 in
theorem swap_in (l : Int) (K : Nat → Rf) (p : Nat) (hp : p < 4) (r : Rf) (w : World) : Calls Try.prog 37 #[.agg (ndC l K), .int .i64 (p : Int), .agg (rfC r)] w fun e w' => e = .returned (.tuple #[.agg (if rOk r then ndC l (kdSet K p r) else ndC 0 fun _ => rf0), .int .i64 (if rOk r then 0 else 1)]) ∧ Below w.heap.size w w' := by
  have hz := zero_node
  have r0 : Blk (((w.alloc (.cells (ndC l K) 83)).alloc (.cells (rfC r) 48)).alloc (.cells (ndC 0 fun _ => rf0) 83)) w.heap.size 83 (va 133 (ndF l K)) := ((Blk.new _ _ _).alloc _).alloc _
  have r1 : Blk (((w.alloc (.cells (ndC l K) 83)).alloc (.cells (rfC r) 48)).alloc (.cells (ndC 0 fun _ => rf0) 83)) (w.heap.size + 1) 48 (rfC r) := (Blk.new1 _ _ _ _).alloc _
  have r2 : Blk (((w.alloc (.cells (ndC l K) 83)).alloc (.cells (rfC r) 48)).alloc (.cells (ndC 0 fun _ => rf0) 83)) (w.heap.size + 2) 83 (ndC 0 fun _ => rf0) := Blk.new2 _ _ _ _ _
  have hb : Below w.heap.size w (((w.alloc (.cells (ndC l K) 83)).alloc (.cells (rfC r) 48)).alloc (.cells (ndC 0 fun _ => rf0) 83)) := below_new3 _ _ _ _
  have hs : (((w.alloc (.cells (ndC l K) 83)).alloc (.cells (rfC r) 48)).alloc (.cells (ndC 0 fun _ => rf0) 83)).heap.size = w.heap.size + 3 := by simp
  have HR : Hid (∀ w, Calls Try.prog 58 #[.agg (rfC r)] w fun e w' => e = .returned (.bool (rOk r)) ∧ Below w.heap.size w w') := right_any r
  have HU : Hid (va 133 (over (ndF l K) (1 + p * 33) (rfC r).toList) = ndC l (kdSet K p r)) := nd_over _ _ p _ hp
  generalize rOk r = b at *
  have p0 : (0 : Int) ≤ (p : Int) := by omega
  have p1 : (p : Int) < 4 := by omega
  have p2 : decide ((p : Int) < 0) = false := decide_eq_false (by omega)
  have p3 : decide (4 ≤ (p : Int)) = false := decide_eq_false (by omega)
  go_enter Try.func37, Try.ntmps37
  go_wp2_with (first
    | (refine wpList_load_rowg (by rfl) 48 _ (by rfl) (w.heap.size + 1) (by rfl) 48 (rfC r) (0, 0) _ (by exact r1) Try.underlying48 (by rfl) (slSizeRef.trans (by rw [rfC_size])) ?_; simp only [Act.put, List.setIfInBounds_toArray, List.set_cons_zero, List.set_cons_succ])
    | fail)
  generalize (((w.alloc (.cells (ndC l K) 83)).alloc (.cells (rfC r) 48)).alloc (.cells (ndC 0 fun _ => rf0) 83)) = w0 at *
  refine (HR.out w0).mono ?_
  rintro e w1 ⟨rfl, hb1⟩
  have hs1 := hb1.size
  have m0 : Blk w1 w.heap.size 83 (va 133 (ndF l K)) := r0.below hb1 (by omega)
  have m1 : Blk w1 (w.heap.size + 1) 48 (rfC r) := r1.below hb1 (by omega)
  have m2 : Blk w1 (w.heap.size + 2) 83 (ndC 0 fun _ => rf0) := r2.below hb1 (by omega)
  have hb2 : Below w.heap.size w w1 := hb.trans (hb1.mono (by omega))
  clear r0 r1 r2 hb hb1 HR
  cases b
  · go_wp2_with (first
      | (refine wpList_store_row (by rfl) 83 _ _ (by rfl) (w.heap.size + 2) (ndC 0 fun _ => rf0) (by rfl) (by rfl) 83 (_) (by exact m2) (sizeNode.trans (by rw [ndC_size])) (by simp only [ndC_size]) (ndC_all _ _) ?_; simp only [Act.put, List.setIfInBounds_toArray, List.set_cons_zero, List.set_cons_succ])
      | fail)
    try simp only [Exit.inBlock, Exit.then]
    refine bodyPost_ret (results_row2 Try.results37 _ _ (w.heap.size + 2) 83 (ndC 0 fun _ => rf0) (0, 0) _ rfl (m2.set _) Try.underlying83 rfl (sizeNode.trans (by rw [ndC_size]))) rfl ?_
    exact ⟨rfl, below_setRow hb2 (by omega) _⟩
  · have n0 : Blk (w1.setCells w.heap.size (1 + p * 33) (rfC r).toList) w.heap.size 83 (ndC l (kdSet K p r)) := by
      rw [← HU.out]
      exact m0.cells_put _ _ _
    have n2 : Blk (w1.setCells w.heap.size (1 + p * 33) (rfC r).toList) (w.heap.size + 2) 83 (ndC 0 fun _ => rf0) := m2.cells_other (by omega) _ _ _
    have hb3 : Below w.heap.size w (w1.setCells w.heap.size (1 + p * 33) (rfC r).toList) := below_setCells (Nat.le_refl _) _ _ _ hb2
    go_wp2_with (first
      | (refine wpList_load_rowg (by rfl) 48 _ (by rfl) (w.heap.size + 1) (by rfl) 48 (rfC r) (0, 0) _ (by exact m1) Try.underlying48 (by rfl) (slSizeRef.trans (by rw [rfC_size])) ?_; simp only [Act.put, List.setIfInBounds_toArray, List.set_cons_zero, List.set_cons_succ])
      | (refine wpList_store_mid (by rfl) 48 _ _ (by rfl) (w.heap.size) (1 + p * 33) (rfC r) (by rfl) (by rfl) (by exact m0.there (1 + p * 33) _ (by rw [rfC_size, va_size]; omega)) (slSizeRef.trans (by rw [rfC_size])) (rfC_all _) ?_; simp only [Act.put, List.setIfInBounds_toArray, List.set_cons_zero, List.set_cons_succ])
      | (refine wpList_load_rowg (by rfl) 83 _ (by rfl) (w.heap.size) (by rfl) 83 (ndC l (kdSet K p r)) (0, 0) _ (by exact n0) Try.underlying83 (by rfl) (sizeNode.trans (by rw [ndC_size])) ?_; simp only [Act.put, List.setIfInBounds_toArray, List.set_cons_zero, List.set_cons_succ])
      | (refine wpList_store_row (by rfl) 83 _ _ (by rfl) (w.heap.size + 2) (ndC l (kdSet K p r)) (by rfl) (by rfl) 83 (_) (by exact n2) (sizeNode.trans (by rw [ndC_size])) (by simp only [ndC_size]) (ndC_all _ _) ?_; simp only [Act.put, List.setIfInBounds_toArray, List.set_cons_zero, List.set_cons_succ])
      | fail)
    try simp only [Exit.inBlock, Exit.then]
    refine bodyPost_ret (results_row2 Try.results37 _ _ (w.heap.size + 2) 83 (ndC l (kdSet K p r)) (0, 0) _ rfl (n2.set _) Try.underlying83 rfl (sizeNode.trans (by rw [ndC_size]))) rfl ?_
    exact ⟨rfl, below_setRow hb3 (by omega) _⟩
end Go.Proofs.Ytdbcmdafgojnnaa
