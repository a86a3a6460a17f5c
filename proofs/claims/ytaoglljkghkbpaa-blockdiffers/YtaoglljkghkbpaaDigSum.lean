/- A chain in bytes: the program's contract. -/
import Derived.Test.YtaoglljkghkbpaaDigFirst
import Derived.Test.YtaoglljkghkbpaaSplice
import Derived.Deep.RegionLaw
import Derived.Handy
namespace Go.Proofs.Ytaoglljkghkbpaa
open Go.RowKit
set_option linter.unusedSimpArgs false
set_option linter.unusedVariables false

theorem sizeByte : (Try.prog.info? 5).map (·.size) = some 1 := by kernel_rfl
theorem sizeSum : (Try.prog.info? 69).map (·.size) = some 32 := by kernel_rfl
theorem size4 : (Try.prog.info? 80).map (·.size) = some 4 := by kernel_rfl
theorem sum_at (c : Nat → Nat) (k j : Nat) (hj : j < 4) : sumN c (4 * k + j) = dig (c k) j := by
  unfold sumN
  rw [show (4 * k + j) / 4 = k from by omega, show (4 * k + j) % 4 = j from by omega]

set_option maxHeartbeats 4000000 in
theorem sum_any (c : Nat → Nat) (w : World) :
    Calls Try.prog 51 #[.agg (va 8 (iv .u32 c))] w fun e w' => e = .returned (.agg (va 32 (iv .u8 (sumN c)))) ∧ Below w.heap.size w w' := by
  go_enter Try.func51, Try.ntmps51
  go_wp2_with fail
  go_loopw [6] (fun i wr => ∃ k : Nat, k ≤ 8 ∧ i = .int .i64 k ∧ Blk wr w.heap.size 102 (va 8 (iv .u32 c)) ∧ Blk wr (w.heap.size + 1) 69 (va 32 (iv .u8 fun _ => 0)) ∧ Blk wr (w.heap.size + 2) 69 (va 32 (iv .u8 (fupN (4 * k) (sumN c) fun _ => 0))) ∧ Below w.heap.size w wr) (fun i _ => 8 - (intOf i).toNat)
  case atStart =>
    refine ⟨0, by omega, rfl, ?_, ?_, ?_, ?_⟩
    · exact ((Blk.new w _ _).alloc _).alloc _
    · have e : (w.alloc (.cells (va 8 (iv .u32 c)) 102)).heap.size = w.heap.size + 1 := by simp
      rw [← e]
      exact (Blk.new _ _ (va 32 (iv .u8 fun _ => 0))).alloc _
    · have e : ((w.alloc (.cells (va 8 (iv .u32 c)) 102)).alloc (.cells (va 32 (iv .u8 fun _ => 0)) 69)).heap.size = w.heap.size + 2 := by simp
      rw [← e, fup_zero]
      exact Blk.new _ _ (va 32 (iv .u8 fun _ => 0))
    · exact (((Below.refl _ _).alloc (Nat.le_refl _) _).alloc (by simp) _).alloc (by simp; omega) _
  case round =>
    obtain ⟨k, hk, rfl, h0, h1, h2, hb⟩ := hrel
    by_cases hlt : k < 8
    · have i0 : (0 : Int) ≤ (k : Int) := by omega
      have i1 : (k : Int) < 8 := by omega
      have i2 : decide ((k : Int) < 8) = true := decide_eq_true i1
      have hB : Hid (∀ w : World, Calls Try.prog 39 #[.int .u32 ((c k : Nat) : Int)] w fun e w' => e = .returned (.agg (va 4 (iv .u8 (dig (c k))))) ∧ Below w.heap.size w w') := fun w => bytes32_va (c k) w
      have ck : wr.cell? ⟨w.heap.size, k, none⟩ = some (.int .u32 ((c k : Nat) : Int)) := h0.cv hlt
      have HS : Hid (∀ j, j < 4 → sumN c (4 * k + j) = dig (c k) j) := fun j hj => sum_at c k j hj
      generalize c k = x at *
      go_wp2_with fail
      refine (hB.out _).mono ?_
      rintro e w1 ⟨rfl, hb1⟩
      have k0 := h0.below hb1 h0.lt
      have k1 := h1.below hb1 h1.lt
      have k2 := h2.below hb1 h2.lt
      have kb : Below w.heap.size w w1 := hb.trans (hb1.mono hb.size)
      clear h0 h1 h2 hb hb1 ck hB
      have n0 : Blk (w1.alloc (.cells #[.int .u8 0, .int .u8 0, .int .u8 0, .int .u8 0] 80)) w1.heap.size 80 (va 4 (iv .u8 fun _ => 0)) := Blk.new _ _ _
      obtain ⟨q, hq⟩ : ∃ q : Nat, q = 4 * k := ⟨_, rfl⟩
      have hq1 : q ≤ 28 := by omega
      have wk : IntKind.i64.wrap ((k : Int) * 4) = (q : Int) := by
        rw [IntKind.wrap_i64, hq]
        omega
      have q0 : (0 : Int) ≤ (q : Int) := by omega
      have q1 : (q : Int) ≤ 32 := by omega
      have q2 : ¬ 32 = q := by omega
      have HQ : Hid (q = 4 * k) := hq
      have l2 := k2.lt
      rw [← hq] at k2
      clear hq
      go_wp2_with (first
        | (refine wpList_store_row (by rfl) 80 _ _ (by rfl) w1.heap.size (va 4 (iv .u8 (dig x))) (by rfl) (by rfl) 80 _ n0 (size4.trans (by rw [va_size])) (by rw [va_size, va_size]) (iv_one _ _ _) ?_; simp only [Act.put, List.setIfInBounds_toArray, List.set_cons_zero, List.set_cons_succ])
        | fail)
      have m0 := n0.set (va 4 (iv .u8 (dig x)))
      have j0 := (k0.alloc (.cells #[.int .u8 0, .int .u8 0, .int .u8 0, .int .u8 0] 80)).other (va 4 (iv .u8 (dig x))) (g := w1.heap.size) (by omega)
      have j1 := (k1.alloc (.cells #[.int .u8 0, .int .u8 0, .int .u8 0, .int .u8 0] 80)).other (va 4 (iv .u8 (dig x))) (g := w1.heap.size) (by omega)
      have j2 := (k2.alloc (.cells #[.int .u8 0, .int .u8 0, .int .u8 0, .int .u8 0] 80)).other (va 4 (iv .u8 (dig x))) (g := w1.heap.size) (by omega)
      have jb : Below w.heap.size w ((w1.alloc (.cells #[.int .u8 0, .int .u8 0, .int .u8 0, .int .u8 0] 80)).setRow w1.heap.size (va 4 (iv .u8 (dig x)))) := below_setRow (kb.alloc (by omega) _) (by omega) _
      clear k0 k1 k2 kb n0
      generalize (w1.alloc (.cells #[.int .u8 0, .int .u8 0, .int .u8 0, .int .u8 0] 80)).setRow w1.heap.size (va 4 (iv .u8 (dig x))) = w2 at *
      obtain ⟨cs, hcs⟩ : ∃ cs : List Value, cs = (List.range 4).map fun j => Value.int .u8 ((dig x j : Nat) : Int) := ⟨_, rfl⟩
      obtain ⟨cu, hcu⟩ : ∃ cu : List Value, cu = (List.range 32).map (iv .u8 (fupN q (sumN c) fun _ => 0)) := ⟨_, rfl⟩
      have s1 : Hid (cs.length = Nat.min 4 (32 - q)) := by
        show _ = _
        rw [hcs, show Nat.min 4 (32 - q) = 4 from Nat.min_eq_left (by omega)]
        simp
      have hr := m0.range 0 4 (by omega)
      have s2 : Hid (∀ j v, cs[j]? = some v → w2.drew.cell? ((⟨w1.heap.size, 0, none⟩ : Addr).add j) = some v) := fun j v hv => by
        rw [Addr.add_mid]
        refine hr j v ?_
        rw [← hv, hcs]
        simp [iv]
      have s3 : Hid (∀ v ∈ cs, v.oneCell' = true) := by
        show ∀ v ∈ cs, v.oneCell' = true
        rw [hcs]
        exact mem_iv_one _ _ _
      have s4 : Hid ((splice cu q cs).toArray = va 32 (iv .u8 (fupN (4 * (k + 1)) (sumN c) fun _ => 0))) := by
        show _ = _
        have e : cs = (List.range 4).map fun j => Value.int .u8 ((sumN c (q + j) : Nat) : Int) := by
          rw [hcs]
          refine List.map_congr_left fun j hj => ?_
          rw [HQ.out, HS.out j (List.mem_range.1 hj)]
        rw [e, hcu, splice_va 32 q 4 _ _ (by omega), over_fup, HQ.out, show 4 * (k + 1) = 4 * k + 4 from by omega]
      have s5 : Hid (q + cs.length ≤ cu.length) := by
        show _ ≤ _
        rw [hcs, hcu]
        simp
        omega
      have s6 : Hid (w2.drew.heap[w.heap.size + 2]? = some (.cells cu.toArray 69 (0, 0))) := by
        show _ = _
        rw [hcu]
        exact j2
      clear hcs hcu hr j2
      go_wp2_with fail
      go_region_law (refine step_copy_splice rfl (.tmp 15) (.tmp 16) 78 78 rfl 5 Try.underlying78 sizeByte (some ⟨w.heap.size + 2, q, none⟩) (some ⟨w1.heap.size, 0, none⟩) (32 - q) (32 - q) 4 4 (by simp [Act.eval, Act.put]) (by simp [Act.eval, Act.put]) (w.heap.size + 2) q cu 69 s6.out cs s1.out (fun _ => ⟨rfl, _, rfl, s2.out⟩) s5.out s3.out (w.heap.size + 2) w2.drew (Below.refl _ _) (Nat.le_refl _) ?_; intro w4 hg4 hb4)
      have p2 : Blk w4 (w.heap.size + 2) 69 (va 32 (iv .u8 (fupN (4 * (k + 1)) (sumN c) fun _ => 0))) := by
        have := hg4.out
        rw [s4.out] at this
        exact this
      have p0 := j0.drew.below hb4 (by omega)
      have p1 := j1.drew.below hb4 (by omega)
      have pb : Below w.heap.size w w4 := jb.drew.trans (hb4.mono (by omega))
      clear s1 s2 s3 s4 s5 s6 hg4 hb4 j0 j1 jb m0
      go_wp2_with fail
      go_roundw
      case rel => exact ⟨k + 1, by omega, by go_num, p0, p1, p2, pb⟩
      case measure => simp [intOf]; omega
    · obtain rfl : k = 8 := by omega
      rw [fup_all _ 32 (4 * 8) _ _ (Nat.le_refl _)] at h2
      go_wp2_with (first
        | (refine wpList_load_row (by rfl) 69 _ (by rfl) (w.heap.size + 2) (by rfl) 69 (va 32 (iv .u8 (sumN c))) (0, 0) _ h2 Try.underlying69 (by rfl) (sizeSum.trans (by rw [va_size])) ?_; simp only [Act.put, List.setIfInBounds_toArray, List.set_cons_zero, List.set_cons_succ])
        | (refine wpList_store_row (by rfl) 69 _ _ (by rfl) (w.heap.size + 1) (va 32 (iv .u8 (sumN c))) (by rfl) (by rfl) 69 _ h1 (sizeSum.trans (by rw [va_size])) (by rw [va_size, va_size]) (iv_one _ _ _) ?_; simp only [Act.put, List.setIfInBounds_toArray, List.set_cons_zero, List.set_cons_succ])
        | fail)
      try simp only [Exit.inBlock, Exit.then]
      refine bodyPost_ret (results_cell_row Try.results51 _ _ (w.heap.size + 1) 69 (va 32 (iv .u8 (sumN c))) (0, 0) _ rfl (h1.set _) Try.underlying69 rfl (sizeSum.trans (by rw [va_size]))) rfl ?_
      exact ⟨rfl, below_setRow hb (by omega) _⟩
end Go.Proofs.Ytaoglljkghkbpaa
