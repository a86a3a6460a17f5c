/- One piece pressed into a chain: the program's contract. -/
import Derived.Test.YtaoglljkghkbpaaDigFirst
import Derived.Test.YtaoglljkghkbpaaOrders
import Derived.Test.YtaoglljkghkbpaaMixesPos
import Derived.Deep.RegionLaw
import Derived.Handy
namespace Go.Proofs.Ytaoglljkghkbpaa
open Go.RowKit
set_option linter.unusedSimpArgs false
set_option linter.unusedVariables false

theorem sizeU8 : (Try.prog.info? 5).map (·.size) = some 1 := by kernel_rfl
theorem sizePiece : (Try.prog.info? 104).map (·.size) = some 32 := by kernel_rfl
theorem stAll (s : St) : (stA s).all (·.oneCell') = true := Array.all_eq_true_iff_forall_mem.2 (fun v hv => stA_one s v (by simpa using hv))
/-- the state, filled up to place k -/
def sideK (c p : Nat → Nat) (k : Nat) : Nat → Nat := fun j => if j < 8 then (if j < k then c j else 0) else if j - 8 < k then le4f p (4 * (j - 8)) else 0
theorem sideK_zero (c p : Nat → Nat) : sideK c p 0 = fun _ => 0 := by
  funext j
  unfold sideK
  simp
theorem sideK_all (c p : Nat → Nat) : va 16 (iv .u32 (sideK c p 8)) = va 16 (iv .u32 (sideN c p)) := va_congr fun j hj => by
  show Value.int .u32 ((sideK c p 8 j : Nat) : Int) = Value.int .u32 ((sideN c p j : Nat) : Int)
  have : sideK c p 8 j = sideN c p j := by
    unfold sideK sideN
    by_cases h : j < 8
    · simp [h]
    · rw [if_neg h, if_neg h, if_pos (by omega)]
  rw [this]
theorem sideK_step (c p : Nat → Nat) (k : Nat) (hk : k < 8) :
    va 16 (upd (upd (iv .u32 (sideK c p k)) k (.int .u32 (c k : Int))) (k + 8) (.int .u32 (le4f p (4 * k) : Int))) = va 16 (iv .u32 (sideK c p (k + 1))) := by
  rw [upd_iv, upd_iv]
  congr 2
  funext j
  unfold updN sideK
  by_cases h : j = k + 8
  · subst h
    rw [if_pos rfl, if_neg (by omega), if_pos (by omega)]
    simp
  · rw [if_neg h]
    by_cases h2 : j = k
    · subst h2
      simp [hk]
    · rw [if_neg h2]
      by_cases h3 : j < 8
      · simp only [h3, if_true]
        by_cases h4 : j < k
        · rw [if_pos h4, if_pos (by omega)]
        · rw [if_neg h4, if_neg (by omega)]
      · simp only [h3, if_false]
        by_cases h4 : j - 8 < k
        · rw [if_pos h4, if_pos (by omega)]
        · rw [if_neg h4, if_neg (by omega)]

theorem press_val (c p : Nat → Nat) (hc : okC c) (hp : okP p) (k : Nat) (hk : k < 8) :
    bits .xor .u32 ((c k : Nat) : Int) (bits .xor .u32 (((mixedN c p).at k : Nat) : Int) (((mixedN c p).at (k + 8) : Nat) : Int)) = ((pressN c p k : Nat) : Int) := by
  have h1 := (mixedN c p).at_lt (mixed_ok hc hp) k
  have h2 := (mixedN c p).at_lt (mixed_ok hc hp) (k + 8)
  rw [u32_xor_nat _ _ h1 h2, u32_xor_nat _ _ (hc k hk) (xlt32 h1 h2)]
  rfl

set_option maxHeartbeats 4000000 in
theorem press_any (c p : Nat → Nat) (hc : okC c) (hp : okP p) (w : World) :
    Calls Try.prog 49 #[.agg (va 8 (iv .u32 c)), .agg (va 32 (iv .u8 p))] w fun e w' => e = .returned (.agg (va 8 (iv .u32 (pressN c p)))) ∧ Below w.heap.size w w' := by
  go_enter Try.func49, Try.ntmps49
  go_wp2_with fail
  go_loopw [11] (fun i wr => ∃ k : Nat, k ≤ 8 ∧ i = .int .i64 k ∧ Blk wr w.heap.size 102 (va 8 (iv .u32 c)) ∧ Blk wr (w.heap.size + 1) 104 (va 32 (iv .u8 p)) ∧ Blk wr (w.heap.size + 2) 102 (va 8 (iv .u32 fun _ => 0)) ∧ Blk wr (w.heap.size + 3) 112 (va 16 (iv .u32 (sideK c p k))) ∧ Below w.heap.size w wr) (fun i _ => 8 - (intOf i).toNat)
  case atStart =>
    refine ⟨0, by omega, rfl, ?_, ?_, ?_, ?_, ?_⟩
    · exact (((Blk.new w _ _).alloc _).alloc _).alloc _
    · have e : (w.alloc (.cells (va 8 (iv .u32 c)) 102)).heap.size = w.heap.size + 1 := by simp
      rw [← e]
      exact ((Blk.new _ _ _).alloc _).alloc _
    · have e : ((w.alloc (.cells (va 8 (iv .u32 c)) 102)).alloc (.cells (va 32 (iv .u8 p)) 104)).heap.size = w.heap.size + 2 := by simp
      rw [← e]
      exact (Blk.new _ _ (va 8 (iv .u32 fun _ => 0))).alloc _
    · have e : (((w.alloc (.cells (va 8 (iv .u32 c)) 102)).alloc (.cells (va 32 (iv .u8 p)) 104)).alloc (.cells (va 8 (iv .u32 fun _ => 0)) 102)).heap.size = w.heap.size + 3 := by simp
      rw [← e, sideK_zero]
      exact Blk.new _ _ (va 16 (iv .u32 fun _ => 0))
    · exact ((((Below.refl _ _).alloc (Nat.le_refl _) _).alloc (by simp) _).alloc (by simp; omega) _).alloc (by simp; omega) _
  case round =>
    obtain ⟨k, hk, rfl, h0, h1, h2, h3, hb⟩ := hrel
    by_cases hlt : k < 8
    · have i0 : (0 : Int) ≤ (k : Int) := by omega
      have i1 : (k : Int) < 8 := by omega
      have i2 : decide ((k : Int) < 8) = true := decide_eq_true i1
      have h3l := h3.lt
      obtain ⟨q, hq⟩ : ∃ q : Nat, q = 4 * k := ⟨_, rfl⟩
      have hq1 : q ≤ 28 := by omega
      have wk : IntKind.i64.wrap ((k : Int) * 4) = (q : Int) := by
        rw [IntKind.wrap_i64, hq]
        omega
      have q0 : (0 : Int) ≤ (q : Int) := by omega
      have q1 : (q : Int) ≤ 32 := by omega
      have q2 : ¬ 32 = q := by omega
      have HQ : Hid (q = 4 * k) := hq
      clear hq
      obtain ⟨cs, hcs⟩ : ∃ cs : List Value, cs = (List.range 4).map fun j => Value.int .u8 ((p (q + j) : Nat) : Int) := ⟨_, rfl⟩
      have s1 : Hid (cs.length = Nat.min (32 - q) 4) := by
        show _ = _
        rw [hcs, show Nat.min (32 - q) 4 = 4 from Nat.min_eq_right (by omega)]
        simp
      have hr := h1.range q 4 (by omega)
      have s2 : Hid (∀ j v, cs[j]? = some v → (wr.alloc (.cells #[.int .u8 0, .int .u8 0, .int .u8 0, .int .u8 0] 80)).drew.cell? ((⟨w.heap.size + 1, q, none⟩ : Addr).add j) = some v) := fun j v hv => by
        rw [Addr.add_mid]
        have := hr j v (by rw [← hv, hcs]; rfl)
        rw [h1.cell] at this
        rw [((h1.alloc _).drew).cell]
        exact this
      have s3 : Hid (∀ v ∈ cs, v.oneCell' = true) := fun v hv => by
        rw [hcs] at hv
        obtain ⟨j, _, rfl⟩ := List.mem_map.1 hv
        rfl
      have s4 : Hid (splice [Value.int .u8 0, .int .u8 0, .int .u8 0, .int .u8 0] 0 cs = (List.range 4).map fun j => Value.int .u8 ((p (q + j) : Nat) : Int)) := by
        show _ = _
        rw [hcs]
        rfl
      have s5 : Hid (0 + cs.length ≤ [Value.int .u8 0, .int .u8 0, .int .u8 0, .int .u8 0].length) := by
        show _ ≤ _
        rw [hcs]
        simp
      have s6 : Hid ((wr.alloc (.cells #[.int .u8 0, .int .u8 0, .int .u8 0, .int .u8 0] 80)).drew.heap[wr.heap.size]? = some (.cells [Value.int .u8 0, .int .u8 0, .int .u8 0, .int .u8 0].toArray 80 (0, 0))) := Blk.new wr 80 #[.int .u8 0, .int .u8 0, .int .u8 0, .int .u8 0]
      have s7 : Hid (Below wr.heap.size wr (wr.alloc (.cells #[.int .u8 0, .int .u8 0, .int .u8 0, .int .u8 0] 80)).drew) := ((Below.refl _ _).alloc (Nat.le_refl _) _).drew
      clear hcs hr
      go_wp2_with fail
      go_region_law (refine step_copy_splice rfl (.tmp 14) (.tmp 17) 78 78 rfl 5 Try.underlying78 sizeU8 (some ⟨wr.heap.size, 0, none⟩) (some ⟨w.heap.size + 1, q, none⟩) 4 4 (32 - q) (32 - q) (by simp [Act.eval, Act.put]) (by simp [Act.eval, Act.put]) wr.heap.size 0 [.int .u8 0, .int .u8 0, .int .u8 0, .int .u8 0] 80 s6.out cs s1.out (fun _ => ⟨rfl, _, rfl, s2.out⟩) s5.out s3.out wr.heap.size wr s7.out (Nat.le_refl _) ?_; intro w4 hg4 hb4)
      have b0 : Blk w4 wr.heap.size 80 (va 4 (iv .u8 fun j => p (q + j))) := by
        have := hg4.out
        rw [s4.out] at this
        exact this
      have k0 := h0.below hb4 h0.lt
      have k1 := h1.below hb4 h1.lt
      have k2 := h2.below hb4 h2.lt
      have k3 := h3.below hb4 h3.lt
      have kb : Below w.heap.size w w4 := hb.trans (hb4.mono hb.size)
      have hz : wr.heap.size < w4.heap.size := b0.lt
      clear s1 s2 s3 s4 s5 s6 s7 hg4 hb4 h0 h1 h2 h3 hb
      generalize wr.heap.size = N at *
      have hO : Hid (∀ w : World, Calls Try.prog 41 #[.agg #[.int .u8 ((p q : Nat) : Int), .int .u8 ((p (q + 1) : Nat) : Int), .int .u8 ((p (q + 2) : Nat) : Int), .int .u8 ((p (q + 3) : Nat) : Int)]] w fun e w' => e = .returned (.int .u32 (le4f p q : Int)) ∧ Below w.heap.size w w') :=
        fun w => of32_va p q (fun i hi => hp _ (by omega)) w
      have d0 : w4.cell? ⟨N, 0, none⟩ = some (.int .u8 ((p q : Nat) : Int)) := b0.cv (by decide)
      have d1 : w4.cell? ⟨N, 1, none⟩ = some (.int .u8 ((p (q + 1) : Nat) : Int)) := b0.cv (by decide)
      have d2 : w4.cell? ⟨N, 2, none⟩ = some (.int .u8 ((p (q + 2) : Nat) : Int)) := b0.cv (by decide)
      have d3 : w4.cell? ⟨N, 3, none⟩ = some (.int .u8 ((p (q + 3) : Nat) : Int)) := b0.cv (by decide)
      have HL : Hid (le4f p q = le4f p (4 * k)) := by show _ = _; rw [HQ.out]
      generalize p q = a0 at *
      generalize p (q + 1) = a1 at *
      generalize p (q + 2) = a2 at *
      generalize p (q + 3) = a3 at *
      generalize le4f p q = lv at *
      have ck : w4.cell? ⟨w.heap.size, k, none⟩ = some (.int .u32 ((c k : Nat) : Int)) := k0.cv hlt
      have HC : Hid (c k = c k) := rfl
      have k8 : IntKind.i64.wrap ((k : Int) + 8) = ((k + 8 : Nat) : Int) := by rw [IntKind.wrap_i64]; omega
      clear b0 wk q0 q1 q2 hq1
      go_wp2_with fail
      go_region_with (go_at_call 41; refine (hO.out _).mono ?_; rintro e w5 ⟨rfl, hb5⟩; have ck5 : w5.cell? ⟨w.heap.size, k, none⟩ = some (.int .u32 ((c k : Nat) : Int)) := (k0.drew.below hb5 k0.lt).cv hlt; have f1 := (k3.drew.below hb5 k3.lt).frozen k; have f2 := (k3.drew.below hb5 k3.lt).frozen (k + 8); have c1 : w5.cell? ⟨w.heap.size + 3, k, none⟩ = some (iv .u32 (sideK c p k) k) := (k3.drew.below hb5 k3.lt).cv (by omega); have c2 : w5.cell? ⟨w.heap.size + 3, k + 8, none⟩ = some (iv .u32 (sideK c p k) (k + 8)) := (k3.drew.below hb5 k3.lt).cv (by omega))
      all_goals
        (have j0 := k0.drew.below hb5 k0.lt
         have j1 := k1.drew.below hb5 k1.lt
         have j2 := k2.drew.below hb5 k2.lt
         have j3 := k3.drew.below hb5 k3.lt
         have jb : Below w.heap.size w w5 := kb.drew.trans (hb5.mono kb.size)
         have e2 : va 16 (upd (upd (iv .u32 (sideK c p k)) k (.int .u32 ((c k : Nat) : Int))) (k + 8) (.int .u32 (lv : Int))) = va 16 (iv .u32 (sideK c p (k + 1))) := by
           rw [HL.out]
           exact sideK_step c p k hlt
         have j4 := (j3.put k (.int .u32 ((c k : Nat) : Int))).put (k + 8) (.int .u32 (lv : Int))
         rw [va_set, va_set, e2] at j4
         have J : Hid (Blk ((w5.setCell ⟨w.heap.size + 3, k, none⟩ (.int .u32 ((c k : Nat) : Int))).setCell ⟨w.heap.size + 3, k + 8, none⟩ (.int .u32 (lv : Int))) w.heap.size 102 (va 8 (iv .u32 c)) ∧
             Blk ((w5.setCell ⟨w.heap.size + 3, k, none⟩ (.int .u32 ((c k : Nat) : Int))).setCell ⟨w.heap.size + 3, k + 8, none⟩ (.int .u32 (lv : Int))) (w.heap.size + 1) 104 (va 32 (iv .u8 p)) ∧
             Blk ((w5.setCell ⟨w.heap.size + 3, k, none⟩ (.int .u32 ((c k : Nat) : Int))).setCell ⟨w.heap.size + 3, k + 8, none⟩ (.int .u32 (lv : Int))) (w.heap.size + 2) 102 (va 8 (iv .u32 fun _ => 0)) ∧
             Blk ((w5.setCell ⟨w.heap.size + 3, k, none⟩ (.int .u32 ((c k : Nat) : Int))).setCell ⟨w.heap.size + 3, k + 8, none⟩ (.int .u32 (lv : Int))) (w.heap.size + 3) 112 (va 16 (iv .u32 (sideK c p (k + 1)))) ∧
             Below w.heap.size w ((w5.setCell ⟨w.heap.size + 3, k, none⟩ (.int .u32 ((c k : Nat) : Int))).setCell ⟨w.heap.size + 3, k + 8, none⟩ (.int .u32 (lv : Int)))) :=
           ⟨(j0.put_other _ _ (by omega)).put_other _ _ (by omega), (j1.put_other _ _ (by omega)).put_other _ _ (by omega), (j2.put_other _ _ (by omega)).put_other _ _ (by omega), j4, (jb.setCell (by simp) _).setCell (by simp) _⟩
         clear j0 j1 j2 j3 j4 jb e2 c1 c2 f1 f2 ck ck5 hb5 d0 d1 d2 d3 k0 k1 k2 k3 kb hO
         go_wp2_with fail
         go_roundw
         case rel => exact ⟨k + 1, by omega, by go_num, J.out.1, J.out.2.1, J.out.2.2.1, J.out.2.2.2.1, J.out.2.2.2.2⟩
         case measure => simp [intOf]; omega)
    · obtain rfl : k = 8 := by omega
      have hok : (St.of (sideN c p)).ok := St.of_ok _ (side_lt hc hp)
      have hR : Hid (∀ w : World, Calls Try.prog 52 #[.agg (stA (St.of (sideN c p))), .int .i64 6] w fun e w' => e = .returned (.tuple #[.agg (stA (mixedN c p)), .int .i64 0]) ∧ Below w.heap.size w w') := fun w => rounds_pos _ hok 6 (by decide) w
      rw [sideK_all, ← stA_of] at h3
      generalize St.of (sideN c p) = st at *
      have h3l := h3.lt
      clear h1
      go_wp2_with (first
        | (refine wpList_load_row (by rfl) 112 _ (by rfl) (w.heap.size + 3) (by rfl) 112 (stA st) (0, 0) _ h3 Try.underlying112 (by rfl) sizeState ?_; simp only [Act.put, List.setIfInBounds_toArray, List.set_cons_zero, List.set_cons_succ])
        | fail)
      refine (hR.out _).mono ?_
      rintro e w5 ⟨rfl, hb5⟩
      have k0 := h0.below hb5 h0.lt
      have k2 := h2.below hb5 h2.lt
      have kb : Below w.heap.size w w5 := hb.trans (hb5.mono hb.size)
      have h5l : w.heap.size + 3 < w5.heap.size := Nat.lt_of_lt_of_le h3l hb5.size
      clear h0 h2 h3 hb hb5 hR hok
      go_wp2_with (first
        | (refine wpList_store_row (by rfl) 112 _ _ (by rfl) w5.heap.size (stA (mixedN c p)) (by rfl) (by rfl) 112 (stA St.zero) (Blk.new w5 112 (stA St.zero)) sizeState rfl (stAll (mixedN c p)) ?_; simp only [Act.put, List.setIfInBounds_toArray, List.set_cons_zero, List.set_cons_succ])
        | fail)
      have t0 := (Blk.new w5 112 (stA St.zero)).set (stA (mixedN c p))
      have k0' := (k0.alloc (.cells (stA St.zero) 112)).other (stA (mixedN c p)) (g := w5.heap.size) (k := w.heap.size) (by omega)
      have k2' := (k2.alloc (.cells (stA St.zero) 112)).other (stA (mixedN c p)) (g := w5.heap.size) (k := w.heap.size + 2) (by omega)
      have kb' : Below w.heap.size w ((w5.alloc (.cells (stA St.zero) 112)).setRow w5.heap.size (stA (mixedN c p))) := below_setRow (kb.alloc (by omega) _) (by omega) _
      have HV : Hid (∀ k, k < 8 → bits .xor .u32 ((c k : Nat) : Int) (bits .xor .u32 (((mixedN c p).at k : Nat) : Int) (((mixedN c p).at (k + 8) : Nat) : Int)) = ((pressN c p k : Nat) : Int)) := press_val c p hc hp
      change Blk ((w5.alloc (.cells #[.int .u32 0, .int .u32 0, .int .u32 0, .int .u32 0, .int .u32 0, .int .u32 0, .int .u32 0, .int .u32 0, .int .u32 0, .int .u32 0, .int .u32 0, .int .u32 0, .int .u32 0, .int .u32 0, .int .u32 0, .int .u32 0] 112)).setRow w5.heap.size (stA (mixedN c p))) _ _ _ at t0 k0' k2'
      change Below w.heap.size w ((w5.alloc (.cells #[.int .u32 0, .int .u32 0, .int .u32 0, .int .u32 0, .int .u32 0, .int .u32 0, .int .u32 0, .int .u32 0, .int .u32 0, .int .u32 0, .int .u32 0, .int .u32 0, .int .u32 0, .int .u32 0, .int .u32 0, .int .u32 0] 112)).setRow w5.heap.size (stA (mixedN c p))) at kb'
      generalize (w5.alloc (.cells #[.int .u32 0, .int .u32 0, .int .u32 0, .int .u32 0, .int .u32 0, .int .u32 0, .int .u32 0, .int .u32 0, .int .u32 0, .int .u32 0, .int .u32 0, .int .u32 0, .int .u32 0, .int .u32 0, .int .u32 0, .int .u32 0] 112)).setRow w5.heap.size (stA (mixedN c p)) = w6 at *
      have h6l : w.heap.size + 3 < w5.heap.size := h5l
      clear k0 k2 kb h5l
      generalize w5.heap.size = N at *
      generalize mixedN c p = y at *
      generalize HG : pressN c p = g at *
      have HG' : Hid (pressN c p = g) := HG
      clear HG
      go_wp2_with fail
      go_loopw [35] (fun i wr => ∃ k : Nat, k ≤ 8 ∧ i = .int .i64 k ∧ Blk wr w.heap.size 102 (va 8 (iv .u32 (fupN k g c))) ∧ Blk wr (w.heap.size + 2) 102 (va 8 (iv .u32 fun _ => 0)) ∧ Blk wr N 112 (stA y) ∧ Below w.heap.size w wr) (fun i _ => 8 - (intOf i).toNat)
      case atStart =>
        refine ⟨0, by omega, rfl, ?_, k2', t0, kb'⟩
        rw [fup_zero]
        exact k0'
      case round =>
        clear k0' k2' t0 kb'
        obtain ⟨k, hk, rfl, h0, h2, hT, hb⟩ := hrel
        by_cases hlt : k < 8
        · have i0 : (0 : Int) ≤ (k : Int) := by omega
          have i1 : (k : Int) < 8 := by omega
          have i2 : decide ((k : Int) < 8) = true := decide_eq_true i1
          have i3 : (k : Int) < 16 := by omega
          have k8 : IntKind.i64.wrap ((k : Int) + 8) = ((k + 8 : Nat) : Int) := by rw [IntKind.wrap_i64]; omega
          have hv := HV.out k hlt
          have c0 : wr.cell? ⟨w.heap.size, k, none⟩ = some (.int .u32 ((c k : Nat) : Int)) := by
            rw [h0.cv hlt]
            show some (Value.int .u32 ((fupN k g c k : Nat) : Int)) = _
            rw [show fupN k g c k = c k from if_neg (by omega)]
          have c1 : wr.cell? ⟨N, k, none⟩ = some (.int .u32 ((y.at k : Nat) : Int)) := by rw [hT.cell, stA_at y k (by omega)]
          have c2 : wr.cell? ⟨N, k + 8, none⟩ = some (.int .u32 ((y.at (k + 8) : Nat) : Int)) := by rw [hT.cell, stA_at y (k + 8) (by omega)]
          have f0 := h0.frozen k
          have HV' : Hid (bits .xor .u32 ((c k : Nat) : Int) (bits .xor .u32 ((y.at k : Nat) : Int) ((y.at (k + 8) : Nat) : Int)) = ((g k : Nat) : Int)) := hv
          clear hv
          have j0 := h0.put k (.int .u32 ((g k : Nat) : Int))
          rw [va_set, fup_step] at j0
          generalize c k = ck at *
          generalize y.at k = yk at *
          generalize y.at (k + 8) = yk8 at *
          go_wp2_with fail
          go_region
          go_wp2_with fail
          go_roundw
          case rel =>
            refine ⟨k + 1, by omega, by go_num, ?_, (h2.put_other _ _ (by omega)).drew, (hT.put_other _ _ (by omega)).drew, (hb.setCell (by simp) _).drew⟩
            have := j0.drew
            rw [← HV'.out] at this
            exact this
          case measure => simp [intOf]; omega
        · obtain rfl : k = 8 := by omega
          rw [fup_all _ 8 8 _ _ (Nat.le_refl _)] at h0
          clear hT HV
          go_wp2_with (first
            | (refine wpList_load_row (by rfl) 102 _ (by rfl) w.heap.size (by rfl) 102 (va 8 (iv .u32 g)) (0, 0) _ h0 Try.underlying102 (by rfl) (sizeChain.trans (by rw [va_size])) ?_; simp only [Act.put, List.setIfInBounds_toArray, List.set_cons_zero, List.set_cons_succ])
            | (refine wpList_store_row (by rfl) 102 _ _ (by rfl) (w.heap.size + 2) (va 8 (iv .u32 g)) (by rfl) (by rfl) 102 _ h2 (sizeChain.trans (by rw [va_size])) (by rw [va_size, va_size]) (iv_one _ _ _) ?_; simp only [Act.put, List.setIfInBounds_toArray, List.set_cons_zero, List.set_cons_succ])
            | fail)
          try simp only [Exit.inBlock, Exit.then]
          refine bodyPost_ret (results_cell_row Try.results49 _ _ (w.heap.size + 2) 102 (va 8 (iv .u32 g)) (0, 0) _ rfl (h2.set _) Try.underlying102 rfl (sizeChain.trans (by rw [va_size]))) rfl ?_
          rw [HG'.out]
          exact ⟨rfl, below_setRow hb (by omega) _⟩
end Go.Proofs.Ytaoglljkghkbpaa
