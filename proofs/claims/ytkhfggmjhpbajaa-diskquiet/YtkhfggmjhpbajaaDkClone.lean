/- A block filled with one byte; copies of a disk's blocks and of its log: the contracts. -/
import Derived.Test.YtkhfggmjhpbajaaDkMap
import Derived.Handy
namespace Go.Proofs.Ytkhfggmjhpbajaa
open Go Go.RowKit
set_option linter.unusedSimpArgs false
set_option linter.unusedVariables false

set_option maxRecDepth 100000 in
set_option maxHeartbeats 4000000 in
theorem filled_any (x : Nat) (w : World) : Calls Try.prog 28 #[.int .u8 (x : Int)] w fun e w' => e = .returned (.agg (va 256 (iv .u8 fun _ => x))) ∧ Below w.heap.size w w' := by
  have hz := zero_bk
  have r0 : Blk ((w.alloc (.cells (va 256 (iv .u8 fun _ => 0)) 55)).alloc (.cells (va 256 (iv .u8 fun _ => 0)) 55)) w.heap.size 55 (va 256 (iv .u8 fun _ => 0)) := (Blk.new _ _ _).alloc _
  have r1 : Blk ((w.alloc (.cells (va 256 (iv .u8 fun _ => 0)) 55)).alloc (.cells (va 256 (iv .u8 fun _ => 0)) 55)) (w.heap.size + 1) 55 (va 256 (iv .u8 fun _ => 0)) := Blk.new1 _ _ _ _
  have hb0 : Below w.heap.size w ((w.alloc (.cells (va 256 (iv .u8 fun _ => 0)) 55)).alloc (.cells (va 256 (iv .u8 fun _ => 0)) 55)) := below_new2 _ _ _
  go_enter Try.func28, Try.ntmps28
  go_wp2_with (first
    | (refine wpList_store_row (by rfl) 55 _ _ (by rfl) (w.heap.size + 1) (va 256 (iv .u8 (fun _ => 0))) (by rfl) (by rfl) 55 _ r1 (sizeBk.trans (by rw [va_size])) (by simp only [va_size]) (iv_one _ _ _) ?_; simp only [Act.put, List.setIfInBounds_toArray, List.set_cons_zero, List.set_cons_succ])
    | fail)
  go_loopw [4] (fun t wr => ∃ k : Nat, k ≤ 256 ∧ t = .int .i64 (k : Int) ∧ Blk wr w.heap.size 55 (va 256 (iv .u8 fun _ => 0)) ∧ Blk wr (w.heap.size + 1) 55 (va 256 (iv .u8 (fupN k (fun _ => x) fun _ => 0))) ∧ Below w.heap.size w wr) (fun t _ => 256 - (intOf t).toNat)
  case atStart =>
    refine ⟨0, by decide, rfl, r0.other _ (by omega), ?_, below_setRow hb0 (by omega) _⟩
    rw [fup_zero]
    exact r1.set _
  case round =>
    obtain ⟨k, hk, rfl, q0, q1, hb⟩ := hrel
    clear r0 r1 hb0
    by_cases hlt : k < 256
    · have c0 := q1.cv (i := k) hlt
      have f0 := q1.frozen k
      have k0 : (0 : Int) ≤ (k : Int) := by omega
      have k1 : (k : Int) < 256 := by omega
      have q2 : Blk (wr.setCell ⟨w.heap.size + 1, k, none⟩ (.int .u8 (x : Int))) (w.heap.size + 1) 55 (va 256 (iv .u8 (fupN (k + 1) (fun _ => x) fun _ => 0))) := by
        have := q1.put k (.int .u8 (x : Int))
        rw [va_set] at this
        have e := fup_step .u8 256 k (fun _ => x) (fun _ => 0)
        rw [e] at this
        exact this
      have q3 : Blk (wr.setCell ⟨w.heap.size + 1, k, none⟩ (.int .u8 (x : Int))) w.heap.size 55 (va 256 (iv .u8 fun _ => 0)) := q0.put_other _ _ (by omega)
      have hb2 : Below w.heap.size w (wr.setCell ⟨w.heap.size + 1, k, none⟩ (.int .u8 (x : Int))) := hb.setCell (p := ⟨w.heap.size + 1, k, none⟩) (Nat.le_succ _) _
      go_wp2_with fail
      refine ⟨⟨k + 1, by omega, by simp, q3, q2, hb2⟩, ?_⟩
      simp [intOf]
      omega
    · obtain rfl : k = 256 := by omega
      rw [fup_all _ _ _ _ _ (Nat.le_refl _)] at q1
      go_wp2_with (first
        | (refine wpList_load_row (by rfl) 55 _ (by rfl) (w.heap.size + 1) (by rfl) 55 (va 256 (iv .u8 (fun _ => x))) (0, 0) _ q1 Try.underlying55 (by rfl) (sizeBk.trans (by rw [va_size])) ?_; simp only [Act.put, List.setIfInBounds_toArray, List.set_cons_zero, List.set_cons_succ])
        | (refine wpList_store_row (by rfl) 55 _ _ (by rfl) (w.heap.size) (va 256 (iv .u8 (fun _ => x))) (by rfl) (by rfl) 55 _ q0 (sizeBk.trans (by rw [va_size])) (by simp only [va_size]) (iv_one _ _ _) ?_; simp only [Act.put, List.setIfInBounds_toArray, List.set_cons_zero, List.set_cons_succ])
        | fail)
      try simp only [Exit.inBlock, Exit.then]
      refine bodyPost_ret (results_cell_row Try.results28 _ _ w.heap.size 55 (va 256 (iv .u8 fun _ => x)) (0, 0) _ rfl (q0.set _) Try.underlying55 rfl (sizeBk.trans (by rw [va_size]))) rfl ?_
      exact ⟨rfl, below_setRow hb (Nat.le_refl _) _⟩
theorem nil_bks_in (d : Nat) (p : Option Addr) (n cap : Nat) (w : World) : (Op.equalIn (d + 1) 49 (.slice p n cap) (.slice none 0 0)).run Try.prog w = .ok p.isNone w := by
  cases p <;> simp [Op.equalIn, run_underlying Try.underlying49]
theorem nil_bks (p : Option Addr) (n cap : Nat) (w : World) : Sem.run Try.prog (binOp .eql 49 (.slice p n cap) (.slice none 0 0)) w = .ok (.bool p.isNone) w := by
  simp only [binOp]
  simp [show Op.equal 49 (.slice p n cap) (.slice none 0 0) = Op.equalIn (9999 + 1) 49 (.slice p n cap) (.slice none 0 0) from rfl, nil_bks_in 9999 p n cap w]
theorem nil_raws_in (d : Nat) (p : Option Addr) (n cap : Nat) (w : World) : (Op.equalIn (d + 1) 46 (.slice p n cap) (.slice none 0 0)).run Try.prog w = .ok p.isNone w := by
  cases p <;> simp [Op.equalIn, run_underlying Try.underlying46]
theorem nil_raws (p : Option Addr) (n cap : Nat) (w : World) : Sem.run Try.prog (binOp .eql 46 (.slice p n cap) (.slice none 0 0)) w = .ok (.bool p.isNone) w := by
  simp only [binOp]
  simp [show Op.equal 46 (.slice p n cap) (.slice none 0 0) = Op.equalIn (9999 + 1) 46 (.slice p n cap) (.slice none 0 0) from rfl, nil_raws_in 9999 p n cap w]
set_option maxRecDepth 100000 in
set_option maxHeartbeats 4000000 in
theorem cloneBks_any (B n b cap : Nat) (hn : n < 137438953473) (xs : List Value) (hone : ∀ u ∈ xs, u.oneCell' = true) (w : World) (h : w.ownsRow B 55 256 (.slice (some ⟨b, 0, none⟩) n cap) n xs) :
    Calls Try.prog 40 #[.slice (some ⟨b, 0, none⟩) n cap] w fun e w' => ∃ a c, e = .returned (.slice a n c) ∧ w'.ownsRow w.heap.size 55 256 (.slice a n c) n xs ∧ Below w.heap.size w w' := by
  obtain ⟨i0, hi, hz0, hz1, hz2⟩ := info_parts infoBk
  have hq := nil_bks (some ⟨b, 0, none⟩) n cap
  have HC : Hid (∀ j u, xs[j]? = some u → (w.alloc (.cells #[] 55)).cell? ((⟨b, 0, none⟩ : Addr).add j) = some u) := (h.alloc _).cells rfl
  have HO : Hid ((w.alloc (.cells #[] 55)).ownsRow w.heap.size 55 256 (.slice (some ⟨w.heap.size, 0, none⟩) 0 0) 0 []) := World.ownsRow_lit w #[] 0 (Nat.le_refl _) (by decide) rfl
  have hl := h.1
  go_enter Try.func40, Try.ntmps40
  go_wp2_with (first
    | (at_builtin; refine wpList_append_own_at rfl _ _ 49 rfl w.heap.size 55 i0 (.agg (va 256 (iv .u8 fun _ => 0))) 256 256 Try.underlying49 hi hz0 hz1 hz2 (va_size _ _) (by decide) _ _ _ rfl HO.out ⟨b, 0, none⟩ n cap xs rfl hl HC.out hone (by unfold maxLen; omega) (by omega) (by simp) ?_)
    | go_in)
  intro v2 w2 hown2 hgrow2 _
  have hb2 : Below w.heap.size w w2 := ((Below.refl _ _).alloc (Nat.le_refl _) _).grown hgrow2 (by simp) (fun k hk => by simp [Value.ownBlock] at hk; omega)
  obtain ⟨va0, vc0, hve⟩ := kown_slice hown2
  subst hve
  go_wp2_with fail
  go_ret
  exact ⟨_, _, rfl, hown2, hb2⟩
set_option maxRecDepth 100000 in
set_option maxHeartbeats 4000000 in
theorem cloneRaws_any (B n b cap : Nat) (hn : n < 137438953473) (xs : List Value) (hone : ∀ u ∈ xs, u.oneCell' = true) (w : World) (h : w.ownsRow B 69 258 (.slice (some ⟨b, 0, none⟩) n cap) n xs) :
    Calls Try.prog 39 #[.slice (some ⟨b, 0, none⟩) n cap] w fun e w' => ∃ a c, e = .returned (.slice a n c) ∧ w'.ownsRow w.heap.size 69 258 (.slice a n c) n xs ∧ Below w.heap.size w w' := by
  obtain ⟨i0, hi, hz0, hz1, hz2⟩ := info_parts infoRaw
  have hq := nil_raws (some ⟨b, 0, none⟩) n cap
  have HC : Hid (∀ j u, xs[j]? = some u → (w.alloc (.cells #[] 69)).cell? ((⟨b, 0, none⟩ : Addr).add j) = some u) := (h.alloc _).cells rfl
  have HO : Hid ((w.alloc (.cells #[] 69)).ownsRow w.heap.size 69 258 (.slice (some ⟨w.heap.size, 0, none⟩) 0 0) 0 []) := World.ownsRow_lit w #[] 0 (Nat.le_refl _) (by decide) rfl
  have hl := h.1
  go_enter Try.func39, Try.ntmps39
  go_wp2_with (first
    | (at_builtin; refine wpList_append_own_at rfl _ _ 46 rfl w.heap.size 69 i0 (.agg (va 258 (rawF 0 0 fun _ => 0))) 258 272 Try.underlying46 hi hz0 hz1 hz2 (va_size _ _) (by decide) _ _ _ rfl HO.out ⟨b, 0, none⟩ n cap xs rfl hl HC.out hone (by unfold maxLen; omega) (by omega) (by simp) ?_)
    | go_in)
  intro v2 w2 hown2 hgrow2 _
  have hb2 : Below w.heap.size w w2 := ((Below.refl _ _).alloc (Nat.le_refl _) _).grown hgrow2 (by simp) (fun k hk => by simp [Value.ownBlock] at hk; omega)
  obtain ⟨va0, vc0, hve⟩ := kown_slice hown2
  subst hve
  go_wp2_with fail
  go_ret
  exact ⟨_, _, rfl, hown2, hb2⟩
section
variable {B g N k lg : Nat} {F : Nat → Nat} {q : QD}
set_option maxRecDepth 100000 in
set_option maxHeartbeats 2000000 in
theorem image_q (hN : N ≤ 8192) (w : World) (h : DiskQ w B g N F k lg q) : Calls Try.prog 18 #[.pointer (some ⟨g, 0, none⟩)] w fun e w' => ∃ a c xs, e = .returned (.slice a N c) ∧ w'.ownsRow w.heap.size 55 256 (.slice a N c) N xs ∧ Below w.heap.size w w' := by
  have c0 : w.cell? ⟨g, 0, none⟩ = some (.slice (some ⟨q.gn, 0, none⟩) N N) := by rw [h.c]; rfl
  have HC : Hid (Calls Try.prog 40 #[.slice (some ⟨q.gn, 0, none⟩) N N] w fun e w' => ∃ a c, e = .returned (.slice a N c) ∧ w'.ownsRow w.heap.size 55 256 (.slice a N c) N ((List.range (N * 256)).map (iv .u8 F)) ∧ Below w.heap.size w w') := cloneBks_any B N q.gn N (by omega) _ (fun u hu => by
    obtain ⟨i, _, rfl⟩ := List.mem_map.1 hu
    rfl) w (own_made h.now hN B h.nB)
  clear h
  go_enter Try.func18, Try.ntmps18
  go_wp2_with fail
  refine HC.out.mono ?_
  rintro e w1 ⟨a, c, rfl, h1, h2⟩
  go_wp2_with fail
  go_ret
  exact ⟨_, _, _, rfl, h1, h2⟩
set_option maxRecDepth 100000 in
set_option maxHeartbeats 2000000 in
theorem log_q (hlg : lg < 137438953472) (h0 : 0 < lg) (ho : ∀ u ∈ q.xs, u.oneCell' = true) (w : World) (h : DiskQ w B g N F k lg q) : Calls Try.prog 16 #[.pointer (some ⟨g, 0, none⟩)] w fun e w' => ∃ a c xs, e = .returned (.slice a lg c) ∧ w'.ownsRow w.heap.size 69 258 (.slice a lg c) lg xs ∧ Below w.heap.size w w' := by
  obtain ⟨gl, cl, hlv, _, _⟩ := kown_form h.log h0
  have c8 : w.cell? ⟨g, 8, none⟩ = some (.slice (some ⟨gl, 0, none⟩) lg cl) := by rw [h.c, ← hlv]; rfl
  have hrow := h.log
  rw [hlv] at hrow
  have HC : Hid (Calls Try.prog 39 #[.slice (some ⟨gl, 0, none⟩) lg cl] w fun e w' => ∃ a c, e = .returned (.slice a lg c) ∧ w'.ownsRow w.heap.size 69 258 (.slice a lg c) lg q.xs ∧ Below w.heap.size w w') := cloneRaws_any B lg gl cl (by omega) _ ho w hrow
  clear h hrow hlv
  go_enter Try.func16, Try.ntmps16
  go_wp2_with fail
  refine HC.out.mono ?_
  rintro e w1 ⟨a, c, rfl, h1, h2⟩
  go_wp2_with fail
  go_ret
  exact ⟨_, _, _, rfl, h1, h2⟩
end
end Go.Proofs.Ytkhfggmjhpbajaa
