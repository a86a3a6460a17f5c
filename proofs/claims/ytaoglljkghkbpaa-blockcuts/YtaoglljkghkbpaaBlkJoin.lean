/- The first bytes of blocks, one behind the other: the program's contract of Join. -/
import Derived.Test.YtaoglljkghkbpaaBlkCut
import Derived.Laws.MakeOwn
import Derived.Handy
namespace Go.Proofs.Ytaoglljkghkbpaa
open Go.RowKit
set_option linter.unusedSimpArgs false
set_option linter.unusedVariables false

/-- blocks one behind the other -/
def flatL (L : Nat → Nat → Nat) : Nat → Nat := fun j => L (j / 256) (j % 256)
theorem flat_step (L : Nat → Nat → Nat) (k q d : Nat) (h : q = 256 * k ∨ d = 0) (hd : d ≤ 256) : byL (flatL L) (q + d) = byL (flatL L) q ++ byL (L k) d := by
  rw [byL_add]
  congr 1
  rcases h with h | h
  · refine byL_congr fun j hj => ?_
    unfold flatL
    rw [h, show (256 * k + j) / 256 = k by omega, show (256 * k + j) % 256 = j by omega]
  · subst h
    rfl

set_option maxRecDepth 100000 in
set_option maxHeartbeats 8000000 in
theorem join_bad (a0 : Option Addr) (n cap : Nat) (hn : n * 256 ≤ 140737488351232) (m : Int) (hm : -9223372036854775808 ≤ m ∧ m ≤ 9223372036854775807) (h : m < 0 ∨ ((n * 256 : Nat) : Int) < m) (w : World) :
    Calls Try.prog 27 #[.slice a0 n cap, .int .i64 m] w fun e w' => e = .returned (.tuple #[.string (strN (fun _ => 0) 0), .int .i64 1]) ∧ w' = w := by
  by_cases h1 : m < 0
  · go_enter Try.func27, Try.ntmps27
    go_wp2_with fail
    try simp only [Exit.inBlock, Exit.then]
    refine bodyPost_ret (results_tmp2 Try.results27 _ _ _) rfl ?_
    exact ⟨rfl, rfl⟩
  · obtain ⟨N, hN⟩ : ∃ N : Nat, N = n * 256 := ⟨_, rfl⟩
    have e1 : (n : Int) * 256 = (N : Int) := by omega
    have h2 : (N : Int) < m := by omega
    have h3 : N ≤ 140737488351232 := by omega
    clear hN h
    go_enter Try.func27, Try.ntmps27
    go_wp2_with fail
    try simp only [Exit.inBlock, Exit.then]
    refine bodyPost_ret (results_tmp2 Try.results27 _ _ _) rfl ?_
    exact ⟨rfl, rfl⟩

set_option maxRecDepth 100000 in
set_option maxHeartbeats 8000000 in
theorem join_ok (a0 : Option Addr) (n cap : Nat) (hn : n * 256 ≤ 140737488351232) (L : Nat → Nat → Nat) (m : Nat) (hm : m ≤ n * 256) (w : World) (h : IsBlks w a0 n L) :
    Calls Try.prog 27 #[.slice a0 n cap, .int .i64 (m : Int)] w fun e w' => e = .returned (.tuple #[.string (strN (flatL L) m), .int .i64 0]) ∧ Below w.heap.size w w' := by
  obtain ⟨i0, hi, hz0, hz1, hz2⟩ := info_parts infoU8k
  have hI : Hid (IsBlks w a0 n L) := h
  clear h
  have hz := zero_bk
  obtain ⟨N, hN⟩ : ∃ N : Nat, N = n * 256 := ⟨_, rfl⟩
  have e1 : (n : Int) * 256 = (N : Int) := by omega
  have h2 : ¬ (N : Int) < (m : Int) := by omega
  have h3 : N ≤ 140737488351232 := by omega
  have h4 : ¬ (m : Int) < 0 := by omega
  have HN : Hid (N = n * 256) := hN
  have HM : Hid (m ≤ n * 256) := hm
  have hm2 : m ≤ 140737488351232 := by omega
  clear hN hm
  obtain ⟨W, hmk, hown0, hgrow0⟩ := run_make_own (P := Try.prog) w w.heap.size 78 5 i0 _ 1 Try.underlying78 hi hz0 hz1 .i64 .i64 m (by rw [hz2]; omega) (by unfold maxLen; omega) (Nat.le_refl _)
  have hb0 : Below w.heap.size w W := (Below.refl _ _).grown hgrow0 (Nat.le_refl _) (fun k hk => nomatch hk)
  go_enter Try.func27, Try.ntmps27
  go_wp2_with fail
  clear hmk hgrow0
  go_loopw [6, 23] (fun v i wr => ∃ k q g c : Nat, k ≤ n ∧ i = .int .i64 k ∧ q = min m (256 * k) ∧ v = .slice (some ⟨g, 0, none⟩) q c ∧ wr.ownsRow w.heap.size 5 1 v q (byL (flatL L) q) ∧ Below w.heap.size w wr) (fun _ i _ => n - (intOf i).toNat)
  case atStart => exact ⟨0, 0, _, _, Nat.zero_le _, rfl, by simp, rfl, hown0, hb0⟩
  case round =>
    clear hown0 hb0
    obtain ⟨k, q, g, c, hk, rfl, hq, rfl, hown, hb⟩ := hrel
    have hv := hown.lt
    have hsz := hb.size
    by_cases hlt : k < n
    · obtain ⟨b, o, rfl, hbl, hr⟩ := hI.out k hlt
      have HR : Hid (wr.rangeAt b (o + k * 256) ((List.range 256).map (iv .u8 (L k)))) := range_below hr hb hbl
      have k0 : (0 : Int) ≤ (k : Int) := by omega
      have k1 : (k : Int) < (n : Int) := by omega
      obtain ⟨l, hl⟩ : ∃ l : Nat, l = m - q := ⟨_, rfl⟩
      by_cases hl3 : l ≤ 256
      · skip
        have HF : Hid (byL (flatL L) (q + l) = byL (flatL L) q ++ byL (L k) l) := flat_step L k q l (by omega) (by omega)
        have HQ : Hid (q + l = min m (256 * (k + 1))) := by
          show _ = _
          omega
        have f1 : (m : Int) - (q : Int) = (l : Int) := by omega
        have f3 : (l : Int) ≤ 256 := by omega
        have hqd : q + l ≤ 140737488351232 := by omega
        have hl2 : l ≤ 140737488351232 := by omega
        have hq2 : q ≤ 140737488351232 := by omega
        have c1 := Blk.new wr 23 (va 256 (iv .u8 fun _ => 0))
        have c2 := c1.set (va 256 (iv .u8 (L k)))
        have HB2 : Hid (Below w.heap.size w ((wr.alloc (Obj.cells (va 256 (iv IntKind.u8 fun _ => 0)) 23)).setRow wr.heap.size (va 256 (iv .u8 (L k))))) := below_setRow (hb.alloc hsz (Obj.cells (va 256 (iv IntKind.u8 fun _ => 0)) 23)) hsz (va 256 (iv .u8 (L k)))
        have HOWN : Hid (((wr.alloc (Obj.cells (va 256 (iv IntKind.u8 fun _ => 0)) 23)).setRow wr.heap.size (va 256 (iv .u8 (L k)))).ownsRow w.heap.size 5 1 (.slice (some ⟨g, 0, none⟩) q c) q (byL (flatL L) q)) := kown_setRow (hown.alloc (Obj.cells (va 256 (iv IntKind.u8 fun _ => 0)) 23)) (g := wr.heap.size) (fun q _ hq => Nat.ne_of_lt ((hv q hq).2)) (va 256 (iv .u8 (L k)))
        have HNEW : Hid (∀ j u, (byL (L k) l)[j]? = some u → ((wr.alloc (Obj.cells (va 256 (iv IntKind.u8 fun _ => 0)) 23)).setRow wr.heap.size (va 256 (iv .u8 (L k)))).cell? ((⟨wr.heap.size, 0, none⟩ : Addr).add j) = some u) := fun j u hu => by
          have hj : j < l := by
            have := (List.getElem?_eq_some_iff.1 hu).1
            rwa [byL_length] at this
          rw [byL_at _ _ _ hj] at hu
          rw [Addr.add_mid, Nat.zero_add, c2.cv (i := j) (by omega)]
          exact hu
        have HMEM : Hid (∀ u ∈ byL (L k) l, u.oneCell' = true) := mem_iv_one _ _ _
        have HLEN : Hid ((byL (L k) l).length = l * 1) := (byL_length _ _).trans (Nat.mul_one _).symm
        have HSZ : Hid (w.heap.size ≤ ((wr.alloc (Obj.cells (va 256 (iv IntKind.u8 fun _ => 0)) 23)).setRow wr.heap.size (va 256 (iv .u8 (L k)))).heap.size) := HB2.out.size
        have HV : Hid (∀ x, (Value.slice (some ⟨g, 0, none⟩) q c).ownBlock = some x → w.heap.size ≤ x ∧ x < wr.heap.size) := hv
        clear hr hbl hown hb hq hl c2 hv
        go_wp2_with (first
          | (refine wpList_load_blk (by rfl) 23 _ (by rfl) b (o + k * 256) 256 (iv .u8 (L k)) (by rfl) _ HR.out Try.underlying23 rfl sizeBk ?_; simp only [Act.put, List.setIfInBounds_toArray, List.set_cons_zero, List.set_cons_succ])
          | (refine wpList_store_row (by rfl) 23 _ _ (by rfl) (wr.heap.size) (va 256 (iv .u8 (L k))) (by rfl) (by rfl) 23 _ c1 (sizeBk.trans (by rw [va_size])) (by simp only [va_size]) (iv_one _ _ _) ?_; simp only [Act.put, List.setIfInBounds_toArray, List.set_cons_zero, List.set_cons_succ])
          | (at_builtin; refine wpList_append_own _ rfl _ _ 78 rfl w.heap.size 5 i0 (.int .u8 0) 1 1 Try.underlying78 hi hz0 hz1 hz2 rfl (by decide) _ _ _ rfl HOWN.out ⟨wr.heap.size, 0, none⟩ l 256 (byL (L k) l) rfl HLEN.out HNEW.out HMEM.out (by unfold maxLen; omega) (by omega) HSZ.out ?_)
          | go_in)
        intro v' w2 hown' hgrow hnil
        have hb2 : Below w.heap.size w w2 := HB2.out.grown hgrow HSZ.out (fun k hk => (HV.out k hk).1)
        rw [← HF.out] at hown'
        obtain ⟨g3, cap3, rfl⟩ : ∃ g3 cap3, v' = .slice (some ⟨g3, 0, none⟩) (q + l) cap3 := by
          rcases hown'.2 with ⟨h1, h2⟩ | ⟨g3, cap3, cur, h1, _⟩
          · exact absurd h1 (by simpa using hnil)
          · exact ⟨g3, cap3, h1⟩
        clear HOWN HNEW HMEM HLEN HV hgrow HB2 c1 hnil
        go_wp2_with fail
        go_roundw
        case rel => exact ⟨k + 1, q + l, g3, cap3, by omega, by simp, HQ.out, rfl, hown', hb2⟩
        case measure => simp [intOf]; omega
      · skip
        have HF : Hid (byL (flatL L) (q + 256) = byL (flatL L) q ++ byL (L k) 256) := flat_step L k q 256 (by omega) (by omega)
        have HQ : Hid (q + 256 = min m (256 * (k + 1))) := by
          show _ = _
          omega
        have f1 : (m : Int) - (q : Int) = (l : Int) := by omega
        have f3 : ¬ (l : Int) ≤ 256 := by omega
        have hqd : q + 256 ≤ 140737488351232 := by omega
        have hl2 : l ≤ 140737488351232 := by omega
        have hq2 : q ≤ 140737488351232 := by omega
        have c1 := Blk.new wr 23 (va 256 (iv .u8 fun _ => 0))
        have c2 := c1.set (va 256 (iv .u8 (L k)))
        have HB2 : Hid (Below w.heap.size w ((wr.alloc (Obj.cells (va 256 (iv IntKind.u8 fun _ => 0)) 23)).setRow wr.heap.size (va 256 (iv .u8 (L k))))) := below_setRow (hb.alloc hsz (Obj.cells (va 256 (iv IntKind.u8 fun _ => 0)) 23)) hsz (va 256 (iv .u8 (L k)))
        have HOWN : Hid (((wr.alloc (Obj.cells (va 256 (iv IntKind.u8 fun _ => 0)) 23)).setRow wr.heap.size (va 256 (iv .u8 (L k)))).ownsRow w.heap.size 5 1 (.slice (some ⟨g, 0, none⟩) q c) q (byL (flatL L) q)) := kown_setRow (hown.alloc (Obj.cells (va 256 (iv IntKind.u8 fun _ => 0)) 23)) (g := wr.heap.size) (fun q _ hq => Nat.ne_of_lt ((hv q hq).2)) (va 256 (iv .u8 (L k)))
        have HNEW : Hid (∀ j u, (byL (L k) 256)[j]? = some u → ((wr.alloc (Obj.cells (va 256 (iv IntKind.u8 fun _ => 0)) 23)).setRow wr.heap.size (va 256 (iv .u8 (L k)))).cell? ((⟨wr.heap.size, 0, none⟩ : Addr).add j) = some u) := fun j u hu => by
          have hj : j < 256 := by
            have := (List.getElem?_eq_some_iff.1 hu).1
            rwa [byL_length] at this
          rw [byL_at _ _ _ hj] at hu
          rw [Addr.add_mid, Nat.zero_add, c2.cv (i := j) (by omega)]
          exact hu
        have HMEM : Hid (∀ u ∈ byL (L k) 256, u.oneCell' = true) := mem_iv_one _ _ _
        have HLEN : Hid ((byL (L k) 256).length = 256 * 1) := (byL_length _ _).trans (Nat.mul_one _).symm
        have HSZ : Hid (w.heap.size ≤ ((wr.alloc (Obj.cells (va 256 (iv IntKind.u8 fun _ => 0)) 23)).setRow wr.heap.size (va 256 (iv .u8 (L k)))).heap.size) := HB2.out.size
        have HV : Hid (∀ x, (Value.slice (some ⟨g, 0, none⟩) q c).ownBlock = some x → w.heap.size ≤ x ∧ x < wr.heap.size) := hv
        clear hr hbl hown hb hq hl c2 hv
        go_wp2_with (first
          | (refine wpList_load_blk (by rfl) 23 _ (by rfl) b (o + k * 256) 256 (iv .u8 (L k)) (by rfl) _ HR.out Try.underlying23 rfl sizeBk ?_; simp only [Act.put, List.setIfInBounds_toArray, List.set_cons_zero, List.set_cons_succ])
          | (refine wpList_store_row (by rfl) 23 _ _ (by rfl) (wr.heap.size) (va 256 (iv .u8 (L k))) (by rfl) (by rfl) 23 _ c1 (sizeBk.trans (by rw [va_size])) (by simp only [va_size]) (iv_one _ _ _) ?_; simp only [Act.put, List.setIfInBounds_toArray, List.set_cons_zero, List.set_cons_succ])
          | (at_builtin; refine wpList_append_own _ rfl _ _ 78 rfl w.heap.size 5 i0 (.int .u8 0) 1 1 Try.underlying78 hi hz0 hz1 hz2 rfl (by decide) _ _ _ rfl HOWN.out ⟨wr.heap.size, 0, none⟩ 256 256 (byL (L k) 256) rfl HLEN.out HNEW.out HMEM.out (by unfold maxLen; omega) (by omega) HSZ.out ?_)
          | go_in)
        intro v' w2 hown' hgrow hnil
        have hb2 : Below w.heap.size w w2 := HB2.out.grown hgrow HSZ.out (fun k hk => (HV.out k hk).1)
        rw [← HF.out] at hown'
        obtain ⟨g3, cap3, rfl⟩ : ∃ g3 cap3, v' = .slice (some ⟨g3, 0, none⟩) (q + 256) cap3 := by
          rcases hown'.2 with ⟨h1, h2⟩ | ⟨g3, cap3, cur, h1, _⟩
          · exact absurd h1 (by simpa using hnil)
          · exact ⟨g3, cap3, h1⟩
        clear HOWN HNEW HMEM HLEN HV hgrow HB2 c1 hnil
        go_wp2_with fail
        go_roundw
        case rel => exact ⟨k + 1, q + 256, g3, cap3, by omega, by simp, HQ.out, rfl, hown', hb2⟩
        case measure => simp [intOf]; omega
    · obtain rfl : k = n := by omega
      obtain rfl : q = m := by have := HM.out; omega
      have hc := run_own_text (P := Try.prog) wr 78 5 9 Try.underlying78 Try.underlying5 Try.underlying9 hown
      clear hq
      go_wp2_with fail
      try simp only [Exit.inBlock, Exit.then]
      refine bodyPost_ret (results_tmp2 Try.results27 _ _ _) rfl ?_
      exact ⟨rfl, hb⟩
end Go.Proofs.Ytaoglljkghkbpaa
