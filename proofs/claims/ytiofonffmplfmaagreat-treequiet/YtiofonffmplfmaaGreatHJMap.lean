/- Maps with integers as keys, told by a list in the order of their coming: looked up, stored into, gone over in any order. -/
import Derived.Test.YtiofonffmplfmaaGreatHTrRngM
import Derived.Test.YtiofonffmplfmaaGreatHCaGet
import Derived.Test.YtiofonffmplfmaaGreatHSegsTree
import Derived.Maps.RangeWalk
import Derived.Maps.Own
import Derived.Handy

namespace Go.Proofs.YtiofonffmplfmaaGreat
open Go Go.RowKit
set_option linter.unusedSimpArgs false
set_option linter.unusedVariables false
section
variable {σ α : Type} {B g N c m room : Nat} {F : Nat → Nat} {ft : α → Nat → Prop} {Q : σ → α → World → Prop} {cnt : σ → Nat} {fn : Nat} {caps : Array Value} {st : σ → Nat → Int → Rf → σ × Bool × Int}
/-- what walk is asked to do at a level -/
def WalkP {σ α : Type} (B g N : Nat) (F : Nat → Nat) (c m room : Nat) (ft : α → Nat → Prop) (Q : σ → α → World → Prop) (cnt : σ → Nat) (fn : Nat) (caps : Array Value) (st : σ → Nat → Int → Rf → σ × Bool × Int) (n : Nat) : Prop := ∀ (s : σ) (z : α) (p : Int) (R : Rf) (i : Nat) (U : Nat → Prop) (w : World), 0 ≤ p → (p + 1) * ((4 ^ n : Nat) : Int) ≤ 4096 → R.1 < 4294967296 → i + pN n < 34359738000 → WS B g N F c m room ft Q cnt w i U s z → Calls Tryz.prog 28 #[.pointer (some ⟨c, 0, none⟩), .agg (poC (n : Int) p R), .func (.func fn) #[] caps] w fun e w' => e = .returned (.int .i64 (wlkR F N st n s p R).2) ∧ WSt B g N F c m room ft Q cnt w w' (i + pN n) U z (wlkR F N st n s p R).1
theorem walk_none (cp : Option Addr) (l p : Int) (w : World) : Calls Tryz.prog 28 #[.pointer cp, .agg (poC l p rf0), .func (.func fn) #[] caps] w fun e w' => e = .returned (.int .i64 0) ∧ Below w.heap.size w w' := by
  have t1 : Blk (w.alloc (.cells (poC l p rf0) 73)) w.heap.size 73 (poC l p rf0) := Blk.new _ _ _
  have HRP : Hid ((w.alloc (.cells (poC l p rf0) 73)).rangeAt w.heap.size 2 ((List.range 33).map (rfF rf0.1 rf0.2))) := po_range t1
  have hb1 : Below w.heap.size w (w.alloc (.cells (poC l p rf0) 73)) := below_new1 _ _
  have hNn : Hid (∀ w, Calls Tryz.prog 50 #[.agg (rfC rf0)] w fun e w' => e = .returned (.bool true) ∧ Below w.heap.size w w') := fun w => by
    have := none_any rf0 w
    rw [decide_eq_true rfl] at this
    exact this
  clear t1
  go_enter Tryz.func28, Tryz.ntmps28
  go_wp2_with (first
    | (refine wpList_load_blk (by rfl) 43 _ (by rfl) (w.heap.size) (2) 33 (rfF rf0.1 rf0.2) (by rfl) _ (by exact HRP.out) Tryz.underlying43 rfl tsizeRef ?_; simp only [Act.put, List.setIfInBounds_toArray, List.set_cons_zero, List.set_cons_succ])
    | fail)
  generalize (w.alloc (.cells (poC l p rf0) 73)) = w1 at *
  refine (hNn.out w1).mono ?_
  rintro x w2 ⟨rfl, hb2⟩
  have hb12 := hb1.trans (hb2.mono hb1.size)
  go_wp2_with fail
  go_ret
  exact ⟨rfl, hb12⟩
set_option maxRecDepth 100000 in
set_option maxHeartbeats 16000000 in
/-- walk, by what it does one level below -/
theorem walk_lvl (ef : ∀ args w, (callFunc fn args).run Tryz.prog w = .ok (.enter fn args) w) (hF : ∀ a, F a < 256) (HC : WK fn caps B g N F c m room ft Q cnt st) (n : Nat) (hn : n ≤ 6) (IH : ∀ n', n = n' + 1 → WalkP B g N F c m room ft Q cnt fn caps st n') : WalkP B g N F c m room ft Q cnt fn caps st n := by
  intro s z p R i U w hp0 hp1 hR hi H
  by_cases hR0 : R = rf0
  · subst hR0
    have e : wlkR F N st n s p rf0 = (s, 0) := by cases n <;> simp [wlkR]
    rw [e]
    exact (walk_none _ _ _ w).mono fun x w' ⟨e1, hb⟩ => ⟨e1, .of ((H.below HC.keep hb).mono (by omega)) hb⟩
  · obtain ⟨s1, asked, er, hst⟩ : ∃ s1 asked er, st s n p R = (s1, asked, er) := ⟨_, _, _, rfl⟩
    have hpn : 2 ≤ pN n := by cases n <;> simp [pN]
    have hz := zero_bk
    have hzn := zero_node
    have t1 : Blk (w.alloc (.cells (poC (n : Int) p R) 73)) w.heap.size 73 (poC (n : Int) p R) := Blk.new _ _ _
    have HRP : Hid ((w.alloc (.cells (poC (n : Int) p R) 73)).rangeAt w.heap.size 2 ((List.range 33).map (rfF R.1 R.2))) := po_range t1
    have hb1 : Below w.heap.size w (w.alloc (.cells (poC (n : Int) p R) 73)) := below_new1 _ _
    have hNn : Hid (∀ w, Calls Tryz.prog 50 #[.agg (rfC R)] w fun e w' => e = .returned (.bool false) ∧ Below w.heap.size w w') := fun w => by
      have := none_any R w
      rw [decide_eq_false hR0] at this
      exact this
    have HCl : Hid (∀ V, Below w.heap.size w V → Calls Tryz.prog fn (#[.agg (poC (n : Int) p R)] ++ caps) V fun e w' => e = .returned (.tuple #[.bool asked, .int .i64 er]) ∧ WSt B g N F c m room ft Q cnt V w' (i + 1) U z s1) := fun V hV => by
      have := HC.call s z V i U n p R hn hp0 hp1 hR hR0 (by omega) (H.below HC.keep hV)
      rw [hst] at this
      exact this
    have HKp : Hid (∀ s z V V' (T : Nat → Prop), Q s z V → Turns T V V' → (∀ b, T b → ¬ ft z b) → Q s z V') := HC.keep
    have HSU : Hid (∀ b, (U b ∨ ft z b) → b < w.heap.size) := fun b q => q.elim (fun u => (H.td.lt b u).2) (H.lt b)
    have HIH : Hid (∀ n', n = n' + 1 → WalkP B g N F c m room ft Q cnt fn caps st n') := IH
    have HP : Hid (n ≤ 6 ∧ 0 ≤ p ∧ (p + 1) * ((4 ^ n : Nat) : Int) ≤ 4096 ∧ R.1 < 4294967296 ∧ R ≠ rf0 ∧ i + pN n < 34359738000 ∧ 2 ≤ pN n ∧ (∀ a, F a < 256)) := ⟨hn, hp0, hp1, hR, hR0, hi, hpn, hF⟩
    have HST : Hid (st s n p R = (s1, asked, er)) := hst
    clear H HC hst IH hn hp0 hp1 hR hR0 hi hpn hF
    go_enter Tryz.func28, Tryz.ntmps28
    go_wp2_with (first
      | (refine wpList_load_blk (by rfl) 43 _ (by rfl) (w.heap.size) (2) 33 (rfF R.1 R.2) (by rfl) _ (by exact HRP.out) Tryz.underlying43 rfl tsizeRef ?_; simp only [Act.put, List.setIfInBounds_toArray, List.set_cons_zero, List.set_cons_succ])
      | fail)
    clear HRP
    generalize (w.alloc (.cells (poC (n : Int) p R) 73)) = w1 at *
    refine (hNn.out w1).mono ?_
    rintro x w2 ⟨rfl, hb2⟩
    have hb12 := hb1.trans (hb2.mono hb1.size)
    have HB2 : Hid (Below w.heap.size w w2) := hb12
    have t2 := t1.below hb2 t1.lt
    clear hb1 hb2 hb12 t1 hNn
    go_wp2_with (first
      | (refine wpList_load_rowg (by rfl) 73 _ (by rfl) (w.heap.size) (by rfl) 73 (poC (n : Int) p R) (0, 0) _ (by exact t2) Tryz.underlying73 (by rfl) (sizePo.trans (by rw [poC_size])) ?_; simp only [Act.put, List.setIfInBounds_toArray, List.set_cons_zero, List.set_cons_succ])
      | fail)
    refine (HCl.out w2 HB2.out).mono ?_
    rintro x w3 ⟨rfl, U3, z1, hs3, ht3, hf3⟩
    have HT3 : Hid (Turns (fun b => U b ∨ ft z b) w w3) := (Turns.of_below (S := fun b => U b ∨ ft z b) HB2.out).trans ht3 fun b q => .inl q
    have HF3 : Hid (∀ b, (U3 b ∨ ft z1 b) → (U b ∨ ft z b) ∨ w.heap.size + 1 ≤ b) := fun b q => (hf3 b q).imp id fun u => by have := t2.lt; omega
    have HS3 : Hid (WS B g N F c m room ft Q cnt w3 (i + 1) U3 s1 z1) := hs3
    have t3 : Blk w3 w.heap.size 73 (poC (n : Int) p R) := ht3.blk t2 fun q => by have := HSU.out _ q; omega
    have z3 : w3.cell? ⟨w.heap.size, 0, none⟩ = some (.int .i64 (n : Int)) := (t3.cell 0).trans (va_at (poF (n : Int) p R) (by decide))
    have HW3 : Hid (w.heap.size < w3.heap.size) := t3.lt
    clear hs3 ht3 hf3 t2 HB2 HCl
    by_cases he : er = 0
    · subst he
      cases asked with
      | false =>
        have HR : Hid (wlkR F N st n s p R = (s1, 0)) := by
          have h1 := HST.out
          have h2 := HP.out.2.2.2.2.1
          show _ = _
          cases n <;> simp [wlkR, h1, h2]
        go_wp2_with fail
        go_ret
        rw [HR.out]
        exact ⟨rfl, U3, z1, HS3.out.mono (by have := HP.out; omega), HT3.out, fun b q => (HF3.out b q).imp id (by omega)⟩
      | true =>
        cases n with
        | zero =>
          have HR : Hid (wlkR F N st 0 s p R = (s1, 0)) := by
            have h1 := HST.out
            have h2 := HP.out.2.2.2.2.1
            show _ = _
            simp [wlkR, h1, h2]
          go_wp2_with fail
          go_ret
          rw [HR.out]
          exact ⟨rfl, U3, z1, HS3.out.mono (by have := HP.out; omega), HT3.out, fun b q => (HF3.out b q).imp id (by omega)⟩
        | succ n =>
          have hnz : ¬ ((n + 1 : Nat) : Int) = 0 := by omega
          obtain ⟨ne, hne⟩ : ∃ ne, nodE F N ((n + 1 : Nat) : Int) R = ne := ⟨_, rfl⟩
          have HNE : Hid (nodE F N ((n + 1 : Nat) : Int) R = ne) := hne
          have HRN : Hid (∀ w : World, TD w B g N F c m room (i + 1) U3 → Calls Tryz.prog 51 #[.pointer (some ⟨c, 0, none⟩), .agg (poC ((n + 1 : Nat) : Int) p R)] w fun x w' => x = .returned (.tuple #[.agg (va 256 (iv .u8 (if ne = 0 then gotF F N R else fun _ => 0))), .agg (if ne = 0 then ndC ((n + 1 : Nat) : Int) (decK (gotF F N R)) else ndC 0 fun _ => rf0), .int .i64 ne]) ∧ TDStep w w' B g N F c m room (i + 1 + 1) U3) := fun w h1 => readNode_td _ _ _ HP.out.2.2.2.1 (by have := HP.out; omega) HP.out.2.2.2.2.2.2.2 ne hne w h1
          clear hne
          generalize hl : ((n + 1 : Nat) : Int) = l at *
          go_wp2_with (first
            | (refine wpList_load_rowg (by rfl) 73 _ (by rfl) (w.heap.size) (by rfl) 73 (poC l p R) (0, 0) _ (by exact t3) Tryz.underlying73 (by rfl) (sizePo.trans (by rw [poC_size])) ?_; simp only [Act.put, List.setIfInBounds_toArray, List.set_cons_zero, List.set_cons_succ])
            | fail)
          refine (HRN.out w3 HS3.out.td).mono ?_
          rintro x w4 ⟨rfl, hs4⟩
          obtain ⟨U4, hs4, ht4, hf4⟩ := HS3.out.step HKp.out hs4 (by omega)
          have t4 : Blk w4 w.heap.size 73 (poC l p R) := ht4.blk t3 fun q => by
            rcases HF3.out _ q with u | u
            · have := HSU.out _ u
              omega
            · omega
          have hT4 : Turns (fun b => U b ∨ ft z b) w w4 := HT3.out.trans ht4 fun b q => (HF3.out b q).imp id (by omega)
          have hF4 : ∀ b, (U4 b ∨ ft z1 b) → (U b ∨ ft z b) ∨ w.heap.size + 1 ≤ b := fun b q => by
            rcases hf4 b q with u | u
            · exact HF3.out b u
            · have := HW3.out
              exact .inr (by omega)
          clear ht4 hf4 t3 z3 HRN
          obtain ⟨f, hf⟩ : ∃ f, (if ne = 0 then gotF F N R else fun _ => 0) = f := ⟨_, rfl⟩
          obtain ⟨nl, hnl⟩ : ∃ nl, (if ne = 0 then l else 0) = nl := ⟨_, rfl⟩
          obtain ⟨K, hK⟩ : ∃ K, (if ne = 0 then decK (gotF F N R) else fun _ => rf0) = K := ⟨_, rfl⟩
          have hnd : (if ne = 0 then ndC l (decK (gotF F N R)) else ndC 0 fun _ => rf0) = ndC nl K := by
            rw [← hnl, ← hK]
            by_cases h0 : ne = 0
            · simp [h0]
            · simp [h0]
          rw [hf, hnd]
          have HKK : Hid (ne = 0 → decK (gotF F N R) = K) := fun h0 => by rw [← hK, if_pos h0]
          have q0 : Blk ((w4.alloc (.cells (va 256 (iv .u8 fun _ => 0)) 52)).alloc (.cells (ndC 0 fun _ => rf0) 142)) w4.heap.size 52 (va 256 (iv .u8 fun _ => 0)) := (Blk.new _ _ _).alloc _
          have y0 : Blk ((w4.alloc (.cells (va 256 (iv .u8 fun _ => 0)) 52)).alloc (.cells (ndC 0 fun _ => rf0) 142)) (w4.heap.size + 1) 142 (ndC 0 fun _ => rf0) := Blk.new1 _ _ _ _
          have y1 := y0.other (va 256 (iv .u8 f)) (show w4.heap.size + 1 ≠ w4.heap.size by omega)
          have y7 : Blk ((((w4.alloc (.cells (va 256 (iv .u8 fun _ => 0)) 52)).alloc (.cells (ndC 0 fun _ => rf0) 142)).setRow w4.heap.size (va 256 (iv .u8 f))).setRow (w4.heap.size + 1) (ndC nl K)) (w4.heap.size + 1) 142 (ndC nl K) := y1.set _
          have hb7 : Below w4.heap.size w4 ((((w4.alloc (.cells (va 256 (iv .u8 fun _ => 0)) 52)).alloc (.cells (ndC 0 fun _ => rf0) 142)).setRow w4.heap.size (va 256 (iv .u8 f))).setRow (w4.heap.size + 1) (ndC nl K)) := below_setRow (below_setRow (below_new2 _ _ _) (Nat.le_refl _) _) (by omega) _
          have t7 := t4.below hb7 t4.lt
          have HS7 : Hid (WS B g N F c m room ft Q cnt ((((w4.alloc (.cells (va 256 (iv .u8 fun _ => 0)) 52)).alloc (.cells (ndC 0 fun _ => rf0) 142)).setRow w4.heap.size (va 256 (iv .u8 f))).setRow (w4.heap.size + 1) (ndC nl K)) (i + 1 + 1) U4 s1 z1) := hs4.below HKp.out hb7
          have HT7 : Hid (Turns (fun b => U b ∨ ft z b) w ((((w4.alloc (.cells (va 256 (iv .u8 fun _ => 0)) 52)).alloc (.cells (ndC 0 fun _ => rf0) 142)).setRow w4.heap.size (va 256 (iv .u8 f))).setRow (w4.heap.size + 1) (ndC nl K))) := hT4.trans (Turns.of_below (S := fun b => U b ∨ ft z b) hb7) fun b q => .inl q
          have HYB : Hid (w.heap.size < w4.heap.size ∧ ∀ b, (U4 b ∨ ft z1 b) → b < w4.heap.size) := ⟨t4.lt, fun b q => q.elim (fun u => (hs4.td.lt b u).2) (hs4.lt b)⟩
          have HF7 : Hid (∀ b, (U4 b ∨ ft z1 b) → (U b ∨ ft z b) ∨ w.heap.size + 1 ≤ b) := hF4
          clear hs4 hT4 hF4 hb7 t4 HT3 HF3 HS3 hf hK hnl hnd HW3
          go_upto_region 7 with (first
            | (refine wpList_store_row (by rfl) 52 _ _ (by rfl) (w4.heap.size) (va 256 (iv .u8 f)) (by rfl) (by rfl) 52 _ q0 (sizeBk.trans (by rw [va_size])) (by simp only [va_size]) (iv_one _ _ _) ?_; simp only [Act.put, List.setIfInBounds_toArray, List.set_cons_zero, List.set_cons_succ])
            | (refine wpList_store_row (by rfl) 142 _ _ (by rfl) (w4.heap.size + 1) (ndC nl K) (by rfl) (by rfl) 142 (_) (by exact y1) (tsizeNd.trans (by rw [ndC_size])) (by simp only [ndC_size]) (ndC_all _ _) ?_; simp only [Act.put, List.setIfInBounds_toArray, List.set_cons_zero, List.set_cons_succ])
            | fail)
          clear q0 y0 y1
          generalize ((((w4.alloc (.cells (va 256 (iv .u8 fun _ => 0)) 52)).alloc (.cells (ndC 0 fun _ => rf0) 142)).setRow w4.heap.size (va 256 (iv .u8 f))).setRow (w4.heap.size + 1) (ndC nl K)) = w7 at *
          generalize hyb : w4.heap.size + 1 = yb at *
          have HY : Hid (w.heap.size + 1 < yb ∧ ∀ b, (U4 b ∨ ft z1 b) → b + 1 < yb) := ⟨by have := HYB.out.1; omega, fun b q => by have := HYB.out.2 b q; omega⟩
          clear hyb HYB
          by_cases hn0 : ne = 0
          · subst hn0
            have HW : Hid (wlkR F N st (n + 1) s p R = kidsR (fun s k => wlkR F N st n s (p * 4 + (k : Int)) (K k)) 4 0 s1) := by
              have h1 := HST.out
              have h2 := HP.out.2.2.2.2.1
              have h3 := HNE.out
              have h4 := HKK.out rfl
              rw [← hl] at h3
              show _ = _
              simp only [wlkR, h1, h2, h3, h4, if_true, if_false, and_self]
            have HKL : Hid (∀ k, (K k).1 < 4294967296) := fun k => by
              rw [← HKK.out rfl]
              exact decK_lt _ _
            have HWk : Hid (∀ (k : Nat) (s : σ) (z : α) (j : Nat) (U : Nat → Prop) (w : World), k < 4 → j ≤ i + 2 + k * pN n → WS B g N F c m room ft Q cnt w j U s z → Calls Tryz.prog 28 #[.pointer (some ⟨c, 0, none⟩), .agg (poC (l - 1) (p * 4 + (k : Int)) (K k)), .func (.func fn) #[] caps] w fun e w' => e = .returned (.int .i64 (wlkR F N st n s (p * 4 + (k : Int)) (K k)).2) ∧ WSt B g N F c m room ft Q cnt w w' (j + pN n) U z (wlkR F N st n s (p * 4 + (k : Int)) (K k)).1) := fun k s z j U w hk hj hw => by
              have h6 := HP.out
              have h7 : pN (n + 1) = 2 + 4 * pN n := rfl
              have h8 : k * pN n ≤ 3 * pN n := Nat.mul_le_mul_right _ (by omega)
              have h9 : (4 ^ (n + 1) : Nat) = 4 ^ n * 4 := Nat.pow_succ _ _
              have ha := h6.2.2.1
              rw [h9] at ha
              have hpos : (1 : Int) ≤ ((4 ^ n : Nat) : Int) := by
                have := pow4_pos n
                omega
              have hb : (p * 4 + (k : Int) + 1) * ((4 ^ n : Nat) : Int) ≤ 4096 := by
                push_cast at ha hpos ⊢
                generalize (4 : Int) ^ n = z at *
                have hc : (p * 4 + (k : Int) + 1) * z ≤ (p * 4 + 4) * z := Int.mul_le_mul_of_nonneg_right (by omega) (by omega)
                have hd : (p + 1) * (z * 4) = (p * 4 + 4) * z := by
                  rw [Int.mul_comm z 4, ← Int.mul_assoc, Int.add_mul, Int.one_mul]
                omega
              have := HIH.out n rfl s z (p * 4 + (k : Int)) (K k) j U w (by omega) hb (HKL.out k) (by omega) hw
              rw [show l - 1 = (n : Int) by omega]
              exact this
            have HBn : Hid (∀ (k : Nat) (w : World), k < 4 → Calls Tryz.prog 52 #[.agg (poC l p R), .agg (ndC nl K), .int .i64 (k : Int)] w fun x w' => x = .returned (.agg (poC (l - 1) (p * 4 + (k : Int)) (K k))) ∧ Below w.heap.size w w') := fun k w hk => beneath_any l p nl R K k hk (by have := HP.out; omega) (by
              have h6 := HP.out
              have hpos : (1 : Int) ≤ ((4 ^ (n + 1) : Nat) : Int) := by
                have := pow4_pos (n + 1)
                omega
              have := Int.mul_le_mul_of_nonneg_left hpos (show 0 ≤ p + 1 by omega)
              omega) w
            clear HIH HKK HNE HST
            go_wp2_with fail
            go_loopw [44] (fun t wr => Hid (∃ (k : Nat) (s' : σ) (z' : α) (U' : Nat → Prop), k ≤ 4 ∧ t = .int .i64 (k : Int) ∧ kidsR (fun s k => wlkR F N st n s (p * 4 + (k : Int)) (K k)) (4 - k) k s' = wlkR F N st (n + 1) s p R ∧ WS B g N F c m room ft Q cnt wr (i + 2 + k * pN n) U' s' z' ∧ Turns (fun b => U b ∨ ft z b) w wr ∧ (∀ b, (U' b ∨ ft z' b) → (U b ∨ ft z b) ∨ (w.heap.size + 1 ≤ b ∧ b ≠ yb)) ∧ Blk wr w.heap.size 73 (poC l p R) ∧ Blk wr yb 142 (ndC nl K))) (fun t _ => 4 - (intOf t).toNat)
            case atStart =>
              refine ⟨0, s1, z1, U4, by omega, rfl, HW.out.symm, by simpa using HS7.out, HT7.out, fun b q => ?_, t7, y7⟩
              rcases HF7.out b q with u | u
              · exact .inl u
              · have := HY.out.2 b q
                exact .inr (by omega)
            case round =>
              clear t7 y7 HS7 HT7 HF7
              obtain ⟨k, s', z', U', hk, rfl, hre, hws, htu, hfo, tr, yr⟩ := Hid.out hrel
              clear hrel
              have hpn : pN (n + 1) = 2 + 4 * pN n := rfl
              have HPN : Hid (pN (n + 1) = 2 + 4 * pN n) := hpn
              have HWS : Hid (WS B g N F c m room ft Q cnt wr (i + 2 + k * pN n) U' s' z') := hws
              have HTU : Hid (Turns (fun b => U b ∨ ft z b) w wr) := htu
              have HFO : Hid (∀ b, (U' b ∨ ft z' b) → (U b ∨ ft z b) ∨ (w.heap.size + 1 ≤ b ∧ b ≠ yb)) := hfo
              have HRE : Hid (kidsR (fun s k => wlkR F N st n s (p * 4 + (k : Int)) (K k)) (4 - k) k s' = wlkR F N st (n + 1) s p R) := hre
              clear hws htu hfo hre hpn
              by_cases hlt : k < 4
              · have hk4 : (k : Int) < 4 := by omega
                have hk0 : (0 : Int) ≤ (k : Int) := by omega
                have HLT : Hid (k < 4) := hlt
                go_wp2_with (first
                  | (refine wpList_load_rowg (by rfl) 73 _ (by rfl) (w.heap.size) (by rfl) 73 (poC l p R) (0, 0) _ (by exact tr) Tryz.underlying73 (by rfl) (sizePo.trans (by rw [poC_size])) ?_; simp only [Act.put, List.setIfInBounds_toArray, List.set_cons_zero, List.set_cons_succ])
                  | (refine wpList_load_rowg (by rfl) 142 _ (by rfl) (yb) (by rfl) 142 (ndC nl K) (0, 0) _ (by exact yr) Tryz.underlying142 (by rfl) (tsizeNd.trans (by rw [ndC_size])) ?_; simp only [Act.put, List.setIfInBounds_toArray, List.set_cons_zero, List.set_cons_succ])
                  | fail)
                refine (HBn.out k wr hlt).mono ?_
                rintro x w8 ⟨rfl, hb8⟩
                have t8 := tr.below hb8 tr.lt
                have y8 := yr.below hb8 yr.lt
                have HS8 : Hid (WS B g N F c m room ft Q cnt w8 (i + 2 + k * pN n) U' s' z') := HWS.out.below HKp.out hb8
                have HT8 : Hid (Turns (fun b => U b ∨ ft z b) w w8) := HTU.out.trans (Turns.of_below (S := fun b => U b ∨ ft z b) hb8) fun b q => .inl q
                have HY8 : Hid (yb < w8.heap.size) := y8.lt
                clear hb8 tr yr HWS HTU
                go_wp2_with fail
                refine (HWk.out k s' z' _ U' w8 hlt (Nat.le_refl _) HS8.out).mono ?_
                rintro x w9 ⟨rfl, U9, z9, hs9, ht9, hf9⟩
                have nt : ¬ (U' w.heap.size ∨ ft z' w.heap.size) := fun q => by
                  rcases HFO.out _ q with u | u
                  · have := HSU.out _ u
                    omega
                  · omega
                have ny : ¬ (U' yb ∨ ft z' yb) := fun q => by
                  rcases HFO.out _ q with u | u
                  · have := HSU.out _ u
                    have := HY.out.1
                    omega
                  · exact u.2 rfl
                have t9 := ht9.blk t8 nt
                have y9 := ht9.blk y8 ny
                have HT9 : Hid (Turns (fun b => U b ∨ ft z b) w w9) := HT8.out.trans ht9 fun b q => (HFO.out b q).imp id (by omega)
                have HF9 : Hid (∀ b, (U9 b ∨ ft z9 b) → (U b ∨ ft z b) ∨ (w.heap.size + 1 ≤ b ∧ b ≠ yb)) := fun b q => by
                  rcases hf9 b q with u | u
                  · exact HFO.out b u
                  · have h1 := HY8.out
                    have h2 := HY.out.1
                    exact .inr (by omega)
                have HS9 : Hid (WS B g N F c m room ft Q cnt w9 (i + 2 + k * pN n + pN n) U9 (wlkR F N st n s' (p * 4 + (k : Int)) (K k)).1 z9) := hs9
                have HRK : Hid ((if (wlkR F N st n s' (p * 4 + (k : Int)) (K k)).2 = 0 then kidsR (fun s k => wlkR F N st n s (p * 4 + (k : Int)) (K k)) (4 - (k + 1)) (k + 1) (wlkR F N st n s' (p * 4 + (k : Int)) (K k)).1 else wlkR F N st n s' (p * 4 + (k : Int)) (K k)) = wlkR F N st (n + 1) s p R) := by
                  have h1 := HRE.out
                  rw [show 4 - k = (4 - (k + 1)) + 1 by omega] at h1
                  exact h1
                clear hs9 ht9 hf9 t8 y8 HT8 HS8 HFO HRE nt ny
                generalize wlkR F N st n s' (p * 4 + (k : Int)) (K k) = rv at *
                obtain ⟨s9, e9⟩ := rv
                have h4k : k * pN n + pN n = (k + 1) * pN n := (Nat.succ_mul _ _).symm
                have H4K : Hid (k * pN n + pN n = (k + 1) * pN n) := h4k
                clear h4k
                by_cases h9 : e9 = 0
                · subst h9
                  have HRL : Hid (kidsR (fun s k => wlkR F N st n s (p * 4 + (k : Int)) (K k)) (4 - (k + 1)) (k + 1) s9 = wlkR F N st (n + 1) s p R) := by
                    show _ = _
                    have := HRK.out
                    simpa using this
                  clear HRK
                  go_wp2_with fail
                  go_roundw
                  case rel => exact ⟨k + 1, s9, z9, U9, HLT.out, by first | rfl | go_num | simp, HRL.out, by have := HS9.out; rw [Nat.add_assoc, H4K.out] at this; exact this, HT9.out, HF9.out, t9, y9⟩
                  case measure => simp [intOf]; have := HLT.out; omega
                · have HRL : Hid (wlkR F N st (n + 1) s p R = (s9, e9)) := by
                    show _ = _
                    have := HRK.out
                    simp only [if_neg h9] at this
                    exact this.symm
                  have hne2 : (e9 != 0) = true := by simp [h9]
                  have hne3 : decide (e9 = 0) = false := decide_eq_false h9
                  clear HRK
                  go_wp2_with fail
                  go_ret
                  rw [HRL.out]
                  refine ⟨rfl, U9, z9, HS9.out.mono ?_, HT9.out, fun b q => (HF9.out b q).imp id (by omega)⟩
                  have h1 := H4K.out
                  have h2 := HPN.out
                  have h3 := HLT.out
                  have : (k + 1) * pN n ≤ 4 * pN n := Nat.mul_le_mul_right _ (by omega)
                  omega
              · obtain rfl : k = 4 := by omega
                have HRL : Hid (wlkR F N st (n + 1) s p R = (s', 0)) := HRE.out.symm
                go_wp2_with fail
                go_ret
                rw [HRL.out]
                exact ⟨rfl, U', z', HWS.out.mono (by have h2 := HPN.out; omega), HTU.out, fun b q => (HFO.out b q).imp id (by omega)⟩
          · have HW : Hid (wlkR F N st (n + 1) s p R = (s1, ne)) := by
              have h1 := HST.out
              have h2 := HP.out.2.2.2.2.1
              have h3 := HNE.out
              rw [← hl] at h3
              show _ = _
              simp only [wlkR, h1, h2, h3, if_true, if_false, and_self, if_neg hn0]
            have hne2 : (ne != 0) = true := by simp [hn0]
            have hne3 : decide (ne = 0) = false := decide_eq_false hn0
            go_wp2_with fail
            go_ret
            rw [HW.out]
            exact ⟨rfl, U4, z1, HS7.out.mono (by have h1 : pN (n + 1) = 2 + 4 * pN n := rfl; omega), HT7.out, fun b q => (HF7.out b q).imp id (by omega)⟩
    · have HR : Hid (wlkR F N st n s p R = (s1, er)) := by
        have h1 := HST.out
        have h2 := HP.out.2.2.2.2.1
        show _ = _
        cases n <;> simp [wlkR, h1, h2, he]
      have hne2 : (er != 0) = true := by simp [he]
      have hne3 : decide (er = 0) = false := decide_eq_false he
      go_wp2_with fail
      go_ret
      rw [HR.out]
      exact ⟨rfl, U3, z1, HS3.out.mono (by have := HP.out; omega), HT3.out, fun b q => (HF3.out b q).imp id (by omega)⟩
theorem walk_any (ef : ∀ args w, (callFunc fn args).run Tryz.prog w = .ok (.enter fn args) w) (hF : ∀ a, F a < 256) (HC : WK fn caps B g N F c m room ft Q cnt st) : ∀ (n : Nat), n ≤ 6 → WalkP B g N F c m room ft Q cnt fn caps st n
  | 0, h => walk_lvl ef hF HC 0 h fun n' e => by omega
  | n + 1, h => walk_lvl ef hF HC (n + 1) h fun n' e => by
    obtain rfl : n = n' := by omega
    exact walk_any ef hF HC n (by omega)
end
end Go.Proofs.YtiofonffmplfmaaGreat

namespace Go.Proofs.YtiofonffmplfmaaGreat
open Go Go.RowKit
set_option linter.unusedVariables false

/-- an image with one block more -/
def apX (X : Nat → Nat) (n : Nat) (f : Nat → Nat) : Nat → Nat := fun x => if x < n * 256 then X x else f (x - n * 256)
/-- what Put makes of an image and a block -/
def PutR (X : Nat → Nat) (n : Nat) (f : Nat → Nat) (X' : Nat → Nat) (n' : Nat) (r : Rf) : Prop := (bkSame f (fun _ => 0) ∧ n' = n ∧ X' = X ∧ r = rf0) ∨ (¬ bkSame f (fun _ => 0) ∧ n' = n + 1 ∧ X' = apX X n f ∧ r = (n, dgB f))
end Go.Proofs.YtiofonffmplfmaaGreat

namespace Go.Proofs.YtiofonffmplfmaaGreat
open Go Go.RowKit
set_option linter.unusedSimpArgs false
set_option linter.unusedVariables false

def jK (a : Int) : Value := .int .i64 a
section
variable {β : Type} {P : Program} {V : β → Value}
theorem findNow_intV (a : Int) : ∀ (l : List (Int × β)) (es : List MapEntry) (i : Nat), es.map (fun e => (e.key, e.val)) = l.map (fun p => (jK p.1, V p.2)) →
    (findIn a l = none → Instr.findNow (.int .i64) (jK a) es i = some none) ∧ (∀ v, findIn a l = some v → ∃ j, Instr.findNow (.int .i64) (jK a) es i = some (some (i + j, V v)) ∧ l[j]? = some (a, v) ∧ ∀ m, m < j → ∀ p, l[m]? = some p → p.1 ≠ a)
  | [], es, i, h => by
    have : es = [] := by cases es with
      | nil => rfl
      | cons e es => simp at h
    subst this
    exact ⟨fun _ => by simp [Instr.findNow], fun v hv => by cases hv⟩
  | p :: l, [], i, h => by simp at h
  | p :: l, e :: es, i, h => by
    simp only [List.map_cons, List.cons.injEq, Prod.mk.injEq] at h
    obtain ⟨⟨h1, h2⟩, h3⟩ := h
    obtain ⟨ih1, ih2⟩ := findNow_intV a l es (i + 1) h3
    have hs : Instr.sameNow (.int .i64) (jK a) e.key = some (a == p.1) := by
      rw [h1]
      simp [Instr.sameNow, jK]
    by_cases hq : a = p.1
    · refine ⟨fun hn => ?_, fun v hv => ⟨0, ?_, ?_, fun m hm => by omega⟩⟩
      · unfold findIn at hn
        rw [if_pos hq] at hn
        cases hn
      · unfold findIn at hv
        rw [if_pos hq] at hv
        cases hv
        have hb : (a == p.1) = true := by simpa using hq
        simp [Instr.findNow, hs, hb, h2]
      · unfold findIn at hv
        rw [if_pos hq] at hv
        cases hv
        simp [hq]
    · have hb : (a == p.1) = false := by simpa using hq
      refine ⟨fun hn => ?_, fun v hv => ?_⟩
      · unfold findIn at hn
        rw [if_neg hq] at hn
        simp [Instr.findNow, hs, hb, ih1 hn]
      · unfold findIn at hv
        rw [if_neg hq] at hv
        obtain ⟨j, g1, g2, g3⟩ := ih2 v hv
        refine ⟨j + 1, ?_, by simpa using g2, fun m hm q hq2 => ?_⟩
        · simp [Instr.findNow, hs, hb, g1]
          omega
        · cases m with
          | zero =>
            simp at hq2
            rw [← hq2]
            exact Ne.symm hq
          | succ m => exact g3 m (by omega) q (by simpa using hq2)
theorem find_setV (a b : Int) (v : β) : ∀ (l : List (Int × β)) (j : Nat) (u : β), l[j]? = some (a, u) → (∀ m, m < j → ∀ p, l[m]? = some p → p.1 ≠ a) → findIn b (l.set j (a, v)) = if b = a then some v else findIn b l
  | [], j, u, h, _ => by simp at h
  | p :: l, 0, u, h, _ => by
    simp at h
    subst h
    simp only [List.set_cons_zero, findIn]
    by_cases hb : b = a
    · simp [hb]
    · simp [hb]
  | p :: l, j + 1, u, h, h2 => by
    have hp : p.1 ≠ a := h2 0 (by omega) p (by simp)
    have ih := find_setV a b v l j u (by simpa using h) fun m hm q hq => h2 (m + 1) (by omega) q (by simpa using hq)
    simp only [List.set_cons_succ, findIn, ih]
    by_cases hb : b = p.1
    · rw [if_pos hb, if_pos hb, if_neg (by rw [hb]; exact hp)]
    · rw [if_neg hb, if_neg hb]
theorem chk_intP {kt : TypeId} (hk : P.underlying kt = some (.int .i64)) (e : Bool) (x : Int) (w : World) : (Instr.checkKey e 10000 kt (.int .i64 x)).run P w = .ok () w := by
  rw [show (10000 : Nat) = 9999 + 1 from rfl, Instr.checkKey]
  simp [run_underlying hk]
/-- a look-up -/
theorem intMap_look {mt kt et : TypeId} {z : Value} (hm : P.underlying mt = some (.map kt et)) (hk : P.underlying kt = some (.int .i64)) (hz : ∀ w, (zeroValue et).run P w = .ok z w) {w : World} {r : Nat} {l : List (Int × β)} (h : MapIs jK V w r l) (a : Int) (ok : Bool) :
    (Instr.lookup mt (.map (some r)) (.int .i64 a) ok).run P w = .ok (if ok then .tuple #[((findIn a l).map V).getD z, .bool (findIn a l).isSome] else ((findIn a l).map V).getD z) w := by
  obtain ⟨es, cl, hg, he⟩ := h
  obtain ⟨g1, g2⟩ := findNow_intV a l es.toList 0 he
  have hgo : (getObj r).run P w = .ok (.map es cl) w := by simp [getObj, Sem.run, hg]
  cases hf : findIn a l with
  | none =>
    have hq : (Instr.findKey kt (.int .i64 a) es.toList).run P w = .ok none w := by
      have := g1 hf
      unfold jK at this
      simp [Instr.findKey, run_underlying hk, this]
    cases ok <;> simp [Instr.lookup, run_underlying hm, hgo, chk_intP hk, hq, hz]
  | some v =>
    obtain ⟨j, g3, _⟩ := g2 v hf
    have hq : (Instr.findKey kt (.int .i64 a) es.toList).run P w = .ok (some (0 + j, V v)) w := by
      unfold jK at g3
      simp [Instr.findKey, run_underlying hk, g3]
    cases ok <;> simp [Instr.lookup, run_underlying hm, hgo, chk_intP hk, hq]
end
end Go.Proofs.YtiofonffmplfmaaGreat

namespace Go.Proofs.YtiofonffmplfmaaGreat
open Go Go.RowKit
open Go.ChangeMaps (setBlock)
set_option linter.unusedSimpArgs false
set_option linter.unusedVariables false

section
variable {β : Type} {P : Program} (V : β → Value)
/-- the entries say the list; each key once -/
def EsJ (es : Array MapEntry) (clock : Nat) (l : List (Int × β)) : Prop := es.toList.map (fun e => (e.key, e.val)) = l.map (fun p => (jK p.1, V p.2)) ∧ (es.toList.map (·.born)).Nodup ∧ (∀ x ∈ es.toList, x.born < clock) ∧ (l.map (·.1)).Nodup
/-- block m is that map -/
def JM (w : World) (m : Nat) (l : List (Int × β)) : Prop := ∃ es clock, w.heap[m]? = some (.map es clock) ∧ EsJ V es clock l
variable {V}
theorem JM.lt {w : World} {m : Nat} {l : List (Int × β)} (h : JM V w m l) : m < w.heap.size := by
  obtain ⟨es, cl, hg, _⟩ := h
  exact (Array.getElem?_eq_some_iff.1 hg).1
theorem JM.keep {w w' : World} {m : Nat} {l : List (Int × β)} (h : JM V w m l) (hb : w'.heap[m]? = w.heap[m]?) : JM V w' m l := by
  obtain ⟨es, cl, hg, h2⟩ := h
  exact ⟨es, cl, hb.trans hg, h2⟩
theorem JM.below {w w' : World} {m B : Nat} {l : List (Int × β)} (h : JM V w m l) (hb : Below B w w') (hm : m < B) : JM V w' m l := h.keep (hb.block m hm)
theorem JM.new {w : World} {m : Nat} {k : Nat} (h : w.heap[m]? = some (.map #[] k)) : JM V w m [] := ⟨#[], k, h, rfl, List.nodup_nil, (fun x hx => by simp at hx), List.nodup_nil⟩
theorem JM.is {w : World} {m : Nat} {l : List (Int × β)} (h : JM V w m l) : MapIs jK V w m l := by
  obtain ⟨es, cl, hg, he, _⟩ := h
  exact ⟨es, cl, hg, he⟩
theorem JM.nd {w : World} {m : Nat} {l : List (Int × β)} (h : JM V w m l) : (l.map (·.1)).Nodup := by
  obtain ⟨es, cl, hg, he⟩ := h
  exact he.2.2.2
theorem findJ_none {a : Int} : ∀ {l : List (Int × β)}, findIn a l = none → a ∉ l.map (·.1)
  | [], _ => by simp
  | p :: l, h => by
    unfold findIn at h
    by_cases hq : a = p.1
    · rw [if_pos hq] at h
      cases h
    · rw [if_neg hq] at h
      simp only [List.map_cons, List.mem_cons, not_or]
      exact ⟨hq, findJ_none h⟩
/-- a key stored -/
theorem JM.put {mt kt et : TypeId} (hm : P.underlying mt = some (.map kt et)) (hk : P.underlying kt = some (.int .i64)) {w : World} {m : Nat} {l : List (Int × β)} (h : JM V w m l) (a : Int) (v : β) :
    ∃ w' l', (Instr.mapUpdate mt (.map (some m)) (.int .i64 a) (V v)).run P w = .ok () w' ∧ JM V w' m l' ∧ (∀ b, findIn b l' = if b = a then some v else findIn b l) ∧ Turns (fun z => z = m) w w' := by
  obtain ⟨es, cl, hg, he, hb, hc, hn⟩ := h
  obtain ⟨g1, g2⟩ := findNow_intV (V := V) a l es.toList 0 he
  have hgo : (getObj m).run P w = .ok (.map es cl) w := by simp [getObj, Sem.run, hg]
  have hso : ∀ o, (setObj m o).run P w = .ok () { w with heap := w.heap.setIfInBounds m o } := fun o => by simp [setObj, Sem.run, hg]
  have hr : m < w.heap.size := (Array.getElem?_eq_some_iff.1 hg).1
  have hT : ∀ o, Turns (fun z => z = m) w { w with heap := w.heap.setIfInBounds m o } := fun o => ⟨rfl, rfl, rfl, by simp, fun b hb hn => by simp [Array.getElem?_setIfInBounds, Ne.symm hn]⟩
  cases hf : findIn a l with
  | none =>
    have hq : (Instr.findKey kt (.int .i64 a) es.toList).run P w = .ok none w := by
      have := g1 hf
      unfold jK at this
      simp [Instr.findKey, run_underlying hk, this]
    refine ⟨{ w with heap := w.heap.setIfInBounds m (.map (es.push { key := jK a, val := V v, born := cl }) (cl + 1)) }, l ++ [(a, v)], ?_, ⟨es.push { key := jK a, val := V v, born := cl }, cl + 1, by simp [hr], by simp [he], ?_, ?_, ?_⟩, fun b => ?_, hT _⟩
    · simp [Instr.mapUpdate, run_underlying hm, hgo, chk_intP hk, hq, hso, jK]
    · rw [Array.toList_push, List.map_append, List.nodup_append]
      refine ⟨hb, by simp, fun x hx y hy e => ?_⟩
      obtain ⟨z, hz, rfl⟩ := List.mem_map.1 hx
      have := hc z hz
      simp at hy
      omega
    · intro x hx
      rw [Array.toList_push, List.mem_append] at hx
      rcases hx with hx | hx
      · have := hc x hx; omega
      · simp at hx; subst hx; simp
    · rw [List.map_append, List.nodup_append]
      refine ⟨hn, by simp, fun x hx y hy e => ?_⟩
      simp at hy
      subst hy
      subst e
      exact findJ_none hf hx
    · show findIn b (l ++ [(a, v)]) = if b = a then some v else findIn b l
      rw [findIn_append]
      by_cases hb : b = a
      · subst hb
        simp [hf, findIn]
      · rw [if_neg hb]
        simp [findIn, hb]
  | some u =>
    obtain ⟨j, g3, g4, g5⟩ := g2 u hf
    have hq : (Instr.findKey kt (.int .i64 a) es.toList).run P w = .ok (some (j, V u)) w := by
      unfold jK at g3
      rw [Nat.zero_add] at g3
      simp [Instr.findKey, run_underlying hk, g3]
    have hel : es.size = l.length := by
      have := congrArg List.length he
      simpa using this
    have hjl : j < l.length := (List.getElem?_eq_some_iff.1 g4).1
    have hkey : ((Option.map (fun x => x.key) es[j]?).getD (Value.int .i64 a)) = .int .i64 a := by
      have h2 := congrArg (fun z => (z[j]?).map Prod.fst) he
      simp only [List.getElem?_map, g4, Option.map_some] at h2
      rw [Array.getElem?_toList] at h2
      cases hq : es[j]? with
      | none => rw [hq] at h2; simp at h2
      | some e =>
        rw [hq] at h2
        simp at h2
        simp [h2, jK]
    have hst : (Instr.keyThatStays (.int .i64 a) (.int .i64 a)).run P w = .ok (.int .i64 a) w := by
      have hb : Instr.sameBits 10000 (Value.int .i64 a) (Value.int .i64 a) = true := by
        rw [show (10000 : Nat) = 9999 + 1 from rfl, Instr.sameBits]
        simp
      simp [Instr.keyThatStays, hb]
    have hbr : (es.modify j fun e => { key := .int .i64 a, val := V v, born := e.born }).toList.map (·.born) = es.toList.map (·.born) := by
      apply List.ext_getElem?
      intro i
      simp only [List.getElem?_map, Array.getElem?_toList, Array.getElem?_modify]
      by_cases hij : j = i
      · subst hij
        rw [if_pos rfl]
        cases es[j]? <;> rfl
      · rw [if_neg hij]
    refine ⟨{ w with heap := w.heap.setIfInBounds m (.map (es.modify j fun e => { key := .int .i64 a, val := V v, born := e.born }) cl) }, l.set j (a, v), ?_, ⟨es.modify j fun e => { key := .int .i64 a, val := V v, born := e.born }, cl, by simp [hr], ?_, by rw [hbr]; exact hb, ?_, ?_⟩, fun b => find_setV a b v l j u g4 g5, hT _⟩
    · simp only [Instr.mapUpdate, run_underlying hm, Sem.run_bind, hgo, chk_intP hk, hq, Result.andThen_ok, hkey, hst, hso]
    · apply List.ext_getElem?
      intro i
      have h2 := congrArg (fun z => z[i]?) he
      simp only [List.getElem?_map, Array.getElem?_toList] at h2 ⊢
      rw [Array.getElem?_modify, List.getElem?_set]
      by_cases hij : j = i
      · subst hij
        rw [if_pos rfl, if_pos rfl, if_pos hjl]
        rw [Array.getElem?_eq_getElem (by omega)]
        simp [jK]
      · rw [if_neg hij, if_neg hij]
        exact h2
    · intro x hx
      have : x.born ∈ (es.modify j fun e => { key := .int .i64 a, val := V v, born := e.born }).toList.map (·.born) := List.mem_map.2 ⟨x, hx, rfl⟩
      rw [hbr] at this
      obtain ⟨y, hy, e⟩ := List.mem_map.1 this
      rw [← e]
      exact hc y hy
    · have e1 : (l.set j (a, v)).map (·.1) = l.map (·.1) := by
        apply List.ext_getElem?
        intro i
        simp only [List.getElem?_map, List.getElem?_set]
        by_cases hij : j = i
        · subst hij
          rw [if_pos rfl, if_pos hjl, g4]
          rfl
        · rw [if_neg hij]
      rw [e1]
      exact hn
/-- block r goes over the map in block b; these keys have come -/
def ItJ (V : β → Value) (w : World) (r b : Nat) (l : List (Int × β)) (done : List Int) : Prop := ∃ es clock since seen c0, w.heap[r]? = some (.mapIter (some b) since seen c0) ∧ w.heap[b]? = some (.map es clock) ∧ EsJ V es since l ∧ since ≤ c0 ∧ since ≤ clock ∧ done.Nodup ∧ (∀ e ∈ es.toList, ∀ x, e.key = jK x → (seen.contains e.born = true ↔ x ∈ done)) ∧ (∀ x ∈ done, x ∈ l.map (·.1)) ∧ seen.size = done.length
/-- how many have come, by the iterator alone -/
def itN (w : World) (r : Nat) : Nat := match w.heap[r]? with
  | some (.mapIter _ _ seen _) => seen.size
  | _ => 0
theorem ItJ.keep {w w' : World} {r b : Nat} {l : List (Int × β)} {done : List Int} (h : ItJ V w r b l done) (hr : w'.heap[r]? = w.heap[r]?) (hb : w'.heap[b]? = w.heap[b]?) : ItJ V w' r b l done := by
  obtain ⟨es, c, s, sn, c0, h1, h2, rest⟩ := h
  exact ⟨es, c, s, sn, c0, hr.trans h1, hb.trans h2, rest⟩
theorem ItJ.lt {w : World} {r b : Nat} {l : List (Int × β)} {done : List Int} (h : ItJ V w r b l done) : r < w.heap.size ∧ b < w.heap.size := by
  obtain ⟨es, c, s, sn, c0, h1, h2, rest⟩ := h
  exact ⟨(Array.getElem?_eq_some_iff.1 h1).1, (Array.getElem?_eq_some_iff.1 h2).1⟩
theorem ItJ.le {w : World} {r b : Nat} {l : List (Int × β)} {done : List Int} (h : ItJ V w r b l done) : done.length ≤ l.length := by
  obtain ⟨es, c, s, sn, c0, h1, h2, h3, h4, h5, h6, h7, h8, _⟩ := h
  have := h6.length_le_of_subset (l₂ := l.map (·.1)) fun x hx => h8 x hx
  simpa using this
theorem ItJ.num {w : World} {r b : Nat} {l : List (Int × β)} {done : List Int} (h : ItJ V w r b l done) : itN w r = done.length := by
  obtain ⟨es, c, s, sn, c0, h1, h2, h3, h4, h5, h6, h7, h8, h9⟩ := h
  unfold itN
  rw [h1]
  exact h9
theorem ItJ.sub {w : World} {r b : Nat} {l : List (Int × β)} {done : List Int} (h : ItJ V w r b l done) : ∀ x ∈ done, x ∈ l.map (·.1) := by
  obtain ⟨es, c, s, sn, c0, h1, h2, h3, h4, h5, h6, h7, h8, h9⟩ := h
  exact h8
theorem ItJ.map {w : World} {r b : Nat} {l : List (Int × β)} {done : List Int} (h : ItJ V w r b l done) : JM V w b l := by
  obtain ⟨es, c, s, sn, c0, h1, h2, h3, h4, h5, _⟩ := h
  exact ⟨es, c, h2, h3.1, h3.2.1, (fun x hx => Nat.lt_of_lt_of_le (h3.2.2.1 x hx) h5), h3.2.2.2⟩
theorem jK_inj {a b : Int} (h : jK a = jK b) : a = b := by
  unfold jK at h
  injection h
theorem ej_mem {es : Array MapEntry} {c : Nat} {l : List (Int × β)} (h : EsJ V es c l) {e : MapEntry} (he : e ∈ es.toList) : ∃ x v, (x, v) ∈ l ∧ e.key = jK x ∧ e.val = V v := by
  have : (e.key, e.val) ∈ es.toList.map (fun e => (e.key, e.val)) := List.mem_map.2 ⟨e, he, rfl⟩
  rw [h.1] at this
  obtain ⟨x, hx, hq⟩ := List.mem_map.1 this
  simp only [Prod.mk.injEq] at hq
  exact ⟨x.1, x.2, hx, hq.1.symm, hq.2.symm⟩
theorem ej_of {es : Array MapEntry} {c : Nat} {l : List (Int × β)} (h : EsJ V es c l) {x : Int} (hx : x ∈ l.map (·.1)) : ∃ e ∈ es.toList, e.key = jK x := by
  obtain ⟨p, hp, rfl⟩ := List.mem_map.1 hx
  have : (jK p.1, V p.2) ∈ l.map (fun a => (jK a.1, V a.2)) := List.mem_map.2 ⟨p, hp, rfl⟩
  rw [← h.1] at this
  obtain ⟨e, he, hq⟩ := List.mem_map.1 this
  simp only [Prod.mk.injEq] at hq
  exact ⟨e, he, hq.1⟩
theorem ej_one {es : Array MapEntry} {c : Nat} {l : List (Int × β)} (h : EsJ V es c l) {e f : MapEntry} (he : e ∈ es.toList) (hf : f ∈ es.toList) (hk : e.key = f.key) : e = f := by
  have hnd : (es.toList.map (fun e => e.key)).Nodup := by
    have h1 : es.toList.map (fun e => e.key) = (l.map (·.1)).map jK := by
      have := congrArg (List.map Prod.fst) h.1
      rw [List.map_map, List.map_map] at this
      rw [List.map_map]
      exact this
    rw [h1, List.Nodup, List.pairwise_map]
    exact h.2.2.2.imp fun hne e => hne (jK_inj e)
  obtain ⟨i, hi, rfl⟩ := List.getElem_of_mem he
  obtain ⟨j, hj, rfl⟩ := List.getElem_of_mem hf
  have : i = j := by
    refine (List.getElem_inj (h₀ := by simpa using hi) (h₁ := by simpa using hj) hnd).1 ?_
    simpa using hk
  subst this
  rfl
theorem findJ_of {a : Int} {v : β} : ∀ {l : List (Int × β)}, (l.map (·.1)).Nodup → (a, v) ∈ l → findIn a l = some v
  | [], _, h => by simp at h
  | p :: l, hn, h => by
    simp only [List.map_cons, List.nodup_cons] at hn
    unfold findIn
    rcases List.mem_cons.1 h with h | h
    · rw [if_pos (by rw [← h])]
      rw [← h]
    · rw [if_neg, findJ_of hn.2 h]
      intro e
      exact hn.1 (e ▸ List.mem_map.2 ⟨_, h, rfl⟩)
section
variable {ops : Array Oper} {rest : List Oper} {o : Oper} {a : Act} {w : World} {Q : Exit → Act → World → Prop}
theorem wpList_range_J (hg : o.guard = none) (m : Operand) (t : TypeId) (hop : o.op = Op.range t m) (kt et : TypeId) (ht : P.underlying t = some (.map kt et)) (b : Nat) (l : List (Int × β)) (hm : a.eval m = .map (some b)) (h : JM V w b l)
    (hK : ∀ w', ItJ V w' w.heap.size b l [] → Below w.heap.size w w' → w'.heap.size = w.heap.size + 1 → wpList P ops Q rest (a.put o.dst (.pointer (some ⟨w.heap.size, 0, none⟩))) w') : wpList P ops Q (o :: rest) a w := by
  obtain ⟨es, clock, h1, h2⟩ := h
  have hb : b < w.heap.size := (Array.getElem?_eq_some_iff.1 h1).1
  refine wpList_plain hg fun K' hK' => ?_
  have hrun := run_range_map (P := P) w t kt et b es clock ht h1
  unfold Oper.wp
  simp [execOp, hop, hm, hrun, Result.andThen]
  refine hK' _ _ (hK _ ⟨es, clock, clock, #[], clock, ?_, ?_, h2, Nat.le_refl _, Nat.le_refl _, List.nodup_nil, fun e he x hx => by simp, (fun x hx => by simp at hx), rfl⟩ ((Below.refl _ w).alloc (Nat.le_refl _) _) (by simp))
  · exact heap_alloc_new _ _
  · rw [heap_alloc_old _ _ hb]; exact h1
theorem wpList_next_J (hg : o.guard = none) (it : Operand) (hop : o.op = Op.next it false) (r b : Nat) (l : List (Int × β)) (done : List Int) (hit : a.eval it = .pointer (some ⟨r, 0, none⟩)) (h : ItJ V w r b l done) (hrb : r ≠ b)
    (hDone : (∀ x ∈ l.map (·.1), x ∈ done) → wpList P ops Q rest (a.put o.dst (.tuple #[.bool false])) w)
    (hMore : ∀ (x : Int) (v : β) (w' : World), (x, v) ∈ l → x ∉ done → ItJ V w' r b l (done ++ [x]) → Turns (fun z => z = r) w w' → (Instr.entry (.pointer (some ⟨r, 0, none⟩))).run P w' = .ok (.tuple #[.int .i64 x, V v]) w' → wpList P ops Q rest (a.put o.dst (.tuple #[.bool true, .int .i64 x, V v])) w') :
    wpList P ops Q (o :: rest) a w := by
  obtain ⟨es, clock, since, seen, c0, h1, h2, h3, h4, h5, h6, h7, h8, h9⟩ := h
  refine wpList_plain hg fun K' hK' => ?_
  unfold Oper.wp
  rcases run_next_at (P := P) w o.type r b since c0 seen es clock h1 h2 h3.2.2.1 h4 with ⟨g0, hrun⟩ | ⟨e, he, w1, hw1, hrun⟩
  · simp [execOp, hop, hit, hrun, Result.andThen]
    refine hK' _ _ (hDone fun x hx => ?_)
    obtain ⟨e, he, hek⟩ := ej_of h3 hx
    exact (h7 e he x hek).1 (all_seen es seen g0 e he)
  · obtain ⟨hem, hes⟩ := mem_left he
    obtain ⟨x, v, hxl, hxk, hxv⟩ := ej_mem h3 hem
    have hxd : x ∉ done := fun hd => by
      have := (h7 e hem x hxk).2 hd
      rw [this] at hes
      cases hes
    rw [hxk, hxv] at hrun
    have hr : r < w.heap.size := (Array.getElem?_eq_some_iff.1 h1).1
    have hh : w1.heap = w.heap := by rcases hw1 with rfl | rfl <;> rfl
    have e1 : (setBlock w1 r (.mapIter (some b) since (seen.push e.born) clock)).heap[r]? = some (.mapIter (some b) since (seen.push e.born) clock) := by simp [setBlock, hh, hr]
    have e2 : ∀ k, k ≠ r → (setBlock w1 r (.mapIter (some b) since (seen.push e.born) clock)).heap[k]? = w.heap[k]? := fun k hk => by simp [setBlock, hh, Array.getElem?_setIfInBounds, Ne.symm hk]
    have hen := run_entry_at (P := P) (setBlock w1 r (.mapIter (some b) since (seen.push e.born) clock)) r b since seen es clock e e1 ((e2 b (Ne.symm hrb)).trans h2) hem h3.2.1
    rw [hxk, hxv] at hen
    unfold jK at hrun hen
    simp [execOp, hop, hit, hrun, Result.andThen]
    refine hK' _ _ (hMore x v _ hxl hxd ⟨es, clock, since, seen.push e.born, clock, e1, (e2 b (Ne.symm hrb)).trans h2, h3, h5, h5, ?_, ?_, ?_, by simp [h9]⟩ ⟨?_, ?_, ?_, ?_, fun k hk hn => e2 k hn⟩ hen)
    · rw [List.nodup_append]
      exact ⟨h6, by simp, fun y hy z hz q => by simp at hz; subst hz; subst q; exact hxd hy⟩
    · intro f hf y hy
      rw [contains_push, Bool.or_eq_true, List.mem_append, List.mem_singleton, h7 f hf y hy]
      refine or_congr Iff.rfl ⟨fun q => ?_, fun q => ?_⟩
      · have := born_inj h3.2.1 hf hem (beq_iff_eq.1 q)
        subst this
        rw [hxk] at hy
        exact (jK_inj hy).symm
      · subst q
        rw [ej_one h3 hf hem (by rw [hy, hxk])]
        exact beq_self_eq_true _
    · intro y hy
      rw [List.mem_append, List.mem_singleton] at hy
      rcases hy with hy | rfl
      · exact h8 y hy
      · exact List.mem_map.2 ⟨_, hxl, rfl⟩
    · rcases hw1 with rfl | rfl <;> rfl
    · rcases hw1 with rfl | rfl <;> rfl
    · rcases hw1 with rfl | rfl <;> rfl
    · simp [setBlock, hh]
end
end
end Go.Proofs.YtiofonffmplfmaaGreat
