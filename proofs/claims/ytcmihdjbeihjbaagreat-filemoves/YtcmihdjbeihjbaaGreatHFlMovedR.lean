/- Moves of bytes: the statement's moved, where bytes are taken out. -/
import Derived.Test.YtcmihdjbeihjbaaGreatHFlPI
import Derived.Handy
import Derived.Test.YtcmihdjbeihjbaaGreatHFlDone
import Derived.Test.YtcmihdjbeihjbaaGreatHInsPut

namespace Go.Proofs.YtcmihdjbeihjbaaGreat
open Go Go.RowKit
set_option linter.unusedSimpArgs false
set_option linter.unusedVariables false
section
variable {w : World} {x mf ml mc : Nat} {cp : Option Addr} {top : Int} {H : Nat → Hd} {D : Nat → Nat → Nat → Nat} {n sz st n' sz' st' : Nat} {F F' : Nat → Nat}
set_option maxRecDepth 100000 in
set_option maxHeartbeats 4000000 in
theorem IM.copyNone (h : IM w x mf ml mc cp top H D) (hf : Fi H D n sz st F) (hg : Fi H D n' sz' st' F') (hF : ∀ p, p < sz → F p < 256) (a m p s' : Nat) (ha : a ≤ 9223372036854775807) (hm : m ≤ 9223372036854775807) (hk : thN sz a m = 0) (hp : p ≤ 1048576) : Calls Tryz.prog 23 #[.pointer (some ⟨x, 0, none⟩), .int .i64 (n : Int), .int .i64 (a : Int), .int .i64 (m : Int), .int .i64 (n' : Int), .int .i64 (p : Int), .int .u64 ((s' : Nat) : Int)] w fun e w' => e = .returned (.tuple #[.int .i64 0, .int .i64 0]) ∧ Below w.heap.size w w' := by
  have H1 := h.twoF hf hg
  have hsz := hf.le
  have hzi : ∀ w, (zeroValue 62).run Tryz.prog w = .ok (.agg if0) w := zero_info
  have HTH : Hid (∀ V : World, Calls Tryz.prog 34 #[.agg (fiC n sz st), .int .i64 (a : Int), .int .i64 (m : Int)] V fun e w' => e = .returned (.int .i64 0) ∧ Below V.heap.size V w') := fun V => by
    have := there_any n sz st a m hf.le ha hm V
    rw [hk] at this
    exact this
  have HTB : Hid (∀ V : World, Calls Tryz.prog 42 #[.int .i64 (p : Int), .int .i64 0] V fun e w' => e = .returned (.bool false) ∧ w' = V) := fun V => by
    have := tooBig_any (p : Int) 0 (by omega) (by omega) V
    rw [decide_eq_false (by omega)] at this
    exact this
  have HTX : Hid (∀ V, Below w.heap.size w V → Calls Tryz.prog 33 #[.pointer (some ⟨x, 0, none⟩), .agg (fiC n sz st), .int .i64 (a : Int), .int .i64 0] V fun e w' => e = .returned (.tuple #[.string (strN (fun j => F (a + j)) 0), .int .i64 0]) ∧ Below V.heap.size V w') := fun V hV => text_any (L := D n) hf.le hF (fun q i hi hp => hf.leaf q i hi hp) (fun U hU q hq => ((h.below hV).below hU).leafF hf q hq) a 0 ha (.inl rfl)
  have HWR : Hid (∀ V, Below w.heap.size w V → Calls Tryz.prog 18 #[.pointer (some ⟨x, 0, none⟩), .agg (fiC n' sz' st'), .int .i64 (p : Int), .string (strN (fun j => F (a + j)) 0), .int .u64 ((s' : Nat) : Int)] V fun e w' => e = .returned (.int .i64 0) ∧ Below V.heap.size V w') := fun V _ => write_none _ n' sz' st' p s' hp V
  obtain ⟨B, hB⟩ : ∃ B : ByteArray, strN (fun j => F (a + j)) 0 = B := ⟨_, rfl⟩
  rw [hB] at HTX HWR
  have a0 : ¬ ((a : Int) < 0) := by omega
  have m0 : ¬ ((m : Int) < 0) := by omega
  have p0 : ¬ ((p : Int) < 0) := by omega
  clear h hf hg hF hB hk
  go_enter Tryz.func23, Tryz.ntmps23
  go_wp2_with fail
  refine H1.mono ?_
  rintro e w2 ⟨rfl, hb2⟩
  have u1 : Blk ((w2.alloc (.cells if0 62)).alloc (.cells if0 62)) w2.heap.size 62 if0 := (Blk.new _ _ _).alloc _
  have v1 : Blk ((w2.alloc (.cells if0 62)).alloc (.cells if0 62)) (w2.heap.size + 1) 62 if0 := Blk.new1 _ _ _ _
  have v2 : Blk (((w2.alloc (.cells if0 62)).alloc (.cells if0 62)).setRow w2.heap.size (fiC n sz st)) (w2.heap.size + 1) 62 if0 := v1.other _ (by omega)
  have u3 : Blk ((((w2.alloc (.cells if0 62)).alloc (.cells if0 62)).setRow w2.heap.size (fiC n sz st)).setRow (w2.heap.size + 1) (fiC n' sz' st')) w2.heap.size 62 (fiC n sz st) := (u1.set _).other _ (by omega)
  have v3 : Blk ((((w2.alloc (.cells if0 62)).alloc (.cells if0 62)).setRow w2.heap.size (fiC n sz st)).setRow (w2.heap.size + 1) (fiC n' sz' st')) (w2.heap.size + 1) 62 (fiC n' sz' st') := v2.set _
  have hb3 : Below w.heap.size w ((((w2.alloc (.cells if0 62)).alloc (.cells if0 62)).setRow w2.heap.size (fiC n sz st)).setRow (w2.heap.size + 1) (fiC n' sz' st')) := below_setRow (below_setRow ((hb2.alloc hb2.size _).alloc (by have := hb2.size; simp; omega) _) hb2.size _) (by have := hb2.size; omega) _
  clear v1 hb2 H1
  have H2 := HTH.out ((((w2.alloc (.cells if0 62)).alloc (.cells if0 62)).setRow w2.heap.size (fiC n sz st)).setRow (w2.heap.size + 1) (fiC n' sz' st'))
  go_wp2_with (first
    | (refine wpList_store_row (by rfl) 62 _ _ (by rfl) (w2.heap.size) (fiC n sz st) (by rfl) (by rfl) 62 (if0) (by exact u1) (sizeInfo.trans (by rfl)) (by rfl) (fi_all _ _ _) ?_; simp only [Act.put, List.setIfInBounds_toArray, List.set_cons_zero, List.set_cons_succ])
    | (refine wpList_store_row (by rfl) 62 _ _ (by rfl) (w2.heap.size + 1) (fiC n' sz' st') (by rfl) (by rfl) 62 (if0) (by exact v2) (sizeInfo.trans (by rfl)) (by rfl) (fi_all _ _ _) ?_; simp only [Act.put, List.setIfInBounds_toArray, List.set_cons_zero, List.set_cons_succ])
    | (refine wpList_load_row (by rfl) 62 _ (by rfl) (w2.heap.size) (by rfl) 62 (fiC n sz st) (0, 0) _ (by exact u3) Tryz.underlying62 (by rfl) (sizeInfo.trans (by rfl)) ?_; simp only [Act.put, List.setIfInBounds_toArray, List.set_cons_zero, List.set_cons_succ])
    | fail)
  refine H2.mono ?_
  rintro e w3 ⟨rfl, hb4⟩
  have hE3 : Below w.heap.size w w3 := hb3.trans (hb4.mono hb3.size)
  have u4 := u3.below hb4 u3.lt
  have v4 := v3.below hb4 v3.lt
  have H3 := HTX.out w3 hE3
  clear H2 u1 v2 u3 v3 hb3 hb4 HTH
  go_wp2_with fail
  refine (HTB.out _).mono ?_
  rintro e w9 ⟨rfl, hw9⟩
  rw [hw9]
  clear hw9 w9 HTB
  go_wp2_with (first
    | (refine wpList_load_row (by rfl) 62 _ (by rfl) (w2.heap.size) (by rfl) 62 (fiC n sz st) (0, 0) _ (by exact u4) Tryz.underlying62 (by rfl) (sizeInfo.trans (by rfl)) ?_; simp only [Act.put, List.setIfInBounds_toArray, List.set_cons_zero, List.set_cons_succ])
    | fail)
  refine H3.mono ?_
  rintro e w5 ⟨rfl, hb5⟩
  have hE5 : Below w.heap.size w w5 := hE3.trans (hb5.mono hE3.size)
  have v5 := v4.below hb5 v4.lt
  have H4 := HWR.out w5 hE5
  clear H3 u4 v4 hE3 hb5
  go_wp2_with (first
    | (refine wpList_load_row (by rfl) 62 _ (by rfl) (w2.heap.size + 1) (by rfl) 62 (fiC n' sz' st') (0, 0) _ (by exact v5) Tryz.underlying62 (by rfl) (sizeInfo.trans (by rfl)) ?_; simp only [Act.put, List.setIfInBounds_toArray, List.set_cons_zero, List.set_cons_succ])
    | fail)
  refine H4.mono ?_
  rintro e w6 ⟨rfl, hb6⟩
  have HE6 : Hid (Below w.heap.size w w6) := hE5.trans (hb6.mono hE5.size)
  clear H4 hb6
  go_wp2_with fail
  go_ret2
  exact ⟨rfl, HE6.out⟩
set_option maxRecDepth 100000 in
set_option maxHeartbeats 4000000 in
theorem IM.copyBig (h : IM w x mf ml mc cp top H D) (hf : Fi H D n sz st F) (hg : Fi H D n' sz' st' F') (a m p k s' : Nat) (ha : a ≤ 9223372036854775807) (hm : m ≤ 9223372036854775807) (hp0 : p ≤ 9223372036854775807) (hk : thN sz a m = k) (hp : 1048576 < p + k) : Calls Tryz.prog 23 #[.pointer (some ⟨x, 0, none⟩), .int .i64 (n : Int), .int .i64 (a : Int), .int .i64 (m : Int), .int .i64 (n' : Int), .int .i64 (p : Int), .int .u64 ((s' : Nat) : Int)] w fun e w' => e = .returned (.tuple #[.int .i64 0, .int .i64 160]) ∧ Below w.heap.size w w' := by
  have H1 := h.twoF hf hg
  have hsz := hf.le
  have hak : k ≤ 1048576 := by unfold thN at hk; omega
  have hzi : ∀ w, (zeroValue 62).run Tryz.prog w = .ok (.agg if0) w := zero_info
  have HTH : Hid (∀ V : World, Calls Tryz.prog 34 #[.agg (fiC n sz st), .int .i64 (a : Int), .int .i64 (m : Int)] V fun e w' => e = .returned (.int .i64 (k : Int)) ∧ Below V.heap.size V w') := fun V => by
    have := there_any n sz st a m hf.le ha hm V
    rw [hk] at this
    exact this
  have HTB : Hid (∀ V : World, Calls Tryz.prog 42 #[.int .i64 (p : Int), .int .i64 (k : Int)] V fun e w' => e = .returned (.bool true) ∧ w' = V) := fun V => by
    have := tooBig_any (p : Int) k (by omega) (by omega) V
    rw [decide_eq_true (by omega)] at this
    exact this
  have a0 : ¬ ((a : Int) < 0) := by omega
  have m0 : ¬ ((m : Int) < 0) := by omega
  have p0 : ¬ ((p : Int) < 0) := by omega
  clear h hf hg hk
  go_enter Tryz.func23, Tryz.ntmps23
  go_wp2_with fail
  refine H1.mono ?_
  rintro e w2 ⟨rfl, hb2⟩
  have u1 : Blk ((w2.alloc (.cells if0 62)).alloc (.cells if0 62)) w2.heap.size 62 if0 := (Blk.new _ _ _).alloc _
  have v1 : Blk ((w2.alloc (.cells if0 62)).alloc (.cells if0 62)) (w2.heap.size + 1) 62 if0 := Blk.new1 _ _ _ _
  have v2 : Blk (((w2.alloc (.cells if0 62)).alloc (.cells if0 62)).setRow w2.heap.size (fiC n sz st)) (w2.heap.size + 1) 62 if0 := v1.other _ (by omega)
  have u3 : Blk ((((w2.alloc (.cells if0 62)).alloc (.cells if0 62)).setRow w2.heap.size (fiC n sz st)).setRow (w2.heap.size + 1) (fiC n' sz' st')) w2.heap.size 62 (fiC n sz st) := (u1.set _).other _ (by omega)
  have v3 : Blk ((((w2.alloc (.cells if0 62)).alloc (.cells if0 62)).setRow w2.heap.size (fiC n sz st)).setRow (w2.heap.size + 1) (fiC n' sz' st')) (w2.heap.size + 1) 62 (fiC n' sz' st') := v2.set _
  have hb3 : Below w.heap.size w ((((w2.alloc (.cells if0 62)).alloc (.cells if0 62)).setRow w2.heap.size (fiC n sz st)).setRow (w2.heap.size + 1) (fiC n' sz' st')) := below_setRow (below_setRow ((hb2.alloc hb2.size _).alloc (by have := hb2.size; simp; omega) _) hb2.size _) (by have := hb2.size; omega) _
  clear v1 hb2 H1
  have H2 := HTH.out ((((w2.alloc (.cells if0 62)).alloc (.cells if0 62)).setRow w2.heap.size (fiC n sz st)).setRow (w2.heap.size + 1) (fiC n' sz' st'))
  go_wp2_with (first
    | (refine wpList_store_row (by rfl) 62 _ _ (by rfl) (w2.heap.size) (fiC n sz st) (by rfl) (by rfl) 62 (if0) (by exact u1) (sizeInfo.trans (by rfl)) (by rfl) (fi_all _ _ _) ?_; simp only [Act.put, List.setIfInBounds_toArray, List.set_cons_zero, List.set_cons_succ])
    | (refine wpList_store_row (by rfl) 62 _ _ (by rfl) (w2.heap.size + 1) (fiC n' sz' st') (by rfl) (by rfl) 62 (if0) (by exact v2) (sizeInfo.trans (by rfl)) (by rfl) (fi_all _ _ _) ?_; simp only [Act.put, List.setIfInBounds_toArray, List.set_cons_zero, List.set_cons_succ])
    | (refine wpList_load_row (by rfl) 62 _ (by rfl) (w2.heap.size) (by rfl) 62 (fiC n sz st) (0, 0) _ (by exact u3) Tryz.underlying62 (by rfl) (sizeInfo.trans (by rfl)) ?_; simp only [Act.put, List.setIfInBounds_toArray, List.set_cons_zero, List.set_cons_succ])
    | fail)
  refine H2.mono ?_
  rintro e w3 ⟨rfl, hb4⟩
  have hE3 : Below w.heap.size w w3 := hb3.trans (hb4.mono hb3.size)
  have u4 := u3.below hb4 u3.lt
  have v4 := v3.below hb4 v3.lt
  clear H2 u1 v2 u3 v3 hb3 hb4 HTH
  go_wp2_with fail
  refine (HTB.out _).mono ?_
  rintro e w9 ⟨rfl, hw9⟩
  rw [hw9]
  clear hw9 w9 HTB
  go_wp2_with fail
  go_ret2
  exact ⟨rfl, hE3⟩
end
end Go.Proofs.YtcmihdjbeihjbaaGreat

namespace Go.Proofs.YtcmihdjbeihjbaaGreat
open Go Go.RowKit
set_option linter.unusedSimpArgs false
set_option linter.unusedVariables false
theorem ins_text (s t : ByteArray) (z : Nat) (hz : z ≤ s.size) : s.extract 0 z ++ t ++ s.extract z s.size = strN (wrF (tbyte s) s.size (t ++ strN (fun j => tbyte s (z + j)) (s.size - z)) z) (s.size + t.size) := by
  have x1 := extract_size s 0 z hz
  have x2 := extract_size s z s.size (Nat.le_refl _)
  refine text_ext (by rw [cat_size, cat_size, x1, x2, strN_size]; omega) fun j hj => ?_
  rw [cat_size, cat_size, x1, x2] at hj
  have y1 : (t ++ strN (fun j => tbyte s (z + j)) (s.size - z)).size = t.size + (s.size - z) := by rw [cat_size, strN_size]
  rw [strN_at _ _ _ (by omega) (wrF_lt (fun p _ => tbyte_lt _ _) _ _ _), cat_byte _ _ _ (by rw [cat_size, x1, x2]; omega)]
  unfold wrF
  rw [y1]
  by_cases h1 : j < z
  · rw [if_pos (by rw [cat_size, x1]; omega), cat_byte _ _ _ (by rw [x1]; omega), if_pos (by rw [x1]; omega), tbyte_extract s 0 z j hz (by omega), if_neg (by omega), if_pos (by omega), Nat.zero_add]
  · rw [if_pos (show z ≤ j ∧ j < z + (t.size + (s.size - z)) by omega), cat_byte t (strN (fun j => tbyte s (z + j)) (s.size - z)) (j - z) (by rw [strN_size]; omega)]
    by_cases h2 : j - z < t.size
    · rw [if_pos (by rw [cat_size, x1]; omega), cat_byte _ _ _ (by rw [x1]; omega), if_neg (by rw [x1]; omega), if_pos h2, x1, Nat.sub_zero]
    · rw [if_neg (by rw [cat_size, x1]; omega), if_neg h2, cat_size, x1, strN_at (fun j => tbyte s (z + j)) (s.size - z) (j - z - t.size) (by omega) (tbyte_lt _ _), tbyte_extract s z s.size _ (Nat.le_refl _) (by omega)]
      congr 1
      omega
theorem rem_text (s : ByteArray) (z g : Nat) (hz : z + g ≤ s.size) : s.extract 0 z ++ s.extract (z + g) s.size = strN (wrF (tbyte s) s.size (strN (fun j => tbyte s (z + g + j)) (s.size - z - g)) z) (s.size - g) := by
  have x1 := extract_size s 0 z (by omega)
  have x2 := extract_size s (z + g) s.size (Nat.le_refl _)
  refine text_ext (by rw [cat_size, x1, x2, strN_size]; omega) fun j hj => ?_
  rw [cat_size, x1, x2] at hj
  rw [strN_at _ _ _ (by omega) (wrF_lt (fun p _ => tbyte_lt _ _) _ _ _), cat_byte _ _ _ (by rw [x1, x2]; omega), x1]
  unfold wrF
  rw [strN_size]
  by_cases h1 : j < z
  · rw [if_pos (by omega), tbyte_extract s 0 z j (by omega) (by omega), if_neg (by omega), if_pos (by omega), Nat.zero_add]
  · rw [if_neg (by omega), if_pos (by omega), strN_at (fun j => tbyte s (z + g + j)) (s.size - z - g) (j - z) (by omega) (tbyte_lt _ _), tbyte_extract s (z + g) s.size _ (Nat.le_refl _) (by omega)]
    congr 1
section
variable {w V : World} {x mf ml mc : Nat} {cp : Option Addr} {sm sk : ByteArray} {tm tk : Nat}
theorem PI.turnM (h : PI w V x mf ml mc cp sm tm sk tk) {H : Nat → Hd} {D : Nat → Nat → Nat → Nat} (hI : IM V x mf ml mc cp 3 H D) (h2 : Fi H D 2 sm.size tm (tbyte sm)) (h3 : Fi H D 3 sk.size tk (tbyte sk)) {V' : World} {z' s' : Nat} {G : Nat → Nat} (hN : Now V' x mf ml mc cp 3 H D 2 z' s' G) (hT : Turns (fun z => z = ml ∨ z = mf) V V') (hG : ∀ p, p < z' → G p < 256) : PI w V' x mf ml mc cp (strN G z') s' sk tk := by
  have hB : BS w V x mf ml mc cp 3 H D 2 sm.size tm (tbyte sm) := ⟨⟨H, D, hI, h2, fun _ _ => ⟨rfl, rfl⟩⟩, h.bel, h.gl, h.gf, fun p _ => tbyte_lt _ _⟩
  have hB' := (hB.of_now (fun _ _ => ⟨rfl, rfl⟩) hN hT hG).text
  obtain ⟨H', D', i1, i2, i3⟩ := hB'.now
  exact ⟨⟨H', D', i1, i2, h3.same (i3 3 (by decide)).1 (i3 3 (by decide)).2⟩, hB'.bel, h.gl, h.gf⟩
theorem PI.turnK (h : PI w V x mf ml mc cp sm tm sk tk) {H : Nat → Hd} {D : Nat → Nat → Nat → Nat} (hI : IM V x mf ml mc cp 3 H D) (h2 : Fi H D 2 sm.size tm (tbyte sm)) (h3 : Fi H D 3 sk.size tk (tbyte sk)) {V' : World} {z' s' : Nat} {G : Nat → Nat} (hN : Now V' x mf ml mc cp 3 H D 3 z' s' G) (hT : Turns (fun z => z = ml ∨ z = mf) V V') (hG : ∀ p, p < z' → G p < 256) : PI w V' x mf ml mc cp sm tm (strN G z') s' := by
  have hB : BS w V x mf ml mc cp 3 H D 3 sk.size tk (tbyte sk) := ⟨⟨H, D, hI, h3, fun _ _ => ⟨rfl, rfl⟩⟩, h.bel, h.gl, h.gf, fun p _ => tbyte_lt _ _⟩
  have hB' := (hB.of_now (fun _ _ => ⟨rfl, rfl⟩) hN hT hG).text
  obtain ⟨H', D', i1, i2, i3⟩ := hB'.now
  exact ⟨⟨H', D', i1, h2.same (i3 2 (by decide)).1 (i3 2 (by decide)).2, i2⟩, hB'.bel, h.gl, h.gf⟩
theorem PI.insM (h : PI w V x mf ml mc cp sm tm sk tk) (a : Int) (ha : -9223372036854775808 ≤ a ∧ a ≤ 9223372036854775807) (t : ByteArray) (ht : t.size ≤ 140737488355328) (t' : Nat) (R : Dn) (hR : inR sm tm a t t' = R) : Calls Tryz.prog 20 #[.pointer (some ⟨x, 0, none⟩), .int .i64 2, .int .i64 a, .string t, .int .u64 ((t' : Nat) : Int)] V fun e w' => e = .returned (.int .i64 R.err) ∧ PI w w' x mf ml mc cp R.s R.st sk tk ∧ Turns (fun z => z = ml ∨ z = mf) V w' := by
  obtain ⟨H, D, hI, h2, h3⟩ := h.im
  have hsz := h2.le
  unfold inR at hR
  by_cases h0 : a < 0 ∨ (sm.size : Int) < a
  · rw [if_pos h0] at hR
    subst hR
    refine (hI.insertBad h2 a h0 t t').mono ?_
    rintro e w' ⟨rfl, hb⟩
    exact ⟨rfl, h.below hb, Turns.bel hb⟩
  · rw [if_neg h0] at hR
    obtain ⟨z, rfl⟩ : ∃ z : Nat, a = (z : Int) := ⟨a.toNat, by omega⟩
    have hz : z ≤ sm.size := by omega
    by_cases h1 : 1048576 < sm.size + t.size
    · rw [if_pos h1] at hR
      subst hR
      refine (hI.insertBig h2 z t' t hz ht h1).mono ?_
      rintro e w' ⟨rfl, hb⟩
      exact ⟨rfl, h.below hb, Turns.bel hb⟩
    · rw [if_neg h1] at hR
      by_cases hT0 : t.size = 0
      · rw [if_pos hT0] at hR
        have et := empty_text hT0
        subst et
        subst hR
        refine (hI.insertNone h2 z t' hz).mono ?_
        rintro e w' ⟨rfl, hb⟩
        exact ⟨rfl, h.below hb, Turns.bel hb⟩
      · rw [if_neg hT0] at hR
        subst hR
        refine (hI.insertOk h2 (fun p _ => tbyte_lt _ _) t z t' (by omega) hz (by omega)).mono ?_
        rintro e w' ⟨rfl, hN, hT⟩
        refine ⟨rfl, ?_, hT⟩
        show PI w w' x mf ml mc cp (sm.extract 0 z ++ t ++ sm.extract z sm.size) t' sk tk
        rw [ins_text sm t z hz]
        exact h.turnM hI h2 h3 hN hT (fun p _ => wrF_lt (fun p _ => tbyte_lt _ _) _ _ _)
theorem PI.remM (h : PI w V x mf ml mc cp sm tm sk tk) (a m : Int) (ha : -9223372036854775808 ≤ a ∧ a ≤ 9223372036854775807) (hm : -9223372036854775808 ≤ m ∧ m ≤ 9223372036854775807) (t' : Nat) (R : Dn) (hR : rmR sm tm a m t' = R) : Calls Tryz.prog 21 #[.pointer (some ⟨x, 0, none⟩), .int .i64 2, .int .i64 a, .int .i64 m, .int .u64 ((t' : Nat) : Int)] V fun e w' => e = .returned (.tuple #[.int .i64 R.ans, .int .i64 R.err]) ∧ PI w w' x mf ml mc cp R.s R.st sk tk ∧ Turns (fun z => z = ml ∨ z = mf) V w' := by
  obtain ⟨H, D, hI, h2, h3⟩ := h.im
  have hsz := h2.le
  unfold rmR at hR
  by_cases h0 : a < 0 ∨ m < 0
  · rw [if_pos h0] at hR
    subst hR
    refine (hI.removeBad h2 a m h0 t').mono ?_
    rintro e w' ⟨rfl, hb⟩
    exact ⟨rfl, h.below hb, Turns.bel hb⟩
  · rw [if_neg h0] at hR
    obtain ⟨z, rfl⟩ : ∃ z : Nat, a = (z : Int) := ⟨a.toNat, by omega⟩
    obtain ⟨y, rfl⟩ : ∃ y : Nat, m = (y : Int) := ⟨m.toNat, by omega⟩
    rw [Int.toNat_natCast, Int.toNat_natCast] at hR
    obtain ⟨g, hg⟩ : ∃ g, thN sm.size z y = g := ⟨_, rfl⟩
    rw [hg] at hR
    by_cases hg0 : g = 0
    · rw [if_pos hg0] at hR
      subst hR
      refine (hI.removeNone h2 z y t' (by omega) (by omega) (by omega)).mono ?_
      rintro e w' ⟨rfl, hb⟩
      exact ⟨rfl, h.below hb, Turns.bel hb⟩
    · rw [if_neg hg0] at hR
      subst hR
      have hgz : z + g ≤ sm.size := by unfold thN at hg; omega
      refine (hI.removeOk h2 (fun p _ => tbyte_lt _ _) z y g t' (by omega) (by omega) hg hg0).mono ?_
      rintro e w' ⟨rfl, hN, hT⟩
      refine ⟨rfl, ?_, hT⟩
      show PI w w' x mf ml mc cp (sm.extract 0 z ++ sm.extract (z + g) sm.size) t' sk tk
      rw [rem_text sm z g hgz]
      exact h.turnM hI h2 h3 hN hT (fun p _ => wrF_lt (fun p _ => tbyte_lt _ _) _ _ _)
theorem cp_dn (k : ByteArray) (st : Nat) (p : Nat) (s : ByteArray) (t' : Nat) : dnF k st 0 (p : Int) 0 s t' = if 1048576 < p + s.size then ⟨0, 160, k, st⟩ else ⟨((p + s.size : Nat) : Int), 0, strN (wrF (tbyte k) k.size s p) (wzN k.size p s.size), if s.size = 0 then st else t'⟩ := by
  unfold dnF
  rw [if_neg (by decide), if_neg (by decide), if_neg (by decide)]
  by_cases h : 1048576 < p + s.size
  · rw [if_pos (.inr (by omega)), if_pos h, if_neg (by omega)]
  · rw [if_neg (by omega), if_neg h, Int.toNat_natCast]
/-- Copy to the file 3, or within the file 2 -/
theorem PI.cpK (h : PI w V x mf ml mc cp sm tm sk tk) (a m p : Int) (ha : -9223372036854775808 ≤ a ∧ a ≤ 9223372036854775807) (hm : -9223372036854775808 ≤ m ∧ m ≤ 9223372036854775807) (hp : -9223372036854775808 ≤ p ∧ p ≤ 9223372036854775807) (t' : Nat) (R : Dn) (hR : cpR sm sk tk a m p t' = R) : Calls Tryz.prog 23 #[.pointer (some ⟨x, 0, none⟩), .int .i64 2, .int .i64 a, .int .i64 m, .int .i64 3, .int .i64 p, .int .u64 ((t' : Nat) : Int)] V fun e w' => e = .returned (.tuple #[.int .i64 R.ans, .int .i64 R.err]) ∧ PI w w' x mf ml mc cp sm tm R.s R.st ∧ Turns (fun z => z = ml ∨ z = mf) V w' := by
  obtain ⟨H, D, hI, h2, h3⟩ := h.im
  have hsz := h2.le
  have hsk := h3.le
  unfold cpR at hR
  by_cases h0 : a < 0 ∨ m < 0 ∨ p < 0
  · rw [if_pos h0] at hR
    subst hR
    refine (hI.copyBad h2 h3 a m p h0 t').mono ?_
    rintro e w' ⟨rfl, hb⟩
    exact ⟨rfl, h.below hb, Turns.bel hb⟩
  · rw [if_neg h0] at hR
    obtain ⟨z, rfl⟩ : ∃ z : Nat, a = (z : Int) := ⟨a.toNat, by omega⟩
    obtain ⟨y, rfl⟩ : ∃ y : Nat, m = (y : Int) := ⟨m.toNat, by omega⟩
    obtain ⟨q, rfl⟩ : ∃ q : Nat, p = (q : Int) := ⟨p.toNat, by omega⟩
    rw [Int.toNat_natCast, Int.toNat_natCast, cp_dn, prT_size] at hR
    obtain ⟨g, hg⟩ : ∃ g, thN sm.size z y = g := ⟨_, rfl⟩
    rw [hg] at hR
    by_cases hb : 1048576 < q + g
    · rw [if_pos hb, if_neg (show ¬ (160 : Int) = 0 by decide)] at hR
      subst hR
      refine (hI.copyBig h2 h3 z y q g t' (by omega) (by omega) (by omega) hg hb).mono ?_
      rintro e w' ⟨rfl, hb⟩
      exact ⟨rfl, h.below hb, Turns.bel hb⟩
    · rw [if_neg hb, if_pos rfl] at hR
      by_cases hg0 : g = 0
      · subst hg0
        rw [if_pos rfl] at hR
        have e0 : strN (wrF (tbyte sk) sk.size (prT sm z y) q) (wzN sk.size q 0) = sk := by
          have := wr_none sk (prT sm z y) q (by rw [prT_size]; exact hg)
          rwa [prT_size, hg] at this
        rw [e0] at hR
        subst hR
        refine (hI.copyNone h2 h3 (fun p _ => tbyte_lt _ _) z y q t' (by omega) (by omega) hg (by omega)).mono ?_
        rintro e w' ⟨rfl, hb⟩
        exact ⟨rfl, h.below hb, Turns.bel hb⟩
      · rw [if_neg hg0] at hR
        subst hR
        refine (hI.copyOk h2 h3 (fun p _ => tbyte_lt _ _) z y q g t' (by omega) (by omega) hg hg0 (by omega)).mono ?_
        rintro e w' ⟨rfl, hN, hT⟩
        refine ⟨rfl, ?_, hT⟩
        have := h.turnK hI h2 h3 hN hT (fun p _ => wrF_lt (fun p _ => tbyte_lt _ _) _ _ _)
        have ez : wzN sk.size q g = max sk.size (q + g) := by unfold wzN; rw [if_neg hg0]
        have ep : prT sm z y = strN (fun j => tbyte sm (z + j)) g := by unfold prT; rw [hg]
        show PI w w' x mf ml mc cp sm tm (strN (wrF (tbyte sk) sk.size (prT sm z y) q) (wzN sk.size q g)) t'
        rw [ez, ep]
        exact this
theorem PI.cpM (h : PI w V x mf ml mc cp sm tm sk tk) (a m p : Int) (ha : -9223372036854775808 ≤ a ∧ a ≤ 9223372036854775807) (hm : -9223372036854775808 ≤ m ∧ m ≤ 9223372036854775807) (hp : -9223372036854775808 ≤ p ∧ p ≤ 9223372036854775807) (t' : Nat) (R : Dn) (hR : cpR sm sm tm a m p t' = R) : Calls Tryz.prog 23 #[.pointer (some ⟨x, 0, none⟩), .int .i64 2, .int .i64 a, .int .i64 m, .int .i64 2, .int .i64 p, .int .u64 ((t' : Nat) : Int)] V fun e w' => e = .returned (.tuple #[.int .i64 R.ans, .int .i64 R.err]) ∧ PI w w' x mf ml mc cp R.s R.st sk tk ∧ Turns (fun z => z = ml ∨ z = mf) V w' := by
  obtain ⟨H, D, hI, h2, h3⟩ := h.im
  have hsz := h2.le
  unfold cpR at hR
  by_cases h0 : a < 0 ∨ m < 0 ∨ p < 0
  · rw [if_pos h0] at hR
    subst hR
    refine (hI.copyBad h2 h2 a m p h0 t').mono ?_
    rintro e w' ⟨rfl, hb⟩
    exact ⟨rfl, h.below hb, Turns.bel hb⟩
  · rw [if_neg h0] at hR
    obtain ⟨z, rfl⟩ : ∃ z : Nat, a = (z : Int) := ⟨a.toNat, by omega⟩
    obtain ⟨y, rfl⟩ : ∃ y : Nat, m = (y : Int) := ⟨m.toNat, by omega⟩
    obtain ⟨q, rfl⟩ : ∃ q : Nat, p = (q : Int) := ⟨p.toNat, by omega⟩
    rw [Int.toNat_natCast, Int.toNat_natCast, cp_dn, prT_size] at hR
    obtain ⟨g, hg⟩ : ∃ g, thN sm.size z y = g := ⟨_, rfl⟩
    rw [hg] at hR
    by_cases hb : 1048576 < q + g
    · rw [if_pos hb, if_neg (show ¬ (160 : Int) = 0 by decide)] at hR
      subst hR
      refine (hI.copyBig h2 h2 z y q g t' (by omega) (by omega) (by omega) hg hb).mono ?_
      rintro e w' ⟨rfl, hb⟩
      exact ⟨rfl, h.below hb, Turns.bel hb⟩
    · rw [if_neg hb, if_pos rfl] at hR
      by_cases hg0 : g = 0
      · subst hg0
        rw [if_pos rfl] at hR
        have e0 : strN (wrF (tbyte sm) sm.size (prT sm z y) q) (wzN sm.size q 0) = sm := by
          have := wr_none sm (prT sm z y) q (by rw [prT_size]; exact hg)
          rwa [prT_size, hg] at this
        rw [e0] at hR
        subst hR
        refine (hI.copyNone h2 h2 (fun p _ => tbyte_lt _ _) z y q t' (by omega) (by omega) hg (by omega)).mono ?_
        rintro e w' ⟨rfl, hb⟩
        exact ⟨rfl, h.below hb, Turns.bel hb⟩
      · rw [if_neg hg0] at hR
        subst hR
        refine (hI.copyOk h2 h2 (fun p _ => tbyte_lt _ _) z y q g t' (by omega) (by omega) hg hg0 (by omega)).mono ?_
        rintro e w' ⟨rfl, hN, hT⟩
        refine ⟨rfl, ?_, hT⟩
        have := h.turnM hI h2 h3 hN hT (fun p _ => wrF_lt (fun p _ => tbyte_lt _ _) _ _ _)
        have ez : wzN sm.size q g = max sm.size (q + g) := by unfold wzN; rw [if_neg hg0]
        have ep : prT sm z y = strN (fun j => tbyte sm (z + j)) g := by unfold prT; rw [hg]
        show PI w w' x mf ml mc cp (strN (wrF (tbyte sm) sm.size (prT sm z y) q) (wzN sm.size q g)) t' sk tk
        rw [ez, ep]
        exact this
end
end Go.Proofs.YtcmihdjbeihjbaaGreat

namespace Go.Proofs.YtcmihdjbeihjbaaGreat
open Go Go.RowKit
set_option linter.unusedSimpArgs false
set_option linter.unusedVariables false
/-- a model's cells, told by a function -/
def mdF (s : ByteArray) (t : Nat) : Nat → Value := fun i => if i = 0 then .string s else .int .u64 ((t : Nat) : Int)
theorem Turns.row {S : Nat → Prop} {a b : World} {g : Nat} (h : Turns S a b) (hg : a.heap.size ≤ g) (c : Array Value) : Turns S a (b.setRow g c) := ⟨h.os, h.tape, h.output, by have := h.size; simpa using this, fun k hk hn => (setRow_other _ _ _ _ (by omega)).trans (h.block k hk hn)⟩
/-- the five blocks of move, the inodes, and what has turned since -/
structure MQ (w V W : World) (x mf ml mc : Nat) (cp : Option Addr) (m k p q : ByteArray × Nat) (Y : Mv) (r1 r2 : ByteArray × Nat) : Prop where
  pi : PI w W x mf ml mc cp p.1 p.2 q.1 q.2
  bM : Blk W (V.heap.size) 32 (mdC m.1 m.2)
  bK : Blk W (V.heap.size + 1) 32 (mdC k.1 k.2)
  bY : Blk W (V.heap.size + 1 + 1) 35 (mvC Y)
  b1 : Blk W (V.heap.size + 1 + 1 + 1) 32 (mdC r1.1 r1.2)
  b2 : Blk W (V.heap.size + 1 + 1 + 1 + 1) 32 (mdC r2.1 r2.2)
  tr : Turns (fun z => z = ml ∨ z = mf) V W
  lt : x < V.heap.size ∧ mf < V.heap.size ∧ ml < V.heap.size ∧ mc < V.heap.size
  wl : w.heap.size ≤ V.heap.size
section
variable {w V W W' : World} {x mf ml mc : Nat} {cp : Option Addr} {m k p q p' q' : ByteArray × Nat} {Y : Mv} {r1 r2 : ByteArray × Nat}
theorem MQ.below (h : MQ w V W x mf ml mc cp m k p q Y r1 r2) (hb : Below W.heap.size W W') : MQ w V W' x mf ml mc cp m k p q Y r1 r2 :=
  ⟨h.pi.below hb, h.bM.below hb h.bM.lt, h.bK.below hb h.bK.lt, h.bY.below hb h.bY.lt, h.b1.below hb h.b1.lt, h.b2.below hb h.b2.lt, h.tr.tr (Turns.bel hb), h.lt, h.wl⟩
theorem MQ.call (h : MQ w V W x mf ml mc cp m k p q Y r1 r2) (hP : PI w W' x mf ml mc cp p'.1 p'.2 q'.1 q'.2) (hT : Turns (fun z => z = ml ∨ z = mf) W W') : MQ w V W' x mf ml mc cp m k p' q' Y r1 r2 := by
  have hl := h.lt
  exact ⟨hP, fl_blk hT h.bM (by omega), fl_blk hT h.bK (by omega), fl_blk hT h.bY (by omega), fl_blk hT h.b1 (by omega), fl_blk hT h.b2 (by omega), h.tr.tr hT, h.lt, h.wl⟩
theorem MQ.row1 (h : MQ w V W x mf ml mc cp m k p q Y r1 r2) (s : ByteArray) (t : Nat) : MQ w V (W.setRow (V.heap.size + 1 + 1 + 1) (mdC s t)) x mf ml mc cp m k p q Y (s, t) r2 := by
  have hl := h.lt
  have hw := h.wl
  exact ⟨h.pi.row _ _ (by omega) (by omega), h.bM.other _ (by omega), h.bK.other _ (by omega), h.bY.other _ (by omega), h.b1.set _, h.b2.other _ (by omega), h.tr.row (by omega) _, h.lt, h.wl⟩
theorem MQ.row2 (h : MQ w V W x mf ml mc cp m k p q Y r1 r2) (s : ByteArray) (t : Nat) : MQ w V (W.setRow (V.heap.size + 1 + 1 + 1 + 1) (mdC s t)) x mf ml mc cp m k p q Y r1 (s, t) := by
  have hl := h.lt
  have hw := h.wl
  exact ⟨h.pi.row _ _ (by omega) (by omega), h.bM.other _ (by omega), h.bK.other _ (by omega), h.bY.other _ (by omega), h.b1.other _ (by omega), h.b2.set _, h.tr.row (by omega) _, h.lt, h.wl⟩
theorem MQ.new (h : MQ w V W x mf ml mc cp m k p q Y r1 r2) (c1 c2 : Array Value) (t : TypeId) : MQ w V ((W.alloc (.cells c1 t)).setRow W.heap.size c2) x mf ml mc cp m k p q Y r1 r2 := by
  refine h.below (below_setRow ((Below.refl _ _).alloc (Nat.le_refl _) _) (Nat.le_refl _) _)
end
theorem md_ones (s : ByteArray) (t : Nat) : ∀ v ∈ (mdC s t).toList, v.oneCell' = true := fun v hv => by
  simp [mdC] at hv
  rcases hv with rfl | rfl <;> rfl
theorem mq_new (w : World) (t : TypeId) (c1 c2 : Array Value) : Blk ((w.alloc (.cells c1 t)).setRow w.heap.size c2) w.heap.size t c2 := (Blk.new w t c1).set c2
theorem res_ccm {P : Program} {fn : Func} {p q u : Tmp} {ty ty' : TypeId} (h : fn.results = #[.cell p ty, .cell q ty', .tmp u]) (tmps : Array Value) (w : World) (g g' : Nat) (t t' : TypeId) (cs cs' : Array Value) (d d' : TypeDesc)
    (hp : tmps.getD p undef = .pointer (some ⟨g, 0, none⟩)) (hq : tmps.getD q undef = .pointer (some ⟨g', 0, none⟩)) (hg : Blk w g t cs) (hg' : Blk w g' t' cs')
    (hu : P.underlying ty = some d) (hd : (match d with | .struct _ | .array _ _ => true | _ => false) = true) (hi : (P.info? ty).map (·.size) = some cs.size)
    (hu' : P.underlying ty' = some d') (hd' : (match d' with | .struct _ | .array _ _ => true | _ => false) = true) (hi' : (P.info? ty').map (·.size) = some cs'.size) :
    (results fn tmps).run P w = .ok (.tuple #[.agg cs, .agg cs', tmps.getD u undef]) w := by
  have hp' : tmps[p]?.getD undef = .pointer (some ⟨g, 0, none⟩) := by simpa using hp
  have hq' : tmps[q]?.getD undef = .pointer (some ⟨g', 0, none⟩) := by simpa using hq
  simp [results, h, hp', hq', asAddr, run_loadVar_row w g t ty cs (0, 0) d hg hu hd hi, run_loadVar_row w g' t' ty' cs' (0, 0) d' hg' hu' hd' hi']
end Go.Proofs.YtcmihdjbeihjbaaGreat

namespace Go.Proofs.YtcmihdjbeihjbaaGreat
open Go Go.RowKit
set_option linter.unusedSimpArgs false
set_option linter.unusedVariables false
set_option maxRecDepth 100000 in
set_option maxHeartbeats 8000000 in
theorem moved_ins (s : ByteArray) (st : Nat) (X : Mv) (ht : X.s.size ≤ 140737488355328) (ha : -9223372036854775808 ≤ X.a ∧ X.a ≤ 9223372036854775807) (hs : s.size ≤ 1048576) (hk : X.kd ≠ 2) (R : Dn) (hR : inR s st X.a X.s X.t = R) (V : World) : Calls Tryz.prog 19 #[.agg (mdC s st), .agg (mvC X)] V fun e w' => e = .returned (.tuple #[.int .i64 R.ans, .int .i64 R.err, .agg (mdC R.s R.st)]) ∧ Below V.heap.size V w' := by
  have hzm := zero_md
  have bM : Blk (((V.alloc (.cells (mdC s st) 32)).alloc (.cells (mvC X) 35)).alloc (.cells #[.string ⟨#[]⟩, .int .u64 0] 32)) V.heap.size 32 (mdC s st) := ((Blk.new _ _ _).alloc _).alloc _
  have bA : Blk (((V.alloc (.cells (mdC s st) 32)).alloc (.cells (mvC X) 35)).alloc (.cells #[.string ⟨#[]⟩, .int .u64 0] 32)) (V.heap.size + 1) 35 (mvC X) := (Blk.new1 _ _ _ _).alloc _
  have bR : Blk (((V.alloc (.cells (mdC s st) 32)).alloc (.cells (mvC X) 35)).alloc (.cells #[.string ⟨#[]⟩, .int .u64 0] 32)) (V.heap.size + 1 + 1) 32 (mdC ⟨#[]⟩ 0) := Blk.new2 _ _ _ _ _
  have hbel : Below V.heap.size V (((V.alloc (.cells (mdC s st) 32)).alloc (.cells (mvC X) 35)).alloc (.cells #[.string ⟨#[]⟩, .int .u64 0] 32)) := below_new3 _ _ _ _
  obtain ⟨m0, m1, _, _⟩ := md_cs bM
  obtain ⟨r0, r1, f0, f1⟩ := md_cs bR
  obtain ⟨c0, c1, c2, c3, c4, c5, _⟩ := mv_cs bA
  have HR : Hid (inR s st X.a X.s X.t = R) := hR
  clear hR
  have hD : inR s st X.a X.s X.t = (if X.a < 0 ∨ (s.size : Int) < X.a then ⟨0, 1, s, st⟩ else if 1048576 < s.size + X.s.size then ⟨0, 160, s, st⟩ else if X.s.size = 0 then ⟨0, 0, s, st⟩ else ⟨0, 0, s.extract 0 X.a.toNat ++ X.s ++ s.extract X.a.toNat s.size, X.t⟩) := rfl
  rw [HR.out] at hD
  obtain ⟨S, hS⟩ : ∃ S : Nat, s.size = S := ⟨_, rfl⟩
  obtain ⟨T, hT⟩ : ∃ T : Nat, X.s.size = T := ⟨_, rfl⟩
  obtain ⟨lf, hlf⟩ : ∃ lf : Nat, 1048576 - S = lf := ⟨_, rfl⟩
  have e5 : (1048576 : Int) - (S : Int) = (lf : Int) := by omega
  have b5 : lf ≤ 1048576 := by omega
  generalize hkd : X.kd = kd at *
  generalize hXa : X.a = a at *
  generalize hXs : X.s = t at *
  generalize hXt : X.t = t' at *
  by_cases h0 : a < 0
  · rw [if_pos (.inl h0)] at hD
    have HD : Hid (R = _) := hD
    have HP : Hid (DE V ⟨0, 1, s, st⟩ _) := put_md bR hbel s st
    clear hD HR bR hbel bM bA hlf hkd hXa hXs hXt
    go_enter Tryz.func19, Tryz.ntmps19
    go_wp2_with fail
    generalize (((V.alloc (.cells (mdC s st) 32)).alloc (.cells (mvC X) 35)).alloc (.cells #[.string ⟨#[]⟩, .int .u64 0] 32)) = V3 at *
    go_region
    go_wp2_with fail
    try simp only [Exit.inBlock, Exit.then]
    refine bodyPost_ret (res_ttc Tryz.results19 _ _ (V.heap.size + 1 + 1) 32 _ (0, 0) _ rfl (by exact HP.out.1) Tryz.underlying32 rfl (sizeMd.trans (by rfl))) rfl ?_
    rw [HD.out]
    exact ⟨by first | rfl | (rw [hS]; rfl), HP.out.2⟩
  · obtain ⟨z, hz⟩ : ∃ z : Nat, a = (z : Int) := ⟨a.toNat, by omega⟩
    rw [show a.toNat = z by omega] at hD
    subst hz
    have n0 : ¬ ((z : Int) < 0) := by omega
    by_cases h1 : S < z
    · rw [if_pos (.inr (by omega))] at hD
      have HD : Hid (R = _) := hD
      have HP : Hid (DE V ⟨0, 1, s, st⟩ _) := put_md bR hbel s st
      have t1 : (S : Int) < (z : Int) := by omega
      clear hD HR bR hbel bM bA hlf hkd hXa hXs hXt h0
      go_enter Tryz.func19, Tryz.ntmps19
      go_wp2_with fail
      generalize (((V.alloc (.cells (mdC s st) 32)).alloc (.cells (mvC X) 35)).alloc (.cells #[.string ⟨#[]⟩, .int .u64 0] 32)) = V3 at *
      go_region
      go_wp2_with fail
      try simp only [Exit.inBlock, Exit.then]
      refine bodyPost_ret (res_ttc Tryz.results19 _ _ (V.heap.size + 1 + 1) 32 _ (0, 0) _ rfl (by exact HP.out.1) Tryz.underlying32 rfl (sizeMd.trans (by rfl))) rfl ?_
      rw [HD.out]
      exact ⟨by first | rfl | (rw [hS]; rfl), HP.out.2⟩
    · have t1 : ¬ ((S : Int) < (z : Int)) := by omega
      rw [if_neg (by omega)] at hD
      by_cases hb : 1048576 < s.size + t.size
      · rw [if_pos hb] at hD
        have HD : Hid (R = _) := hD
        have HP : Hid (DE V ⟨0, 160, s, st⟩ _) := put_md bR hbel s st
        have t2 : (lf : Int) < (T : Int) := by omega
        clear hD HR bR hbel bM bA hlf hkd hXa hXs hXt h0 hb h1
        go_enter Tryz.func19, Tryz.ntmps19
        go_wp2_with fail
        generalize (((V.alloc (.cells (mdC s st) 32)).alloc (.cells (mvC X) 35)).alloc (.cells #[.string ⟨#[]⟩, .int .u64 0] 32)) = V3 at *
        go_region
        go_wp2_with fail
        try simp only [Exit.inBlock, Exit.then]
        refine bodyPost_ret (res_ttc Tryz.results19 _ _ (V.heap.size + 1 + 1) 32 _ (0, 0) _ rfl (by exact HP.out.1) Tryz.underlying32 rfl (sizeMd.trans (by rfl))) rfl ?_
        rw [HD.out]
        exact ⟨by first | rfl | (rw [hS]; rfl), HP.out.2⟩
      · rw [if_neg hb] at hD
        have t2 : ¬ ((lf : Int) < (T : Int)) := by omega
        by_cases hT0 : t.size = 0
        · rw [if_pos hT0] at hD
          have hemp : t.toList.isEmpty = true := by rw [empty_text hT0, ByteArray.toList_eq]; rfl
          have HD : Hid (R = _) := hD
          have HP : Hid (DE V ⟨0, 0, s, st⟩ _) := put_md bR hbel s st
          clear hD HR bR hbel bM bA hlf hkd hXa hXs hXt h0 hb h1
          go_enter Tryz.func19, Tryz.ntmps19
          go_wp2_with fail
          generalize (((V.alloc (.cells (mdC s st) 32)).alloc (.cells (mvC X) 35)).alloc (.cells #[.string ⟨#[]⟩, .int .u64 0] 32)) = V3 at *
          go_region
          go_wp2_with fail
          try simp only [Exit.inBlock, Exit.then]
          refine bodyPost_ret (res_ttc Tryz.results19 _ _ (V.heap.size + 1 + 1) 32 _ (0, 0) _ rfl (by exact HP.out.1) Tryz.underlying32 rfl (sizeMd.trans (by rfl))) rfl ?_
          rw [HD.out]
          exact ⟨by first | rfl | (rw [hS]; rfl), HP.out.2⟩
        · rw [if_neg hT0] at hD
          have hne : t.toList.isEmpty = false := fl_full (by omega)
          have x1 := extract_size s 0 z (by omega)
          have x2 := extract_size s z s.size (Nat.le_refl _)
          have hadd1 : ∀ w, (Op.stringOp .add (s.extract 0 z) t).run Tryz.prog w = .ok (.string (s.extract 0 z ++ t)) w := fun w => run_string_add_sum w _ _ (by rw [x1]; omega)
          have hadd2 : ∀ w, (Op.stringOp .add (s.extract 0 z ++ t) (s.extract z s.size)).run Tryz.prog w = .ok (.string (s.extract 0 z ++ t ++ s.extract z s.size)) w := fun w => run_string_add_sum w _ _ (by rw [cat_size, x1, x2]; omega)
          obtain ⟨Q, hQ⟩ : ∃ Q : ByteArray, s.extract 0 z ++ t ++ s.extract z s.size = Q := ⟨_, rfl⟩
          rw [hQ] at hadd2 hD
          rw [hS] at hadd2
          have zl : (z : Int) ≤ (S : Int) := by omega
          have hbm := built_md Q t'
          have HD : Hid (R = _) := hD
          have HP : Hid (DE V ⟨0, 0, Q, t'⟩ _) := put_md bR hbel Q t'
          clear hD HR bR hbel bM bA hlf hkd hXa hXs hXt h0 hb h1 hQ x1 x2
          go_enter Tryz.func19, Tryz.ntmps19
          go_wp2_with fail
          generalize (((V.alloc (.cells (mdC s st) 32)).alloc (.cells (mvC X) 35)).alloc (.cells #[.string ⟨#[]⟩, .int .u64 0] 32)) = V3 at *
          go_region
          go_wp2_with fail
          try simp only [Exit.inBlock, Exit.then]
          refine bodyPost_ret (res_ttc Tryz.results19 _ _ (V.heap.size + 1 + 1) 32 _ (0, 0) _ rfl (by exact HP.out.1) Tryz.underlying32 rfl (sizeMd.trans (by rfl))) rfl ?_
          rw [HD.out]
          exact ⟨by first | rfl | (rw [hS]; rfl), HP.out.2⟩
end Go.Proofs.YtcmihdjbeihjbaaGreat

namespace Go.Proofs.YtcmihdjbeihjbaaGreat
open Go Go.RowKit
set_option linter.unusedSimpArgs false
set_option linter.unusedVariables false
set_option maxRecDepth 100000 in
set_option maxHeartbeats 8000000 in
theorem moved_rem (s : ByteArray) (st : Nat) (X : Mv) (ha : -9223372036854775808 ≤ X.a ∧ X.a ≤ 9223372036854775807) (hm : -9223372036854775808 ≤ X.m ∧ X.m ≤ 9223372036854775807) (hs : s.size ≤ 1048576) (hk : X.kd = 2) (R : Dn) (hR : rmR s st X.a X.m X.t = R) (V : World) : Calls Tryz.prog 19 #[.agg (mdC s st), .agg (mvC X)] V fun e w' => e = .returned (.tuple #[.int .i64 R.ans, .int .i64 R.err, .agg (mdC R.s R.st)]) ∧ Below V.heap.size V w' := by
  have hzm := zero_md
  have bM : Blk (((V.alloc (.cells (mdC s st) 32)).alloc (.cells (mvC X) 35)).alloc (.cells #[.string ⟨#[]⟩, .int .u64 0] 32)) V.heap.size 32 (mdC s st) := ((Blk.new _ _ _).alloc _).alloc _
  have bA : Blk (((V.alloc (.cells (mdC s st) 32)).alloc (.cells (mvC X) 35)).alloc (.cells #[.string ⟨#[]⟩, .int .u64 0] 32)) (V.heap.size + 1) 35 (mvC X) := (Blk.new1 _ _ _ _).alloc _
  have bR : Blk (((V.alloc (.cells (mdC s st) 32)).alloc (.cells (mvC X) 35)).alloc (.cells #[.string ⟨#[]⟩, .int .u64 0] 32)) (V.heap.size + 1 + 1) 32 (mdC ⟨#[]⟩ 0) := Blk.new2 _ _ _ _ _
  have hbel : Below V.heap.size V (((V.alloc (.cells (mdC s st) 32)).alloc (.cells (mvC X) 35)).alloc (.cells #[.string ⟨#[]⟩, .int .u64 0] 32)) := below_new3 _ _ _ _
  obtain ⟨m0, m1, _, _⟩ := md_cs bM
  obtain ⟨r0, r1, f0, f1⟩ := md_cs bR
  obtain ⟨c0, c1, c2, c3, c4, c5, _⟩ := mv_cs bA
  have HR : Hid (rmR s st X.a X.m X.t = R) := hR
  clear hR
  have hD : rmR s st X.a X.m X.t = (if X.a < 0 ∨ X.m < 0 then ⟨0, 1, s, st⟩ else if thN s.size X.a.toNat X.m.toNat = 0 then ⟨0, 0, s, st⟩ else ⟨(thN s.size X.a.toNat X.m.toNat : Int), 0, s.extract 0 X.a.toNat ++ s.extract (X.a.toNat + thN s.size X.a.toNat X.m.toNat) s.size, X.t⟩) := rfl
  rw [HR.out] at hD
  obtain ⟨S, hS⟩ : ∃ S : Nat, s.size = S := ⟨_, rfl⟩
  rw [hk] at c0
  generalize hXa : X.a = a at *
  generalize hXm : X.m = m at *
  generalize hXt : X.t = t' at *
  by_cases h0 : a < 0
  · rw [if_pos (.inl h0)] at hD
    have HD : Hid (R = _) := hD
    have HP : Hid (DE V ⟨0, 1, s, st⟩ _) := put_md bR hbel s st
    clear hD HR bR hbel bM bA hk hXa hXm hXt
    go_enter Tryz.func19, Tryz.ntmps19
    go_wp2_with fail
    generalize (((V.alloc (.cells (mdC s st) 32)).alloc (.cells (mvC X) 35)).alloc (.cells #[.string ⟨#[]⟩, .int .u64 0] 32)) = V3 at *
    go_region
    go_wp2_with fail
    try simp only [Exit.inBlock, Exit.then]
    refine bodyPost_ret (res_ttc Tryz.results19 _ _ (V.heap.size + 1 + 1) 32 _ (0, 0) _ rfl (by exact HP.out.1) Tryz.underlying32 rfl (sizeMd.trans (by rfl))) rfl ?_
    rw [HD.out]
    exact ⟨by first | rfl | (rw [hS]; rfl), HP.out.2⟩
  · by_cases h1 : m < 0
    · rw [if_pos (.inr h1)] at hD
      have HD : Hid (R = _) := hD
      have HP : Hid (DE V ⟨0, 1, s, st⟩ _) := put_md bR hbel s st
      clear hD HR bR hbel bM bA hk hXa hXm hXt
      go_enter Tryz.func19, Tryz.ntmps19
      go_wp2_with fail
      generalize (((V.alloc (.cells (mdC s st) 32)).alloc (.cells (mvC X) 35)).alloc (.cells #[.string ⟨#[]⟩, .int .u64 0] 32)) = V3 at *
      go_region
      go_wp2_with fail
      try simp only [Exit.inBlock, Exit.then]
      refine bodyPost_ret (res_ttc Tryz.results19 _ _ (V.heap.size + 1 + 1) 32 _ (0, 0) _ rfl (by exact HP.out.1) Tryz.underlying32 rfl (sizeMd.trans (by rfl))) rfl ?_
      rw [HD.out]
      exact ⟨by first | rfl | (rw [hS]; rfl), HP.out.2⟩
    · rw [if_neg (by omega)] at hD
      obtain ⟨z, hz⟩ : ∃ z : Nat, a = (z : Int) := ⟨a.toNat, by omega⟩
      obtain ⟨y, hy⟩ : ∃ y : Nat, m = (y : Int) := ⟨m.toNat, by omega⟩
      rw [show a.toNat = z by omega, show m.toNat = y by omega] at hD
      subst hz hy
      have HPT : Hid (∀ w : World, Calls Tryz.prog 26 #[.string s, .int .i64 (z : Int), .int .i64 (y : Int)] w fun e w' => e = .returned (.string (prT s z y)) ∧ w' = w) := part_any s z y (by omega) (by omega) (by omega)
      have hps : (prT s z y).size = thN s.size z y := prT_size s z y
      obtain ⟨g, hg⟩ : ∃ g, thN s.size z y = g := ⟨_, rfl⟩
      have hgz : g = 0 ∨ z + g ≤ S := by unfold thN at hg; omega
      rw [hg] at hD hps
      generalize prT s z y = PTX at *
      have n0 : ¬ ((z : Int) < 0) := by omega
      have n1 : ¬ ((y : Int) < 0) := by omega
      by_cases hg0 : g = 0
      · subst hg0
        rw [if_pos rfl] at hD
        have HD : Hid (R = _) := hD
        have HP : Hid (DE V ⟨0, 0, s, st⟩ _) := put_md bR hbel s st
        clear hD HR bR hbel bM bA hk hXa hXm hXt h0 h1 hg hgz
        go_enter Tryz.func19, Tryz.ntmps19
        go_wp2_with fail
        refine (HPT.out _).mono ?_
        rintro e w9 ⟨rfl, hw9⟩
        subst w9
        go_wp2_with fail
        generalize (((V.alloc (.cells (mdC s st) 32)).alloc (.cells (mvC X) 35)).alloc (.cells #[.string ⟨#[]⟩, .int .u64 0] 32)) = V3 at *
        go_region
        go_wp2_with fail
        try simp only [Exit.inBlock, Exit.then]
        refine bodyPost_ret (res_ttc Tryz.results19 _ _ (V.heap.size + 1 + 1) 32 _ (0, 0) _ rfl (by exact HP.out.1) Tryz.underlying32 rfl (sizeMd.trans (by rfl))) rfl ?_
        rw [HD.out]
        exact ⟨by first | rfl | (rw [hS]; rfl), HP.out.2⟩
      · rw [if_neg hg0] at hD
        have g0 : ¬ ((g : Int) = 0) := by omega
        obtain ⟨en, hen⟩ : ∃ en : Nat, z + g = en := ⟨_, rfl⟩
        have e7 : (z : Int) + (g : Int) = (en : Int) := by omega
        have hwe : IntKind.i64.wrap (en : Int) = (en : Int) := wrapI64_id _ (by omega) (by omega)
        have x1 := extract_size s 0 z (by omega)
        have x2 := extract_size s en s.size (Nat.le_refl _)
        rw [hen] at hD
        have hadd1 : ∀ w, (Op.stringOp .add (s.extract 0 z) (s.extract en s.size)).run Tryz.prog w = .ok (.string (s.extract 0 z ++ s.extract en s.size)) w := fun w => run_string_add_sum w _ _ (by rw [x1, x2]; omega)
        obtain ⟨Q, hQ⟩ : ∃ Q : ByteArray, s.extract 0 z ++ s.extract en s.size = Q := ⟨_, rfl⟩
        rw [hQ] at hadd1 hD
        rw [hS] at hadd1
        have zl : (z : Int) ≤ (S : Int) := by omega
        have el : (en : Int) ≤ (S : Int) := by omega
        have hbm := built_md Q t'
        have HD : Hid (R = _) := hD
        have HP : Hid (DE V ⟨(g : Int), 0, Q, t'⟩ _) := put_md bR hbel Q t'
        clear hD HR bR hbel bM bA hk hXa hXm hXt h0 h1 hQ x1 x2 hg hgz hen
        go_enter Tryz.func19, Tryz.ntmps19
        go_wp2_with fail
        refine (HPT.out _).mono ?_
        rintro e w9 ⟨rfl, hw9⟩
        subst w9
        go_wp2_with fail
        generalize (((V.alloc (.cells (mdC s st) 32)).alloc (.cells (mvC X) 35)).alloc (.cells #[.string ⟨#[]⟩, .int .u64 0] 32)) = V3 at *
        go_region
        go_wp2_with fail
        try simp only [Exit.inBlock, Exit.then]
        refine bodyPost_ret (res_ttc Tryz.results19 _ _ (V.heap.size + 1 + 1) 32 _ (0, 0) _ rfl (by exact HP.out.1) Tryz.underlying32 rfl (sizeMd.trans (by rfl))) rfl ?_
        rw [HD.out]
        exact ⟨by first | rfl | (rw [hS]; rfl), HP.out.2⟩
end Go.Proofs.YtcmihdjbeihjbaaGreat
