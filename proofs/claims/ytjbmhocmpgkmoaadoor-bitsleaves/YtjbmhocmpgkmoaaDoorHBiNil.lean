/- A nil map of bits: the contracts of its calls; a bit is set (awake); the walk of the statement on nil maps. -/
import Derived.Test.YtjbmhocmpgkmoaaDoorHBiFrom
import Derived.Handy
import Derived.Test.YtjbmhocmpgkmoaaDoorHMathDigest

namespace Go.Proofs.YtjbmhocmpgkmoaaDoor
open Go Go.RowKit
set_option linter.unusedVariables false
set_option linter.unusedSimpArgs false
theorem digT_bit (x m t : Nat) (ht : t < 8) : (dig x m).testBit t = x.testBit (8 * m + t) := by
  unfold dig
  rw [show (256 : Nat) ^ m = 2 ^ (8 * m) by rw [show (256 : Nat) = 2 ^ 8 from rfl, ← Nat.pow_mul], show (256 : Nat) = 2 ^ 8 from rfl, Nat.testBit_mod_two_pow, Nat.testBit_div_two_pow]
  simp [ht]
  congr 1
  omega
theorem by8_self (z : Nat) (hz : z < 256) : by8 (fun i => z.testBit i) = z := by
  have h : ∀ z : Fin 256, by8 (fun i => z.val.testBit i) = z.val := by decide +kernel
  exact h ⟨z, hz⟩
theorem by8_dig (x r : Nat) : by8 (fun i => x.testBit (8 * r + i)) = dig x r := by
  rw [by8_congr (h := fun i => (dig x r).testBit i) fun i hi => (digT_bit x r i hi).symm]
  exact by8_self _ (dig_lt _ _)
theorem rl_lf {W : Nat → Nat} {n : Nat} (ht : ∀ p, n ≤ p → bitF W p = false) (k j : Nat) (hj : j < 256) : rlF (bitF W) n k 1024 j = lfF W k 16 j := by
  rw [lf_byte W k 16 (Nat.le_refl _)]
  unfold rlF
  by_cases h : 128 ≤ j ∧ j < 256
  · rw [if_pos h, if_pos (by omega), ← by8_dig]
    refine by8_congr fun i hi => ?_
    rw [decide_eq_true (show 8 * (j - 128) + i < 1024 by omega), Bool.true_and]
    have e : bitF W (1024 * k + 8 * (j - 128) + i) = (W (16 * k + (j - 128) / 8)).testBit (8 * ((j - 128) % 8) + i) := by
      rw [show 1024 * k + 8 * (j - 128) + i = 64 * (16 * k + (j - 128) / 8) + (8 * ((j - 128) % 8) + i) by omega]
      exact bitF_at W _ _ (by omega)
    rw [e]
    by_cases hp : 1024 * k + 8 * (j - 128) + i < n
    · rw [decide_eq_true hp, Bool.true_and]
    · rw [decide_eq_false hp, Bool.false_and, ← e, ht _ (by omega)]
  · rw [if_neg h, if_neg (by omega)]
    show hdB k j = putAt (tbyte bitsT) 4 4 (tbyte (strN (dig k) 4)) j
    unfold hdB putAt
    by_cases h4 : j < 4
    · rw [if_pos h4, if_neg (by omega)]
    · rw [if_neg h4]
      by_cases h8 : j < 8
      · rw [if_pos h8, if_pos (by omega), strN_at _ _ _ (by omega) (dig_lt _ _)]
      · rw [if_neg h8, if_neg (by omega), tbyte_out _ _ (show bitsT.size ≤ j from by show 4 ≤ j; omega)]
theorem rlF_congr {F G : Nat → Bool} {n : Nat} (h : ∀ p, p < n → F p = G p) (k m j : Nat) : rlF F n k m j = rlF G n k m j := by
  unfold rlF
  split
  · refine by8_congr fun i hi => ?_
    by_cases hp : 1024 * k + 8 * (j - 128) + i < n
    · rw [h _ hp]
    · rw [decide_eq_false hp, Bool.false_and, Bool.false_and]
  · rfl
theorem rb_bit {L : Nat → Nat → Nat} {M p : Nat} (hp : p / 1024 < M) : rbF M L p = bitL L p := by
  unfold rbF bitL
  rw [decide_eq_true hp, Bool.true_and, Nat.testBit_eq_decide_div_mod_eq, show p % 1024 % 8 = p % 8 by omega]
/-- the document's leaves are good just if the program's are -/
theorem good_tie {W : Nat → Nat} {n M : Nat} {L : Nat → Nat → Nat} (hM : lvN n = M) (hb : ∀ p, bitF W p = (decide (p < n) && bitL L p)) :
    (∀ p, p < n → rbF M L p = bitF W p) ∧ ((∀ k j, k < M → j < 256 → rlF (rbF M L) n k 1024 j = L k j) ↔ ∀ i, i < lvN n → bkSame (lfF W i 16) (L i)) := by
  have hge := lvN_ge (n := n)
  have e1 : ∀ p, p < n → rbF M L p = bitF W p := fun p hp => by
    rw [rb_bit (by omega), hb p, decide_eq_true hp, Bool.true_and]
  have ht : ∀ p, n ≤ p → bitF W p = false := fun p hp => by rw [hb p, decide_eq_false (by omega), Bool.false_and]
  refine ⟨e1, fun h i hi j hj => ?_, fun h k j hk hj => ?_⟩
  · rw [← h i j (by omega) hj, rlF_congr e1, rl_lf ht _ _ hj]
  · rw [rlF_congr e1, rl_lf ht _ _ hj]
    exact h k (by omega) j hj
theorem lfT_lt (W : Nat → Nat) (k : Nat) (j : Nat) : lfF W k 16 j < 256 := by
  rw [lf_byte W k 16 (Nat.le_refl _)]
  split
  · exact dig_lt _ _
  · show putAt _ _ _ _ j < 256
    unfold putAt
    split
    · exact tbyte_lt _ _
    · exact tbyte_lt _ _
theorem lfT_bit (W : Nat → Nat) (p : Nat) : bitL (fun i j => lfF W i 16 j) p = bitF W p := by
  unfold bitL bitF
  show (lfF W (p / 1024) 16 (128 + p % 1024 / 8)).testBit (p % 1024 % 8) = _
  rw [lf_byte W _ 16 (Nat.le_refl _), if_pos (by omega), digT_bit _ _ _ (by omega)]
  rw [show 16 * (p / 1024) + (128 + p % 1024 / 8 - 128) / 8 = p / 64 by omega, show 8 * ((128 + p % 1024 / 8 - 128) % 8) + p % 1024 % 8 = p % 64 by omega]
/-- a row of leaves, told leaf by leaf -/
theorem lvs_blks {w : World} {a : Option Addr} {M : Nat} {W : Nat → Nat} (h : IsBlks w a M fun i j => lvsF W (256 * i + j)) : IsBlks w a M fun i j => lfF W i 16 j := fun i hi => by
  obtain ⟨b0, o0, e0, l0, r0⟩ := h i hi
  refine ⟨b0, o0, e0, l0, ?_⟩
  have he : (List.range 256).map (iv .u8 (fun x => lvsF W (256 * i + x))) = (List.range 256).map (iv .u8 (lfF W i 16)) := List.map_congr_left fun x hx => by
    have hx' := List.mem_range.1 hx
    show Value.int .u8 ((lfF W ((256 * i + x) / 256) 16 ((256 * i + x) % 256) : Nat) : Int) = _
    rw [show (256 * i + x) / 256 = i by omega, show (256 * i + x) % 256 = x by omega]
    rfl
  rw [← he]
  exact r0
theorem rlA_lvs {W : Nat → Nat} {n : Nat} (ht : ∀ p, n ≤ p → bitF W p = false) (m : Nat) : byL (rlA (bitF W) n) m = byL (lvsF W) m := byL_congr fun x hx => by
  unfold rlA lvsF
  exact rl_lf ht _ _ (Nat.mod_lt _ (by decide))
/-- a map's own leaves make the map again -/
theorem from_own {n : Nat} (h1 : 1 ≤ n) (h2 : n ≤ 8192) (a : Option Addr) (cc : Nat) {W : Nat → Nat} (hlt : ∀ i, W i < 18446744073709551616) (ht : ∀ p, n ≤ p → bitF W p = false) (w : World) (hI : IsBlks w a (lvN n) fun i j => lfF W i 16 j) : Calls Tryd.prog 10 #[.int .i64 (n : Int), .slice a (lvN n) cc] w fun e w' => ∃ g b c, e = .returned (.tuple #[.pointer (some ⟨g, 0, none⟩), .int .i64 0]) ∧ BM w' w.heap.size g n b c W ∧ Below w.heap.size w w' := by
  refine (from_ok h1 h2 a cc _ (fun i j => lfT_lt W i j) w hI).mono ?_
  rintro e w' ⟨g, b, c, V, hM, hb, he, hB⟩
  obtain rfl : V = W := funext (words_ext hM.lt hlt fun p => by
    rw [hb p, lfT_bit]
    by_cases hp : p < n
    · rw [decide_eq_true hp, Bool.true_and]
    · rw [decide_eq_false hp, Bool.false_and, ht p (by omega)])
  rw [if_pos (fun i _ j _ => rfl)] at he
  exact ⟨g, b, c, he, hM, hB⟩
/-- leaves that are a map's own, by the document -/
def GoodL (n M : Nat) (L : Nat → Nat → Nat) : Prop := lvN n = M ∧ ∀ k j, k < M → j < 256 → rlF (rbF M L) n k 1024 j = L k j
theorem from_good {n M : Nat} (h1 : 1 ≤ n) (h2 : n ≤ 8192) (a : Option Addr) (cc : Nat) (L : Nat → Nat → Nat) (hL : ∀ i j, L i j < 256) (hG : GoodL n M L) (w : World) (hI : IsBlks w a M L) : Calls Tryd.prog 10 #[.int .i64 (n : Int), .slice a M cc] w fun e w' => ∃ g b c W, e = .returned (.tuple #[.pointer (some ⟨g, 0, none⟩), .int .i64 0]) ∧ BM w' w.heap.size g n b c W ∧ (∀ p, p < n → rbF M L p = bitF W p) ∧ Below w.heap.size w w' := by
  obtain ⟨rfl, hG⟩ := hG
  refine (from_ok h1 h2 a cc L hL w hI).mono ?_
  rintro e w' ⟨g, b, c, V, hM, hb, he, hB⟩
  obtain ⟨t1, t2⟩ := good_tie rfl hb
  rw [if_pos (t2.1 hG)] at he
  exact ⟨g, b, c, V, he, hM, t1, hB⟩
theorem from_bad {n M : Nat} (h1 : 1 ≤ n) (h2 : n ≤ 8192) (a : Option Addr) (cc : Nat) (L : Nat → Nat → Nat) (hL : ∀ i j, L i j < 256) (hG : ¬ GoodL n M L) (w : World) (hI : IsBlks w a M L) : Calls Tryd.prog 10 #[.int .i64 (n : Int), .slice a M cc] w fun e w' => e = .returned (.tuple #[.pointer none, .int .i64 111]) ∧ Below w.heap.size w w' := by
  by_cases hM : lvN n = M
  · subst hM
    refine (from_ok h1 h2 a cc L hL w hI).mono ?_
    rintro e w' ⟨g, b, c, V, hM, hb, he, hB⟩
    obtain ⟨t1, t2⟩ := good_tie rfl hb
    rw [if_neg (fun hx => hG ⟨rfl, t2.2 hx⟩)] at he
    exact ⟨he, hB⟩
  · exact from_many h1 h2 a M cc (fun e => hM e.symm) w
theorem rfrom_good {n M : Nat} (h1 : 1 ≤ n) (h2 : n ≤ 8192) (a : Option Addr) (cc : Nat) (L : Nat → Nat → Nat) (hL : ∀ i j, L i j < 256) (hM : M ≤ 10) (hG : GoodL n M L) (w : World) (hI : IsBlks w a M L) : Calls Tryd.prog 12 #[.int .i64 (n : Int), .slice a M cc] w fun e w' => ∃ g cap, e = .returned (.tuple #[.slice (some ⟨g, 0, none⟩) n cap, .int .i64 0]) ∧ BA w' w.heap.size g n cap (rbF M L) ∧ Below w.heap.size w w' := by
  refine (rfrom11_in n h1 h2 a M cc L hM hL w hI).mono ?_
  rintro e w' (⟨g, cap, he, _, _, hA, hB⟩ | ⟨_, hn, _⟩)
  · exact ⟨g, cap, he, hA, hB⟩
  · exact absurd hG hn
theorem rfrom_bad {n M : Nat} (h1 : 1 ≤ n) (h2 : n ≤ 8192) (a : Option Addr) (cc : Nat) (L : Nat → Nat → Nat) (hL : ∀ i j, L i j < 256) (hM : M ≤ 10) (hG : ¬ GoodL n M L) (w : World) (hI : IsBlks w a M L) : Calls Tryd.prog 12 #[.int .i64 (n : Int), .slice a M cc] w fun e w' => e = .returned (.tuple #[.slice none 0 0, .int .i64 111]) ∧ Below w.heap.size w w' := by
  refine (rfrom11_in n h1 h2 a M cc L hM hL w hI).mono ?_
  rintro e w' (⟨g, cap, he, g1, g2, hA, hB⟩ | ⟨he, _, hB⟩)
  · exact absurd ⟨g1, g2⟩ hG
  · exact ⟨he, hB⟩
end Go.Proofs.YtjbmhocmpgkmoaaDoor

namespace Go.Proofs.YtjbmhocmpgkmoaaDoor
set_option maxRecDepth 20000
open Go Go.RowKit
set_option linter.unusedVariables false
set_option linter.unusedSimpArgs false
def rnL : List (Nat × Nat) → List Value
  | [] => []
  | r :: l => .int .i64 (r.1 : Int) :: .int .i64 (r.2 : Int) :: rnL l
theorem rnL_len : ∀ l : List (Nat × Nat), (rnL l).length = l.length * 2
  | [] => rfl
  | r :: l => by simp [rnL, rnL_len l]; omega
theorem rnL_app : ∀ l m : List (Nat × Nat), rnL (l ++ m) = rnL l ++ rnL m
  | [], m => rfl
  | r :: l, m => by simp [rnL, rnL_app l m]
theorem rnL_at : ∀ (l : List (Nat × Nat)) (i : Nat) (r : Nat × Nat), l[i]? = some r → (rnL l)[i * 2]? = some (.int .i64 (r.1 : Int)) ∧ (rnL l)[i * 2 + 1]? = some (.int .i64 (r.2 : Int))
  | [], i, r, h => by simp at h
  | x :: l, 0, r, h => by
    simp at h
    subst h
    exact ⟨rfl, rfl⟩
  | x :: l, i + 1, r, h => by
    have ih := rnL_at l i r (by simpa using h)
    rw [show (i + 1) * 2 = i * 2 + 1 + 1 from by omega]
    exact ⟨ih.1, ih.2⟩
theorem rnL_set (l : List (Nat × Nat)) (a b i : Nat) : (rnL (l ++ [(a, b)])).set (l.length * 2 + 1) (.int .i64 (i : Int)) = rnL (l ++ [(a, i)]) := by
  rw [rnL_app, rnL_app, ← rnL_len l]
  rw [List.set_append_right _ _ (by omega)]
  simp [rnL]
theorem infoRun : (Tryd.prog.info? 80).map (fun i => (i.zero, i.size, i.bytes)) = some (some (.agg #[.int .i64 0, .int .i64 0]), 2, 16) := by kernel_rfl
theorem infoRRun : (Tryd.prog.info? 106).map (fun i => (i.zero, i.size, i.bytes)) = some (some (.agg #[.int .i64 0, .int .i64 0]), 2, 16) := by kernel_rfl
theorem cells_new2 (w : World) (x y : Value) (t : TypeId) : ∀ j u, ([x, y] : List Value)[j]? = some u → (w.alloc (.cells #[x, y] t)).cell? ((⟨w.heap.size, 0, none⟩ : Addr).add j) = some u := cells_new w #[x, y] t
section
variable {B g n b c k : Nat} {W : Nat → Nat} {F : Nat → Bool}
set_option maxHeartbeats 4000000 in
theorem runs_any (w : World) (h0 : 0 < w.heap.size) (hT : TabAt w) (h : BM w B g n b c W) : Calls Tryd.prog 55 #[.pointer (some ⟨g, 0, none⟩)] w fun e w' => ∃ v, e = .returned v ∧ w'.ownsRow w.heap.size 80 2 v (runsL (bitF W) n).length (rnL (runsL (bitF W) n)) ∧ Below w.heap.size w w' := by
  obtain ⟨i0, hi, hz0, hz1, hz2⟩ := info_parts infoRun
  have hn2 := h.n2
  have HNX : Hid (∀ V : World, Below w.heap.size w V → ∀ f : Nat, Calls Tryd.prog 54 #[.pointer (some ⟨g, 0, none⟩), .int .i64 (f : Int)] V fun e w' => e = .returned (.int .i64 (nxt (bitF W) true n f)) ∧ w' = V) := fun V hV f => by
    have := next_any V (hT.below h0 hV) (h.below hV) (f : Int)
    rw [show fromN (f : Int) = f from by unfold fromN; omega] at this
    exact this
  have HFR : Hid (∀ V : World, Below w.heap.size w V → ∀ f : Nat, Calls Tryd.prog 52 #[.pointer (some ⟨g, 0, none⟩), .int .i64 (f : Int)] V fun e w' => e = .returned (.int .i64 (nxt (bitF W) false n f)) ∧ w' = V) := fun V hV f => by
    have := free_any V (hT.below h0 hV) (h.below hV) (f : Int)
    rw [show fromN (f : Int) = f from by unfold fromN; omega] at this
    exact this
  have HM : Hid (∀ V : World, Below w.heap.size w V → V.cell? ⟨g, 0, none⟩ = some (.int .i64 (n : Int))) := fun V hV => (h.below hV).c0
  clear h hT h0
  have HN0 : Hid (Calls Tryd.prog 54 #[.pointer (some ⟨g, 0, none⟩), .int .i64 0] w fun e w' => e = .returned (.int .i64 (nxt (bitF W) true n 0)) ∧ w' = w) := HNX.out w (Below.refl _ _) 0
  generalize hF : bitF W = F at *
  clear hF
  go_enter Tryd.func55, Tryd.ntmps55
  go_wp2_with fail
  refine HN0.out.mono ?_
  intro e w2 hw2
  obtain ⟨he2, hw2⟩ := hw2
  subst he2
  subst hw2
  go_wp2_with fail
  go_loopw [3, 4] (fun l t wr => ∃ (e : Nat), e ≤ n ∧ t = .int .i64 (nxt F true n e) ∧ (e = 0 ∨ e = n ∨ F e = false) ∧ wr.ownsRow w2.heap.size 80 2 l (runsL F e).length (rnL (runsL F e)) ∧ Below w2.heap.size w2 wr) (fun _ t _ => if intOf t < 0 then 0 else n + 1 - (intOf t).toNat)
  case atStart => exact ⟨0, by omega, rfl, .inl rfl, World.ownsRow_nil _ _ _ _, Below.refl _ _⟩
  case round =>
    obtain ⟨e, he, rfl, hz, hown, hb⟩ := hrel
    have hx := nxt_is F true n e
    generalize hr : nxt F true n e = r at *
    by_cases hneg : r = -1
    · subst hneg
      have HE : Hid (runsL F n = runsL F e) := by
        show runsL F n = runsL F e
        have := runsL_gap F e (n - e) fun p h1 h2 => hx.none rfl p h1 (by omega)
        rw [show e + (n - e) = n from by omega] at this
        exact this
      rw [← HE.out] at hown
      clear hx hr hz
      go_wp2_with fail
      go_ret
      exact ⟨_, rfl, hown, hb⟩
    · obtain ⟨p, rfl, p1, p2, p3, p4⟩ := hx.some hneg
      have HP : Hid (runsL F p = runsL F e) := by
        show runsL F p = runsL F e
        have := runsL_gap F e (p - e) fun q h1 h2 => p4 q h1 (by omega)
        rw [show e + (p - e) = p from by omega] at this
        exact this
      have HP0 : p = 0 ∨ F (p - 1) = false := by
        by_cases hpe : p = e
        · rcases hz with z | z | z
          · exact .inl (hpe.trans z)
          · omega
          · rw [← hpe, p3] at z; cases z
        · exact .inr (p4 (p - 1) (by omega) (by omega))
      rw [← HP.out] at hown
      clear hx hr hz hneg p4
      have hy := nxt_is F false n p
      have a0 : (0 : Int) ≤ (p : Int) := by omega
      have c0 := HM.out wr hb
      have HFC := HFR.out wr hb p
      have key : ∀ d : Nat, p < d → d ≤ n → (∀ q, p ≤ q → q < d → F q = true) → runsL F d = runsL F p ++ [(p, d - 1)] := fun d h1 h2 h3 => by
        have := runsL_run F p HP0 (d - p - 1) fun q q1 q2 => h3 q q1 (by omega)
        rw [show p + (d - p - 1 + 1) = d from by omega, show p + (d - p - 1) = d - 1 from by omega] at this
        exact this
      have hlen := runsL_len F p
      obtain ⟨la, lc, hl3⟩ := kown_slice hown
      subst hl3
      have HLT := hown.lt
      -- what Free answers: a place d behind p, or none
      obtain ⟨d, hd1, hd2, hd3, hd4, hdv⟩ : ∃ d : Nat, p < d ∧ d ≤ n ∧ (∀ q, p ≤ q → q < d → F q = true) ∧ (d = n ∨ F d = false) ∧ ((nxt F false n p = (d : Int)) ∨ (nxt F false n p = -1 ∧ d = n)) := by
        by_cases hm : nxt F false n p = -1
        · exact ⟨n, p2, Nat.le_refl _, fun q h1 h2 => hy.none hm q h1 h2, .inl rfl, .inr ⟨hm, rfl⟩⟩
        · obtain ⟨d, e1, e2, e3, e4, e5⟩ := hy.some hm
          refine ⟨d, ?_, by omega, fun q h1 h2 => e5 q h1 h2, .inr e4, .inl e1⟩
          rcases Nat.lt_or_ge p d with z | z
          · exact z
          · have : d = p := by omega
            rw [this, p3] at e4; cases e4
      have HK : Hid (runsL F d = runsL F p ++ [(p, d - 1)]) := key d hd1 hd2 hd3
      have HROW : Hid (∀ (V : World) (v : Value), V.ownsRow w2.heap.size 80 2 v ((runsL F p).length + 1) (rnL (runsL F p) ++ [.int .i64 (p : Int), .int .i64 ((d : Int) - 1)]) → V.ownsRow w2.heap.size 80 2 v (runsL F d).length (rnL (runsL F d))) := fun V v hv => by
        rw [HK.out, rnL_app, List.length_append]
        rw [show ((d : Int) - 1) = ((d - 1 : Nat) : Int) from by omega] at hv
        exact hv
      have HNEW : Hid (∀ j u, ([.int .i64 (p : Int), .int .i64 ((d : Int) - 1)] : List Value)[j]? = some u → (wr.alloc (.cells #[.int .i64 (p : Int), .int .i64 ((d : Int) - 1)] 80)).cell? ((⟨wr.heap.size, 0, none⟩ : Addr).add j) = some u) := cells_new2 _ _ _ _
      have HOWN : Hid ((wr.alloc (.cells #[.int .i64 (p : Int), .int .i64 ((d : Int) - 1)] 80)).ownsRow w2.heap.size 80 2 (.slice la (runsL F p).length lc) (runsL F p).length (rnL (runsL F p))) := hown.alloc _
      have hbs := hb.size
      have HB : Hid (Below w2.heap.size w2 wr) := hb
      clear hy key hown p3 hd3 HP HP0 hb
      rcases hdv with hdv | ⟨hdv, hdn⟩
      · rw [hdv] at HFC
        have a1 : ¬ ((d : Int) < 0) := by omega
        have HD : Hid (d = n ∨ F d = false) := hd4
        have HPD : Hid (p < d ∧ d ≤ n ∧ p < n) := ⟨hd1, hd2, p2⟩
        clear hd4 hdv
        generalize hm0 : (runsL F p).length = m at *
        clear hm0
        go_wp2_with fail
        refine HFC.mono ?_
        intro e2 w3 hw3
        obtain ⟨he3, hw3⟩ := hw3
        subst he3
        subst hw3
        go_wp2_with (first
          | (refine wpList_build1 (by rfl) 76 80 _ (by rfl) #[.int .i64 (p : Int), .int .i64 ((d : Int) - 1)] (by rfl) i0 _ 2 Tryd.underlying76 hi hz0 hz1 rfl (by decide) (by decide) ?_; simp only [Act.put, List.setIfInBounds_toArray, List.set_cons_zero, List.set_cons_succ])
          | (at_builtin; refine bi_append_at rfl _ _ 76 rfl w2.heap.size 80 i0 _ 2 16 Tryd.underlying76 hi hz0 hz1 hz2 rfl (by decide) _ _ _ rfl HOWN.out ⟨w3.heap.size, 0, none⟩ 1 1 [.int .i64 (p : Int), .int .i64 ((d : Int) - 1)] rfl rfl HNEW.out (fun u hu => by simp at hu; rcases hu with rfl | rfl <;> rfl) (by unfold maxLen; omega) (by omega) (by simp; omega) ?_)
          | go_in)
        intro v4 w4 hown4 hgrow4 _
        have hb4 : Below w2.heap.size w2 w4 := (HB.out.alloc hbs _).grown hgrow4 (by simp; omega) (fun k hk => (HLT k hk).1)
        obtain ⟨g4, cap4, rfl, hg4, hg4'⟩ := kown_form hown4 (Nat.succ_pos m)
        have hown5 := HROW.out _ _ hown4
        have HN4 := HNX.out w4 hb4 d
        clear hown4 hgrow4 HOWN HNEW HROW HLT
        go_wp2_with fail
        refine HN4.mono ?_
        intro e5 w5 hw5
        obtain ⟨he5, hw5⟩ := hw5
        subst he5
        subst hw5
        go_wp2_with fail
        go_roundw
        case rel => exact ⟨d, HPD.out.2.1, rfl, .inr HD.out, hown5, hb4⟩
        case measure =>
          have hz := nxt_range F true n d
          have hP := HPD.out
          have hs := (nxt_is F true n d).some
          show (if nxt F true n d < 0 then 0 else n + 1 - (nxt F true n d).toNat) < (if (p : Int) < 0 then 0 else n + 1 - ((p : Int)).toNat)
          generalize nxt F true n d = r at *
          by_cases hr : r = -1
          · rw [if_pos (by omega), if_neg (by omega)]; omega
          · obtain ⟨x, e1, e2, _⟩ := hs hr
            rw [if_neg (by omega), if_neg (by omega)]
            omega
      · rw [hdv] at HFC
        subst hdn
        have HD : Hid (d = d ∨ F d = false) := hd4
        have HPD : Hid (p < d ∧ d ≤ d ∧ p < d) := ⟨hd1, hd2, p2⟩
        clear hd4 hdv
        generalize hm0 : (runsL F p).length = m at *
        clear hm0
        go_wp2_with fail
        refine HFC.mono ?_
        intro e2 w3 hw3
        obtain ⟨he3, hw3⟩ := hw3
        subst he3
        subst hw3
        go_wp2_with (first
          | (refine wpList_build1 (by rfl) 76 80 _ (by rfl) #[.int .i64 (p : Int), .int .i64 ((d : Int) - 1)] (by rfl) i0 _ 2 Tryd.underlying76 hi hz0 hz1 rfl (by decide) (by decide) ?_; simp only [Act.put, List.setIfInBounds_toArray, List.set_cons_zero, List.set_cons_succ])
          | (at_builtin; refine bi_append_at rfl _ _ 76 rfl w2.heap.size 80 i0 _ 2 16 Tryd.underlying76 hi hz0 hz1 hz2 rfl (by decide) _ _ _ rfl HOWN.out ⟨w3.heap.size, 0, none⟩ 1 1 [.int .i64 (p : Int), .int .i64 ((d : Int) - 1)] rfl rfl HNEW.out (fun u hu => by simp at hu; rcases hu with rfl | rfl <;> rfl) (by unfold maxLen; omega) (by omega) (by simp; omega) ?_)
          | go_in)
        intro v4 w4 hown4 hgrow4 _
        have hb4 : Below w2.heap.size w2 w4 := (HB.out.alloc hbs _).grown hgrow4 (by simp; omega) (fun k hk => (HLT k hk).1)
        obtain ⟨g4, cap4, rfl, hg4, hg4'⟩ := kown_form hown4 (Nat.succ_pos m)
        have hown5 := HROW.out _ _ hown4
        have HN4 := HNX.out w4 hb4 d
        clear hown4 hgrow4 HOWN HNEW HROW HLT
        go_wp2_with fail
        refine HN4.mono ?_
        intro e5 w5 hw5
        obtain ⟨he5, hw5⟩ := hw5
        subst he5
        subst hw5
        go_wp2_with fail
        go_roundw
        case rel => exact ⟨d, HPD.out.2.1, rfl, .inr (.inl rfl), hown5, hb4⟩
        case measure =>
          have hz := nxt_range F true d d
          have hP := HPD.out
          have hs := (nxt_is F true d d).some
          show (if nxt F true d d < 0 then 0 else d + 1 - (nxt F true d d).toNat) < (if (p : Int) < 0 then 0 else d + 1 - ((p : Int)).toNat)
          generalize nxt F true d d = r at *
          by_cases hr : r = -1
          · rw [if_pos (by omega), if_neg (by omega)]; omega
          · obtain ⟨x, e1, e2, _⟩ := hs hr
            rw [if_neg (by omega), if_neg (by omega)]
            omega
set_option maxHeartbeats 4000000 in
theorem rruns_any (w : World) (h : BA w B k n c F) : Calls Tryd.prog 56 #[.slice (some ⟨k, 0, none⟩) n c] w fun e w' => ∃ v, e = .returned v ∧ w'.ownsRow w.heap.size 106 2 v (runsL F n).length (rnL (runsL F n)) ∧ Below w.heap.size w w' := by
  obtain ⟨i0, hi, hz0, hz1, hz2⟩ := info_parts infoRRun
  have hn2 := h.n2
  have HC : Hid (∀ V : World, Below w.heap.size w V → ∀ i, i < n → V.cell? ⟨k, i, none⟩ = some (.bool (F i))) := fun V hV i hi => (h.below hV).at hi
  have HO0 : Hid ((w.alloc (.cells #[] 106)).ownsRow w.heap.size 106 2 (.slice (some ⟨w.heap.size, 0, none⟩) 0 0) 0 []) := World.ownsRow_lit w #[] 0 (Nat.le_refl _) (by decide) rfl
  clear h
  go_enter Tryd.func56, Tryd.ntmps56
  go_wp2_with fail
  go_loopw [3, 4] (fun l t wr => ∃ (j : Nat), j ≤ n ∧ t = .int .i64 (j : Int) ∧ wr.ownsRow w.heap.size 106 2 l (runsL F j).length (rnL (runsL F j)) ∧ Below w.heap.size w wr) (fun _ t _ => n - (intOf t).toNat)
  case atStart => exact ⟨0, by omega, rfl, HO0.out, below_new1 _ _⟩
  case round =>
    obtain ⟨j, hj, rfl, hown, hb⟩ := hrel
    by_cases hlt : j < n
    · have a1 : (j : Int) < (n : Int) := by omega
      have cw := HC.out wr hb j hlt
      obtain ⟨la, lc, hl3⟩ := kown_slice hown
      subst hl3
      have hlen := runsL_len F j
      have HLT := hown.lt
      have hbs := hb.size
      cases hF : F j
      · have HS : Hid (runsL F (j + 1) = runsL F j) := by
          show (if F j then runStep (runsL F j) j else runsL F j) = runsL F j
          rw [hF]; rfl
        rw [hF] at cw
        clear hF
        have HJ : Hid (j < n) := hlt
        go_wp2_with fail
        go_roundw
        case rel => exact ⟨j + 1, HJ.out, by go_num, by rw [HS.out]; exact hown, hb⟩
        case measure => simp [intOf]; omega
      · have HS : Hid (runsL F (j + 1) = runStep (runsL F j) j) := by
          show (if F j then runStep (runsL F j) j else runsL F j) = runStep (runsL F j) j
          rw [hF]; rfl
        rw [hF] at cw
        clear hF
        have HNEW : Hid (∀ i u, ([.int .i64 (j : Int), .int .i64 (j : Int)] : List Value)[i]? = some u → (wr.alloc (.cells #[.int .i64 (j : Int), .int .i64 (j : Int)] 106)).cell? ((⟨wr.heap.size, 0, none⟩ : Addr).add i) = some u) := cells_new2 _ _ _ _
        rcases List.eq_nil_or_concat (runsL F j) with hnil | ⟨l0, r, hcat0⟩
        · have hstep : runStep (runsL F j) j = runsL F j ++ [(j, j)] := by rw [hnil]; rfl
          have HOWN : Hid ((wr.alloc (.cells #[.int .i64 (j : Int), .int .i64 (j : Int)] 106)).ownsRow w.heap.size 106 2 (.slice la (runsL F j).length lc) (runsL F j).length (rnL (runsL F j))) := hown.alloc _
          have HROW : Hid (∀ (V : World) (v : Value), V.ownsRow w.heap.size 106 2 v ((runsL F j).length + 1) (rnL (runsL F j) ++ [.int .i64 (j : Int), .int .i64 (j : Int)]) → V.ownsRow w.heap.size 106 2 v (runsL F (j + 1)).length (rnL (runsL F (j + 1)))) := fun V v hv => by
            rw [HS.out, hstep, rnL_app, List.length_append]
            exact hv
          have HB : Hid (Below w.heap.size w wr) := hb
          have HJ : Hid (j < n) := hlt
          clear hstep hown hb HS
          rw [hnil] at HOWN HROW HLT hlen ⊢
          have hm0 : ([] : List (Nat × Nat)).length = 0 := rfl
          rw [hm0] at *
          go_wp2_with (first
            | (refine wpList_build1 (by rfl) 104 106 _ (by rfl) #[.int .i64 (j : Int), .int .i64 (j : Int)] (by rfl) i0 _ 2 Tryd.underlying104 hi hz0 hz1 rfl (by decide) (by decide) ?_; simp only [Act.put, List.setIfInBounds_toArray, List.set_cons_zero, List.set_cons_succ])
            | (at_builtin; refine bi_append_at rfl _ _ 104 rfl w.heap.size 106 i0 _ 2 16 Tryd.underlying104 hi hz0 hz1 hz2 rfl (by decide) _ _ _ rfl HOWN.out ⟨wr.heap.size, 0, none⟩ 1 1 [.int .i64 (j : Int), .int .i64 (j : Int)] rfl rfl HNEW.out (fun u hu => by simp at hu; subst hu; rfl) (by unfold maxLen; omega) (by omega) (by simp; omega) ?_)
            | go_in)
          intro v4 w4 hown4 hgrow4 _
          have hb4 : Below w.heap.size w w4 := (HB.out.alloc hbs _).grown hgrow4 (by simp; omega) (fun k hk => (HLT k hk).1)
          obtain ⟨g4, cap4, rfl, hg4, hg4'⟩ := kown_form hown4 (Nat.succ_pos _)
          have hown5 := HROW.out _ _ hown4
          clear hown4 hgrow4 HOWN HNEW HROW HLT
          go_wp2_with fail
          go_roundw
          case rel => exact ⟨j + 1, HJ.out, by go_num, hown5, hb4⟩
          case measure => simp [intOf]; have := HJ.out; omega
        · have hcat : runsL F j = l0 ++ [(r.1, r.2)] := by rw [hcat0]; simp
          clear hcat0
          obtain ⟨a, b⟩ := r
          simp only at hcat
          have hnn : (runsL F j).length = l0.length + 1 := by rw [hcat]; simp
          have hgt : 0 < (runsL F j).length := by omega
          obtain ⟨gl, cl, hve, hgl, hgl2⟩ := kown_form hown hgt
          injection hve with hv1 hv2 hv3
          subst hv1 hv3
          have cb : wr.cell? ⟨gl, ((runsL F j).length - 1) * 2 + 1, none⟩ = some (.int .i64 (b : Int)) := by
            rw [hown.cellAt _ (by omega)]
            have := (rnL_at (runsL F j) ((runsL F j).length - 1) (a, b) (by rw [hcat]; simp)).2
            exact this
          have cf : wr.frozen? ⟨gl, ((runsL F j).length - 1) * 2 + 1, none⟩ = false := hown.frozenAt _
          have hbj := runsL_to F j (a, b) (by rw [hcat]; simp)
          simp only at hbj
          by_cases hbj1 : b + 1 = j
          · have hstep : runStep (runsL F j) j = l0 ++ [(a, j)] := by rw [hcat]; unfold runStep; simp [hbj1]
            have HROW : Hid ((wr.setCell ⟨gl, ((runsL F j).length - 1) * 2 + 1, none⟩ (.int .i64 (j : Int))).ownsRow w.heap.size 106 2 (.slice (some ⟨gl, 0, none⟩) (runsL F j).length lc) (runsL F (j + 1)).length (rnL (runsL F (j + 1)))) := by
              have := (hown.stored (((runsL F j).length - 1) * 2 + 1) (.int .i64 (j : Int))).1
              show World.ownsRow _ _ _ _ _ _ _
              rw [HS.out, hstep]
              rw [show (l0 ++ [(a, j)]).length = (runsL F j).length from by rw [hnn]; simp]
              rw [← rnL_set l0 a b j, ← hcat]
              rw [show l0.length = (runsL F j).length - 1 from by omega]
              exact this
            have HB : Hid (Below w.heap.size w (wr.setCell ⟨gl, ((runsL F j).length - 1) * 2 + 1, none⟩ (.int .i64 (j : Int)))) := hb.setCell (p := ⟨gl, ((runsL F j).length - 1) * 2 + 1, none⟩) hgl _
            have HJ : Hid (j < n) := hlt
            have e1 : (b : Int) = (j : Int) - 1 := by omega
            have hln := hlen
            clear hstep hown hb HS hnn hcat HNEW HLT hbj
            generalize (runsL F j).length = m at *
            have h1 : ¬ ((m : Int) = 0) := by omega
            have h2 : ((m - 1 : Nat) : Int) = (m : Int) - 1 := by omega
            have h3 : (m : Int) - 1 < (m : Int) := by omega
            have h4 : (0 : Int) ≤ (m : Int) - 1 := by omega
            have h5 : ((m : Int) - 1).toNat = m - 1 := by omega
            have h6 : (0 : Int) < (m : Int) := by omega
            go_wp2_with fail
            go_roundw
            case rel => exact ⟨j + 1, HJ.out, by go_num, HROW.out, HB.out⟩
            case measure => simp [intOf]; have := HJ.out; omega
          · have hstep : runStep (runsL F j) j = runsL F j ++ [(j, j)] := by
              rw [hcat]; unfold runStep; simp [hbj1]
            have e1 : ¬ ((b : Int) = (j : Int) - 1) := by omega
            have HOWN : Hid ((wr.alloc (.cells #[.int .i64 (j : Int), .int .i64 (j : Int)] 106)).ownsRow w.heap.size 106 2 (.slice (some ⟨gl, 0, none⟩) (runsL F j).length lc) (runsL F j).length (rnL (runsL F j))) := hown.alloc _
            have HROW : Hid (∀ (V : World) (v : Value), V.ownsRow w.heap.size 106 2 v ((runsL F j).length + 1) (rnL (runsL F j) ++ [.int .i64 (j : Int), .int .i64 (j : Int)]) → V.ownsRow w.heap.size 106 2 v (runsL F (j + 1)).length (rnL (runsL F (j + 1)))) := fun V v hv => by
              rw [HS.out, hstep, rnL_app, List.length_append]
              exact hv
            have HB : Hid (Below w.heap.size w wr) := hb
            have HJ : Hid (j < n) := hlt
            clear hstep hown hb HS
            clear hcat hnn hbj
            generalize (runsL F j).length = m at *
            have h1 : ¬ ((m : Int) = 0) := by omega
            have h2 : ((m - 1 : Nat) : Int) = (m : Int) - 1 := by omega
            have h3 : (m : Int) - 1 < (m : Int) := by omega
            have h4 : (0 : Int) ≤ (m : Int) - 1 := by omega
            have h5 : ((m : Int) - 1).toNat = m - 1 := by omega
            have h6 : (0 : Int) < (m : Int) := by omega
            go_wp2_with (first
              | (refine wpList_build1 (by rfl) 104 106 _ (by rfl) #[.int .i64 (j : Int), .int .i64 (j : Int)] (by rfl) i0 _ 2 Tryd.underlying104 hi hz0 hz1 rfl (by decide) (by decide) ?_; simp only [Act.put, List.setIfInBounds_toArray, List.set_cons_zero, List.set_cons_succ])
              | (at_builtin; refine bi_append_at rfl _ _ 104 rfl w.heap.size 106 i0 _ 2 16 Tryd.underlying104 hi hz0 hz1 hz2 rfl (by decide) _ _ _ rfl HOWN.out ⟨wr.heap.size, 0, none⟩ 1 1 [.int .i64 (j : Int), .int .i64 (j : Int)] rfl rfl HNEW.out (fun u hu => by simp at hu; subst hu; rfl) (by unfold maxLen; omega) (by omega) (by simp; omega) ?_)
              | go_in)
            intro v4 w4 hown4 hgrow4 _
            have hb4 : Below w.heap.size w w4 := (HB.out.alloc hbs _).grown hgrow4 (by simp; omega) (fun k hk => (HLT k hk).1)
            obtain ⟨g4, cap4, rfl, hg4, hg4'⟩ := kown_form hown4 (Nat.succ_pos _)
            have hown5 := HROW.out _ _ hown4
            clear hown4 hgrow4 HOWN HNEW HROW HLT
            go_wp2_with fail
            go_roundw
            case rel => exact ⟨j + 1, HJ.out, by go_num, hown5, hb4⟩
            case measure => simp [intOf]; have := HJ.out; omega
    · obtain rfl : j = n := by omega
      have a1 : ¬ ((j : Int) < (j : Int)) := by omega
      go_wp2_with fail
      go_ret
      exact ⟨_, rfl, hown, hb⟩
end
end Go.Proofs.YtjbmhocmpgkmoaaDoor

namespace Go.Proofs.YtjbmhocmpgkmoaaDoor
open Go Go.RowKit
set_option linter.unusedVariables false
set_option linter.unusedSimpArgs false
def Drew (w w' : World) : Prop := ∃ m, w' = w.drewN m
section
variable {B B' g n b c k c' : Nat} {W : Nat → Nat}
set_option maxHeartbeats 4000000 in
theorem says_any (w : World) (h0 : 0 < w.heap.size) (hT : TabAt w) (h : BM w B g n b c W) (hA : BA w B' k n c' (bitF W)) (f : Int) : Calls Tryd.prog 13 #[.pointer (some ⟨g, 0, none⟩), .slice (some ⟨k, 0, none⟩) n c', .int .i64 f] w fun e w' => e = .returned (.bool true) ∧ Below w.heap.size w w' := by
  have HS : Hid (Calls Tryd.prog 46 #[.pointer (some ⟨g, 0, none⟩)] w fun e w' => e = .returned (.int .i64 (n : Int)) ∧ w' = w) := bsize_any w h
  have HC : Hid (Calls Tryd.prog 44 #[.pointer (some ⟨g, 0, none⟩)] w fun e w' => e = .returned (.int .i64 (cntF (bitF W) n : Int)) ∧ w' = w) := count_any w h
  have HC2 : Hid (Calls Tryd.prog 51 #[.slice (some ⟨k, 0, none⟩) n c'] w fun e w' => e = .returned (.int .i64 (cntF (bitF W) n : Int)) ∧ w' = w) := rcount_any w hA
  have HF := free_any w hT h f
  have HF2 := rnext_nought w hA f
  have HN := next_any w hT h f
  have HN2 := rnext_one w hA f
  have HH : Hid (∀ V : World, Below w.heap.size w V → ∀ q : Nat, q < n → Calls Tryd.prog 43 #[.pointer (some ⟨g, 0, none⟩), .int .i64 (q : Int)] V fun e w' => e = .returned (.bool (bitF W q)) ∧ ∃ m, w' = V.drewN m) := fun V hV q hq => has_yes V (h.below hV) q hq
  have HH2 : Hid (∀ V : World, Below w.heap.size w V → ∀ q : Int, (q < 0 ∨ (n : Int) ≤ q) → Calls Tryd.prog 43 #[.pointer (some ⟨g, 0, none⟩), .int .i64 q] V fun e w' => e = .returned (.bool false) ∧ ∃ m, w' = V.drewN m) := fun V hV q hq => has_no V (h.below hV) q hq
  have HA : Hid (∀ V : World, Below w.heap.size w V → ∀ q : Nat, q < n → V.cell? ⟨k, q, none⟩ = some (.bool (bitF W q))) := fun V hV q hq => (hA.below hV).at hq
  have HR : Hid (∀ V : World, Below w.heap.size w V → Calls Tryd.prog 55 #[.pointer (some ⟨g, 0, none⟩)] V fun e w' => ∃ v, e = .returned v ∧ w'.ownsRow V.heap.size 80 2 v (runsL (bitF W) n).length (rnL (runsL (bitF W) n)) ∧ Below V.heap.size V w') := fun V hV => runs_any V (Nat.lt_of_lt_of_le h0 hV.size) (hT.below h0 hV) (h.below hV)
  have HR2 : Hid (∀ V : World, Below w.heap.size w V → Calls Tryd.prog 56 #[.slice (some ⟨k, 0, none⟩) n c'] V fun e w' => ∃ v, e = .returned v ∧ w'.ownsRow V.heap.size 106 2 v (runsL (bitF W) n).length (rnL (runsL (bitF W) n)) ∧ Below V.heap.size V w') := fun V hV => rruns_any V (hA.below hV)
  have hlen := runsL_len (bitF W) n
  have HL : Hid (∀ i, i < (runsL (bitF W) n).length → ∃ r : Nat × Nat, (runsL (bitF W) n)[i]? = some r) := fun i hi => ⟨_, List.getElem?_eq_getElem hi⟩
  have hn2 := h.n2
  clear h hA hT h0
  generalize cntF (bitF W) n = x1 at *
  generalize nxt (bitF W) true n (fromN f) = x2 at *
  generalize nxt (bitF W) false n (fromN f) = x3 at *
  generalize runsL (bitF W) n = L at *
  go_enter Tryd.func13, Tryd.ntmps13
  go_wp2_with fail
  refine HS.out.mono ?_
  rintro e w' ⟨rfl, rfl⟩
  go_wp2_with fail
  refine HC.out.mono ?_
  rintro e w' ⟨rfl, rfl⟩
  go_wp2_with fail
  refine HC2.out.mono ?_
  rintro e w' ⟨rfl, rfl⟩
  go_wp2_with fail
  refine HF.mono ?_
  rintro e w' ⟨rfl, rfl⟩
  go_wp2_with fail
  refine HF2.mono ?_
  rintro e w' ⟨rfl, rfl⟩
  go_wp2_with fail
  refine HN.mono ?_
  rintro e w' ⟨rfl, rfl⟩
  go_wp2_with fail
  refine HN2.mono ?_
  rintro e w0 ⟨rfl, rfl⟩
  go_wp2_with fail
  clear HS HC HC2 HF HF2 HN HN2
  go_loopw [7] (fun t wr => ∃ i : Int, -1 ≤ i ∧ i ≤ (n : Int) + 1 ∧ t = .int .i64 i ∧ Below w0.heap.size w0 wr) (fun t _ => ((n : Int) + 1 - intOf t).toNat)
  case atStart => exact ⟨-1, by omega, by omega, rfl, Below.refl _ _⟩
  case round =>
    obtain ⟨i, hi1, hi2, rfl, hb⟩ := hrel
    have HB : Hid (Below w0.heap.size w0 wr) := hb
    by_cases hin : i ≤ (n : Int)
    · by_cases hq : i < 0 ∨ (n : Int) ≤ i
      · have HX := HH2.out wr hb i hq
        clear hb
        by_cases hneg : i < 0
        · have hneg2 : ¬ (0 ≤ i) := by omega
          go_wp2_with fail
          refine HX.mono ?_
          rintro e w2 ⟨rfl, md, rfl⟩
          go_wp2_with fail
          go_roundw
          case rel => exact ⟨i + 1, by omega, by omega, by go_num, below_dN HB.out md⟩
          case measure => simp [intOf]; omega
        · have hneg2 : 0 ≤ i := by omega
          have hge : ¬ (i < (n : Int)) := by omega
          go_wp2_with fail
          refine HX.mono ?_
          rintro e w2 ⟨rfl, md, rfl⟩
          go_wp2_with fail
          go_roundw
          case rel => exact ⟨i + 1, by omega, by omega, by go_num, below_dN HB.out md⟩
          case measure => simp [intOf]; omega
      · obtain ⟨q, rfl⟩ := Int.eq_ofNat_of_zero_le (a := i) (by omega)
        have hqn : (q : Int) < (n : Int) := by omega
        have hqn2 : q < n := by omega
        have HX := HH.out wr hb q hqn2
        have HC' : Hid (∀ md, (wr.drewN md).cell? ⟨k, q, none⟩ = some (.bool (bitF W q))) := fun md => HA.out _ (below_dN hb md) q hqn2
        clear hb hq
        generalize bitF W q = bq at *
        go_wp2_with fail
        refine HX.mono ?_
        rintro e w2 ⟨rfl, md, rfl⟩
        have cq := HC'.out md
        have HB2 : Hid (Below w0.heap.size w0 (wr.drewN md)) := below_dN HB.out md
        generalize wr.drewN md = w3 at *
        cases bq
        · go_wp2_with fail
          go_roundw
          case rel => exact ⟨(q : Int) + 1, by omega, by omega, by go_num, HB2.out⟩
          case measure => simp [intOf]; omega
        · go_wp2_with fail
          go_roundw
          case rel => exact ⟨(q : Int) + 1, by omega, by omega, by go_num, HB2.out⟩
          case measure => simp [intOf]; omega
    · have HR1 := HR.out wr hb
      go_wp2_with fail
      refine HR1.mono ?_
      rintro e w1 ⟨v1, rfl, ho1, hb1⟩
      have hbw1 : Below w0.heap.size w0 w1 := hb.trans (hb1.mono hb.size)
      have HR3 := HR2.out w1 hbw1
      go_wp2_with fail
      refine HR3.mono ?_
      rintro e w2 ⟨v2, rfl, ho2, hb2⟩
      have hbw2 : Below w0.heap.size w0 w2 := hbw1.trans (hb2.mono hbw1.size)
      have ho3 := kown_below ho1 hb2
      obtain ⟨a1, d1, rfl⟩ := kown_slice ho3
      obtain ⟨a2, d2, rfl⟩ := kown_slice ho2
      have HO1 : Hid (w2.ownsRow wr.heap.size 80 2 (.slice a1 L.length d1) L.length (rnL L)) := ho3
      have HO2 : Hid (w2.ownsRow w1.heap.size 106 2 (.slice a2 L.length d2) L.length (rnL L)) := ho2
      have HB2 : Hid (Below w0.heap.size w0 w2) := hbw2
      have hl2 : L.length ≤ 8192 := by omega
      clear ho1 ho2 ho3 hb1 hb2 hbw1 hbw2 hb HB HR1 HR3 hin hi1 hi2 hlen
      generalize hm : L.length = m at *
      go_wp2_with fail
      go_loopw [10] (fun t wr2 => ∃ j : Nat, j ≤ m ∧ t = .int .i64 (j : Int) ∧ Drew w2 wr2) (fun t _ => m - (intOf t).toNat)
      case atStart => exact ⟨0, by omega, rfl, ⟨0, rfl⟩⟩
      case round =>
        obtain ⟨j, hj, rfl, md, rfl⟩ := hrel
        by_cases hlt : j < m
        · obtain ⟨r, hr⟩ := HL.out j hlt
          have hx := rnL_at L j r hr
          obtain ⟨g1, q1, e1, _, _⟩ := kown_form HO1.out (by omega)
          obtain ⟨g2, q2, e2, _, _⟩ := kown_form HO2.out (by omega)
          injection e1 with e1 e1b e1c
          injection e2 with e2 e2b e2c
          clear e1b e2b
          subst e1
          subst e2
          subst e1c
          subst e2c
          have k10 : w2.cell? ⟨g1, j * 2, none⟩ = some (.int .i64 (r.1 : Int)) := (HO1.out.cellAt (j * 2) (by omega)).trans hx.1
          have k11 : w2.cell? ⟨g1, j * 2 + 1, none⟩ = some (.int .i64 (r.2 : Int)) := (HO1.out.cellAt (j * 2 + 1) (by omega)).trans hx.2
          have k20 : w2.cell? ⟨g2, j * 2, none⟩ = some (.int .i64 (r.1 : Int)) := (HO2.out.cellAt (j * 2) (by omega)).trans hx.1
          have k21 : w2.cell? ⟨g2, j * 2 + 1, none⟩ = some (.int .i64 (r.2 : Int)) := (HO2.out.cellAt (j * 2 + 1) (by omega)).trans hx.2
          have j0 : (0 : Int) ≤ (j : Int) := by omega
          have j1 : (j : Int) < (m : Int) := by omega
          have HM : Hid (j < m) := hlt
          clear hx hr
          generalize r.1 = ra at *
          generalize r.2 = rb at *
          go_wp2_with fail
          go_quiet (fail)
          go_wp2_with fail
          go_roundw
          case rel => exact ⟨j + 1, HM.out, by go_num, ⟨_, rfl⟩⟩
          case measure => simp [intOf]; have := HM.out; omega
        · obtain rfl : j = m := by omega
          have j1 : ¬ ((j : Int) < (j : Int)) := by omega
          go_wp2_with fail
          go_ret
          exact ⟨rfl, below_dN HB2.out md⟩
end
end Go.Proofs.YtjbmhocmpgkmoaaDoor

namespace Go.Proofs.YtjbmhocmpgkmoaaDoor
open Go Go.RowKit
set_option linter.unusedVariables false
set_option linter.unusedSimpArgs false
theorem cnt_three : cntF (bitF (putW (fun _ => 0) 3)) 16 = 1 := by decide
set_option maxHeartbeats 1000000 in
theorem awake11_any (w : World) : Calls Tryd.prog 7 #[] w fun e w' => e = .returned (.bool true) ∧ Below w.heap.size w w' := by
  have HN : Hid (Calls Tryd.prog 38 #[.int .i64 16] w fun e w' => ∃ g b c, e = .returned (.tuple #[.pointer (some ⟨g, 0, none⟩), .int .i64 0]) ∧ BM w' w.heap.size g 16 b c (fun _ => 0) ∧ Below w.heap.size w w') := newM_ok 16 (by decide) (by decide) w
  go_enter Tryd.func7, Tryd.ntmps7
  go_wp2_with fail
  refine HN.out.mono ?_
  rintro e w1 ⟨g, b, c, rfl, h1, hb1⟩
  have HS : Hid (Calls Tryd.prog 39 #[.pointer (some ⟨g, 0, none⟩), .int .i64 3] w1 fun e w' => e = .returned (.bool true) ∧ BM w' w.heap.size g 16 b c (putW (fun _ => 0) 3) ∧ Only b w1 w') := set_new w1 h1 3 (by decide) (by decide)
  go_wp2_with fail
  refine HS.out.mono ?_
  rintro e w2 ⟨rfl, h2, ho2⟩
  have hb2 : Below w.heap.size w w2 := hb1.trans (ho2.below hb1.size h1.blt.1)
  have HH : Hid (Calls Tryd.prog 43 #[.pointer (some ⟨g, 0, none⟩), .int .i64 3] w2 fun e w' => e = .returned (.bool true) ∧ ∃ m, w' = w2.drewN m) := by
    have := has_yes w2 h2 3 (by decide)
    rw [show bitF (putW (fun _ => 0) 3) 3 = true from by decide] at this
    exact this
  go_wp2_with fail
  refine HH.out.mono ?_
  rintro e w3 ⟨rfl, md, rfl⟩
  have HC : Hid (Calls Tryd.prog 44 #[.pointer (some ⟨g, 0, none⟩)] (w2.drewN md) fun e w' => e = .returned (.int .i64 1) ∧ w' = w2.drewN md) := by
    have := count_any _ (h2.dN md)
    rw [cnt_three] at this
    exact this
  have hb3 : Below w.heap.size w (w2.drewN md) := below_dN hb2 md
  clear h1 h2 ho2 hb2 hb1
  generalize w2.drewN md = w3 at *
  go_wp2_with fail
  refine HC.out.mono ?_
  rintro e w4 ⟨rfl, rfl⟩
  go_wp2_with fail
  go_ret
  exact ⟨rfl, hb3⟩
end Go.Proofs.YtjbmhocmpgkmoaaDoor
