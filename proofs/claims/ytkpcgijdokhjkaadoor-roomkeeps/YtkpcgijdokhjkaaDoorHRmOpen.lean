/- A slice of numbers of 32 bits as an argument, and a number with one, opened: no condition but that it is one. -/
import Derived.Test.YtkpcgijdokhjkaaDoorHRmMap
import Derived.Handy
import Derived.Test.YtkpcgijdokhjkaaDoorRows
import Derived.WalkKit
import Derived.ProofKit
import Derived.OpenShut
import Derived.Carry
import Derived.Deep.Slices
import Derived.Lib.SmallJoins
import Derived.SizedLaws
import Derived.Test.YtkpcgijdokhjkaaDoorHRmList

namespace Go.Proofs.YtkpcgijdokhjkaaDoor
open Go Go.RowKit
set_option linter.unusedVariables false
set_option linter.unusedSimpArgs false
theorem zero_bool (w : World) : (zeroValue 4).run Tryd.prog w = .ok (.bool false) w := by
  have h : Tryd.t4.zero = some (.bool false) := by kernel_rfl
  simp [zeroValue, h]
/-- two rooms beside each other: one that turns (its blocks: Pr), and its first copy (Pf) -/
structure ST (w V : World) (Pr Pf : Nat → Prop) (r r' n : Nat) (F G : Nat → Bool) : Prop where
  a : RoomIs V Pr r n F G
  b : RoomIs V Pf r' n F F
  c : Below w.heap.size w V
section
variable {w V V' : World} {Pr Pf : Nat → Prop} {r r' n : Nat} {F G G' : Nat → Bool}
theorem ST.below (h : ST w V Pr Pf r r' n F G) (hb : Below V.heap.size V V') : ST w V' Pr Pf r r' n F G := ⟨h.a.below hb, h.b.below hb, h.c.trans (hb.mono h.c.size)⟩
theorem ST.turn (h : ST w V Pr Pf r r' n F G) (ht : Touch Pr V V') (ha : RoomIs V' Pr r n F G') (hd : ∀ k, Pf k → ¬ Pr k) (hw : ∀ k, k < w.heap.size → ¬ Pr k) : ST w V' Pr Pf r r' n F G' := ⟨ha, h.b.apart ht hd, h.c.trans (ht.below h.c.size hw)⟩
/-- what was made between is the room's no more -/
theorem ST.gap (h : ST w V Pr Pf r r' n F G) (hb : Below V.heap.size V V') : ST w V' (fun k => (k < V.heap.size ∧ Pr k) ∨ V'.heap.size ≤ k) Pf r r' n F G := ⟨(h.a.reown fun k hk hp => .inl ⟨hk, hp⟩).below hb, h.b.below hb, h.c.trans (hb.mono h.c.size)⟩
theorem own_u32 {B : Nat} {v : Value} {xs : List Nat} (h : V.ownsRow B 22 1 v xs.length (u32L xs)) : ∃ a cap, v = .slice a xs.length cap ∧ IsU32s V a xs.length fun i => xs.getD i 0 % 4294967296 := by
  obtain ⟨a, cap, rfl⟩ := kown_slice h
  refine ⟨a, cap, rfl, fun i hi => ⟨Nat.mod_lt _ (by decide), ?_⟩⟩
  obtain ⟨g, cap', hv, hg1, hg2⟩ := kown_form h (by omega)
  injection hv with hv1 hv2 hv3
  subst hv1
  refine ⟨g, 0, rfl, hg2, ?_⟩
  subst hv3
  rw [Nat.zero_add, h.cellAt i (by omega)]
  unfold u32L
  rw [List.getElem?_map, List.getElem?_eq_getElem hi]
  show some (Value.int .u32 (((xs[i] : Nat) : Int) % 4294967296)) = some (Value.int .u32 ((xs.getD i 0 % 4294967296 : Nat) : Int))
  rw [List.getD_eq_getElem?_getD, List.getElem?_eq_getElem hi]
  rfl
theorem ones_len (F : Nat → Bool) : ∀ n, (onesL F n).length = cntF F n
  | 0 => rfl
  | n + 1 => by
    rw [onesL_succ, List.length_append, ones_len F n]
    show _ = cntF F n + if F n = true then 1 else 0
    by_cases h : F n = true
    · simp [h]
    · simp [h]
theorem ones_eq {F G : Nat → Bool} {n : Nat} (h : ∀ p, p < n → F p = G p) : onesL F n = onesL G n := by
  unfold onesL
  exact List.filter_congr fun x hx => h x (List.mem_range.1 hx)
theorem gone_eq (hF0 : ∀ p, n ≤ p → F p = false) (hG0 : ∀ p, n ≤ p → G p = false) (hf : freeF F G n = -1) (p : Nat) (hp : p < n) : inF G G n 1 p = inF F G n 4 p := by
  rw [inF_pos 1 (by decide) hG0 hG0, inF_pos 4 (by decide) hF0 hG0]
  unfold stN
  by_cases h0 : 1 ≤ p
  · rcases free_none hf p h0 hp with h | h
    · rw [h]; cases G p <;> simp
    · rw [h]; cases F p <;> simp
  · simp [h0]
/-- the counts of the first states together -/
def sumC (F G : Nat → Bool) (n : Nat) : Nat → Nat
  | 0 => 0
  | k + 1 => sumC F G n k + cntF (inF F G n (k : Int)) n
theorem sumC_le (F G : Nat → Bool) (n : Nat) : ∀ k, sumC F G n k ≤ n * k
  | 0 => by simp [sumC]
  | k + 1 => by
    have := sumC_le F G n k
    have h2 : cntF (inF F G n (k : Int)) n ≤ n := cntF_le _ _
    show sumC F G n k + cntF (inF F G n (k : Int)) n ≤ n * (k + 1)
    rw [Nat.mul_succ]
    omega
theorem sumC_five (hn : 1 ≤ n) : sumC F G n 5 = n := by
  have := all_cnt (F := F) (G := G) hn
  show 0 + cntF (inF F G n 0) n + cntF (inF F G n 1) n + cntF (inF F G n 2) n + cntF (inF F G n 3) n + cntF (inF F G n 4) n = n
  omega
theorem st_two {p : Nat} (hG : G p = true) (h1 : 1 ≤ p) (h2 : p < n) : (stAt F G n p : Int) = 2 ∨ (stAt F G n p : Int) = 3 := by
  unfold stAt stN
  rw [if_neg (by omega), hG]
  cases F p <;> simp
theorem st_not {p : Nat} (hG : G p = false) : ¬ (stAt F G n p : Int) = 2 ∧ ¬ (stAt F G n p : Int) = 3 := by
  unfold stAt stN
  split
  · simp
  · rw [hG]; cases F p <;> simp
end
set_option maxRecDepth 100000 in
set_option maxHeartbeats 16000000 in
theorem keeps_bad (n : Nat) (h1 : 16 ≤ n) (h2 : n ≤ 8192) (a : Option Addr) (N cc : Nat) (hN : N ≤ 9223372036854775807) (A : Nat → Nat) (v : Value) (w : World) (h0 : 0 < w.heap.size) (hT : TabAt w) (hD : IsU32s w a N A) (hbad : ¬ GoodA A n N) : Calls Tryd.prog 7 #[.int .i64 (n : Int), .slice a N cc, v] w fun e w' => e = .returned (.bool true) ∧ Below w.heap.size w w' := by
  have HN : Hid (Calls Tryd.prog 29 #[.int .i64 (n : Int), .slice a N cc] w fun e w' => (∃ m : Nat, e = .returned (.tuple #[.pointer none, .int .i64 (m : Int), .int .i64 121])) ∧ Below w.heap.size w w') := by
    refine (rnew_any h1 h2 a N cc hN A w hD).mono ?_
    rintro e w' ⟨⟨r, rfl, hg, _⟩ | ⟨m, _, rfl, _, _⟩, hb⟩
    · exact absurd hg hbad
    · exact ⟨⟨m, rfl⟩, hb⟩
  have HR : Hid (∀ V, Below w.heap.size w V → Calls Tryd.prog 30 #[.int .i64 (n : Int), .slice a N cc] V fun e w' => (∃ m : Nat, e = .returned (.tuple #[.slice none 0 0, .int .i64 (m : Int), .int .i64 121])) ∧ Below w.heap.size w w') := fun V hV => by
    refine (rref_any h1 h2 a N cc hN A V (hD.below hV)).mono ?_
    rintro e w' ⟨⟨k, c, rfl, hg, _⟩ | ⟨m, _, rfl, _, _⟩, hb⟩
    · exact absurd hg hbad
    · exact ⟨⟨m, rfl⟩, hV.trans (hb.mono hV.size)⟩
  have HT : Hid (TabAt w) := hT
  clear hD hbad hT
  go_enter Tryd.func7, Tryd.ntmps7
  go_wp2_with fail
  refine HN.out.mono ?_
  rintro e w1 ⟨⟨m, rfl⟩, hb1⟩
  have HA := awake12_any w1 (HT.out.below h0 hb1) (Nat.lt_of_lt_of_le h0 hb1.size)
  go_wp2_with fail
  refine HA.mono ?_
  rintro e w2 ⟨rfl, hb2⟩
  have hbw2 := hb1.trans (hb2.mono hb1.size)
  have HR2 := HR.out w2 hbw2
  clear HA HN HR hb1 hb2
  go_wp2_with fail
  refine HR2.mono ?_
  rintro e w3 ⟨⟨m3, rfl⟩, hb3⟩
  go_wp2_with fail
  go_ret
  exact ⟨rfl, hb3⟩
set_option maxRecDepth 100000 in
set_option maxHeartbeats 16000000 in
theorem keeps_no (p : Int) (hp : p < 16 ∨ 8192 < p) (v u : Value) (w : World) (h0 : 0 < w.heap.size) (hT : TabAt w) : Calls Tryd.prog 7 #[.int .i64 p, v, u] w fun e w' => e = .returned (.bool true) ∧ Below w.heap.size w w' := by
  have HA := awake12_any w hT h0
  clear hT
  go_enter Tryd.func7, Tryd.ntmps7
  go_wp2_with fail
  refine (rnew_no p hp v w).mono ?_
  rintro e w1 ⟨rfl, hw1⟩
  subst hw1
  go_wp2_with fail
  refine HA.mono ?_
  rintro e w2 ⟨rfl, hb2⟩
  go_wp2_with fail
  refine (rref_no p hp v _).mono ?_
  rintro e w3 ⟨rfl, hw3⟩
  subst hw3
  go_wp2_with fail
  go_ret
  exact ⟨rfl, hb2⟩
set_option maxRecDepth 100000 in
set_option maxHeartbeats 32000000 in
theorem keeps_ok (n : Nat) (h1 : 16 ≤ n) (h2 : n ≤ 8192) (a : Option Addr) (N cc : Nat) (hN : N ≤ 9223372036854775807) (A : Nat → Nat) (a' : Option Addr) (M cc' : Nat) (hM : M ≤ 9223372036854775807) (B : Nat → Nat) (w : World) (h0 : 0 < w.heap.size) (hT : TabAt w) (hD : IsU32s w a N A) (hD' : IsU32s w a' M B) (hgood : GoodA A n N) : Calls Tryd.prog 7 #[.int .i64 (n : Int), .slice a N cc, .slice a' M cc'] w fun e w' => e = .returned (.bool true) ∧ Below w.heap.size w w' := by
  have HN : Hid (Calls Tryd.prog 29 #[.int .i64 (n : Int), .slice a N cc] w fun e w' => ∃ r, e = .returned (.tuple #[.pointer (some ⟨r, 0, none⟩), .int .i64 0, .int .i64 0]) ∧ RoomIs w' (fun k => w.heap.size ≤ k) r n (memA A N) (memA A N) ∧ Below w.heap.size w w') := by
    refine (rnew_any h1 h2 a N cc hN A w hD).mono ?_
    rintro e w' ⟨⟨r, rfl, _, hR⟩ | ⟨m, hm, rfl, _, hb'⟩, hb⟩
    · exact ⟨r, rfl, hR, hb⟩
    · exact absurd (hgood m hm) hb'
  have HI : Hid (∀ V, Below w.heap.size w V → IsU32s V a' M B ∧ TabAt V ∧ 0 < V.heap.size) := fun V hV => ⟨hD'.below hV, hT.below h0 hV, Nat.lt_of_lt_of_le h0 hV.size⟩
  clear hD hD' hT hgood
  generalize memA A N = F at *
  go_enter Tryd.func7, Tryd.ntmps7
  go_wp2_with fail
  refine HN.out.mono ?_
  rintro e w1 ⟨r, rfl, hR1, hb1⟩
  have HA := awake12_any w1 (HI.out w1 hb1).2.1 (HI.out w1 hb1).2.2
  have HR1 : Hid (RoomIs w1 (fun k => w.heap.size ≤ k) r n F F) := hR1
  clear hR1 HN
  go_wp2_with fail
  refine HA.mono ?_
  rintro e w2 ⟨rfl, hb2⟩
  have hR2 := HR1.out.below hb2
  have hbw2 := hb1.trans (hb2.mono hb1.size)
  have HC := rcopy_any hR2
  have HR2 : Hid (RoomIs w2 (fun k => w.heap.size ≤ k) r n F F) := hR2
  clear HA HR1 hb1 hb2 hR2
  go_wp2_with fail
  refine HC.mono ?_
  rintro e w3 ⟨r', rfl, hR3, hb3⟩
  have hs12 : w.heap.size ≤ w2.heap.size := hbw2.size
  have hs23 : w2.heap.size ≤ w3.heap.size := hb3.size
  obtain ⟨Pf, hPf⟩ : ∃ Pf : Nat → Prop, Pf = fun k => w2.heap.size ≤ k ∧ k < w3.heap.size := ⟨_, rfl⟩
  obtain ⟨Pr, hPr⟩ : ∃ Pr : Nat → Prop, Pr = fun k => (w.heap.size ≤ k ∧ k < w2.heap.size) ∨ w3.heap.size ≤ k := ⟨_, rfl⟩
  have HST : Hid (ST w w3 Pr Pf r r' n F F) := ⟨(HR2.out.reown fun k hk hp => by rw [hPr]; exact .inl ⟨hp, hk⟩).below hb3, hR3.reown fun k hk hp => by rw [hPf]; exact ⟨hp, hk⟩, hbw2.trans (hb3.mono hs12)⟩
  have HPd : Hid ((∀ k, Pf k → ¬ Pr k) ∧ (∀ k, k < w.heap.size → ¬ Pr k) ∧ (∀ k, Pf k → k < w3.heap.size) ∧ (∀ k, w3.heap.size ≤ k → Pr k)) := ⟨fun k hk => by rw [hPf] at hk; rw [hPr]; omega, fun k hk => by rw [hPr]; omega, fun k hk => by rw [hPf] at hk; exact hk.2, fun k hk => by rw [hPr]; exact .inr hk⟩
  clear HC hR3 HR2 hPf hPr hb3 hbw2
  have HS3 : Hid (w.heap.size ≤ w3.heap.size) := Nat.le_trans hs12 hs23
  clear hs12 hs23
  go_wp2_with fail
  go_loopw [60] (fun t wr => Hid (∃ (j : Nat) (G : Nat → Bool), j ≤ M ∧ t = .int .i64 (j : Int) ∧ ST w wr Pr Pf r r' n F G ∧ w3.heap.size ≤ wr.heap.size)) (fun t _ => M - (intOf t).toNat)
  case atStart => exact ⟨0, F, by omega, rfl, HST.out, Nat.le_refl _⟩
  case round =>
    obtain ⟨j, G, hj, rfl, hS, hsz⟩ := Hid.out hrel
    clear hrel HST
    by_cases hlt : j < M
    · obtain ⟨hau, ab, ao, rfl, hab, cw⟩ := (HI.out wr hS.c).1 j hlt
      have j0 : (0 : Int) ≤ (j : Int) := by omega
      have j1 : (j : Int) < (M : Int) := by omega
      have HJ : Hid (j < M ∧ M ≤ 9223372036854775807 ∧ w3.heap.size ≤ wr.heap.size) := ⟨hlt, hM, hsz⟩
      have HSS := rstate_any hS.a (B j) hau
      have HST : Hid (ST w wr Pr Pf r r' n F G) := hS
      have HLT : Hid (∀ m, Calls Tryd.prog 13 #[.pointer (some ⟨r, 0, none⟩), .int .u32 (B j : Int)] (wr.drewN m) fun e w' => (G (B j) = false ∧ e = .returned (.int .i64 121) ∧ ST w w' Pr Pf r r' n F G ∧ w3.heap.size ≤ w'.heap.size) ∨ (G (B j) = true ∧ 1 ≤ B j ∧ B j < n ∧ e = .returned (.int .i64 0) ∧ ST w w' Pr Pf r r' n F (fun q => if q = B j then false else G q) ∧ w3.heap.size ≤ w'.heap.size)) := fun m => by
        have hSm : ST w (wr.drewN m) Pr Pf r r' n F G := hS.below (below_dN (Below.refl _ _) m)
        refine (rlet_any hSm.a (B j) hau).mono ?_
        rintro e w' (⟨hg, rfl, m', rfl⟩ | ⟨hg, hp, rfl, hR', ht⟩)
        · exact .inl ⟨hg, rfl, hSm.below (below_dN (Below.refl _ _) m'), hsz⟩
        · refine .inr ⟨hg, ?_, hp, rfl, hSm.turn ht hR' HPd.out.1 HPd.out.2.1, Nat.le_trans hsz ht.size⟩
          apply Nat.pos_of_ne_zero
          intro hz
          rw [hz, (hS.a.facts).2.2.2.1] at hg
          cases hg
      have HS2 : Hid ((G (B j) = false → ¬ (stAt F G n (B j) : Int) = 2 ∧ ¬ (stAt F G n (B j) : Int) = 3) ∧ (G (B j) = true → 1 ≤ B j → B j < n → (stAt F G n (B j) : Int) = 2 ∨ (stAt F G n (B j) : Int) = 3)) := ⟨fun h => st_not h, fun h q1 q2 => st_two h q1 q2⟩
      clear hS hsz
      generalize (stAt F G n (B j) : Int) = z at *
      generalize hG' : (fun q => if q = B j then false else G q) = G' at *
      clear hG'
      generalize hgb : G (B j) = gb at *
      clear hgb
      generalize B j = x at *
      go_wp2_with fail
      refine HSS.mono ?_
      rintro e w4 ⟨rfl, m4, rfl⟩
      have HLT4 := HLT.out m4
      clear HSS HLT
      go_wp2_with fail
      refine HLT4.mono ?_
      rintro e w5 (⟨hg, rfl, hS5, hz5⟩ | ⟨hg, hx1, hx2, rfl, hS5, hz5⟩)
      · obtain ⟨z2, z3⟩ := HS2.out.1 hg
        have z2b : (z == 2) = false := by simp [z2]
        have z3b : (z == 3) = false := by simp [z3]
        have HE : Hid (_ ∧ _) := ⟨hS5, hz5⟩
        clear hS5 hz5 HLT4 HST
        go_wp2_with fail
        go_roundw
        case rel => exact ⟨j + 1, G, HJ.out.1, by first | rfl | go_num | simp, HE.out.1, HE.out.2⟩
        case measure => simp [intOf]; have := HJ.out; omega
      · have HE : Hid (_ ∧ _) := ⟨hS5, hz5⟩
        have hzz := HS2.out.2 hg hx1 hx2
        clear hS5 hz5 HLT4 HST
        rcases hzz with rfl | rfl
        all_goals
          go_wp2_with fail
          go_roundw
          case rel => exact ⟨j + 1, G', HJ.out.1, by first | rfl | go_num | simp, HE.out.1, HE.out.2⟩
          case measure => simp [intOf]; have := HJ.out; omega
    · obtain rfl : j = M := by omega
      have j1 : ¬ ((j : Int) < (j : Int)) := by omega
      have HC1 := rcountR_any hS.a 1
      have HSS : Hid (ST w wr Pr Pf r r' n F G ∧ w3.heap.size ≤ wr.heap.size) := ⟨hS, hsz⟩
      clear hS hsz
      go_wp2_with fail
      refine HC1.mono ?_
      rintro e w4 ⟨rfl, hb4⟩
      have hS4 := HSS.out.1.below hb4
      have hz4 : w3.heap.size ≤ w4.heap.size := Nat.le_trans HSS.out.2 hb4.size
      have HS4 : Hid (ST w w4 Pr Pf r r' n F G ∧ w3.heap.size ≤ w4.heap.size) := ⟨hS4, hz4⟩
      clear HC1 HSS hb4 hS4 hz4
      have hmm := @run_makeMap Tryd.prog
      go_wp2_with fail
      obtain ⟨mb, hmb⟩ : ∃ mb, mb = w4.heap.size := ⟨_, rfl⟩
      have hmg : (w4.alloc (.map #[] 0)).heap[mb]? = some (.map #[] 0) := by rw [hmb]; exact World.alloc_heap_new w4 _
      have hba : Below w4.heap.size w4 (w4.alloc (.map #[] 0)) := (Below.refl _ w4).alloc (Nat.le_refl _) _
      have hsa : (w4.alloc (.map #[] 0)).heap.size = w4.heap.size + 1 := by simp
      obtain ⟨Pq, hPq⟩ : ∃ Pq : Nat → Prop, Pq = fun k => (k < w4.heap.size ∧ Pr k) ∨ (w4.alloc (.map #[] 0)).heap.size ≤ k := ⟨_, rfl⟩
      have HS5 : Hid (ST w (w4.alloc (.map #[] 0)) Pq Pf r r' n F G) := by
        have := HS4.out.1.gap hba
        rw [← hPq] at this
        exact this
      have HPq : Hid ((∀ k, Pf k → ¬ Pq k) ∧ (∀ k, k < w.heap.size → ¬ Pq k) ∧ ¬ Pq mb ∧ (∀ k, mb < k → Pq k) ∧ (∀ k, Pf k → k ≠ mb) ∧ w.heap.size ≤ mb) := by
        have hz4 := HS4.out.2
        have hz3 := HS3.out
        refine ⟨fun k hk hq => ?_, fun k hk hq => ?_, fun hq => ?_, fun k hk => ?_, fun k hk => ?_, by omega⟩
        · rw [hPq] at hq
          rcases hq with hq | hq
          · exact HPd.out.1 k hk hq.2
          · have := HPd.out.2.2.1 k hk
            omega
        · rw [hPq] at hq
          rcases hq with hq | hq
          · exact HPd.out.2.1 k hk hq.2
          · omega
        · rw [hPq] at hq
          rcases hq with hq | hq <;> omega
        · rw [hPq]
          exact .inr (by omega)
        · have := HPd.out.2.2.1 k hk
          omega
      have HUM : Hid (UM (w4.alloc (.map #[] 0)) mb (fun b => G b = true)) := UM.new hmg _
      have HC0 : Hid (mb < (w4.alloc (.map #[] 0)).heap.size) := by show mb < (w4.alloc (.map #[] 0)).heap.size; omega
      obtain ⟨c0, hc0⟩ : ∃ c0, c0 = cntF (inF F G n 1) n := ⟨_, rfl⟩
      have hcl : c0 ≤ n := by rw [hc0]; exact cntF_le _ _
      rw [← hc0]
      rw [← hmb]
      have HCE : Hid (cntF (inF F G n 1) n = c0) := hc0.symm
      clear hmb hmg hba hsa hPq HS4 hc0
      generalize w4.alloc (.map #[] 0) = w5 at *
      clear hmm
      go_loopw [83] (fun t wr => Hid (∃ (j : Nat) (G : Nat → Bool), j ≤ c0 ∧ t = .int .i64 (j : Int) ∧ ST w wr Pq Pf r r' n F G ∧ UM wr mb (fun b => G b = true) ∧ cntF (inF F G n 1) n + j = c0)) (fun t _ => c0 - (intOf t).toNat)
      case atStart => exact ⟨0, G, by omega, rfl, HS5.out, HUM.out, HCE.out⟩
      case round =>
        clear HS5 HUM HCE
        clear G
        obtain ⟨i, G, hi, rfl, hS, hU, hcn⟩ := Hid.out hrel
        clear hrel
        have HTK0 := rtake_any (HI.out wr hS.c).2.1 (HI.out wr hS.c).2.2 hS.a
        obtain ⟨_, _, hF00, hG00, hF0, hG0⟩ := hS.a.facts
        by_cases hlt : i < c0
        · have j1 : (i : Int) < (c0 : Int) := by omega
          have HJ : Hid (i < c0 ∧ c0 ≤ n ∧ n ≤ 8192) := ⟨hlt, hcl, h2⟩
          have HTK : Hid (Calls Tryd.prog 12 #[.pointer (some ⟨r, 0, none⟩)] wr fun e w' => ∃ (p : Nat) (G' : Nat → Bool), p < 8192 ∧ e = .returned (.tuple #[.int .u32 (p : Int), .int .i64 0]) ∧ ST w w' Pq Pf r r' n F G' ∧ UM w' mb (fun b => G b = true) ∧ ¬ G p = true ∧ (∀ b, b = p ∨ G b = true → G' b = true) ∧ stAt F F n p = 1 ∧ stAt F G' n p = 3 ∧ cntF (inF F G' n 1) n + (i + 1) = c0) := by
            refine HTK0.mono ?_
            rintro e w' (⟨hf, _⟩ | ⟨p, hf, p1, p2, hFp, hGp, rfl, hR', ht⟩)
            · have := (free_cnt hF0 hG0).1 hf
              omega
            · refine ⟨p, fun q => if q = p then true else G q, by omega, rfl, hS.turn ht hR' HPq.out.1 HPq.out.2.1, hU.keep (ht.block mb hU.lt HPq.out.2.2.1), by rw [hGp]; decide, fun b hb => ?_, ?_, ?_, ?_⟩
              · rcases hb with rfl | hb
                · simp
                · show (if b = p then true else G b) = true
                  rw [hb]
                  split <;> rfl
              · unfold stAt stN
                rw [if_neg (by omega), hFp]
                rfl
              · unfold stAt stN
                rw [if_neg (by omega), hFp]
                simp
              · have := take_cnt hF0 hG0 p1 p2 hFp hGp
                omega
          clear HTK0 hS hU hcn hF0 hG0 hF00 hG00
          go_wp2_with fail
          refine HTK.out.mono ?_
          rintro e w6 ⟨p, G', hp8, rfl, hS6, hU6, hgp, hGG, hst1, hst3, hc6⟩
          have hlk := hU6.look (P := Tryd.prog) (mt := 74) (kt := 22) (et := 4) Tryd.underlying74 Tryd.underlying22 zero_bool p hgp
          have HSA := rstate_any hS6.b p (by omega)
          rw [hst1] at HSA
          have HSB : Hid (∀ m, Calls Tryd.prog 14 #[.pointer (some ⟨r, 0, none⟩), .int .u32 (p : Int)] (w6.drewN m) fun e w' => e = .returned (.int .i64 3) ∧ ∃ m', w' = (w6.drewN m).drewN m') := fun m => by
            have := rstate_any (hS6.a.dN m) p (by omega)
            rw [hst3] at this
            exact this
          have HUP : Hid (∀ m, ∃ w', (Instr.mapUpdate 74 (.map (some mb)) (.int .u32 (p : Int)) (.bool true)).run Tryd.prog (w6.drewN m) = .ok () w' ∧ UM w' mb (fun b => G' b = true) ∧ ST w w' Pq Pf r r' n F G') := fun m => by
            have hSm := hS6.below (below_dN (Below.refl _ _) m)
            obtain ⟨w', hr', hU', hO'⟩ := (hU6.keep (w' := w6.drewN m) rfl).put (P := Tryd.prog) (mt := 74) (kt := 22) (et := 4) Tryd.underlying74 Tryd.underlying22 p hgp
            have hmw : mb < w6.heap.size := hU6.lt
            have ht' : Touch (fun k => k = mb) (w6.drewN m) w' := Touch.of_only hO' rfl
            exact ⟨w', hr', hU'.mono hGG, hSm.a.apart ht' (fun k hk e => HPq.out.2.2.1 (e ▸ hk)), hSm.b.apart ht' (fun k hk e => HPq.out.2.2.2.2.1 k hk e), hSm.c.trans (hO'.below hSm.c.size HPq.out.2.2.2.2.2)⟩
          have HCC : Hid (cntF (inF F G' n 1) n + (i + 1) = c0) := hc6
          clear hS6 hU6 hgp hGG hst1 hst3 hc6 HTK
          go_wp2_with fail
          refine HSA.mono ?_
          rintro e w7 ⟨rfl, m7, rfl⟩
          have HSB7 := HSB.out m7
          clear HSA HSB hlk
          go_wp2_with fail
          refine HSB7.mono ?_
          rintro e w8 ⟨rfl, m8, rfl⟩
          rw [World.drewN_drewN]
          obtain ⟨w9, hup, hU9, hS9⟩ := HUP.out (m7 + m8)
          have HE : Hid (_ ∧ _) := ⟨hU9, hS9⟩
          clear HSB7 HUP hU9 hS9
          go_wp2_with fail
          go_roundw
          case rel => exact ⟨i + 1, G', HJ.out.1, by first | rfl | go_num | simp, HE.out.2, HE.out.1, HCC.out⟩
          case measure => simp [intOf]; have := HJ.out; omega
        · obtain rfl : i = c0 := by omega
          have j1 : ¬ ((i : Int) < (i : Int)) := by omega
          have hfr : freeF F G n = -1 := (free_cnt hF0 hG0).2 (by omega)
          have HTK : Hid (Calls Tryd.prog 12 #[.pointer (some ⟨r, 0, none⟩)] wr fun e w' => e = .returned (.tuple #[.int .u32 0, .int .i64 3]) ∧ ST w w' Pq Pf r r' n F G ∧ mb < w'.heap.size) := by
            refine HTK0.mono ?_
            rintro e w' (⟨_, rfl, hR', ht⟩ | ⟨p, hf, _⟩)
            · exact ⟨rfl, hS.turn ht hR' HPq.out.1 HPq.out.2.1, Nat.lt_of_lt_of_le hU.lt ht.size⟩
            · rw [hfr] at hf
              omega
          have HFR : Hid (freeF F G n = -1) := hfr
          clear HTK0 hS hU hcn hF0 hG0 hF00 hG00 hfr
          go_wp2_with fail
          refine HTK.out.mono ?_
          rintro e w6 ⟨rfl, hS6, hm6⟩
          have HS6 : Hid (ST w w6 Pq Pf r r' n F G ∧ mb < w6.heap.size) := ⟨hS6, hm6⟩
          clear HTK hS6 hm6
          go_wp2_with fail
          go_loopw [23, 24] (fun u t wr => Hid (∃ k : Nat, k ≤ 5 ∧ t = .int .i64 (k : Int) ∧ u = .int .i64 (sumC F G n k : Int) ∧ ST w wr Pq Pf r r' n F G ∧ mb < wr.heap.size)) (fun _ t _ => 5 - (intOf t).toNat)
          case atStart => exact ⟨0, by omega, rfl, rfl, HS6.out.1, HS6.out.2⟩
          case round =>
            clear HS6
            obtain ⟨k, hk, rfl, rfl, hS, hmw⟩ := Hid.out hrel
            clear hrel
            have hsl := sumC_le F G n k
            by_cases hlt5 : k < 5
            · have q1 : (k : Int) ≤ 4 := by omega
              have HCT := rcountR_any hS.a (k : Int)
              have hcc : cntF (inF F G n (k : Int)) n ≤ n := cntF_le _ _
              have hnk : n * k ≤ 8192 * 5 := Nat.mul_le_mul h2 hk
              have HK : Hid (k < 5 ∧ (sumC F G n k : Int) + (cntF (inF F G n (k : Int)) n : Int) = (sumC F G n (k + 1) : Int)) := ⟨hlt5, by show _ = ((sumC F G n k + cntF (inF F G n (k : Int)) n : Nat) : Int); omega⟩
              have HSS : Hid (ST w wr Pq Pf r r' n F G ∧ mb < wr.heap.size) := ⟨hS, hmw⟩
              clear hS hmw
              generalize cntF (inF F G n (k : Int)) n = c1 at *
              generalize sumC F G n k = sk at *
              go_wp2_with fail
              refine HCT.mono ?_
              rintro e w7 ⟨rfl, hb7⟩
              have HE : Hid (_ ∧ _) := ⟨HSS.out.1.below hb7, Nat.lt_of_lt_of_le HSS.out.2 hb7.size⟩
              clear HCT hb7 HSS
              go_wp2_with fail
              go_roundw
              case rel => exact ⟨k + 1, HK.out.1, by first | rfl | go_num | simp, by rw [← HK.out.2], HE.out.1, HE.out.2⟩
              case measure => simp [intOf]; have := HK.out.1; omega
            · obtain rfl : k = 5 := by omega
              rw [sumC_five (by omega)]
              obtain ⟨_, _, hF00, hG00, hF0, hG0⟩ := hS.a.facts
              have HFF : Hid (F 0 = false ∧ G 0 = false ∧ (∀ p, n ≤ p → F p = false) ∧ (∀ p, n ≤ p → G p = false)) := ⟨hF00, hG00, hF0, hG0⟩
              have HCP := rcopy_any hS.a
              have HSS : Hid (ST w wr Pq Pf r r' n F G ∧ mb < wr.heap.size) := ⟨hS, hmw⟩
              clear hS hmw hF00 hG00 hF0 hG0 hsl
              go_wp2_with fail
              refine HCP.mono ?_
              rintro e w8 ⟨r2, rfl, hR8, hb8⟩
              have HBK := rback_any hR8 (fun k hk => Nat.le_trans hb8.size hk)
              have HB8 : Hid (Below wr.heap.size wr w8) := hb8
              clear HCP hR8 hb8
              go_wp2_with fail
              refine HBK.mono ?_
              rintro e w9 ⟨⟨v9, rfl⟩, hR9, ht9⟩
              have hb9 : Below wr.heap.size wr w9 := HB8.out.trans (ht9.below HB8.out.size fun k hk => by omega)
              have hS9 := HSS.out.1.below hb9
              have hm9 : mb < w9.heap.size := Nat.lt_of_lt_of_le HSS.out.2 hb9.size
              have HA : Hid (∀ X, Below w9.heap.size w9 X → ST w X Pq Pf r r' n F G ∧ RoomIs X (fun k => wr.heap.size ≤ k) r2 n F F ∧ mb < X.heap.size ∧ TabAt X ∧ 0 < X.heap.size) := fun X hX => ⟨hS9.below hX, hR9.below hX, Nat.lt_of_lt_of_le hm9 hX.size, (HI.out X (hS9.below hX).c).2.1, (HI.out X (hS9.below hX).c).2.2⟩
              clear HBK hR9 ht9 hb9 hS9 hm9 HSS HB8
              have hb9 : Below w9.heap.size w9 w9 := Below.refl _ _
              have HL1 := rlist_any (HA.out w9 hb9).2.2.2.1 (HA.out w9 hb9).2.2.2.2 (HA.out w9 hb9).2.1 1
              go_wp2_with fail
              refine HL1.mono ?_
              rintro e w10 ⟨u1, rfl, ho1, _, hb10⟩
              have HL2 := rlist_any (HA.out w10 hb10).2.2.2.1 (HA.out w10 hb10).2.2.2.2 (HA.out w10 hb10).1.b 1
              have HO1 : Hid (∀ X, Below w10.heap.size w10 X → ∃ a cap, u1 = .slice a (onesL (inF F F n 1) n).length cap ∧ IsU32s X a (onesL (inF F F n 1) n).length fun i => (onesL (inF F F n 1) n).getD i 0 % 4294967296) := fun X hX => own_u32 (kown_below ho1 hX)
              have hxl : ∀ I : Nat → Bool, (onesL I n).length ≤ 8192 := fun I => by
                unfold onesL
                exact Nat.le_trans (List.length_filter_le _ _) (by rw [List.length_range]; exact h2)
              have HXL : Hid (∀ I : Nat → Bool, (onesL I n).length ≤ 8192) := hxl
              clear HL1 ho1 hxl
              go_wp2_with fail
              refine HL2.mono ?_
              rintro e w11 ⟨u2, rfl, ho2, _, hb11'⟩
              have hb11 := hb10.trans (hb11'.mono hb10.size)
              obtain ⟨a1, p1, rfl, hI1⟩ := HO1.out w11 hb11'
              obtain ⟨a2, p2, rfl, hI2⟩ := own_u32 ho2
              have HSM : Hid (Calls Tryd.prog 31 #[.slice a1 (onesL (inF F F n 1) n).length p1, .slice a2 (onesL (inF F F n 1) n).length p2] w11 fun e w' => e = .returned (.bool true) ∧ Below w11.heap.size w11 w') := by
                have := sameU_any _ p1 p2 (by have := HXL.out (inF F F n 1); omega) a1 a2 _ _ w11 hI1 hI2
                rw [decide_eq_true (fun i _ => rfl)] at this
                exact this
              clear HL2 ho2 hI1 hI2 HO1 hb11' hb10
              go_wp2_with fail
              refine HSM.out.mono ?_
              rintro e w12 ⟨rfl, hb12'⟩
              have hb12 := hb11.trans (hb12'.mono hb11.size)
              clear HSM hb12' hb11
              have HL1 := rlist_any (HA.out w12 hb12).2.2.2.1 (HA.out w12 hb12).2.2.2.2 (HA.out w12 hb12).2.1 2
              go_wp2_with fail
              refine HL1.mono ?_
              rintro e w13 ⟨u3, rfl, ho1, _, hb13'⟩
              have hb13 := hb12.trans (hb13'.mono hb12.size)
              have HL2 := rlist_any (HA.out w13 hb13).2.2.2.1 (HA.out w13 hb13).2.2.2.2 (HA.out w13 hb13).1.b 2
              have HO1 : Hid (∀ X, Below w13.heap.size w13 X → ∃ a cap, u3 = .slice a (onesL (inF F F n 2) n).length cap ∧ IsU32s X a (onesL (inF F F n 2) n).length fun i => (onesL (inF F F n 2) n).getD i 0 % 4294967296) := fun X hX => own_u32 (kown_below ho1 hX)
              clear HL1 ho1 hb13' hb12
              go_wp2_with fail
              refine HL2.mono ?_
              rintro e w14 ⟨u4, rfl, ho2, _, hb14'⟩
              have hb14 := hb13.trans (hb14'.mono hb13.size)
              obtain ⟨a3, p3, rfl, hI1⟩ := HO1.out w14 hb14'
              obtain ⟨a4, p4, rfl, hI2⟩ := own_u32 ho2
              have HSM : Hid (Calls Tryd.prog 31 #[.slice a3 (onesL (inF F F n 2) n).length p3, .slice a4 (onesL (inF F F n 2) n).length p4] w14 fun e w' => e = .returned (.bool true) ∧ Below w14.heap.size w14 w') := by
                have := sameU_any _ p3 p4 (by have := HXL.out (inF F F n 2); omega) a3 a4 _ _ w14 hI1 hI2
                rw [decide_eq_true (fun i _ => rfl)] at this
                exact this
              clear HL2 ho2 hI1 hI2 HO1 hb14' hb13
              go_wp2_with fail
              refine HSM.out.mono ?_
              rintro e w15 ⟨rfl, hb15'⟩
              have hb15 := hb14.trans (hb15'.mono hb14.size)
              clear HSM hb15' hb14
              have HC2 := rcountR_any (HA.out w15 hb15).2.1 2
              rw [cnt_used HFF.out.1 HFF.out.2.2.1] at HC2
              have hcF : cntF F n ≤ n := cntF_le _ _
              go_wp2_with fail
              refine HC2.mono ?_
              rintro e w16 ⟨rfl, hb16'⟩
              have hb16 := hb15.trans (hb16'.mono hb15.size)
              have HC1 := rcountR_any (HA.out w16 hb16).2.1 1
              rw [cnt_free (by omega) HFF.out.1 HFF.out.2.2.1] at HC1
              have hsm : (cntF F n : Int) + ((n : Int) - 1 - (cntF F n : Int)) = (n : Int) - 1 := by omega
              clear HC2 hb16' hb15
              go_wp2_with fail
              refine HC1.mono ?_
              rintro e w17 ⟨rfl, hb17'⟩
              have hb17 := hb16.trans (hb17'.mono hb16.size)
              clear HC1 hb17' hb16
              have HL4 := rlist_any (HA.out w17 hb17).2.2.2.1 (HA.out w17 hb17).2.2.2.2 (HA.out w17 hb17).1.a 4
              go_wp2_with fail
              refine HL4.mono ?_
              rintro e w18 ⟨ug, rfl, hog, _, hb18⟩
              have hS18 := (HA.out w17 hb17).1.gap hb18
              have hs18 := hb18.size
              have hm17 := (HA.out w17 hb17).2.2.1
              obtain ⟨Pz, hPz⟩ : ∃ Pz : Nat → Prop, Pz = fun k => (k < w17.heap.size ∧ Pq k) ∨ w18.heap.size ≤ k := ⟨_, rfl⟩
              rw [← hPz] at hS18
              have HSW := rswing_any hS18.a (fun k hk => by rw [hPz]; exact .inr hk)
              have HZ : Hid ((∀ k, k < w.heap.size → ¬ Pz k) ∧ (∀ k, w17.heap.size ≤ k → k < w18.heap.size → ¬ Pz k)) := by
                have hw18 := hS18.c.size
                refine ⟨fun k hk hq => ?_, fun k k1 k2 hq => ?_⟩
                · rw [hPz] at hq
                  rcases hq with hq | hq
                  · exact HPq.out.2.1 k hk hq.2
                  · omega
                · rw [hPz] at hq
                  rcases hq with hq | hq <;> omega
              have HS18 : Hid (Below w.heap.size w w18) := hS18.c
              have hxe : onesL (inF F G n 4) n = onesL (inF G G n 1) n := ones_eq fun p hp => (gone_eq HFF.out.2.2.1 HFF.out.2.2.2 HFR.out p hp).symm
              rw [hxe] at hog
              have HOG : Hid (w18.ownsRow w17.heap.size 22 1 ug (onesL (inF G G n 1) n).length (u32L (onesL (inF G G n 1) n))) := hog
              obtain ⟨ag, pg, hug⟩ := kown_slice hog
              subst hug
              clear HL4 hS18 hb18 hs18 hm17 hPz hxe hog HA hb17
              go_wp2_with fail
              refine HSW.mono ?_
              rintro e w19 ⟨⟨v19, rfl⟩, hR19, ht19⟩
              have hbw19 : Below w.heap.size w w19 := HS18.out.trans (ht19.below HS18.out.size HZ.out.1)
              have hog19 : w19.ownsRow w17.heap.size 22 1 (.slice ag (onesL (inF G G n 1) n).length pg) (onesL (inF G G n 1) n).length (u32L (onesL (inF G G n 1) n)) := kown_kept HOG.out fun k hk hv => ht19.block k (HOG.out.lt k hv).2 (HZ.out.2 k hk (HOG.out.lt k hv).2)
              have HL5 := rlist_any (HI.out w19 hbw19).2.1 (HI.out w19 hbw19).2.2 hR19 1
              have HO5 : Hid (∀ X, Below w19.heap.size w19 X → RoomIs X Pz r n G G ∧ X.ownsRow w17.heap.size 22 1 (.slice ag (onesL (inF G G n 1) n).length pg) (onesL (inF G G n 1) n).length (u32L (onesL (inF G G n 1) n)) ∧ Below w.heap.size w X) := fun X hX => ⟨hR19.below hX, kown_below hog19 hX, hbw19.trans (hX.mono hbw19.size)⟩
              clear HSW hR19 ht19 hbw19 hog19 HOG HS18
              go_wp2_with fail
              refine HL5.mono ?_
              rintro e w20 ⟨u5, rfl, ho5, _, hb20⟩
              obtain ⟨a5, p5, rfl, hI5⟩ := own_u32 ho5
              obtain ⟨a6, p6, hv6, hI6⟩ := own_u32 (HO5.out w20 hb20).2.1
              injection hv6 with hv61 hv62 hv63
              subst hv61
              subst hv63
              have HSM : Hid (Calls Tryd.prog 31 #[.slice a5 (onesL (inF G G n 1) n).length p5, .slice ag (onesL (inF G G n 1) n).length pg] w20 fun e w' => e = .returned (.bool true) ∧ Below w20.heap.size w20 w') := by
                have := sameU_any _ p5 pg (by have := HXL.out (inF G G n 1); omega) a5 ag _ _ w20 hI5 hI6
                rw [decide_eq_true (fun i _ => rfl)] at this
                exact this
              clear HL5 ho5 hI5 hI6
              go_wp2_with fail
              refine HSM.out.mono ?_
              rintro e w21 ⟨rfl, hb21'⟩
              have hb21 := hb20.trans (hb21'.mono hb20.size)
              have HC2 := rcountR_any (HO5.out w21 hb21).1 2
              rw [cnt_used HFF.out.2.1 HFF.out.2.2.2] at HC2
              have hbw21 := (HO5.out w21 hb21).2.2
              have hlen : ((onesL (inF G G n 1) n).length : Int) = (n : Int) - 1 - (cntF G n : Int) := by
                rw [ones_len]
                exact cnt_free (by omega) HFF.out.2.1 HFF.out.2.2.2
              have hcG : cntF G n ≤ n := cntF_le _ _
              have hll := HXL.out (inF G G n 1)
              have hsub : (n : Int) - 1 - ((onesL (inF G G n 1) n).length : Int) = (cntF G n : Int) := by omega
              clear HSM hb21' hb20 hb21 HO5
              generalize (onesL (inF G G n 1) n).length = ll at *
              go_wp2_with fail
              refine HC2.mono ?_
              rintro e w22 ⟨rfl, hb22⟩
              have hbw22 := hbw21.trans (hb22.mono hbw21.size)
              clear HC2 hb22 hbw21
              go_wp2_with fail
              go_ret
              exact ⟨by simp; omega, hbw22⟩
theorem roomKeepsLaw (p : Int) (a : Option Addr) (N cc : Nat) (hN : N ≤ 9223372036854775807) (A : Nat → Nat) (a' : Option Addr) (M cc' : Nat) (hM : M ≤ 9223372036854775807) (B : Nat → Nat) (w : World) (h0 : 0 < w.heap.size) (hT : TabAt w) (hD : IsU32s w a N A) (hD' : IsU32s w a' M B) : Calls Tryd.prog 7 #[.int .i64 p, .slice a N cc, .slice a' M cc'] w fun e w' => e = .returned (.bool true) ∧ Below w.heap.size w w' := by
  by_cases hp : p < 16 ∨ 8192 < p
  · exact keeps_no p hp _ _ w h0 hT
  · obtain ⟨n, rfl⟩ := Int.eq_ofNat_of_zero_le (a := p) (by omega)
    by_cases hg : GoodA A n N
    · exact keeps_ok n (by omega) (by omega) a N cc hN A a' M cc' hM B w h0 hT hD hD' hg
    · exact keeps_bad n (by omega) (by omega) a N cc hN A _ w h0 hT hD hg
end Go.Proofs.YtkpcgijdokhjkaaDoor

namespace Go.Proofs.YtkpcgijdokhjkaaDoor
open Go.ChangeShapes Go.WideShapes Go.ChangeAt Go.RowKit Go.Joins
set_option linter.unusedVariables false
theorem ucell_lt {w : World} {a : Addr} {v : Value} (h : w.cell? a = some v) : a.block < w.heap.size := by
  obtain ⟨e, n, hs, _⟩ := World.shape?_of_cell? h
  unfold World.shape? at hs
  cases hb : w.heap[a.block]? with
  | none => simp [hb] at hs
  | some o => exact (Array.getElem?_eq_some_iff.1 hb).1
set_option maxRecDepth 100000 in
theorem open_u32s {H : Type} {enc : TypeId × Value → H} {W : World} {a0 : Option Addr} {len cap fuel : Nat} {x : DataW H × List MemPlace}
    (hf : DataW.trod enc Tryd.prog W 0 (fun _ => true) true fuel 31 [.slice a0 len cap] = some x) (hsz : ∀ n ∈ x.1.weights Tryd.prog 31, n ≤ reachBytes) :
    ∃ (A : Nat → Nat), len ≤ 9223372036854775807 ∧ IsU32s W a0 len A := by
  rcases Deep.open_slice Tryd.underlying31 hf with ⟨hcs, hx⟩ | ⟨a, len', cap', m, n, D, Pl, hcs, _, hl, hm, hmm, hx, hel⟩
  · simp at hcs
    obtain ⟨rfl, rfl, rfl⟩ := hcs
    exact ⟨fun _ => 0, by omega, fun i hi => absurd hi (by omega)⟩
  · simp at hcs
    obtain ⟨rfl, rfl, rfl⟩ := hcs
    subst hx
    simp only [if_true] at hmm
    subst hmm
    have hu := Tryd.underlying31
    have hby : Tryd.prog.bytesOf 22 = 4 := by kernel_rfl
    have hw0 := hsz ((((List.range len).map D).length + ((List.range (m - len)).map fun j => D (len + j)).length) * Tryd.prog.bytesOf 22) (by simp [DataW.weights, hu])
    rw [hby] at hw0
    simp only [List.length_map, List.length_range] at hw0
    have hlen4 : len ≤ 9223372036854775807 := by
      unfold reachBytes at hw0
      omega
    have hce : Tryd.prog.cellsOf 22 = 1 := by kernel_rfl
    have hsp : 0 < len → a.spot = none := fun h0 => by
      obtain ⟨cs', h1, _⟩ := hel 0 (by omega)
      rw [hce] at h1
      obtain ⟨_, hcl, hcell⟩ := World.cells?_some h1
      match cs', hcl with
      | [v0], _ => simpa [Addr.add] using World.cell?_spot (hcell 0 (by omega))
    have each : ∀ i, ∃ q : Nat, i < len → q < 4294967296 ∧ ∃ b o, a = ⟨b, o, none⟩ ∧ b < W.heap.size ∧ W.cell? ⟨b, o + i, none⟩ = some (.int .u32 (q : Int)) := by
      intro i
      by_cases hi : i < len
      · obtain ⟨cs', h1, h2⟩ := hel i (by omega)
        rw [hce] at h1
        obtain ⟨_, hcl, hcell⟩ := World.cells?_some h1
        match cs', hcl with
        | [v0], _ =>
          obtain ⟨p, e0, _, w0⟩ := DataW.trod_int Tryd.underlying22 h2
          simp at e0
          subst e0
          have hbd := bounds_u32 w0
          obtain ⟨q, rfl⟩ := Int.eq_ofNat_of_zero_le hbd.1
          refine ⟨q, fun _ => ⟨by omega, ?_⟩⟩
          have c0 := hcell 0 (by decide)
          obtain ⟨b, off, spot⟩ := a
          have hspot : spot = none := hsp (by omega)
          subst hspot
          simp only [Addr.add_mid, List.getElem?_cons_zero, Nat.mul_one, Nat.add_zero] at c0
          exact ⟨b, off, rfl, ucell_lt c0, c0⟩
      · exact ⟨0, fun h => absurd h hi⟩
    refine ⟨fun i => Classical.choose (each i), hlen4, fun i hi => ?_⟩
    obtain ⟨hq, b, o, rfl, h1, h2⟩ := Classical.choose_spec (each i) hi
    exact ⟨hq, b, o, rfl, h1, h2⟩
end Go.Proofs.YtkpcgijdokhjkaaDoor
