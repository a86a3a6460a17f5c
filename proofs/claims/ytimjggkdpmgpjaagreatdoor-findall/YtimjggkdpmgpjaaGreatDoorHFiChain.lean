/- Searches: two lists of numbers that grow, each in its box; the function that Chain hands over. -/
import Derived.Test.YtimjggkdpmgpjaaGreatDoorHFiBT
import Derived.Test.YtimjggkdpmgpjaaGreatDoorHGrBuild
import Derived.Test.YtimjggkdpmgpjaaGreatDoorHInsStart
import Derived.Test.YtimjggkdpmgpjaaGreatDoorHCaKit
import Derived.Test.YtimjggkdpmgpjaaGreatDoorHDiLay
import Derived.Test.YtimjggkdpmgpjaaGreatDoorHNaGiven
import Derived.Handy
import Derived.Deep.Cut
import Derived.Deep.DeepCutAuto
import Derived.Test.YtimjggkdpmgpjaaGreatDoorHFiMath
import Derived.Test.YtimjggkdpmgpjaaGreatDoorHOrders
import Derived.Test.YtimjggkdpmgpjaaGreatDoorHDiSortM
import Derived.Test.YtimjggkdpmgpjaaGreatDoorHBlkOwn
import Derived.Test.YtimjggkdpmgpjaaGreatDoorHLogOf
import Derived.Maps.AppendAt

namespace Go.Proofs.YtimjggkdpmgpjaaGreatDoor
open Go Go.RowKit
set_option linter.unusedSimpArgs false
set_option linter.unusedVariables false
theorem tm19 (i : Int) (n : Nat) (h : 1 ≤ n ∧ n ≤ 31) : -31 < i.tmod (n : Int) ∧ i.tmod (n : Int) < 31 := by
  have h1 := Int.tmod_lt_of_pos i (show (0 : Int) < (n : Int) by omega)
  have h2 := Int.lt_tmod_of_pos i (show (0 : Int) < (n : Int) by omega)
  omega
theorem in19 (i : Int) (n : Nat) (h : 1 ≤ n ∧ n ≤ 31) : ∃ k : Nat, k < n ∧ (i.tmod (n : Int) + (n : Int)).tmod (n : Int) = (k : Int) := by
  have h1 := Int.tmod_lt_of_pos i (show (0 : Int) < (n : Int) by omega)
  have h2 := Int.lt_tmod_of_pos i (show (0 : Int) < (n : Int) by omega)
  have h3 := Int.tmod_nonneg (n : Int) (show 0 ≤ i.tmod (n : Int) + (n : Int) by omega)
  have h4 := Int.tmod_lt_of_pos (i.tmod (n : Int) + (n : Int)) (show (0 : Int) < (n : Int) by omega)
  exact ⟨((i.tmod (n : Int) + (n : Int)).tmod (n : Int)).toNat, by omega, by omega⟩
theorem BI.kle {w : World} {B0 x mf ml mc all e : Nat} {cp : Option Addr} {F : Fo} (h : BI w B0 x mf ml mc cp all F e) {n : Nat} (hn : F.dr n = true) : F.K n ≤ 16384 := by
  obtain ⟨H, D, _, hd, _⟩ := h.im
  exact (hd n hn).le
/-- what a folder's entries are called are names -/
def FNm (F : Fo) : Prop := ∀ d, F.dr d = true → ∀ i, i < F.K d → isName (F.S d i).data.toList = true
theorem FNm.ad {F : Fo} (h : FNm F) (d : Nat) (j : Int) (s : ByteArray) : FNm (adF F d j s) := by
  unfold adF
  split
  · rename_i he
    have hs : isName s.data.toList = true := by
      apply Classical.byContradiction
      intro q
      exact absurd he ((adE_ne F d j s).2 (.inl (by unfold encE; rw [if_neg q]; split <;> decide)))
    intro e hd i hi
    simp only [Fo.more] at hd hi ⊢
    by_cases c : e = d
    · subst c
      rw [if_pos rfl] at hi
      rw [if_pos rfl]
      unfold upS
      by_cases c2 : i = F.K e
      · rw [if_pos c2]; exact hs
      · rw [if_neg c2]; exact h e hd i (by omega)
    · rw [if_neg c] at hi
      rw [if_neg c]
      exact h e hd i hi
  · exact h
theorem FNm.dir {F : Fo} (h : FNm F) (e : Nat) : FNm (F.dir e) := by
  intro d hd i hi
  simp only [Fo.dir] at hd hi ⊢
  by_cases c : d = e
  · subst c
    simp_all
  · simp_all
    exact h d hd i hi
/-- the tree, and where it lies -/
structure BT19 (w W : World) (x mf ml mc : Nat) (cp : Option Addr) (r all : Nat) (F : Fo) : Prop where
  bi : BI W w.heap.size x mf ml mc cp all F 0
  bm : BM W r F
  bl : Below w.heap.size w W
  lr : x < r ∧ mf < r ∧ ml < r ∧ mc < r ∧ w.heap.size ≤ r
  nm : FNm F
  uq : FUq F
theorem BT19.al1 {w W : World} {x mf ml mc : Nat} {cp : Option Addr} {r all : Nat} {F : Fo} (h : BT19 w W x mf ml mc cp r all F) : 1 ≤ all ∧ all ≤ 31 := h.bi.al
theorem BT19.below {w W V : World} {x mf ml mc : Nat} {cp : Option Addr} {r all : Nat} {F : Fo} (h : BT19 w W x mf ml mc cp r all F) (hb : Below W.heap.size W V) : BT19 w V x mf ml mc cp r all F := ⟨h.bi.below hb, h.bm.below hb, h.bl.trans (hb.mono h.bl.size), h.lr, h.nm, h.uq⟩
/-- the root, empty -/
def fo19 : Fo := ⟨fun m => if m = 1 then true else false, fun _ => 0, fun _ _ => 0, fun _ _ => ⟨#[]⟩⟩
theorem BM.first {w : World} {r k : Nat} (h : w.heap[r]? = some (.map #[] k)) (g : Nat := r + 1) (hg : g = r + 1 := by rfl) : ∃ w', (Instr.mapUpdate 25 (.map (some r)) (.int .i64 1) (.slice (some ⟨g, 0, none⟩) 0 0)).run Tryz.prog w = .ok () w' ∧ BM w' r fo19 ∧ Turns (fun z => z = r) w w' := by
  subst hg
  have h0 : BM w r ⟨fun _ => false, fun _ => 0, fun _ _ => 0, fun _ _ => ⟨#[]⟩⟩ := ⟨[], fun _ => (none, 0, 0), ⟨#[], k, h, rfl⟩, fun m => rfl, fun n hn => by cases hn⟩
  exact h0.put (F2 := fo19) 1 (some ⟨r + 1, 0, none⟩, 0, 0) ⟨rfl, fun i hi => absurd hi (Nat.not_lt_zero _), (fun q => by cases q), fun b o k q => by
    injection q with q
    injection q with q _ _
    omega⟩ (fun m => rfl) (fun m hm => ⟨rfl, rfl, rfl⟩)
theorem bi_start {w : World} {B0 x mf ml mc : Nat} {cp : Option Addr} (h : IM w x mf ml mc cp 1 (hU (fun _ => hd00) 1 (hdN hd00 1 2 1 0 1)) (fun _ _ _ => 0)) (hl : B0 ≤ x ∧ B0 ≤ mf ∧ B0 ≤ ml ∧ B0 ≤ mc) : BI w B0 x mf ml mc cp 1 fo19 0 := by
  have h1 : ∀ n, fo19.dr n = true → n = 1 := fun n hn => by
    unfold fo19 at hn
    by_cases c : n = 1
    · exact c
    · rw [show (⟨fun m => if m = 1 then true else false, fun _ => 0, fun _ _ => 0, fun _ _ => ⟨#[]⟩⟩ : Fo).dr n = (if n = 1 then true else false) from rfl, if_neg c] at hn
      cases hn
  refine ⟨⟨_, _, h, fun n hn => ?_, fun n a1 a2 a3 _ => ?_, fun n a1 => ⟨?_, fun _ _ => rfl⟩, fun q => absurd rfl q⟩, fun q => absurd rfl q, hl, rfl, fun n hn => ?_, fun n hn p hp => absurd hp (Nat.not_lt_zero _), by omega⟩
  · obtain rfl := h1 n hn
    refine ⟨by decide, by decide, rfl, rfl, rfl, rfl, rfl, by decide, fun p hp => absurd hp (Nat.not_lt_zero _), fun q i hi => ?_⟩
    rw [show inLf (fo19.K 1) q = 0 by show inLf 0 q = 0; unfold inLf; omega]
    rfl
  · obtain rfl : n = 1 := by omega
    cases a3
  · unfold hU
    rw [if_neg (by omega)]
  · obtain rfl := h1 n hn
    omega
set_option maxRecDepth 100000 in
set_option maxHeartbeats 32000000 in
theorem built19_any (a : Option Addr) (n c : Nat) (hn : n ≤ 9223372036854775807) (X : Nat → A19) (hX : ∀ i, i < n → (X i).ok) (w : World) (hI : IsA19 w a n X) : Calls Tryz.prog 7 #[.slice a n c] w fun e w' => ∃ x mf ml mc cp r all F, e = .returned (.tuple #[.pointer (some ⟨x, 0, none⟩), .map (some r), .bool true]) ∧ BT19 w w' x mf ml mc cp r all F := by
  have hbt := built_tr0
  have hmm := @run_makeMap Tryz.prog
  have HIA : Hid (∀ V, Below w.heap.size w V → IsA19 V a n X) := fun V hV => hI.below hV
  have HXO : Hid (∀ i, i < n → (X i).ok) := hX
  have HN : Hid (∀ w : World, Calls Tryz.prog 19 #[.int .i64 64] w fun e w' => ∃ g, e = .returned (.tuple #[.pointer (some ⟨g, 0, none⟩), .int .i64 0]) ∧ Below w.heap.size w w') := fun w => (diskNew_any 64 (by decide) (by decide) w).mono fun e w' ⟨g, q, h1, _, _, h2⟩ => ⟨g, h1, h2⟩
  have HC : Hid (∀ (g : Nat) (w : World), Calls Tryz.prog 20 #[.pointer (some ⟨g, 0, none⟩), .pointer none, .int .i64 0] w fun e w' => ∃ c, e = .returned (.tuple #[.pointer (some ⟨c, 0, none⟩), .int .i64 0]) ∧ Below w.heap.size w w') := fun g w => (caNew_ok g none 0 (by decide) (by decide) w).mono fun e w' ⟨c, m, h1, _, _, _, h2⟩ => ⟨c, h1, h2⟩
  have HO : Hid (∀ (c : Nat) (w : World), Calls Tryz.prog 21 #[.pointer (some ⟨c, 0, none⟩), .agg (trC 0 rf0), .int .i64 0] w fun e w' => ∃ x mf ml mc, e = .returned (.tuple #[.pointer (some ⟨x, 0, none⟩), .int .i64 0]) ∧ (w.heap.size ≤ x ∧ w.heap.size ≤ mf ∧ w.heap.size ≤ ml ∧ w.heap.size ≤ mc) ∧ IM w' x mf ml mc (some ⟨c, 0, none⟩) 0 (fun _ => hd00) (fun _ _ _ => 0) ∧ Below w.heap.size w w') := fun c w => open_im (some ⟨c, 0, none⟩) w
  clear hI hX
  go_enter Tryz.func7, Tryz.ntmps7
  go_wp2_with fail
  refine (HN.out _).mono ?_
  rintro e w3 ⟨d, rfl, hb13⟩
  clear HN
  go_wp2_with fail
  refine (HC.out _ _).mono ?_
  rintro e w4 ⟨cc, rfl, hb4⟩
  have hb14 := hb13.trans (hb4.mono hb13.size)
  clear hb13 hb4 HC
  go_wp2_with (first
    | (refine wpList_buildTo (by rfl) 76 #[] (by rfl) _ rfl (trC 0 rf0) (by exact hbt) ?_; simp only [Act.put, List.setIfInBounds_toArray, List.set_cons_zero, List.set_cons_succ])
    | fail)
  refine (HO.out _ _).mono ?_
  rintro e w5 ⟨x, mf, ml, mc, rfl, hbs, hI5, hb5⟩
  have hb15 := hb14.trans (hb5.mono hb14.size)
  have hz := hb14.size
  have HX : Hid (w.heap.size ≤ x ∧ w.heap.size ≤ mf ∧ w.heap.size ≤ ml ∧ w.heap.size ≤ mc) := ⟨by omega, by omega, by omega, by omega⟩
  have HM1 := hI5.make 1 (by decide) (by decide) rfl (fun m h1 h2 => absurd h2 (by omega)) 2 (.inr rfl) 1 (by decide)
  have HB15 : Hid (Below w.heap.size w w5) := hb15
  obtain ⟨cp, hcp⟩ : ∃ cp : Option Addr, cp = some ⟨cc, 0, none⟩ := ⟨_, rfl⟩
  rw [← hcp] at HM1
  clear hb14 hb5 hb15 HO hI5 hbt hbs hcp
  go_wp2_with fail
  refine HM1.mono ?_
  rintro e w6 ⟨rfl, hI6, ht6⟩
  have HB6 : Hid (Below w.heap.size w w6) := HB15.out.trans (ht6.below HB15.out.size fun b hb => by
    have := HX.out
    rcases hb with rfl | rfl
    · exact this.1
    · exact this.2.1)
  have HI6 : Hid (IM w6 x mf ml mc cp 1 (hU (fun _ => hd00) 1 (hdN hd00 1 2 1 0 1)) (fun _ _ _ => 0)) := hI6
  have hm6 : (w6.alloc (.map #[] 0)).heap[w6.heap.size]? = some (.map #[] 0) := by
    show (w6.heap.push (.map #[] 0))[w6.heap.size]? = _
    simp
  have hm7 : ((w6.alloc (.map #[] 0)).alloc (.cells #[] 82)).heap[w6.heap.size]? = some (.map #[] 0) := (((Below.refl (w6.alloc (.map #[] 0)).heap.size (w6.alloc (.map #[] 0))).alloc (Nat.le_refl _) (.cells #[] 82)).block w6.heap.size (by simp)).trans hm6
  obtain ⟨w8, hup, hbm, ht8⟩ := BM.first hm7
  have hI8 : IM w8 x mf ml mc cp 1 (hU (fun _ => hd00) 1 (hdN hd00 1 2 1 0 1)) (fun _ _ _ => 0) := by
    have hl := HI6.out.lts
    have hI7 := HI6.out.below (((Below.refl w6.heap.size w6).alloc (Nat.le_refl _) (.map #[] 0)).alloc (by simp) (.cells #[] 82))
    exact hI7.keep (ht8.block _ (by simp; omega) (by omega)) (ht8.block _ (by simp; omega) (by omega)) (ht8.block _ (by simp; omega) (by omega)) (ht8.block _ (by simp; omega) (by omega))
  have HT8 : Hid (BT19 w w8 x mf ml mc cp w6.heap.size 1 fo19) := by
    have hb7 := ((HB6.out.alloc HB6.out.size (.map #[] 0)).alloc (by have := HB6.out.size; simp; omega) (.cells #[] 82))
    have hs := HB6.out.size
    exact ⟨bi_start hI8 HX.out, hbm, hb7.trans (ht8.below hb7.size fun b hb => by omega), ⟨HI6.out.lts.1, HI6.out.lts.2.1, HI6.out.lts.2.2.1, HI6.out.lts.2.2.2, hs⟩, fun d hd i hi => absurd hi (Nat.not_lt_zero _), fun d hd i j hij hj => absurd hj (Nat.not_lt_zero _)⟩
  clear hI6 ht6 HM1 HB15 HX HI6 HB6 hm6 hm7 hbm ht8 hI8
  go_wp2_with fail
  generalize w6.heap.size = r at *
  go_loopw [14, 15] (fun v14 v15 wr => Hid (∃ (i all : Nat) (F : Fo), i ≤ n ∧ i ≤ 30 ∧ all ≤ i + 1 ∧ v14 = .int .i64 (all : Int) ∧ v15 = .int .i64 (i : Int) ∧ BT19 w wr x mf ml mc cp r all F)) (fun _ v15 _ => n - (intOf v15).toNat)
  case atStart => exact ⟨0, 1, fo19, Nat.zero_le _, by omega, by omega, rfl, rfl, HT8.out⟩
  case round =>
    obtain ⟨i, all, F, hi, hi30, ha, rfl, rfl, hT⟩ := Hid.out hrel
    have HT : Hid (BT19 w wr x mf ml mc cp r all F) := hT
    have HI : Hid (i ≤ n ∧ i ≤ 30 ∧ all ≤ i + 1) := ⟨hi, hi30, ha⟩
    clear hrel hT HT8 ha
    by_cases hin : i < n ∧ i < 30
    · have i1 : (i : Int) < (n : Int) := by omega
      have i2 : (i : Int) < 30 := by omega
      have HA30 : Hid (all ≤ 30) := by have := HI.out; show all ≤ 30; omega
      obtain ⟨b, o, rfl, q0, q1, q2, q3, q4⟩ := (HIA.out wr HT.out.bl).cs hin.1
      have hok := HXO.out i hin.1
      obtain ⟨⟨dr, mo, inn, ii, ss⟩, eX⟩ : ∃ y, X i = y := ⟨_, rfl⟩
      rw [eX] at q0 q1 q2 q3 q4 hok
      obtain ⟨ok1, ok2, ok3⟩ := hok
      have HOK : Hid ((-9223372036854775808 ≤ inn ∧ inn ≤ 9223372036854775807) ∧ (-9223372036854775808 ≤ ii ∧ ii ≤ 9223372036854775807)) := ⟨ok1, ok2⟩
      have HIN : Hid (i < n ∧ i < 30) := hin
      clear eX ok1 ok2 ok3 hin hi hi30
      have bA0 : Blk (wr.alloc (.cells #[.bool dr, .bool mo, .int .i64 inn, .int .i64 ii, .string ss] 56)) wr.heap.size 56 #[.bool dr, .bool mo, .int .i64 inn, .int .i64 ii, .string ss] := Blk.new _ _ _
      have HT1 : Hid (BT19 w (wr.alloc (.cells #[.bool dr, .bool mo, .int .i64 inn, .int .i64 ii, .string ss] 56)) x mf ml mc cp r all F) := HT.out.below (below_new1 _ _)
      have HT1r : Hid (r < wr.heap.size) := HT.out.bm.lt
      cases mo
      · obtain ⟨al, hal⟩ : ∃ al, al = all + 1 := ⟨_, rfl⟩
        have he : (all : Int) + 1 = (al : Int) := by omega
        have HAL : Hid (al ≤ i + 2) := by have := HI.out; show al ≤ i + 2; omega
        have q0' := (bA0.cell 0).trans rfl
        have q1' := (bA0.cell 1).trans rfl
        cases dr
        · have HM := HT1.out.bi.makeAny HA30.out 1 (.inl rfl)
          rw [← hal, if_neg (by decide)] at HM
          have HAN : Hid (al = all + 1) := hal
          clear hal HT
          go_wp2_with fail
          refine HM.mono ?_
          rintro e w7 ⟨rfl, hBI, hT7⟩
          have HWR : Hid (r < wr.heap.size) := HT1r.out
          have HTX : Hid (∀ b, (b = x ∨ b = mf) → b < r) := fun b hb => by
            have l1 := HT1.out.lr
            rcases hb with rfl | rfl
            · exact l1.1
            · exact l1.2.1
          have HTB : Hid (∀ b, (b = x ∨ b = mf) → w.heap.size ≤ b) := fun b hb => by
            have l1 := HT1.out.bi.lt
            rcases hb with rfl | rfl
            · exact l1.1
            · exact l1.2.1
          have bA := hT7.blk bA0 (fun hb => by
            have l1 := HT1.out.lr
            have := HWR.out
            rcases hb with hb | hb <;> omega)
          have HT : Hid (BT19 w w7 x mf ml mc cp r al F) := ⟨hBI, HT1.out.bm.turn hT7 HTX.out, HT1.out.bl.trans (hT7.below HT1.out.bl.size HTB.out), HT1.out.lr, HT1.out.nm, HT1.out.uq⟩
          clear hBI hT7 HM HT1 bA0 q0' q1' HTX HTB
          have a1 : (1 : Int) ≤ (al : Int) := by have := HT.out.al1; omega
          have a2 : (al : Int) ≤ 31 := by have := HT.out.al1; omega
          have z0 : ¬ ((al : Int) = 0) := by omega
          obtain ⟨k, hk, hkk⟩ := in19 inn al HT.out.al1
          obtain ⟨m1, m2⟩ := tm19 inn al HT.out.al1
          obtain ⟨m, hm⟩ : ∃ m, inn.tmod (al : Int) = m := ⟨_, rfl⟩
          rw [hm] at hkk m1 m2
          have k0 : (0 : Int) ≤ (k : Int) := by omega
          have k1 : (k : Int) < 31 := by omega
          obtain ⟨t, ht, hlk⟩ := HT.out.bm.look (k + 1)
          rw [show ((k + 1 : Nat) : Int) = 1 + (k : Int) by omega] at hlk
          have q0x := (bA.cell 0).trans rfl
          have q2 := (bA.cell 2).trans rfl
          have q3 := (bA.cell 3).trans rfl
          have q4 := (bA.cell 4).trans rfl
          cases hd : (F).dr (k + 1) with
          | false =>
            rw [hd] at hlk
            clear ht hd hk bA
            go_wp2_with fail
            go_roundw
            case rel => exact ⟨i + 1, al, _, HIN.out.1, by have := HIN.out.2; omega, by have := HAL.out; omega, rfl, by first | rfl | go_num | simp, HT.out⟩
            case measure => have := HIN.out.1; simp [intOf]; omega
          | true =>
            rw [hd] at hlk
            obtain ⟨ta, tn, tc⟩ := t
            have HL : Hid (LkIs (w7) r (F) (k + 1) (ta, tn, tc)) := ht hd
            have HD : Hid ((F).dr (k + 1) = true ∧ (F).K (k + 1) ≤ 16384) := ⟨hd, HT.out.bi.kle hd⟩
            clear ht hd hk
            have HRG : Hid (1 ≤ (al : Int) ∧ (al : Int) ≤ (al : Int)) := by have := HT.out.al1; show (1 : Int) ≤ (al : Int) ∧ (al : Int) ≤ (al : Int); omega
            have r1 : ¬ (al : Int) < 1 := by have := HRG.out; omega
            have r2 : ¬ (al : Int) < (al : Int) := by have := HRG.out; omega
            have HRA : Hid (Calls Tryz.prog 23 #[.slice ta tn tc, .agg #[.int .i64 (al : Int), .string ss]] (w7) fun e w' => ∃ t2 : Option Addr × Nat × Nat, e = .returned (.tuple #[.slice t2.1 t2.2.1 t2.2.2, .int .i64 (adE (F) (k + 1) (al : Int) ss)]) ∧ LkIs w' r (adF (F) (k + 1) (al : Int) ss) (k + 1) t2 ∧ Below (w7).heap.size (w7) w') := HL.out.radd (t := (ta, tn, tc)) HT.out.bm.lt HD.out.2 (al : Int) ss
            have HBA : Hid (Blk (w7) wr.heap.size 56 #[.bool false, .bool false, .int .i64 inn, .int .i64 ii, .string ss]) := bA
            obtain ⟨er, her⟩ : ∃ er, adE (F) (k + 1) (al : Int) ss = er := ⟨_, rfl⟩
            have HER : Hid (adE (F) (k + 1) (al : Int) ss = er) := her
            rw [her] at HRA
            clear her HL bA
            go_wp2_with fail
            refine HRA.out.mono ?_
            rintro e w9 ⟨⟨t2a, t2n, t2c⟩, rfl, hL9, hb9⟩
            have HT9 : Hid (BT19 w w9 x mf ml mc cp r al (F)) := HT.out.below hb9
            have HL9 : Hid (LkIs w9 r (adF (F) (k + 1) (al : Int) ss) (k + 1) (t2a, t2n, t2c)) := hL9
            have bA9 := HBA.out.below hb9 HBA.out.lt
            have q49 := (bA9.cell 4).trans rfl
            have HAD := HT9.out.bi.add (k + 1) HD.out.1 (al : Int) ss HRG.out
            rw [show ((k + 1 : Nat) : Int) = 1 + (k : Int) by omega, HER.out] at HAD
            clear HRA hL9 hb9 q2 q3 q4 HT bA9
            go_wp2_with fail
            refine HAD.mono ?_
            rintro e w10 ⟨rfl, hBI, hT10⟩
            obtain ⟨w11, hup, hBM, hT11⟩ := (HT9.out.bm.turn hT10 (fun b hb => by
              have := HT9.out.lr
              rcases hb with rfl | rfl
              · exact this.2.2.1
              · exact this.2.1)).put (F2 := adF (F) (k + 1) (al : Int) ss) (k + 1) (t2a, t2n, t2c) (HL9.out.turn hT10 (fun b hb => by
              have := HT9.out.lr
              rcases hb with rfl | rfl
              · exact Nat.le_of_lt this.2.2.1
              · exact Nat.le_of_lt this.2.1)) (fun q => by
                rw [adF_dr]
                by_cases c : q = k + 1
                · rw [if_pos c, c]; exact HD.out.1
                · rw [if_neg c]) (fun q hq => by
                unfold adF
                split
                · exact ⟨by simp [Fo.more, hq], by simp [Fo.more, hq], by simp [Fo.more, hq]⟩
                · exact ⟨rfl, rfl, rfl⟩)
            have HT11 : Hid (BT19 w w11 x mf ml mc cp r al (adF (F) (k + 1) (al : Int) ss)) := by
              have l1 := HT9.out.lr
              have l2 := HT9.out.bi.lt
              have l3 := HT9.out.bl.size
              refine ⟨hBI.turn hT11 ⟨by omega, by omega, by omega, by omega⟩, hBM, ?_, l1, HT9.out.nm.ad _ _ _, HT9.out.uq.ad _ _ _⟩
              have h1 := hT10.below (B := w.heap.size) l3 (fun b hb => by
                rcases hb with rfl | rfl
                · exact l2.2.2.1
                · exact l2.2.1)
              have h2 := hT11.below (B := w.heap.size) (Nat.le_trans l3 hT10.size) (fun b hb => by omega)
              exact HT9.out.bl.trans (h1.trans h2)
            rw [show ((k + 1 : Nat) : Int) = 1 + (k : Int) by omega] at hup
            clear HAD hBI hT10 hBM hT11 HT9 HL9 HER q49
            go_wp2_with fail
            go_roundw
            case rel => exact ⟨i + 1, al, _, HIN.out.1, by have := HIN.out.2; omega, by have := HAL.out; omega, rfl, by first | rfl | go_num | simp, HT11.out⟩
            case measure => have := HIN.out.1; simp [intOf]; omega
        · have HM := HT1.out.bi.makeAny HA30.out 2 (.inr rfl)
          rw [← hal, if_pos rfl] at HM
          have HAN : Hid (al = all + 1) := hal
          clear hal HT
          go_wp2_with fail
          refine HM.mono ?_
          rintro e w7 ⟨rfl, hBI, hT7⟩
          have HWR : Hid (r < wr.heap.size) := HT1r.out
          have HTX : Hid (∀ b, (b = x ∨ b = mf) → b < r) := fun b hb => by
            have l1 := HT1.out.lr
            rcases hb with rfl | rfl
            · exact l1.1
            · exact l1.2.1
          have HTB : Hid (∀ b, (b = x ∨ b = mf) → w.heap.size ≤ b) := fun b hb => by
            have l1 := HT1.out.bi.lt
            rcases hb with rfl | rfl
            · exact l1.1
            · exact l1.2.1
          have bA := hT7.blk bA0 (fun hb => by
            have l1 := HT1.out.lr
            have := HWR.out
            rcases hb with hb | hb <;> omega)
          have hBM7 := HT1.out.bm.turn hT7 HTX.out
          have hBM8 := hBM7.below (below_new1 w7 (.cells #[] 82))
          obtain ⟨w8, hup, hBM, hT8⟩ := hBM8.dirNew al w7.heap.size hBM7.lt 0
          have HT : Hid (BT19 w w8 x mf ml mc cp r al (F.dir al)) := by
            have l1 := HT1.out.lr
            have l2 := HT1.out.bi.lt
            have h7 := hT7.below (B := w.heap.size) HT1.out.bl.size HTB.out
            have hal0 : al ≠ 0 := by have := HAN.out; omega
            refine ⟨((hBI.below (below_new1 _ _)).turn hT8 ⟨by omega, by omega, by omega, by omega⟩).dirNew hal0, hBM, ?_, l1, HT1.out.nm.dir _, HT1.out.uq.dir _⟩
            have h8 := (HT1.out.bl.trans h7).alloc (HT1.out.bl.trans h7).size (.cells #[] 82)
            exact h8.trans (hT8.below (B := w.heap.size) h8.size fun b hb => by omega)
          have bA8 : Blk w8 wr.heap.size 56 #[.bool true, .bool false, .int .i64 inn, .int .i64 ii, .string ss] := (hT8.block _ (by have := bA.lt; simp; omega) (by have := hBM7.lt; have := HWR.out; omega)).trans (bA.alloc _)
          have q0' := (bA.cell 0).trans rfl
          clear hBI hT7 HM HT1 bA0 q1' HTX HTB hBM7 hBM8 hBM hT8 bA
          have bA := bA8
          clear bA8
          have a1 : (1 : Int) ≤ (al : Int) := by have := HT.out.al1; omega
          have a2 : (al : Int) ≤ 31 := by have := HT.out.al1; omega
          have z0 : ¬ ((al : Int) = 0) := by omega
          obtain ⟨k, hk, hkk⟩ := in19 inn al HT.out.al1
          obtain ⟨m1, m2⟩ := tm19 inn al HT.out.al1
          obtain ⟨m, hm⟩ : ∃ m, inn.tmod (al : Int) = m := ⟨_, rfl⟩
          rw [hm] at hkk m1 m2
          have k0 : (0 : Int) ≤ (k : Int) := by omega
          have k1 : (k : Int) < 31 := by omega
          obtain ⟨t, ht, hlk⟩ := HT.out.bm.look (k + 1)
          rw [show ((k + 1 : Nat) : Int) = 1 + (k : Int) by omega] at hlk
          have q0x := (bA.cell 0).trans rfl
          have q2 := (bA.cell 2).trans rfl
          have q3 := (bA.cell 3).trans rfl
          have q4 := (bA.cell 4).trans rfl
          cases hd : (F.dir al).dr (k + 1) with
          | false =>
            rw [hd] at hlk
            clear ht hd hk bA
            go_wp2_with fail
            go_roundw
            case rel => exact ⟨i + 1, al, _, HIN.out.1, by have := HIN.out.2; omega, by have := HAL.out; omega, rfl, by first | rfl | go_num | simp, HT.out⟩
            case measure => have := HIN.out.1; simp [intOf]; omega
          | true =>
            rw [hd] at hlk
            obtain ⟨ta, tn, tc⟩ := t
            have HL : Hid (LkIs (w8) r (F.dir al) (k + 1) (ta, tn, tc)) := ht hd
            have HD : Hid ((F.dir al).dr (k + 1) = true ∧ (F.dir al).K (k + 1) ≤ 16384) := ⟨hd, HT.out.bi.kle hd⟩
            clear ht hd hk
            have HRG : Hid (1 ≤ (al : Int) ∧ (al : Int) ≤ (al : Int)) := by have := HT.out.al1; show (1 : Int) ≤ (al : Int) ∧ (al : Int) ≤ (al : Int); omega
            have r1 : ¬ (al : Int) < 1 := by have := HRG.out; omega
            have r2 : ¬ (al : Int) < (al : Int) := by have := HRG.out; omega
            have HRA : Hid (Calls Tryz.prog 23 #[.slice ta tn tc, .agg #[.int .i64 (al : Int), .string ss]] (w8) fun e w' => ∃ t2 : Option Addr × Nat × Nat, e = .returned (.tuple #[.slice t2.1 t2.2.1 t2.2.2, .int .i64 (adE (F.dir al) (k + 1) (al : Int) ss)]) ∧ LkIs w' r (adF (F.dir al) (k + 1) (al : Int) ss) (k + 1) t2 ∧ Below (w8).heap.size (w8) w') := HL.out.radd (t := (ta, tn, tc)) HT.out.bm.lt HD.out.2 (al : Int) ss
            have HBA : Hid (Blk (w8) wr.heap.size 56 #[.bool true, .bool false, .int .i64 inn, .int .i64 ii, .string ss]) := bA
            obtain ⟨er, her⟩ : ∃ er, adE (F.dir al) (k + 1) (al : Int) ss = er := ⟨_, rfl⟩
            have HER : Hid (adE (F.dir al) (k + 1) (al : Int) ss = er) := her
            rw [her] at HRA
            clear her HL bA
            go_wp2_with fail
            refine HRA.out.mono ?_
            rintro e w9 ⟨⟨t2a, t2n, t2c⟩, rfl, hL9, hb9⟩
            have HT9 : Hid (BT19 w w9 x mf ml mc cp r al (F.dir al)) := HT.out.below hb9
            have HL9 : Hid (LkIs w9 r (adF (F.dir al) (k + 1) (al : Int) ss) (k + 1) (t2a, t2n, t2c)) := hL9
            have bA9 := HBA.out.below hb9 HBA.out.lt
            have q49 := (bA9.cell 4).trans rfl
            have HAD := HT9.out.bi.add (k + 1) HD.out.1 (al : Int) ss HRG.out
            rw [show ((k + 1 : Nat) : Int) = 1 + (k : Int) by omega, HER.out] at HAD
            clear HRA hL9 hb9 q2 q3 q4 HT bA9
            go_wp2_with fail
            refine HAD.mono ?_
            rintro e w10 ⟨rfl, hBI, hT10⟩
            obtain ⟨w11, hup, hBM, hT11⟩ := (HT9.out.bm.turn hT10 (fun b hb => by
              have := HT9.out.lr
              rcases hb with rfl | rfl
              · exact this.2.2.1
              · exact this.2.1)).put (F2 := adF (F.dir al) (k + 1) (al : Int) ss) (k + 1) (t2a, t2n, t2c) (HL9.out.turn hT10 (fun b hb => by
              have := HT9.out.lr
              rcases hb with rfl | rfl
              · exact Nat.le_of_lt this.2.2.1
              · exact Nat.le_of_lt this.2.1)) (fun q => by
                rw [adF_dr]
                by_cases c : q = k + 1
                · rw [if_pos c, c]; exact HD.out.1
                · rw [if_neg c]) (fun q hq => by
                unfold adF
                split
                · exact ⟨by simp [Fo.more, hq], by simp [Fo.more, hq], by simp [Fo.more, hq]⟩
                · exact ⟨rfl, rfl, rfl⟩)
            have HT11 : Hid (BT19 w w11 x mf ml mc cp r al (adF (F.dir al) (k + 1) (al : Int) ss)) := by
              have l1 := HT9.out.lr
              have l2 := HT9.out.bi.lt
              have l3 := HT9.out.bl.size
              refine ⟨hBI.turn hT11 ⟨by omega, by omega, by omega, by omega⟩, hBM, ?_, l1, HT9.out.nm.ad _ _ _, HT9.out.uq.ad _ _ _⟩
              have h1 := hT10.below (B := w.heap.size) l3 (fun b hb => by
                rcases hb with rfl | rfl
                · exact l2.2.2.1
                · exact l2.2.1)
              have h2 := hT11.below (B := w.heap.size) (Nat.le_trans l3 hT10.size) (fun b hb => by omega)
              exact HT9.out.bl.trans (h1.trans h2)
            rw [show ((k + 1 : Nat) : Int) = 1 + (k : Int) by omega] at hup
            clear HAD hBI hT10 hBM hT11 HT9 HL9 HER q49
            go_wp2_with fail
            go_roundw
            case rel => exact ⟨i + 1, al, _, HIN.out.1, by have := HIN.out.2; omega, by have := HAL.out; omega, rfl, by first | rfl | go_num | simp, HT11.out⟩
            case measure => have := HIN.out.1; simp [intOf]; omega
      · obtain ⟨al, hal⟩ : ∃ al, al = all := ⟨_, rfl⟩
        subst hal
        have HAL : Hid (al ≤ i + 2) := by have := HI.out; show al ≤ i + 2; omega
        clear HT
        have HT : Hid (BT19 w (wr.alloc (.cells #[.bool dr, .bool true, .int .i64 inn, .int .i64 ii, .string ss] 56)) x mf ml mc cp r al F) := HT1.out
        have bA := bA0
        have q1' := (bA0.cell 1).trans rfl
        clear HT1 bA0
        have a1 : (1 : Int) ≤ (al : Int) := by have := HT.out.al1; omega
        have a2 : (al : Int) ≤ 31 := by have := HT.out.al1; omega
        have z0 : ¬ ((al : Int) = 0) := by omega
        obtain ⟨k, hk, hkk⟩ := in19 inn al HT.out.al1
        obtain ⟨m1, m2⟩ := tm19 inn al HT.out.al1
        obtain ⟨m, hm⟩ : ∃ m, inn.tmod (al : Int) = m := ⟨_, rfl⟩
        rw [hm] at hkk m1 m2
        have k0 : (0 : Int) ≤ (k : Int) := by omega
        have k1 : (k : Int) < 31 := by omega
        obtain ⟨t, ht, hlk⟩ := HT.out.bm.look (k + 1)
        rw [show ((k + 1 : Nat) : Int) = 1 + (k : Int) by omega] at hlk
        have q0x := (bA.cell 0).trans rfl
        have q2 := (bA.cell 2).trans rfl
        have q3 := (bA.cell 3).trans rfl
        have q4 := (bA.cell 4).trans rfl
        cases hd : (F).dr (k + 1) with
        | false =>
          rw [hd] at hlk
          clear ht hd hk bA
          go_wp2_with fail
          go_roundw
          case rel => exact ⟨i + 1, al, _, HIN.out.1, by have := HIN.out.2; omega, by have := HAL.out; omega, rfl, by first | rfl | go_num | simp, HT.out⟩
          case measure => have := HIN.out.1; simp [intOf]; omega
        | true =>
          rw [hd] at hlk
          obtain ⟨ta, tn, tc⟩ := t
          have HL : Hid (LkIs (wr.alloc (.cells #[.bool dr, .bool true, .int .i64 inn, .int .i64 ii, .string ss] 56)) r (F) (k + 1) (ta, tn, tc)) := ht hd
          have HD : Hid ((F).dr (k + 1) = true ∧ (F).K (k + 1) ≤ 16384) := ⟨hd, HT.out.bi.kle hd⟩
          clear ht hd hk
          by_cases hto : 1 ≤ ii ∧ ii ≤ (al : Int)
          · have HRG : Hid (1 ≤ ii ∧ ii ≤ (al : Int)) := hto
            have r1 : ¬ ii < 1 := by omega
            have r2 : ¬ (al : Int) < ii := by omega
            clear hto
            have HRA : Hid (Calls Tryz.prog 23 #[.slice ta tn tc, .agg #[.int .i64 ii, .string ss]] (wr.alloc (.cells #[.bool dr, .bool true, .int .i64 inn, .int .i64 ii, .string ss] 56)) fun e w' => ∃ t2 : Option Addr × Nat × Nat, e = .returned (.tuple #[.slice t2.1 t2.2.1 t2.2.2, .int .i64 (adE (F) (k + 1) ii ss)]) ∧ LkIs w' r (adF (F) (k + 1) ii ss) (k + 1) t2 ∧ Below (wr.alloc (.cells #[.bool dr, .bool true, .int .i64 inn, .int .i64 ii, .string ss] 56)).heap.size (wr.alloc (.cells #[.bool dr, .bool true, .int .i64 inn, .int .i64 ii, .string ss] 56)) w') := HL.out.radd (t := (ta, tn, tc)) HT.out.bm.lt HD.out.2 ii ss
            have HBA : Hid (Blk (wr.alloc (.cells #[.bool dr, .bool true, .int .i64 inn, .int .i64 ii, .string ss] 56)) wr.heap.size 56 #[.bool dr, .bool true, .int .i64 inn, .int .i64 ii, .string ss]) := bA
            obtain ⟨er, her⟩ : ∃ er, adE (F) (k + 1) ii ss = er := ⟨_, rfl⟩
            have HER : Hid (adE (F) (k + 1) ii ss = er) := her
            rw [her] at HRA
            clear her HL bA
            go_wp2_with fail
            refine HRA.out.mono ?_
            rintro e w9 ⟨⟨t2a, t2n, t2c⟩, rfl, hL9, hb9⟩
            have HT9 : Hid (BT19 w w9 x mf ml mc cp r al (F)) := HT.out.below hb9
            have HL9 : Hid (LkIs w9 r (adF (F) (k + 1) ii ss) (k + 1) (t2a, t2n, t2c)) := hL9
            have bA9 := HBA.out.below hb9 HBA.out.lt
            have q49 := (bA9.cell 4).trans rfl
            have HAD := HT9.out.bi.add (k + 1) HD.out.1 ii ss HRG.out
            rw [show ((k + 1 : Nat) : Int) = 1 + (k : Int) by omega, HER.out] at HAD
            clear HRA hL9 hb9 q2 q3 q4 HT bA9
            go_wp2_with fail
            refine HAD.mono ?_
            rintro e w10 ⟨rfl, hBI, hT10⟩
            obtain ⟨w11, hup, hBM, hT11⟩ := (HT9.out.bm.turn hT10 (fun b hb => by
              have := HT9.out.lr
              rcases hb with rfl | rfl
              · exact this.2.2.1
              · exact this.2.1)).put (F2 := adF (F) (k + 1) ii ss) (k + 1) (t2a, t2n, t2c) (HL9.out.turn hT10 (fun b hb => by
              have := HT9.out.lr
              rcases hb with rfl | rfl
              · exact Nat.le_of_lt this.2.2.1
              · exact Nat.le_of_lt this.2.1)) (fun q => by
                rw [adF_dr]
                by_cases c : q = k + 1
                · rw [if_pos c, c]; exact HD.out.1
                · rw [if_neg c]) (fun q hq => by
                unfold adF
                split
                · exact ⟨by simp [Fo.more, hq], by simp [Fo.more, hq], by simp [Fo.more, hq]⟩
                · exact ⟨rfl, rfl, rfl⟩)
            have HT11 : Hid (BT19 w w11 x mf ml mc cp r al (adF (F) (k + 1) ii ss)) := by
              have l1 := HT9.out.lr
              have l2 := HT9.out.bi.lt
              have l3 := HT9.out.bl.size
              refine ⟨hBI.turn hT11 ⟨by omega, by omega, by omega, by omega⟩, hBM, ?_, l1, HT9.out.nm.ad _ _ _, HT9.out.uq.ad _ _ _⟩
              have h1 := hT10.below (B := w.heap.size) l3 (fun b hb => by
                rcases hb with rfl | rfl
                · exact l2.2.2.1
                · exact l2.2.1)
              have h2 := hT11.below (B := w.heap.size) (Nat.le_trans l3 hT10.size) (fun b hb => by omega)
              exact HT9.out.bl.trans (h1.trans h2)
            rw [show ((k + 1 : Nat) : Int) = 1 + (k : Int) by omega] at hup
            clear HAD hBI hT10 hBM hT11 HT9 HL9 HER q49
            go_wp2_with fail
            go_roundw
            case rel => exact ⟨i + 1, al, _, HIN.out.1, by have := HIN.out.2; omega, by have := HAL.out; omega, rfl, by first | rfl | go_num | simp, HT11.out⟩
            case measure => have := HIN.out.1; simp [intOf]; omega
          · by_cases hto1 : ii < 1
            · clear HL HD bA hto
              go_wp2_with fail
              go_roundw
              case rel => exact ⟨i + 1, al, _, HIN.out.1, by have := HIN.out.2; omega, by have := HAL.out; omega, rfl, by first | rfl | go_num | simp, HT.out⟩
              case measure => have := HIN.out.1; simp [intOf]; omega
            · have r2 : (al : Int) < ii := by omega
              clear HL HD bA hto
              go_wp2_with fail
              go_roundw
              case rel => exact ⟨i + 1, al, _, HIN.out.1, by have := HIN.out.2; omega, by have := HAL.out; omega, rfl, by first | rfl | go_num | simp, HT.out⟩
              case measure => have := HIN.out.1; simp [intOf]; omega
    · have hn3 : ¬ ((i : Int) < (n : Int)) ∨ ((i : Int) < (n : Int) ∧ ¬ ((i : Int) < 30)) := by omega
      have HE : Hid (BT19 w wr x mf ml mc cp r all F) := HT.out
      rcases hn3 with i1 | ⟨i1, i2⟩
      all_goals
        clear hin HT HI hi hi30
        go_wp2_with fail
        go_ret3
        first
          | exact ⟨x, mf, ml, mc, cp, r, all, F, rfl, HE.out⟩
          | exact ⟨x, mf, ml, mc, cp, r, rfl, all, F, HE.out⟩
end Go.Proofs.YtimjggkdpmgpjaaGreatDoor

namespace Go.Proofs.YtimjggkdpmgpjaaGreatDoor
open Go Go.RowKit
set_option linter.unusedSimpArgs false
set_option linter.unusedVariables false
set_option maxRecDepth 100000 in
set_option maxHeartbeats 8000000 in
theorem along1_any (x : Nat) (a : Option Addr) (n c : Nat) (hn : n ≤ 9223372036854775807) (fn bx : Nat) (F : Fo) (nm : Nat → ByteArray) (w : World) (Q : Nat → World → Prop)
    (ef : ∀ args w, (callFunc fn args).run Tryz.prog w = .ok (.enter fn args) w)
    (HN0 : ∀ i V, Q i V → ∀ j, j < n → ∃ b o, a = some ⟨b, o, none⟩ ∧ V.cell? ⟨b, o + j, none⟩ = some (.string (nm j)))
    (HQ0 : ∀ i V V', Q i V → Below V.heap.size V V' → Q i V')
    (HF0 : ∀ i V, i < n → naE nm n = 0 → feE F nm i = 0 → Q i V → Calls Tryz.prog 63 #[.pointer (some ⟨x, 0, none⟩), .int .i64 ((wkA F nm i : Nat) : Int), .string (nm i)] V fun e w' => ∃ r0 r1 : Int, e = .returned (.tuple #[.int .i64 r0, .int .i64 r1, .int .i64 (wkE F nm i)]) ∧ (wkE F nm i = 0 → r0 = ((wkA F nm (i + 1) : Nat) : Int) ∧ r1 = ((wkP F nm i : Nat) : Int)) ∧ Below V.heap.size V w')
    (HM0 : ∀ i V, i < n → naE nm n = 0 → feE F nm i = 0 → wkE F nm i = 0 → Q i V → Calls Tryz.prog fn #[.int .i64 ((wkA F nm (i + 1) : Nat) : Int), .int .i64 ((wkP F nm i : Nat) : Int), .pointer (some ⟨bx, 0, none⟩)] V fun e w' => e = .returned (.tuple #[]) ∧ Q (i + 1) w')
    (hQ : Q 0 w) :
    Calls Tryz.prog 31 #[.pointer (some ⟨x, 0, none⟩), .slice a n c, .func (.func fn) #[] #[.pointer (some ⟨bx, 0, none⟩)]] w fun e w' => e = .returned (.int .i64 (wkR F nm n)) ∧ ∃ i, i ≤ n ∧ (wkR F nm n = 0 → i = n) ∧ Q i w' := by
  have HN : Hid (∀ i V, Q i V → ∀ j, j < n → ∃ b o, a = some ⟨b, o, none⟩ ∧ V.cell? ⟨b, o + j, none⟩ = some (.string (nm j))) := HN0
  have HQ : Hid (∀ i V V', Q i V → Below V.heap.size V V' → Q i V') := HQ0
  have HF : Hid (∀ i V, i < n → naE nm n = 0 → feE F nm i = 0 → Q i V → Calls Tryz.prog 63 #[.pointer (some ⟨x, 0, none⟩), .int .i64 ((wkA F nm i : Nat) : Int), .string (nm i)] V fun e w' => ∃ r0 r1 : Int, e = .returned (.tuple #[.int .i64 r0, .int .i64 r1, .int .i64 (wkE F nm i)]) ∧ (wkE F nm i = 0 → r0 = ((wkA F nm (i + 1) : Nat) : Int) ∧ r1 = ((wkP F nm i : Nat) : Int)) ∧ Below V.heap.size V w') := HF0
  have HM : Hid (∀ i V, i < n → naE nm n = 0 → feE F nm i = 0 → wkE F nm i = 0 → Q i V → Calls Tryz.prog fn #[.int .i64 ((wkA F nm (i + 1) : Nat) : Int), .int .i64 ((wkP F nm i : Nat) : Int), .pointer (some ⟨bx, 0, none⟩)] V fun e w' => e = .returned (.tuple #[]) ∧ Q (i + 1) w') := HM0
  have H0 : Hid (Q 0 w) := hQ
  clear HN0 HQ0 HF0 HM0 hQ
  go_enter Tryz.func31, Tryz.ntmps31
  go_wp2_with fail
  go_loopw [20] (fun v wr => Hid (∃ i : Nat, i ≤ n ∧ v = .int .i64 (i : Int) ∧ naE nm i = 0 ∧ Q 0 wr)) (fun v _ => n - (intOf v).toNat)
  case atStart => exact ⟨0, Nat.zero_le _, rfl, rfl, H0.out⟩
  case round =>
    obtain ⟨i, hi, rfl, hna, hq⟩ := Hid.out hrel
    have HS : Hid (naE nm i = 0 ∧ Q 0 wr) := ⟨hna, hq⟩
    clear hrel hna hq H0
    by_cases hin : i < n
    · have i1 : (i : Int) < (n : Int) := by omega
      obtain ⟨b, o, rfl, c0⟩ := HN.out 0 wr HS.out.2 i hin
      have HC := qcheck_any (nm i) wr
      rcases nameE_two (nm i).data.toList with h | h
      · have HE : Hid (nameE (nm i).data.toList = 0) := h
        rw [h] at HC
        clear h
        go_wp2_with fail
        refine HC.mono ?_
        rintro e w2 ⟨rfl, hb2⟩
        have HS2 : Hid (naE nm (i + 1) = 0 ∧ Q 0 w2) := ⟨(naE_step HS.out.1).trans HE.out, HQ.out _ _ _ HS.out.2 hb2⟩
        clear hb2 HC c0
        go_wp2_with fail
        go_roundw
        case rel => exact ⟨i + 1, hin, by first | rfl | go_num | simp, HS2.out.1, HS2.out.2⟩
        case measure => simp [intOf]; omega
      · have HE : Hid (wkR F nm n = 130) := (wkR_name HS.out.1 hin (by rw [h]; decide)).trans h
        rw [h] at HC
        clear h
        go_wp2_with fail
        refine HC.mono ?_
        rintro e w2 ⟨rfl, hb2⟩
        have HS2 : Hid (Q 0 w2) := HQ.out _ _ _ HS.out.2 hb2
        clear hb2 HC c0
        go_wp2_with fail
        go_ret
        refine ⟨?_, 0, Nat.zero_le _, fun q => ?_, HS2.out⟩
        · rw [HE.out]; rfl
        · rw [HE.out] at q
          exact absurd q (by decide)
    · obtain rfl : i = n := by omega
      have i1 : ¬ ((i : Int) < (i : Int)) := by omega
      go_wp2_with fail
      go_loopw [10, 32] (fun v10 v32 wr => Hid (∃ j : Nat, j ≤ i ∧ v10 = .int .i64 ((wkA F nm j : Nat) : Int) ∧ v32 = .int .i64 (j : Int) ∧ feE F nm j = 0 ∧ Q j wr)) (fun _ v32 _ => i - (intOf v32).toNat)
      case atStart => exact ⟨0, Nat.zero_le _, rfl, rfl, rfl, HS.out.2⟩
      case round =>
        obtain ⟨j, hj, rfl, rfl, hfe, hq⟩ := Hid.out hrel
        have HT : Hid (feE F nm j = 0 ∧ Q j wr) := ⟨hfe, hq⟩
        have HNA : Hid (naE nm i = 0) := HS.out.1
        clear hrel hfe hq HS i1
        by_cases hjn : j < i
        · have j1 : (j : Int) < (i : Int) := by omega
          obtain ⟨b, o, rfl, c0⟩ := HN.out j wr HT.out.2 j hjn
          have HC := HF.out j wr hjn HNA.out HT.out.1 HT.out.2
          have HST : Hid (wkE F nm j ≠ 0 → wkR F nm i = wkE F nm j) := fun q => wkR_step HNA.out HT.out.1 hjn q
          have HMM : Hid (wkE F nm j = 0 → ∀ V, Q j V → Calls Tryz.prog fn #[.int .i64 ((wkA F nm (j + 1) : Nat) : Int), .int .i64 ((wkP F nm j : Nat) : Int), .pointer (some ⟨bx, 0, none⟩)] V fun e w' => e = .returned (.tuple #[]) ∧ Q (j + 1) w') := fun q V hV => HM.out j V hjn HNA.out HT.out.1 q hV
          have HNX : Hid (wkE F nm j = 0 → feE F nm (j + 1) = 0) := fun q => (feE_step HT.out.1).trans q
          generalize hA1 : wkA F nm (j + 1) = A1 at HC HMM
          generalize wkP F nm j = P1 at HC HMM
          have HA1 : Hid (wkA F nm (j + 1) = A1) := hA1
          clear hA1
          generalize wkA F nm j = A0 at HC ⊢
          generalize nm j = sj at HC c0
          rcases wkE_three F nm j with h | h | h
          · have hmm := HMM.out h
            have HMC : Hid (∀ V, Q j V → Calls Tryz.prog fn #[.int .i64 (A1 : Int), .int .i64 (P1 : Int), .pointer (some ⟨bx, 0, none⟩)] V fun e w' => e = .returned (.tuple #[]) ∧ Q (j + 1) w') := hmm
            have HN2 : Hid (feE F nm (j + 1) = 0) := HNX.out h
            rw [h] at HC
            clear h hmm HST HMM HNX
            go_wp2_with fail
            refine HC.mono ?_
            rintro e w2 ⟨r0, r1, rfl, hr, hb2⟩
            obtain ⟨rfl, rfl⟩ := hr (by first | rfl | trivial)
            have HQ2 : Hid (Q j w2) := HQ.out _ _ _ HT.out.2 hb2
            clear hr hb2 HC c0
            go_wp2_with fail
            refine (HMC.out _ HQ2.out).mono ?_
            rintro e w3 ⟨rfl, hq3⟩
            have HQ3 : Hid (Q (j + 1) w3) := hq3
            clear hq3
            go_wp2_with fail
            go_roundw
            case rel => exact ⟨j + 1, hjn, by rw [HA1.out], by first | rfl | go_num | simp, HN2.out, HQ3.out⟩
            case measure => simp [intOf]; omega
          · have HE : Hid (wkR F nm i = 170) := (HST.out (by rw [h]; decide)).trans h
            rw [h] at HC
            clear h HST HMM HNX
            go_wp2_with fail
            refine HC.mono ?_
            rintro e w2 ⟨r0, r1, rfl, -, hb2⟩
            have HQ2 : Hid (Q j w2) := HQ.out _ _ _ HT.out.2 hb2
            clear hb2 HC c0
            go_wp2_with fail
            go_ret
            refine ⟨?_, j, Nat.le_of_lt hjn, fun q => ?_, HQ2.out⟩
            · rw [HE.out]; rfl
            · rw [HE.out] at q
              exact absurd q (by decide)
          · have HE : Hid (wkR F nm i = 171) := (HST.out (by rw [h]; decide)).trans h
            rw [h] at HC
            clear h HST HMM HNX
            go_wp2_with fail
            refine HC.mono ?_
            rintro e w2 ⟨r0, r1, rfl, -, hb2⟩
            have HQ2 : Hid (Q j w2) := HQ.out _ _ _ HT.out.2 hb2
            clear hb2 HC c0
            go_wp2_with fail
            go_ret
            refine ⟨?_, j, Nat.le_of_lt hjn, fun q => ?_, HQ2.out⟩
            · rw [HE.out]; rfl
            · rw [HE.out] at q
              exact absurd q (by decide)
        · obtain rfl : j = i := by omega
          have j1 : ¬ ((j : Int) < (j : Int)) := by omega
          go_wp2_with fail
          go_ret
          refine ⟨?_, j, Nat.le_refl _, fun _ => rfl, HT.out.2⟩
          rw [wkR_ok HNA.out HT.out.1]; rfl
end Go.Proofs.YtimjggkdpmgpjaaGreatDoor

namespace Go.Proofs.YtimjggkdpmgpjaaGreatDoor
open Go Go.RowKit
set_option linter.unusedSimpArgs false
set_option linter.unusedVariables false
/-- two lists, one beside the other, and the boxes that hold them (o1, o2: what stands in the boxes) -/
structure CS (B : Nat) (w0 : World) (bx bz : Nat) (o1 o2 v1 v2 : Value) (L1 L2 : List Value) (U : World) : Prop where
  b1 : Blk U bx 110 #[o1]
  b2 : Blk U bz 110 #[o2]
  r1 : U.ownsRow B 3 1 v1 L1.length L1
  r2 : U.ownsRow B 3 1 v2 L2.length L2
  ap : ∀ b, v1.ownBlock = some b → v2.ownBlock ≠ some b
  bl : Below B w0 U
  bs : B ≤ U.heap.size
  bb : B ≤ bx ∧ B ≤ bz ∧ bx ≠ bz
/-- an element in a block of its own -/
structure EL (U : World) (g : Nat) (a v1 v2 : Value) : Prop where
  blk : Blk U g 3 #[a]
  n1 : v1.ownBlock ≠ some g
  n2 : v2.ownBlock ≠ some g
section
variable {B : Nat} {w0 : World} {bx bz : Nat} {o1 o2 v1 v2 : Value} {L1 L2 : List Value} {U U' : World}
theorem CS.alloc (h : CS B w0 bx bz o1 o2 v1 v2 L1 L2 U) (o : Obj) : CS B w0 bx bz o1 o2 v1 v2 L1 L2 (U.alloc o) :=
  ⟨h.b1.alloc _, h.b2.alloc _, h.r1.alloc _, h.r2.alloc _, h.ap, h.bl.alloc h.bs _, by have := h.bs; simp; omega, h.bb⟩
theorem CS.below (h : CS B w0 bx bz o1 o2 v1 v2 L1 L2 U) (hb : Below U.heap.size U U') : CS B w0 bx bz o1 o2 v1 v2 L1 L2 U' :=
  ⟨h.b1.below hb h.b1.lt, h.b2.below hb h.b2.lt, kown_below h.r1 hb, kown_below h.r2 hb, h.ap, h.bl.trans (hb.mono h.bs), Nat.le_trans h.bs hb.size, h.bb⟩
theorem CS.elem (h : CS B w0 bx bz o1 o2 v1 v2 L1 L2 U) (a : Value) : EL (U.alloc (.cells #[a] 3)) U.heap.size a v1 v2 :=
  ⟨Blk.new _ _ _, fun q => by have := (h.r1.lt _ q).2; omega, fun q => by have := (h.r2.lt _ q).2; omega⟩
theorem EL.alloc {g : Nat} {a : Value} (h : EL U g a v1 v2) (o : Obj) : EL (U.alloc o) g a v1 v2 := ⟨h.blk.alloc _, h.n1, h.n2⟩
theorem EL.cells {g : Nat} {a : Value} (h : EL U g a v1 v2) : ∀ j u, [a][j]? = some u → U.cell? ((⟨g, 0, none⟩ : Addr).add j) = some u := fun j u hj => by
  have hl := (List.getElem?_eq_some_iff.1 hj).1
  have e0 : j = 0 := by simpa using hl
  subst e0
  have e : a = u := by simpa using hj
  subst e
  exact (h.blk.cell 0).trans rfl
theorem CS.store1 (h : CS B w0 bx bz o1 o2 v1 v2 L1 L2 U) : CS B w0 bx bz v1 o2 v1 v2 L1 L2 (U.setCell ⟨bx, 0, none⟩ v1) :=
  ⟨by have := h.b1.put 0 v1; exact this, h.b2.put_other _ _ (Ne.symm h.bb.2.2), kown_kept h.r1 fun k _ hk => Below.heap_setCell _ _ _ _ fun q => own_ne h.r1 h.b1 (by decide) (hk.trans (by rw [q])), kown_kept h.r2 fun k _ hk => Below.heap_setCell _ _ _ _ fun q => own_ne h.r2 h.b1 (by decide) (hk.trans (by rw [q])), h.ap, h.bl.setCell (p := ⟨bx, 0, none⟩) h.bb.1 _, by simpa using h.bs, h.bb⟩
theorem CS.store (h : CS B w0 bx bz o1 o2 v1 v2 L1 L2 U) : CS B w0 bx bz v1 v2 v1 v2 L1 L2 ((U.setCell ⟨bx, 0, none⟩ v1).setCell ⟨bz, 0, none⟩ v2) := by
  have h1 := h.store1
  exact ⟨h1.b1.put_other _ _ h.bb.2.2, by have := h1.b2.put 0 v2; exact this, kown_kept h1.r1 fun k _ hk => Below.heap_setCell _ _ _ _ fun q => own_ne h1.r1 h1.b2 (by decide) (hk.trans (by rw [q])), kown_kept h1.r2 fun k _ hk => Below.heap_setCell _ _ _ _ fun q => own_ne h1.r2 h1.b2 (by decide) (hk.trans (by rw [q])), h.ap, h1.bl.setCell (p := ⟨bz, 0, none⟩) h.bb.2.1 _, by simpa using h1.bs, h.bb⟩
end
end Go.Proofs.YtimjggkdpmgpjaaGreatDoor
