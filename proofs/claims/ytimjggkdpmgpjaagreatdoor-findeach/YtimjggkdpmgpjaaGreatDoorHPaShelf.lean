/-
  DERIVED: THE SHELF's CONTRACTS AT THIS DUMP, IN PLAIN WORDS (tools/lay-plain.mjs out of 'YtimjggkdpmgpjaaGreatDoorPaShelf.lean', which tools/lay-shelf.mjs wrote): THE SAME DECLARATIONS UNDER THE SAME NAMES: 'import', 'namespace', 'open', 'def', 'theorem' AND NOTHING ELSE: no command of the shelf's: FOR A HAND-IN. Each laying: the table of numbers ('.._ren') and one theorem, a field a fact of the dump's own or the kernel's comparison; each contract: ONE APPLICATION.
-/
import Derived.Test.YtimjggkdpmgpjaaGreatDoorHCaAll2
import Derived.Test.YtimjggkdpmgpjaaGreatDoorHInsStart
import Derived.Test.YtimjggkdpmgpjaaGreatDoorHCaKit
import Derived.Test.YtimjggkdpmgpjaaGreatDoorHDiAdd
import Derived.Test.YtimjggkdpmgpjaaGreatDoorHIntMap
import Derived.Handy
import Derived.Test.YtimjggkdpmgpjaaGreatDoorHDiSort1
import Derived.Deep.Cut
import Derived.Deep.DeepCutAuto
import Derived.Test.YtimjggkdpmgpjaaGreatDoorHBlkOwn
import Derived.Test.YtimjggkdpmgpjaaGreatDoorHLogOf
import Derived.Maps.AppendAt
import Derived.Test.YtimjggkdpmgpjaaGreatDoorHOrders
import Derived.Test.YtimjggkdpmgpjaaGreatDoorHDiFns
import Derived.Test.YtimjggkdpmgpjaaGreatDoorHDkWrite
import Derived.Deep.MidRow
import Derived.Shelf.Strings.Prefix
import Derived.Shelf.Strings.Search2
import Derived.Test.YtimjggkdpmgpjaaGreatDoorProg

namespace Go.Proofs.YtimjggkdpmgpjaaGreatDoor
open Go Go.RowKit
set_option linter.unusedSimpArgs false
set_option linter.unusedVariables false
theorem tm19 (i : Int) (n : Nat) (h : 1 ≤ n ∧ n ≤ 31) : -31 < i.tmod (n : Int) ∧ i.tmod (n : Int) < 31 := by
  have h1 := Int.tmod_lt_of_pos i (show (0 : Int) < (n : Int) by omega)
  have h2 := Int.lt_tmod_of_pos i (show (0 : Int) < (n : Int) by omega)
  omega
theorem in19 (i : Int) (n : Nat) (h : 1 ≤ n ∧ n ≤ 31) : ∃ k : Nat, k < n ∧ (i.tmod (n : Int) + (n : Int)).tmod (n : Int) = (k : Int) := by
  have h1 := Int.tmod_lt_of_pos i (show (0 : Int) < (n : Int) by omega)
  have h2 := Int.lt_tmod_of_pos i (show (0 : Int) < (n : Int) by omega)
  have h3 := Int.tmod_nonneg (n : Int) (show 0 ≤ i.tmod (n : Int) + (n : Int) by omega)
  have h4 := Int.tmod_lt_of_pos (i.tmod (n : Int) + (n : Int)) (show (0 : Int) < (n : Int) by omega)
  exact ⟨((i.tmod (n : Int) + (n : Int)).tmod (n : Int)).toNat, by omega, by omega⟩
theorem BI.kle {w : World} {B0 x mf ml mc all e : Nat} {cp : Option Addr} {F : Fo} (h : BI w B0 x mf ml mc cp all F e) {n : Nat} (hn : F.dr n = true) : F.K n ≤ 16384 := by
  obtain ⟨H, D, _, hd, _⟩ := h.im
  exact (hd n hn).le
/-- what a folder's entries are called are names -/
def FNm (F : Fo) : Prop := ∀ d, F.dr d = true → ∀ i, i < F.K d → isName (F.S d i).data.toList = true
theorem FNm.ad {F : Fo} (h : FNm F) (d : Nat) (j : Int) (s : ByteArray) : FNm (adF F d j s) := by
  unfold adF
  split
  · rename_i he
    have hs : isName s.data.toList = true := by
      apply Classical.byContradiction
      intro q
      exact absurd he ((adE_ne F d j s).2 (.inl (by unfold encE; rw [if_neg q]; split <;> decide)))
    intro e hd i hi
    simp only [Fo.more] at hd hi ⊢
    by_cases c : e = d
    · subst c
      rw [if_pos rfl] at hi
      rw [if_pos rfl]
      unfold upS
      by_cases c2 : i = F.K e
      · rw [if_pos c2]; exact hs
      · rw [if_neg c2]; exact h e hd i (by omega)
    · rw [if_neg c] at hi
      rw [if_neg c]
      exact h e hd i hi
  · exact h
theorem FNm.dir {F : Fo} (h : FNm F) (e : Nat) : FNm (F.dir e) := by
  intro d hd i hi
  simp only [Fo.dir] at hd hi ⊢
  by_cases c : d = e
  · subst c
    simp_all
  · simp_all
    exact h d hd i hi
/-- the tree, and where it lies -/
structure BT19 (w W : World) (x mf ml mc : Nat) (cp : Option Addr) (r all : Nat) (F : Fo) : Prop where
  bi : BI W w.heap.size x mf ml mc cp all F 0
  bm : BM W r F
  bl : Below w.heap.size w W
  lr : x < r ∧ mf < r ∧ ml < r ∧ mc < r ∧ w.heap.size ≤ r
  nm : FNm F
theorem BT19.al1 {w W : World} {x mf ml mc : Nat} {cp : Option Addr} {r all : Nat} {F : Fo} (h : BT19 w W x mf ml mc cp r all F) : 1 ≤ all ∧ all ≤ 31 := h.bi.al
theorem BT19.below {w W V : World} {x mf ml mc : Nat} {cp : Option Addr} {r all : Nat} {F : Fo} (h : BT19 w W x mf ml mc cp r all F) (hb : Below W.heap.size W V) : BT19 w V x mf ml mc cp r all F := ⟨h.bi.below hb, h.bm.below hb, h.bl.trans (hb.mono h.bl.size), h.lr, h.nm⟩
/-- the root, empty -/
def fo19 : Fo := ⟨fun m => if m = 1 then true else false, fun _ => 0, fun _ _ => 0, fun _ _ => ⟨#[]⟩⟩
theorem BM.first {w : World} {r k : Nat} (h : w.heap[r]? = some (.map #[] k)) (g : Nat := r + 1) (hg : g = r + 1 := by rfl) : ∃ w', (Instr.mapUpdate 25 (.map (some r)) (.int .i64 1) (.slice (some ⟨g, 0, none⟩) 0 0)).run Tryz.prog w = .ok () w' ∧ BM w' r fo19 ∧ Turns (fun z => z = r) w w' := by
  subst hg
  have h0 : BM w r ⟨fun _ => false, fun _ => 0, fun _ _ => 0, fun _ _ => ⟨#[]⟩⟩ := ⟨[], fun _ => (none, 0, 0), ⟨#[], k, h, rfl⟩, fun m => rfl, fun n hn => by cases hn⟩
  exact h0.put (F2 := fo19) 1 (some ⟨r + 1, 0, none⟩, 0, 0) ⟨rfl, fun i hi => absurd hi (Nat.not_lt_zero _), (fun q => by cases q), fun b o k q => by
    injection q with q
    injection q with q _ _
    omega⟩ (fun m => rfl) (fun m hm => ⟨rfl, rfl, rfl⟩)
theorem bi_start {w : World} {B0 x mf ml mc : Nat} {cp : Option Addr} (h : IM w x mf ml mc cp 1 (hU (fun _ => hd00) 1 (hdN hd00 1 2 1 0 1)) (fun _ _ _ => 0)) (hl : B0 ≤ x ∧ B0 ≤ mf ∧ B0 ≤ ml ∧ B0 ≤ mc) : BI w B0 x mf ml mc cp 1 fo19 0 := by
  have h1 : ∀ n, fo19.dr n = true → n = 1 := fun n hn => by
    unfold fo19 at hn
    by_cases c : n = 1
    · exact c
    · rw [show (⟨fun m => if m = 1 then true else false, fun _ => 0, fun _ _ => 0, fun _ _ => ⟨#[]⟩⟩ : Fo).dr n = (if n = 1 then true else false) from rfl, if_neg c] at hn
      cases hn
  refine ⟨⟨_, _, h, fun n hn => ?_, fun n a1 a2 a3 _ => ?_, fun n a1 => ⟨?_, fun _ _ => rfl⟩, fun q => absurd rfl q⟩, fun q => absurd rfl q, hl, rfl, fun n hn => ?_, fun n hn p hp => absurd hp (Nat.not_lt_zero _), by omega⟩
  · obtain rfl := h1 n hn
    refine ⟨by decide, by decide, rfl, rfl, rfl, rfl, rfl, by decide, fun p hp => absurd hp (Nat.not_lt_zero _), fun q i hi => ?_⟩
    rw [show inLf (fo19.K 1) q = 0 by show inLf 0 q = 0; unfold inLf; omega]
    rfl
  · obtain rfl : n = 1 := by omega
    cases a3
  · unfold hU
    rw [if_neg (by omega)]
  · obtain rfl := h1 n hn
    omega
set_option maxRecDepth 100000 in
set_option maxHeartbeats 32000000 in
theorem built19_any (a : Option Addr) (n c : Nat) (hn : n ≤ 9223372036854775807) (X : Nat → A19) (hX : ∀ i, i < n → (X i).ok) (w : World) (hI : IsA19 w a n X) : Calls Tryz.prog 7 #[.slice a n c] w fun e w' => ∃ x mf ml mc cp r all F, e = .returned (.tuple #[.pointer (some ⟨x, 0, none⟩), .map (some r), .bool true]) ∧ BT19 w w' x mf ml mc cp r all F := by
  have hbt := built_tr0
  have hmm := @run_makeMap Tryz.prog
  have HIA : Hid (∀ V, Below w.heap.size w V → IsA19 V a n X) := fun V hV => hI.below hV
  have HXO : Hid (∀ i, i < n → (X i).ok) := hX
  have HN : Hid (∀ w : World, Calls Tryz.prog 19 #[.int .i64 64] w fun e w' => ∃ g, e = .returned (.tuple #[.pointer (some ⟨g, 0, none⟩), .int .i64 0]) ∧ Below w.heap.size w w') := fun w => (diskNew_any 64 (by decide) (by decide) w).mono fun e w' ⟨g, q, h1, _, _, h2⟩ => ⟨g, h1, h2⟩
  have HC : Hid (∀ (g : Nat) (w : World), Calls Tryz.prog 20 #[.pointer (some ⟨g, 0, none⟩), .pointer none, .int .i64 0] w fun e w' => ∃ c, e = .returned (.tuple #[.pointer (some ⟨c, 0, none⟩), .int .i64 0]) ∧ Below w.heap.size w w') := fun g w => (caNew_ok g none 0 (by decide) (by decide) w).mono fun e w' ⟨c, m, h1, _, _, _, h2⟩ => ⟨c, h1, h2⟩
  have HO : Hid (∀ (c : Nat) (w : World), Calls Tryz.prog 21 #[.pointer (some ⟨c, 0, none⟩), .agg (trC 0 rf0), .int .i64 0] w fun e w' => ∃ x mf ml mc, e = .returned (.tuple #[.pointer (some ⟨x, 0, none⟩), .int .i64 0]) ∧ (w.heap.size ≤ x ∧ w.heap.size ≤ mf ∧ w.heap.size ≤ ml ∧ w.heap.size ≤ mc) ∧ IM w' x mf ml mc (some ⟨c, 0, none⟩) 0 (fun _ => hd00) (fun _ _ _ => 0) ∧ Below w.heap.size w w') := fun c w => open_im (some ⟨c, 0, none⟩) w
  clear hI hX
  go_enter Tryz.func7, Tryz.ntmps7
  go_wp2_with fail
  refine (HN.out _).mono ?_
  rintro e w3 ⟨d, rfl, hb13⟩
  clear HN
  go_wp2_with fail
  refine (HC.out _ _).mono ?_
  rintro e w4 ⟨cc, rfl, hb4⟩
  have hb14 := hb13.trans (hb4.mono hb13.size)
  clear hb13 hb4 HC
  go_wp2_with (first
    | (refine wpList_buildTo (by rfl) 76 #[] (by rfl) _ rfl (trC 0 rf0) (by exact hbt) ?_; simp only [Act.put, List.setIfInBounds_toArray, List.set_cons_zero, List.set_cons_succ])
    | fail)
  refine (HO.out _ _).mono ?_
  rintro e w5 ⟨x, mf, ml, mc, rfl, hbs, hI5, hb5⟩
  have hb15 := hb14.trans (hb5.mono hb14.size)
  have hz := hb14.size
  have HX : Hid (w.heap.size ≤ x ∧ w.heap.size ≤ mf ∧ w.heap.size ≤ ml ∧ w.heap.size ≤ mc) := ⟨by omega, by omega, by omega, by omega⟩
  have HM1 := hI5.make 1 (by decide) (by decide) rfl (fun m h1 h2 => absurd h2 (by omega)) 2 (.inr rfl) 1 (by decide)
  have HB15 : Hid (Below w.heap.size w w5) := hb15
  obtain ⟨cp, hcp⟩ : ∃ cp : Option Addr, cp = some ⟨cc, 0, none⟩ := ⟨_, rfl⟩
  rw [← hcp] at HM1
  clear hb14 hb5 hb15 HO hI5 hbt hbs hcp
  go_wp2_with fail
  refine HM1.mono ?_
  rintro e w6 ⟨rfl, hI6, ht6⟩
  have HB6 : Hid (Below w.heap.size w w6) := HB15.out.trans (ht6.below HB15.out.size fun b hb => by
    have := HX.out
    rcases hb with rfl | rfl
    · exact this.1
    · exact this.2.1)
  have HI6 : Hid (IM w6 x mf ml mc cp 1 (hU (fun _ => hd00) 1 (hdN hd00 1 2 1 0 1)) (fun _ _ _ => 0)) := hI6
  have hm6 : (w6.alloc (.map #[] 0)).heap[w6.heap.size]? = some (.map #[] 0) := by
    show (w6.heap.push (.map #[] 0))[w6.heap.size]? = _
    simp
  have hm7 : ((w6.alloc (.map #[] 0)).alloc (.cells #[] 82)).heap[w6.heap.size]? = some (.map #[] 0) := (((Below.refl (w6.alloc (.map #[] 0)).heap.size (w6.alloc (.map #[] 0))).alloc (Nat.le_refl _) (.cells #[] 82)).block w6.heap.size (by simp)).trans hm6
  obtain ⟨w8, hup, hbm, ht8⟩ := BM.first hm7
  have hI8 : IM w8 x mf ml mc cp 1 (hU (fun _ => hd00) 1 (hdN hd00 1 2 1 0 1)) (fun _ _ _ => 0) := by
    have hl := HI6.out.lts
    have hI7 := HI6.out.below (((Below.refl w6.heap.size w6).alloc (Nat.le_refl _) (.map #[] 0)).alloc (by simp) (.cells #[] 82))
    exact hI7.keep (ht8.block _ (by simp; omega) (by omega)) (ht8.block _ (by simp; omega) (by omega)) (ht8.block _ (by simp; omega) (by omega)) (ht8.block _ (by simp; omega) (by omega))
  have HT8 : Hid (BT19 w w8 x mf ml mc cp w6.heap.size 1 fo19) := by
    have hb7 := ((HB6.out.alloc HB6.out.size (.map #[] 0)).alloc (by have := HB6.out.size; simp; omega) (.cells #[] 82))
    have hs := HB6.out.size
    exact ⟨bi_start hI8 HX.out, hbm, hb7.trans (ht8.below hb7.size fun b hb => by omega), ⟨HI6.out.lts.1, HI6.out.lts.2.1, HI6.out.lts.2.2.1, HI6.out.lts.2.2.2, hs⟩, fun d hd i hi => absurd hi (Nat.not_lt_zero _)⟩
  clear hI6 ht6 HM1 HB15 HX HI6 HB6 hm6 hm7 hbm ht8 hI8
  go_wp2_with fail
  generalize w6.heap.size = r at *
  go_loopw [14, 15] (fun v14 v15 wr => Hid (∃ (i all : Nat) (F : Fo), i ≤ n ∧ i ≤ 30 ∧ all ≤ i + 1 ∧ v14 = .int .i64 (all : Int) ∧ v15 = .int .i64 (i : Int) ∧ BT19 w wr x mf ml mc cp r all F)) (fun _ v15 _ => n - (intOf v15).toNat)
  case atStart => exact ⟨0, 1, fo19, Nat.zero_le _, by omega, by omega, rfl, rfl, HT8.out⟩
  case round =>
    obtain ⟨i, all, F, hi, hi30, ha, rfl, rfl, hT⟩ := Hid.out hrel
    have HT : Hid (BT19 w wr x mf ml mc cp r all F) := hT
    have HI : Hid (i ≤ n ∧ i ≤ 30 ∧ all ≤ i + 1) := ⟨hi, hi30, ha⟩
    clear hrel hT HT8 ha
    by_cases hin : i < n ∧ i < 30
    · have i1 : (i : Int) < (n : Int) := by omega
      have i2 : (i : Int) < 30 := by omega
      have HA30 : Hid (all ≤ 30) := by have := HI.out; show all ≤ 30; omega
      obtain ⟨b, o, rfl, q0, q1, q2, q3, q4⟩ := (HIA.out wr HT.out.bl).cs hin.1
      have hok := HXO.out i hin.1
      obtain ⟨⟨dr, mo, inn, ii, ss⟩, eX⟩ : ∃ y, X i = y := ⟨_, rfl⟩
      rw [eX] at q0 q1 q2 q3 q4 hok
      obtain ⟨ok1, ok2, ok3⟩ := hok
      have HOK : Hid ((-9223372036854775808 ≤ inn ∧ inn ≤ 9223372036854775807) ∧ (-9223372036854775808 ≤ ii ∧ ii ≤ 9223372036854775807)) := ⟨ok1, ok2⟩
      have HIN : Hid (i < n ∧ i < 30) := hin
      clear eX ok1 ok2 ok3 hin hi hi30
      have bA0 : Blk (wr.alloc (.cells #[.bool dr, .bool mo, .int .i64 inn, .int .i64 ii, .string ss] 56)) wr.heap.size 56 #[.bool dr, .bool mo, .int .i64 inn, .int .i64 ii, .string ss] := Blk.new _ _ _
      have HT1 : Hid (BT19 w (wr.alloc (.cells #[.bool dr, .bool mo, .int .i64 inn, .int .i64 ii, .string ss] 56)) x mf ml mc cp r all F) := HT.out.below (below_new1 _ _)
      have HT1r : Hid (r < wr.heap.size) := HT.out.bm.lt
      cases mo
      · obtain ⟨al, hal⟩ : ∃ al, al = all + 1 := ⟨_, rfl⟩
        have he : (all : Int) + 1 = (al : Int) := by omega
        have HAL : Hid (al ≤ i + 2) := by have := HI.out; show al ≤ i + 2; omega
        have q0' := (bA0.cell 0).trans rfl
        have q1' := (bA0.cell 1).trans rfl
        cases dr
        · have HM := HT1.out.bi.makeAny HA30.out 1 (.inl rfl)
          rw [← hal, if_neg (by decide)] at HM
          have HAN : Hid (al = all + 1) := hal
          clear hal HT
          go_wp2_with fail
          refine HM.mono ?_
          rintro e w7 ⟨rfl, hBI, hT7⟩
          have HWR : Hid (r < wr.heap.size) := HT1r.out
          have HTX : Hid (∀ b, (b = x ∨ b = mf) → b < r) := fun b hb => by
            have l1 := HT1.out.lr
            rcases hb with rfl | rfl
            · exact l1.1
            · exact l1.2.1
          have HTB : Hid (∀ b, (b = x ∨ b = mf) → w.heap.size ≤ b) := fun b hb => by
            have l1 := HT1.out.bi.lt
            rcases hb with rfl | rfl
            · exact l1.1
            · exact l1.2.1
          have bA := hT7.blk bA0 (fun hb => by
            have l1 := HT1.out.lr
            have := HWR.out
            rcases hb with hb | hb <;> omega)
          have HT : Hid (BT19 w w7 x mf ml mc cp r al F) := ⟨hBI, HT1.out.bm.turn hT7 HTX.out, HT1.out.bl.trans (hT7.below HT1.out.bl.size HTB.out), HT1.out.lr, HT1.out.nm⟩
          clear hBI hT7 HM HT1 bA0 q0' q1' HTX HTB
          have a1 : (1 : Int) ≤ (al : Int) := by have := HT.out.al1; omega
          have a2 : (al : Int) ≤ 31 := by have := HT.out.al1; omega
          have z0 : ¬ ((al : Int) = 0) := by omega
          obtain ⟨k, hk, hkk⟩ := in19 inn al HT.out.al1
          obtain ⟨m1, m2⟩ := tm19 inn al HT.out.al1
          obtain ⟨m, hm⟩ : ∃ m, inn.tmod (al : Int) = m := ⟨_, rfl⟩
          rw [hm] at hkk m1 m2
          have k0 : (0 : Int) ≤ (k : Int) := by omega
          have k1 : (k : Int) < 31 := by omega
          obtain ⟨t, ht, hlk⟩ := HT.out.bm.look (k + 1)
          rw [show ((k + 1 : Nat) : Int) = 1 + (k : Int) by omega] at hlk
          have q0x := (bA.cell 0).trans rfl
          have q2 := (bA.cell 2).trans rfl
          have q3 := (bA.cell 3).trans rfl
          have q4 := (bA.cell 4).trans rfl
          cases hd : (F).dr (k + 1) with
          | false =>
            rw [hd] at hlk
            clear ht hd hk bA
            go_wp2_with fail
            go_roundw
            case rel => exact ⟨i + 1, al, _, HIN.out.1, by have := HIN.out.2; omega, by have := HAL.out; omega, rfl, by first | rfl | go_num | simp, HT.out⟩
            case measure => have := HIN.out.1; simp [intOf]; omega
          | true =>
            rw [hd] at hlk
            obtain ⟨ta, tn, tc⟩ := t
            have HL : Hid (LkIs (w7) r (F) (k + 1) (ta, tn, tc)) := ht hd
            have HD : Hid ((F).dr (k + 1) = true ∧ (F).K (k + 1) ≤ 16384) := ⟨hd, HT.out.bi.kle hd⟩
            clear ht hd hk
            have HRG : Hid (1 ≤ (al : Int) ∧ (al : Int) ≤ (al : Int)) := by have := HT.out.al1; show (1 : Int) ≤ (al : Int) ∧ (al : Int) ≤ (al : Int); omega
            have r1 : ¬ (al : Int) < 1 := by have := HRG.out; omega
            have r2 : ¬ (al : Int) < (al : Int) := by have := HRG.out; omega
            have HRA : Hid (Calls Tryz.prog 23 #[.slice ta tn tc, .agg #[.int .i64 (al : Int), .string ss]] (w7) fun e w' => ∃ t2 : Option Addr × Nat × Nat, e = .returned (.tuple #[.slice t2.1 t2.2.1 t2.2.2, .int .i64 (adE (F) (k + 1) (al : Int) ss)]) ∧ LkIs w' r (adF (F) (k + 1) (al : Int) ss) (k + 1) t2 ∧ Below (w7).heap.size (w7) w') := HL.out.radd (t := (ta, tn, tc)) HT.out.bm.lt HD.out.2 (al : Int) ss
            have HBA : Hid (Blk (w7) wr.heap.size 56 #[.bool false, .bool false, .int .i64 inn, .int .i64 ii, .string ss]) := bA
            obtain ⟨er, her⟩ : ∃ er, adE (F) (k + 1) (al : Int) ss = er := ⟨_, rfl⟩
            have HER : Hid (adE (F) (k + 1) (al : Int) ss = er) := her
            rw [her] at HRA
            clear her HL bA
            go_wp2_with fail
            refine HRA.out.mono ?_
            rintro e w9 ⟨⟨t2a, t2n, t2c⟩, rfl, hL9, hb9⟩
            have HT9 : Hid (BT19 w w9 x mf ml mc cp r al (F)) := HT.out.below hb9
            have HL9 : Hid (LkIs w9 r (adF (F) (k + 1) (al : Int) ss) (k + 1) (t2a, t2n, t2c)) := hL9
            have bA9 := HBA.out.below hb9 HBA.out.lt
            have q49 := (bA9.cell 4).trans rfl
            have HAD := HT9.out.bi.add (k + 1) HD.out.1 (al : Int) ss HRG.out
            rw [show ((k + 1 : Nat) : Int) = 1 + (k : Int) by omega, HER.out] at HAD
            clear HRA hL9 hb9 q2 q3 q4 HT bA9
            go_wp2_with fail
            refine HAD.mono ?_
            rintro e w10 ⟨rfl, hBI, hT10⟩
            obtain ⟨w11, hup, hBM, hT11⟩ := (HT9.out.bm.turn hT10 (fun b hb => by
              have := HT9.out.lr
              rcases hb with rfl | rfl
              · exact this.2.2.1
              · exact this.2.1)).put (F2 := adF (F) (k + 1) (al : Int) ss) (k + 1) (t2a, t2n, t2c) (HL9.out.turn hT10 (fun b hb => by
              have := HT9.out.lr
              rcases hb with rfl | rfl
              · exact Nat.le_of_lt this.2.2.1
              · exact Nat.le_of_lt this.2.1)) (fun q => by
                rw [adF_dr]
                by_cases c : q = k + 1
                · rw [if_pos c, c]; exact HD.out.1
                · rw [if_neg c]) (fun q hq => by
                unfold adF
                split
                · exact ⟨by simp [Fo.more, hq], by simp [Fo.more, hq], by simp [Fo.more, hq]⟩
                · exact ⟨rfl, rfl, rfl⟩)
            have HT11 : Hid (BT19 w w11 x mf ml mc cp r al (adF (F) (k + 1) (al : Int) ss)) := by
              have l1 := HT9.out.lr
              have l2 := HT9.out.bi.lt
              have l3 := HT9.out.bl.size
              refine ⟨hBI.turn hT11 ⟨by omega, by omega, by omega, by omega⟩, hBM, ?_, l1, HT9.out.nm.ad _ _ _⟩
              have h1 := hT10.below (B := w.heap.size) l3 (fun b hb => by
                rcases hb with rfl | rfl
                · exact l2.2.2.1
                · exact l2.2.1)
              have h2 := hT11.below (B := w.heap.size) (Nat.le_trans l3 hT10.size) (fun b hb => by omega)
              exact HT9.out.bl.trans (h1.trans h2)
            rw [show ((k + 1 : Nat) : Int) = 1 + (k : Int) by omega] at hup
            clear HAD hBI hT10 hBM hT11 HT9 HL9 HER q49
            go_wp2_with fail
            go_roundw
            case rel => exact ⟨i + 1, al, _, HIN.out.1, by have := HIN.out.2; omega, by have := HAL.out; omega, rfl, by first | rfl | go_num | simp, HT11.out⟩
            case measure => have := HIN.out.1; simp [intOf]; omega
        · have HM := HT1.out.bi.makeAny HA30.out 2 (.inr rfl)
          rw [← hal, if_pos rfl] at HM
          have HAN : Hid (al = all + 1) := hal
          clear hal HT
          go_wp2_with fail
          refine HM.mono ?_
          rintro e w7 ⟨rfl, hBI, hT7⟩
          have HWR : Hid (r < wr.heap.size) := HT1r.out
          have HTX : Hid (∀ b, (b = x ∨ b = mf) → b < r) := fun b hb => by
            have l1 := HT1.out.lr
            rcases hb with rfl | rfl
            · exact l1.1
            · exact l1.2.1
          have HTB : Hid (∀ b, (b = x ∨ b = mf) → w.heap.size ≤ b) := fun b hb => by
            have l1 := HT1.out.bi.lt
            rcases hb with rfl | rfl
            · exact l1.1
            · exact l1.2.1
          have bA := hT7.blk bA0 (fun hb => by
            have l1 := HT1.out.lr
            have := HWR.out
            rcases hb with hb | hb <;> omega)
          have hBM7 := HT1.out.bm.turn hT7 HTX.out
          have hBM8 := hBM7.below (below_new1 w7 (.cells #[] 82))
          obtain ⟨w8, hup, hBM, hT8⟩ := hBM8.dirNew al w7.heap.size hBM7.lt 0
          have HT : Hid (BT19 w w8 x mf ml mc cp r al (F.dir al)) := by
            have l1 := HT1.out.lr
            have l2 := HT1.out.bi.lt
            have h7 := hT7.below (B := w.heap.size) HT1.out.bl.size HTB.out
            have hal0 : al ≠ 0 := by have := HAN.out; omega
            refine ⟨((hBI.below (below_new1 _ _)).turn hT8 ⟨by omega, by omega, by omega, by omega⟩).dirNew hal0, hBM, ?_, l1, HT1.out.nm.dir _⟩
            have h8 := (HT1.out.bl.trans h7).alloc (HT1.out.bl.trans h7).size (.cells #[] 82)
            exact h8.trans (hT8.below (B := w.heap.size) h8.size fun b hb => by omega)
          have bA8 : Blk w8 wr.heap.size 56 #[.bool true, .bool false, .int .i64 inn, .int .i64 ii, .string ss] := (hT8.block _ (by have := bA.lt; simp; omega) (by have := hBM7.lt; have := HWR.out; omega)).trans (bA.alloc _)
          have q0' := (bA.cell 0).trans rfl
          clear hBI hT7 HM HT1 bA0 q1' HTX HTB hBM7 hBM8 hBM hT8 bA
          have bA := bA8
          clear bA8
          have a1 : (1 : Int) ≤ (al : Int) := by have := HT.out.al1; omega
          have a2 : (al : Int) ≤ 31 := by have := HT.out.al1; omega
          have z0 : ¬ ((al : Int) = 0) := by omega
          obtain ⟨k, hk, hkk⟩ := in19 inn al HT.out.al1
          obtain ⟨m1, m2⟩ := tm19 inn al HT.out.al1
          obtain ⟨m, hm⟩ : ∃ m, inn.tmod (al : Int) = m := ⟨_, rfl⟩
          rw [hm] at hkk m1 m2
          have k0 : (0 : Int) ≤ (k : Int) := by omega
          have k1 : (k : Int) < 31 := by omega
          obtain ⟨t, ht, hlk⟩ := HT.out.bm.look (k + 1)
          rw [show ((k + 1 : Nat) : Int) = 1 + (k : Int) by omega] at hlk
          have q0x := (bA.cell 0).trans rfl
          have q2 := (bA.cell 2).trans rfl
          have q3 := (bA.cell 3).trans rfl
          have q4 := (bA.cell 4).trans rfl
          cases hd : (F.dir al).dr (k + 1) with
          | false =>
            rw [hd] at hlk
            clear ht hd hk bA
            go_wp2_with fail
            go_roundw
            case rel => exact ⟨i + 1, al, _, HIN.out.1, by have := HIN.out.2; omega, by have := HAL.out; omega, rfl, by first | rfl | go_num | simp, HT.out⟩
            case measure => have := HIN.out.1; simp [intOf]; omega
          | true =>
            rw [hd] at hlk
            obtain ⟨ta, tn, tc⟩ := t
            have HL : Hid (LkIs (w8) r (F.dir al) (k + 1) (ta, tn, tc)) := ht hd
            have HD : Hid ((F.dir al).dr (k + 1) = true ∧ (F.dir al).K (k + 1) ≤ 16384) := ⟨hd, HT.out.bi.kle hd⟩
            clear ht hd hk
            have HRG : Hid (1 ≤ (al : Int) ∧ (al : Int) ≤ (al : Int)) := by have := HT.out.al1; show (1 : Int) ≤ (al : Int) ∧ (al : Int) ≤ (al : Int); omega
            have r1 : ¬ (al : Int) < 1 := by have := HRG.out; omega
            have r2 : ¬ (al : Int) < (al : Int) := by have := HRG.out; omega
            have HRA : Hid (Calls Tryz.prog 23 #[.slice ta tn tc, .agg #[.int .i64 (al : Int), .string ss]] (w8) fun e w' => ∃ t2 : Option Addr × Nat × Nat, e = .returned (.tuple #[.slice t2.1 t2.2.1 t2.2.2, .int .i64 (adE (F.dir al) (k + 1) (al : Int) ss)]) ∧ LkIs w' r (adF (F.dir al) (k + 1) (al : Int) ss) (k + 1) t2 ∧ Below (w8).heap.size (w8) w') := HL.out.radd (t := (ta, tn, tc)) HT.out.bm.lt HD.out.2 (al : Int) ss
            have HBA : Hid (Blk (w8) wr.heap.size 56 #[.bool true, .bool false, .int .i64 inn, .int .i64 ii, .string ss]) := bA
            obtain ⟨er, her⟩ : ∃ er, adE (F.dir al) (k + 1) (al : Int) ss = er := ⟨_, rfl⟩
            have HER : Hid (adE (F.dir al) (k + 1) (al : Int) ss = er) := her
            rw [her] at HRA
            clear her HL bA
            go_wp2_with fail
            refine HRA.out.mono ?_
            rintro e w9 ⟨⟨t2a, t2n, t2c⟩, rfl, hL9, hb9⟩
            have HT9 : Hid (BT19 w w9 x mf ml mc cp r al (F.dir al)) := HT.out.below hb9
            have HL9 : Hid (LkIs w9 r (adF (F.dir al) (k + 1) (al : Int) ss) (k + 1) (t2a, t2n, t2c)) := hL9
            have bA9 := HBA.out.below hb9 HBA.out.lt
            have q49 := (bA9.cell 4).trans rfl
            have HAD := HT9.out.bi.add (k + 1) HD.out.1 (al : Int) ss HRG.out
            rw [show ((k + 1 : Nat) : Int) = 1 + (k : Int) by omega, HER.out] at HAD
            clear HRA hL9 hb9 q2 q3 q4 HT bA9
            go_wp2_with fail
            refine HAD.mono ?_
            rintro e w10 ⟨rfl, hBI, hT10⟩
            obtain ⟨w11, hup, hBM, hT11⟩ := (HT9.out.bm.turn hT10 (fun b hb => by
              have := HT9.out.lr
              rcases hb with rfl | rfl
              · exact this.2.2.1
              · exact this.2.1)).put (F2 := adF (F.dir al) (k + 1) (al : Int) ss) (k + 1) (t2a, t2n, t2c) (HL9.out.turn hT10 (fun b hb => by
              have := HT9.out.lr
              rcases hb with rfl | rfl
              · exact Nat.le_of_lt this.2.2.1
              · exact Nat.le_of_lt this.2.1)) (fun q => by
                rw [adF_dr]
                by_cases c : q = k + 1
                · rw [if_pos c, c]; exact HD.out.1
                · rw [if_neg c]) (fun q hq => by
                unfold adF
                split
                · exact ⟨by simp [Fo.more, hq], by simp [Fo.more, hq], by simp [Fo.more, hq]⟩
                · exact ⟨rfl, rfl, rfl⟩)
            have HT11 : Hid (BT19 w w11 x mf ml mc cp r al (adF (F.dir al) (k + 1) (al : Int) ss)) := by
              have l1 := HT9.out.lr
              have l2 := HT9.out.bi.lt
              have l3 := HT9.out.bl.size
              refine ⟨hBI.turn hT11 ⟨by omega, by omega, by omega, by omega⟩, hBM, ?_, l1, HT9.out.nm.ad _ _ _⟩
              have h1 := hT10.below (B := w.heap.size) l3 (fun b hb => by
                rcases hb with rfl | rfl
                · exact l2.2.2.1
                · exact l2.2.1)
              have h2 := hT11.below (B := w.heap.size) (Nat.le_trans l3 hT10.size) (fun b hb => by omega)
              exact HT9.out.bl.trans (h1.trans h2)
            rw [show ((k + 1 : Nat) : Int) = 1 + (k : Int) by omega] at hup
            clear HAD hBI hT10 hBM hT11 HT9 HL9 HER q49
            go_wp2_with fail
            go_roundw
            case rel => exact ⟨i + 1, al, _, HIN.out.1, by have := HIN.out.2; omega, by have := HAL.out; omega, rfl, by first | rfl | go_num | simp, HT11.out⟩
            case measure => have := HIN.out.1; simp [intOf]; omega
      · obtain ⟨al, hal⟩ : ∃ al, al = all := ⟨_, rfl⟩
        subst hal
        have HAL : Hid (al ≤ i + 2) := by have := HI.out; show al ≤ i + 2; omega
        clear HT
        have HT : Hid (BT19 w (wr.alloc (.cells #[.bool dr, .bool true, .int .i64 inn, .int .i64 ii, .string ss] 56)) x mf ml mc cp r al F) := HT1.out
        have bA := bA0
        have q1' := (bA0.cell 1).trans rfl
        clear HT1 bA0
        have a1 : (1 : Int) ≤ (al : Int) := by have := HT.out.al1; omega
        have a2 : (al : Int) ≤ 31 := by have := HT.out.al1; omega
        have z0 : ¬ ((al : Int) = 0) := by omega
        obtain ⟨k, hk, hkk⟩ := in19 inn al HT.out.al1
        obtain ⟨m1, m2⟩ := tm19 inn al HT.out.al1
        obtain ⟨m, hm⟩ : ∃ m, inn.tmod (al : Int) = m := ⟨_, rfl⟩
        rw [hm] at hkk m1 m2
        have k0 : (0 : Int) ≤ (k : Int) := by omega
        have k1 : (k : Int) < 31 := by omega
        obtain ⟨t, ht, hlk⟩ := HT.out.bm.look (k + 1)
        rw [show ((k + 1 : Nat) : Int) = 1 + (k : Int) by omega] at hlk
        have q0x := (bA.cell 0).trans rfl
        have q2 := (bA.cell 2).trans rfl
        have q3 := (bA.cell 3).trans rfl
        have q4 := (bA.cell 4).trans rfl
        cases hd : (F).dr (k + 1) with
        | false =>
          rw [hd] at hlk
          clear ht hd hk bA
          go_wp2_with fail
          go_roundw
          case rel => exact ⟨i + 1, al, _, HIN.out.1, by have := HIN.out.2; omega, by have := HAL.out; omega, rfl, by first | rfl | go_num | simp, HT.out⟩
          case measure => have := HIN.out.1; simp [intOf]; omega
        | true =>
          rw [hd] at hlk
          obtain ⟨ta, tn, tc⟩ := t
          have HL : Hid (LkIs (wr.alloc (.cells #[.bool dr, .bool true, .int .i64 inn, .int .i64 ii, .string ss] 56)) r (F) (k + 1) (ta, tn, tc)) := ht hd
          have HD : Hid ((F).dr (k + 1) = true ∧ (F).K (k + 1) ≤ 16384) := ⟨hd, HT.out.bi.kle hd⟩
          clear ht hd hk
          by_cases hto : 1 ≤ ii ∧ ii ≤ (al : Int)
          · have HRG : Hid (1 ≤ ii ∧ ii ≤ (al : Int)) := hto
            have r1 : ¬ ii < 1 := by omega
            have r2 : ¬ (al : Int) < ii := by omega
            clear hto
            have HRA : Hid (Calls Tryz.prog 23 #[.slice ta tn tc, .agg #[.int .i64 ii, .string ss]] (wr.alloc (.cells #[.bool dr, .bool true, .int .i64 inn, .int .i64 ii, .string ss] 56)) fun e w' => ∃ t2 : Option Addr × Nat × Nat, e = .returned (.tuple #[.slice t2.1 t2.2.1 t2.2.2, .int .i64 (adE (F) (k + 1) ii ss)]) ∧ LkIs w' r (adF (F) (k + 1) ii ss) (k + 1) t2 ∧ Below (wr.alloc (.cells #[.bool dr, .bool true, .int .i64 inn, .int .i64 ii, .string ss] 56)).heap.size (wr.alloc (.cells #[.bool dr, .bool true, .int .i64 inn, .int .i64 ii, .string ss] 56)) w') := HL.out.radd (t := (ta, tn, tc)) HT.out.bm.lt HD.out.2 ii ss
            have HBA : Hid (Blk (wr.alloc (.cells #[.bool dr, .bool true, .int .i64 inn, .int .i64 ii, .string ss] 56)) wr.heap.size 56 #[.bool dr, .bool true, .int .i64 inn, .int .i64 ii, .string ss]) := bA
            obtain ⟨er, her⟩ : ∃ er, adE (F) (k + 1) ii ss = er := ⟨_, rfl⟩
            have HER : Hid (adE (F) (k + 1) ii ss = er) := her
            rw [her] at HRA
            clear her HL bA
            go_wp2_with fail
            refine HRA.out.mono ?_
            rintro e w9 ⟨⟨t2a, t2n, t2c⟩, rfl, hL9, hb9⟩
            have HT9 : Hid (BT19 w w9 x mf ml mc cp r al (F)) := HT.out.below hb9
            have HL9 : Hid (LkIs w9 r (adF (F) (k + 1) ii ss) (k + 1) (t2a, t2n, t2c)) := hL9
            have bA9 := HBA.out.below hb9 HBA.out.lt
            have q49 := (bA9.cell 4).trans rfl
            have HAD := HT9.out.bi.add (k + 1) HD.out.1 ii ss HRG.out
            rw [show ((k + 1 : Nat) : Int) = 1 + (k : Int) by omega, HER.out] at HAD
            clear HRA hL9 hb9 q2 q3 q4 HT bA9
            go_wp2_with fail
            refine HAD.mono ?_
            rintro e w10 ⟨rfl, hBI, hT10⟩
            obtain ⟨w11, hup, hBM, hT11⟩ := (HT9.out.bm.turn hT10 (fun b hb => by
              have := HT9.out.lr
              rcases hb with rfl | rfl
              · exact this.2.2.1
              · exact this.2.1)).put (F2 := adF (F) (k + 1) ii ss) (k + 1) (t2a, t2n, t2c) (HL9.out.turn hT10 (fun b hb => by
              have := HT9.out.lr
              rcases hb with rfl | rfl
              · exact Nat.le_of_lt this.2.2.1
              · exact Nat.le_of_lt this.2.1)) (fun q => by
                rw [adF_dr]
                by_cases c : q = k + 1
                · rw [if_pos c, c]; exact HD.out.1
                · rw [if_neg c]) (fun q hq => by
                unfold adF
                split
                · exact ⟨by simp [Fo.more, hq], by simp [Fo.more, hq], by simp [Fo.more, hq]⟩
                · exact ⟨rfl, rfl, rfl⟩)
            have HT11 : Hid (BT19 w w11 x mf ml mc cp r al (adF (F) (k + 1) ii ss)) := by
              have l1 := HT9.out.lr
              have l2 := HT9.out.bi.lt
              have l3 := HT9.out.bl.size
              refine ⟨hBI.turn hT11 ⟨by omega, by omega, by omega, by omega⟩, hBM, ?_, l1, HT9.out.nm.ad _ _ _⟩
              have h1 := hT10.below (B := w.heap.size) l3 (fun b hb => by
                rcases hb with rfl | rfl
                · exact l2.2.2.1
                · exact l2.2.1)
              have h2 := hT11.below (B := w.heap.size) (Nat.le_trans l3 hT10.size) (fun b hb => by omega)
              exact HT9.out.bl.trans (h1.trans h2)
            rw [show ((k + 1 : Nat) : Int) = 1 + (k : Int) by omega] at hup
            clear HAD hBI hT10 hBM hT11 HT9 HL9 HER q49
            go_wp2_with fail
            go_roundw
            case rel => exact ⟨i + 1, al, _, HIN.out.1, by have := HIN.out.2; omega, by have := HAL.out; omega, rfl, by first | rfl | go_num | simp, HT11.out⟩
            case measure => have := HIN.out.1; simp [intOf]; omega
          · by_cases hto1 : ii < 1
            · clear HL HD bA hto
              go_wp2_with fail
              go_roundw
              case rel => exact ⟨i + 1, al, _, HIN.out.1, by have := HIN.out.2; omega, by have := HAL.out; omega, rfl, by first | rfl | go_num | simp, HT.out⟩
              case measure => have := HIN.out.1; simp [intOf]; omega
            · have r2 : (al : Int) < ii := by omega
              clear HL HD bA hto
              go_wp2_with fail
              go_roundw
              case rel => exact ⟨i + 1, al, _, HIN.out.1, by have := HIN.out.2; omega, by have := HAL.out; omega, rfl, by first | rfl | go_num | simp, HT.out⟩
              case measure => have := HIN.out.1; simp [intOf]; omega
    · have hn3 : ¬ ((i : Int) < (n : Int)) ∨ ((i : Int) < (n : Int) ∧ ¬ ((i : Int) < 30)) := by omega
      have HE : Hid (BT19 w wr x mf ml mc cp r all F) := HT.out
      rcases hn3 with i1 | ⟨i1, i2⟩
      all_goals
        clear hin HT HI hi hi30
        go_wp2_with fail
        go_ret3
        first
          | exact ⟨x, mf, ml, mc, cp, r, all, F, rfl, HE.out⟩
          | exact ⟨x, mf, ml, mc, cp, r, rfl, all, F, HE.out⟩
end Go.Proofs.YtimjggkdpmgpjaaGreatDoor

namespace Go.Proofs.YtimjggkdpmgpjaaGreatDoor
open Go Go.RowKit
set_option linter.unusedSimpArgs false
set_option linter.unusedVariables false
/-- two lists, one beside the other, and the boxes that hold them (o1, o2: what stands in the boxes) -/
structure CS (B : Nat) (w0 : World) (bx bz : Nat) (o1 o2 v1 v2 : Value) (L1 L2 : List Value) (U : World) : Prop where
  b1 : Blk U bx 110 #[o1]
  b2 : Blk U bz 110 #[o2]
  r1 : U.ownsRow B 3 1 v1 L1.length L1
  r2 : U.ownsRow B 3 1 v2 L2.length L2
  ap : ∀ b, v1.ownBlock = some b → v2.ownBlock ≠ some b
  bl : Below B w0 U
  bs : B ≤ U.heap.size
  bb : B ≤ bx ∧ B ≤ bz ∧ bx ≠ bz
/-- an element in a block of its own -/
structure EL (U : World) (g : Nat) (a v1 v2 : Value) : Prop where
  blk : Blk U g 3 #[a]
  n1 : v1.ownBlock ≠ some g
  n2 : v2.ownBlock ≠ some g
section
variable {B : Nat} {w0 : World} {bx bz : Nat} {o1 o2 v1 v2 : Value} {L1 L2 : List Value} {U U' : World}
theorem CS.alloc (h : CS B w0 bx bz o1 o2 v1 v2 L1 L2 U) (o : Obj) : CS B w0 bx bz o1 o2 v1 v2 L1 L2 (U.alloc o) :=
  ⟨h.b1.alloc _, h.b2.alloc _, h.r1.alloc _, h.r2.alloc _, h.ap, h.bl.alloc h.bs _, by have := h.bs; simp; omega, h.bb⟩
theorem CS.below (h : CS B w0 bx bz o1 o2 v1 v2 L1 L2 U) (hb : Below U.heap.size U U') : CS B w0 bx bz o1 o2 v1 v2 L1 L2 U' :=
  ⟨h.b1.below hb h.b1.lt, h.b2.below hb h.b2.lt, kown_below h.r1 hb, kown_below h.r2 hb, h.ap, h.bl.trans (hb.mono h.bs), Nat.le_trans h.bs hb.size, h.bb⟩
theorem CS.elem (h : CS B w0 bx bz o1 o2 v1 v2 L1 L2 U) (a : Value) : EL (U.alloc (.cells #[a] 3)) U.heap.size a v1 v2 :=
  ⟨Blk.new _ _ _, fun q => by have := (h.r1.lt _ q).2; omega, fun q => by have := (h.r2.lt _ q).2; omega⟩
theorem EL.alloc {g : Nat} {a : Value} (h : EL U g a v1 v2) (o : Obj) : EL (U.alloc o) g a v1 v2 := ⟨h.blk.alloc _, h.n1, h.n2⟩
theorem EL.cells {g : Nat} {a : Value} (h : EL U g a v1 v2) : ∀ j u, [a][j]? = some u → U.cell? ((⟨g, 0, none⟩ : Addr).add j) = some u := fun j u hj => by
  have hl := (List.getElem?_eq_some_iff.1 hj).1
  have e0 : j = 0 := by simpa using hl
  subst e0
  have e : a = u := by simpa using hj
  subst e
  exact (h.blk.cell 0).trans rfl
theorem CS.store1 (h : CS B w0 bx bz o1 o2 v1 v2 L1 L2 U) : CS B w0 bx bz v1 o2 v1 v2 L1 L2 (U.setCell ⟨bx, 0, none⟩ v1) :=
  ⟨by have := h.b1.put 0 v1; exact this, h.b2.put_other _ _ (Ne.symm h.bb.2.2), kown_kept h.r1 fun k _ hk => Below.heap_setCell _ _ _ _ fun q => own_ne h.r1 h.b1 (by decide) (hk.trans (by rw [q])), kown_kept h.r2 fun k _ hk => Below.heap_setCell _ _ _ _ fun q => own_ne h.r2 h.b1 (by decide) (hk.trans (by rw [q])), h.ap, h.bl.setCell (p := ⟨bx, 0, none⟩) h.bb.1 _, by simpa using h.bs, h.bb⟩
theorem CS.store (h : CS B w0 bx bz o1 o2 v1 v2 L1 L2 U) : CS B w0 bx bz v1 v2 v1 v2 L1 L2 ((U.setCell ⟨bx, 0, none⟩ v1).setCell ⟨bz, 0, none⟩ v2) := by
  have h1 := h.store1
  exact ⟨h1.b1.put_other _ _ h.bb.2.2, by have := h1.b2.put 0 v2; exact this, kown_kept h1.r1 fun k _ hk => Below.heap_setCell _ _ _ _ fun q => own_ne h1.r1 h1.b2 (by decide) (hk.trans (by rw [q])), kown_kept h1.r2 fun k _ hk => Below.heap_setCell _ _ _ _ fun q => own_ne h1.r2 h1.b2 (by decide) (hk.trans (by rw [q])), h.ap, h1.bl.setCell (p := ⟨bz, 0, none⟩) h.bb.2.1 _, by simpa using h1.bs, h.bb⟩
end
end Go.Proofs.YtimjggkdpmgpjaaGreatDoor

namespace Go.Proofs.YtimjggkdpmgpjaaGreatDoor
open Go Go.RowKit
set_option linter.unusedSimpArgs false
set_option linter.unusedVariables false
/-- a slice of texts -/
def IsNm (w : World) (a : Option Addr) (n : Nat) (nm : Nat → ByteArray) : Prop := ∀ j, j < n → ∃ b o, a = some ⟨b, o, none⟩ ∧ b < w.heap.size ∧ w.cell? ⟨b, o + j, none⟩ = some (.string (nm j))
theorem IsNm.below {w w' : World} {a : Option Addr} {n : Nat} {nm : Nat → ByteArray} (h : IsNm w a n nm) (hb : Below w.heap.size w w') : IsNm w' a n nm := fun j hj => by
  obtain ⟨b, o, h1, h2, h3⟩ := h j hj
  exact ⟨b, o, h1, Nat.lt_of_lt_of_le h2 hb.size, (hb.cell (p := ⟨b, o + j, none⟩) h2).trans h3⟩
section
variable {w w' : World} {B0 x mf ml mc all : Nat} {cp : Option Addr} {F : Fo}
end
section
variable {w w' : World} {B0 x mf ml mc all : Nat} {cp : Option Addr} {F : Fo}
end
end Go.Proofs.YtimjggkdpmgpjaaGreatDoor

namespace Go.Proofs.YtimjggkdpmgpjaaGreatDoor
open Go Go.RowKit
set_option linter.unusedSimpArgs false
set_option linter.unusedVariables false
theorem st_nil (P : Program) (w : World) (a : Addr) (m : Mode) : (store a .nilFunc m).run P w = stored P w a .nilFunc m := run_store P w a _ m rfl
theorem st_fun (P : Program) (w : World) (a : Addr) (m : Mode) (f : Fn) (b c : Array Value) : (store a (.func f b c) m).run P w = stored P w a (.func f b c) m := run_store P w a _ m rfl
attribute [local go_sem] st_nil st_fun
theorem pt_zero (w : World) : (zeroValue 88).run Tryz.prog w = .ok (.agg #[.slice none 0 0, .bool false]) w := di_zero (by kernel_rfl) w
theorem n5_zero (w : World) : (zeroValue 40).run Tryz.prog w = .ok (.agg #[.int .i64 0, .int .i64 0, .int .i64 0, .int .i64 0, .int .u64 0]) w := di_zero (by kernel_rfl) w
set_option maxRecDepth 100000 in
set_option maxHeartbeats 4000000 in
theorem brlookup_nil (s : ByteArray) (w : World) : Calls Tryz.prog 12 #[.pointer none, .string s] w fun e w' => e = .returned (.tuple #[.agg #[.int .i64 0, .int .i64 0, .int .i64 0, .int .i64 0, .int .u64 0], .int .i64 1]) ∧ Below w.heap.size w w' := by
  have hz := zero_nf
  have b1 : Blk (w.alloc (.cells nf0 40)) w.heap.size 40 nf0 := Blk.new _ _ _
  have r1 := b1.set nf0
  have HB : Hid (Below w.heap.size w ((w.alloc (.cells nf0 40)).setRow w.heap.size nf0)) := below_setRow (below_new1 _ _) (Nat.le_refl _) _
  have hbt := built_nf0
  go_enter Tryz.func12, Tryz.ntmps12
  go_wp2_with (first
    | (refine wpList_buildTo (by rfl) 40 #[] (by rfl) _ rfl nf0 (by exact hbt) ?_; simp only [Act.put, List.setIfInBounds_toArray, List.set_cons_zero, List.set_cons_succ])
    | (refine wpList_store_row (by rfl) 40 _ _ (by rfl) (w.heap.size) nf0 (by rfl) (by rfl) 40 (nf0) (by exact b1) (size_nf.trans (by rfl)) (by rfl) (nf_all _ _ _ _ _) ?_; simp only [Act.put, List.setIfInBounds_toArray, List.set_cons_zero, List.set_cons_succ])
    | fail)
  try simp only [Exit.inBlock, Exit.then]
  refine bodyPost_ret (results_row2 Tryz.results12 _ _ w.heap.size 40 nf0 (0, 0) _ rfl r1 Tryz.underlying40 rfl (size_nf.trans (by rfl))) rfl ?_
  exact ⟨rfl, HB.out⟩
end Go.Proofs.YtimjggkdpmgpjaaGreatDoor

namespace Go.Proofs.YtimjggkdpmgpjaaGreatDoor
open Go Go.RowKit
set_option linter.unusedVariables false
set_option linter.unusedSimpArgs false
/-- a text of these bytes -/
def bsL (l : List UInt8) : ByteArray := ⟨l.toArray⟩
theorem bsL_data (l : List UInt8) : (bsL l).data.toList = l := by simp [bsL]
theorem bsL_of (s : ByteArray) : bsL s.data.toList = s := by cases s; simp [bsL]
theorem bsL_size (l : List UInt8) : (bsL l).size = l.length := by rw [Lib.size_eq, bsL_data]
theorem ba_ext {a b : ByteArray} (h : a.data.toList = b.data.toList) : a = b := by rw [← bsL_of a, h, bsL_of]
/-- the bytes from a place up to the next slash -/
def segL (l : List UInt8) (i : Nat) : List UInt8 := (l.drop i).takeWhile (fun b => b != 47)
theorem segL_drop (l : List UInt8) (i j : Nat) : segL (l.drop i) j = segL l (i + j) := by
  unfold segL
  rw [List.drop_drop]
theorem segL_le (l : List UInt8) (i : Nat) : (segL l i).length ≤ l.length - i := by
  unfold segL
  have := (List.takeWhile_sublist (fun b : UInt8 => b != 47) (l := l.drop i)).length_le
  rw [List.length_drop] at this
  exact this
theorem segL_slash {l : List UInt8} {i : Nat} (h : l[i]? = some 47) : segL l i = [] := by
  unfold segL
  obtain ⟨hi, e⟩ := List.getElem?_eq_some_iff.1 h
  rw [List.drop_eq_getElem_cons hi, e]
  rfl
/-- behind a part there is a slash, or the end -/
theorem segL_behind : ∀ (l : List UInt8), l[(l.takeWhile (fun b => b != 47)).length]? = none ∨ l[(l.takeWhile (fun b => b != 47)).length]? = some 47
  | [] => by simp
  | b :: l => by
    rw [List.takeWhile_cons]
    by_cases hb : b = 47
    · simp [hb]
    · simpa [hb] using segL_behind l
theorem segL_next (l : List UInt8) (i : Nat) : l[i + (segL l i).length]? = none ∨ l[i + (segL l i).length]? = some 47 := by
  have := segL_behind (l.drop i)
  rw [List.getElem?_drop] at this
  exact this
/-- the parts from a place on, with their places -/
def ptF : Nat → List UInt8 → Nat → List (Nat × ByteArray)
  | 0, _, _ => []
  | n + 1, l, i => if i < l.length then (if segL l i = [] then ptF n l (i + 1) else (i, bsL (segL l i)) :: ptF n l (i + (segL l i).length + 1)) else []
theorem ptF_end (n : Nat) {l : List UInt8} {i : Nat} (h : l.length ≤ i) : ptF n l i = [] := by
  cases n with
  | zero => rfl
  | succ n => rw [ptF, if_neg (by omega)]
theorem ptF_more : ∀ (n m : Nat) (l : List UInt8) (i : Nat), l.length - i ≤ n → l.length - i ≤ m → ptF n l i = ptF m l i
  | 0, m, l, i, hn, hm => by rw [ptF_end m (by omega)]; rfl
  | n + 1, 0, l, i, hn, hm => by rw [ptF_end (n + 1) (by omega)]; rfl
  | n + 1, m + 1, l, i, hn, hm => by
    by_cases hi : i < l.length
    · rw [ptF, ptF, if_pos hi, if_pos hi]
      by_cases hs : segL l i = []
      · rw [if_pos hs, if_pos hs]
        exact ptF_more n m l (i + 1) (by omega) (by omega)
      · rw [if_neg hs, if_neg hs, ptF_more n m l _ (by omega) (by omega)]
    · rw [ptF, ptF, if_neg hi, if_neg hi]
def pts (l : List UInt8) (i : Nat) : List (Nat × ByteArray) := ptF l.length l i
theorem pts_end {l : List UInt8} {i : Nat} (h : l.length ≤ i) : pts l i = [] := ptF_end _ h
theorem pts_skip {l : List UInt8} {i : Nat} (hi : i < l.length) (hs : segL l i = []) : pts l i = pts l (i + 1) := by
  unfold pts
  rw [ptF_more l.length (l.length + 1) l i (by omega) (by omega), ptF, if_pos hi, if_pos hs]
theorem pts_part {l : List UInt8} {i : Nat} (hi : i < l.length) (hs : segL l i ≠ []) : pts l i = (i, bsL (segL l i)) :: pts l (i + (segL l i).length + 1) := by
  unfold pts
  rw [ptF_more l.length (l.length + 1) l i (by omega) (by omega), ptF, if_pos hi, if_neg hs]
theorem pts_slash {l : List UInt8} {i : Nat} (h : l[i]? = some 47) : pts l i = pts l (i + 1) :=
  pts_skip (List.getElem?_eq_some_iff.1 h).1 (segL_slash h)
theorem pts_behind (l : List UInt8) (i : Nat) : pts l (i + (segL l i).length) = pts l (i + (segL l i).length + 1) := by
  rcases segL_next l i with h | h
  · have := List.getElem?_eq_none_iff.1 h
    rw [pts_end this, pts_end (by omega)]
  · exact pts_slash h
/-- what is wrong with a part behind these names -/
def badE (N : List ByteArray) (p : ByteArray) : Int :=
  if p.data.toList = [46] then 0 else if p.data.toList = [46, 46] then 0 else if isName p.data.toList = true then (if 32 ≤ N.length then 182 else 0) else 130
/-- the names behind a part -/
def nxtN (N : List ByteArray) (p : ByteArray) : List ByteArray :=
  if p.data.toList = [46] then N else if p.data.toList = [46, 46] then N.dropLast else N ++ [p]
/-- does a part ask for a directory? -/
def dirP (p : ByteArray) : Bool := decide (p.data.toList = [46]) || decide (p.data.toList = [46, 46])
/-- all parts gone through: names, directory, place, error -/
def runP : List ByteArray → Bool → List (Nat × ByteArray) → List ByteArray × Bool × Nat × Int
  | N, d, [] => (N, d, 0, 0)
  | N, d, x :: xs => if badE N x.2 = 0 then runP (nxtN N x.2) (dirP x.2) xs else ([], false, x.1, badE N x.2)
theorem runP_good {N : List ByteArray} {d : Bool} {x : Nat × ByteArray} (h : badE N x.2 = 0) (xs : List (Nat × ByteArray)) : runP N d (x :: xs) = runP (nxtN N x.2) (dirP x.2) xs := by
  rw [runP, if_pos h]
theorem runP_bad {N : List ByteArray} {d : Bool} {x : Nat × ByteArray} (h : badE N x.2 ≠ 0) (xs : List (Nat × ByteArray)) : runP N d (x :: xs) = ([], false, x.1, badE N x.2) := by
  rw [runP, if_neg h]
/-- the last byte is a slash -/
def endS (l : List UInt8) : Bool := decide (l.getLast? = some 47)
/-- what Parse answers: names, directory, place, error -/
def prs (l : List UInt8) : List ByteArray × Bool × Nat × Int :=
  if 1024 < l.length then ([], false, 1024, 181) else if l[0]? = some 47 then
    (if (runP [] false (pts l 0)).2.2.2 = 0 then ((runP [] false (pts l 0)).1, (runP [] false (pts l 0)).2.1 || endS l, 0, 0) else ([], false, (runP [] false (pts l 0)).2.2.1, (runP [] false (pts l 0)).2.2.2))
  else ([], false, 0, 180)
end Go.Proofs.YtimjggkdpmgpjaaGreatDoor

namespace Go.Proofs
open Go.Shelf
def Tryz.prefixA_ren : Go.Shelf.Ren := ⟨fun | 99 => 55 | 206 => 91 | n => n, fun | 9 => 9 | 4 => 4 | 3 => 3 | n => n, fun | n => n⟩
theorem Tryz.prefixA : Go.Proofs.Lays.n99 Tryz.prog Tryz.prefixA_ren := {
  mixed := by kernel_rfl
  f99 := Tryz.func55.trans (congrArg some (by kernel_rfl))
  f206 := Tryz.func91.trans (congrArg some (by kernel_rfl))
  t3 := Tryz.underlying3
  a3 := Tryz.isAgg3
  z3 := Tryz.sizeOf3
  v3 := Tryz.zeroValue3
  t4 := Tryz.underlying4
  a4 := Tryz.isAgg4
  z4 := Tryz.sizeOf4
  v4 := Tryz.zeroValue4
  t9 := Tryz.underlying9
  a9 := Tryz.isAgg9
  z9 := Tryz.sizeOf9
  v9 := Tryz.zeroValue9 }
def Tryz.suffixA_ren : Go.Shelf.Ren := ⟨fun | 100 => 59 | 207 => 95 | n => n, fun | 9 => 9 | 4 => 4 | 3 => 3 | n => n, fun | n => n⟩
theorem Tryz.suffixA : Go.Proofs.Lays.n100 Tryz.prog Tryz.suffixA_ren := {
  mixed := by kernel_rfl
  f100 := Tryz.func59.trans (congrArg some (by kernel_rfl))
  f207 := Tryz.func95.trans (congrArg some (by kernel_rfl))
  t3 := Tryz.underlying3
  a3 := Tryz.isAgg3
  z3 := Tryz.sizeOf3
  v3 := Tryz.zeroValue3
  t4 := Tryz.underlying4
  a4 := Tryz.isAgg4
  z4 := Tryz.sizeOf4
  v4 := Tryz.zeroValue4
  t9 := Tryz.underlying9
  a9 := Tryz.isAgg9
  z9 := Tryz.sizeOf9
  v9 := Tryz.zeroValue9 }
def Tryz.indexA_ren : Go.Shelf.Ren := ⟨fun | 219 => 131 | 217 => 161 | 225 => 162 | 224 => 163 | 267 => 164 | 266 => 189 | 314 => 190 | n => n, fun | 9 => 9 | 3 => 3 | 4 => 4 | 5 => 5 | 46 => 278 | 146 => 307 | 51 => 70 | n => n, fun | 1 => 0 | n => n⟩
theorem Tryz.indexA : Go.Proofs.Lays.n219 Tryz.prog Tryz.indexA_ren := {
  mixed := by kernel_rfl
  f217 := Tryz.func161.trans (congrArg some (by kernel_rfl))
  f219 := Tryz.func131.trans (congrArg some (by kernel_rfl))
  f224 := Tryz.func163.trans (congrArg some (by kernel_rfl))
  f225 := Tryz.func162.trans (congrArg some (by kernel_rfl))
  f266 := Tryz.func189.trans (congrArg some (by kernel_rfl))
  f267 := Tryz.func164.trans (congrArg some (by kernel_rfl))
  f314 := Tryz.func190.trans (congrArg some (by kernel_rfl))
  t3 := Tryz.underlying3
  a3 := Tryz.isAgg3
  z3 := Tryz.sizeOf3
  v3 := Tryz.zeroValue3
  t4 := Tryz.underlying4
  a4 := Tryz.isAgg4
  z4 := Tryz.sizeOf4
  v4 := Tryz.zeroValue4
  t5 := Tryz.underlying5
  a5 := Tryz.isAgg5
  z5 := Tryz.sizeOf5
  v5 := Tryz.zeroValue5
  t9 := Tryz.underlying9
  a9 := Tryz.isAgg9
  z9 := Tryz.sizeOf9
  v9 := Tryz.zeroValue9
  t46 := Tryz.underlying278
  a46 := Tryz.isAgg278
  z46 := Tryz.sizeOf278
  v46 := Tryz.zeroValue278
  t51 := Tryz.underlying70
  a51 := Tryz.isAgg70
  z51 := Tryz.sizeOf70
  v51 := Tryz.zeroValue70
  t146 := Tryz.underlying307
  a146 := Tryz.isAgg307
  z146 := Tryz.sizeOf307
  v146 := Tryz.zeroValue307
  g1 := by kernel_rfl }
end Go.Proofs
