/- The walk of the statement DigestFeeds: it returns true, if the functions return what they do. -/
import Derived.Test.YtjjjgnaihnknjaaFeedsKit
import Derived.Test.YtjjjgnaihnknjaaSumsLaw
import Derived.Handy
namespace Go.Proofs.Ytjjjgnaihnknjaa
open Go.RowKit
set_option linter.unusedSimpArgs false
set_option linter.unusedVariables false

set_option maxRecDepth 100000 in
set_option maxHeartbeats 8000000 in
theorem feedsLaw0 (w : World) (ao : Option Addr) (lt ct : Nat) (hlt : lt ≤ 1) (aoA aoB : Option Addr) (n1 n2 c1 c2 : Nat) (xA xB sA sB : Nat → ByteArray) (cA tA cB tB : Nat → Nat) (yA yB : Nat → Nat → Nat)
    (HNA : Hid (∀ w : World, Calls Try.prog 19 #[.int .u8 (0 : Int)] w fun e w' => ∃ g, e = .returned (.pointer (some ⟨g, 0, none⟩)) ∧ w.heap.size ≤ g ∧ Holds w' g cA tA (sA 0).size ∧ Below w.heap.size w w'))
    (HWA : Hid (∀ (i g : Nat) (w : World), i < n1 → Holds w g cA tA (sA i).size → Calls Try.prog 18 #[.pointer (some ⟨g, 0, none⟩), .string (xA i)] w fun e w' => e = .returned (.tuple #[]) ∧ Holds w' g cA tA (sA (i + 1)).size ∧ Keeps g w w'))
    (HSA : Hid (∀ (i g : Nat) (w : World), Holds w g cA tA (sA i).size → Calls Try.prog 21 #[.pointer (some ⟨g, 0, none⟩)] w fun e w' => e = .returned (.agg (va 32 (iv .u8 (yA i)))) ∧ Below w.heap.size w w'))
    (HRA : Hid (∀ (i : Nat) (w : World), Calls Try.prog 15 #[.int .u8 (0 : Int), .string (sA i)] w fun e w' => e = .returned (.agg (va 32 (iv .u8 (yA i)))) ∧ Below w.heap.size w w'))
    (HOA : Hid (∀ (i : Nat) (w : World), Calls Try.prog 14 #[.int .u8 (0 : Int), .string (sA i)] w fun e w' => e = .returned (.agg (va 32 (iv .u8 (yA i)))) ∧ Below w.heap.size w w'))
    (HLA : Hid (∀ (i g : Nat) (w : World), Holds w g cA tA (sA i).size → Calls Try.prog 20 #[.pointer (some ⟨g, 0, none⟩)] w fun e w' => e = .returned (.int .i64 ((sA i).size : Int)) ∧ w' = w))
    (HEA : Hid (∀ i, i < n1 → ∃ b o, aoA = some ⟨b, o, none⟩ ∧ b < w.heap.size ∧ w.cell? ⟨b, o + i, none⟩ = some (.string (xA i))))
    (HTA : Hid (∀ i, i < n1 → sA (i + 1) = sA i ++ xA i)) (HPA : Hid (∀ i, n1 ≤ i → sA (i + 1) = sA i)) (HZA : Hid (∀ i, (sA i).size ≤ 1048576)) (H0A : sA 0 = { data := #[] }) (hnA : n1 ≤ 1048576)
    (HNB : Hid (∀ w : World, Calls Try.prog 19 #[.int .u8 (1 : Int)] w fun e w' => ∃ g, e = .returned (.pointer (some ⟨g, 0, none⟩)) ∧ w.heap.size ≤ g ∧ Holds w' g cB tB (sB 0).size ∧ Below w.heap.size w w'))
    (HWB : Hid (∀ (i g : Nat) (w : World), i < n2 → Holds w g cB tB (sB i).size → Calls Try.prog 18 #[.pointer (some ⟨g, 0, none⟩), .string (xB i)] w fun e w' => e = .returned (.tuple #[]) ∧ Holds w' g cB tB (sB (i + 1)).size ∧ Keeps g w w'))
    (HSB : Hid (∀ (i g : Nat) (w : World), Holds w g cB tB (sB i).size → Calls Try.prog 21 #[.pointer (some ⟨g, 0, none⟩)] w fun e w' => e = .returned (.agg (va 32 (iv .u8 (yB i)))) ∧ Below w.heap.size w w'))
    (HRB : Hid (∀ (i : Nat) (w : World), Calls Try.prog 15 #[.int .u8 (1 : Int), .string (sB i)] w fun e w' => e = .returned (.agg (va 32 (iv .u8 (yB i)))) ∧ Below w.heap.size w w'))
    (HOB : Hid (∀ (i : Nat) (w : World), Calls Try.prog 14 #[.int .u8 (1 : Int), .string (sB i)] w fun e w' => e = .returned (.agg (va 32 (iv .u8 (yB i)))) ∧ Below w.heap.size w w'))
    (HLB : Hid (∀ (i g : Nat) (w : World), Holds w g cB tB (sB i).size → Calls Try.prog 20 #[.pointer (some ⟨g, 0, none⟩)] w fun e w' => e = .returned (.int .i64 ((sB i).size : Int)) ∧ w' = w))
    (HEB : Hid (∀ i, i < n2 → ∃ b o, aoB = some ⟨b, o, none⟩ ∧ b < w.heap.size ∧ w.cell? ⟨b, o + i, none⟩ = some (.string (xB i))))
    (HTB : Hid (∀ i, i < n2 → sB (i + 1) = sB i ++ xB i)) (HPB : Hid (∀ i, n2 ≤ i → sB (i + 1) = sB i)) (HZB : Hid (∀ i, (sB i).size ≤ 1048576)) (H0B : sB 0 = { data := #[] }) (hnB : n2 ≤ 1048576)
    : Calls Try.prog 5 #[.slice ao lt ct, .slice aoA n1 c1, .slice aoB n2 c2] w fun e w' => e = .returned (.bool true) ∧ Below w.heap.size w w' := by
  have HW0 : Hid (∀ w : World, Calls Try.prog 18 #[.pointer none, .string { data := #[97] }] w fun e w' => e = .returned (.tuple #[]) ∧ w = w') := fun w => (write_nil _ w).mono fun _ _ h => ⟨h.1, h.2.symm⟩
  have HL0 : Hid (∀ w : World, Calls Try.prog 20 #[.pointer none] w fun e w' => e = .returned (.int .i64 0) ∧ w = w') := fun w => (len_nil w).mono fun _ _ h => ⟨h.1, h.2.symm⟩
  have HS0 : Hid (∀ w : World, Calls Try.prog 21 #[.pointer none] w fun e w' => e = .returned (.agg #[.int .u8 0, .int .u8 0, .int .u8 0, .int .u8 0, .int .u8 0, .int .u8 0, .int .u8 0, .int .u8 0, .int .u8 0, .int .u8 0, .int .u8 0, .int .u8 0, .int .u8 0, .int .u8 0, .int .u8 0, .int .u8 0, .int .u8 0, .int .u8 0, .int .u8 0, .int .u8 0, .int .u8 0, .int .u8 0, .int .u8 0, .int .u8 0, .int .u8 0, .int .u8 0, .int .u8 0, .int .u8 0, .int .u8 0, .int .u8 0, .int .u8 0, .int .u8 0]) ∧ Below w.heap.size w w') := fun w => sum_nil w
  have HAW : Hid (∀ w : World, Calls Try.prog 13 #[] w fun e w' => e = .returned (.bool true) ∧ Below w.heap.size w w') := fun w => awake3_any w
  have hq0 : ∀ W : World, Sem.run Try.prog (Op.equalIn 10000 39 (.agg #[.int .u8 0, .int .u8 0, .int .u8 0, .int .u8 0, .int .u8 0, .int .u8 0, .int .u8 0, .int .u8 0, .int .u8 0, .int .u8 0, .int .u8 0, .int .u8 0, .int .u8 0, .int .u8 0, .int .u8 0, .int .u8 0, .int .u8 0, .int .u8 0, .int .u8 0, .int .u8 0, .int .u8 0, .int .u8 0, .int .u8 0, .int .u8 0, .int .u8 0, .int .u8 0, .int .u8 0, .int .u8 0, .int .u8 0, .int .u8 0, .int .u8 0, .int .u8 0]) (.agg #[.int .u8 0, .int .u8 0, .int .u8 0, .int .u8 0, .int .u8 0, .int .u8 0, .int .u8 0, .int .u8 0, .int .u8 0, .int .u8 0, .int .u8 0, .int .u8 0, .int .u8 0, .int .u8 0, .int .u8 0, .int .u8 0, .int .u8 0, .int .u8 0, .int .u8 0, .int .u8 0, .int .u8 0, .int .u8 0, .int .u8 0, .int .u8 0, .int .u8 0, .int .u8 0, .int .u8 0, .int .u8 0, .int .u8 0, .int .u8 0, .int .u8 0, .int .u8 0])) W = .ok true W := eq_sum fun _ => 0
  have hl : ¬ (1 : Int) < (lt : Int) := by omega
  go_enter Try.func5, Try.ntmps5
  go_wp2_with fail
  refine (HW0.out _).mono ?_
  rintro e w1 ⟨rfl, hw1⟩
  subst hw1
  go_wp2_with fail
  refine (HNA.out _).mono ?_
  rintro e w2 ⟨ga, rfl, hga0, hHa, hb2⟩
  have hga : w.heap.size ≤ ga := hga0
  clear hga0
  go_wp2_with fail
  refine (HNB.out _).mono ?_
  rintro e w3 ⟨gb, rfl, hgb, hHb, hb3⟩
  have hHa3 := hHa.below hb3 hHa.lt
  have hgab : ga < gb := Nat.lt_of_lt_of_le hHa.lt hgb
  have hbel3 : Below w.heap.size w w3 := hb2.trans (hb3.mono (Nat.le_trans (Nat.le_refl _) hb2.size))
  clear hHa hb2 hb3 hgb HNA HNB
  as_aux_lemma =>
    go_wp2_with fail
    refine (HAW.out _).mono ?_
    rintro e w4 ⟨rfl, hb4⟩
    have hHa4 := hHa3.below hb4 hHa3.lt
    have hHb4 := hHb.below hb4 hHb.lt
    have hbel4 : Below w.heap.size w w4 := hbel3.trans (hb4.mono hbel3.size)
    clear hHa3 hHb hbel3 hb4
    go_wp2_with fail
    refine (HL0.out _).mono ?_
    rintro e w5 ⟨rfl, hw5⟩
    subst hw5
    go_wp2_with fail
    refine (HS0.out _).mono ?_
    rintro e w6 ⟨rfl, hb6⟩
    have hHa6 := hHa4.below hb6 hHa4.lt
    have hHb6 := hHb4.below hb6 hHb4.lt
    have hbel6 : Below w.heap.size w w6 := hbel4.trans (hb6.mono hbel4.size)
    clear hHa4 hHb4 hbel4 hb6 HL0 HS0 HW0 HAW
    go_wp2_with fail
    clear hq0
    go_loopw [12, 13, 14] (fun s t v wr => ∃ i : Nat, i ≤ n1 + n2 ∧ s = .string (sA i) ∧ t = .string (sB i) ∧ v = .int .i64 (i : Int) ∧ Holds wr ga cA tA (sA i).size ∧ Holds wr gb cB tB (sB i).size ∧ Below w.heap.size w wr) (fun _ _ v _ => n1 + n2 + 1 - (intOf v).toNat)
    case atStart =>
      refine ⟨0, Nat.zero_le _, ?_, ?_, rfl, hHa6, hHb6, hbel6⟩
      · rw [H0A]
      · rw [H0B]
    case round =>
      clear hHa6 hHb6 hbel6
      obtain ⟨i, hi, rfl, rfl, rfl, hHa, hHb, hbel⟩ := hrel
      have hib : i ≤ 2097152 := by omega
      by_cases hiA : i < n1
      · by_cases hiB : i < n2
        · skip
          have i0 : (0 : Int) ≤ (i : Int) := by omega
          have tA1 : decide ((i : Int) < (n1 : Int)) = true := decide_eq_true (by omega)
          have tB1 : decide ((i : Int) < (n2 : Int)) = true := decide_eq_true (by omega)
          have iA : (i : Int) < (n1 : Int) := by omega
          have iB : (i : Int) < (n2 : Int) := by omega
          obtain ⟨bA, oA, rfl, hbA, hcellA⟩ := HEA.out i hiA
          have hcA : wr.cell? ⟨bA, oA + i, none⟩ = some (.string (xA i)) := by
            rw [← hcellA]
            simp [World.cell?, hbel.block bA hbA]
          have hcatA := HTA.out i hiA
          have hzA := HZA.out (i + 1)
          have hzA' : (sA i).size + (xA i).size ≤ 1048576 := by rw [hcatA, size_app] at hzA; exact hzA
          clear hzA
          go_wp2_with fail
          refine (HWA.out i ga _ hiA hHa).mono ?_
          rintro e wa ⟨rfl, hHa1, hka⟩
          have hHb1 := hHb.keep hka (by omega)
          have hbel1 : Below w.heap.size w wa := hbel.trans (hka.1.mono (by omega))
          have hca2 : wa.cell? ⟨bA, oA + i, none⟩ = some (.string (xA i)) := by
            rw [← hcellA]
            simp [World.cell?, hbel1.block bA hbA]
          clear hHa hHb hka hcA hbel
          have hbel := hbel1
          clear hbel1
          obtain ⟨bB, oB, rfl, hbB, hcellB⟩ := HEB.out i hiB
          have hcB : wa.cell? ⟨bB, oB + i, none⟩ = some (.string (xB i)) := by
            rw [← hcellB]
            simp [World.cell?, hbel.block bB hbB]
          have hcatB := HTB.out i hiB
          have hzB := HZB.out (i + 1)
          have hzB' : (sB i).size + (xB i).size ≤ 1048576 := by rw [hcatB, size_app] at hzB; exact hzB
          clear hzB
          go_wp2_with fail
          clear hca2
          refine (HWB.out i gb _ hiB hHb1).mono ?_
          rintro e wb ⟨rfl, hHb2, hkb⟩
          have hHa2 := hHa1.keep hkb (by omega)
          have hbel2 : Below w.heap.size w wb := hbel.trans (hkb.1.mono (by omega))
          have hcb2 : wb.cell? ⟨bB, oB + i, none⟩ = some (.string (xB i)) := by
            rw [← hcellB]
            simp [World.cell?, hbel2.block bB hbB]
          clear hHa1 hHb1 hkb hcB hbel
          have hbel := hbel2
          clear hbel2
          go_wp2_with fail
          clear hcb2
          refine (HSA.out (i + 1) ga _ hHa2).mono ?_
          rintro e wc ⟨rfl, hbc⟩
          have hHa3 := hHa2.below hbc hHa2.lt
          have hHb3 := hHb2.below hbc hHb2.lt
          have hbel3 : Below w.heap.size w wc := hbel.trans (hbc.mono hbel.size)
          clear hHa2 hHb2 hbc hbel
          go_wp2_with fail
          rw [← hcatA]
          refine (HRA.out (i + 1) _).mono ?_
          rintro e wd ⟨rfl, hbd⟩
          have hHa4 := hHa3.below hbd hHa3.lt
          have hHb4 := hHb3.below hbd hHb3.lt
          have hbel4 : Below w.heap.size w wd := hbel3.trans (hbd.mono hbel3.size)
          clear hHa3 hHb3 hbd hbel3
          have hq := eq_sum (yA (i + 1))
          go_wp2_with fail
          refine (HLB.out (i + 1) gb _ hHb4).mono ?_
          rintro e we ⟨rfl, rfl⟩
          have hsz : ((sB (i + 1)).size : Int) = ((sB i).size : Int) + ((xB i).size : Int) := by rw [hcatB, size_app]; omega
          have hsz2 : (sB i ++ xB i).size = (sB (i + 1)).size := by rw [hcatB]
          go_wp2_with fail
          refine ⟨⟨i + 1, by omega, by rw [hcatA], by rw [hcatB], by simp, hHa4, hHb4, hbel4⟩, ?_⟩
          simp [intOf]
          omega

        · skip
          have i0 : (0 : Int) ≤ (i : Int) := by omega
          have tA1 : decide ((i : Int) < (n1 : Int)) = true := decide_eq_true (by omega)
          have tB1 : decide ((i : Int) < (n2 : Int)) = false := decide_eq_false (by omega)
          have iA : (i : Int) < (n1 : Int) := by omega
          obtain ⟨bA, oA, rfl, hbA, hcellA⟩ := HEA.out i hiA
          have hcA : wr.cell? ⟨bA, oA + i, none⟩ = some (.string (xA i)) := by
            rw [← hcellA]
            simp [World.cell?, hbel.block bA hbA]
          have hcatA := HTA.out i hiA
          have hzA := HZA.out (i + 1)
          have hzA' : (sA i).size + (xA i).size ≤ 1048576 := by rw [hcatA, size_app] at hzA; exact hzA
          clear hzA
          go_wp2_with fail
          refine (HWA.out i ga _ hiA hHa).mono ?_
          rintro e wa ⟨rfl, hHa1, hka⟩
          have hHb1 := hHb.keep hka (by omega)
          have hbel1 : Below w.heap.size w wa := hbel.trans (hka.1.mono (by omega))
          have hca2 : wa.cell? ⟨bA, oA + i, none⟩ = some (.string (xA i)) := by
            rw [← hcellA]
            simp [World.cell?, hbel1.block bA hbA]
          clear hHa hHb hka hcA hbel
          have hbel := hbel1
          clear hbel1
          have hstopB := HPB.out i (by omega)
          have hHb2 : Holds wa gb cB tB (sB (i + 1)).size := by rw [hstopB]; exact hHb1
          have hHa2 := hHa1
          clear hHa1 hHb1
          go_wp2_with fail
          clear hca2
          refine (HSA.out (i + 1) ga _ hHa2).mono ?_
          rintro e wc ⟨rfl, hbc⟩
          have hHa3 := hHa2.below hbc hHa2.lt
          have hHb3 := hHb2.below hbc hHb2.lt
          have hbel3 : Below w.heap.size w wc := hbel.trans (hbc.mono hbel.size)
          clear hHa2 hHb2 hbc hbel
          go_wp2_with fail
          rw [← hcatA]
          refine (HRA.out (i + 1) _).mono ?_
          rintro e wd ⟨rfl, hbd⟩
          have hHa4 := hHa3.below hbd hHa3.lt
          have hHb4 := hHb3.below hbd hHb3.lt
          have hbel4 : Below w.heap.size w wd := hbel3.trans (hbd.mono hbel3.size)
          clear hHa3 hHb3 hbd hbel3
          have hq := eq_sum (yA (i + 1))
          go_wp2_with fail
          refine (HLB.out (i + 1) gb _ hHb4).mono ?_
          rintro e we ⟨rfl, rfl⟩
          have hsz2 : (sB i).size = (sB (i + 1)).size := by rw [hstopB]
          go_wp2_with fail
          refine ⟨⟨i + 1, by omega, by rw [hcatA], by rw [hstopB], by simp, hHa4, hHb4, hbel4⟩, ?_⟩
          simp [intOf]
          omega

      · by_cases hiB : i < n2
        · skip
          have i0 : (0 : Int) ≤ (i : Int) := by omega
          have tA1 : decide ((i : Int) < (n1 : Int)) = false := decide_eq_false (by omega)
          have tB1 : decide ((i : Int) < (n2 : Int)) = true := decide_eq_true (by omega)
          have iB : (i : Int) < (n2 : Int) := by omega
          have hstopA := HPA.out i (by omega)
          have hHa1 : Holds wr ga cA tA (sA (i + 1)).size := by rw [hstopA]; exact hHa
          have hHb1 := hHb
          clear hHa hHb
          obtain ⟨bB, oB, rfl, hbB, hcellB⟩ := HEB.out i hiB
          have hcB : wr.cell? ⟨bB, oB + i, none⟩ = some (.string (xB i)) := by
            rw [← hcellB]
            simp [World.cell?, hbel.block bB hbB]
          have hcatB := HTB.out i hiB
          have hzB := HZB.out (i + 1)
          have hzB' : (sB i).size + (xB i).size ≤ 1048576 := by rw [hcatB, size_app] at hzB; exact hzB
          clear hzB
          go_wp2_with fail
          refine (HWB.out i gb _ hiB hHb1).mono ?_
          rintro e wb ⟨rfl, hHb2, hkb⟩
          have hHa2 := hHa1.keep hkb (by omega)
          have hbel2 : Below w.heap.size w wb := hbel.trans (hkb.1.mono (by omega))
          have hcb2 : wb.cell? ⟨bB, oB + i, none⟩ = some (.string (xB i)) := by
            rw [← hcellB]
            simp [World.cell?, hbel2.block bB hbB]
          clear hHa1 hHb1 hkb hcB hbel
          have hbel := hbel2
          clear hbel2
          go_wp2_with fail
          clear hcb2
          refine (HSA.out (i + 1) ga _ hHa2).mono ?_
          rintro e wc ⟨rfl, hbc⟩
          have hHa3 := hHa2.below hbc hHa2.lt
          have hHb3 := hHb2.below hbc hHb2.lt
          have hbel3 : Below w.heap.size w wc := hbel.trans (hbc.mono hbel.size)
          clear hHa2 hHb2 hbc hbel
          go_wp2_with fail
          rw [← hstopA]
          refine (HRA.out (i + 1) _).mono ?_
          rintro e wd ⟨rfl, hbd⟩
          have hHa4 := hHa3.below hbd hHa3.lt
          have hHb4 := hHb3.below hbd hHb3.lt
          have hbel4 : Below w.heap.size w wd := hbel3.trans (hbd.mono hbel3.size)
          clear hHa3 hHb3 hbd hbel3
          have hq := eq_sum (yA (i + 1))
          go_wp2_with fail
          refine (HLB.out (i + 1) gb _ hHb4).mono ?_
          rintro e we ⟨rfl, rfl⟩
          have hsz : ((sB (i + 1)).size : Int) = ((sB i).size : Int) + ((xB i).size : Int) := by rw [hcatB, size_app]; omega
          have hsz2 : (sB i ++ xB i).size = (sB (i + 1)).size := by rw [hcatB]
          go_wp2_with fail
          refine ⟨⟨i + 1, by omega, by rw [hstopA], by rw [hcatB], by simp, hHa4, hHb4, hbel4⟩, ?_⟩
          simp [intOf]
          omega

        · skip
          have tA1 : decide ((i : Int) < (n1 : Int)) = false := decide_eq_false (by omega)
          have tB1 : decide ((i : Int) < (n2 : Int)) = false := decide_eq_false (by omega)
          have hqA := eq_sum (yA i)
          have hqB := eq_sum (yB i)
          go_wp2_with fail
          refine (HSA.out i ga _ hHa).mono ?_
          rintro e wc ⟨rfl, hbc⟩
          have hHa3 := hHa.below hbc hHa.lt
          have hHb3 := hHb.below hbc hHb.lt
          have hbel3 : Below w.heap.size w wc := hbel.trans (hbc.mono hbel.size)
          clear hHa hHb hbc hbel
          go_wp2_with fail
          refine (HOA.out i _).mono ?_
          rintro e wd ⟨rfl, hbd⟩
          have hHa4 := hHa3.below hbd hHa3.lt
          have hHb4 := hHb3.below hbd hHb3.lt
          have hbel4 : Below w.heap.size w wd := hbel3.trans (hbd.mono hbel3.size)
          clear hHa3 hHb3 hbd hbel3
          go_wp2_with fail
          refine (HSB.out i gb _ hHb4).mono ?_
          rintro e we ⟨rfl, hbe⟩
          have hHa5 := hHa4.below hbe hHa4.lt
          have hbel5 : Below w.heap.size w we := hbel4.trans (hbe.mono hbel4.size)
          clear hHa4 hHb4 hbe hbel4
          go_wp2_with fail
          refine (HRB.out i _).mono ?_
          rintro e wf ⟨rfl, hbf⟩
          have hHa6 := hHa5.below hbf hHa5.lt
          have hbel6 : Below w.heap.size w wf := hbel5.trans (hbf.mono hbel5.size)
          clear hHa5 hbf hbel5
          go_wp2_with fail
          refine (HLA.out i ga _ hHa6).mono ?_
          rintro e wg ⟨rfl, rfl⟩
          go_wp2_with fail
          go_ret
          exact ⟨rfl, hbel6⟩

set_option maxRecDepth 100000 in
set_option maxHeartbeats 8000000 in
theorem feedsLaw1 (w : World) (p q : Nat) (bt ot lt ct : Nat) (hlt : 2 ≤ lt) (ht0 : w.cell? ⟨bt, ot, none⟩ = some (.int .u8 (p : Int))) (ht1 : w.cell? ⟨bt, ot + 1, none⟩ = some (.int .u8 (q : Int))) (aoA aoB : Option Addr) (n1 n2 c1 c2 : Nat) (xA xB sA sB : Nat → ByteArray) (cA tA cB tB : Nat → Nat) (yA yB : Nat → Nat → Nat)
    (HNA : Hid (∀ w : World, Calls Try.prog 19 #[.int .u8 (p : Int)] w fun e w' => ∃ g, e = .returned (.pointer (some ⟨g, 0, none⟩)) ∧ w.heap.size ≤ g ∧ Holds w' g cA tA (sA 0).size ∧ Below w.heap.size w w'))
    (HWA : Hid (∀ (i g : Nat) (w : World), i < n1 → Holds w g cA tA (sA i).size → Calls Try.prog 18 #[.pointer (some ⟨g, 0, none⟩), .string (xA i)] w fun e w' => e = .returned (.tuple #[]) ∧ Holds w' g cA tA (sA (i + 1)).size ∧ Keeps g w w'))
    (HSA : Hid (∀ (i g : Nat) (w : World), Holds w g cA tA (sA i).size → Calls Try.prog 21 #[.pointer (some ⟨g, 0, none⟩)] w fun e w' => e = .returned (.agg (va 32 (iv .u8 (yA i)))) ∧ Below w.heap.size w w'))
    (HRA : Hid (∀ (i : Nat) (w : World), Calls Try.prog 15 #[.int .u8 (p : Int), .string (sA i)] w fun e w' => e = .returned (.agg (va 32 (iv .u8 (yA i)))) ∧ Below w.heap.size w w'))
    (HOA : Hid (∀ (i : Nat) (w : World), Calls Try.prog 14 #[.int .u8 (p : Int), .string (sA i)] w fun e w' => e = .returned (.agg (va 32 (iv .u8 (yA i)))) ∧ Below w.heap.size w w'))
    (HLA : Hid (∀ (i g : Nat) (w : World), Holds w g cA tA (sA i).size → Calls Try.prog 20 #[.pointer (some ⟨g, 0, none⟩)] w fun e w' => e = .returned (.int .i64 ((sA i).size : Int)) ∧ w' = w))
    (HEA : Hid (∀ i, i < n1 → ∃ b o, aoA = some ⟨b, o, none⟩ ∧ b < w.heap.size ∧ w.cell? ⟨b, o + i, none⟩ = some (.string (xA i))))
    (HTA : Hid (∀ i, i < n1 → sA (i + 1) = sA i ++ xA i)) (HPA : Hid (∀ i, n1 ≤ i → sA (i + 1) = sA i)) (HZA : Hid (∀ i, (sA i).size ≤ 1048576)) (H0A : sA 0 = { data := #[] }) (hnA : n1 ≤ 1048576)
    (HNB : Hid (∀ w : World, Calls Try.prog 19 #[.int .u8 (q : Int)] w fun e w' => ∃ g, e = .returned (.pointer (some ⟨g, 0, none⟩)) ∧ w.heap.size ≤ g ∧ Holds w' g cB tB (sB 0).size ∧ Below w.heap.size w w'))
    (HWB : Hid (∀ (i g : Nat) (w : World), i < n2 → Holds w g cB tB (sB i).size → Calls Try.prog 18 #[.pointer (some ⟨g, 0, none⟩), .string (xB i)] w fun e w' => e = .returned (.tuple #[]) ∧ Holds w' g cB tB (sB (i + 1)).size ∧ Keeps g w w'))
    (HSB : Hid (∀ (i g : Nat) (w : World), Holds w g cB tB (sB i).size → Calls Try.prog 21 #[.pointer (some ⟨g, 0, none⟩)] w fun e w' => e = .returned (.agg (va 32 (iv .u8 (yB i)))) ∧ Below w.heap.size w w'))
    (HRB : Hid (∀ (i : Nat) (w : World), Calls Try.prog 15 #[.int .u8 (q : Int), .string (sB i)] w fun e w' => e = .returned (.agg (va 32 (iv .u8 (yB i)))) ∧ Below w.heap.size w w'))
    (HOB : Hid (∀ (i : Nat) (w : World), Calls Try.prog 14 #[.int .u8 (q : Int), .string (sB i)] w fun e w' => e = .returned (.agg (va 32 (iv .u8 (yB i)))) ∧ Below w.heap.size w w'))
    (HLB : Hid (∀ (i g : Nat) (w : World), Holds w g cB tB (sB i).size → Calls Try.prog 20 #[.pointer (some ⟨g, 0, none⟩)] w fun e w' => e = .returned (.int .i64 ((sB i).size : Int)) ∧ w' = w))
    (HEB : Hid (∀ i, i < n2 → ∃ b o, aoB = some ⟨b, o, none⟩ ∧ b < w.heap.size ∧ w.cell? ⟨b, o + i, none⟩ = some (.string (xB i))))
    (HTB : Hid (∀ i, i < n2 → sB (i + 1) = sB i ++ xB i)) (HPB : Hid (∀ i, n2 ≤ i → sB (i + 1) = sB i)) (HZB : Hid (∀ i, (sB i).size ≤ 1048576)) (H0B : sB 0 = { data := #[] }) (hnB : n2 ≤ 1048576)
    : Calls Try.prog 5 #[.slice (some ⟨bt, ot, none⟩) lt ct, .slice aoA n1 c1, .slice aoB n2 c2] w fun e w' => e = .returned (.bool true) ∧ Below w.heap.size w w' := by
  have HW0 : Hid (∀ w : World, Calls Try.prog 18 #[.pointer none, .string { data := #[97] }] w fun e w' => e = .returned (.tuple #[]) ∧ w = w') := fun w => (write_nil _ w).mono fun _ _ h => ⟨h.1, h.2.symm⟩
  have HL0 : Hid (∀ w : World, Calls Try.prog 20 #[.pointer none] w fun e w' => e = .returned (.int .i64 0) ∧ w = w') := fun w => (len_nil w).mono fun _ _ h => ⟨h.1, h.2.symm⟩
  have HS0 : Hid (∀ w : World, Calls Try.prog 21 #[.pointer none] w fun e w' => e = .returned (.agg #[.int .u8 0, .int .u8 0, .int .u8 0, .int .u8 0, .int .u8 0, .int .u8 0, .int .u8 0, .int .u8 0, .int .u8 0, .int .u8 0, .int .u8 0, .int .u8 0, .int .u8 0, .int .u8 0, .int .u8 0, .int .u8 0, .int .u8 0, .int .u8 0, .int .u8 0, .int .u8 0, .int .u8 0, .int .u8 0, .int .u8 0, .int .u8 0, .int .u8 0, .int .u8 0, .int .u8 0, .int .u8 0, .int .u8 0, .int .u8 0, .int .u8 0, .int .u8 0]) ∧ Below w.heap.size w w') := fun w => sum_nil w
  have HAW : Hid (∀ w : World, Calls Try.prog 13 #[] w fun e w' => e = .returned (.bool true) ∧ Below w.heap.size w w') := fun w => awake3_any w
  have hq0 : ∀ W : World, Sem.run Try.prog (Op.equalIn 10000 39 (.agg #[.int .u8 0, .int .u8 0, .int .u8 0, .int .u8 0, .int .u8 0, .int .u8 0, .int .u8 0, .int .u8 0, .int .u8 0, .int .u8 0, .int .u8 0, .int .u8 0, .int .u8 0, .int .u8 0, .int .u8 0, .int .u8 0, .int .u8 0, .int .u8 0, .int .u8 0, .int .u8 0, .int .u8 0, .int .u8 0, .int .u8 0, .int .u8 0, .int .u8 0, .int .u8 0, .int .u8 0, .int .u8 0, .int .u8 0, .int .u8 0, .int .u8 0, .int .u8 0]) (.agg #[.int .u8 0, .int .u8 0, .int .u8 0, .int .u8 0, .int .u8 0, .int .u8 0, .int .u8 0, .int .u8 0, .int .u8 0, .int .u8 0, .int .u8 0, .int .u8 0, .int .u8 0, .int .u8 0, .int .u8 0, .int .u8 0, .int .u8 0, .int .u8 0, .int .u8 0, .int .u8 0, .int .u8 0, .int .u8 0, .int .u8 0, .int .u8 0, .int .u8 0, .int .u8 0, .int .u8 0, .int .u8 0, .int .u8 0, .int .u8 0, .int .u8 0, .int .u8 0])) W = .ok true W := eq_sum fun _ => 0
  have hl : (1 : Int) < (lt : Int) := by omega
  have hl0 : (0 : Int) < (lt : Int) := by omega
  go_enter Try.func5, Try.ntmps5
  go_wp2_with fail
  refine (HW0.out _).mono ?_
  rintro e w1 ⟨rfl, hw1⟩
  subst hw1
  go_wp2_with fail
  go_region
  go_wp2_with fail
  refine (HNA.out _).mono ?_
  rintro e w2 ⟨ga, rfl, hga0, hHa, hb2⟩
  have hga : w.heap.size ≤ ga := hga0
  clear hga0
  go_wp2_with fail
  refine (HNB.out _).mono ?_
  rintro e w3 ⟨gb, rfl, hgb, hHb, hb3⟩
  have hHa3 := hHa.below hb3 hHa.lt
  have hgab : ga < gb := Nat.lt_of_lt_of_le hHa.lt hgb
  have hbel3 : Below w.heap.size w w3 := ((Below.refl _ _).drew.trans (hb2.mono (Nat.le_refl _))).trans (hb3.mono (Nat.le_trans (Nat.le_refl _) hb2.size))
  clear hHa hb2 hb3 hgb HNA HNB
  as_aux_lemma =>
    go_wp2_with fail
    refine (HAW.out _).mono ?_
    rintro e w4 ⟨rfl, hb4⟩
    have hHa4 := hHa3.below hb4 hHa3.lt
    have hHb4 := hHb.below hb4 hHb.lt
    have hbel4 : Below w.heap.size w w4 := hbel3.trans (hb4.mono hbel3.size)
    clear hHa3 hHb hbel3 hb4
    go_wp2_with fail
    refine (HL0.out _).mono ?_
    rintro e w5 ⟨rfl, hw5⟩
    subst hw5
    go_wp2_with fail
    refine (HS0.out _).mono ?_
    rintro e w6 ⟨rfl, hb6⟩
    have hHa6 := hHa4.below hb6 hHa4.lt
    have hHb6 := hHb4.below hb6 hHb4.lt
    have hbel6 : Below w.heap.size w w6 := hbel4.trans (hb6.mono hbel4.size)
    clear hHa4 hHb4 hbel4 hb6 HL0 HS0 HW0 HAW
    go_wp2_with fail
    clear hq0
    go_loopw [12, 13, 14] (fun s t v wr => ∃ i : Nat, i ≤ n1 + n2 ∧ s = .string (sA i) ∧ t = .string (sB i) ∧ v = .int .i64 (i : Int) ∧ Holds wr ga cA tA (sA i).size ∧ Holds wr gb cB tB (sB i).size ∧ Below w.heap.size w wr) (fun _ _ v _ => n1 + n2 + 1 - (intOf v).toNat)
    case atStart =>
      refine ⟨0, Nat.zero_le _, ?_, ?_, rfl, hHa6, hHb6, hbel6⟩
      · rw [H0A]
      · rw [H0B]
    case round =>
      clear hHa6 hHb6 hbel6
      obtain ⟨i, hi, rfl, rfl, rfl, hHa, hHb, hbel⟩ := hrel
      have hib : i ≤ 2097152 := by omega
      by_cases hiA : i < n1
      · by_cases hiB : i < n2
        · skip
          have i0 : (0 : Int) ≤ (i : Int) := by omega
          have tA1 : decide ((i : Int) < (n1 : Int)) = true := decide_eq_true (by omega)
          have tB1 : decide ((i : Int) < (n2 : Int)) = true := decide_eq_true (by omega)
          have iA : (i : Int) < (n1 : Int) := by omega
          have iB : (i : Int) < (n2 : Int) := by omega
          obtain ⟨bA, oA, rfl, hbA, hcellA⟩ := HEA.out i hiA
          have hcA : wr.cell? ⟨bA, oA + i, none⟩ = some (.string (xA i)) := by
            rw [← hcellA]
            simp [World.cell?, hbel.block bA hbA]
          have hcatA := HTA.out i hiA
          have hzA := HZA.out (i + 1)
          have hzA' : (sA i).size + (xA i).size ≤ 1048576 := by rw [hcatA, size_app] at hzA; exact hzA
          clear hzA
          go_wp2_with fail
          refine (HWA.out i ga _ hiA hHa).mono ?_
          rintro e wa ⟨rfl, hHa1, hka⟩
          have hHb1 := hHb.keep hka (by omega)
          have hbel1 : Below w.heap.size w wa := hbel.trans (hka.1.mono (by omega))
          have hca2 : wa.cell? ⟨bA, oA + i, none⟩ = some (.string (xA i)) := by
            rw [← hcellA]
            simp [World.cell?, hbel1.block bA hbA]
          clear hHa hHb hka hcA hbel
          have hbel := hbel1
          clear hbel1
          obtain ⟨bB, oB, rfl, hbB, hcellB⟩ := HEB.out i hiB
          have hcB : wa.cell? ⟨bB, oB + i, none⟩ = some (.string (xB i)) := by
            rw [← hcellB]
            simp [World.cell?, hbel.block bB hbB]
          have hcatB := HTB.out i hiB
          have hzB := HZB.out (i + 1)
          have hzB' : (sB i).size + (xB i).size ≤ 1048576 := by rw [hcatB, size_app] at hzB; exact hzB
          clear hzB
          go_wp2_with fail
          clear hca2
          refine (HWB.out i gb _ hiB hHb1).mono ?_
          rintro e wb ⟨rfl, hHb2, hkb⟩
          have hHa2 := hHa1.keep hkb (by omega)
          have hbel2 : Below w.heap.size w wb := hbel.trans (hkb.1.mono (by omega))
          have hcb2 : wb.cell? ⟨bB, oB + i, none⟩ = some (.string (xB i)) := by
            rw [← hcellB]
            simp [World.cell?, hbel2.block bB hbB]
          clear hHa1 hHb1 hkb hcB hbel
          have hbel := hbel2
          clear hbel2
          go_wp2_with fail
          clear hcb2
          refine (HSA.out (i + 1) ga _ hHa2).mono ?_
          rintro e wc ⟨rfl, hbc⟩
          have hHa3 := hHa2.below hbc hHa2.lt
          have hHb3 := hHb2.below hbc hHb2.lt
          have hbel3 : Below w.heap.size w wc := hbel.trans (hbc.mono hbel.size)
          clear hHa2 hHb2 hbc hbel
          go_wp2_with fail
          rw [← hcatA]
          refine (HRA.out (i + 1) _).mono ?_
          rintro e wd ⟨rfl, hbd⟩
          have hHa4 := hHa3.below hbd hHa3.lt
          have hHb4 := hHb3.below hbd hHb3.lt
          have hbel4 : Below w.heap.size w wd := hbel3.trans (hbd.mono hbel3.size)
          clear hHa3 hHb3 hbd hbel3
          have hq := eq_sum (yA (i + 1))
          go_wp2_with fail
          refine (HLB.out (i + 1) gb _ hHb4).mono ?_
          rintro e we ⟨rfl, rfl⟩
          have hsz : ((sB (i + 1)).size : Int) = ((sB i).size : Int) + ((xB i).size : Int) := by rw [hcatB, size_app]; omega
          have hsz2 : (sB i ++ xB i).size = (sB (i + 1)).size := by rw [hcatB]
          go_wp2_with fail
          refine ⟨⟨i + 1, by omega, by rw [hcatA], by rw [hcatB], by simp, hHa4, hHb4, hbel4⟩, ?_⟩
          simp [intOf]
          omega

        · skip
          have i0 : (0 : Int) ≤ (i : Int) := by omega
          have tA1 : decide ((i : Int) < (n1 : Int)) = true := decide_eq_true (by omega)
          have tB1 : decide ((i : Int) < (n2 : Int)) = false := decide_eq_false (by omega)
          have iA : (i : Int) < (n1 : Int) := by omega
          obtain ⟨bA, oA, rfl, hbA, hcellA⟩ := HEA.out i hiA
          have hcA : wr.cell? ⟨bA, oA + i, none⟩ = some (.string (xA i)) := by
            rw [← hcellA]
            simp [World.cell?, hbel.block bA hbA]
          have hcatA := HTA.out i hiA
          have hzA := HZA.out (i + 1)
          have hzA' : (sA i).size + (xA i).size ≤ 1048576 := by rw [hcatA, size_app] at hzA; exact hzA
          clear hzA
          go_wp2_with fail
          refine (HWA.out i ga _ hiA hHa).mono ?_
          rintro e wa ⟨rfl, hHa1, hka⟩
          have hHb1 := hHb.keep hka (by omega)
          have hbel1 : Below w.heap.size w wa := hbel.trans (hka.1.mono (by omega))
          have hca2 : wa.cell? ⟨bA, oA + i, none⟩ = some (.string (xA i)) := by
            rw [← hcellA]
            simp [World.cell?, hbel1.block bA hbA]
          clear hHa hHb hka hcA hbel
          have hbel := hbel1
          clear hbel1
          have hstopB := HPB.out i (by omega)
          have hHb2 : Holds wa gb cB tB (sB (i + 1)).size := by rw [hstopB]; exact hHb1
          have hHa2 := hHa1
          clear hHa1 hHb1
          go_wp2_with fail
          clear hca2
          refine (HSA.out (i + 1) ga _ hHa2).mono ?_
          rintro e wc ⟨rfl, hbc⟩
          have hHa3 := hHa2.below hbc hHa2.lt
          have hHb3 := hHb2.below hbc hHb2.lt
          have hbel3 : Below w.heap.size w wc := hbel.trans (hbc.mono hbel.size)
          clear hHa2 hHb2 hbc hbel
          go_wp2_with fail
          rw [← hcatA]
          refine (HRA.out (i + 1) _).mono ?_
          rintro e wd ⟨rfl, hbd⟩
          have hHa4 := hHa3.below hbd hHa3.lt
          have hHb4 := hHb3.below hbd hHb3.lt
          have hbel4 : Below w.heap.size w wd := hbel3.trans (hbd.mono hbel3.size)
          clear hHa3 hHb3 hbd hbel3
          have hq := eq_sum (yA (i + 1))
          go_wp2_with fail
          refine (HLB.out (i + 1) gb _ hHb4).mono ?_
          rintro e we ⟨rfl, rfl⟩
          have hsz2 : (sB i).size = (sB (i + 1)).size := by rw [hstopB]
          go_wp2_with fail
          refine ⟨⟨i + 1, by omega, by rw [hcatA], by rw [hstopB], by simp, hHa4, hHb4, hbel4⟩, ?_⟩
          simp [intOf]
          omega

      · by_cases hiB : i < n2
        · skip
          have i0 : (0 : Int) ≤ (i : Int) := by omega
          have tA1 : decide ((i : Int) < (n1 : Int)) = false := decide_eq_false (by omega)
          have tB1 : decide ((i : Int) < (n2 : Int)) = true := decide_eq_true (by omega)
          have iB : (i : Int) < (n2 : Int) := by omega
          have hstopA := HPA.out i (by omega)
          have hHa1 : Holds wr ga cA tA (sA (i + 1)).size := by rw [hstopA]; exact hHa
          have hHb1 := hHb
          clear hHa hHb
          obtain ⟨bB, oB, rfl, hbB, hcellB⟩ := HEB.out i hiB
          have hcB : wr.cell? ⟨bB, oB + i, none⟩ = some (.string (xB i)) := by
            rw [← hcellB]
            simp [World.cell?, hbel.block bB hbB]
          have hcatB := HTB.out i hiB
          have hzB := HZB.out (i + 1)
          have hzB' : (sB i).size + (xB i).size ≤ 1048576 := by rw [hcatB, size_app] at hzB; exact hzB
          clear hzB
          go_wp2_with fail
          refine (HWB.out i gb _ hiB hHb1).mono ?_
          rintro e wb ⟨rfl, hHb2, hkb⟩
          have hHa2 := hHa1.keep hkb (by omega)
          have hbel2 : Below w.heap.size w wb := hbel.trans (hkb.1.mono (by omega))
          have hcb2 : wb.cell? ⟨bB, oB + i, none⟩ = some (.string (xB i)) := by
            rw [← hcellB]
            simp [World.cell?, hbel2.block bB hbB]
          clear hHa1 hHb1 hkb hcB hbel
          have hbel := hbel2
          clear hbel2
          go_wp2_with fail
          clear hcb2
          refine (HSA.out (i + 1) ga _ hHa2).mono ?_
          rintro e wc ⟨rfl, hbc⟩
          have hHa3 := hHa2.below hbc hHa2.lt
          have hHb3 := hHb2.below hbc hHb2.lt
          have hbel3 : Below w.heap.size w wc := hbel.trans (hbc.mono hbel.size)
          clear hHa2 hHb2 hbc hbel
          go_wp2_with fail
          rw [← hstopA]
          refine (HRA.out (i + 1) _).mono ?_
          rintro e wd ⟨rfl, hbd⟩
          have hHa4 := hHa3.below hbd hHa3.lt
          have hHb4 := hHb3.below hbd hHb3.lt
          have hbel4 : Below w.heap.size w wd := hbel3.trans (hbd.mono hbel3.size)
          clear hHa3 hHb3 hbd hbel3
          have hq := eq_sum (yA (i + 1))
          go_wp2_with fail
          refine (HLB.out (i + 1) gb _ hHb4).mono ?_
          rintro e we ⟨rfl, rfl⟩
          have hsz : ((sB (i + 1)).size : Int) = ((sB i).size : Int) + ((xB i).size : Int) := by rw [hcatB, size_app]; omega
          have hsz2 : (sB i ++ xB i).size = (sB (i + 1)).size := by rw [hcatB]
          go_wp2_with fail
          refine ⟨⟨i + 1, by omega, by rw [hstopA], by rw [hcatB], by simp, hHa4, hHb4, hbel4⟩, ?_⟩
          simp [intOf]
          omega

        · skip
          have tA1 : decide ((i : Int) < (n1 : Int)) = false := decide_eq_false (by omega)
          have tB1 : decide ((i : Int) < (n2 : Int)) = false := decide_eq_false (by omega)
          have hqA := eq_sum (yA i)
          have hqB := eq_sum (yB i)
          go_wp2_with fail
          refine (HSA.out i ga _ hHa).mono ?_
          rintro e wc ⟨rfl, hbc⟩
          have hHa3 := hHa.below hbc hHa.lt
          have hHb3 := hHb.below hbc hHb.lt
          have hbel3 : Below w.heap.size w wc := hbel.trans (hbc.mono hbel.size)
          clear hHa hHb hbc hbel
          go_wp2_with fail
          refine (HOA.out i _).mono ?_
          rintro e wd ⟨rfl, hbd⟩
          have hHa4 := hHa3.below hbd hHa3.lt
          have hHb4 := hHb3.below hbd hHb3.lt
          have hbel4 : Below w.heap.size w wd := hbel3.trans (hbd.mono hbel3.size)
          clear hHa3 hHb3 hbd hbel3
          go_wp2_with fail
          refine (HSB.out i gb _ hHb4).mono ?_
          rintro e we ⟨rfl, hbe⟩
          have hHa5 := hHa4.below hbe hHa4.lt
          have hbel5 : Below w.heap.size w we := hbel4.trans (hbe.mono hbel4.size)
          clear hHa4 hHb4 hbe hbel4
          go_wp2_with fail
          refine (HRB.out i _).mono ?_
          rintro e wf ⟨rfl, hbf⟩
          have hHa6 := hHa5.below hbf hHa5.lt
          have hbel6 : Below w.heap.size w wf := hbel5.trans (hbf.mono hbel5.size)
          clear hHa5 hbf hbel5
          go_wp2_with fail
          refine (HLA.out i ga _ hHa6).mono ?_
          rintro e wg ⟨rfl, rfl⟩
          go_wp2_with fail
          go_ret
          exact ⟨rfl, hbel6⟩

end Go.Proofs.Ytjjjgnaihnknjaa
