/- Two files as a script plays with them. -/
import Derived.Test.YtcmihdjbeihjbaaGreatHTrRead
import Derived.Test.YtcmihdjbeihjbaaGreatHFlLayD
import Derived.Handy
import Derived.Test.YtcmihdjbeihjbaaGreatRows
import Derived.WalkKit
import Derived.ProofKit
import Derived.OpenShut
import Derived.Lib.SmallJoins
import Derived.SizedLaws
import Derived.Deep.Slices
import Derived.Test.YtcmihdjbeihjbaaGreatHOrders
import Derived.Test.YtcmihdjbeihjbaaGreatHFlDone
import Derived.Test.YtcmihdjbeihjbaaGreatHInsMem
import Derived.Shelf.SlMaps.Clone
import Derived.Test.YtcmihdjbeihjbaaGreatHInsSetC

namespace Go.Proofs.YtcmihdjbeihjbaaGreat
open Go Go.RowKit
set_option linter.unusedSimpArgs false
set_option linter.unusedVariables false
section
variable {w : World} {x mf ml mc : Nat} {cp : Option Addr} {top : Int} {H : Nat → Hd} {D : Nat → Nat → Nat → Nat} {n sz st : Nat} {F : Nat → Nat}
theorem IM.textF (h : IM w x mf ml mc cp top H D) (hf : Fi H D n sz st F) (hF : ∀ p, p < sz → F p < 256) (a m : Nat) (ham : m = 0 ∨ a + m ≤ sz) (ha : a ≤ 1048576) : Calls Tryz.prog 33 #[.pointer (some ⟨x, 0, none⟩), .agg (fiC n sz st), .int .i64 (a : Int), .int .i64 (m : Int)] w fun e w' => e = .returned (.tuple #[.string (strN (fun j => F (a + j)) m), .int .i64 0]) ∧ Below w.heap.size w w' :=
  text_any (L := D n) hf.le hF (fun q i hi hp => hf.leaf q i hi hp) (fun U hU q hq => (h.below hU).leafF hf q hq) a m (by omega) ham
set_option maxRecDepth 100000 in
set_option maxHeartbeats 4000000 in
theorem IM.insertOk (h : IM w x mf ml mc cp top H D) (hf : Fi H D n sz st F) (hF : ∀ p, p < sz → F p < 256) (s : ByteArray) (a s' : Nat) (hs : 0 < s.size) (ha : a ≤ sz) (hb : sz + s.size ≤ 1048576) : Calls Tryz.prog 20 #[.pointer (some ⟨x, 0, none⟩), .int .i64 (n : Int), .int .i64 (a : Int), .string s, .int .u64 ((s' : Nat) : Int)] w fun e w' => e = .returned (.int .i64 0) ∧ Now w' x mf ml mc cp top H D n (sz + s.size) s' (wrF F sz (s ++ strN (fun j => F (a + j)) (sz - a)) a) ∧ Turns (fun z => z = ml ∨ z = mf) w w' := by
  have H1 := h.oneF hf
  have hzi : ∀ w, (zeroValue 62).run Tryz.prog w = .ok (.agg if0) w := zero_info
  have hcs : (s ++ strN (fun j => F (a + j)) (sz - a)).size = s.size + (sz - a) := by
    have := strN_size (fun j => F (a + j)) (sz - a)
    simp [this]
  have HTX : Hid (∀ V, Below w.heap.size w V → Calls Tryz.prog 33 #[.pointer (some ⟨x, 0, none⟩), .agg (fiC n sz st), .int .i64 (a : Int), .int .i64 ((sz - a : Nat) : Int)] V fun e w' => e = .returned (.tuple #[.string (strN (fun j => F (a + j)) (sz - a)), .int .i64 0]) ∧ Below V.heap.size V w') := fun V hV => (h.below hV).textF hf hF a (sz - a) (by omega) (by omega)
  have HLY : Hid (∀ V, Below w.heap.size w V → Calls Tryz.prog 43 #[.pointer (some ⟨x, 0, none⟩), .agg (fiC n sz st), .int .i64 (a : Int), .string (s ++ strN (fun j => F (a + j)) (sz - a)), .int .i64 ((sz + s.size : Nat) : Int), .int .u64 ((s' : Nat) : Int)] V fun e w' => e = .returned (.int .i64 0) ∧ Now w' x mf ml mc cp top H D n (sz + s.size) s' (wrF F sz (s ++ strN (fun j => F (a + j)) (sz - a)) a) ∧ Turns (fun z => z = ml ∨ z = mf) V w') := fun V hV => (h.below hV).lay hf _ a (sz + s.size) s' (by omega) (by omega) hb (by omega)
  have HTB : Hid (∀ V : World, Calls Tryz.prog 42 #[.int .i64 (sz : Int), .int .i64 (s.size : Int)] V fun e w' => e = .returned (.bool false) ∧ w' = V) := fun V => by
    have := tooBig_any (sz : Int) s.size (by omega) (by omega) V
    rw [decide_eq_false (by omega)] at this
    exact this
  have hadd : ∀ w, (Op.stringOp .add s (strN (fun j => F (a + j)) (sz - a))).run Tryz.prog w = .ok (.string (s ++ strN (fun j => F (a + j)) (sz - a))) w := fun w => run_string_add_sum w _ _ (by rw [strN_size]; omega)
  have hne : s.toList.isEmpty = false := fl_full hs
  have hlt := h.lts
  obtain ⟨B, hB⟩ : ∃ B : ByteArray, strN (fun j => F (a + j)) (sz - a) = B := ⟨_, rfl⟩
  obtain ⟨S, hS⟩ : ∃ S : Nat, s.size = S := ⟨_, rfl⟩
  obtain ⟨d, hd⟩ : ∃ d : Nat, sz - a = d := ⟨_, rfl⟩
  obtain ⟨z, hz⟩ : ∃ z : Nat, sz + S = z := ⟨_, rfl⟩
  rw [hB] at HTX HLY hadd
  rw [hS, hz] at HLY
  rw [hd] at HTX
  rw [hS] at HTB
  rw [hB, hS, hz]
  have e1 : (sz : Int) - (a : Int) = (d : Int) := by omega
  have e2 : (sz : Int) + (S : Int) = (z : Int) := by omega
  have b1 : d ≤ 1048576 := by omega
  have b2 : z ≤ 1048576 := by omega
  have a0 : ¬ ((a : Int) < 0) := by omega
  have a1 : ¬ ((sz : Int) < (a : Int)) := by omega
  clear h hf hF hs ha hb hcs hB hd hz
  go_enter Tryz.func20, Tryz.ntmps20
  go_wp2_with fail
  refine H1.mono ?_
  rintro e w2 ⟨rfl, hb2⟩
  have u1 : Blk (w2.alloc (.cells if0 62)) w2.heap.size 62 if0 := Blk.new _ _ _
  have u2 := u1.set (fiC n sz st)
  have c3 : ((w2.alloc (.cells if0 62)).setRow w2.heap.size (fiC n sz st)).cell? ⟨w2.heap.size, 3, none⟩ = some (.int .i64 (sz : Int)) := (u2.cell 3).trans rfl
  have HE : Hid (Below w.heap.size w ((w2.alloc (.cells if0 62)).setRow w2.heap.size (fiC n sz st))) := below_setRow (hb2.alloc hb2.size _) hb2.size _
  have HS2 : Hid (w.heap.size ≤ w2.heap.size) := hb2.size
  clear hb2 H1
  go_wp2_with (first
    | (refine wpList_store_row (by rfl) 62 _ _ (by rfl) (w2.heap.size) (fiC n sz st) (by rfl) (by rfl) 62 if0 (by exact u1) (sizeInfo.trans (by rfl)) (by rfl) (fi_all _ _ _) ?_; simp only [Act.put, List.setIfInBounds_toArray, List.set_cons_zero, List.set_cons_succ])
    | fail)
  refine (HTB.out _).mono ?_
  rintro e w3 ⟨rfl, hw3⟩
  rw [hw3]
  clear hw3 w3 HTB
  have H3 := HTX.out _ HE.out
  go_wp2_with (first
    | (refine wpList_load_row (by rfl) 62 _ (by rfl) (w2.heap.size) (by rfl) 62 (fiC n sz st) (0, 0) _ (by exact u2) Tryz.underlying62 (by rfl) (sizeInfo.trans (by rfl)) ?_; simp only [Act.put, List.setIfInBounds_toArray, List.set_cons_zero, List.set_cons_succ])
    | fail)
  refine H3.mono ?_
  rintro e w4 ⟨rfl, hb4⟩
  have hE4 : Below w.heap.size w w4 := HE.out.trans (hb4.mono HE.out.size)
  have u4 := u2.below hb4 u2.lt
  have c4 := fi_c3 u4
  have H4 := HLY.out w4 hE4
  clear H3 c3 u1 u2 HE hb4
  go_wp2_with (first
    | (refine wpList_load_row (by rfl) 62 _ (by rfl) (w2.heap.size) (by rfl) 62 (fiC n sz st) (0, 0) _ (by exact u4) Tryz.underlying62 (by rfl) (sizeInfo.trans (by rfl)) ?_; simp only [Act.put, List.setIfInBounds_toArray, List.set_cons_zero, List.set_cons_succ])
    | fail)
  refine H4.mono ?_
  rintro e w5 ⟨rfl, hN, hT⟩
  have HE5 : Hid (_ ∧ _) := ⟨hN, (Turns.bel hE4).tr hT⟩
  clear H4 hN hT
  go_wp2_with fail
  go_ret
  exact ⟨rfl, HE5.out⟩
set_option maxRecDepth 100000 in
set_option maxHeartbeats 4000000 in
theorem IM.removeOk (h : IM w x mf ml mc cp top H D) (hf : Fi H D n sz st F) (hF : ∀ p, p < sz → F p < 256) (a m k s' : Nat) (ha : a ≤ 9223372036854775807) (hm : m ≤ 9223372036854775807) (hk : thN sz a m = k) (hk0 : k ≠ 0) : Calls Tryz.prog 21 #[.pointer (some ⟨x, 0, none⟩), .int .i64 (n : Int), .int .i64 (a : Int), .int .i64 (m : Int), .int .u64 ((s' : Nat) : Int)] w fun e w' => e = .returned (.tuple #[.int .i64 (k : Int), .int .i64 0]) ∧ Now w' x mf ml mc cp top H D n (sz - k) s' (wrF F sz (strN (fun j => F (a + k + j)) (sz - a - k)) a) ∧ Turns (fun z => z = ml ∨ z = mf) w w' := by
  have H1 := h.oneF hf
  have hsz := hf.le
  have hak : a + k ≤ sz := by unfold thN at hk; omega
  have hzi : ∀ w, (zeroValue 62).run Tryz.prog w = .ok (.agg if0) w := zero_info
  have HTH : Hid (∀ V : World, Calls Tryz.prog 34 #[.agg (fiC n sz st), .int .i64 (a : Int), .int .i64 (m : Int)] V fun e w' => e = .returned (.int .i64 (k : Int)) ∧ Below V.heap.size V w') := fun V => by
    have := there_any n sz st a m hf.le ha hm V
    rw [hk] at this
    exact this
  have HTX : Hid (∀ V, Below w.heap.size w V → Calls Tryz.prog 33 #[.pointer (some ⟨x, 0, none⟩), .agg (fiC n sz st), .int .i64 ((a + k : Nat) : Int), .int .i64 ((sz - a - k : Nat) : Int)] V fun e w' => e = .returned (.tuple #[.string (strN (fun j => F (a + k + j)) (sz - a - k)), .int .i64 0]) ∧ Below V.heap.size V w') := fun V hV => (h.below hV).textF hf hF (a + k) (sz - a - k) (by omega) (by omega)
  have HLY : Hid (∀ V, Below w.heap.size w V → Calls Tryz.prog 43 #[.pointer (some ⟨x, 0, none⟩), .agg (fiC n sz st), .int .i64 (a : Int), .string (strN (fun j => F (a + k + j)) (sz - a - k)), .int .i64 ((sz - k : Nat) : Int), .int .u64 ((s' : Nat) : Int)] V fun e w' => e = .returned (.int .i64 0) ∧ Now w' x mf ml mc cp top H D n (sz - k) s' (wrF F sz (strN (fun j => F (a + k + j)) (sz - a - k)) a) ∧ Turns (fun z => z = ml ∨ z = mf) V w') := fun V hV => (h.below hV).layDown hf _ a (sz - k) s' (by omega) (by rw [strN_size]; omega)
  have hlt := h.lts
  obtain ⟨B, hB⟩ : ∃ B : ByteArray, strN (fun j => F (a + k + j)) (sz - a - k) = B := ⟨_, rfl⟩
  obtain ⟨ak, hak'⟩ : ∃ ak : Nat, a + k = ak := ⟨_, rfl⟩
  obtain ⟨d1, hd1⟩ : ∃ d1 : Nat, sz - a = d1 := ⟨_, rfl⟩
  obtain ⟨d, hd⟩ : ∃ d : Nat, d1 - k = d := ⟨_, rfl⟩
  obtain ⟨z, hz⟩ : ∃ z : Nat, sz - k = z := ⟨_, rfl⟩
  rw [hB] at HTX HLY
  rw [hak', hd1, hd] at HTX
  rw [hz] at HLY
  rw [hB, hz]
  have e1 : (a : Int) + (k : Int) = (ak : Int) := by omega
  have e2 : (sz : Int) - (a : Int) = (d1 : Int) := by omega
  have e3 : (d1 : Int) - (k : Int) = (d : Int) := by omega
  have e4 : (sz : Int) - (k : Int) = (z : Int) := by omega
  have b1 : d1 ≤ 1048576 := by omega
  have b2 : z ≤ 1048576 := by omega
  have b3 : ak ≤ 1048576 := by omega
  have b4 : d ≤ 1048576 := by omega
  have a0 : ¬ ((a : Int) < 0) := by omega
  have m0 : ¬ ((m : Int) < 0) := by omega
  have k1 : ¬ ((k : Int) = 0) := by omega
  have k2 : ((k : Int) == 0) = false := by simpa using k1
  clear h hf hF hB hd hd1 hz hak' hk
  go_enter Tryz.func21, Tryz.ntmps21
  go_wp2_with fail
  refine H1.mono ?_
  rintro e w2 ⟨rfl, hb2⟩
  have u1 : Blk (w2.alloc (.cells if0 62)) w2.heap.size 62 if0 := Blk.new _ _ _
  have u2 := u1.set (fiC n sz st)
  have c3 : ((w2.alloc (.cells if0 62)).setRow w2.heap.size (fiC n sz st)).cell? ⟨w2.heap.size, 3, none⟩ = some (.int .i64 (sz : Int)) := (u2.cell 3).trans rfl
  have HE : Hid (Below w.heap.size w ((w2.alloc (.cells if0 62)).setRow w2.heap.size (fiC n sz st))) := below_setRow (hb2.alloc hb2.size _) hb2.size _
  have HS2 : Hid (w.heap.size ≤ w2.heap.size) := hb2.size
  clear hb2 H1
  have H2 := HTH.out ((w2.alloc (.cells if0 62)).setRow w2.heap.size (fiC n sz st))
  go_wp2_with (first
    | (refine wpList_store_row (by rfl) 62 _ _ (by rfl) (w2.heap.size) (fiC n sz st) (by rfl) (by rfl) 62 if0 (by exact u1) (sizeInfo.trans (by rfl)) (by rfl) (fi_all _ _ _) ?_; simp only [Act.put, List.setIfInBounds_toArray, List.set_cons_zero, List.set_cons_succ])
    | (refine wpList_load_row (by rfl) 62 _ (by rfl) (w2.heap.size) (by rfl) 62 (fiC n sz st) (0, 0) _ (by exact u2) Tryz.underlying62 (by rfl) (sizeInfo.trans (by rfl)) ?_; simp only [Act.put, List.setIfInBounds_toArray, List.set_cons_zero, List.set_cons_succ])
    | fail)
  refine H2.mono ?_
  rintro e w3 ⟨rfl, hb3⟩
  have hE3 : Below w.heap.size w w3 := HE.out.trans (hb3.mono HE.out.size)
  have u3 := u2.below hb3 u2.lt
  have c33 := fi_c3 u3
  have H3 := HTX.out w3 hE3
  clear H2 c3 u1 u2 HE hb3 HTH
  go_wp2_with (first
    | (refine wpList_load_row (by rfl) 62 _ (by rfl) (w2.heap.size) (by rfl) 62 (fiC n sz st) (0, 0) _ (by exact u3) Tryz.underlying62 (by rfl) (sizeInfo.trans (by rfl)) ?_; simp only [Act.put, List.setIfInBounds_toArray, List.set_cons_zero, List.set_cons_succ])
    | fail)
  refine H3.mono ?_
  rintro e w4 ⟨rfl, hb4⟩
  have hE4 : Below w.heap.size w w4 := hE3.trans (hb4.mono hE3.size)
  have u4 := u3.below hb4 u3.lt
  have c4 := fi_c3 u4
  have H4 := HLY.out w4 hE4
  clear H3 c33 u3 hE3 hb4
  go_wp2_with (first
    | (refine wpList_load_row (by rfl) 62 _ (by rfl) (w2.heap.size) (by rfl) 62 (fiC n sz st) (0, 0) _ (by exact u4) Tryz.underlying62 (by rfl) (sizeInfo.trans (by rfl)) ?_; simp only [Act.put, List.setIfInBounds_toArray, List.set_cons_zero, List.set_cons_succ])
    | fail)
  refine H4.mono ?_
  rintro e w5 ⟨rfl, hN, hT⟩
  have HE5 : Hid (_ ∧ _) := ⟨hN, (Turns.bel hE4).tr hT⟩
  clear H4 hN hT
  go_wp2_with fail
  go_ret2
  exact ⟨rfl, HE5.out⟩
end
end Go.Proofs.YtcmihdjbeihjbaaGreat

namespace Go.Proofs.YtcmihdjbeihjbaaGreat
open Go Go.RowKit
set_option linter.unusedSimpArgs false
set_option linter.unusedVariables false
section
variable {w : World} {x mf ml mc : Nat} {cp : Option Addr} {top : Int} {H : Nat → Hd} {D : Nat → Nat → Nat → Nat} {n sz st : Nat} {F : Nat → Nat}
set_option maxRecDepth 100000 in
theorem IM.insertBad (h : IM w x mf ml mc cp top H D) (hf : Fi H D n sz st F) (a : Int) (hb : a < 0 ∨ (sz : Int) < a) (s : ByteArray) (s' : Nat) : Calls Tryz.prog 20 #[.pointer (some ⟨x, 0, none⟩), .int .i64 (n : Int), .int .i64 a, .string s, .int .u64 ((s' : Nat) : Int)] w fun e w' => e = .returned (.int .i64 1) ∧ Below w.heap.size w w' := by
  have H1 := h.oneF hf
  have hsz := hf.le
  have hzi : ∀ w, (zeroValue 62).run Tryz.prog w = .ok (.agg if0) w := zero_info
  clear h hf
  go_enter Tryz.func20, Tryz.ntmps20
  go_wp2_with fail
  refine H1.mono ?_
  rintro e w2 ⟨rfl, hb2⟩
  have u1 : Blk (w2.alloc (.cells if0 62)) w2.heap.size 62 if0 := Blk.new _ _ _
  have u2 := u1.set (fiC n sz st)
  have c3 : ((w2.alloc (.cells if0 62)).setRow w2.heap.size (fiC n sz st)).cell? ⟨w2.heap.size, 3, none⟩ = some (.int .i64 (sz : Int)) := (u2.cell 3).trans rfl
  have HE : Hid (Below w.heap.size w ((w2.alloc (.cells if0 62)).setRow w2.heap.size (fiC n sz st))) := below_setRow (hb2.alloc hb2.size _) hb2.size _
  clear hb2 H1
  by_cases ha : a < 0
  · clear hb
    go_wp2_with (first
    | (refine wpList_store_row (by rfl) 62 _ _ (by rfl) (w2.heap.size) (fiC n sz st) (by rfl) (by rfl) 62 if0 (by exact u1) (sizeInfo.trans (by rfl)) (by rfl) (fi_all _ _ _) ?_; simp only [Act.put, List.setIfInBounds_toArray, List.set_cons_zero, List.set_cons_succ])
      | fail)
    go_ret
    exact ⟨rfl, HE.out⟩
  · have hb2 : (sz : Int) < a := by omega
    clear hb
    go_wp2_with (first
    | (refine wpList_store_row (by rfl) 62 _ _ (by rfl) (w2.heap.size) (fiC n sz st) (by rfl) (by rfl) 62 if0 (by exact u1) (sizeInfo.trans (by rfl)) (by rfl) (fi_all _ _ _) ?_; simp only [Act.put, List.setIfInBounds_toArray, List.set_cons_zero, List.set_cons_succ])
      | fail)
    go_ret
    exact ⟨rfl, HE.out⟩
set_option maxRecDepth 100000 in
theorem IM.insertBig (h : IM w x mf ml mc cp top H D) (hf : Fi H D n sz st F) (a s' : Nat) (s : ByteArray) (ha : a ≤ sz) (hs : s.size ≤ 140737488355328) (hb : 1048576 < sz + s.size) : Calls Tryz.prog 20 #[.pointer (some ⟨x, 0, none⟩), .int .i64 (n : Int), .int .i64 (a : Int), .string s, .int .u64 ((s' : Nat) : Int)] w fun e w' => e = .returned (.int .i64 160) ∧ Below w.heap.size w w' := by
  have H1 := h.oneF hf
  have hsz := hf.le
  have hzi : ∀ w, (zeroValue 62).run Tryz.prog w = .ok (.agg if0) w := zero_info
  have HTB : Hid (∀ V : World, Calls Tryz.prog 42 #[.int .i64 (sz : Int), .int .i64 (s.size : Int)] V fun e w' => e = .returned (.bool true) ∧ w' = V) := fun V => by
    have := tooBig_any (sz : Int) s.size (by omega) (by omega) V
    rw [decide_eq_true (by omega)] at this
    exact this
  have a0 : ¬ ((a : Int) < 0) := by omega
  have a1 : ¬ ((sz : Int) < (a : Int)) := by omega
  clear hb
  clear h hf
  go_enter Tryz.func20, Tryz.ntmps20
  go_wp2_with fail
  refine H1.mono ?_
  rintro e w2 ⟨rfl, hb2⟩
  have u1 : Blk (w2.alloc (.cells if0 62)) w2.heap.size 62 if0 := Blk.new _ _ _
  have u2 := u1.set (fiC n sz st)
  have c3 : ((w2.alloc (.cells if0 62)).setRow w2.heap.size (fiC n sz st)).cell? ⟨w2.heap.size, 3, none⟩ = some (.int .i64 (sz : Int)) := (u2.cell 3).trans rfl
  have HE : Hid (Below w.heap.size w ((w2.alloc (.cells if0 62)).setRow w2.heap.size (fiC n sz st))) := below_setRow (hb2.alloc hb2.size _) hb2.size _
  clear hb2 H1
  go_wp2_with (first
    | (refine wpList_store_row (by rfl) 62 _ _ (by rfl) (w2.heap.size) (fiC n sz st) (by rfl) (by rfl) 62 if0 (by exact u1) (sizeInfo.trans (by rfl)) (by rfl) (fi_all _ _ _) ?_; simp only [Act.put, List.setIfInBounds_toArray, List.set_cons_zero, List.set_cons_succ])
    | fail)
  refine (HTB.out _).mono ?_
  rintro e w3 ⟨rfl, hw3⟩
  rw [hw3]
  clear hw3 w3 HTB
  go_wp2_with fail
  go_ret
  exact ⟨rfl, HE.out⟩
set_option maxRecDepth 100000 in
theorem IM.insertNone (h : IM w x mf ml mc cp top H D) (hf : Fi H D n sz st F) (a s' : Nat) (ha : a ≤ sz) : Calls Tryz.prog 20 #[.pointer (some ⟨x, 0, none⟩), .int .i64 (n : Int), .int .i64 (a : Int), .string ⟨#[]⟩, .int .u64 ((s' : Nat) : Int)] w fun e w' => e = .returned (.int .i64 0) ∧ Below w.heap.size w w' := by
  have H1 := h.oneF hf
  have hsz := hf.le
  have hzi : ∀ w, (zeroValue 62).run Tryz.prog w = .ok (.agg if0) w := zero_info
  have HTB : Hid (∀ V : World, Calls Tryz.prog 42 #[.int .i64 (sz : Int), .int .i64 0] V fun e w' => e = .returned (.bool false) ∧ w' = V) := fun V => by
    have := tooBig_any (sz : Int) 0 (by omega) (by omega) V
    rw [decide_eq_false (by omega)] at this
    exact this
  have a0 : ¬ ((a : Int) < 0) := by omega
  have a1 : ¬ ((sz : Int) < (a : Int)) := by omega
  clear h hf
  go_enter Tryz.func20, Tryz.ntmps20
  go_wp2_with fail
  refine H1.mono ?_
  rintro e w2 ⟨rfl, hb2⟩
  have u1 : Blk (w2.alloc (.cells if0 62)) w2.heap.size 62 if0 := Blk.new _ _ _
  have u2 := u1.set (fiC n sz st)
  have c3 : ((w2.alloc (.cells if0 62)).setRow w2.heap.size (fiC n sz st)).cell? ⟨w2.heap.size, 3, none⟩ = some (.int .i64 (sz : Int)) := (u2.cell 3).trans rfl
  have HE : Hid (Below w.heap.size w ((w2.alloc (.cells if0 62)).setRow w2.heap.size (fiC n sz st))) := below_setRow (hb2.alloc hb2.size _) hb2.size _
  clear hb2 H1
  go_wp2_with (first
    | (refine wpList_store_row (by rfl) 62 _ _ (by rfl) (w2.heap.size) (fiC n sz st) (by rfl) (by rfl) 62 if0 (by exact u1) (sizeInfo.trans (by rfl)) (by rfl) (fi_all _ _ _) ?_; simp only [Act.put, List.setIfInBounds_toArray, List.set_cons_zero, List.set_cons_succ])
    | fail)
  refine (HTB.out _).mono ?_
  rintro e w3 ⟨rfl, hw3⟩
  rw [hw3]
  clear hw3 w3 HTB
  go_wp2_with fail
  go_ret
  exact ⟨rfl, HE.out⟩
set_option maxRecDepth 100000 in
theorem IM.removeBad (h : IM w x mf ml mc cp top H D) (hf : Fi H D n sz st F) (a m : Int) (hb : a < 0 ∨ m < 0) (s' : Nat) : Calls Tryz.prog 21 #[.pointer (some ⟨x, 0, none⟩), .int .i64 (n : Int), .int .i64 a, .int .i64 m, .int .u64 ((s' : Nat) : Int)] w fun e w' => e = .returned (.tuple #[.int .i64 0, .int .i64 1]) ∧ Below w.heap.size w w' := by
  have H1 := h.oneF hf
  have hsz := hf.le
  have hzi : ∀ w, (zeroValue 62).run Tryz.prog w = .ok (.agg if0) w := zero_info
  clear h hf
  go_enter Tryz.func21, Tryz.ntmps21
  go_wp2_with fail
  refine H1.mono ?_
  rintro e w2 ⟨rfl, hb2⟩
  have u1 : Blk (w2.alloc (.cells if0 62)) w2.heap.size 62 if0 := Blk.new _ _ _
  have u2 := u1.set (fiC n sz st)
  have c3 : ((w2.alloc (.cells if0 62)).setRow w2.heap.size (fiC n sz st)).cell? ⟨w2.heap.size, 3, none⟩ = some (.int .i64 (sz : Int)) := (u2.cell 3).trans rfl
  have HE : Hid (Below w.heap.size w ((w2.alloc (.cells if0 62)).setRow w2.heap.size (fiC n sz st))) := below_setRow (hb2.alloc hb2.size _) hb2.size _
  clear hb2 H1
  by_cases ha : a < 0
  · clear hb
    go_wp2_with (first
    | (refine wpList_store_row (by rfl) 62 _ _ (by rfl) (w2.heap.size) (fiC n sz st) (by rfl) (by rfl) 62 if0 (by exact u1) (sizeInfo.trans (by rfl)) (by rfl) (fi_all _ _ _) ?_; simp only [Act.put, List.setIfInBounds_toArray, List.set_cons_zero, List.set_cons_succ])
      | fail)
    go_ret2
    exact ⟨rfl, HE.out⟩
  · have hb2 : m < 0 := by omega
    clear hb
    go_wp2_with (first
    | (refine wpList_store_row (by rfl) 62 _ _ (by rfl) (w2.heap.size) (fiC n sz st) (by rfl) (by rfl) 62 if0 (by exact u1) (sizeInfo.trans (by rfl)) (by rfl) (fi_all _ _ _) ?_; simp only [Act.put, List.setIfInBounds_toArray, List.set_cons_zero, List.set_cons_succ])
      | fail)
    go_ret2
    exact ⟨rfl, HE.out⟩
set_option maxRecDepth 100000 in
theorem IM.removeNone (h : IM w x mf ml mc cp top H D) (hf : Fi H D n sz st F) (a m s' : Nat) (ha : a ≤ 9223372036854775807) (hm : m ≤ 9223372036854775807) (hk : thN sz a m = 0) : Calls Tryz.prog 21 #[.pointer (some ⟨x, 0, none⟩), .int .i64 (n : Int), .int .i64 (a : Int), .int .i64 (m : Int), .int .u64 ((s' : Nat) : Int)] w fun e w' => e = .returned (.tuple #[.int .i64 0, .int .i64 0]) ∧ Below w.heap.size w w' := by
  have H1 := h.oneF hf
  have hsz := hf.le
  have hzi : ∀ w, (zeroValue 62).run Tryz.prog w = .ok (.agg if0) w := zero_info
  have HTH : Hid (∀ V : World, Calls Tryz.prog 34 #[.agg (fiC n sz st), .int .i64 (a : Int), .int .i64 (m : Int)] V fun e w' => e = .returned (.int .i64 0) ∧ Below V.heap.size V w') := fun V => by
    have := there_any n sz st a m hf.le ha hm V
    rw [hk] at this
    exact this
  have a0 : ¬ ((a : Int) < 0) := by omega
  have m0 : ¬ ((m : Int) < 0) := by omega
  clear h hf
  go_enter Tryz.func21, Tryz.ntmps21
  go_wp2_with fail
  refine H1.mono ?_
  rintro e w2 ⟨rfl, hb2⟩
  have u1 : Blk (w2.alloc (.cells if0 62)) w2.heap.size 62 if0 := Blk.new _ _ _
  have u2 := u1.set (fiC n sz st)
  have c3 : ((w2.alloc (.cells if0 62)).setRow w2.heap.size (fiC n sz st)).cell? ⟨w2.heap.size, 3, none⟩ = some (.int .i64 (sz : Int)) := (u2.cell 3).trans rfl
  have HE : Hid (Below w.heap.size w ((w2.alloc (.cells if0 62)).setRow w2.heap.size (fiC n sz st))) := below_setRow (hb2.alloc hb2.size _) hb2.size _
  clear hb2 H1
  have H3 := HTH.out ((w2.alloc (.cells if0 62)).setRow w2.heap.size (fiC n sz st))
  go_wp2_with (first
    | (refine wpList_store_row (by rfl) 62 _ _ (by rfl) (w2.heap.size) (fiC n sz st) (by rfl) (by rfl) 62 if0 (by exact u1) (sizeInfo.trans (by rfl)) (by rfl) (fi_all _ _ _) ?_; simp only [Act.put, List.setIfInBounds_toArray, List.set_cons_zero, List.set_cons_succ])
    | (refine wpList_load_row (by rfl) 62 _ (by rfl) (w2.heap.size) (by rfl) 62 (fiC n sz st) (0, 0) _ (by exact u2) Tryz.underlying62 (by rfl) (sizeInfo.trans (by rfl)) ?_; simp only [Act.put, List.setIfInBounds_toArray, List.set_cons_zero, List.set_cons_succ])
    | fail)
  refine H3.mono ?_
  rintro e w4 ⟨rfl, hb4⟩
  have hb5 : Below w.heap.size w w4 := HE.out.trans (hb4.mono HE.out.size)
  clear H3 c3 u1 u2 HE hb4
  go_wp2_with fail
  go_ret2
  exact ⟨rfl, hb5⟩
end
end Go.Proofs.YtcmihdjbeihjbaaGreat

namespace Go.Proofs.YtcmihdjbeihjbaaGreat
open Go Go.RowKit
set_option linter.unusedSimpArgs false
set_option linter.unusedVariables false
section
variable {w : World} {x mf ml mc : Nat} {cp : Option Addr} {top : Int} {H : Nat → Hd} {D : Nat → Nat → Nat → Nat} {n sz st n' sz' st' : Nat} {F F' : Nat → Nat}
set_option maxRecDepth 100000 in
theorem IM.copyBad (h : IM w x mf ml mc cp top H D) (hf : Fi H D n sz st F) (hg : Fi H D n' sz' st' F') (a m p : Int) (hb : a < 0 ∨ m < 0 ∨ p < 0) (s' : Nat) : Calls Tryz.prog 23 #[.pointer (some ⟨x, 0, none⟩), .int .i64 (n : Int), .int .i64 a, .int .i64 m, .int .i64 (n' : Int), .int .i64 p, .int .u64 ((s' : Nat) : Int)] w fun e w' => e = .returned (.tuple #[.int .i64 0, .int .i64 1]) ∧ Below w.heap.size w w' := by
  have H1 := h.twoF hf hg
  have hzi : ∀ w, (zeroValue 62).run Tryz.prog w = .ok (.agg if0) w := zero_info
  clear h hf hg
  go_enter Tryz.func23, Tryz.ntmps23
  go_wp2_with fail
  refine H1.mono ?_
  rintro e w2 ⟨rfl, hb2⟩
  have u1 : Blk ((w2.alloc (.cells if0 62)).alloc (.cells if0 62)) w2.heap.size 62 if0 := (Blk.new _ _ _).alloc _
  have v1 : Blk ((w2.alloc (.cells if0 62)).alloc (.cells if0 62)) (w2.heap.size + 1) 62 if0 := Blk.new1 _ _ _ _
  have v2 : Blk (((w2.alloc (.cells if0 62)).alloc (.cells if0 62)).setRow w2.heap.size (fiC n sz st)) (w2.heap.size + 1) 62 if0 := v1.other _ (by omega)
  have u3 : Blk ((((w2.alloc (.cells if0 62)).alloc (.cells if0 62)).setRow w2.heap.size (fiC n sz st)).setRow (w2.heap.size + 1) (fiC n' sz' st')) w2.heap.size 62 (fiC n sz st) := (u1.set _).other _ (by omega)
  have v3 : Blk ((((w2.alloc (.cells if0 62)).alloc (.cells if0 62)).setRow w2.heap.size (fiC n sz st)).setRow (w2.heap.size + 1) (fiC n' sz' st')) (w2.heap.size + 1) 62 (fiC n' sz' st') := v2.set _
  have hb3 : Below w.heap.size w ((((w2.alloc (.cells if0 62)).alloc (.cells if0 62)).setRow w2.heap.size (fiC n sz st)).setRow (w2.heap.size + 1) (fiC n' sz' st')) := below_setRow (below_setRow ((hb2.alloc hb2.size _).alloc (by have := hb2.size; simp; omega) _) hb2.size _) (by have := hb2.size; omega) _
  clear v1 hb2 H1
  clear u3 v3
  by_cases ha : a < 0
  · clear hb
    go_wp2_with (first
    | (refine wpList_store_row (by rfl) 62 _ _ (by rfl) (w2.heap.size) (fiC n sz st) (by rfl) (by rfl) 62 (if0) (by exact u1) (sizeInfo.trans (by rfl)) (by rfl) (fi_all _ _ _) ?_; simp only [Act.put, List.setIfInBounds_toArray, List.set_cons_zero, List.set_cons_succ])
    | (refine wpList_store_row (by rfl) 62 _ _ (by rfl) (w2.heap.size + 1) (fiC n' sz' st') (by rfl) (by rfl) 62 (if0) (by exact v2) (sizeInfo.trans (by rfl)) (by rfl) (fi_all _ _ _) ?_; simp only [Act.put, List.setIfInBounds_toArray, List.set_cons_zero, List.set_cons_succ])
      | fail)
    go_ret2
    exact ⟨rfl, hb3⟩
  · by_cases hm : m < 0
    · clear hb
      go_wp2_with (first
    | (refine wpList_store_row (by rfl) 62 _ _ (by rfl) (w2.heap.size) (fiC n sz st) (by rfl) (by rfl) 62 (if0) (by exact u1) (sizeInfo.trans (by rfl)) (by rfl) (fi_all _ _ _) ?_; simp only [Act.put, List.setIfInBounds_toArray, List.set_cons_zero, List.set_cons_succ])
    | (refine wpList_store_row (by rfl) 62 _ _ (by rfl) (w2.heap.size + 1) (fiC n' sz' st') (by rfl) (by rfl) 62 (if0) (by exact v2) (sizeInfo.trans (by rfl)) (by rfl) (fi_all _ _ _) ?_; simp only [Act.put, List.setIfInBounds_toArray, List.set_cons_zero, List.set_cons_succ])
        | fail)
      go_ret2
      exact ⟨rfl, hb3⟩
    · have hp : p < 0 := by omega
      clear hb
      go_wp2_with (first
    | (refine wpList_store_row (by rfl) 62 _ _ (by rfl) (w2.heap.size) (fiC n sz st) (by rfl) (by rfl) 62 (if0) (by exact u1) (sizeInfo.trans (by rfl)) (by rfl) (fi_all _ _ _) ?_; simp only [Act.put, List.setIfInBounds_toArray, List.set_cons_zero, List.set_cons_succ])
    | (refine wpList_store_row (by rfl) 62 _ _ (by rfl) (w2.heap.size + 1) (fiC n' sz' st') (by rfl) (by rfl) 62 (if0) (by exact v2) (sizeInfo.trans (by rfl)) (by rfl) (fi_all _ _ _) ?_; simp only [Act.put, List.setIfInBounds_toArray, List.set_cons_zero, List.set_cons_succ])
        | fail)
      go_ret2
      exact ⟨rfl, hb3⟩
set_option maxRecDepth 100000 in
set_option maxHeartbeats 4000000 in
theorem IM.copyOk (h : IM w x mf ml mc cp top H D) (hf : Fi H D n sz st F) (hg : Fi H D n' sz' st' F') (hF : ∀ p, p < sz → F p < 256) (a m p k s' : Nat) (ha : a ≤ 9223372036854775807) (hm : m ≤ 9223372036854775807) (hk : thN sz a m = k) (hk0 : k ≠ 0) (hp : p + k ≤ 1048576) : Calls Tryz.prog 23 #[.pointer (some ⟨x, 0, none⟩), .int .i64 (n : Int), .int .i64 (a : Int), .int .i64 (m : Int), .int .i64 (n' : Int), .int .i64 (p : Int), .int .u64 ((s' : Nat) : Int)] w fun e w' => e = .returned (.tuple #[.int .i64 (k : Int), .int .i64 0]) ∧ Now w' x mf ml mc cp top H D n' (max sz' (p + k)) s' (wrF F' sz' (strN (fun j => F (a + j)) k) p) ∧ Turns (fun z => z = ml ∨ z = mf) w w' := by
  have H1 := h.twoF hf hg
  have hsz := hf.le
  have hak : a + k ≤ sz := by unfold thN at hk; omega
  have hzi : ∀ w, (zeroValue 62).run Tryz.prog w = .ok (.agg if0) w := zero_info
  have HTH : Hid (∀ V : World, Calls Tryz.prog 34 #[.agg (fiC n sz st), .int .i64 (a : Int), .int .i64 (m : Int)] V fun e w' => e = .returned (.int .i64 (k : Int)) ∧ Below V.heap.size V w') := fun V => by
    have := there_any n sz st a m hf.le ha hm V
    rw [hk] at this
    exact this
  have HTB : Hid (∀ V : World, Calls Tryz.prog 42 #[.int .i64 (p : Int), .int .i64 (k : Int)] V fun e w' => e = .returned (.bool false) ∧ w' = V) := fun V => by
    have := tooBig_any (p : Int) k (by omega) (by omega) V
    rw [decide_eq_false (by omega)] at this
    exact this
  have HTX : Hid (∀ V, Below w.heap.size w V → Calls Tryz.prog 33 #[.pointer (some ⟨x, 0, none⟩), .agg (fiC n sz st), .int .i64 (a : Int), .int .i64 (k : Int)] V fun e w' => e = .returned (.tuple #[.string (strN (fun j => F (a + j)) k), .int .i64 0]) ∧ Below V.heap.size V w') := fun V hV => (h.below hV).textF hf hF a k (by omega) (by omega)
  have HWR : Hid (∀ V, Below w.heap.size w V → Calls Tryz.prog 18 #[.pointer (some ⟨x, 0, none⟩), .agg (fiC n' sz' st'), .int .i64 (p : Int), .string (strN (fun j => F (a + j)) k), .int .u64 ((s' : Nat) : Int)] V fun e w' => e = .returned (.int .i64 0) ∧ Now w' x mf ml mc cp top H D n' (max sz' (p + k)) s' (wrF F' sz' (strN (fun j => F (a + j)) k) p) ∧ Turns (fun z => z = ml ∨ z = mf) V w') := fun V hV => by
    have := (h.below hV).write hg (strN (fun j => F (a + j)) k) p s' (by rw [strN_size]; omega) (by rw [strN_size]; exact hp)
    rw [strN_size] at this
    exact this
  obtain ⟨B, hB⟩ : ∃ B : ByteArray, strN (fun j => F (a + j)) k = B := ⟨_, rfl⟩
  rw [hB] at HTX HWR
  rw [hB]
  have a0 : ¬ ((a : Int) < 0) := by omega
  have m0 : ¬ ((m : Int) < 0) := by omega
  have p0 : ¬ ((p : Int) < 0) := by omega
  clear h hf hg hF hB hk
  go_enter Tryz.func23, Tryz.ntmps23
  go_wp2_with fail
  refine H1.mono ?_
  rintro e w2 ⟨rfl, hb2⟩
  have u1 : Blk ((w2.alloc (.cells if0 62)).alloc (.cells if0 62)) w2.heap.size 62 if0 := (Blk.new _ _ _).alloc _
  have v1 : Blk ((w2.alloc (.cells if0 62)).alloc (.cells if0 62)) (w2.heap.size + 1) 62 if0 := Blk.new1 _ _ _ _
  have v2 : Blk (((w2.alloc (.cells if0 62)).alloc (.cells if0 62)).setRow w2.heap.size (fiC n sz st)) (w2.heap.size + 1) 62 if0 := v1.other _ (by omega)
  have u3 : Blk ((((w2.alloc (.cells if0 62)).alloc (.cells if0 62)).setRow w2.heap.size (fiC n sz st)).setRow (w2.heap.size + 1) (fiC n' sz' st')) w2.heap.size 62 (fiC n sz st) := (u1.set _).other _ (by omega)
  have v3 : Blk ((((w2.alloc (.cells if0 62)).alloc (.cells if0 62)).setRow w2.heap.size (fiC n sz st)).setRow (w2.heap.size + 1) (fiC n' sz' st')) (w2.heap.size + 1) 62 (fiC n' sz' st') := v2.set _
  have hb3 : Below w.heap.size w ((((w2.alloc (.cells if0 62)).alloc (.cells if0 62)).setRow w2.heap.size (fiC n sz st)).setRow (w2.heap.size + 1) (fiC n' sz' st')) := below_setRow (below_setRow ((hb2.alloc hb2.size _).alloc (by have := hb2.size; simp; omega) _) hb2.size _) (by have := hb2.size; omega) _
  clear v1 hb2 H1
  have H2 := HTH.out ((((w2.alloc (.cells if0 62)).alloc (.cells if0 62)).setRow w2.heap.size (fiC n sz st)).setRow (w2.heap.size + 1) (fiC n' sz' st'))
  go_wp2_with (first
    | (refine wpList_store_row (by rfl) 62 _ _ (by rfl) (w2.heap.size) (fiC n sz st) (by rfl) (by rfl) 62 (if0) (by exact u1) (sizeInfo.trans (by rfl)) (by rfl) (fi_all _ _ _) ?_; simp only [Act.put, List.setIfInBounds_toArray, List.set_cons_zero, List.set_cons_succ])
    | (refine wpList_store_row (by rfl) 62 _ _ (by rfl) (w2.heap.size + 1) (fiC n' sz' st') (by rfl) (by rfl) 62 (if0) (by exact v2) (sizeInfo.trans (by rfl)) (by rfl) (fi_all _ _ _) ?_; simp only [Act.put, List.setIfInBounds_toArray, List.set_cons_zero, List.set_cons_succ])
    | (refine wpList_load_row (by rfl) 62 _ (by rfl) (w2.heap.size) (by rfl) 62 (fiC n sz st) (0, 0) _ (by exact u3) Tryz.underlying62 (by rfl) (sizeInfo.trans (by rfl)) ?_; simp only [Act.put, List.setIfInBounds_toArray, List.set_cons_zero, List.set_cons_succ])
    | fail)
  refine H2.mono ?_
  rintro e w3 ⟨rfl, hb4⟩
  have hE3 : Below w.heap.size w w3 := hb3.trans (hb4.mono hb3.size)
  have u4 := u3.below hb4 u3.lt
  have v4 := v3.below hb4 v3.lt
  have H3 := HTX.out w3 hE3
  clear H2 u1 v2 u3 v3 hb3 hb4 HTH
  go_wp2_with fail
  refine (HTB.out _).mono ?_
  rintro e w9 ⟨rfl, hw9⟩
  rw [hw9]
  clear hw9 w9 HTB
  go_wp2_with (first
    | (refine wpList_load_row (by rfl) 62 _ (by rfl) (w2.heap.size) (by rfl) 62 (fiC n sz st) (0, 0) _ (by exact u4) Tryz.underlying62 (by rfl) (sizeInfo.trans (by rfl)) ?_; simp only [Act.put, List.setIfInBounds_toArray, List.set_cons_zero, List.set_cons_succ])
    | fail)
  refine H3.mono ?_
  rintro e w5 ⟨rfl, hb5⟩
  have hE5 : Below w.heap.size w w5 := hE3.trans (hb5.mono hE3.size)
  have v5 := v4.below hb5 v4.lt
  have H4 := HWR.out w5 hE5
  clear H3 u4 v4 hE3 hb5
  go_wp2_with (first
    | (refine wpList_load_row (by rfl) 62 _ (by rfl) (w2.heap.size + 1) (by rfl) 62 (fiC n' sz' st') (0, 0) _ (by exact v5) Tryz.underlying62 (by rfl) (sizeInfo.trans (by rfl)) ?_; simp only [Act.put, List.setIfInBounds_toArray, List.set_cons_zero, List.set_cons_succ])
    | fail)
  refine H4.mono ?_
  rintro e w6 ⟨rfl, hN, hT⟩
  have HE6 : Hid (_ ∧ _) := ⟨hN, (Turns.bel hE5).tr hT⟩
  clear H4 hN hT
  go_wp2_with fail
  go_ret2
  exact ⟨rfl, HE6.out⟩
end
end Go.Proofs.YtcmihdjbeihjbaaGreat

namespace Go.Proofs.YtcmihdjbeihjbaaGreat
open Go Go.RowKit
set_option linter.unusedSimpArgs false
set_option linter.unusedVariables false
/-- a move: kind, place, how many, the other place, text, stamp -/
structure Mv where
  kd : Int
  a : Int
  m : Int
  p : Int
  s : ByteArray
  t : Nat
/-- a move that came in -/
def Mv.ok (x : Mv) : Prop := (-9223372036854775808 ≤ x.kd ∧ x.kd ≤ 9223372036854775807) ∧ (-9223372036854775808 ≤ x.a ∧ x.a ≤ 9223372036854775807) ∧ (-9223372036854775808 ≤ x.m ∧ x.m ≤ 9223372036854775807) ∧ (-9223372036854775808 ≤ x.p ∧ x.p ≤ 9223372036854775807) ∧ x.s.size ≤ maxLen ∧ x.t < 18446744073709551616
def mvC (x : Mv) : Array Value := #[.int .i64 x.kd, .int .i64 x.a, .int .i64 x.m, .int .i64 x.p, .string x.s, .int .u64 ((x.t : Nat) : Int)]
theorem mv_cs {w : World} {b T : Nat} {x : Mv} (H : Blk w b T (mvC x)) : w.cell? ⟨b, 0, none⟩ = some (.int .i64 x.kd) ∧ w.cell? ⟨b, 1, none⟩ = some (.int .i64 x.a) ∧ w.cell? ⟨b, 2, none⟩ = some (.int .i64 x.m) ∧ w.cell? ⟨b, 3, none⟩ = some (.int .i64 x.p) ∧ w.cell? ⟨b, 4, none⟩ = some (.string x.s) ∧ w.cell? ⟨b, 5, none⟩ = some (.int .u64 ((x.t : Nat) : Int)) ∧ w.frozen? ⟨b, 0, none⟩ = false := ⟨(H.cell 0).trans rfl, (H.cell 1).trans rfl, (H.cell 2).trans rfl, (H.cell 3).trans rfl, (H.cell 4).trans rfl, (H.cell 5).trans rfl, H.frozen 0⟩
theorem sizeMv : (Tryz.prog.info? 35).map (·.size) = some 6 := by kernel_rfl
theorem mv_all (x : Mv) : (mvC x).all (·.oneCell') = true := by simp [mvC, Value.oneCell']
theorem mv_build_at {P : Program} {ops : Array Oper} {rest : List Oper} {o : Oper} {a : Act} {w : World} {Q : Exit → Act → World → Prop} (hw : Region.wanted o (yielded ops a.tmps) = true) (t : TypeId) (parts : Array (Nat × Operand)) (ho : o.op = .build t parts) (vals : List (Nat × Value))
    (hv : (parts.map fun (i, x) => (i, a.eval x)).toList = vals) (cells : Array Value) (hf : P.built t vals = some cells) (h : wpList P ops Q rest (a.put o.dst (.agg cells)) w) : wpList P ops Q (o :: rest) a w :=
  wpList_step fun K hK => by
    rw [if_pos hw]
    subst hv
    refine wp_build t parts ho (by rw [hf]; rfl) ?_
    rw [hf]
    exact hK _ _ h
/-- what Insert makes of a text -/
def inR (s : ByteArray) (st : Nat) (a : Int) (t : ByteArray) (t' : Nat) : Dn :=
  if a < 0 ∨ (s.size : Int) < a then ⟨0, 1, s, st⟩ else if 1048576 < s.size + t.size then ⟨0, 160, s, st⟩ else if t.size = 0 then ⟨0, 0, s, st⟩ else ⟨0, 0, s.extract 0 a.toNat ++ t ++ s.extract a.toNat s.size, t'⟩
/-- what Remove makes of it -/
def rmR (s : ByteArray) (st : Nat) (a m : Int) (t' : Nat) : Dn :=
  if a < 0 ∨ m < 0 then ⟨0, 1, s, st⟩ else if thN s.size a.toNat m.toNat = 0 then ⟨0, 0, s, st⟩ else ⟨(thN s.size a.toNat m.toNat : Int), 0, s.extract 0 a.toNat ++ s.extract (a.toNat + thN s.size a.toNat m.toNat) s.size, t'⟩
/-- what Copy makes of the other text k -/
def cpR (s k : ByteArray) (st : Nat) (a m p : Int) (t' : Nat) : Dn :=
  if a < 0 ∨ m < 0 ∨ p < 0 then ⟨0, 1, k, st⟩ else if (dnF k st 0 p 0 (prT s a.toNat m.toNat) t').err = 0 then ⟨((prT s a.toNat m.toNat).size : Int), 0, (dnF k st 0 p 0 (prT s a.toNat m.toNat) t').s, (dnF k st 0 p 0 (prT s a.toNat m.toNat) t').st⟩ else ⟨0, (dnF k st 0 p 0 (prT s a.toNat m.toNat) t').err, k, st⟩
theorem prT_size (s : ByteArray) (a m : Nat) : (prT s a m).size = thN s.size a m := strN_size _ _
end Go.Proofs.YtcmihdjbeihjbaaGreat

namespace Go.Proofs.YtcmihdjbeihjbaaGreat
open Go.ChangeShapes Go.WideShapes Go.ChangeAt Go.RowKit Go.Joins
set_option linter.unusedVariables false
/-- a deed -/
def Mv.cs (x : Mv) : List Value := [.int .i64 x.kd, .int .i64 x.a, .int .i64 x.m, .int .i64 x.p, .string x.s, .int .u64 ((x.t : Nat) : Int)]
def IsM16 (W : World) (a : Option Addr) (n : Nat) (A : Nat → Mv) : Prop := ∀ i, i < n → ∃ b o, a = some ⟨b, o, none⟩ ∧ b < W.heap.size ∧ W.rangeAt b (o + i * 6) (A i).cs
theorem IsM16.below {W V : World} {a : Option Addr} {n : Nat} {A : Nat → Mv} (h : IsM16 W a n A) (hb : Below W.heap.size W V) : IsM16 V a n A := fun i hi => by
  obtain ⟨b, o, h1, h2, h3⟩ := h i hi
  refine ⟨b, o, h1, Nat.lt_of_lt_of_le h2 hb.size, fun j v hv => ?_⟩
  rw [← h3 j v hv]
  simp [World.cell?, hb.block b h2]
theorem mcell_lt {W : World} {b o : Nat} {v : Value} (h : W.cell? ⟨b, o, none⟩ = some v) : b < W.heap.size := World.block_lt_of_cell? _ _ h
set_option maxRecDepth 100000 in
theorem open_moves16 {H : Type} {enc : TypeId × Value → H} {W : World} {a0 : Option Addr} {len cap fuel : Nat} {x : DataW H × List MemPlace}
    (hf : DataW.trod enc Tryz.prog W 0 (fun _ => true) true fuel 22 [.slice a0 len cap] = some x) (hsz : ∀ n ∈ x.1.weights Tryz.prog 22, n ≤ reachBytes) :
    ∃ (A : Nat → Mv), len * 56 ≤ 140737488351232 ∧ (a0 = none → len = 0 ∧ cap = 0) ∧ (∀ i, i < len → (A i).ok) ∧ IsM16 W a0 len A := by
  rcases Deep.open_slice Tryz.underlying22 hf with ⟨hcs, hx⟩ | ⟨a, len', cap', m, n, D, Pl, hcs, _, hl, hm, hmm, hx, hel⟩
  · simp at hcs
    obtain ⟨rfl, rfl, rfl⟩ := hcs
    exact ⟨fun _ => ⟨0, 0, 0, 0, ⟨#[]⟩, 0⟩, by omega, fun _ => ⟨rfl, rfl⟩, fun i hi => absurd hi (by omega), fun i hi => absurd hi (by omega)⟩
  · simp at hcs
    obtain ⟨rfl, rfl, rfl⟩ := hcs
    subst hx
    simp only [if_true] at hmm
    subst hmm
    have hu := Tryz.underlying22
    have hby : Tryz.prog.bytesOf 35 = 56 := by kernel_rfl
    have hw0 := hsz ((((List.range len).map D).length + ((List.range (m - len)).map fun j => D (len + j)).length) * Tryz.prog.bytesOf 35) (by simp [DataW.weights, hu])
    rw [hby] at hw0
    simp only [List.length_map, List.length_range] at hw0
    have hlen4 : len * 56 ≤ 140737488351232 := by
      unfold reachBytes at hw0
      omega
    have hce : Tryz.prog.cellsOf 35 = 6 := by kernel_rfl
    have hci : Tryz.prog.cellsOf 3 = 1 := by kernel_rfl
    have hcu : Tryz.prog.cellsOf 9 = 1 := by kernel_rfl
    have hc8 : Tryz.prog.cellsOf 30 = 1 := by kernel_rfl
    have hsp : 0 < len → a.spot = none := fun h0 => by
      obtain ⟨cs', h1, _⟩ := hel 0 (by omega)
      rw [hce] at h1
      obtain ⟨_, hcl, hcell⟩ := World.cells?_some h1
      match cs', hcl with
      | [v0, v1, v2, v3, v4, v5], _ => simpa [Addr.add] using World.cell?_spot (hcell 0 (by omega))
    have each : ∀ i, ∃ q : Mv, i < len → q.ok ∧ ∃ b o, a = ⟨b, o, none⟩ ∧ b < W.heap.size ∧ W.rangeAt b (o + i * 6) q.cs := by
      intro i
      by_cases hi : i < len
      · obtain ⟨cs', h1, h2⟩ := hel i (by omega)
        rw [hce] at h1
        obtain ⟨_, hcl, hcell⟩ := World.cells?_some h1
        obtain ⟨xs, k, hk, hxy, _, hxl, hfs⟩ := DataW.trod_struct Tryz.underlying35 h2
        match xs, hxl, cs', hcl with
        | [y0, y1, y2, y3, y4, y5], _, [v0, v1, v2, v3, v4, v5], _ =>
          have g0 := hfs 0 _ rfl
          have g1 := hfs 1 _ rfl
          have g2 := hfs 2 _ rfl
          have g3 := hfs 3 _ rfl
          have g4 := hfs 4 _ rfl
          have g5 := hfs 5 _ rfl
          simp [hci, hcu, hc8] at g0 g1 g2 g3 g4 g5
          obtain ⟨p0, e0, _, w0⟩ := DataW.trod_int Tryz.underlying3 g0
          obtain ⟨p1, e1, _, w1⟩ := DataW.trod_int Tryz.underlying3 g1
          obtain ⟨p2, e2, _, w2⟩ := DataW.trod_int Tryz.underlying3 g2
          obtain ⟨p3, e3, _, w3⟩ := DataW.trod_int Tryz.underlying3 g3
          obtain ⟨r, e4, _, w4⟩ := DataW.trod_string Tryz.underlying9 g4
          obtain ⟨y, e5, _, w5⟩ := DataW.trod_int Tryz.underlying30 g5
          simp at e0 e1 e2 e3 e4 e5
          subst e0 e1 e2 e3 e4 e5
          have hy := bounds_u64 w5
          obtain ⟨t, rfl⟩ : ∃ t : Nat, y = (t : Int) := ⟨y.toNat, by omega⟩
          refine ⟨⟨p0, p1, p2, p3, r, t⟩, fun _ => ⟨⟨bounds_i64 w0, bounds_i64 w1, bounds_i64 w2, bounds_i64 w3, w4, by show t < 18446744073709551616; omega⟩, ?_⟩⟩
          have c0 := hcell 0 (by decide)
          have c1 := hcell 1 (by decide)
          have c2 := hcell 2 (by decide)
          have c3 := hcell 3 (by decide)
          have c4 := hcell 4 (by decide)
          have c5 := hcell 5 (by decide)
          obtain ⟨b, off, spot⟩ := a
          have hspot : spot = none := hsp (by omega)
          subst hspot
          simp only [Addr.add_mid, List.getElem?_cons_zero, List.getElem?_cons_succ] at c0 c1 c2 c3 c4 c5
          refine ⟨b, off, rfl, mcell_lt c0, fun j v hv => ?_⟩
          match j with
          | 0 => rw [← hv]; exact c0
          | 1 => rw [← hv]; exact c1
          | 2 => rw [← hv]; exact c2
          | 3 => rw [← hv]; exact c3
          | 4 => rw [← hv]; exact c4
          | 5 => rw [← hv]; exact c5
          | j + 6 => simp [Mv.cs] at hv
      · exact ⟨⟨0, 0, 0, 0, ⟨#[]⟩, 0⟩, fun h => absurd h hi⟩
    refine ⟨fun i => Classical.choose (each i), hlen4, fun h => by simp at h, fun i hi => (Classical.choose_spec (each i) hi).1, fun i hi => ?_⟩
    obtain ⟨b, o, rfl, h1, h2⟩ := (Classical.choose_spec (each i) hi).2
    exact ⟨b, o, rfl, h1, h2⟩
end Go.Proofs.YtcmihdjbeihjbaaGreat

namespace Go.Proofs.YtcmihdjbeihjbaaGreat
open Go Go.RowKit
set_option linter.unusedSimpArgs false
set_option linter.unusedVariables false
/-- the files 2 and 3 with their texts and stamps -/
structure PI (w V : World) (x mf ml mc : Nat) (cp : Option Addr) (sm : ByteArray) (tm : Nat) (sk : ByteArray) (tk : Nat) : Prop where
  im : ∃ H D, IM V x mf ml mc cp 3 H D ∧ Fi H D 2 sm.size tm (tbyte sm) ∧ Fi H D 3 sk.size tk (tbyte sk)
  bel : Below w.heap.size w V
  gl : w.heap.size ≤ ml
  gf : w.heap.size ≤ mf
theorem fl_blk {S : Nat → Prop} {V w' : World} {g T : Nat} {cs : Array Value} (hT : Turns S V w') (h : Blk V g T cs) (hn : ¬ S g) : Blk w' g T cs := (hT.block g h.lt hn).trans h
section
variable {w V V' : World} {x mf ml mc : Nat} {cp : Option Addr} {sm sk : ByteArray} {tm tk : Nat}
theorem PI.lts (h : PI w V x mf ml mc cp sm tm sk tk) : x < V.heap.size ∧ mf < V.heap.size ∧ ml < V.heap.size ∧ mc < V.heap.size := by
  obtain ⟨H, D, hI, _⟩ := h.im
  exact hI.lts
theorem PI.small (h : PI w V x mf ml mc cp sm tm sk tk) : sm.size ≤ 1048576 ∧ sk.size ≤ 1048576 := by
  obtain ⟨H, D, hI, h2, h3⟩ := h.im
  exact ⟨h2.le, h3.le⟩
theorem PI.below (h : PI w V x mf ml mc cp sm tm sk tk) (hb : Below V.heap.size V V') : PI w V' x mf ml mc cp sm tm sk tk := by
  obtain ⟨H, D, hI, h2, h3⟩ := h.im
  exact ⟨⟨H, D, hI.below hb, h2, h3⟩, h.bel.trans (hb.mono h.bel.size), h.gl, h.gf⟩
theorem PI.keep (h : PI w V x mf ml mc cp sm tm sk tk) (h1 : V'.heap[x]? = V.heap[x]?) (h2 : V'.heap[mf]? = V.heap[mf]?) (h3 : V'.heap[ml]? = V.heap[ml]?) (h4 : V'.heap[mc]? = V.heap[mc]?) (hb : Below w.heap.size w V') : PI w V' x mf ml mc cp sm tm sk tk := by
  obtain ⟨H, D, hI, f2, f3⟩ := h.im
  exact ⟨⟨H, D, hI.keep h1 h2 h3 h4, f2, f3⟩, hb, h.gl, h.gf⟩
theorem PI.row (h : PI w V x mf ml mc cp sm tm sk tk) (g : Nat) (cs : Array Value) (hg : w.heap.size ≤ g) (hn : g ≠ x ∧ g ≠ mf ∧ g ≠ ml ∧ g ≠ mc) : PI w (V.setRow g cs) x mf ml mc cp sm tm sk tk :=
  h.keep (setRow_other _ _ _ _ (Ne.symm hn.1)) (setRow_other _ _ _ _ (Ne.symm hn.2.1)) (setRow_other _ _ _ _ (Ne.symm hn.2.2.1)) (setRow_other _ _ _ _ (Ne.symm hn.2.2.2)) (below_setRow h.bel hg _)
theorem PI.standsM (h : PI w V x mf ml mc cp sm tm sk tk) (a m : Int) (ha : -9223372036854775808 ≤ a ∧ a ≤ 9223372036854775807) (hm : -9223372036854775808 ≤ m ∧ m ≤ 9223372036854775807) : Calls Tryz.prog 9 #[.pointer (some ⟨x, 0, none⟩), .int .i64 2, .agg (mdC sm tm), .int .i64 a, .int .i64 m] V fun e w' => e = .returned (.bool true) ∧ Below V.heap.size V w' := by
  obtain ⟨H, D, hI, h2, h3⟩ := h.im
  exact hI.standsF sm h2 a m ha hm
theorem PI.standsK (h : PI w V x mf ml mc cp sm tm sk tk) (a m : Int) (ha : -9223372036854775808 ≤ a ∧ a ≤ 9223372036854775807) (hm : -9223372036854775808 ≤ m ∧ m ≤ 9223372036854775807) : Calls Tryz.prog 9 #[.pointer (some ⟨x, 0, none⟩), .int .i64 3, .agg (mdC sk tk), .int .i64 a, .int .i64 m] V fun e w' => e = .returned (.bool true) ∧ Below V.heap.size V w' := by
  obtain ⟨H, D, hI, h2, h3⟩ := h.im
  exact hI.standsF sk h3 a m ha hm
end
end Go.Proofs.YtcmihdjbeihjbaaGreat
