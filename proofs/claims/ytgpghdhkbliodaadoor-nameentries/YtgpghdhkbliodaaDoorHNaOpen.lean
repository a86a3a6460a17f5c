/- An entry as an argument. -/
import Derived.Test.YtgpghdhkbliodaaDoorHNaDecode
import Derived.Handy
import Derived.Test.YtgpghdhkbliodaaDoorHSegsS
import Derived.Test.YtgpghdhkbliodaaDoorHBytes
import Derived.BigQuiet
import Derived.Deep.QuietTactic
import Derived.Test.YtgpghdhkbliodaaDoorHBytesRef
import Derived.Test.YtgpghdhkbliodaaDoorRows
import Derived.WalkKit
import Derived.ProofKit
import Derived.OpenShut
import Derived.Carry
import Derived.Deep.Slices
import Derived.Lib.SmallJoins
import Derived.SizedLaws
import Derived.SliceStrings
import Derived.ChangeArms

namespace Go.Proofs.YtgpghdhkbliodaaDoor
set_option maxRecDepth 20000
open Go Go.RowKit
set_option linter.unusedVariables false
set_option linter.unusedSimpArgs false
theorem tb_eq (t : ByteArray) (j : Nat) : byteAt t j = tbyte t j := rfl
theorem dec_long (t : ByteArray) (h64 : t.size = 64) (hn : 56 < at2 t 4) : decOk t = false := by
  have hz : (decS t).size = 56 := by
    unfold decS
    rw [ByteArray.size_extract]
    omega
  cases hq : decOk t
  · rfl
  · exfalso
    unfold decOk at hq
    rw [Bool.and_eq_true] at hq
    have h1 := of_decide_eq_true hq.1
    have h2 : (encT (decI t) (decS t)).toList = t.toList := by simpa using hq.2
    rw [Lib.toList_data, Lib.toList_data] at h2
    unfold encT at h2
    rw [if_pos h1] at h2
    have h4 : tbyte t 4 = 56 := by
      have : tbyte (strN (entF ((decI t : Int)).toNat (decS t)) 64) 4 = tbyte t 4 := by unfold tbyte; rw [h2]
      rw [← this, strN_at _ _ _ (by decide) (entF_lt _ _ _)]
      unfold entF
      rw [if_neg (by decide), if_pos (by decide), hz]; rfl
    have h5 : tbyte t 5 = 0 := by
      have : tbyte (strN (entF ((decI t : Int)).toNat (decS t)) 64) 5 = tbyte t 5 := by unfold tbyte; rw [h2]
      rw [← this, strN_at _ _ _ (by decide) (entF_lt _ _ _)]
      unfold entF
      rw [if_neg (by decide), if_pos (by decide), hz]; rfl
    unfold at2 le2 at hn
    rw [tb_eq, tb_eq, h4, h5] at hn
    omega
section
variable (s : ByteArray)
set_option maxHeartbeats 4000000 in
theorem rdecode_bad (a : Int) (h : ¬ (0 ≤ a ∧ a ≤ (s.size : Int) - 64)) (hs : s.size ≤ 4611686018427387904) (w : World) :
    Calls Tryd.prog 10 #[.string s, .int .i64 a] w fun e w' => e = retD (0, ⟨#[]⟩, false, 131) ∧ Below w.heap.size w w' := by
  have hb0 := below_new1 w (.cells #[.int .i64 0, .string ⟨#[]⟩] 29)
  have hk0 : Blk (w.alloc (.cells #[.int .i64 0, .string ⟨#[]⟩] 29)) w.heap.size 29 #[.int .i64 0, .string ⟨#[]⟩] := Blk.new _ _ _
  have H0 : Hid (_ ∧ _) := ⟨hb0, hk0⟩
  clear hb0 hk0
  by_cases h1 : a < 0
  · clear h
    go_enter Tryd.func10, Tryd.ntmps10
    go_wp2_with fail
    try simp only [Exit.inBlock, Exit.then]
    refine bodyPost_ret (res_row3 Tryd.results10 _ _ w.heap.size 29 #[.int .i64 0, .string ⟨#[]⟩] (0, 0) _ rfl H0.out.2 Tryd.underlying29 rfl (sizeRLk.trans (by rfl))) rfl ?_
    exact ⟨rfl, H0.out.1⟩
  · by_cases h2 : (s.size : Int) < a
    · clear h
      go_enter Tryd.func10, Tryd.ntmps10
      go_wp2_with fail
      try simp only [Exit.inBlock, Exit.then]
      refine bodyPost_ret (res_row3 Tryd.results10 _ _ w.heap.size 29 #[.int .i64 0, .string ⟨#[]⟩] (0, 0) _ rfl H0.out.2 Tryd.underlying29 rfl (sizeRLk.trans (by rfl))) rfl ?_
      exact ⟨rfl, H0.out.1⟩
    · have h3 : (s.size : Int) - a < 64 := by omega
      clear h
      go_enter Tryd.func10, Tryd.ntmps10
      go_wp2_with fail
      try simp only [Exit.inBlock, Exit.then]
      refine bodyPost_ret (res_row3 Tryd.results10 _ _ w.heap.size 29 #[.int .i64 0, .string ⟨#[]⟩] (0, 0) _ rfl H0.out.2 Tryd.underlying29 rfl (sizeRLk.trans (by rfl))) rfl ?_
      exact ⟨rfl, H0.out.1⟩
theorem all_take_succ (l : List UInt8) (i : Nat) (x : UInt8) (h : l[i]? = some x) : (l.take (i + 1)).all (· == 0) = ((l.take i).all (· == 0) && (x == 0)) := by
  rw [List.take_add_one, h]; simp
set_option maxHeartbeats 4000000 in
theorem rdecode_fit (a : Nat) (h : a + 64 ≤ s.size) (hs : s.size ≤ 4611686018427387904) (t : ByteArray) (ht : s.extract a (a + 64) = t) (w : World) :
    Calls Tryd.prog 10 #[.string s, .int .i64 (a : Int)] w fun e w' => e = retD (if zT t = true then (0, ⟨#[]⟩, false, 0) else if decOk t = true then ((decI t : Int), decS t, true, 0) else (0, ⟨#[]⟩, false, 131)) ∧ Below w.heap.size w w' := by
  have h64 : t.size = 64 := by rw [← ht, ByteArray.size_extract]; omega
  have HSL : Hid (t.size = t.data.toList.length) := Lib.size_eq t
  have HT4 : Hid (∀ w : World, Calls Tryd.prog 30 #[.string t, .int .i64 0, .int .i64 4] w fun e w' => e = .returned (.tuple #[.int .u64 (at4 t 0 : Int), .bool true]) ∧ Below w.heap.size w w') := refTake32_yes t 0 (by rw [h64]; decide) (by omega)
  have HT2 : Hid (∀ w : World, Calls Tryd.prog 30 #[.string t, .int .i64 4, .int .i64 2] w fun e w' => e = .returned (.tuple #[.int .u64 (at2 t 4 : Int), .bool true]) ∧ Below w.heap.size w w') := refTake16_yes t 4 (by rw [h64]; decide) (by omega)
  have hlt : at2 t 4 < 65536 := by
    have h1 : ∀ j, byteAt t j < 256 := fun j => UInt8.toNat_lt _
    have := h1 4; have := h1 (4 + 1)
    unfold at2 le2
    omega
  have hl4 : at4 t 0 < 4294967296 := by
    have h1 : ∀ j, byteAt t j < 256 := fun j => UInt8.toNat_lt _
    have := h1 0; have := h1 (0 + 1); have := h1 (0 + 2); have := h1 (0 + 3)
    unfold at4 le4
    omega
  have HLN : Hid (56 < at2 t 4 → decOk t = false) := dec_long t h64
  have HDS : Hid (at2 t 4 ≤ 56 → decS t = t.extract 8 (8 + at2 t 4)) := fun h => by
    unfold decS; rw [Nat.min_eq_left (by omega)]
  have HDI : Hid (decI t = at4 t 0) := rfl
  have HE : Hid (∀ w : World, Calls Tryd.prog 8 #[.agg #[.int .i64 (decI t : Int), .string (decS t)]] w fun e w' => e = .returned (.tuple #[.string (encT (decI t) (decS t)), .int .i64 (encE (decI t) (decS t))]) ∧ Below w.heap.size w w') := rencode_any _ _
  have HOK : Hid (decOk t = (decide (encE (decI t) (decS t) = 0) && (encT (decI t) (decS t)).toList == t.toList)) := rfl
  have HZT : Hid ((t.data.toList.take 64).all (· == 0) = zT t) := by
    show _ = _
    unfold zT
    rw [List.take_of_length_le (by rw [← HSL.out, h64]; decide)]
  generalize hok : decOk t = ok at *
  generalize zT t = z at *
  generalize encE (decI t) (decS t) = ee at *
  generalize encT (decI t) (decS t) = et at *
  rw [HDI.out] at HE ⊢
  generalize decS t = ds at *
  generalize at4 t 0 = di at *
  generalize at2 t 4 = n at *
  clear hok HDI
  have hb0 := below_new1 w (.cells #[.int .i64 0, .string ⟨#[]⟩] 29)
  have hk0 : Blk (w.alloc (.cells #[.int .i64 0, .string ⟨#[]⟩] 29)) w.heap.size 29 #[.int .i64 0, .string ⟨#[]⟩] := Blk.new _ _ _
  have H0 : Hid (_ ∧ _) := ⟨hb0, hk0⟩
  clear hb0 hk0
  have a1 : ¬ ((a : Int) < 0) := by omega
  have a2 : ¬ ((s.size : Int) < (a : Int)) := by omega
  have a3 : ¬ ((s.size : Int) - (a : Int) < 64) := by omega
  have hw2 : IntKind.i64.wrap ((a : Int) + 64) = (a : Int) + 64 := wrap_small _ (by omega) (by omega)
  generalize hres : (if z = true then ((0 : Int), (⟨#[]⟩ : ByteArray), false, (0 : Int)) else if ok = true then ((di : Int), ds, true, 0) else (0, ⟨#[]⟩, false, 131)) = res
  have HRES : Hid ((if z = true then ((0 : Int), (⟨#[]⟩ : ByteArray), false, (0 : Int)) else if ok = true then ((di : Int), ds, true, 0) else (0, ⟨#[]⟩, false, 131)) = res) := hres
  clear hres
  go_enter Tryd.func10, Tryd.ntmps10
  go_wp2_with fail
  generalize w.alloc (.cells #[.int .i64 0, .string ⟨#[]⟩] 29) = w1 at H0 ⊢
  go_loop [8, 9] (fun v8 v9 => Hid (∃ (i : Nat) (q : Bool), i ≤ 64 ∧ v8 = .bool q ∧ v9 = .int .i64 (i : Int) ∧ (t.data.toList.take i).all (· == 0) = q)) (fun _ v9 => 64 - (intOf v9).toNat)
  case atStart => exact ⟨0, true, by omega, rfl, rfl, rfl⟩
  case round =>
    obtain ⟨i, q, hi, rfl, rfl, hall⟩ := Hid.out hrel
    have HALL : Hid ((t.data.toList.take i).all (· == 0) = q) := hall
    clear hrel hall
    by_cases h1 : i < 64
    · have i1 : (i : Int) < 64 := by omega
      have i2 : (i : Int) < (t.size : Int) := by omega
      have i3 : i < t.size := by omega
      obtain ⟨x, hx⟩ : ∃ x : UInt8, t[i]'i3 = x := ⟨_, rfl⟩
      have HN : Hid ((t.data.toList.take (i + 1)).all (· == 0) = (q && (x == 0))) := by
        show _ = _
        rw [all_take_succ _ i x (by rw [← hx]; exact Lib.data_getElem? t i i3), HALL.out]
      cases q
      · simp only [Bool.false_and] at HN
        go_wp2_with fail
        go_round
        case rel => exact ⟨i + 1, false, by omega, by first | rfl | simp, by first | rfl | go_num | simp, HN.out⟩
        case measure => simp [intOf]; omega
      · simp only [Bool.true_and] at HN
        have hbe : ((x.toNat : Int) == 0) = (x == 0) := by
          by_cases hx0 : x = 0
          · rw [hx0]; rfl
          · rw [show (x == 0) = false from by simpa using hx0]
            exact ubeq_ne hx0
        generalize (x == 0) = xb at hbe HN
        go_wp2_with fail
        go_round
        case rel => exact ⟨i + 1, xb, by omega, by first | rfl | simp, by first | rfl | go_num | simp, HN.out⟩
        case measure => simp [intOf]; omega
    · obtain rfl : i = 64 := by omega
      have i1 : ¬ ((64 : Int) < 64) := by omega
      obtain rfl : z = q := HZT.out.symm.trans HALL.out
      clear HALL HZT
      cases z
      · simp only [Bool.false_eq_true, if_false] at HRES
        go_wp2_with fail
        refine (HT4.out _).mono ?_
        intro e w2 hv2
        obtain ⟨he2, hb2⟩ := hv2
        subst he2
        have H2 : Hid (Below w.heap.size w w2 ∧ Blk w2 w.heap.size 29 #[.int .i64 0, .string ⟨#[]⟩]) := ⟨H0.out.1.trans (hb2.mono H0.out.1.size), H0.out.2.below hb2 H0.out.2.lt⟩
        clear hb2 H0
        go_wp2_with fail
        refine (HT2.out _).mono ?_
        intro e w3 hv3
        obtain ⟨he3, hb3⟩ := hv3
        subst he3
        have H3 : Hid (Below w.heap.size w w3 ∧ Blk w3 w.heap.size 29 #[.int .i64 0, .string ⟨#[]⟩]) := ⟨H2.out.1.trans (hb3.mono H2.out.1.size), H2.out.2.below hb3 H2.out.2.lt⟩
        clear hb3 H2
        by_cases hn : 56 < n
        · have n1 : (56 : Int) < (n : Int) := by omega
          obtain rfl : ok = false := HLN.out hn
          obtain rfl : (0, ⟨#[]⟩, false, 131) = res := HRES.out
          have c0 : w3.cell? ⟨w.heap.size, 0, none⟩ = some (.int .i64 0) := H3.out.2.cell 0
          have c1 : w3.cell? ⟨w.heap.size, 1, none⟩ = some (.string ⟨#[]⟩) := H3.out.2.cell 1
          have f0 : w3.frozen? ⟨w.heap.size, 0, none⟩ = false := H3.out.2.frozen 0
          have f1 : w3.frozen? ⟨w.heap.size, 1, none⟩ = false := H3.out.2.frozen 1
          go_wp2_with fail
          try simp only [Exit.inBlock, Exit.then]
          refine bodyPost_ret (res_row3 Tryd.results10 _ _ w.heap.size 29 #[.int .i64 0, .string ⟨#[]⟩] (0, 0) _ rfl ((H3.out.2.put 0 (.int .i64 0)).put 1 (.string ⟨#[]⟩)) Tryd.underlying29 rfl (sizeRLk.trans (by rfl))) rfl ?_
          exact ⟨rfl, (H3.out.1.setCell (Nat.le_refl _) _).setCell (Nat.le_refl _) _⟩
        · have n1 : ¬ ((56 : Int) < (n : Int)) := by omega
          have hds : t.extract 8 (8 + n) = ds := (HDS.out (by omega)).symm
          have hwn : IntKind.i64.wrap (n : Int) = (n : Int) := wrap_small _ (by omega) (by omega)
          have hwi : IntKind.i64.wrap (di : Int) = (di : Int) := wrap_small _ (by omega) (by omega)
          have H4 : Hid (Below w.heap.size w (w3.alloc (.cells #[.int .i64 (di : Int), .string ds] 29)) ∧ Blk (w3.alloc (.cells #[.int .i64 (di : Int), .string ds] 29)) w.heap.size 29 #[.int .i64 0, .string ⟨#[]⟩] ∧ Blk (w3.alloc (.cells #[.int .i64 (di : Int), .string ds] 29)) w3.heap.size 29 #[.int .i64 (di : Int), .string ds] ∧ w.heap.size < w3.heap.size) :=
            ⟨H3.out.1.alloc H3.out.1.size _, H3.out.2.alloc _, Blk.new _ _ _, H3.out.2.lt⟩
          clear H3
          go_wp2_with fail
          generalize w3.alloc (.cells #[.int .i64 (di : Int), .string ds] 29) = w4 at H4 ⊢
          refine (HE.out _).mono ?_
          intro e w5 hv5
          obtain ⟨he5, hb5⟩ := hv5
          subst he5
          have H5 : Hid (Below w.heap.size w w5 ∧ Blk w5 w.heap.size 29 #[.int .i64 0, .string ⟨#[]⟩] ∧ Blk w5 w3.heap.size 29 #[.int .i64 (di : Int), .string ds] ∧ w.heap.size < w3.heap.size) :=
            ⟨H4.out.1.trans (hb5.mono H4.out.1.size), H4.out.2.1.below hb5 H4.out.2.1.lt, H4.out.2.2.1.below hb5 H4.out.2.2.1.lt, H4.out.2.2.2⟩
          clear hb5 H4
          by_cases q1 : ee = 0
          · have b1 : (ee != 0) = false := by rw [q1]; rfl
            cases q2 : (et.toList == t.toList)
            · obtain rfl : ok = false := by rw [HOK.out, q1, q2]; rfl
              obtain rfl : (0, ⟨#[]⟩, false, 131) = res := HRES.out
              clear q1
              have c0 : w5.cell? ⟨w.heap.size, 0, none⟩ = some (.int .i64 0) := H5.out.2.1.cell 0
              have c1 : w5.cell? ⟨w.heap.size, 1, none⟩ = some (.string ⟨#[]⟩) := H5.out.2.1.cell 1
              have f0 : w5.frozen? ⟨w.heap.size, 0, none⟩ = false := H5.out.2.1.frozen 0
              have f1 : w5.frozen? ⟨w.heap.size, 1, none⟩ = false := H5.out.2.1.frozen 1
              go_wp2_with fail
              try simp only [Exit.inBlock, Exit.then]
              refine bodyPost_ret (res_row3 Tryd.results10 _ _ w.heap.size 29 #[.int .i64 0, .string ⟨#[]⟩] (0, 0) _ rfl ((H5.out.2.1.put 0 (.int .i64 0)).put 1 (.string ⟨#[]⟩)) Tryd.underlying29 rfl (sizeRLk.trans (by rfl))) rfl ?_
              exact ⟨rfl, (H5.out.1.setCell (Nat.le_refl _) _).setCell (Nat.le_refl _) _⟩
            · obtain rfl : ok = true := by rw [HOK.out, q1, q2]; rfl
              obtain rfl : ((di : Int), ds, true, 0) = res := HRES.out
              clear q1
              have c0 : w5.cell? ⟨w.heap.size, 0, none⟩ = some (.int .i64 0) := H5.out.2.1.cell 0
              have c1 : w5.cell? ⟨w.heap.size, 1, none⟩ = some (.string ⟨#[]⟩) := H5.out.2.1.cell 1
              have f0 : w5.frozen? ⟨w.heap.size, 0, none⟩ = false := H5.out.2.1.frozen 0
              have f1 : w5.frozen? ⟨w.heap.size, 1, none⟩ = false := H5.out.2.1.frozen 1
              have x0 : w5.cell? ⟨w3.heap.size, 0, none⟩ = some (.int .i64 (di : Int)) := H5.out.2.2.1.cell 0
              have x1 : w5.cell? ⟨w3.heap.size, 1, none⟩ = some (.string ds) := H5.out.2.2.1.cell 1
              go_wp2_with fail
              try simp only [Exit.inBlock, Exit.then]
              refine bodyPost_ret (res_row3 Tryd.results10 _ _ w.heap.size 29 #[.int .i64 (di : Int), .string ds] (0, 0) _ rfl ((H5.out.2.1.put 0 (.int .i64 (di : Int))).put 1 (.string ds)) Tryd.underlying29 rfl (sizeRLk.trans (by rfl))) rfl ?_
              exact ⟨rfl, (H5.out.1.setCell (Nat.le_refl _) _).setCell (Nat.le_refl _) _⟩
          · have b1 : (ee != 0) = true := bne_iff_ne.2 q1
            obtain rfl : ok = false := by rw [HOK.out, decide_eq_false q1]; rfl
            obtain rfl : (0, ⟨#[]⟩, false, 131) = res := HRES.out
            clear q1
            have c0 : w5.cell? ⟨w.heap.size, 0, none⟩ = some (.int .i64 0) := H5.out.2.1.cell 0
            have c1 : w5.cell? ⟨w.heap.size, 1, none⟩ = some (.string ⟨#[]⟩) := H5.out.2.1.cell 1
            have f0 : w5.frozen? ⟨w.heap.size, 0, none⟩ = false := H5.out.2.1.frozen 0
            have f1 : w5.frozen? ⟨w.heap.size, 1, none⟩ = false := H5.out.2.1.frozen 1
            go_wp2_with fail
            try simp only [Exit.inBlock, Exit.then]
            refine bodyPost_ret (res_row3 Tryd.results10 _ _ w.heap.size 29 #[.int .i64 0, .string ⟨#[]⟩] (0, 0) _ rfl ((H5.out.2.1.put 0 (.int .i64 0)).put 1 (.string ⟨#[]⟩)) Tryd.underlying29 rfl (sizeRLk.trans (by rfl))) rfl ?_
            exact ⟨rfl, (H5.out.1.setCell (Nat.le_refl _) _).setCell (Nat.le_refl _) _⟩
      · obtain rfl : (0, ⟨#[]⟩, false, 0) = res := HRES.out
        have c0 : w1.cell? ⟨w.heap.size, 0, none⟩ = some (.int .i64 0) := H0.out.2.cell 0
        have c1 : w1.cell? ⟨w.heap.size, 1, none⟩ = some (.string ⟨#[]⟩) := H0.out.2.cell 1
        have f0 : w1.frozen? ⟨w.heap.size, 0, none⟩ = false := H0.out.2.frozen 0
        have f1 : w1.frozen? ⟨w.heap.size, 1, none⟩ = false := H0.out.2.frozen 1
        go_wp2_with fail
        try simp only [Exit.inBlock, Exit.then]
        refine bodyPost_ret (res_row3 Tryd.results10 _ _ w.heap.size 29 #[.int .i64 0, .string ⟨#[]⟩] (0, 0) _ rfl ((H0.out.2.put 0 (.int .i64 0)).put 1 (.string ⟨#[]⟩)) Tryd.underlying29 rfl (sizeRLk.trans (by rfl))) rfl ?_
        exact ⟨rfl, (H0.out.1.setCell (Nat.le_refl _) _).setCell (Nat.le_refl _) _⟩
theorem rdecode_any (a : Int) (hs : s.size ≤ 4611686018427387904) (w : World) :
    Calls Tryd.prog 10 #[.string s, .int .i64 a] w fun e w' => e = retD (decV s a) ∧ Below w.heap.size w w' := by
  by_cases h : 0 ≤ a ∧ a ≤ (s.size : Int) - 64
  · obtain ⟨n, rfl⟩ : ∃ n : Nat, a = (n : Int) := ⟨a.toNat, by omega⟩
    unfold decV
    rw [if_pos h, Int.toNat_natCast]
    exact rdecode_fit s n (by omega) hs _ rfl w
  · unfold decV
    rw [if_neg h]
    exact rdecode_bad s a h hs w
end
end Go.Proofs.YtgpghdhkbliodaaDoor

namespace Go.Proofs.YtgpghdhkbliodaaDoor
set_option maxRecDepth 20000
open Go Go.RowKit
set_option linter.unusedVariables false
set_option linter.unusedSimpArgs false
/-- entries, one behind the other, in block g -/
def IsLk (W : World) (g n : Nat) (N : Nat → Int) (S : Nat → ByteArray) : Prop := ∀ i, i < n → W.cell? ⟨g, i * 2, none⟩ = some (.int .i64 (N i)) ∧ W.cell? ⟨g, i * 2 + 1, none⟩ = some (.string (S i))
set_option maxHeartbeats 4000000 in
theorem links_yes (n ca cb ga gb : Nat) (N : Nat → Int) (S : Nat → ByteArray) (hn : n ≤ 4611686018427387904) (w : World) (ha : IsLk w ga n N S) (hb : IsLk w gb n N S) :
    Calls Tryd.prog 12 #[.slice (some ⟨ga, 0, none⟩) n ca, .slice (some ⟨gb, 0, none⟩) n cb] w fun e w' => e = .returned (.bool true) ∧ ∃ m, w' = w.drewN m := by
  have HA : Hid (IsLk w ga n N S) := ha
  have HB : Hid (IsLk w gb n N S) := hb
  clear ha hb
  have hnn : ((n : Int) != (n : Int)) = false := by simp
  go_enter Tryd.func12, Tryd.ntmps12
  go_wp2_with fail
  go_loopw [5] (fun v wr => Hid (∃ (i m : Nat), i ≤ n ∧ v = .int .i64 (i : Int) ∧ wr = w.drewN m)) (fun v _ => n - (intOf v).toNat)
  case atStart => exact ⟨0, 0, by omega, rfl, rfl⟩
  case round =>
    obtain ⟨i, m, hi, rfl, rfl⟩ := Hid.out hrel
    clear hrel
    by_cases h1 : i < n
    · have i1 : (i : Int) < (n : Int) := by omega
      have a0 : ∀ q, ((w.drewN m).drewN q).cell? ⟨ga, i * 2, none⟩ = some (.int .i64 (N i)) := fun _ => (HA.out i h1).1
      have a1 : ∀ q, ((w.drewN m).drewN q).cell? ⟨ga, i * 2 + 1, none⟩ = some (.string (S i)) := fun _ => (HA.out i h1).2
      have b0 : ∀ q, ((w.drewN m).drewN q).cell? ⟨gb, i * 2, none⟩ = some (.int .i64 (N i)) := fun _ => (HB.out i h1).1
      have b1 : ∀ q, ((w.drewN m).drewN q).cell? ⟨gb, i * 2 + 1, none⟩ = some (.string (S i)) := fun _ => (HB.out i h1).2
      have hq : (N i != N i) = false := by simp
      have hq2 : ((S i).toList == (S i).toList) = true := by simp
      have HF : Hid (∀ q, ∃ k, (w.drewN m).drewN q = w.drewN k) := fun q => ⟨_, World.drewN_drewN _ _ _⟩
      generalize w.drewN m = w3 at a0 a1 b0 b1 HF ⊢
      generalize N i = ni at *
      generalize S i = si at *
      have a0' := a0 0
      have a1' := a1 0
      have b0' := b0 0
      have b1' := b1 0
      rw [World.drewN_zero] at a0' a1' b0' b1'
      go_wp2_with fail
      go_quiet (fail)
      go_wp2_with fail
      go_roundw
      case rel =>
        obtain ⟨k, hk⟩ := HF.out nq
        exact ⟨i + 1, k, by omega, by first | rfl | go_num | simp, hk⟩
      case measure => simp [intOf]; omega
    · obtain rfl : i = n := by omega
      have i1 : ¬ ((i : Int) < (i : Int)) := by omega
      go_wp2_with fail
      go_ret
      exact ⟨rfl, m, rfl⟩
end Go.Proofs.YtgpghdhkbliodaaDoor

namespace Go.Proofs.YtgpghdhkbliodaaDoor
set_option maxRecDepth 20000
open Go Go.RowKit
set_option linter.unusedVariables false
set_option linter.unusedSimpArgs false
set_option maxHeartbeats 4000000 in
theorem awake13_any (w : World) : Calls Tryd.prog 11 #[] w fun e w' => e = .returned (.bool true) ∧ Below w.heap.size w w' := by
  have HE : Hid (∀ w : World, Calls Tryd.prog 7 #[.agg #[.int .i64 1, .string ⟨#[97]⟩]] w fun e w' => e = .returned (.tuple #[.string (strN (entF 1 ⟨#[97]⟩) 64), .int .i64 0]) ∧ Below w.heap.size w w') := fun w => encode_ok ⟨#[97]⟩ 1 (by decide) (by decide) (by decide) w
  have HC1 : Hid (∀ w : World, Calls Tryd.prog 23 #[.string ⟨#[97]⟩] w fun e w' => e = .returned (.int .i64 0) ∧ Below w.heap.size w w') := fun w => check_any ⟨#[97]⟩ w
  have HC2 : Hid (∀ w : World, Calls Tryd.prog 23 #[.string ⟨#[47]⟩] w fun e w' => e = .returned (.int .i64 130) ∧ Below w.heap.size w w') := fun w => check_any ⟨#[47]⟩ w
  have hz := strN_size (entF 1 ⟨#[97]⟩) 64
  generalize strN (entF 1 ⟨#[97]⟩) 64 = tx at HE hz
  go_enter Tryd.func11, Tryd.ntmps11
  go_wp2_with fail
  refine (HE.out _).mono ?_
  intro e w2 hw2
  obtain ⟨he2, hw2⟩ := hw2
  subst he2
  go_wp2_with fail
  refine (HC1.out _).mono ?_
  intro e w3 hw3
  obtain ⟨he3, hw3⟩ := hw3
  subst he3
  have hb3 : Below w.heap.size w w3 := hw2.trans (hw3.mono hw2.size)
  clear hw2 hw3
  go_wp2_with fail
  refine (HC2.out _).mono ?_
  intro e w4 hw4
  obtain ⟨he4, hw4⟩ := hw4
  subst he4
  have HB4 : Hid (Below w.heap.size w w4) := hb3.trans (hw4.mono hb3.size)
  clear hb3 hw4
  go_wp2_with fail
  go_ret
  exact ⟨rfl, HB4.out⟩
end Go.Proofs.YtgpghdhkbliodaaDoor

namespace Go.Proofs.YtgpghdhkbliodaaDoor
set_option maxRecDepth 20000
open Go Go.RowKit
set_option linter.unusedVariables false
set_option linter.unusedSimpArgs false
theorem ent_i (i : Nat) (s : ByteArray) (h : i < 4294967296) : at4 (strN (entF i s) 64) 0 = i := by
  unfold at4 le4
  rw [tb_eq, tb_eq, tb_eq, tb_eq, strN_at _ _ _ (by decide) (entF_lt _ _ _), strN_at _ _ _ (by decide) (entF_lt _ _ _), strN_at _ _ _ (by decide) (entF_lt _ _ _), strN_at _ _ _ (by decide) (entF_lt _ _ _)]
  unfold entF
  rw [if_pos (by decide), if_pos (by decide), if_pos (by decide), if_pos (by decide)]
  show i / 1 % 256 + i / 256 % 256 * 256 + i / 65536 % 256 * 65536 + i / 16777216 % 256 * 16777216 = i
  omega
theorem ent_n (i : Nat) (s : ByteArray) (h : s.size ≤ 56) : at2 (strN (entF i s) 64) 4 = s.size := by
  unfold at2 le2
  rw [tb_eq, tb_eq, strN_at _ _ _ (by decide) (entF_lt _ _ _), strN_at _ _ _ (by decide) (entF_lt _ _ _)]
  unfold entF
  rw [if_neg (by decide), if_pos (by decide), if_neg (by decide), if_pos (by decide)]
  show s.size / 1 % 256 + s.size / 256 % 256 * 256 = s.size
  omega
theorem ent_s (i : Nat) (s : ByteArray) (h : s.size ≤ 56) : decS (strN (entF i s) 64) = s := by
  unfold decS
  rw [ent_n i s h, Nat.min_eq_left (by omega)]
  have hz : (strN (entF i s) 64).size = 64 := strN_size _ _
  have hz2 : ((strN (entF i s) 64).extract 8 (8 + s.size)).size = s.size := by rw [extract_size _ _ _ (by rw [hz]; omega)]; omega
  refine text_ext hz2 fun j hj => ?_
  rw [hz2] at hj
  rw [tbyte_extract _ _ _ _ (by rw [hz]; omega) (by omega), strN_at _ _ _ (by omega) (entF_lt _ _ _)]
  unfold entF
  rw [if_neg (by omega), if_neg (by omega), if_neg (by omega), if_pos (by omega), Nat.add_sub_cancel_left]
theorem dec_enc (i : Int) (s : ByteArray) (h : encE i s = 0) : decV (encT i s) 0 = (i, s, true, 0) := by
  have hh := h
  unfold encE at hh
  by_cases h1 : i < 1 ∨ 4096 < i
  · rw [if_pos h1] at hh; cases hh
  · rw [if_neg h1] at hh
    have hn : isName s.data.toList = true := by
      cases hq : isName s.data.toList
      · rw [hq] at hh; simp at hh
      · rfl
    have h56 : s.size ≤ 56 := by rw [Lib.size_eq]; exact (isName_len hn).2
    obtain ⟨n, rfl⟩ : ∃ n : Nat, i = (n : Int) := ⟨i.toNat, by omega⟩
    have ht : encT (n : Int) s = strN (entF n s) 64 := by unfold encT; rw [if_pos h, Int.toNat_natCast]
    have hz : (strN (entF n s) 64).size = 64 := strN_size _ _
    rw [ht]
    unfold decV
    have hx : (strN (entF n s) 64).extract (0 : Int).toNat ((0 : Int).toNat + 64) = strN (entF n s) 64 := by
      show (strN (entF n s) 64).extract 0 64 = _
      have hz3 : ((strN (entF n s) 64).extract 0 64).size = 64 := by rw [extract_size _ _ _ (by rw [hz]; decide)]
      refine text_ext (hz3.trans hz.symm) fun j hj => ?_
      rw [hz3] at hj
      rw [tbyte_extract _ _ _ _ (by rw [hz]; decide) (by omega), Nat.zero_add]
    rw [hx, if_pos (by rw [hz]; decide)]
    have hd : decI (strN (entF n s) 64) = n := ent_i n s (by omega)
    have hs := ent_s n s h56
    have hzt : zT (strN (entF n s) 64) = false := by
      cases hq : zT (strN (entF n s) 64)
      · rfl
      · exfalso
        unfold zT at hq
        rw [List.all_eq_true] at hq
        have key : ∀ j, j < 64 → entF n s j = 0 := fun j hj => by
          rw [← strN_at (entF n s) 64 j hj (entF_lt _ _ _)]
          unfold tbyte
          rw [List.getD_eq_getElem?_getD]
          cases hl : (strN (entF n s) 64).data.toList[j]? with
          | none => rfl
          | some b =>
            have := hq b (List.mem_of_getElem? hl)
            have hb : b = 0 := by simpa using this
            rw [hb]; rfl
        have e0 := key 0 (by decide); have e1 := key 1 (by decide); have e2 := key 2 (by decide); have e3 := key 3 (by decide)
        have hi := ent_i n s (by omega)
        unfold at4 le4 at hi
        rw [tb_eq, tb_eq, tb_eq, tb_eq, strN_at _ _ _ (by decide) (entF_lt _ _ _), strN_at _ _ _ (by decide) (entF_lt _ _ _), strN_at _ _ _ (by decide) (entF_lt _ _ _), strN_at _ _ _ (by decide) (entF_lt _ _ _)] at hi
        simp only [Nat.zero_add] at hi
        rw [e0, e1, e2, e3] at hi
        omega
    have hok : decOk (strN (entF n s) 64) = true := by
      unfold decOk
      rw [hd, hs, h, ht]
      simp
    rw [hzt, hok, hd, hs]; rfl
set_option maxHeartbeats 4000000 in
theorem nameEntriesLaw (i : Int) (x s : ByteArray) (a : Int) (hs : s.size ≤ 140737488355327) (w : World) :
    Calls Tryd.prog 3 #[lkV i x, .string s, .int .i64 a] w fun e w' => e = .returned (.bool true) ∧ Below w.heap.size w w' := by
  have HA : Hid (∀ w : World, Calls Tryd.prog 11 #[] w fun e w' => e = .returned (.bool true) ∧ Below w.heap.size w w') := awake13_any
  have HE : Hid (∀ w : World, Calls Tryd.prog 7 #[.agg #[.int .i64 i, .string x]] w fun e w' => e = .returned (.tuple #[.string (encT i x), .int .i64 (encE i x)]) ∧ Below w.heap.size w w') := encode_any i x
  have HR : Hid (∀ w : World, Calls Tryd.prog 8 #[.agg #[.int .i64 i, .string x]] w fun e w' => e = .returned (.tuple #[.string (encT i x), .int .i64 (encE i x)]) ∧ Below w.heap.size w w') := rencode_any i x
  have HD : Hid (∀ w : World, Calls Tryd.prog 9 #[.string s, .int .i64 a] w fun e w' => e = .returned (.tuple #[.agg #[.int .i64 (decV s a).1, .string (decV s a).2.1], .bool (decV s a).2.2.1, .int .i64 (decV s a).2.2.2]) ∧ Below w.heap.size w w') := decode_any s a (by omega)
  have HQ : Hid (∀ w : World, Calls Tryd.prog 10 #[.string s, .int .i64 a] w fun e w' => e = .returned (.tuple #[.agg #[.int .i64 (decV s a).1, .string (decV s a).2.1], .bool (decV s a).2.2.1, .int .i64 (decV s a).2.2.2]) ∧ Below w.heap.size w w') := rdecode_any s a (by omega)
  have htz : (encT i x).size ≤ 64 := by
    unfold encT
    split
    · rw [strN_size]; exact Nat.le_refl _
    · exact Nat.zero_le _
  have HB : Hid (∀ w : World, Calls Tryd.prog 9 #[.string (encT i x), .int .i64 0] w fun e w' => e = .returned (.tuple #[.agg #[.int .i64 (decV (encT i x) 0).1, .string (decV (encT i x) 0).2.1], .bool (decV (encT i x) 0).2.2.1, .int .i64 (decV (encT i x) 0).2.2.2]) ∧ Below w.heap.size w w') := decode_any (encT i x) 0 (by omega)
  have HBK : Hid (encE i x = 0 → decV (encT i x) 0 = (i, x, true, 0)) := dec_enc i x
  clear hs htz
  generalize encE i x = ee at *
  generalize decV (encT i x) 0 = bk at *
  generalize encT i x = et at *
  generalize decV s a = dv at *
  obtain ⟨bi, bs, bb, be⟩ := bk
  obtain ⟨di, ds, db, de⟩ := dv
  simp only at HD HQ HB
  have hb0 := below_new1 w (.cells #[.int .i64 i, .string x] 23)
  have hk0 : Blk (w.alloc (.cells #[.int .i64 i, .string x] 23)) w.heap.size 23 #[.int .i64 i, .string x] := Blk.new _ _ _
  have H0 : Hid (_ ∧ _) := ⟨hb0, hk0⟩
  clear hb0 hk0
  go_enter Tryd.func3, Tryd.ntmps3
  go_wp2_with fail
  generalize w.alloc (.cells #[.int .i64 i, .string x] 23) = w1 at H0 ⊢
  refine (HE.out _).mono ?_
  intro e w2 hv2
  obtain ⟨he2, hb2⟩ := hv2
  subst he2
  have H2 : Hid (Below w.heap.size w w2 ∧ Blk w2 w.heap.size 23 #[.int .i64 i, .string x]) := ⟨H0.out.1.trans (hb2.mono H0.out.1.size), H0.out.2.below hb2 H0.out.2.lt⟩
  clear hb2 H0
  have c0 : w2.cell? ⟨w.heap.size, 0, none⟩ = some (.int .i64 i) := H2.out.2.cell 0
  have c1 : w2.cell? ⟨w.heap.size, 1, none⟩ = some (.string x) := H2.out.2.cell 1
  go_wp2_with fail
  refine (HR.out _).mono ?_
  intro e w3 hv3
  obtain ⟨he3, hb3⟩ := hv3
  subst he3
  have H3 : Hid (Below w.heap.size w w3 ∧ Blk w3 w.heap.size 23 #[.int .i64 i, .string x]) := ⟨H2.out.1.trans (hb3.mono H2.out.1.size), H2.out.2.below hb3 H2.out.2.lt⟩
  clear hb3 H2 c0 c1
  go_wp2_with fail
  refine (HD.out _).mono ?_
  intro e w4 hv4
  obtain ⟨he4, hb4⟩ := hv4
  subst he4
  have H4 : Hid (Below w.heap.size w w4 ∧ Blk w4 w.heap.size 23 #[.int .i64 i, .string x]) := ⟨H3.out.1.trans (hb4.mono H3.out.1.size), H3.out.2.below hb4 H3.out.2.lt⟩
  clear hb4 H3
  go_wp2_with fail
  have H5 : Hid (Below w.heap.size w (w4.alloc (.cells #[.int .i64 di, .string ds] 23)) ∧ Blk (w4.alloc (.cells #[.int .i64 di, .string ds] 23)) w.heap.size 23 #[.int .i64 i, .string x] ∧ Blk (w4.alloc (.cells #[.int .i64 di, .string ds] 23)) w4.heap.size 23 #[.int .i64 di, .string ds] ∧ w.heap.size < w4.heap.size) :=
    ⟨H4.out.1.alloc H4.out.1.size _, H4.out.2.alloc _, Blk.new _ _ _, H4.out.2.lt⟩
  clear H4
  generalize w4.heap.size = gy at H5 ⊢
  generalize w4.alloc (.cells #[.int .i64 di, .string ds] 23) = w5 at H5 ⊢
  refine (HQ.out _).mono ?_
  intro e w6 hv6
  obtain ⟨he6, hb6⟩ := hv6
  subst he6
  have H6 : Hid (Below w.heap.size w (w6.alloc (.cells #[.int .i64 di, .string ds] 29)) ∧ Blk (w6.alloc (.cells #[.int .i64 di, .string ds] 29)) w.heap.size 23 #[.int .i64 i, .string x] ∧ Blk (w6.alloc (.cells #[.int .i64 di, .string ds] 29)) gy 23 #[.int .i64 di, .string ds] ∧ Blk (w6.alloc (.cells #[.int .i64 di, .string ds] 29)) w6.heap.size 29 #[.int .i64 di, .string ds] ∧ w.heap.size < gy) :=
    ⟨(H5.out.1.trans (hb6.mono H5.out.1.size)).alloc (H5.out.1.trans (hb6.mono H5.out.1.size)).size _, (H5.out.2.1.below hb6 H5.out.2.1.lt).alloc _, (H5.out.2.2.1.below hb6 H5.out.2.2.1.lt).alloc _, Blk.new _ _ _, H5.out.2.2.2⟩
  clear hb6 H5
  go_wp2_with fail
  generalize w6.heap.size = gz at H6 ⊢
  generalize w6.alloc (.cells #[.int .i64 di, .string ds] 29) = w7 at H6 ⊢
  refine (HA.out _).mono ?_
  intro e w8 hv8
  obtain ⟨he8, hb8⟩ := hv8
  subst he8
  have H8 : Hid (Below w.heap.size w w8 ∧ Blk w8 w.heap.size 23 #[.int .i64 i, .string x] ∧ Blk w8 gy 23 #[.int .i64 di, .string ds] ∧ Blk w8 gz 29 #[.int .i64 di, .string ds] ∧ w.heap.size < gy) :=
    ⟨H6.out.1.trans (hb8.mono H6.out.1.size), H6.out.2.1.below hb8 H6.out.2.1.lt, H6.out.2.2.1.below hb8 H6.out.2.2.1.lt, H6.out.2.2.2.1.below hb8 H6.out.2.2.2.1.lt, H6.out.2.2.2.2⟩
  clear hb8 H6
  have y0 : w8.cell? ⟨gy, 0, none⟩ = some (.int .i64 di) := H8.out.2.2.1.cell 0
  have y1 : w8.cell? ⟨gy, 1, none⟩ = some (.string ds) := H8.out.2.2.1.cell 1
  have z0 : (w8.alloc (.cells #[.int .i64 di, .string ds] 23)).cell? ⟨gz, 0, none⟩ = some (.int .i64 di) := (H8.out.2.2.2.1.alloc _).cell 0
  have z1 : (w8.alloc (.cells #[.int .i64 di, .string ds] 23)).cell? ⟨gz, 1, none⟩ = some (.string ds) := (H8.out.2.2.2.1.alloc _).cell 1
  have hne1 : (et.toList == et.toList) = true := by simp
  have hne2 : (ee != ee) = false := by simp
  have hne3 : (db != db) = false := by simp
  have hne4 : (de != de) = false := by simp
  have HB9 : Hid (Below w.heap.size w ((w8.alloc (.cells #[.int .i64 di, .string ds] 23)).alloc (.cells #[.int .i64 di, .string ds] 29)) ∧ Blk ((w8.alloc (.cells #[.int .i64 di, .string ds] 23)).alloc (.cells #[.int .i64 di, .string ds] 29)) w.heap.size 23 #[.int .i64 i, .string x]) :=
    ⟨(H8.out.1.alloc H8.out.1.size _).alloc (by have := H8.out.1.size; simp; omega) _, (H8.out.2.1.alloc _).alloc _⟩
  have HLK : Hid (Calls Tryd.prog 12 #[.slice (some ⟨w8.heap.size, 0, none⟩) 1 1, .slice (some ⟨w8.heap.size + 1, 0, none⟩) 1 1] ((w8.alloc (.cells #[.int .i64 di, .string ds] 23)).alloc (.cells #[.int .i64 di, .string ds] 29)) fun e w' => e = .returned (.bool true) ∧ ∃ m, w' = ((w8.alloc (.cells #[.int .i64 di, .string ds] 23)).alloc (.cells #[.int .i64 di, .string ds] 29)).drewN m) :=
    links_yes 1 1 1 w8.heap.size (w8.heap.size + 1) (fun _ => di) (fun _ => ds) (by decide) _
      (fun j hj => by obtain rfl : j = 0 := by omega
                      exact ⟨((Blk.new w8 23 #[.int .i64 di, .string ds]).alloc _).cell 0, ((Blk.new w8 23 #[.int .i64 di, .string ds]).alloc _).cell 1⟩)
      (fun j hj => by obtain rfl : j = 0 := by omega
                      exact ⟨(Blk.new1 w8 _ 29 #[.int .i64 di, .string ds]).cell 0, (Blk.new1 w8 _ 29 #[.int .i64 di, .string ds]).cell 1⟩)
  clear H8
  go_wp2_with fail
  refine HLK.out.mono ?_
  intro e w9 hv9
  obtain ⟨he9, k9, hw9⟩ := hv9
  subst he9
  have H9 : Hid (Below w.heap.size w w9 ∧ Blk w9 w.heap.size 23 #[.int .i64 i, .string x]) := by
    rw [hw9]; exact ⟨bdrewN HB9.out.1 _, HB9.out.2⟩
  clear hw9 HB9 y0 y1 z0 z1
  go_wp2_with fail
  refine (HB.out _).mono ?_
  intro e w10 hv10
  obtain ⟨he10, hb10⟩ := hv10
  subst he10
  have H10 : Hid (Below w.heap.size w (w10.alloc (.cells #[.int .i64 bi, .string bs] 23)) ∧ Blk (w10.alloc (.cells #[.int .i64 bi, .string bs] 23)) w.heap.size 23 #[.int .i64 i, .string x] ∧ Blk (w10.alloc (.cells #[.int .i64 bi, .string bs] 23)) w10.heap.size 23 #[.int .i64 bi, .string bs]) :=
    ⟨(H9.out.1.trans (hb10.mono H9.out.1.size)).alloc (H9.out.1.trans (hb10.mono H9.out.1.size)).size _, (H9.out.2.below hb10 H9.out.2.lt).alloc _, Blk.new _ _ _⟩
  clear hb10 H9
  by_cases q : ee = 0
  · have hq := HBK.out q
    obtain ⟨rfl, rfl, rfl, rfl⟩ : bi = i ∧ bs = x ∧ bb = true ∧ be = 0 := by
      simpa using hq
    have b1 : (ee != 0) = false := by rw [q]; rfl
    clear hq q HBK
    have x0 : (w10.alloc (.cells #[.int .i64 bi, .string bs] 23)).cell? ⟨w.heap.size, 0, none⟩ = some (.int .i64 bi) := H10.out.2.1.cell 0
    have x1 : (w10.alloc (.cells #[.int .i64 bi, .string bs] 23)).cell? ⟨w.heap.size, 1, none⟩ = some (.string bs) := H10.out.2.1.cell 1
    have x2 : (w10.alloc (.cells #[.int .i64 bi, .string bs] 23)).cell? ⟨w10.heap.size, 0, none⟩ = some (.int .i64 bi) := H10.out.2.2.cell 0
    have x3 : (w10.alloc (.cells #[.int .i64 bi, .string bs] 23)).cell? ⟨w10.heap.size, 1, none⟩ = some (.string bs) := H10.out.2.2.cell 1
    have HX : Hid (Below w.heap.size w (w10.alloc (.cells #[.int .i64 bi, .string bs] 23))) := H10.out.1
    go_wp2_with fail
    go_ret
    exact ⟨rfl, HX.out⟩
  · have b1 : (ee != 0) = true := bne_iff_ne.2 q
    clear q
    go_wp2_with fail
    go_ret
    exact ⟨rfl, H10.out.1⟩
end Go.Proofs.YtgpghdhkbliodaaDoor

namespace Go.Proofs.YtgpghdhkbliodaaDoor
open Go.ChangeShapes Go.WideShapes Go.ChangeAt Go.RowKit Go.Joins
set_option linter.unusedVariables false
set_option maxRecDepth 100000 in
theorem open_link {H : Type} {enc : TypeId × Value → H} {W : World} {base : Nat} {v : Value} {d : DataW H} {p : List MemPlace} (hval : Value.okWide Tryd.prog W .any base 23 v)
    (h : DataW.Trod enc Tryd.prog W 0 (fun _ => true) true 23 v d p) : ∃ (i : Int) (s : ByteArray), v = .agg #[.int .i64 i, .string s] := by
  obtain ⟨c0, c1, y0, y1, m, rfl, rfl, rfl, hy0, hy1⟩ := open_agg2 Tryd.underlying23 (by kernel_rfl) (show Tryd.prog.cellsOf 23 = 2 by kernel_rfl) hval h
  obtain ⟨i, e0, _, w0⟩ := DataW.trod_int Tryd.underlying3 hy0
  simp at e0
  subst e0
  obtain ⟨s, e1, _, w1⟩ := DataW.trod_string Tryd.underlying9 hy1
  simp at e1
  subst e1
  exact ⟨i, s, rfl⟩
end Go.Proofs.YtgpghdhkbliodaaDoor
