/- The statement of entries in bytes, and read from any text. -/
import Derived.Test.YtgpghdhkbliodaaDoorHNaDecode
import Derived.Handy
import Derived.Test.YtgpghdhkbliodaaDoorHNaLeaf
import Derived.Test.YtgpghdhkbliodaaDoorHBytesRef

namespace Go.Proofs.YtgpghdhkbliodaaDoor
set_option maxRecDepth 20000
open Go Go.RowKit
set_option linter.unusedVariables false
set_option linter.unusedSimpArgs false
theorem tb_eq (t : ByteArray) (j : Nat) : byteAt t j = tbyte t j := rfl
theorem dec_long (t : ByteArray) (h64 : t.size = 64) (hn : 56 < at2 t 4) : decOk t = false := by
  have hz : (decS t).size = 56 := by
    unfold decS
    rw [ByteArray.size_extract]
    omega
  cases hq : decOk t
  · rfl
  · exfalso
    unfold decOk at hq
    rw [Bool.and_eq_true] at hq
    have h1 := of_decide_eq_true hq.1
    have h2 : (encT (decI t) (decS t)).toList = t.toList := by simpa using hq.2
    rw [Lib.toList_data, Lib.toList_data] at h2
    unfold encT at h2
    rw [if_pos h1] at h2
    have h4 : tbyte t 4 = 56 := by
      have : tbyte (strN (entF ((decI t : Int)).toNat (decS t)) 64) 4 = tbyte t 4 := by unfold tbyte; rw [h2]
      rw [← this, strN_at _ _ _ (by decide) (entF_lt _ _ _)]
      unfold entF
      rw [if_neg (by decide), if_pos (by decide), hz]; rfl
    have h5 : tbyte t 5 = 0 := by
      have : tbyte (strN (entF ((decI t : Int)).toNat (decS t)) 64) 5 = tbyte t 5 := by unfold tbyte; rw [h2]
      rw [← this, strN_at _ _ _ (by decide) (entF_lt _ _ _)]
      unfold entF
      rw [if_neg (by decide), if_pos (by decide), hz]; rfl
    unfold at2 le2 at hn
    rw [tb_eq, tb_eq, h4, h5] at hn
    omega
section
variable (s : ByteArray)
set_option maxHeartbeats 4000000 in
theorem rdecode_bad (a : Int) (h : ¬ (0 ≤ a ∧ a ≤ (s.size : Int) - 64)) (hs : s.size ≤ 4611686018427387904) (w : World) :
    Calls Tryd.prog 10 #[.string s, .int .i64 a] w fun e w' => e = retD (0, ⟨#[]⟩, false, 131) ∧ Below w.heap.size w w' := by
  have hb0 := below_new1 w (.cells #[.int .i64 0, .string ⟨#[]⟩] 29)
  have hk0 : Blk (w.alloc (.cells #[.int .i64 0, .string ⟨#[]⟩] 29)) w.heap.size 29 #[.int .i64 0, .string ⟨#[]⟩] := Blk.new _ _ _
  have H0 : Hid (_ ∧ _) := ⟨hb0, hk0⟩
  clear hb0 hk0
  by_cases h1 : a < 0
  · clear h
    go_enter Tryd.func10, Tryd.ntmps10
    go_wp2_with fail
    try simp only [Exit.inBlock, Exit.then]
    refine bodyPost_ret (res_row3 Tryd.results10 _ _ w.heap.size 29 #[.int .i64 0, .string ⟨#[]⟩] (0, 0) _ rfl H0.out.2 Tryd.underlying29 rfl (sizeRLk.trans (by rfl))) rfl ?_
    exact ⟨rfl, H0.out.1⟩
  · by_cases h2 : (s.size : Int) < a
    · clear h
      go_enter Tryd.func10, Tryd.ntmps10
      go_wp2_with fail
      try simp only [Exit.inBlock, Exit.then]
      refine bodyPost_ret (res_row3 Tryd.results10 _ _ w.heap.size 29 #[.int .i64 0, .string ⟨#[]⟩] (0, 0) _ rfl H0.out.2 Tryd.underlying29 rfl (sizeRLk.trans (by rfl))) rfl ?_
      exact ⟨rfl, H0.out.1⟩
    · have h3 : (s.size : Int) - a < 64 := by omega
      clear h
      go_enter Tryd.func10, Tryd.ntmps10
      go_wp2_with fail
      try simp only [Exit.inBlock, Exit.then]
      refine bodyPost_ret (res_row3 Tryd.results10 _ _ w.heap.size 29 #[.int .i64 0, .string ⟨#[]⟩] (0, 0) _ rfl H0.out.2 Tryd.underlying29 rfl (sizeRLk.trans (by rfl))) rfl ?_
      exact ⟨rfl, H0.out.1⟩
theorem all_take_succ (l : List UInt8) (i : Nat) (x : UInt8) (h : l[i]? = some x) : (l.take (i + 1)).all (· == 0) = ((l.take i).all (· == 0) && (x == 0)) := by
  rw [List.take_add_one, h]; simp
set_option maxHeartbeats 4000000 in
theorem rdecode_fit (a : Nat) (h : a + 64 ≤ s.size) (hs : s.size ≤ 4611686018427387904) (t : ByteArray) (ht : s.extract a (a + 64) = t) (w : World) :
    Calls Tryd.prog 10 #[.string s, .int .i64 (a : Int)] w fun e w' => e = retD (if zT t = true then (0, ⟨#[]⟩, false, 0) else if decOk t = true then ((decI t : Int), decS t, true, 0) else (0, ⟨#[]⟩, false, 131)) ∧ Below w.heap.size w w' := by
  have h64 : t.size = 64 := by rw [← ht, ByteArray.size_extract]; omega
  have HSL : Hid (t.size = t.data.toList.length) := Lib.size_eq t
  have HT4 : Hid (∀ w : World, Calls Tryd.prog 30 #[.string t, .int .i64 0, .int .i64 4] w fun e w' => e = .returned (.tuple #[.int .u64 (at4 t 0 : Int), .bool true]) ∧ Below w.heap.size w w') := refTake32_yes t 0 (by rw [h64]; decide) (by omega)
  have HT2 : Hid (∀ w : World, Calls Tryd.prog 30 #[.string t, .int .i64 4, .int .i64 2] w fun e w' => e = .returned (.tuple #[.int .u64 (at2 t 4 : Int), .bool true]) ∧ Below w.heap.size w w') := refTake16_yes t 4 (by rw [h64]; decide) (by omega)
  have hlt : at2 t 4 < 65536 := by
    have h1 : ∀ j, byteAt t j < 256 := fun j => UInt8.toNat_lt _
    have := h1 4; have := h1 (4 + 1)
    unfold at2 le2
    omega
  have hl4 : at4 t 0 < 4294967296 := by
    have h1 : ∀ j, byteAt t j < 256 := fun j => UInt8.toNat_lt _
    have := h1 0; have := h1 (0 + 1); have := h1 (0 + 2); have := h1 (0 + 3)
    unfold at4 le4
    omega
  have HLN : Hid (56 < at2 t 4 → decOk t = false) := dec_long t h64
  have HDS : Hid (at2 t 4 ≤ 56 → decS t = t.extract 8 (8 + at2 t 4)) := fun h => by
    unfold decS; rw [Nat.min_eq_left (by omega)]
  have HDI : Hid (decI t = at4 t 0) := rfl
  have HE : Hid (∀ w : World, Calls Tryd.prog 8 #[.agg #[.int .i64 (decI t : Int), .string (decS t)]] w fun e w' => e = .returned (.tuple #[.string (encT (decI t) (decS t)), .int .i64 (encE (decI t) (decS t))]) ∧ Below w.heap.size w w') := rencode_any _ _
  have HOK : Hid (decOk t = (decide (encE (decI t) (decS t) = 0) && (encT (decI t) (decS t)).toList == t.toList)) := rfl
  have HZT : Hid ((t.data.toList.take 64).all (· == 0) = zT t) := by
    show _ = _
    unfold zT
    rw [List.take_of_length_le (by rw [← HSL.out, h64]; decide)]
  generalize hok : decOk t = ok at *
  generalize zT t = z at *
  generalize encE (decI t) (decS t) = ee at *
  generalize encT (decI t) (decS t) = et at *
  rw [HDI.out] at HE ⊢
  generalize decS t = ds at *
  generalize at4 t 0 = di at *
  generalize at2 t 4 = n at *
  clear hok HDI
  have hb0 := below_new1 w (.cells #[.int .i64 0, .string ⟨#[]⟩] 29)
  have hk0 : Blk (w.alloc (.cells #[.int .i64 0, .string ⟨#[]⟩] 29)) w.heap.size 29 #[.int .i64 0, .string ⟨#[]⟩] := Blk.new _ _ _
  have H0 : Hid (_ ∧ _) := ⟨hb0, hk0⟩
  clear hb0 hk0
  have a1 : ¬ ((a : Int) < 0) := by omega
  have a2 : ¬ ((s.size : Int) < (a : Int)) := by omega
  have a3 : ¬ ((s.size : Int) - (a : Int) < 64) := by omega
  have hw2 : IntKind.i64.wrap ((a : Int) + 64) = (a : Int) + 64 := wrap_small _ (by omega) (by omega)
  generalize hres : (if z = true then ((0 : Int), (⟨#[]⟩ : ByteArray), false, (0 : Int)) else if ok = true then ((di : Int), ds, true, 0) else (0, ⟨#[]⟩, false, 131)) = res
  have HRES : Hid ((if z = true then ((0 : Int), (⟨#[]⟩ : ByteArray), false, (0 : Int)) else if ok = true then ((di : Int), ds, true, 0) else (0, ⟨#[]⟩, false, 131)) = res) := hres
  clear hres
  go_enter Tryd.func10, Tryd.ntmps10
  go_wp2_with fail
  generalize w.alloc (.cells #[.int .i64 0, .string ⟨#[]⟩] 29) = w1 at H0 ⊢
  go_loop [8, 9] (fun v8 v9 => Hid (∃ (i : Nat) (q : Bool), i ≤ 64 ∧ v8 = .bool q ∧ v9 = .int .i64 (i : Int) ∧ (t.data.toList.take i).all (· == 0) = q)) (fun _ v9 => 64 - (intOf v9).toNat)
  case atStart => exact ⟨0, true, by omega, rfl, rfl, rfl⟩
  case round =>
    obtain ⟨i, q, hi, rfl, rfl, hall⟩ := Hid.out hrel
    have HALL : Hid ((t.data.toList.take i).all (· == 0) = q) := hall
    clear hrel hall
    by_cases h1 : i < 64
    · have i1 : (i : Int) < 64 := by omega
      have i2 : (i : Int) < (t.size : Int) := by omega
      have i3 : i < t.size := by omega
      obtain ⟨x, hx⟩ : ∃ x : UInt8, t[i]'i3 = x := ⟨_, rfl⟩
      have HN : Hid ((t.data.toList.take (i + 1)).all (· == 0) = (q && (x == 0))) := by
        show _ = _
        rw [all_take_succ _ i x (by rw [← hx]; exact Lib.data_getElem? t i i3), HALL.out]
      cases q
      · simp only [Bool.false_and] at HN
        go_wp2_with fail
        go_round
        case rel => exact ⟨i + 1, false, by omega, by first | rfl | simp, by first | rfl | go_num | simp, HN.out⟩
        case measure => simp [intOf]; omega
      · simp only [Bool.true_and] at HN
        have hbe : ((x.toNat : Int) == 0) = (x == 0) := by
          by_cases hx0 : x = 0
          · rw [hx0]; rfl
          · rw [show (x == 0) = false from by simpa using hx0]
            exact ubeq_ne hx0
        generalize (x == 0) = xb at hbe HN
        go_wp2_with fail
        go_round
        case rel => exact ⟨i + 1, xb, by omega, by first | rfl | simp, by first | rfl | go_num | simp, HN.out⟩
        case measure => simp [intOf]; omega
    · obtain rfl : i = 64 := by omega
      have i1 : ¬ ((64 : Int) < 64) := by omega
      obtain rfl : z = q := HZT.out.symm.trans HALL.out
      clear HALL HZT
      cases z
      · simp only [Bool.false_eq_true, if_false] at HRES
        go_wp2_with fail
        refine (HT4.out _).mono ?_
        intro e w2 hv2
        obtain ⟨he2, hb2⟩ := hv2
        subst he2
        have H2 : Hid (Below w.heap.size w w2 ∧ Blk w2 w.heap.size 29 #[.int .i64 0, .string ⟨#[]⟩]) := ⟨H0.out.1.trans (hb2.mono H0.out.1.size), H0.out.2.below hb2 H0.out.2.lt⟩
        clear hb2 H0
        go_wp2_with fail
        refine (HT2.out _).mono ?_
        intro e w3 hv3
        obtain ⟨he3, hb3⟩ := hv3
        subst he3
        have H3 : Hid (Below w.heap.size w w3 ∧ Blk w3 w.heap.size 29 #[.int .i64 0, .string ⟨#[]⟩]) := ⟨H2.out.1.trans (hb3.mono H2.out.1.size), H2.out.2.below hb3 H2.out.2.lt⟩
        clear hb3 H2
        by_cases hn : 56 < n
        · have n1 : (56 : Int) < (n : Int) := by omega
          obtain rfl : ok = false := HLN.out hn
          obtain rfl : (0, ⟨#[]⟩, false, 131) = res := HRES.out
          have c0 : w3.cell? ⟨w.heap.size, 0, none⟩ = some (.int .i64 0) := H3.out.2.cell 0
          have c1 : w3.cell? ⟨w.heap.size, 1, none⟩ = some (.string ⟨#[]⟩) := H3.out.2.cell 1
          have f0 : w3.frozen? ⟨w.heap.size, 0, none⟩ = false := H3.out.2.frozen 0
          have f1 : w3.frozen? ⟨w.heap.size, 1, none⟩ = false := H3.out.2.frozen 1
          go_wp2_with fail
          try simp only [Exit.inBlock, Exit.then]
          refine bodyPost_ret (res_row3 Tryd.results10 _ _ w.heap.size 29 #[.int .i64 0, .string ⟨#[]⟩] (0, 0) _ rfl ((H3.out.2.put 0 (.int .i64 0)).put 1 (.string ⟨#[]⟩)) Tryd.underlying29 rfl (sizeRLk.trans (by rfl))) rfl ?_
          exact ⟨rfl, (H3.out.1.setCell (Nat.le_refl _) _).setCell (Nat.le_refl _) _⟩
        · have n1 : ¬ ((56 : Int) < (n : Int)) := by omega
          have hds : t.extract 8 (8 + n) = ds := (HDS.out (by omega)).symm
          have hwn : IntKind.i64.wrap (n : Int) = (n : Int) := wrap_small _ (by omega) (by omega)
          have hwi : IntKind.i64.wrap (di : Int) = (di : Int) := wrap_small _ (by omega) (by omega)
          have H4 : Hid (Below w.heap.size w (w3.alloc (.cells #[.int .i64 (di : Int), .string ds] 29)) ∧ Blk (w3.alloc (.cells #[.int .i64 (di : Int), .string ds] 29)) w.heap.size 29 #[.int .i64 0, .string ⟨#[]⟩] ∧ Blk (w3.alloc (.cells #[.int .i64 (di : Int), .string ds] 29)) w3.heap.size 29 #[.int .i64 (di : Int), .string ds] ∧ w.heap.size < w3.heap.size) :=
            ⟨H3.out.1.alloc H3.out.1.size _, H3.out.2.alloc _, Blk.new _ _ _, H3.out.2.lt⟩
          clear H3
          go_wp2_with fail
          generalize w3.alloc (.cells #[.int .i64 (di : Int), .string ds] 29) = w4 at H4 ⊢
          refine (HE.out _).mono ?_
          intro e w5 hv5
          obtain ⟨he5, hb5⟩ := hv5
          subst he5
          have H5 : Hid (Below w.heap.size w w5 ∧ Blk w5 w.heap.size 29 #[.int .i64 0, .string ⟨#[]⟩] ∧ Blk w5 w3.heap.size 29 #[.int .i64 (di : Int), .string ds] ∧ w.heap.size < w3.heap.size) :=
            ⟨H4.out.1.trans (hb5.mono H4.out.1.size), H4.out.2.1.below hb5 H4.out.2.1.lt, H4.out.2.2.1.below hb5 H4.out.2.2.1.lt, H4.out.2.2.2⟩
          clear hb5 H4
          by_cases q1 : ee = 0
          · have b1 : (ee != 0) = false := by rw [q1]; rfl
            cases q2 : (et.toList == t.toList)
            · obtain rfl : ok = false := by rw [HOK.out, q1, q2]; rfl
              obtain rfl : (0, ⟨#[]⟩, false, 131) = res := HRES.out
              clear q1
              have c0 : w5.cell? ⟨w.heap.size, 0, none⟩ = some (.int .i64 0) := H5.out.2.1.cell 0
              have c1 : w5.cell? ⟨w.heap.size, 1, none⟩ = some (.string ⟨#[]⟩) := H5.out.2.1.cell 1
              have f0 : w5.frozen? ⟨w.heap.size, 0, none⟩ = false := H5.out.2.1.frozen 0
              have f1 : w5.frozen? ⟨w.heap.size, 1, none⟩ = false := H5.out.2.1.frozen 1
              go_wp2_with fail
              try simp only [Exit.inBlock, Exit.then]
              refine bodyPost_ret (res_row3 Tryd.results10 _ _ w.heap.size 29 #[.int .i64 0, .string ⟨#[]⟩] (0, 0) _ rfl ((H5.out.2.1.put 0 (.int .i64 0)).put 1 (.string ⟨#[]⟩)) Tryd.underlying29 rfl (sizeRLk.trans (by rfl))) rfl ?_
              exact ⟨rfl, (H5.out.1.setCell (Nat.le_refl _) _).setCell (Nat.le_refl _) _⟩
            · obtain rfl : ok = true := by rw [HOK.out, q1, q2]; rfl
              obtain rfl : ((di : Int), ds, true, 0) = res := HRES.out
              clear q1
              have c0 : w5.cell? ⟨w.heap.size, 0, none⟩ = some (.int .i64 0) := H5.out.2.1.cell 0
              have c1 : w5.cell? ⟨w.heap.size, 1, none⟩ = some (.string ⟨#[]⟩) := H5.out.2.1.cell 1
              have f0 : w5.frozen? ⟨w.heap.size, 0, none⟩ = false := H5.out.2.1.frozen 0
              have f1 : w5.frozen? ⟨w.heap.size, 1, none⟩ = false := H5.out.2.1.frozen 1
              have x0 : w5.cell? ⟨w3.heap.size, 0, none⟩ = some (.int .i64 (di : Int)) := H5.out.2.2.1.cell 0
              have x1 : w5.cell? ⟨w3.heap.size, 1, none⟩ = some (.string ds) := H5.out.2.2.1.cell 1
              go_wp2_with fail
              try simp only [Exit.inBlock, Exit.then]
              refine bodyPost_ret (res_row3 Tryd.results10 _ _ w.heap.size 29 #[.int .i64 (di : Int), .string ds] (0, 0) _ rfl ((H5.out.2.1.put 0 (.int .i64 (di : Int))).put 1 (.string ds)) Tryd.underlying29 rfl (sizeRLk.trans (by rfl))) rfl ?_
              exact ⟨rfl, (H5.out.1.setCell (Nat.le_refl _) _).setCell (Nat.le_refl _) _⟩
          · have b1 : (ee != 0) = true := bne_iff_ne.2 q1
            obtain rfl : ok = false := by rw [HOK.out, decide_eq_false q1]; rfl
            obtain rfl : (0, ⟨#[]⟩, false, 131) = res := HRES.out
            clear q1
            have c0 : w5.cell? ⟨w.heap.size, 0, none⟩ = some (.int .i64 0) := H5.out.2.1.cell 0
            have c1 : w5.cell? ⟨w.heap.size, 1, none⟩ = some (.string ⟨#[]⟩) := H5.out.2.1.cell 1
            have f0 : w5.frozen? ⟨w.heap.size, 0, none⟩ = false := H5.out.2.1.frozen 0
            have f1 : w5.frozen? ⟨w.heap.size, 1, none⟩ = false := H5.out.2.1.frozen 1
            go_wp2_with fail
            try simp only [Exit.inBlock, Exit.then]
            refine bodyPost_ret (res_row3 Tryd.results10 _ _ w.heap.size 29 #[.int .i64 0, .string ⟨#[]⟩] (0, 0) _ rfl ((H5.out.2.1.put 0 (.int .i64 0)).put 1 (.string ⟨#[]⟩)) Tryd.underlying29 rfl (sizeRLk.trans (by rfl))) rfl ?_
            exact ⟨rfl, (H5.out.1.setCell (Nat.le_refl _) _).setCell (Nat.le_refl _) _⟩
      · obtain rfl : (0, ⟨#[]⟩, false, 0) = res := HRES.out
        have c0 : w1.cell? ⟨w.heap.size, 0, none⟩ = some (.int .i64 0) := H0.out.2.cell 0
        have c1 : w1.cell? ⟨w.heap.size, 1, none⟩ = some (.string ⟨#[]⟩) := H0.out.2.cell 1
        have f0 : w1.frozen? ⟨w.heap.size, 0, none⟩ = false := H0.out.2.frozen 0
        have f1 : w1.frozen? ⟨w.heap.size, 1, none⟩ = false := H0.out.2.frozen 1
        go_wp2_with fail
        try simp only [Exit.inBlock, Exit.then]
        refine bodyPost_ret (res_row3 Tryd.results10 _ _ w.heap.size 29 #[.int .i64 0, .string ⟨#[]⟩] (0, 0) _ rfl ((H0.out.2.put 0 (.int .i64 0)).put 1 (.string ⟨#[]⟩)) Tryd.underlying29 rfl (sizeRLk.trans (by rfl))) rfl ?_
        exact ⟨rfl, (H0.out.1.setCell (Nat.le_refl _) _).setCell (Nat.le_refl _) _⟩
theorem rdecode_any (a : Int) (hs : s.size ≤ 4611686018427387904) (w : World) :
    Calls Tryd.prog 10 #[.string s, .int .i64 a] w fun e w' => e = retD (decV s a) ∧ Below w.heap.size w w' := by
  by_cases h : 0 ≤ a ∧ a ≤ (s.size : Int) - 64
  · obtain ⟨n, rfl⟩ : ∃ n : Nat, a = (n : Int) := ⟨a.toNat, by omega⟩
    unfold decV
    rw [if_pos h, Int.toNat_natCast]
    exact rdecode_fit s n (by omega) hs _ rfl w
  · unfold decV
    rw [if_neg h]
    exact rdecode_bad s a h hs w
end
end Go.Proofs.YtgpghdhkbliodaaDoor

namespace Go.Proofs.YtgpghdhkbliodaaDoor
set_option maxRecDepth 20000
open Go Go.RowKit
set_option linter.unusedVariables false
set_option linter.unusedSimpArgs false
theorem sizeB256 : (Tryd.prog.info? 39).map (·.size) = some 256 := by kernel_rfl
theorem zero_b256 (w : World) : (zeroValue 39).run Tryd.prog w = .ok (.agg (va 256 (iv .u8 fun _ => 0))) w := by
  have h : (Tryd.prog.info? 39).bind (·.zero) = some (.agg (va 256 (iv .u8 fun _ => 0))) := by kernel_rfl
  cases hq : Tryd.prog.info? 39 with
  | none => simp [hq] at h
  | some i =>
    have hi : i.zero = some (.agg (va 256 (iv .u8 fun _ => 0))) := by simpa [hq] using h
    simp [zeroValue, typeInfo, hq, hi]
theorem put_more (p : Nat → Nat) (r k : Nat) (b : Nat → Nat) (j : Nat) : (if j = r + k then b k else putAt p r k b j) = putAt p r (k + 1) b j := by
  unfold putAt
  by_cases h : j = r + k
  · rw [if_pos h, if_pos (by omega)]; congr 1; omega
  · rw [if_neg h]
    by_cases h2 : r ≤ j ∧ j < r + k
    · rw [if_pos h2, if_pos (by omega)]
    · rw [if_neg h2, if_neg (by omega)]
theorem put_none (p : Nat → Nat) (r : Nat) (b : Nat → Nat) : putAt p r 0 b = p := by
  funext j; unfold putAt; rw [if_neg (by omega)]
set_option maxHeartbeats 4000000 in
theorem rleaf_many (a : Option Addr) (n c : Nat) (h : 4 < n) (hn : n ≤ 4611686018427387904) (w : World) :
    Calls Tryd.prog 14 #[.slice a n c] w fun e w' => e = .returned (.tuple #[bkV fun _ => 0, .int .i64 1]) ∧ Below w.heap.size w w' := by
  have hz := zero_b256
  unfold bkV
  have hk0 : Blk ((w.alloc (.cells (va 256 (iv .u8 fun _ => 0)) 39)).alloc (.cells (va 256 (iv .u8 fun _ => 0)) 39)) w.heap.size 39 (va 256 (iv .u8 fun _ => 0)) := (Blk.new _ _ _).alloc _
  have hk1 := Blk.new1 w (.cells (va 256 (iv .u8 fun _ => 0)) 39) 39 (va 256 (iv .u8 fun _ => 0))
  have HB : Hid (Below w.heap.size w ((w.alloc (.cells (va 256 (iv .u8 fun _ => 0)) 39)).alloc (.cells (va 256 (iv .u8 fun _ => 0)) 39))) := below_new2 _ _ _
  have h1 : (4 : Int) < (n : Int) := by omega
  go_enter Tryd.func14, Tryd.ntmps14
  have hk2 := hk1.set (va 256 (iv .u8 fun _ => 0))
  have hk3 := hk0.other (g := w.heap.size + 1) (va 256 (iv .u8 fun _ => 0)) (by omega)
  have HB2 : Hid (Below w.heap.size w (((w.alloc (.cells (va 256 (iv .u8 fun _ => 0)) 39)).alloc (.cells (va 256 (iv .u8 fun _ => 0)) 39)).setRow (w.heap.size + 1) (va 256 (iv .u8 fun _ => 0)))) := below_setRow HB.out (Nat.le_succ _) _
  go_wp2_with (first
    | (refine wpList_store_row (by rfl) 39 _ _ (by rfl) (w.heap.size + 1) (va 256 (iv .u8 (fun _ => 0))) (by rfl) (by rfl) 39 _ hk1 (sizeB256.trans (by rw [va_size])) (by simp only [va_size]) (iv_one _ _ _) ?_; simp only [Act.put, List.setIfInBounds_toArray, List.set_cons_zero, List.set_cons_succ])
    | (refine wpList_load_row (by rfl) 39 _ (by rfl) (w.heap.size + 1) (by rfl) 39 (va 256 (iv .u8 (fun _ => 0))) (0, 0) _ hk2 Tryd.underlying39 (by rfl) (sizeB256.trans (by rw [va_size])) ?_; simp only [Act.put, List.setIfInBounds_toArray, List.set_cons_zero, List.set_cons_succ])
    | (refine wpList_store_row (by rfl) 39 _ _ (by rfl) (w.heap.size) (va 256 (iv .u8 (fun _ => 0))) (by rfl) (by rfl) 39 _ hk3 (sizeB256.trans (by rw [va_size])) (by simp only [va_size]) (iv_one _ _ _) ?_; simp only [Act.put, List.setIfInBounds_toArray, List.set_cons_zero, List.set_cons_succ])
    | fail)
  try simp only [Exit.inBlock, Exit.then]
  refine bodyPost_ret (results_row2 Tryd.results14 _ _ (w.heap.size) 39 (va 256 (iv .u8 (fun _ => 0))) (0, 0) _ rfl (hk3.set _) Tryd.underlying39 rfl (sizeB256.trans (by rw [va_size]))) rfl ?_
  exact ⟨rfl, below_setRow HB2.out (Nat.le_refl _) _⟩
set_option maxHeartbeats 4000000 in
theorem rleaf_any (a : Option Addr) (n c : Nat) (h4 : n ≤ 4) (N : Nat → Int) (S : Nat → ByteArray) (w : World) (hI : IsLks w a n N S) :
    Calls Tryd.prog 14 #[.slice a n c] w fun e w' => e = .returned (.tuple #[bkV (if leE N S n = 0 then leF N S n else fun _ => 0), .int .i64 (leE N S n)]) ∧ Below w.heap.size w w' := by
  have hz := zero_b256
  have HI : Hid (∀ p, p < n → ∃ g, a = some ⟨g, 0, none⟩ ∧ g < w.heap.size ∧ w.cell? ⟨g, p * 2, none⟩ = some (.int .i64 (N p)) ∧ w.cell? ⟨g, p * 2 + 1, none⟩ = some (.string (S p))) := fun p hp => by
    obtain ⟨g, h1, h2, h3⟩ := hI (by omega)
    exact ⟨g, h1, h2, (h3 p hp).1, (h3 p hp).2⟩
  clear hI
  have HE : Hid (∀ (p : Nat) (w : World), Calls Tryd.prog 8 #[.agg #[.int .i64 (N p), .string (S p)]] w fun e w' => e = .returned (.tuple #[.string (encT (N p) (S p)), .int .i64 (encE (N p) (S p))]) ∧ Below w.heap.size w w') := fun p => rencode_any (N p) (S p)
  have HSZ : Hid (∀ p, encE (N p) (S p) = 0 → (encT (N p) (S p)).size = 64) := fun p he => by unfold encT; rw [if_pos he, strN_size]
  have HFN : Hid (∀ p, leF N S (p + 1) = putAt (leF N S p) (p * 64) 64 (tbyte (encT (N p) (S p)))) := fun p => rfl
  have HK : Hid (∀ p, leE N S (p + 1) = if leE N S p ≠ 0 then leE N S p else encE (N p) (S p)) := fun p => rfl
  have HM : Hid (∀ p, p ≤ n → leE N S p ≠ 0 → leE N S n = leE N S p) := fun p hp h => leE_more N S hp h
  generalize hre : leE N S n = re
  generalize hrf : (if re = 0 then leF N S n else fun _ => 0) = rf
  have HRE : Hid (leE N S n = re) := hre
  have HRF : Hid ((if re = 0 then leF N S n else fun _ => 0) = rf) := hrf
  clear hre hrf
  unfold bkV
  have hk0 : Blk ((w.alloc (.cells (va 256 (iv .u8 fun _ => 0)) 39)).alloc (.cells (va 256 (iv .u8 fun _ => 0)) 39)) w.heap.size 39 (va 256 (iv .u8 fun _ => 0)) := (Blk.new _ _ _).alloc _
  have hk1 := Blk.new1 w (.cells (va 256 (iv .u8 fun _ => 0)) 39) 39 (va 256 (iv .u8 fun _ => 0))
  have hb0 := below_new2 w (.cells (va 256 (iv .u8 fun _ => 0)) 39) (.cells (va 256 (iv .u8 fun _ => 0)) 39)
  have H0 : Hid (_ ∧ _ ∧ _) := ⟨hk0.other (g := w.heap.size + 1) (va 256 (iv .u8 fun _ => 0)) (by omega), hk1.set (va 256 (iv .u8 fun _ => 0)), below_setRow hb0 (Nat.le_succ _) (va 256 (iv .u8 fun _ => 0))⟩
  clear hk0 hb0
  have h1 : ¬ ((4 : Int) < (n : Int)) := by omega
  go_enter Tryd.func14, Tryd.ntmps14
  go_wp2_with (first
    | (refine wpList_store_row (by rfl) 39 _ _ (by rfl) (w.heap.size + 1) (va 256 (iv .u8 (fun _ => 0))) (by rfl) (by rfl) 39 _ hk1 (sizeB256.trans (by rw [va_size])) (by simp only [va_size]) (iv_one _ _ _) ?_; simp only [Act.put, List.setIfInBounds_toArray, List.set_cons_zero, List.set_cons_succ])
    | fail)
  generalize ((w.alloc (.cells (va 256 (iv .u8 fun _ => 0)) 39)).alloc (.cells (va 256 (iv .u8 fun _ => 0)) 39)).setRow (w.heap.size + 1) (va 256 (iv .u8 fun _ => 0)) = w1 at H0 ⊢
  clear hk1
  go_wp2_with fail
  go_loopw [5] (fun v wr => Hid (∃ p : Nat, p ≤ n ∧ v = .int .i64 (p : Int) ∧ leE N S p = 0 ∧ Blk wr w.heap.size 39 (va 256 (iv .u8 fun _ => 0)) ∧ Blk wr (w.heap.size + 1) 39 (va 256 (iv .u8 (leF N S p))) ∧ Below w.heap.size w wr)) (fun v _ => n - (intOf v).toNat)
  case atStart => exact ⟨0, by omega, rfl, rfl, H0.out⟩
  case round =>
    obtain ⟨p, hp, rfl, hle, hb0, hb1, hbel⟩ := Hid.out hrel
    rename World => W1
    have H2 : Hid (leE N S p = 0 ∧ Blk W1 w.heap.size 39 (va 256 (iv .u8 fun _ => 0)) ∧ Blk W1 (w.heap.size + 1) 39 (va 256 (iv .u8 (leF N S p))) ∧ Below w.heap.size w W1) := ⟨hle, hb0, hb1, hbel⟩
    clear hrel hle hb0 hb1 hbel H0
    by_cases hpn : p < n
    · have p1 : (p : Int) < (n : Int) := by omega
      obtain ⟨g, rfl, hg, g0, g1⟩ := HI.out p hpn
      have c0 : W1.cell? ⟨g, p * 2, none⟩ = some (.int .i64 (N p)) := (H2.out.2.2.2.cell hg).trans g0
      have c1 : W1.cell? ⟨g, p * 2 + 1, none⟩ = some (.string (S p)) := (H2.out.2.2.2.cell hg).trans g1
      clear g0 g1
      have HEp := HE.out p
      have HZp := HSZ.out p
      have HFp := HFN.out p
      have HLE : Hid (leE N S p = 0) := H2.out.1
      have HKp : Hid (leE N S (p + 1) = encE (N p) (S p)) := by show _ = _; rw [HK.out p, if_neg (by simp [HLE.out])]
      generalize encE (N p) (S p) = ee at HEp HZp HKp
      generalize encT (N p) (S p) = et at HEp HZp HFp
      have HFq : Hid (leF N S (p + 1) = putAt (leF N S p) (p * 64) 64 (tbyte et)) := HFp
      clear HFp
      go_wp2_with fail
      refine (HEp _).mono ?_
      intro e w3 hv3
      obtain ⟨he3, hb3⟩ := hv3
      subst he3
      have H4 : Hid (Blk w3 w.heap.size 39 (va 256 (iv .u8 fun _ => 0)) ∧ Blk w3 (w.heap.size + 1) 39 (va 256 (iv .u8 (leF N S p))) ∧ Below w.heap.size w w3) := ⟨H2.out.2.1.below hb3 H2.out.2.1.lt, H2.out.2.2.1.below hb3 H2.out.2.2.1.lt, H2.out.2.2.2.trans (hb3.mono H2.out.2.2.2.size)⟩
      clear hb3 H2 c0 c1
      by_cases e0 : ee = 0
      · have b0 : (ee != 0) = false := by rw [e0]; rfl
        have hsz := HZp e0
        have HF : Hid (leE N S (p + 1) = 0) := HKp.out.trans e0
        clear e0 HZp
        obtain ⟨F1, HF1⟩ : ∃ F, Hid (leF N S p = F) := ⟨_, rfl⟩
        rw [HF1.out] at H4 HFq
        go_wp2_with fail
        go_loopw [8] (fun v wx => Hid (∃ k : Nat, k ≤ 64 ∧ v = .int .i64 (k : Int) ∧ Blk wx w.heap.size 39 (va 256 (iv .u8 fun _ => 0)) ∧ Blk wx (w.heap.size + 1) 39 (va 256 (iv .u8 (putAt F1 (p * 64) k (tbyte et)))) ∧ Below w.heap.size w wx)) (fun v _ => 64 - (intOf v).toNat)
        case atStart => exact ⟨0, by omega, rfl, H4.out.1, by rw [put_none]; exact H4.out.2.1, H4.out.2.2⟩
        case round =>
          obtain ⟨k, hk, rfl, hc0, hc1, hcb⟩ := Hid.out hrel
          clear hrel H4
          by_cases hk64 : k < 64
          · have k1 : (k : Int) < 64 := by omega
            have H7 : Hid (Blk wr w.heap.size 39 (va 256 (iv .u8 fun _ => 0)) ∧ Blk wr (w.heap.size + 1) 39 (va 256 (iv .u8 (putAt F1 (p * 64) k (tbyte et)))) ∧ Below w.heap.size w wr) := ⟨hc0, hc1, hcb⟩
            have hcell : wr.cell? ⟨w.heap.size + 1, 64 * p + k, none⟩ = some (.int .u8 ((putAt F1 (p * 64) k (tbyte et) (64 * p + k) : Nat) : Int)) := hc1.cv (by omega)
            have hfr : wr.frozen? ⟨w.heap.size + 1, 64 * p + k, none⟩ = false := hc1.frozen _
            have hke : k < et.size := by omega
            have k2 : (k : Int) < (et.size : Int) := by omega
            obtain ⟨xb, hxb⟩ : ∃ x : UInt8, et[k]'hke = x := ⟨_, rfl⟩
            have HXB : Hid (tbyte et k = xb.toNat) := by
              show _ = _
              rw [← hxb]; exact byteAt_get et k hke
            clear hc0 hc1 hcb
            generalize putAt F1 (p * 64) k (tbyte et) (64 * p + k) = old at hcell
            go_wp2_with fail
            go_roundw
            case rel =>
              refine ⟨k + 1, by omega, by first | rfl | go_num | simp, H7.out.1.put_other _ _ (by omega), ?_, H7.out.2.2.setCell (Nat.le_succ _) _⟩
              have h9 := H7.out.2.1.put (64 * p + k) (.int .u8 ((xb.toNat : Nat) : Int))
              rw [va_set, upd_iv] at h9
              have h10 : va 256 (iv .u8 (updN (putAt F1 (p * 64) k (tbyte et)) (64 * p + k) xb.toNat)) = va 256 (iv .u8 (putAt F1 (p * 64) (k + 1) (tbyte et))) := va_congr fun j _ => by
                unfold iv
                congr 2
                show (if j = 64 * p + k then xb.toNat else putAt F1 (p * 64) k (tbyte et) j) = _
                rw [← put_more, HXB.out, Nat.mul_comm 64 p]
              rw [h10] at h9
              exact h9
            case measure => simp [intOf]; omega
          · obtain rfl : k = 64 := by omega
            have k1 : ¬ ((64 : Int) < 64) := by omega
            have H7 : Hid (_ ∧ _ ∧ _) := ⟨hc0, hc1, hcb⟩
            clear hc0 hc1 hcb
            go_wp2_with fail
            go_roundw
            case rel => exact ⟨p + 1, by omega, by first | rfl | go_num | simp, HF.out, H7.out.1, by rw [HFq.out]; exact H7.out.2.1, H7.out.2.2⟩
            case measure => simp [intOf]; omega
      · have b0 : (ee != 0) = true := bne_iff_ne.2 e0
        have k0 := H4.out.1
        obtain rfl : ee = re := by
          have := HM.out (p + 1) (by omega) (by rw [HKp.out]; exact e0)
          rw [HKp.out, HRE.out] at this
          exact this.symm
        obtain rfl : (fun _ => 0) = rf := by rw [← HRF.out, if_neg e0]
        clear e0
        go_wp2_with (first
          | (refine wpList_store_row (by rfl) 39 _ _ (by rfl) (w.heap.size) (va 256 (iv .u8 (fun _ => 0))) (by rfl) (by rfl) 39 _ k0 (sizeB256.trans (by rw [va_size])) (by simp only [va_size]) (iv_one _ _ _) ?_; simp only [Act.put, List.setIfInBounds_toArray, List.set_cons_zero, List.set_cons_succ])
          | fail)
        try simp only [Exit.inBlock, Exit.then]
        refine bodyPost_ret (results_row2 Tryd.results14 _ _ (w.heap.size) 39 (va 256 (iv .u8 (fun _ => 0))) (0, 0) _ rfl (k0.set _) Tryd.underlying39 rfl (sizeB256.trans (by rw [va_size]))) rfl ?_
        exact ⟨rfl, below_setRow H4.out.2.2 (Nat.le_refl _) _⟩
    · obtain rfl : p = n := by omega
      have p1 : ¬ ((p : Int) < (p : Int)) := by omega
      obtain rfl : 0 = re := H2.out.1.symm.trans HRE.out
      have hF : leF N S p = rf := by rw [← HRF.out, if_pos rfl]
      have k0 := H2.out.2.1
      have k1 := H2.out.2.2.1
      rw [hF] at k1
      have HB : Hid (Below w.heap.size w W1) := H2.out.2.2.2
      clear H2 hF HRF HRE
      go_wp2_with (first
        | (refine wpList_load_row (by rfl) 39 _ (by rfl) (w.heap.size + 1) (by rfl) 39 (va 256 (iv .u8 rf)) (0, 0) _ k1 Tryd.underlying39 (by rfl) (sizeB256.trans (by rw [va_size])) ?_; simp only [Act.put, List.setIfInBounds_toArray, List.set_cons_zero, List.set_cons_succ])
        | (refine wpList_store_row (by rfl) 39 _ _ (by rfl) (w.heap.size) (va 256 (iv .u8 rf)) (by rfl) (by rfl) 39 _ k0 (sizeB256.trans (by rw [va_size])) (by simp only [va_size]) (iv_one _ _ _) ?_; simp only [Act.put, List.setIfInBounds_toArray, List.set_cons_zero, List.set_cons_succ])
        | fail)
      try simp only [Exit.inBlock, Exit.then]
      refine bodyPost_ret (results_row2 Tryd.results14 _ _ (w.heap.size) 39 (va 256 (iv .u8 rf)) (0, 0) _ rfl (k0.set _) Tryd.underlying39 rfl (sizeB256.trans (by rw [va_size]))) rfl ?_
      exact ⟨rfl, below_setRow HB.out (Nat.le_refl _) _⟩
end Go.Proofs.YtgpghdhkbliodaaDoor

namespace Go.Proofs.YtgpghdhkbliodaaDoor
set_option maxRecDepth 20000
open Go Go.RowKit
set_option linter.unusedVariables false
set_option linter.unusedSimpArgs false
set_option maxHeartbeats 4000000 in
theorem rfromLeaf_arg (f : Nat → Nat) (n : Int) (h : n < 0 ∨ 4 < n) (w : World) :
    Calls Tryd.prog 17 #[bkV f, .int .i64 n] w fun e w' => (∃ a c, e = .returned (.tuple #[.slice a 0 c, .int .i64 1])) ∧ Below w.heap.size w w' := by
  unfold bkV
  have HB : Hid (Below w.heap.size w ((w.alloc (.cells (va 256 (iv .u8 f)) 39)).alloc (.cells #[] 29))) := below_new2 _ _ _
  by_cases h1 : n < 0
  · clear h
    go_enter Tryd.func17, Tryd.ntmps17
    go_wp2_with fail
    go_ret2
    exact ⟨⟨_, _, rfl⟩, HB.out⟩
  · have h2 : 4 < n := by omega
    clear h
    go_enter Tryd.func17, Tryd.ntmps17
    go_wp2_with fail
    go_ret2
    exact ⟨⟨_, _, rfl⟩, HB.out⟩
set_option maxHeartbeats 4000000 in
theorem rfromLeaf_any (f : Nat → Nat) (hf : ∀ i, f i < 256) (n : Nat) (h4 : n ≤ 4) (w : World) :
    Calls Tryd.prog 17 #[bkV f, .int .i64 (n : Int)] w fun e w' => ((¬ flOk f n 4 ∧ ∃ a c, e = .returned (.tuple #[.slice a 0 c, .int .i64 131])) ∨ (flOk f n 4 ∧ ∃ v, e = .returned (.tuple #[v, .int .i64 0]) ∧ w'.ownsRow (w.heap.size + 1) 29 2 v n (lkL (plI f) (plS f) n))) ∧ Below w.heap.size w w' := by
  obtain ⟨i0, hi, hz0, hz1, hz2⟩ := info_parts infoRLk
  have HD : Hid (∀ p : Nat, p < 4 → ∀ w : World, Calls Tryd.prog 10 #[.string (strN f 256), .int .i64 (64 * (p : Int))] w fun e w' => e = .returned (.tuple #[.agg #[.int .i64 (plI f p), .string (plS f p)], .bool (pl f p).2.2.1, .int .i64 (pl f p).2.2.2]) ∧ Below w.heap.size w w') := fun p hp w => by
    have := rdecode_any (strN f 256) ((p : Int) * 64) (by rw [strN_size]; decide) w
    rw [Int.mul_comm (p : Int) 64] at this
    unfold plI plS pl
    rw [Int.mul_comm (p : Int) 64]
    exact this
  have HLL : Hid (∀ m, lkL (plI f) (plS f) (m + 1) = lkL (plI f) (plS f) m ++ [.int .i64 (plI f m), .string (plS f m)]) := fun m => rfl
  have HK : Hid (∀ p, flOk f n (p + 1) ↔ flOk f n p ∧ (pl f p).2.2.2 = 0 ∧ (pl f p).2.2.1 = decide ((p : Int) < (n : Int))) := fun p => by
    unfold flOk
    constructor
    · intro h; exact ⟨fun q hq => h q (by omega), h p (by omega)⟩
    · rintro ⟨h1, h2⟩ q hq
      by_cases e : q = p
      · subst e; exact h2
      · exact h1 q (by omega)
  have HK4 : Hid (∀ p, p ≤ 4 → flOk f n 4 → flOk f n p) := fun p hp h q hq => h q (by omega)
  unfold bkV
  have hb0 := below_new1 w (.cells (va 256 (iv .u8 f)) 39)
  have hk0 : Blk (w.alloc (.cells (va 256 (iv .u8 f)) 39)) w.heap.size 39 (va 256 (iv .u8 f)) := Blk.new _ _ _
  have H0 : Hid (Below w.heap.size w (w.alloc (.cells (va 256 (iv .u8 f)) 39))) := hb0
  clear hb0
  have n1 : ¬ ((n : Int) < 0) := by omega
  have n2 : ¬ ((4 : Int) < (n : Int)) := by omega
  go_enter Tryd.func17, Tryd.ntmps17
  go_wp2_with fail
  have HX : Hid (∀ V, Below (w.heap.size + 1) (w.alloc (.cells (va 256 (iv .u8 f)) 39)) V → Below w.heap.size w V ∧ Blk V w.heap.size 39 (va 256 (iv .u8 f))) := fun V hV =>
    ⟨H0.out.trans (hV.mono (Nat.le_succ _)), hk0.below hV (Nat.lt_succ_self _)⟩
  have H2 : Hid (Below (w.heap.size + 1) (w.alloc (.cells (va 256 (iv .u8 f)) 39)) ((w.alloc (.cells (va 256 (iv .u8 f)) 39)).alloc (.cells #[] 29)) ∧ ((w.alloc (.cells (va 256 (iv .u8 f)) 39)).alloc (.cells #[] 29)).ownsRow (w.heap.size + 1) 29 2 (.slice (some ⟨w.heap.size + 1, 0, none⟩) 0 0) 0 []) :=
    ⟨(Below.refl _ _).alloc (by simp) _, by
      have := World.ownsRow_lit (base := w.heap.size + 1) (e := 29) (size := 2) (w.alloc (.cells (va 256 (iv .u8 f)) 39)) #[] 0 (by simp) (by decide) rfl
      simpa using this⟩
  have HWS : Hid (∀ V, Below (w.heap.size + 1) (w.alloc (.cells (va 256 (iv .u8 f)) 39)) V → w.heap.size + 1 ≤ V.heap.size) := fun V h => by
    have := h.size
    simpa using this
  clear hk0 H0
  generalize (w.alloc (.cells (va 256 (iv .u8 f)) 39)).alloc (.cells #[] 29) = w2 at H2 ⊢
  generalize w.alloc (.cells (va 256 (iv .u8 f)) 39) = WB at H2 HX HWS ⊢
  go_loopw [6, 7] (fun v6 v20 wr => Hid (∃ (p : Nat) (v : Value), p ≤ 4 ∧ v20 = .int .i64 (p : Int) ∧ v6 = v ∧ flOk f n p ∧ wr.ownsRow (w.heap.size + 1) 29 2 v (min p n) (lkL (plI f) (plS f) (min p n)) ∧ Below (w.heap.size + 1) WB wr)) (fun _ v20 _ => 4 - (intOf v20).toNat)
  case atStart => exact ⟨0, _, by omega, rfl, rfl, fun q hq => by omega, by rw [Nat.zero_min]; exact H2.out.2, H2.out.1⟩
  case round =>
    obtain ⟨p, v, hp, rfl, rfl, hok, hown, hb⟩ := Hid.out hrel
    clear hrel H2
    by_cases h5 : p < 4
    · have p1 : (p : Int) < 4 := by omega
      have HDp := HD.out p h5
      have hbx := (HX.out wr hb).2
      have hcv := run_bytes_text (P := Tryd.prog) wr 64 5 9 Tryd.underlying64 Tryd.underlying5 Tryd.underlying9 hbx 0 256 256 (by omega)
      rw [show strN (fun j => f (0 + j)) 256 = strN f 256 from strN_congr fun j _ => by rw [Nat.zero_add]] at hcv
      generalize strN f 256 = tx at hcv HDp
      have HKp := HK.out p
      have HS : Hid (flOk f n p ∧ wr.ownsRow (w.heap.size + 1) 29 2 u6 (min p n) (lkL (plI f) (plS f) (min p n)) ∧ Below (w.heap.size + 1) WB wr) := ⟨hok, hown, hb⟩
      have HL1 := HLL.out p
      have HNO : Hid (¬ ((pl f p).2.2.2 = 0 ∧ (pl f p).2.2.1 = decide ((p : Int) < (n : Int))) → ¬ flOk f n 4) := fun h h4' => h ((HK.out p).1 (HK4.out (p + 1) (by omega) h4')).2
      clear hok hown hb
      generalize plI f p = di at HDp HL1
      generalize plS f p = ds at HDp HL1
      generalize (pl f p).2.2.1 = th at HDp HKp HNO
      generalize (pl f p).2.2.2 = er at HDp HKp HNO
      have HKQ : Hid (_ ↔ _) := HKp
      have HLQ : Hid (_ = _) := HL1
      clear HKp HL1
      go_wp2_with fail
      refine (HDp _).mono ?_
      intro e w3 hv3
      obtain ⟨he3, hb3⟩ := hv3
      subst he3
      have H3 : Hid (flOk f n p ∧ w3.ownsRow (w.heap.size + 1) 29 2 u6 (min p n) (lkL (plI f) (plS f) (min p n)) ∧ Below (w.heap.size + 1) WB w3) := ⟨HS.out.1, kownBel HS.out.2.1 hb3, HS.out.2.2.trans (hb3.mono (HWS.out _ HS.out.2.2))⟩
      clear hb3 HS
      have H4 : Hid (Below (w.heap.size + 1) WB (w3.alloc (.cells #[.int .i64 di, .string ds] 29)) ∧ (w3.alloc (.cells #[.int .i64 di, .string ds] 29)).ownsRow (w.heap.size + 1) 29 2 u6 (min p n) (lkL (plI f) (plS f) (min p n)) ∧ Blk (w3.alloc (.cells #[.int .i64 di, .string ds] 29)) w3.heap.size 29 #[.int .i64 di, .string ds]) :=
        ⟨H3.out.2.2.alloc (HWS.out _ H3.out.2.2) _, H3.out.2.1.alloc _, Blk.new _ _ _⟩
      have HOK : Hid (flOk f n p) := H3.out.1
      clear H3
      by_cases e0 : er = 0
      · have b0 : (er != 0) = false := by rw [e0]; rfl
        by_cases hpn : p < n
        · have q1 : (p : Int) < (n : Int) := by omega
          have qd : decide ((p : Int) < (n : Int)) = true := decide_eq_true q1
          cases th
          · have HN : Hid (¬ flOk f n 4) := HNO.out (by simp [q1])
            clear e0
            go_wp2_with fail
            go_ret2
            exact ⟨Or.inl ⟨HN.out, _, _, rfl⟩, (HX.out _ (H4.out.1.alloc (HWS.out _ H4.out.1) _)).1⟩
          · have HF : Hid (flOk f n (p + 1)) := HKQ.out.2 ⟨HOK.out, e0, by simp [q1]⟩
            clear e0
            have HMP : Hid (min p n = p ∧ min (p + 1) n = p + 1) := by show _ ∧ _; omega
            have HOWN : Hid (((w3.alloc (.cells #[.int .i64 di, .string ds] 29)).alloc (.cells #[.int .i64 di, .string ds] 29)).ownsRow (w.heap.size + 1) 29 2 u6 (min p n) (lkL (plI f) (plS f) (min p n))) := H4.out.2.1.alloc _
            have HV2 := (H4.out.2.1.alloc (.cells #[.int .i64 di, .string ds] 29)).lt
            have hbA : Below (w.heap.size + 1) WB ((w3.alloc (.cells #[.int .i64 di, .string ds] 29)).alloc (.cells #[.int .i64 di, .string ds] 29)) := H4.out.1.alloc (HWS.out _ H4.out.1) _
            have hsz := HWS.out _ hbA
            have hml : min p n + 1 ≤ maxLen := Nat.le_trans (by omega : min p n + 1 ≤ 5) (by decide)
            clear H4
            go_wp2_with (first
              | (at_builtin; refine wpList_append_own _ rfl _ _ 37 rfl (w.heap.size + 1) 29 i0 (.agg #[.int .i64 0, .string ⟨#[]⟩]) 2 24 Tryd.underlying37 hi hz0 hz1 hz2 rfl (by decide) _ _ _ rfl HOWN.out ⟨w3.heap.size + 1, 0, none⟩ 1 1 [.int .i64 di, .string ds] rfl rfl (by have := cells_new2L (w3.alloc (.cells #[.int .i64 di, .string ds] 29)) (.int .i64 di) (.string ds) 29; simpa using this) (by simp [Value.oneCell']) hml (by omega) (by simpa using hsz) ?_)
              | fail)
            intro v' w5 hown' hgrow _
            have hb5 : Below (w.heap.size + 1) WB w5 := hbA.grown hgrow hsz (fun q hq => (HV2 q hq).1)
            rw [HMP.out.1, ← HLQ.out] at hown'
            have HE : Hid (_ ∧ _) := ⟨hown', hb5⟩
            clear HOWN HV2 hgrow hbA hown' hb5
            go_wp2_with fail
            go_roundw
            case rel => exact ⟨p + 1, v', by omega, by first | rfl | go_num | simp, rfl, HF.out, by rw [HMP.out.2]; exact HE.out.1, HE.out.2⟩
            case measure => simp [intOf]; omega
        · have q1 : ¬ ((p : Int) < (n : Int)) := by omega
          have qd : decide ((p : Int) < (n : Int)) = false := decide_eq_false q1
          cases th
          · have HF : Hid (flOk f n (p + 1)) := HKQ.out.2 ⟨HOK.out, e0, by simp [q1]⟩
            have HM : Hid (min p n = min (p + 1) n) := by show _ = _; omega
            clear e0
            go_wp2_with fail
            go_roundw
            case rel => exact ⟨p + 1, u6, by omega, by first | rfl | go_num | simp, rfl, HF.out, HM.out ▸ H4.out.2.1, H4.out.1⟩
            case measure => simp [intOf]; omega
          · have HN : Hid (¬ flOk f n 4) := HNO.out (by simp [q1])
            clear e0
            go_wp2_with fail
            go_ret2
            exact ⟨Or.inl ⟨HN.out, _, _, rfl⟩, (HX.out _ (H4.out.1.alloc (HWS.out _ H4.out.1) _)).1⟩
      · have b0 : (er != 0) = true := bne_iff_ne.2 e0
        have HN : Hid (¬ flOk f n 4) := HNO.out (fun h => e0 h.1)
        clear e0
        go_wp2_with fail
        go_ret2
        exact ⟨Or.inl ⟨HN.out, _, _, rfl⟩, (HX.out _ (H4.out.1.alloc (HWS.out _ H4.out.1) _)).1⟩
    · obtain rfl : p = 4 := by omega
      have p1 : ¬ ((4 : Int) < 4) := by omega
      rw [Nat.min_eq_right h4] at hown
      have HS : Hid (_ ∧ _ ∧ _) := ⟨hok, hown, hb⟩
      clear hok hown hb
      go_wp2_with fail
      go_ret2
      exact ⟨Or.inr ⟨HS.out.1, _, rfl, HS.out.2.1⟩, (HX.out _ HS.out.2.2).1⟩
end Go.Proofs.YtgpghdhkbliodaaDoor

namespace Go.Proofs.YtgpghdhkbliodaaDoor
set_option maxRecDepth 20000
open Go Go.RowKit
set_option linter.unusedVariables false
set_option linter.unusedSimpArgs false
set_option maxHeartbeats 4000000 in
theorem awake13_any (w : World) : Calls Tryd.prog 11 #[] w fun e w' => e = .returned (.bool true) ∧ Below w.heap.size w w' := by
  have HE : Hid (∀ w : World, Calls Tryd.prog 7 #[.agg #[.int .i64 1, .string ⟨#[97]⟩]] w fun e w' => e = .returned (.tuple #[.string (strN (entF 1 ⟨#[97]⟩) 64), .int .i64 0]) ∧ Below w.heap.size w w') := fun w => encode_ok ⟨#[97]⟩ 1 (by decide) (by decide) (by decide) w
  have HC1 : Hid (∀ w : World, Calls Tryd.prog 23 #[.string ⟨#[97]⟩] w fun e w' => e = .returned (.int .i64 0) ∧ Below w.heap.size w w') := fun w => check_any ⟨#[97]⟩ w
  have HC2 : Hid (∀ w : World, Calls Tryd.prog 23 #[.string ⟨#[47]⟩] w fun e w' => e = .returned (.int .i64 130) ∧ Below w.heap.size w w') := fun w => check_any ⟨#[47]⟩ w
  have hz := strN_size (entF 1 ⟨#[97]⟩) 64
  generalize strN (entF 1 ⟨#[97]⟩) 64 = tx at HE hz
  go_enter Tryd.func11, Tryd.ntmps11
  go_wp2_with fail
  refine (HE.out _).mono ?_
  intro e w2 hw2
  obtain ⟨he2, hw2⟩ := hw2
  subst he2
  go_wp2_with fail
  refine (HC1.out _).mono ?_
  intro e w3 hw3
  obtain ⟨he3, hw3⟩ := hw3
  subst he3
  have hb3 : Below w.heap.size w w3 := hw2.trans (hw3.mono hw2.size)
  clear hw2 hw3
  go_wp2_with fail
  refine (HC2.out _).mono ?_
  intro e w4 hw4
  obtain ⟨he4, hw4⟩ := hw4
  subst he4
  have HB4 : Hid (Below w.heap.size w w4) := hb3.trans (hw4.mono hb3.size)
  clear hb3 hw4
  go_wp2_with fail
  go_ret
  exact ⟨rfl, HB4.out⟩
end Go.Proofs.YtgpghdhkbliodaaDoor

namespace Go.Proofs.YtgpghdhkbliodaaDoor
set_option maxRecDepth 20000
open Go Go.RowKit
set_option linter.unusedVariables false
set_option linter.unusedSimpArgs false
theorem ent_i (i : Nat) (s : ByteArray) (h : i < 4294967296) : at4 (strN (entF i s) 64) 0 = i := by
  unfold at4 le4
  rw [tb_eq, tb_eq, tb_eq, tb_eq, strN_at _ _ _ (by decide) (entF_lt _ _ _), strN_at _ _ _ (by decide) (entF_lt _ _ _), strN_at _ _ _ (by decide) (entF_lt _ _ _), strN_at _ _ _ (by decide) (entF_lt _ _ _)]
  unfold entF
  rw [if_pos (by decide), if_pos (by decide), if_pos (by decide), if_pos (by decide)]
  show i / 1 % 256 + i / 256 % 256 * 256 + i / 65536 % 256 * 65536 + i / 16777216 % 256 * 16777216 = i
  omega
theorem ent_n (i : Nat) (s : ByteArray) (h : s.size ≤ 56) : at2 (strN (entF i s) 64) 4 = s.size := by
  unfold at2 le2
  rw [tb_eq, tb_eq, strN_at _ _ _ (by decide) (entF_lt _ _ _), strN_at _ _ _ (by decide) (entF_lt _ _ _)]
  unfold entF
  rw [if_neg (by decide), if_pos (by decide), if_neg (by decide), if_pos (by decide)]
  show s.size / 1 % 256 + s.size / 256 % 256 * 256 = s.size
  omega
theorem ent_s (i : Nat) (s : ByteArray) (h : s.size ≤ 56) : decS (strN (entF i s) 64) = s := by
  unfold decS
  rw [ent_n i s h, Nat.min_eq_left (by omega)]
  have hz : (strN (entF i s) 64).size = 64 := strN_size _ _
  have hz2 : ((strN (entF i s) 64).extract 8 (8 + s.size)).size = s.size := by rw [extract_size _ _ _ (by rw [hz]; omega)]; omega
  refine text_ext hz2 fun j hj => ?_
  rw [hz2] at hj
  rw [tbyte_extract _ _ _ _ (by rw [hz]; omega) (by omega), strN_at _ _ _ (by omega) (entF_lt _ _ _)]
  unfold entF
  rw [if_neg (by omega), if_neg (by omega), if_neg (by omega), if_pos (by omega), Nat.add_sub_cancel_left]
theorem dec_enc (i : Int) (s : ByteArray) (h : encE i s = 0) : decV (encT i s) 0 = (i, s, true, 0) := by
  have hh := h
  unfold encE at hh
  by_cases h1 : i < 1 ∨ 4096 < i
  · rw [if_pos h1] at hh; cases hh
  · rw [if_neg h1] at hh
    have hn : isName s.data.toList = true := by
      cases hq : isName s.data.toList
      · rw [hq] at hh; simp at hh
      · rfl
    have h56 : s.size ≤ 56 := by rw [Lib.size_eq]; exact (isName_len hn).2
    obtain ⟨n, rfl⟩ : ∃ n : Nat, i = (n : Int) := ⟨i.toNat, by omega⟩
    have ht : encT (n : Int) s = strN (entF n s) 64 := by unfold encT; rw [if_pos h, Int.toNat_natCast]
    have hz : (strN (entF n s) 64).size = 64 := strN_size _ _
    rw [ht]
    unfold decV
    have hx : (strN (entF n s) 64).extract (0 : Int).toNat ((0 : Int).toNat + 64) = strN (entF n s) 64 := by
      show (strN (entF n s) 64).extract 0 64 = _
      have hz3 : ((strN (entF n s) 64).extract 0 64).size = 64 := by rw [extract_size _ _ _ (by rw [hz]; decide)]
      refine text_ext (hz3.trans hz.symm) fun j hj => ?_
      rw [hz3] at hj
      rw [tbyte_extract _ _ _ _ (by rw [hz]; decide) (by omega), Nat.zero_add]
    rw [hx, if_pos (by rw [hz]; decide)]
    have hd : decI (strN (entF n s) 64) = n := ent_i n s (by omega)
    have hs := ent_s n s h56
    have hzt : zT (strN (entF n s) 64) = false := by
      cases hq : zT (strN (entF n s) 64)
      · rfl
      · exfalso
        unfold zT at hq
        rw [List.all_eq_true] at hq
        have key : ∀ j, j < 64 → entF n s j = 0 := fun j hj => by
          rw [← strN_at (entF n s) 64 j hj (entF_lt _ _ _)]
          unfold tbyte
          rw [List.getD_eq_getElem?_getD]
          cases hl : (strN (entF n s) 64).data.toList[j]? with
          | none => rfl
          | some b =>
            have := hq b (List.mem_of_getElem? hl)
            have hb : b = 0 := by simpa using this
            rw [hb]; rfl
        have e0 := key 0 (by decide); have e1 := key 1 (by decide); have e2 := key 2 (by decide); have e3 := key 3 (by decide)
        have hi := ent_i n s (by omega)
        unfold at4 le4 at hi
        rw [tb_eq, tb_eq, tb_eq, tb_eq, strN_at _ _ _ (by decide) (entF_lt _ _ _), strN_at _ _ _ (by decide) (entF_lt _ _ _), strN_at _ _ _ (by decide) (entF_lt _ _ _), strN_at _ _ _ (by decide) (entF_lt _ _ _)] at hi
        simp only [Nat.zero_add] at hi
        rw [e0, e1, e2, e3] at hi
        omega
    have hok : decOk (strN (entF n s) 64) = true := by
      unfold decOk
      rw [hd, hs, h, ht]
      simp
    rw [hzt, hok, hd, hs]; rfl
end Go.Proofs.YtgpghdhkbliodaaDoor
