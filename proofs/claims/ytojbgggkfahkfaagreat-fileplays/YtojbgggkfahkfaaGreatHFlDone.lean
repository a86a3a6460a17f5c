/- What a deed should make of a file: the statement's done. -/
import Derived.Test.YtojbgggkfahkfaaGreatHFlErrorsLaw
import Derived.Handy
import Derived.Test.YtojbgggkfahkfaaGreatHInsFns
import Derived.BigRegion

namespace Go.Proofs.YtojbgggkfahkfaaGreat
open Go Go.RowKit
set_option linter.unusedSimpArgs false
set_option linter.unusedVariables false
section
variable {w V : World} {x mf ml mc : Nat} {cp : Option Addr} {top : Int} {H0 : Nat → Hd} {D0 : Nat → Nat → Nat → Nat} {n z st : Nat} {F : Nat → Nat}
theorem BS.text {z' s' : Nat} {G : Nat → Nat} (h : BS w V x mf ml mc cp top H0 D0 n z' s' G) : BS w V x mf ml mc cp top H0 D0 n (strN G z').size s' (tbyte (strN G z')) := by
  rw [strN_size]
  exact h.congr fun p hp => strN_at G z' p hp (h.by8 p hp)
theorem BS.writeT (h : BS w V x mf ml mc cp top H0 D0 n z st F) (a : Nat) (s : ByteArray) (ha : a + s.size ≤ 1048576) (s' : Nat) : Calls Tryz.prog 16 #[.pointer (some ⟨x, 0, none⟩), .int .i64 (n : Int), .int .i64 (a : Int), .string s, .int .u64 ((s' : Nat) : Int)] V fun e w' => e = .returned (.tuple #[.int .i64 ((a + s.size : Nat) : Int), .int .i64 0]) ∧ BS w w' x mf ml mc cp top H0 D0 n (wzN z a s.size) (if s.size = 0 then st else s') (wrF F z s a) ∧ Turns (fun z => z = ml ∨ z = mf) V w' := by
  obtain ⟨H, D, hI, hf, hm⟩ := h.now
  by_cases h0 : s.size = 0
  · have e := empty_text h0
    subst e
    refine (hI.writeNone hf a s' (by omega)).mono ?_
    rintro e w' ⟨rfl, hb⟩
    refine ⟨rfl, ?_, Turns.bel hb⟩
    have hb2 := h.below hb
    refine hb2.congr fun p hp => ?_
    unfold wrF
    rw [if_neg (fun c => absurd c.2 (by have : (⟨#[]⟩ : ByteArray).size = 0 := rfl; omega)), if_pos (by simpa [wzN] using hp)]
  · refine (hI.writeOk hf a s' s (by omega) ha).mono ?_
    rintro e w' ⟨rfl, hN, hT⟩
    refine ⟨rfl, ?_, hT⟩
    rw [if_neg h0]
    unfold wzN
    rw [if_neg h0]
    exact h.of_now hm hN hT fun p _ => wrF_lt h.by8 _ _ _
theorem BS.truncT (h : BS w V x mf ml mc cp top H0 D0 n z st F) (z' s' : Nat) (hz : z' ≤ 1048576) : Calls Tryz.prog 19 #[.pointer (some ⟨x, 0, none⟩), .int .i64 (n : Int), .int .i64 (z' : Int), .int .u64 ((s' : Nat) : Int)] V fun e w' => e = .returned (.int .i64 0) ∧ BS w w' x mf ml mc cp top H0 D0 n z' s' (fzF F z) ∧ Turns (fun z => z = ml ∨ z = mf) V w' := by
  obtain ⟨H, D, hI, hf, hm⟩ := h.now
  refine (hI.truncOk hf z' s' hz).mono ?_
  rintro e w' ⟨rfl, hN, hT⟩
  exact ⟨rfl, h.of_now hm hN hT fun p _ => fzF_lt h.by8 _, hT⟩
theorem BS.truncErr (h : BS w V x mf ml mc cp top H0 D0 n z st F) (a : Int) (hb : a < 0 ∨ 1048576 < a) (s' : Nat) : Calls Tryz.prog 19 #[.pointer (some ⟨x, 0, none⟩), .int .i64 (n : Int), .int .i64 a, .int .u64 ((s' : Nat) : Int)] V fun e w' => e = .returned (.int .i64 (if a < 0 then 1 else 160)) ∧ Below V.heap.size V w' := by
  obtain ⟨H, D, hI, hf, _⟩ := h.now
  by_cases h0 : a < 0
  · rw [if_pos h0]
    exact hI.truncBad hf a h0 s'
  · rw [if_neg h0]
    exact hI.truncBig hf a (by omega) s'
theorem BS.zeroErr (h : BS w V x mf ml mc cp top H0 D0 n z st F) (a m : Int) (hb : a < 0 ∨ m < 0) (s' : Nat) : Calls Tryz.prog 20 #[.pointer (some ⟨x, 0, none⟩), .int .i64 (n : Int), .int .i64 a, .int .i64 m, .int .u64 ((s' : Nat) : Int)] V fun e w' => e = .returned (.int .i64 1) ∧ Below V.heap.size V w' := by
  obtain ⟨H, D, hI, hf, _⟩ := h.now
  exact hI.zeroBad hf a m hb s'
theorem BS.zero (h : BS w V x mf ml mc cp top H0 D0 n z st F) (a m : Nat) (ha : a ≤ 9223372036854775807) (hm : m ≤ 9223372036854775807) (s' : Nat) : Calls Tryz.prog 20 #[.pointer (some ⟨x, 0, none⟩), .int .i64 (n : Int), .int .i64 (a : Int), .int .i64 (m : Int), .int .u64 ((s' : Nat) : Int)] V fun e w' => e = .returned (.int .i64 0) ∧ BS w w' x mf ml mc cp top H0 D0 n z (if thN z a m = 0 then st else s') (wrF F z (strN (fun _ => 0) (thN z a m)) a) ∧ Turns (fun z => z = ml ∨ z = mf) V w' := by
  obtain ⟨H, D, hI, hf, hm'⟩ := h.now
  by_cases h0 : thN z a m = 0
  · refine (hI.zeroNone hf a m ha hm h0 s').mono ?_
    rintro e w' ⟨rfl, hb⟩
    refine ⟨rfl, ?_, Turns.bel hb⟩
    rw [if_pos h0]
    refine (h.below hb).congr fun p hp => ?_
    unfold wrF
    rw [if_neg (by rw [strN_size, h0]; omega), if_pos hp]
  · refine (hI.zeroOk hf a m ha hm _ rfl h0 s').mono ?_
    rintro e w' ⟨rfl, hN, hT⟩
    refine ⟨rfl, ?_, hT⟩
    rw [if_neg h0]
    exact h.of_now hm' hN hT fun p _ => wrF_lt h.by8 _ _ _
theorem BS.appendErr (h : BS w V x mf ml mc cp top H0 D0 n z st F) (s : ByteArray) (hs : s.size ≤ 140737488355328) (hb : 1048576 < z + s.size) (s' : Nat) : Calls Tryz.prog 17 #[.pointer (some ⟨x, 0, none⟩), .int .i64 (n : Int), .string s, .int .u64 ((s' : Nat) : Int)] V fun e w' => e = .returned (.tuple #[.int .i64 0, .int .i64 160]) ∧ Below V.heap.size V w' := by
  obtain ⟨H, D, hI, hf, _⟩ := h.now
  exact hI.appendBig hf s' s hs hb
theorem BS.append (h : BS w V x mf ml mc cp top H0 D0 n z st F) (s : ByteArray) (ha : z + s.size ≤ 1048576) (s' : Nat) : Calls Tryz.prog 17 #[.pointer (some ⟨x, 0, none⟩), .int .i64 (n : Int), .string s, .int .u64 ((s' : Nat) : Int)] V fun e w' => e = .returned (.tuple #[.int .i64 (z : Int), .int .i64 0]) ∧ BS w w' x mf ml mc cp top H0 D0 n (wzN z z s.size) (if s.size = 0 then st else s') (wrF F z s z) ∧ Turns (fun z => z = ml ∨ z = mf) V w' := by
  obtain ⟨H, D, hI, hf, hm⟩ := h.now
  by_cases h0 : s.size = 0
  · have e := empty_text h0
    subst e
    refine (hI.appendNone hf s').mono ?_
    rintro e w' ⟨rfl, hb⟩
    refine ⟨rfl, ?_, Turns.bel hb⟩
    refine (h.below hb).congr fun p hp => ?_
    unfold wrF
    rw [if_neg (fun c => absurd c.2 (by have : (⟨#[]⟩ : ByteArray).size = 0 := rfl; omega)), if_pos (by simpa [wzN] using hp)]
  · refine (hI.appendOk hf s' s (by omega) ha).mono ?_
    rintro e w' ⟨rfl, hN, hT⟩
    refine ⟨rfl, ?_, hT⟩
    rw [if_neg h0]
    unfold wzN
    rw [if_neg h0]
    exact h.of_now hm hN hT fun p _ => wrF_lt h.by8 _ _ _
end
/-- a deed's answer, error, text and stamp behind it, of a file's text and stamp -/
structure Dn where
  ans : Int
  err : Int
  s : ByteArray
  st : Nat
def dnF (s : ByteArray) (st : Nat) (k : Nat) (a m : Int) (t : ByteArray) (t' : Nat) : Dn :=
  if k = 3 then (if 1048576 < s.size + t.size then ⟨0, 160, s, st⟩ else ⟨(s.size : Int), 0, strN (wrF (tbyte s) s.size t s.size) (wzN s.size s.size t.size), if t.size = 0 then st else t'⟩)
  else if k = 4 then (if a < 0 ∨ 1048576 < a then ⟨0, if a < 0 then 1 else 160, s, st⟩ else ⟨0, 0, strN (fzF (tbyte s) s.size) a.toNat, t'⟩)
  else if k = 5 then (if a < 0 ∨ m < 0 then ⟨0, 1, s, st⟩ else ⟨0, 0, strN (wrF (tbyte s) s.size (strN (fun _ => 0) (thN s.size a.toNat m.toNat)) a.toNat) s.size, if thN s.size a.toNat m.toNat = 0 then st else t'⟩)
  else (if a < 0 ∨ 1048576 < a + (t.size : Int) then ⟨0, if a < 0 then 1 else 160, s, st⟩ else ⟨((a.toNat + t.size : Nat) : Int), 0, strN (wrF (tbyte s) s.size t a.toNat) (wzN s.size a.toNat t.size), if t.size = 0 then st else t'⟩)
/-- which deed -/
def kdN (kd : Int) : Nat := ((kd.tmod 8 + 8).tmod 8).toNat
theorem kd_is (kd : Int) : (kd.tmod 8 + 8).tmod 8 = (kdN kd : Int) ∧ kdN kd < 8 := by
  unfold kdN
  have h1 := Int.tmod_lt_of_pos kd (show (0 : Int) < 8 by decide)
  have h2 := Int.lt_tmod_of_pos kd (show (0 : Int) < 8 by decide)
  have h3 : (kd.tmod 8 + 8).tmod 8 = (kd.tmod 8 + 8) % 8 := Int.tmod_eq_emod_of_nonneg (by omega)
  rw [h3]
  omega
section
variable {w V : World} {x mf ml mc : Nat} {cp : Option Addr} {top : Int} {H0 : Nat → Hd} {D0 : Nat → Nat → Nat → Nat} {n st : Nat}
set_option maxRecDepth 100000 in
set_option maxHeartbeats 8000000 in
theorem BS.did (s : ByteArray) (h : BS w V x mf ml mc cp top H0 D0 n s.size st (tbyte s)) (kd a m : Int) (t : ByteArray) (t' : Nat) (ha : -9223372036854775808 ≤ a ∧ a ≤ 9223372036854775807) (hm : -9223372036854775808 ≤ m ∧ m ≤ 9223372036854775807) (ht : t.size ≤ 140737488355328) (R : Dn) (hR : dnF s st (kdN kd) a m t t' = R) : Calls Tryz.prog 10 #[.pointer (some ⟨x, 0, none⟩), .int .i64 (n : Int), .agg (acC kd a m t t')] V fun e w' => e = .returned (.tuple #[.int .i64 R.ans, .int .i64 R.err]) ∧ BS w w' x mf ml mc cp top H0 D0 n R.s.size R.st (tbyte R.s) ∧ Turns (fun z => z = ml ∨ z = mf) V w' := by
  have k0 : Blk (V.alloc (.cells (acC kd a m t t') 35)) V.heap.size 35 (acC kd a m t t') := Blk.new _ _ _
  have h1 := h.below (below_new1 V (.cells (acC kd a m t t') 35))
  have c0 : (V.alloc (.cells (acC kd a m t t') 35)).cell? ⟨V.heap.size, 0, none⟩ = some (.int .i64 kd) := (k0.cell 0).trans rfl
  obtain ⟨c1, c2, c3, c4⟩ := ac_cs k0
  obtain ⟨hk1, hk2⟩ := kd_is kd
  have b1 := Int.tmod_lt_of_pos kd (show (0 : Int) < 8 by decide)
  have b2 := Int.lt_tmod_of_pos kd (show (0 : Int) < 8 by decide)
  obtain ⟨r1, hr1⟩ : ∃ r1 : Int, kd.tmod 8 = r1 := ⟨_, rfl⟩
  obtain ⟨k, hk⟩ : ∃ k : Nat, kdN kd = k := ⟨_, rfl⟩
  rw [hr1] at b1 b2 hk1
  rw [hk] at hk1 hk2 hR
  obtain ⟨r2, hr2⟩ : ∃ r2 : Nat, r1 + 8 = (r2 : Int) := ⟨(r1 + 8).toNat, by omega⟩
  rw [hr2] at hk1
  have b3 : r2 ≤ 16 := by omega
  have hw1 : wrap64 r1 = r1 := by unfold wrap64; omega
  have HR : Hid (dnF s st k a m t t' = R) := hR
  have HA : Hid ((-9223372036854775808 ≤ a ∧ a ≤ 9223372036854775807) ∧ (-9223372036854775808 ≤ m ∧ m ≤ 9223372036854775807) ∧ t.size ≤ 140737488355328) := ⟨ha, hm, ht⟩
  clear h hR hk b1 b2 k0 ha hm ht
  go_enter Tryz.func10, Tryz.ntmps10
  obtain ⟨V1, hV1⟩ : ∃ V1, (V.alloc (.cells (acC kd a m t t') 35)) = V1 := ⟨_, rfl⟩
  rw [hV1] at c0 c1 c2 c3 c4 h1
  have HV : Hid (Turns (fun z => z = ml ∨ z = mf) V V1) := by
    rw [← hV1]
    exact Turns.bel (below_new1 _ _)
  by_cases k3 : k = 3
  · subst k3
    have hD : dnF s st 3 a m t t' = (if 1048576 < s.size + t.size then ⟨0, 160, s, st⟩ else ⟨(s.size : Int), 0, strN (wrF (tbyte s) s.size t s.size) (wzN s.size s.size t.size), if t.size = 0 then st else t'⟩) := rfl
    rw [HR.out] at hD
    by_cases hb : 1048576 < s.size + t.size
    · rw [if_pos hb] at hD
      have HC := h1.appendErr t HA.out.2.2 hb t'
      have HD : Hid (R = _) := hD
      clear hD
      clear hb HR
      go_wp2_with fail
      try rw [hV1]
      refine HC.mono ?_
      rintro e w2 ⟨rfl, hb2⟩
      have HE : Hid (_ ∧ _) := ⟨h1.below hb2, HV.out.tr (Turns.bel hb2)⟩
      clear HC h1 hb2
      go_wp2_with fail
      go_ret2
      rw [HD.out]
      exact ⟨rfl, HE.out⟩
    · rw [if_neg hb] at hD
      have HC := h1.append t (by omega) t'
      have HD : Hid (R = _) := hD
      clear hD
      clear HR
      go_wp2_with fail
      try rw [hV1]
      refine HC.mono ?_
      rintro e w2 ⟨rfl, h2, hT2⟩
      have HE : Hid (_ ∧ _) := ⟨h2.text, HV.out.tr hT2⟩
      clear HC h1 h2 hT2
      go_wp2_with fail
      go_ret2
      rw [HD.out]
      exact ⟨rfl, HE.out⟩
  · by_cases k4 : k = 4
    · subst k4
      have hD : dnF s st 4 a m t t' = (if a < 0 ∨ 1048576 < a then ⟨0, if a < 0 then 1 else 160, s, st⟩ else ⟨0, 0, strN (fzF (tbyte s) s.size) a.toNat, t'⟩) := rfl
      rw [HR.out] at hD
      by_cases hb : a < 0 ∨ 1048576 < a
      · rw [if_pos hb] at hD
        have HC := h1.truncErr a hb t'
        obtain ⟨er, her⟩ : ∃ er : Int, (if a < 0 then 1 else 160) = er := ⟨_, rfl⟩
        rw [her] at HC hD
        clear her
        have HD : Hid (R = _) := hD
        clear hD
        clear hb HR
        go_wp2_with fail
        try rw [hV1]
        refine HC.mono ?_
        rintro e w2 ⟨rfl, hb2⟩
        have HE : Hid (_ ∧ _) := ⟨h1.below hb2, HV.out.tr (Turns.bel hb2)⟩
        clear HC h1 hb2
        go_wp2_with fail
        go_ret2
        rw [HD.out]
        exact ⟨rfl, HE.out⟩
      · rw [if_neg hb] at hD
        have HC := h1.truncT a.toNat t' (by omega)
        rw [show ((a.toNat : Nat) : Int) = a by omega] at HC
        have HD : Hid (R = _) := hD
        clear hD
        clear HR
        go_wp2_with fail
        try rw [hV1]
        refine HC.mono ?_
        rintro e w2 ⟨rfl, h2, hT2⟩
        have HE : Hid (_ ∧ _) := ⟨h2.text, HV.out.tr hT2⟩
        clear HC h1 h2 hT2
        go_wp2_with fail
        go_ret2
        rw [HD.out]
        exact ⟨rfl, HE.out⟩
    · by_cases k5 : k = 5
      · subst k5
        have hD : dnF s st 5 a m t t' = (if a < 0 ∨ m < 0 then ⟨0, 1, s, st⟩ else ⟨0, 0, strN (wrF (tbyte s) s.size (strN (fun _ => 0) (thN s.size a.toNat m.toNat)) a.toNat) s.size, if thN s.size a.toNat m.toNat = 0 then st else t'⟩) := rfl
        rw [HR.out] at hD
        by_cases hb : a < 0 ∨ m < 0
        · rw [if_pos hb] at hD
          have HC := h1.zeroErr a m hb t'
          have HD : Hid (R = _) := hD
          clear hD
          clear hb HR
          go_wp2_with fail
          try rw [hV1]
          refine HC.mono ?_
          rintro e w2 ⟨rfl, hb2⟩
          have HE : Hid (_ ∧ _) := ⟨h1.below hb2, HV.out.tr (Turns.bel hb2)⟩
          clear HC h1 hb2
          go_wp2_with fail
          go_ret2
          rw [HD.out]
          exact ⟨rfl, HE.out⟩
        · rw [if_neg hb] at hD
          have HC := h1.zero a.toNat m.toNat (by have := HA.out; omega) (by have := HA.out; omega) t'
          rw [show ((a.toNat : Nat) : Int) = a by omega, show ((m.toNat : Nat) : Int) = m by omega] at HC
          have HD : Hid (R = _) := hD
          clear hD
          clear HR
          go_wp2_with fail
          try rw [hV1]
          refine HC.mono ?_
          rintro e w2 ⟨rfl, h2, hT2⟩
          have HE : Hid (_ ∧ _) := ⟨h2.text, HV.out.tr hT2⟩
          clear HC h1 h2 hT2
          go_wp2_with fail
          go_ret2
          rw [HD.out]
          exact ⟨rfl, HE.out⟩
      · have hD : dnF s st k a m t t' = (if a < 0 ∨ 1048576 < a + (t.size : Int) then ⟨0, if a < 0 then 1 else 160, s, st⟩ else ⟨((a.toNat + t.size : Nat) : Int), 0, strN (wrF (tbyte s) s.size t a.toNat) (wzN s.size a.toNat t.size), if t.size = 0 then st else t'⟩) := by
          unfold dnF
          rw [if_neg k3, if_neg k4, if_neg k5]
        rw [HR.out] at hD
        have k3b : ((k : Int) == 3) = false := by simp; omega
        have k4b : ((k : Int) == 4) = false := by simp; omega
        have k5b : ((k : Int) == 5) = false := by simp; omega
        have k3c : ¬ ((k : Int) = 3) := by omega
        have k4c : ¬ ((k : Int) = 4) := by omega
        have k5c : ¬ ((k : Int) = 5) := by omega
        by_cases hb : a < 0 ∨ 1048576 < a + (t.size : Int)
        · rw [if_pos hb] at hD
          have HC := h1.writeErr a HA.out.1.2 t HA.out.2.2 hb t'
          obtain ⟨er, her⟩ : ∃ er : Int, (if a < 0 then 1 else 160) = er := ⟨_, rfl⟩
          rw [her] at HC hD
          clear her
          have HD : Hid (R = _) := hD
          clear hD
          clear hb HR
          go_wp2_with fail
          try rw [hV1]
          refine HC.mono ?_
          rintro e w2 ⟨rfl, hb2⟩
          have HE : Hid (_ ∧ _) := ⟨h1.below hb2, HV.out.tr (Turns.bel hb2)⟩
          clear HC h1 hb2
          go_wp2_with fail
          go_ret2
          rw [HD.out]
          exact ⟨rfl, HE.out⟩
        · rw [if_neg hb] at hD
          have HC := h1.writeT a.toNat t (by omega) t'
          rw [show ((a.toNat : Nat) : Int) = a by omega] at HC
          obtain ⟨an, han⟩ : ∃ an : Int, ((a.toNat + t.size : Nat) : Int) = an := ⟨_, rfl⟩
          rw [han] at HC hD
          clear han
          have HD : Hid (R = _) := hD
          clear hD
          clear HR
          go_wp2_with fail
          try rw [hV1]
          refine HC.mono ?_
          rintro e w2 ⟨rfl, h2, hT2⟩
          have HE : Hid (_ ∧ _) := ⟨h2.text, HV.out.tr hT2⟩
          clear HC h1 h2 hT2
          go_wp2_with fail
          go_ret2
          rw [HD.out]
          exact ⟨rfl, HE.out⟩
end
end Go.Proofs.YtojbgggkfahkfaaGreat

namespace Go.Proofs.YtojbgggkfahkfaaGreat
open Go Go.RowKit
set_option linter.unusedSimpArgs false
set_option linter.unusedVariables false
theorem cat_size (s t : ByteArray) : (s ++ t).size = s.size + t.size := by simp
theorem cat_byte (s t : ByteArray) (j : Nat) (hj : j < s.size + t.size) : tbyte (s ++ t) j = if j < s.size then tbyte s j else tbyte t (j - s.size) := by
  unfold tbyte
  have h1 : (s ++ t).data.toList = s.data.toList ++ t.data.toList := by simp
  have hs : s.data.toList.length = s.size := Array.length_toList
  rw [h1, List.getD_eq_getElem?_getD, List.getElem?_append]
  by_cases c : j < s.size
  · rw [if_pos c, if_pos (by omega), List.getD_eq_getElem?_getD]
  · rw [if_neg c, if_neg (by omega), List.getD_eq_getElem?_getD, hs]
theorem wr_none (s t : ByteArray) (a : Nat) (ht : t.size = 0) : strN (wrF (tbyte s) s.size t a) (wzN s.size a t.size) = s := by
  have h : wzN s.size a t.size = s.size := by unfold wzN; rw [if_pos ht]
  rw [h, strN_congr (g := tbyte s) fun j hj => by unfold wrF; rw [if_neg (by omega), if_pos hj]]
  exact strN_text s
theorem wr_app (s t : ByteArray) (ht : t.size ≠ 0) : strN (wrF (tbyte s) s.size t s.size) (wzN s.size s.size t.size) = s ++ t := by
  have h : wzN s.size s.size t.size = s.size + t.size := by unfold wzN; rw [if_neg ht]; omega
  rw [h]
  refine text_ext (by rw [strN_size, cat_size]) fun j hj => ?_
  rw [strN_size] at hj
  rw [strN_at _ _ j hj (wrF_lt (fun p _ => tbyte_lt _ _) _ _ _), cat_byte s t j hj]
  unfold wrF
  by_cases c : j < s.size
  · rw [if_neg (by omega), if_pos c, if_pos c]
  · rw [if_pos (by omega), if_neg c]
/-- a text and zeros behind it -/
def zpT (s : ByteArray) (k : Nat) : ByteArray := s ++ strN (fun _ => 0) k
theorem zp_size (s : ByteArray) (k : Nat) : (zpT s k).size = s.size + k := by unfold zpT; rw [cat_size, strN_size]
theorem zp_byte (s : ByteArray) (k j : Nat) (hj : j < s.size + k) : tbyte (zpT s k) j = fzF (tbyte s) s.size j := by
  unfold zpT fzF
  rw [cat_byte _ _ _ (by rw [strN_size]; exact hj)]
  by_cases c : j < s.size
  · rw [if_pos c, if_pos c]
  · rw [if_neg c, if_neg c, strN_at (fun _ => 0) _ _ (by omega) (by decide)]
theorem tr_text (s : ByteArray) (z : Nat) : (zpT s (z - s.size)).extract 0 z = strN (fzF (tbyte s) s.size) z := by
  have hz := extract_size (zpT s (z - s.size)) 0 z (by rw [zp_size]; omega)
  refine text_ext (by rw [hz, strN_size]; rfl) fun j hj => ?_
  rw [hz] at hj
  rw [tbyte_extract _ _ _ _ (by rw [zp_size]; omega) (by omega), zp_byte _ _ _ (by omega), strN_at _ _ _ (by omega) (fzF_lt (fun p _ => tbyte_lt _ _) _), Nat.zero_add]
theorem wr_text (s t : ByteArray) (a : Nat) (ht : t.size ≠ 0) : (zpT s (a + t.size - s.size)).extract 0 a ++ t ++ (zpT s (a + t.size - s.size)).extract (a + t.size) (zpT s (a + t.size - s.size)).size = strN (wrF (tbyte s) s.size t a) (wzN s.size a t.size) := by
  have hS : (zpT s (a + t.size - s.size)).size = max s.size (a + t.size) := by rw [zp_size]; omega
  have h : wzN s.size a t.size = max s.size (a + t.size) := by unfold wzN; rw [if_neg ht]
  have h1 := extract_size (zpT s (a + t.size - s.size)) 0 a (by omega)
  have h2 := extract_size (zpT s (a + t.size - s.size)) (a + t.size) (zpT s (a + t.size - s.size)).size (Nat.le_refl _)
  rw [h]
  refine text_ext (by rw [cat_size, cat_size, h1, h2, strN_size]; omega) fun j hj => ?_
  rw [cat_size, cat_size, h1, h2] at hj
  rw [strN_at _ _ _ (by omega) (wrF_lt (fun p _ => tbyte_lt _ _) _ _ _), cat_byte _ _ _ (by rw [cat_size, h1, h2]; omega), cat_size, h1]
  unfold wrF
  by_cases c : j < a + t.size
  · rw [if_pos (by omega), cat_byte _ _ _ (by rw [h1]; omega), h1]
    by_cases c2 : j < a
    · rw [if_pos (by omega), if_neg (by omega), tbyte_extract _ _ _ _ (by omega) (by omega), zp_byte _ _ _ (by omega), Nat.zero_add]
      rfl
    · rw [if_neg (by omega), if_pos (by omega)]
      congr 1
  · rw [if_neg (by omega), if_neg (by omega), tbyte_extract _ _ _ _ (Nat.le_refl _) (by omega), zp_byte _ _ _ (by omega), show a + t.size + (j - (a - 0 + t.size)) = j by omega]
    rfl
theorem zr_none (s : ByteArray) (a : Nat) (k : Nat) (hk : k = 0) : strN (wrF (tbyte s) s.size (strN (fun _ => 0) k) a) s.size = s := by
  rw [strN_congr (g := tbyte s) fun j hj => by unfold wrF; rw [if_neg (by rw [strN_size]; omega), if_pos hj]]
  exact strN_text s
theorem zr_text (s : ByteArray) (a en k : Nat) (he : a + k = en) (hs : en ≤ s.size) : s.extract 0 a ++ strN (fun _ => 0) k ++ s.extract en s.size = strN (wrF (tbyte s) s.size (strN (fun _ => 0) k) a) s.size := by
  have h1 := extract_size s 0 a (by omega)
  have h2 := extract_size s en s.size (Nat.le_refl _)
  refine text_ext (by rw [cat_size, cat_size, h1, h2, strN_size, strN_size]; omega) fun j hj => ?_
  rw [cat_size, cat_size, h1, h2, strN_size] at hj
  rw [strN_at _ _ _ (by omega) (wrF_lt (fun p _ => tbyte_lt _ _) _ _ _), cat_byte _ _ _ (by rw [cat_size, h1, h2, strN_size]; omega), cat_size, h1, strN_size]
  unfold wrF
  rw [strN_size]
  by_cases c : j < en
  · rw [if_pos (by omega), cat_byte _ _ _ (by rw [h1, strN_size]; omega), h1]
    by_cases c2 : j < a
    · rw [if_pos (by omega), if_neg (by omega), if_pos (by omega), tbyte_extract _ _ _ _ (by omega) (by omega), Nat.zero_add]
    · rw [if_neg (by omega), if_pos (by omega)]
      congr 1
  · rw [if_neg (by omega), if_neg (by omega), if_pos (by omega), tbyte_extract _ _ _ _ (Nat.le_refl _) (by omega), show en + (j - (a - 0 + k)) = j by omega]
end Go.Proofs.YtojbgggkfahkfaaGreat

namespace Go.Proofs.YtojbgggkfahkfaaGreat
open Go Go.RowKit
set_option linter.unusedSimpArgs false
set_option linter.unusedVariables false
theorem res_ttc {P : Program} {fn : Func} {p u v : Tmp} {ty : TypeId} (h : fn.results = #[.tmp u, .tmp v, .cell p ty]) (tmps : Array Value) (w : World) (g : Nat) (t : TypeId) (cs : Array Value) (fr : Nat × Nat) (d : TypeDesc)
    (hp : tmps.getD p undef = .pointer (some ⟨g, 0, none⟩)) (hg : w.heap[g]? = some (.cells cs t fr))
    (hu : P.underlying ty = some d) (hd : (match d with | .struct _ | .array _ _ => true | _ => false) = true) (hi : (P.info? ty).map (·.size) = some cs.size) :
    (results fn tmps).run P w = .ok (.tuple #[tmps.getD u undef, tmps.getD v undef, .agg cs]) w := by
  have hp' : tmps[p]?.getD undef = .pointer (some ⟨g, 0, none⟩) := by simpa using hp
  simp [results, h, hp', asAddr, run_loadVar_row w g t ty cs fr d hg hu hd hi]
theorem sizeMd : (Tryz.prog.info? 33).map (·.size) = some 2 := by kernel_rfl
theorem zero_md (w : World) : (zeroValue 33).run Tryz.prog w = .ok (.agg #[.string ⟨#[]⟩, .int .u64 0]) w := fl_zero (by kernel_rfl) w
theorem built_md (s : ByteArray) (t : Nat) : Tryz.prog.built 33 [(0, .string s), (1, .int .u64 ((t : Nat) : Int))] = some (mdC s t) := by kernel_rfl
theorem md_all (s : ByteArray) (t : Nat) : (mdC s t).all (·.oneCell') = true := by simp [mdC, Value.oneCell']
theorem md_cs {w : World} {b T : Nat} {s : ByteArray} {t : Nat} (H : Blk w b T (mdC s t)) : w.cell? ⟨b, 0, none⟩ = some (.string s) ∧ w.cell? ⟨b, 1, none⟩ = some (.int .u64 ((t : Nat) : Int)) ∧ w.frozen? ⟨b, 0, none⟩ = false ∧ w.frozen? ⟨b, 1, none⟩ = false := ⟨(H.cell 0).trans rfl, (H.cell 1).trans rfl, H.frozen 0, H.frozen 1⟩
/-- and what is told -/
def DE (V : World) (R : Dn) (W : World) : Prop := Blk W (V.heap.size + 1 + 1) 33 (mdC R.s R.st) ∧ Below V.heap.size V W
theorem put_md {V W : World} {s0 : ByteArray} {t0 : Nat} (h : Blk W (V.heap.size + 1 + 1) 33 (mdC s0 t0)) (hb : Below V.heap.size V W) (s : ByteArray) (t : Nat) : Blk ((W.setCell ⟨V.heap.size + 1 + 1, 0, none⟩ (.string s)).setCell ⟨V.heap.size + 1 + 1, 1, none⟩ (.int .u64 ((t : Nat) : Int))).drew (V.heap.size + 1 + 1) 33 (mdC s t) ∧ Below V.heap.size V ((W.setCell ⟨V.heap.size + 1 + 1, 0, none⟩ (.string s)).setCell ⟨V.heap.size + 1 + 1, 1, none⟩ (.int .u64 ((t : Nat) : Int))).drew := ⟨((h.put 0 _).put 1 _).drew, ((hb.setCell (p := ⟨V.heap.size + 1 + 1, 0, none⟩) (by show _ ≤ V.heap.size + 1 + 1; omega) _).setCell (p := ⟨V.heap.size + 1 + 1, 1, none⟩) (by show _ ≤ V.heap.size + 1 + 1; omega) _).drew⟩
set_option maxRecDepth 100000 in
set_option maxHeartbeats 8000000 in
theorem done_app (s : ByteArray) (st : Nat) (kd a m : Int) (t : ByteArray) (t' : Nat) (ht : t.size ≤ 140737488355328) (hs : s.size ≤ 1048576) (hk3 : kdN kd = 3) (R : Dn) (hR : dnF s st 3 a m t t' = R) (V : World) : Calls Tryz.prog 11 #[.agg (mdC s st), .agg (acC kd a m t t')] V fun e w' => e = .returned (.tuple #[.int .i64 R.ans, .int .i64 R.err, .agg (mdC R.s R.st)]) ∧ Below V.heap.size V w' := by
  have hzm := zero_md
  have bM : Blk (((V.alloc (.cells (mdC s st) 33)).alloc (.cells (acC kd a m t t') 35)).alloc (.cells #[.string ⟨#[]⟩, .int .u64 0] 33)) V.heap.size 33 (mdC s st) := ((Blk.new _ _ _).alloc _).alloc _
  have bA : Blk (((V.alloc (.cells (mdC s st) 33)).alloc (.cells (acC kd a m t t') 35)).alloc (.cells #[.string ⟨#[]⟩, .int .u64 0] 33)) (V.heap.size + 1) 35 (acC kd a m t t') := (Blk.new1 _ _ _ _).alloc _
  have bR : Blk (((V.alloc (.cells (mdC s st) 33)).alloc (.cells (acC kd a m t t') 35)).alloc (.cells #[.string ⟨#[]⟩, .int .u64 0] 33)) (V.heap.size + 1 + 1) 33 (mdC ⟨#[]⟩ 0) := Blk.new2 _ _ _ _ _
  have hbel : Below V.heap.size V (((V.alloc (.cells (mdC s st) 33)).alloc (.cells (acC kd a m t t') 35)).alloc (.cells #[.string ⟨#[]⟩, .int .u64 0] 33)) := below_new3 _ _ _ _
  obtain ⟨m0, m1, _, _⟩ := md_cs bM
  obtain ⟨r0, r1, f0, f1⟩ := md_cs bR
  obtain ⟨c1, c2, c3, c4⟩ := ac_cs bA
  have c0 : (((V.alloc (.cells (mdC s st) 33)).alloc (.cells (acC kd a m t t') 35)).alloc (.cells #[.string ⟨#[]⟩, .int .u64 0] 33)).cell? ⟨V.heap.size + 1, 0, none⟩ = some (.int .i64 kd) := (bA.cell 0).trans rfl
  obtain ⟨hk1, hk2⟩ := kd_is kd
  have b1 := Int.tmod_lt_of_pos kd (show (0 : Int) < 8 by decide)
  have b2 := Int.lt_tmod_of_pos kd (show (0 : Int) < 8 by decide)
  obtain ⟨q1, hq1⟩ : ∃ q1 : Int, kd.tmod 8 = q1 := ⟨_, rfl⟩
  rw [hq1] at b1 b2 hk1
  rw [hk3] at hk1 hk2
  obtain ⟨q2, hq2⟩ : ∃ q2 : Nat, q1 + 8 = (q2 : Int) := ⟨(q1 + 8).toNat, by omega⟩
  rw [hq2] at hk1
  have b3 : q2 ≤ 16 := by omega
  have hw1 : wrap64 q1 = q1 := by unfold wrap64; omega
  have HR : Hid (dnF s st 3 a m t t' = R) := hR
  clear hR b1 b2
  go_enter Tryz.func11, Tryz.ntmps11
  have hD : dnF s st 3 a m t t' = (if 1048576 < s.size + t.size then ⟨0, 160, s, st⟩ else ⟨(s.size : Int), 0, strN (wrF (tbyte s) s.size t s.size) (wzN s.size s.size t.size), if t.size = 0 then st else t'⟩) := rfl
  rw [HR.out] at hD
  obtain ⟨S, hS⟩ : ∃ S : Nat, s.size = S := ⟨_, rfl⟩
  obtain ⟨T, hT⟩ : ∃ T : Nat, t.size = T := ⟨_, rfl⟩
  obtain ⟨lf, hlf⟩ : ∃ lf : Nat, 1048576 - S = lf := ⟨_, rfl⟩
  have e5 : (1048576 : Int) - (S : Int) = (lf : Int) := by omega
  have b5 : lf ≤ 1048576 := by omega
  by_cases hb : 1048576 < s.size + t.size
  · rw [if_pos hb] at hD
    have HD : Hid (R = _) := hD
    have HP : Hid (DE V ⟨0, 160, s, st⟩ _) := put_md bR hbel s st
    have t1 : (lf : Int) < (T : Int) := by omega
    clear hD hb HR bR hbel bM bA hlf
    go_wp2_with fail
    generalize (((V.alloc (.cells (mdC s st) 33)).alloc (.cells (acC kd a m t t') 35)).alloc (.cells #[.string ⟨#[]⟩, .int .u64 0] 33)) = V3 at *
    go_region
    go_wp2_with fail
    try simp only [Exit.inBlock, Exit.then]
    refine bodyPost_ret (res_ttc Tryz.results11 _ _ (V.heap.size + 1 + 1) 33 _ (0, 0) _ rfl (by exact HP.out.1) Tryz.underlying33 rfl (sizeMd.trans (by rfl))) rfl ?_
    rw [HD.out]
    exact ⟨by first | rfl | (rw [hS]; rfl), HP.out.2⟩
  · rw [if_neg hb] at hD
    have t1 : ¬ ((lf : Int) < (T : Int)) := by omega
    by_cases h0 : t.size = 0
    · have e := empty_text h0
      subst e
      rw [if_pos h0, wr_none s _ _ h0] at hD
      have HD : Hid (R = _) := hD
      have HP : Hid (DE V ⟨(s.size : Int), 0, s, st⟩ _) := put_md bR hbel s st
      clear hD hb HR bR hbel bM bA hlf h0
      go_wp2_with fail
      generalize (((V.alloc (.cells (mdC s st) 33)).alloc (.cells (acC kd a m _ t') 35)).alloc (.cells #[.string ⟨#[]⟩, .int .u64 0] 33)) = V3 at *
      go_region
      go_wp2_with fail
      try simp only [Exit.inBlock, Exit.then]
      refine bodyPost_ret (res_ttc Tryz.results11 _ _ (V.heap.size + 1 + 1) 33 _ (0, 0) _ rfl (by exact HP.out.1) Tryz.underlying33 rfl (sizeMd.trans (by rfl))) rfl ?_
      rw [HD.out]
      exact ⟨by first | rfl | (rw [hS]; rfl), HP.out.2⟩
    · rw [if_neg h0, wr_app s t h0] at hD
      have HD : Hid (R = _) := hD
      have HP : Hid (DE V ⟨(s.size : Int), 0, s ++ t, t'⟩ _) := put_md bR hbel (s ++ t) t'
      have hne : t.toList.isEmpty = false := fl_full (by omega)
      have hadd : ∀ w, (Op.stringOp .add s t).run Tryz.prog w = .ok (.string (s ++ t)) w := fun w => run_string_add_sum w _ _ (by omega)
      have hbm := built_md (s ++ t) t'
      clear hD hb HR bR hbel bM bA hlf h0
      go_wp2_with fail
      generalize (((V.alloc (.cells (mdC s st) 33)).alloc (.cells (acC kd a m _ t') 35)).alloc (.cells #[.string ⟨#[]⟩, .int .u64 0] 33)) = V3 at *
      go_region
      go_wp2_with fail
      try simp only [Exit.inBlock, Exit.then]
      refine bodyPost_ret (res_ttc Tryz.results11 _ _ (V.heap.size + 1 + 1) 33 _ (0, 0) _ rfl (by exact HP.out.1) Tryz.underlying33 rfl (sizeMd.trans (by rfl))) rfl ?_
      rw [HD.out]
      exact ⟨by first | rfl | (rw [hS]; rfl), HP.out.2⟩
theorem zeros_any (d : Int) (k : Nat) (hk : k = d.toNat) (hd : d ≤ 140737488355328) (w : World) : Calls Tryz.prog 22 #[.int .i64 d] w fun e w' => e = .returned (.string (strN (fun _ => 0) k)) ∧ Below w.heap.size w w' := by
  by_cases h : d ≤ 0
  · have : k = 0 := by omega
    subst this
    exact zeros_none d h w
  · have := zeros_some k (by omega) (by omega) w
    rw [show (k : Int) = d by omega] at this
    exact this
set_option maxRecDepth 100000 in
set_option maxHeartbeats 8000000 in
theorem done_cut (s : ByteArray) (st : Nat) (kd a m : Int) (t : ByteArray) (t' : Nat) (ha : -9223372036854775808 ≤ a ∧ a ≤ 9223372036854775807) (hs : s.size ≤ 1048576) (hk3 : kdN kd = 4) (R : Dn) (hR : dnF s st 4 a m t t' = R) (V : World) : Calls Tryz.prog 11 #[.agg (mdC s st), .agg (acC kd a m t t')] V fun e w' => e = .returned (.tuple #[.int .i64 R.ans, .int .i64 R.err, .agg (mdC R.s R.st)]) ∧ Below V.heap.size V w' := by
  have hzm := zero_md
  have bM : Blk (((V.alloc (.cells (mdC s st) 33)).alloc (.cells (acC kd a m t t') 35)).alloc (.cells #[.string ⟨#[]⟩, .int .u64 0] 33)) V.heap.size 33 (mdC s st) := ((Blk.new _ _ _).alloc _).alloc _
  have bA : Blk (((V.alloc (.cells (mdC s st) 33)).alloc (.cells (acC kd a m t t') 35)).alloc (.cells #[.string ⟨#[]⟩, .int .u64 0] 33)) (V.heap.size + 1) 35 (acC kd a m t t') := (Blk.new1 _ _ _ _).alloc _
  have bR : Blk (((V.alloc (.cells (mdC s st) 33)).alloc (.cells (acC kd a m t t') 35)).alloc (.cells #[.string ⟨#[]⟩, .int .u64 0] 33)) (V.heap.size + 1 + 1) 33 (mdC ⟨#[]⟩ 0) := Blk.new2 _ _ _ _ _
  have hbel : Below V.heap.size V (((V.alloc (.cells (mdC s st) 33)).alloc (.cells (acC kd a m t t') 35)).alloc (.cells #[.string ⟨#[]⟩, .int .u64 0] 33)) := below_new3 _ _ _ _
  obtain ⟨m0, m1, _, _⟩ := md_cs bM
  obtain ⟨r0, r1, f0, f1⟩ := md_cs bR
  obtain ⟨c1, c2, c3, c4⟩ := ac_cs bA
  have c0 : (((V.alloc (.cells (mdC s st) 33)).alloc (.cells (acC kd a m t t') 35)).alloc (.cells #[.string ⟨#[]⟩, .int .u64 0] 33)).cell? ⟨V.heap.size + 1, 0, none⟩ = some (.int .i64 kd) := (bA.cell 0).trans rfl
  obtain ⟨hk1, hk2⟩ := kd_is kd
  have b1 := Int.tmod_lt_of_pos kd (show (0 : Int) < 8 by decide)
  have b2 := Int.lt_tmod_of_pos kd (show (0 : Int) < 8 by decide)
  obtain ⟨q1, hq1⟩ : ∃ q1 : Int, kd.tmod 8 = q1 := ⟨_, rfl⟩
  rw [hq1] at b1 b2 hk1
  rw [hk3] at hk1 hk2
  obtain ⟨q2, hq2⟩ : ∃ q2 : Nat, q1 + 8 = (q2 : Int) := ⟨(q1 + 8).toNat, by omega⟩
  rw [hq2] at hk1
  have b3 : q2 ≤ 16 := by omega
  have hw1 : wrap64 q1 = q1 := by unfold wrap64; omega
  have HR : Hid (dnF s st 4 a m t t' = R) := hR
  clear hR b1 b2
  go_enter Tryz.func11, Tryz.ntmps11
  have hD : dnF s st 4 a m t t' = (if a < 0 ∨ 1048576 < a then ⟨0, if a < 0 then 1 else 160, s, st⟩ else ⟨0, 0, strN (fzF (tbyte s) s.size) a.toNat, t'⟩) := rfl
  rw [HR.out] at hD
  by_cases h0 : a < 0
  · rw [if_pos (.inl h0), if_pos h0] at hD
    have HD : Hid (R = _) := hD
    have HP : Hid (DE V ⟨0, 1, s, st⟩ _) := put_md bR hbel s st
    have hS : True := trivial
    clear hD HR bR hbel bM bA
    go_wp2_with fail
    generalize (((V.alloc (.cells (mdC s st) 33)).alloc (.cells (acC kd a m t t') 35)).alloc (.cells #[.string ⟨#[]⟩, .int .u64 0] 33)) = V3 at *
    go_region
    go_wp2_with fail
    try simp only [Exit.inBlock, Exit.then]
    refine bodyPost_ret (res_ttc Tryz.results11 _ _ (V.heap.size + 1 + 1) 33 _ (0, 0) _ rfl (by exact HP.out.1) Tryz.underlying33 rfl (sizeMd.trans (by rfl))) rfl ?_
    rw [HD.out]
    exact ⟨by first | rfl | (rw [hS]; rfl), HP.out.2⟩
  · by_cases h1 : 1048576 < a
    · rw [if_pos (.inr h1), if_neg h0] at hD
      have HD : Hid (R = _) := hD
      have HP : Hid (DE V ⟨0, 160, s, st⟩ _) := put_md bR hbel s st
      have hS : True := trivial
      clear hD HR bR hbel bM bA
      go_wp2_with fail
      generalize (((V.alloc (.cells (mdC s st) 33)).alloc (.cells (acC kd a m t t') 35)).alloc (.cells #[.string ⟨#[]⟩, .int .u64 0] 33)) = V3 at *
      go_region
      go_wp2_with fail
      try simp only [Exit.inBlock, Exit.then]
      refine bodyPost_ret (res_ttc Tryz.results11 _ _ (V.heap.size + 1 + 1) 33 _ (0, 0) _ rfl (by exact HP.out.1) Tryz.underlying33 rfl (sizeMd.trans (by rfl))) rfl ?_
      rw [HD.out]
      exact ⟨by first | rfl | (rw [hS]; rfl), HP.out.2⟩
    · rw [if_neg (by omega)] at hD
      obtain ⟨z, hz⟩ : ∃ z : Nat, a = (z : Int) := ⟨a.toNat, by omega⟩
      rw [show a.toNat = z by omega] at hD
      subst hz
      obtain ⟨S, hS⟩ : ∃ S : Nat, s.size = S := ⟨_, rfl⟩
      obtain ⟨d, hd⟩ : ∃ d : Int, (z : Int) - (S : Int) = d := ⟨_, rfl⟩
      have hwd : IntKind.i64.wrap d = d := wrapI64_id _ (by omega) (by omega)
      have HZ : Hid (∀ w : World, Calls Tryz.prog 22 #[.int .i64 d] w fun e w' => e = .returned (.string (strN (fun _ => 0) (z - s.size))) ∧ Below w.heap.size w w') := zeros_any d (z - s.size) (by omega) (by omega)
      rw [← tr_text s z] at hD
      have hadd : ∀ w, (Op.stringOp .add s (strN (fun _ => 0) (z - s.size))).run Tryz.prog w = .ok (.string (zpT s (z - s.size))) w := fun w => run_string_add_sum w _ _ (by rw [strN_size]; omega)
      have hzs : (zpT s (z - s.size)).size = s.size + (z - s.size) := zp_size _ _
      obtain ⟨X, hX⟩ : ∃ X : ByteArray, zpT s (z - s.size) = X := ⟨_, rfl⟩
      obtain ⟨Y, hY⟩ : ∃ Y : ByteArray, strN (fun _ => 0) (z - s.size) = Y := ⟨_, rfl⟩
      rw [hX] at hadd hzs hD
      rw [hY] at hadd HZ
      obtain ⟨L, hL⟩ : ∃ L : Nat, X.size = L := ⟨_, rfl⟩
      have zl : (z : Int) ≤ (L : Int) := by omega
      have z0 : (0 : Int) ≤ (z : Int) := by omega
      have HD : Hid (R = ⟨0, 0, X.extract 0 z, t'⟩) := hD
      have hbm := built_md (X.extract 0 z) t'
      have n0 : ¬ ((z : Int) < 0) := by omega
      have n1 : ¬ ((1048576 : Int) < (z : Int)) := by omega
      have hS0 : Blk (((V.alloc (.cells (mdC s st) 33)).alloc (.cells (acC kd (z : Int) m t t') 35)).alloc (.cells #[.string ⟨#[]⟩, .int .u64 0] 33)).drew V.heap.size 33 (mdC s st) ∧ Blk (((V.alloc (.cells (mdC s st) 33)).alloc (.cells (acC kd (z : Int) m t t') 35)).alloc (.cells #[.string ⟨#[]⟩, .int .u64 0] 33)).drew (V.heap.size + 1) 35 (acC kd (z : Int) m t t') ∧ ∃ s0 t0, Blk (((V.alloc (.cells (mdC s st) 33)).alloc (.cells (acC kd (z : Int) m t t') 35)).alloc (.cells #[.string ⟨#[]⟩, .int .u64 0] 33)).drew (V.heap.size + 1 + 1) 33 (mdC s0 t0) := ⟨bM.drew, bA.drew, _, _, bR.drew⟩
      have hE0 := hbel.drew
      clear hD HR bR hbel bM bA hX hY hzs h0 h1
      go_wp2_with fail
      refine wp_region_plan (fun W => Blk W V.heap.size 33 (mdC s st) ∧ Blk W (V.heap.size + 1) 35 (acC kd (z : Int) m t t') ∧ ∃ s0 t0, Blk W (V.heap.size + 1 + 1) 33 (mdC s0 t0)) (.yield [] 0 (.yield [] 1 (.yield [] 2 (.yield [] 3 (.yield [] 4 (.yield [] 5 (.yield [] 6 (.yield [] 7 (.yield [] 10 (.yield [] 11 (.yield [] 13 (.yield [] 14 (.force [] 8 (.force [16, 17] 9 (.force [] 12 (.force [] 15 (.force [] 18 (.fin [])))))))))))))))))) (by kernel_rfl) (by kernel_rfl) hS0 (plan_yield ?_)
      clear m0 m1 r0 r1 f0 f1 c0 c1 c2 c3 c4
      generalize (((V.alloc (.cells (mdC s st) 33)).alloc (.cells (acC kd (z : Int) m t t') 35)).alloc (.cells #[.string ⟨#[]⟩, .int .u64 0] 33)).drew = W0 at *
      simp only [List.cons_append, List.nil_append, List.append_nil, List.filterMap_cons, List.filterMap_nil, List.getElem?_toArray, List.getElem?_cons_zero, List.getElem?_cons_succ]
      go_wp2_with fail
      refine ⟨rfl, _, .pointer (some ⟨V.heap.size, 0, none⟩), rfl, Or.inl ⟨by rfl, fun W hW => by go_simp⟩, plan_yield ?_⟩
      simp only [Act.put, List.setIfInBounds_toArray, List.set_cons_zero, List.set_cons_succ]
      simp only [List.cons_append, List.nil_append, List.append_nil, List.filterMap_cons, List.filterMap_nil, List.getElem?_toArray, List.getElem?_cons_zero, List.getElem?_cons_succ]
      go_wp2_with fail
      refine ⟨rfl, _, .string s, rfl, Or.inl ⟨by rfl, fun W hW => by obtain ⟨q0, q1, _, _⟩ := md_cs hW.1; go_simp⟩, plan_yield ?_⟩
      simp only [Act.put, List.setIfInBounds_toArray, List.set_cons_zero, List.set_cons_succ]
      simp only [List.cons_append, List.nil_append, List.append_nil, List.filterMap_cons, List.filterMap_nil, List.getElem?_toArray, List.getElem?_cons_zero, List.getElem?_cons_succ]
      go_wp2_with fail
      refine ⟨rfl, _, .pointer (some ⟨V.heap.size + 1, 1, none⟩), rfl, Or.inl ⟨by rfl, fun W hW => by go_simp⟩, plan_yield ?_⟩
      simp only [Act.put, List.setIfInBounds_toArray, List.set_cons_zero, List.set_cons_succ]
      simp only [List.cons_append, List.nil_append, List.append_nil, List.filterMap_cons, List.filterMap_nil, List.getElem?_toArray, List.getElem?_cons_zero, List.getElem?_cons_succ]
      go_wp2_with fail
      refine ⟨rfl, _, .int .i64 (z : Int), rfl, Or.inl ⟨by rfl, fun W hW => by obtain ⟨q1, q2, q3, q4⟩ := ac_cs hW.2.1; go_simp⟩, plan_yield ?_⟩
      simp only [Act.put, List.setIfInBounds_toArray, List.set_cons_zero, List.set_cons_succ]
      simp only [List.cons_append, List.nil_append, List.append_nil, List.filterMap_cons, List.filterMap_nil, List.getElem?_toArray, List.getElem?_cons_zero, List.getElem?_cons_succ]
      go_wp2_with fail
      refine ⟨rfl, _, .pointer (some ⟨V.heap.size, 0, none⟩), rfl, Or.inl ⟨by rfl, fun W hW => by go_simp⟩, plan_yield ?_⟩
      simp only [Act.put, List.setIfInBounds_toArray, List.set_cons_zero, List.set_cons_succ]
      simp only [List.cons_append, List.nil_append, List.append_nil, List.filterMap_cons, List.filterMap_nil, List.getElem?_toArray, List.getElem?_cons_zero, List.getElem?_cons_succ]
      go_wp2_with fail
      refine ⟨rfl, _, .string s, rfl, Or.inl ⟨by rfl, fun W hW => by obtain ⟨q0, q1, _, _⟩ := md_cs hW.1; go_simp⟩, plan_yield ?_⟩
      simp only [Act.put, List.setIfInBounds_toArray, List.set_cons_zero, List.set_cons_succ]
      simp only [List.cons_append, List.nil_append, List.append_nil, List.filterMap_cons, List.filterMap_nil, List.getElem?_toArray, List.getElem?_cons_zero, List.getElem?_cons_succ]
      go_wp2_with fail
      refine ⟨rfl, _, .int .i64 (S : Int), rfl, Or.inl ⟨by rfl, fun W hW => by go_simp⟩, plan_yield ?_⟩
      simp only [Act.put, List.setIfInBounds_toArray, List.set_cons_zero, List.set_cons_succ]
      simp only [List.cons_append, List.nil_append, List.append_nil, List.filterMap_cons, List.filterMap_nil, List.getElem?_toArray, List.getElem?_cons_zero, List.getElem?_cons_succ]
      go_wp2_with fail
      refine ⟨rfl, _, .int .i64 d, rfl, Or.inl ⟨by rfl, fun W hW => by go_simp⟩, plan_yield ?_⟩
      simp only [Act.put, List.setIfInBounds_toArray, List.set_cons_zero, List.set_cons_succ]
      simp only [List.cons_append, List.nil_append, List.append_nil, List.filterMap_cons, List.filterMap_nil, List.getElem?_toArray, List.getElem?_cons_zero, List.getElem?_cons_succ]
      go_wp2_with fail
      refine ⟨rfl, _, .pointer (some ⟨V.heap.size + 1, 1, none⟩), rfl, Or.inl ⟨by rfl, fun W hW => by go_simp⟩, plan_yield ?_⟩
      simp only [Act.put, List.setIfInBounds_toArray, List.set_cons_zero, List.set_cons_succ]
      simp only [List.cons_append, List.nil_append, List.append_nil, List.filterMap_cons, List.filterMap_nil, List.getElem?_toArray, List.getElem?_cons_zero, List.getElem?_cons_succ]
      go_wp2_with fail
      refine ⟨rfl, _, .int .i64 (z : Int), rfl, Or.inl ⟨by rfl, fun W hW => by obtain ⟨q1, q2, q3, q4⟩ := ac_cs hW.2.1; go_simp⟩, plan_yield ?_⟩
      simp only [Act.put, List.setIfInBounds_toArray, List.set_cons_zero, List.set_cons_succ]
      simp only [List.cons_append, List.nil_append, List.append_nil, List.filterMap_cons, List.filterMap_nil, List.getElem?_toArray, List.getElem?_cons_zero, List.getElem?_cons_succ]
      go_wp2_with fail
      refine ⟨rfl, _, .pointer (some ⟨V.heap.size + 1, 4, none⟩), rfl, Or.inl ⟨by rfl, fun W hW => by go_simp⟩, plan_yield ?_⟩
      simp only [Act.put, List.setIfInBounds_toArray, List.set_cons_zero, List.set_cons_succ]
      simp only [List.cons_append, List.nil_append, List.append_nil, List.filterMap_cons, List.filterMap_nil, List.getElem?_toArray, List.getElem?_cons_zero, List.getElem?_cons_succ]
      go_wp2_with fail
      refine ⟨rfl, _, .int .u64 ((t' : Nat) : Int), rfl, Or.inl ⟨by rfl, fun W hW => by obtain ⟨q1, q2, q3, q4⟩ := ac_cs hW.2.1; go_simp⟩, plan_force ?_⟩
      simp only [Act.put, List.setIfInBounds_toArray, List.set_cons_zero, List.set_cons_succ]
      simp only [List.cons_append, List.nil_append, List.append_nil, List.filterMap_cons, List.filterMap_nil, List.getElem?_toArray, List.getElem?_cons_zero, List.getElem?_cons_succ]
      go_wp2_with fail
      refine (HZ.out _).mono ?_
      rintro e W1 ⟨rfl, hz1⟩
      have hS1 : Blk W1 V.heap.size 33 (mdC s st) ∧ Blk W1 (V.heap.size + 1) 35 (acC kd (z : Int) m t t') ∧ ∃ s0 t0, Blk W1 (V.heap.size + 1 + 1) 33 (mdC s0 t0) := by
        obtain ⟨u1, u2, s0, t0, u3⟩ := hS0
        exact ⟨u1.below hz1 u1.lt, u2.below hz1 u2.lt, s0, t0, u3.below hz1 u3.lt⟩
      have hE1 : Below V.heap.size V W1 := hE0.trans (hz1.mono hE0.size)
      clear hz1 hE0 hS0
      go_wp2_with fail
      refine ⟨rfl, hS1, plan_force ?_⟩
      simp only [List.cons_append, List.nil_append, List.append_nil, List.filterMap_cons, List.filterMap_nil, List.getElem?_toArray, List.getElem?_cons_zero, List.getElem?_cons_succ]
      go_wp2_with fail
      refine ⟨rfl, hS1, plan_force ?_⟩
      simp only [List.cons_append, List.nil_append, List.append_nil, List.filterMap_cons, List.filterMap_nil, List.getElem?_toArray, List.getElem?_cons_zero, List.getElem?_cons_succ]
      go_wp2_with fail
      refine ⟨rfl, hS1, plan_force ?_⟩
      simp only [List.cons_append, List.nil_append, List.append_nil, List.filterMap_cons, List.filterMap_nil, List.getElem?_toArray, List.getElem?_cons_zero, List.getElem?_cons_succ]
      (refine fl_build_at (by rfl) 33 _ (by rfl) [(0, .string (X.extract 0 z)), (1, .int .u64 ((t' : Nat) : Int))] (by simp [Act.eval]) (mdC (X.extract 0 z) t') hbm ?_; simp only [Act.put, List.setIfInBounds_toArray, List.set_cons_zero, List.set_cons_succ])
      go_wp2_with fail
      refine ⟨rfl, hS1, plan_force ?_⟩
      simp only [List.cons_append, List.nil_append, List.append_nil, List.filterMap_cons, List.filterMap_nil, List.getElem?_toArray, List.getElem?_cons_zero, List.getElem?_cons_succ]
      obtain ⟨u1, u2, s0, t0, u3⟩ := hS1
      (refine wpList_store_row (by rfl) 33 _ _ (by rfl) (V.heap.size + 1 + 1) (mdC (X.extract 0 z) t') (by rfl) (by rfl) 33 (mdC s0 t0) (by exact u3) (sizeMd.trans (by rfl)) (by rfl) (md_all _ _) ?_; simp only [Act.put, List.setIfInBounds_toArray, List.set_cons_zero, List.set_cons_succ])
      have HP : Hid (Blk (W1.setRow (V.heap.size + 1 + 1) (mdC (X.extract 0 z) t')) (V.heap.size + 1 + 1) 33 (mdC (X.extract 0 z) t') ∧ Below V.heap.size V (W1.setRow (V.heap.size + 1 + 1) (mdC (X.extract 0 z) t'))) := ⟨u3.set _, below_setRow hE1 (by omega) _⟩
      have hS2 : Blk (W1.setRow (V.heap.size + 1 + 1) (mdC (X.extract 0 z) t')) V.heap.size 33 (mdC s st) ∧ Blk (W1.setRow (V.heap.size + 1 + 1) (mdC (X.extract 0 z) t')) (V.heap.size + 1) 35 (acC kd (z : Int) m t t') ∧ ∃ s0 t0, Blk (W1.setRow (V.heap.size + 1 + 1) (mdC (X.extract 0 z) t')) (V.heap.size + 1 + 1) 33 (mdC s0 t0) := ⟨u1.other (g := V.heap.size + 1 + 1) (mdC (X.extract 0 z) t') (by omega), u2.other _ (by omega), _, _, u3.set _⟩
      clear u1 u2 u3 hE1
      go_wp2_with fail
      refine ⟨rfl, hS2, plan_fin ?_⟩
      simp only [List.cons_append, List.nil_append, List.append_nil, List.filterMap_cons, List.filterMap_nil, List.getElem?_toArray, List.getElem?_cons_zero, List.getElem?_cons_succ]
      go_wp2_with fail
      refine ⟨rfl, ?_⟩
      go_wp2_with fail
      try simp only [Exit.inBlock, Exit.then]
      refine bodyPost_ret (res_ttc Tryz.results11 _ _ (V.heap.size + 1 + 1) 33 _ (0, 0) _ rfl (by exact HP.out.1) Tryz.underlying33 rfl (sizeMd.trans (by rfl))) rfl ?_
      rw [HD.out]
      exact ⟨by first | rfl | (rw [hS]; rfl), HP.out.2⟩
end Go.Proofs.YtojbgggkfahkfaaGreat
