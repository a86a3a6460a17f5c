/- Numbers in bytes: the document's number and value. -/
import Derived.Test.YtpoaipoadokggaaHIoFrom
import Derived.Handy
import Derived.Test.YtpoaipoadokggaaHIoTake
import Derived.Lib.ConvBytes

namespace Go.Proofs.Ytpoaipoadokggaa
set_option maxRecDepth 20000
open Go Go.RowKit
set_option linter.unusedVariables false
set_option linter.unusedSimpArgs false
theorem le2_dig (n : Nat) (h : n < 65536) : le2 (dig n 0) (dig n 1) = n := by
  unfold le2 dig
  simp only [Nat.pow_zero, Nat.pow_one, Nat.div_one]
  omega
theorem le4_dig (n : Nat) (h : n < 4294967296) : le4 (dig n 0) (dig n 1) (dig n 2) (dig n 3) = n := by
  unfold le4 dig
  simp only [Nat.pow_zero, Nat.pow_one, Nat.div_one, show (256 : Nat) ^ 2 = 65536 from rfl, show (256 : Nat) ^ 3 = 16777216 from rfl]
  omega
theorem le8_dig (n : Nat) (h : n < 18446744073709551616) : le8 (dig n 0) (dig n 1) (dig n 2) (dig n 3) (dig n 4) (dig n 5) (dig n 6) (dig n 7) = n := by
  unfold le8 dig
  simp only [Nat.pow_zero, Nat.pow_one, Nat.div_one, show (256 : Nat) ^ 2 = 65536 from rfl, show (256 : Nat) ^ 3 = 16777216 from rfl, show (256 : Nat) ^ 4 = 4294967296 from rfl, show (256 : Nat) ^ 5 = 1099511627776 from rfl, show (256 : Nat) ^ 6 = 281474976710656 from rfl, show (256 : Nat) ^ 7 = 72057594037927936 from rfl]
  omega
theorem enc_byte (x : Ino) (hx : okD x.r.2) (j : Nat) (hj : j < 64) : tbyte (strN (inB x) 64) j = inB x j := strN_at _ _ _ hj (inB_lt x hx j)
theorem enc_size (x : Ino) : (strN (inB x) 64).size = 64 := strN_size _ _
theorem enc_k (x : Ino) (hx : okD x.r.2) (h : 0 ≤ x.k ∧ x.k < 65536) : ((at2 (strN (inB x) 64) 0 : Nat) : Int) = x.k := by
  unfold at2
  rw [enc_byte x hx 0 (by decide), enc_byte x hx 1 (by decide), show inB x 0 = dig x.k.toNat 0 from rfl, show inB x 1 = dig x.k.toNat 1 from rfl, le2_dig _ (by omega)]
  omega
theorem enc_l (x : Ino) (hx : okD x.r.2) (h : 0 ≤ x.l ∧ x.l < 65536) : ((at2 (strN (inB x) 64) 2 : Nat) : Int) = x.l := by
  unfold at2
  rw [enc_byte x hx 2 (by decide), enc_byte x hx 3 (by decide), show inB x 2 = dig x.l.toNat 0 from rfl, show inB x 3 = dig x.l.toNat 1 from rfl, le2_dig _ (by omega)]
  omega
theorem enc_h (x : Ino) (hx : okD x.r.2) (h : 0 ≤ x.h ∧ x.h < 65536) : ((at2 (strN (inB x) 64) 4 : Nat) : Int) = x.h := by
  unfold at2
  rw [enc_byte x hx 4 (by decide), enc_byte x hx 5 (by decide), show inB x 4 = dig x.h.toNat 0 from rfl, show inB x 5 = dig x.h.toNat 1 from rfl, le2_dig _ (by omega)]
  omega
theorem enc_s (x : Ino) (hx : okD x.r.2) (h : 0 ≤ x.s ∧ x.s < 65536 * 65536) : ((at8 (strN (inB x) 64) 8 : Nat) : Int) = x.s := by
  unfold at8
  rw [enc_byte x hx 8 (by decide), enc_byte x hx (8 + 1) (by decide), enc_byte x hx (8 + 2) (by decide), enc_byte x hx (8 + 3) (by decide), enc_byte x hx (8 + 4) (by decide), enc_byte x hx (8 + 5) (by decide), enc_byte x hx (8 + 6) (by decide), enc_byte x hx (8 + 7) (by decide),
    show inB x 8 = dig x.s.toNat 0 from rfl, show inB x (8 + 1) = dig x.s.toNat 1 from rfl, show inB x (8 + 2) = dig x.s.toNat 2 from rfl, show inB x (8 + 3) = dig x.s.toNat 3 from rfl, show inB x (8 + 4) = dig x.s.toNat 4 from rfl, show inB x (8 + 5) = dig x.s.toNat 5 from rfl, show inB x (8 + 6) = dig x.s.toNat 6 from rfl, show inB x (8 + 7) = dig x.s.toNat 7 from rfl, le8_dig _ (by omega)]
  omega
theorem enc_t (x : Ino) (hx : okD x.r.2) (h : x.t < 18446744073709551616) : at8 (strN (inB x) 64) 16 = x.t := by
  unfold at8
  rw [enc_byte x hx 16 (by decide), enc_byte x hx (16 + 1) (by decide), enc_byte x hx (16 + 2) (by decide), enc_byte x hx (16 + 3) (by decide), enc_byte x hx (16 + 4) (by decide), enc_byte x hx (16 + 5) (by decide), enc_byte x hx (16 + 6) (by decide), enc_byte x hx (16 + 7) (by decide),
    show inB x 16 = dig x.t 0 from rfl, show inB x (16 + 1) = dig x.t 1 from rfl, show inB x (16 + 2) = dig x.t 2 from rfl, show inB x (16 + 3) = dig x.t 3 from rfl, show inB x (16 + 4) = dig x.t 4 from rfl, show inB x (16 + 5) = dig x.t 5 from rfl, show inB x (16 + 6) = dig x.t 6 from rfl, show inB x (16 + 7) = dig x.t 7 from rfl, le8_dig _ h]
theorem enc_r (x : Ino) (hx : okD x.r.2) (h : x.r.1 < 4294967296) : decR (strN (inB x) 64) 24 = x.r := by
  unfold decR
  have h1 : at4 (strN (inB x) 64) 24 = x.r.1 := by
    unfold at4
    rw [enc_byte x hx 24 (by decide), enc_byte x hx (24 + 1) (by decide), enc_byte x hx (24 + 2) (by decide), enc_byte x hx (24 + 3) (by decide),
      show inB x 24 = dig x.r.1 0 from rfl, show inB x (24 + 1) = dig x.r.1 1 from rfl, show inB x (24 + 2) = dig x.r.1 2 from rfl, show inB x (24 + 3) = dig x.r.1 3 from rfl, le4_dig _ h]
  have h2 : (sumD fun i => tbyte (strN (inB x) 64) (24 + 4 + i)) = x.r.2 := by
    refine dF_inj fun i hi => ?_
    rw [dF_sumD _ i hi, enc_byte x hx _ (by omega)]
    unfold inB encR
    rw [if_neg (by omega), if_neg (by omega), if_neg (by omega), if_neg (by omega), if_neg (by omega), if_neg (by omega), if_pos (by omega), if_neg (by omega), show 24 + 4 + i - 24 - 4 = i by omega]
  rw [h1, h2]
theorem prt_enc (x : Ino) (hx : InW x) (hc : chk x = true) : prt (strN (inB x) 64) = x := by
  obtain ⟨b1, b2, b3, b4, b5, b6⟩ := chk_small hc
  have hz := enc_size x
  unfold prt tk2 tk8 tkR
  rw [hz, if_pos (by decide), if_pos (by decide), if_pos (by decide), if_pos (by decide), if_pos (by decide), enc_r x hx.d hx.a, if_pos ⟨by decide, b6⟩, enc_k x hx.d (by omega), enc_l x hx.d (by omega), enc_h x hx.d (by omega), enc_t x hx.d hx.t]
  have hs := enc_s x hx.d (by omega)
  have hs2 : ((szI (at8 (strN (inB x) 64) 8) : Nat) : Int) = x.s := by
    unfold szI
    rw [if_pos (by omega)]
    exact hs
  rw [hs2]
theorem dec_enc (x : Ino) (hx : InW x) (hc : chk x = true) : decOk (strN (inB x) 64) = true ∧ decV (strN (inB x) 64) = x ∧ decE (strN (inB x) 64) = 0 := by
  have hp := prt_enc x hx hc
  have hk : decOk (strN (inB x) 64) = true := by
    unfold decOk
    rw [hp, hc, decide_eq_true rfl]
    rfl
  refine ⟨hk, ?_, ?_⟩
  · unfold decV
    rw [hk, if_pos rfl, hp]
  · unfold decE
    rw [hk]
    rfl
theorem dec_back (s : ByteArray) (h : decOk s = true) : decV s = prt s ∧ chk (prt s) = true ∧ strN (inB (prt s)) 64 = s := by
  have h' := h
  unfold decOk at h'
  rw [Bool.and_eq_true, decide_eq_true_eq] at h'
  exact ⟨by unfold decV; rw [h, if_pos rfl], h'.1, h'.2⟩
end Go.Proofs.Ytpoaipoadokggaa

namespace Go.Proofs.Ytpoaipoadokggaa
set_option maxRecDepth 20000
open Go Go.RowKit
set_option linter.unusedVariables false
set_option linter.unusedSimpArgs false
set_option maxHeartbeats 1000000 in
theorem number_own (n k : Nat) (hk : k ≤ 8) (hn : n < 18446744073709551616) (w : World) :
    Calls Try.prog 28 #[.int .u64 (n : Int), .int .i64 (k : Int)] w fun e w' => ∃ v, e = .returned v ∧ w'.ownsRow w.heap.size 5 1 v k ((digs n k).map (Value.int .u8)) ∧ Below w.heap.size w w' := by
  obtain ⟨i0, hi, hz0, hz1, hz2⟩ := info_parts infoU8
  go_enter Try.func28, Try.ntmps28
  go_wp2
  go_loopw [0, 5, 6] (fun m v i wr => ∃ j : Nat, j ≤ k ∧ i = .int .i64 j ∧ m = .int .u64 ((n / 256 ^ j : Nat) : Int) ∧ wr.ownsRow w.heap.size 5 1 v j ((digs n j).map (Value.int .u8)) ∧ Below w.heap.size w wr) (fun _ _ i _ => k - (intOf i).toNat)
  case atStart =>
    refine ⟨0, by omega, rfl, by simp, ?_, (Below.refl _ _).alloc (Nat.le_refl _) _⟩
    exact World.ownsRow_lit w #[] 0 (Nat.le_refl _) (by decide) rfl
  case round =>
    obtain ⟨j, hj, rfl, rfl, hown, hbel⟩ := hrel
    by_cases hlt : j < k
    · have hv := hown.lt
      have hqn : n / 256 ^ j ≤ n := Nat.div_le_self _ _
      have HD := digs_succ n j
      have HQ : n / 256 ^ (j + 1) = n / 256 ^ j / 256 := by rw [Nat.pow_succ, Nat.div_div_eq_div_mul]
      generalize hq : n / 256 ^ j = q at *
      have HD' : Hid (digs n (j + 1) = digs n j ++ [((q % 256 : Nat) : Int)]) := HD
      have HQ' : Hid (n / 256 ^ (j + 1) = q / 256) := HQ
      clear HD HQ hq
      go_wp2_with (first
        | (at_builtin; refine wpList_append_own _ rfl _ _ 32 rfl w.heap.size 5 i0 (.int .u8 0) 1 1 Try.underlying32 hi hz0 hz1 hz2 rfl (by decide) _ _ _ rfl (hown.alloc _) ⟨wr.heap.size, 0, none⟩ 1 1 [.int .u8 ((q : Int) % 256)] rfl rfl (cell_one_new _ _ _) (fun x hx => by simp at hx; subst hx; rfl) (by unfold maxLen; omega) (by omega) (by have := hbel.size; simp; omega) ?_)
        | go_in)
      intro v' w1 hown' hgrow _
      have hb1 : Below w.heap.size w w1 := (hbel.alloc (by have := hbel.size; omega) _).grown hgrow (by have := hbel.size; simp; omega) (fun k hk => (hv k hk).1)
      clear hown hv hgrow hbel
      go_wp2
      go_roundw
      case rel =>
        refine ⟨j + 1, by omega, by go_num, ?_, ?_, hb1⟩
        · rw [HQ'.out]; simp
        · rw [HD'.out]; simpa using hown'
      case measure => simp [intOf]; omega
    · go_wp2
      go_ret
      have : j = k := by omega
      subst this
      exact ⟨_, rfl, hown, hbel⟩
/-- the number of a text's last m bytes -/
def vN (u : ByteArray) : Nat → Nat
  | 0 => 0
  | m + 1 => 256 * vN u m + tbyte u (u.size - 1 - m)
theorem vN_lt (u : ByteArray) : ∀ m, vN u m < 256 ^ m
  | 0 => Nat.one_pos
  | m + 1 => by
    have h1 := vN_lt u m
    have h2 := tbyte_lt u (u.size - 1 - m)
    show 256 * vN u m + tbyte u (u.size - 1 - m) < 256 ^ (m + 1)
    rw [Nat.pow_succ]
    omega
theorem pow256 (m : Nat) (h : m ≤ 7) : 256 ^ m ≤ 72057594037927936 := by
  have : (256 : Nat) ^ m ≤ 256 ^ 7 := Nat.pow_le_pow_right (by decide) h
  exact this
set_option maxHeartbeats 4000000 in
theorem value_any (u : ByteArray) (hu : u.size ≤ 8) (w : World) : Calls Try.prog 33 #[.string u] w fun e w' => e = .returned (.int .u64 ((vN u u.size : Nat) : Int)) ∧ w' = w := by
  go_enter Try.func33, Try.ntmps33
  go_wp2
  go_loopw [3, 4] (fun v i wr => Hid (∃ m : Nat, m ≤ u.size ∧ i = .int .i64 ((u.size : Int) - 1 - (m : Int)) ∧ v = .int .u64 ((vN u m : Nat) : Int) ∧ wr = w)) (fun _ i _ => (intOf i + 1).toNat)
  case atStart => exact ⟨0, by omega, by simp, rfl, rfl⟩
  case round =>
    obtain ⟨m, hm, rfl, rfl, rfl⟩ := Hid.out hrel
    clear hrel
    by_cases hlt : m < u.size
    · have h0 : 0 ≤ (u.size : Int) - 1 - (m : Int) := by omega
      have h1 : (u.size : Int) - 1 - (m : Int) < (u.size : Int) := by omega
      have hv := vN_lt u m
      have hp := pow256 m (by omega)
      have hj : u.size - 1 - m < u.size := by omega
      have hti : ((u.size : Int) - 1 - (m : Int)).toNat = u.size - 1 - m := by omega
      have hb : u[u.size - 1 - m].toNat < 256 := UInt8.toNat_lt _
      have HS : Hid (vN u (m + 1) = 256 * vN u m + u[u.size - 1 - m].toNat) := by
        show 256 * vN u m + tbyte u (u.size - 1 - m) = _
        rw [tbyte_get u _ hj]
      have hw1 : IntKind.u64.wrap (256 * ((vN u m : Nat) : Int)) = 256 * ((vN u m : Nat) : Int) := by
        have := wrap_u64 (256 * vN u m) (by omega)
        simpa using this
      have hw2 : IntKind.u64.wrap (256 * ((vN u m : Nat) : Int) + ((u[u.size - 1 - m].toNat : Nat) : Int)) = 256 * ((vN u m : Nat) : Int) + ((u[u.size - 1 - m].toNat : Nat) : Int) := by
        have := wrap_u64 (256 * vN u m + u[u.size - 1 - m].toNat) (by omega)
        simpa using this
      go_wp2
      have hs2 := HS.out
      refine ⟨⟨m + 1, by omega, by congr 1; omega, by congr 1; omega, trivial⟩, ?_⟩
      simp only [intOf]
      omega
    · have e : m = u.size := by omega
      subst e
      go_wp2
      go_ret
      exact ⟨rfl, rfl⟩
theorem vN2 (u : ByteArray) (h : u.size = 2) : vN u u.size = le2 (tbyte u 0) (tbyte u 1) := by
  rw [h]
  show 256 * (256 * 0 + tbyte u (u.size - 1 - 0)) + tbyte u (u.size - 1 - 1) = _
  rw [h]
  unfold le2
  show 256 * (256 * 0 + tbyte u 1) + tbyte u 0 = _
  omega
theorem vN4 (u : ByteArray) (h : u.size = 4) : vN u u.size = le4 (tbyte u 0) (tbyte u 1) (tbyte u 2) (tbyte u 3) := by
  rw [h]
  show 256 * (256 * (256 * (256 * 0 + tbyte u (u.size - 1 - 0)) + tbyte u (u.size - 1 - 1)) + tbyte u (u.size - 1 - 2)) + tbyte u (u.size - 1 - 3) = _
  rw [h]
  unfold le4
  show 256 * (256 * (256 * (256 * 0 + tbyte u 3) + tbyte u 2) + tbyte u 1) + tbyte u 0 = _
  omega
theorem vN8 (u : ByteArray) (h : u.size = 8) : vN u u.size = le8 (tbyte u 0) (tbyte u 1) (tbyte u 2) (tbyte u 3) (tbyte u 4) (tbyte u 5) (tbyte u 6) (tbyte u 7) := by
  rw [h]
  show 256 * (256 * (256 * (256 * (256 * (256 * (256 * (256 * 0 + tbyte u (u.size - 1 - 0)) + tbyte u (u.size - 1 - 1)) + tbyte u (u.size - 1 - 2)) + tbyte u (u.size - 1 - 3)) + tbyte u (u.size - 1 - 4)) + tbyte u (u.size - 1 - 5)) + tbyte u (u.size - 1 - 6)) + tbyte u (u.size - 1 - 7) = _
  rw [h]
  unfold le8
  show 256 * (256 * (256 * (256 * (256 * (256 * (256 * (256 * 0 + tbyte u 7) + tbyte u 6) + tbyte u 5) + tbyte u 4) + tbyte u 3) + tbyte u 2) + tbyte u 1) + tbyte u 0 = _
  omega
theorem part_at2 (s : ByteArray) (a : Nat) (h : a + 2 ≤ s.size) : vN (s.extract a (a + 2)) (s.extract a (a + 2)).size = at2 s a := by
  rw [vN2 _ (by rw [extract_size s a (a + 2) h]; omega)]
  unfold at2
  rw [tbyte_extract0 s a 2 0 (by decide), tbyte_extract0 s a 2 1 (by decide)]
  rfl
theorem part_at4 (s : ByteArray) (a : Nat) (h : a + 4 ≤ s.size) : vN (s.extract a (a + 4)) (s.extract a (a + 4)).size = at4 s a := by
  rw [vN4 _ (by rw [extract_size s a (a + 4) h]; omega)]
  unfold at4
  rw [tbyte_extract0 s a 4 0 (by decide), tbyte_extract0 s a 4 1 (by decide), tbyte_extract0 s a 4 2 (by decide), tbyte_extract0 s a 4 3 (by decide)]
  rfl
theorem part_at8 (s : ByteArray) (a : Nat) (h : a + 8 ≤ s.size) : vN (s.extract a (a + 8)) (s.extract a (a + 8)).size = at8 s a := by
  rw [vN8 _ (by rw [extract_size s a (a + 8) h]; omega)]
  unfold at8
  rw [tbyte_extract0 s a 8 0 (by decide), tbyte_extract0 s a 8 1 (by decide), tbyte_extract0 s a 8 2 (by decide), tbyte_extract0 s a 8 3 (by decide), tbyte_extract0 s a 8 4 (by decide), tbyte_extract0 s a 8 5 (by decide), tbyte_extract0 s a 8 6 (by decide), tbyte_extract0 s a 8 7 (by decide)]
  rfl
end Go.Proofs.Ytpoaipoadokggaa
