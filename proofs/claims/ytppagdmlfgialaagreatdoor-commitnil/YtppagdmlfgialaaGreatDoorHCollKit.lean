/- Two like ones in a row of digests: which places are named, and that it is one answer; digests as keys of a map. -/
import Derived.Test.YtppagdmlfgialaaGreatDoorHDigRow
import Derived.Test.YtppagdmlfgialaaGreatDoorHDigSum
import Derived.Test.YtppagdmlfgialaaGreatDoorHRoundsRefPos
import Derived.Deep.Heap
import Derived.Handy
import Derived.Test.YtppagdmlfgialaaGreatDoorProg
import Derived.KernelRfl
import Derived.RowKit
import Derived.Test.YtppagdmlfgialaaGreatDoorHRowf
import Derived.ChangeKeysEq
import Derived.WalkKit
import Derived.Laws.BytesArg

namespace Go.Proofs.YtppagdmlfgialaaGreatDoor
open Go.RowKit
set_option linter.unusedSimpArgs false
set_option linter.unusedVariables false

theorem size32 : (Tryz.prog.info? 38).map (·.size) = some 32 := by kernel_rfl
theorem size16 : (Tryz.prog.info? 340).map (·.size) = some 16 := by kernel_rfl
theorem digs_bytes (n k : Nat) : (digs n k).map (Value.int .u8) = bytesL (dig n) k := by
  unfold digs bytesL dig
  rw [List.map_map]
  rfl
theorem app_first (s : ByteArray) (n : Nat) : ∀ j, j < n + 1 → appN (byteAt s) n (fun _ => 128) j = zeroN (byteAt s) n j := fun j hj => by
  unfold appN zeroN
  by_cases h : j < n
  · rw [if_pos h, if_pos h]
  · rw [if_neg h, if_neg h, if_pos (by omega)]
theorem app_zero (f : Nat → Nat) (n m : Nat) (h : n < m) : ∀ j, j < m + 1 → appN (zeroN f n) m (fun _ => 0) j = zeroN f n j := fun j hj => by
  unfold appN
  by_cases h1 : j < m
  · rw [if_pos h1]
  · rw [if_neg h1]
    unfold zeroN
    rw [if_neg (by omega), if_neg (by omega)]
theorem app_last (f : Nat → Nat) (n : Nat) : ∀ j, j < padLen n → appN (zeroN f n) (padLen n - 8) (dig n) j = padN f n j := fun j hj => by
  have g := padLen_ge n
  unfold appN zeroN padN
  by_cases h1 : j < n
  · rw [if_pos (by omega), if_pos h1, if_pos h1]
  · rw [if_neg h1, if_neg h1]
    by_cases h2 : j = n
    · rw [if_pos (by omega), if_pos h2, if_pos h2]
    · rw [if_neg h2, if_neg h2]
theorem cells_one (w : World) (x : Nat) (t : TypeId) : ∀ j u, (bytesL (fun _ => x) 1)[j]? = some u → (w.alloc (.cells #[.int .u8 ((x : Nat) : Int)] t)).cell? ((⟨w.heap.size, 0, none⟩ : Addr).add j) = some u := cell_one_new w (.int .u8 ((x : Nat) : Int)) t

theorem press_val2 (c p : Nat → Nat) (hc : okC c) (hp : okP p) (k : Nat) (hk : k < 8) :
    bits .xor .u32 (bits .xor .u32 ((c k : Nat) : Int) (((mixedN c p).at k : Nat) : Int)) (((mixedN c p).at (k + 8) : Nat) : Int) = ((pressN c p k : Nat) : Int) := by
  have h1 := (mixedN c p).at_lt (mixed_ok hc hp) k
  have h2 := (mixedN c p).at_lt (mixed_ok hc hp) (k + 8)
  rw [u32_xor_nat _ _ (hc k hk) h1, u32_xor_nat _ _ (xlt32 (hc k hk) h1) h2, Nat.xor_assoc]
  rfl

set_option maxRecDepth 100000 in
set_option maxHeartbeats 8000000 in
theorem refOf_any (tag : Nat) (h : tag < 256) (s : ByteArray) (hs : s.size ≤ 140737488351232) (w : World) :
    Calls Tryz.prog 151 #[.int .u8 (tag : Int), .string s] w fun e w' => e = .returned (.agg (va 32 (iv .u8 (ofN tag (byteAt s) s.size)))) ∧ Below w.heap.size w w' := by
  obtain ⟨i0, hi, hz0, hz1, hz2⟩ := info_parts infoU8
  have HI : Hid (Tryz.prog.info? 5 = some i0 ∧ i0.zero = some (.int .u8 0) ∧ i0.size = 1 ∧ i0.bytes = 1) := ⟨hi, hz0, hz1, hz2⟩
  clear hi hz0 hz1 hz2
  obtain ⟨n, hn⟩ : ∃ n, n = s.size := ⟨_, rfl⟩
  have HFIN : Hid (ofN tag (byteAt s) s.size = sumN (runN (firstN tag) (padN (byteAt s) n) ((n + 8) / 32 + 1))) := by
    show _ = _
    rw [← hn]
    rfl
  rw [← hn] at hs
  have HNS : Hid (n = s.size) := hn
  have hsn : s.size = n := hn.symm
  clear hn
  go_enter Tryz.func151, Tryz.ntmps151
  go_wp2_with fail
  go_loopw [6] (fun i wr => ∃ k : Nat, k ≤ 8 ∧ i = .int .i64 k ∧ Blk wr w.heap.size 38 (va 32 (iv .u8 fun _ => 0)) ∧ Blk wr (w.heap.size + 1) 339 (va 8 (iv .u32 (fupN k (firstN tag) fun _ => 0))) ∧ Below w.heap.size w wr) (fun i _ => 8 - (intOf i).toNat)
  case atStart =>
    refine ⟨0, by omega, rfl, ?_, ?_, ?_⟩
    · exact (Blk.new w _ (va 32 (iv .u8 fun _ => 0))).alloc _
    · have e : (w.alloc (.cells #[.int .u8 0, .int .u8 0, .int .u8 0, .int .u8 0, .int .u8 0, .int .u8 0, .int .u8 0, .int .u8 0, .int .u8 0, .int .u8 0, .int .u8 0, .int .u8 0, .int .u8 0, .int .u8 0, .int .u8 0, .int .u8 0, .int .u8 0, .int .u8 0, .int .u8 0, .int .u8 0, .int .u8 0, .int .u8 0, .int .u8 0, .int .u8 0, .int .u8 0, .int .u8 0, .int .u8 0, .int .u8 0, .int .u8 0, .int .u8 0, .int .u8 0, .int .u8 0] 38)).heap.size = w.heap.size + 1 := by simp
      rw [← e, fup_zero]
      exact Blk.new _ _ (va 8 (iv .u32 fun _ => 0))
    · exact ((Below.refl _ _).alloc (Nat.le_refl _) _).alloc (by simp) _
  case round =>
    obtain ⟨k, hk, rfl, h0, h1, hb⟩ := hrel
    by_cases hlt : k < 8
    · have HV : Hid (bits .xor .u32 (2654435769 * ((k : Int) + 1) % 4294967296) ((tag : Int) * 16777216) = (firstN tag k : Int)) := first_val tag k h
      have ck := h1.cv hlt
      have fk := h1.frozen k
      clear hs HFIN hsn
      go_wp2
      go_roundw
      case rel =>
        refine ⟨k + 1, by omega, by go_num, h0.put_other _ _ (by omega), ?_, hb.setCell (by simp) _⟩
        have := h1.put k (.int .u32 (firstN tag k : Int))
        rw [va_set, fup_step, ← HV.out] at this
        exact this
      case measure => simp [intOf]; omega
    · obtain rfl : k = 8 := by omega
      rw [fup_all _ 8 8 _ _ (Nat.le_refl _)] at h1
      have hcv := fun w s => Lib.run_convert_string_bytes (P := Tryz.prog) w 9 206 5 s Tryz.underlying9 Tryz.underlying206 Tryz.underlying5
      obtain ⟨hi, hz0, hz1, hz2⟩ := HI.out
      have l1 := h1.lt
      have hrow : Hid (∀ o : Obj, RowC ((Lib.bytesWorld wr 5 s).alloc o) (w.heap.size + 2) (.slice (some ⟨wr.heap.size, 0, none⟩) n (grownCap wr n 0 5)) n (byteAt s)) := fun o => by
        have := RowC.of_string wr 5 (w.heap.size + 2) s (by omega)
        rw [hsn] at this
        exact this.below ((Below.refl _ _).alloc (Nat.le_refl _) o) (Nat.le_refl _)
      have hsz : (Lib.bytesWorld wr 5 s).heap.size = wr.heap.size + 1 := Lib.bytesWorld_size _ _ _
      have hc1 : Hid (∀ j u, (bytesL (fun _ => 128) 1)[j]? = some u → ((Lib.bytesWorld wr 5 s).alloc (.cells #[.int .u8 128] 5)).cell? ((⟨wr.heap.size + 1, 0, none⟩ : Addr).add j) = some u) := by
        rw [← hsz]
        exact cells_one _ 128 _
      have hsz2 : Hid (w.heap.size + 2 ≤ ((Lib.bytesWorld wr 5 s).alloc (.cells #[.int .u8 128] 5)).heap.size) := by
        show _ ≤ _
        simp
        omega
      go_wp2_with (first
        | (at_builtin; refine wpList_append_rowC _ rfl _ _ 206 rfl 5 i0 (.int .u8 0) Tryz.underlying206 hi hz0 hz1 hz2 rfl (w.heap.size + 2) n (byteAt s) _ rfl (hrow.out _) hsz2.out ⟨wr.heap.size + 1, 0, none⟩ 1 1 (fun _ => 128) rfl hc1.out (by omega) (by decide) ?_)
        | go_in)
      intro v2 w2 row2 hb2
      have b12 : Below (w.heap.size + 2) wr w2 := ((below_bytes wr 5 (w.heap.size + 2) s (by omega)).alloc (by omega) _).trans hb2
      have k0 := h0.below b12 (by omega)
      have k1 := h1.below b12 (by omega)
      have kb : Below w.heap.size w w2 := hb.trans (b12.mono (by omega))
      have row := row2.congr (app_first s n)
      have ls : w.heap.size + 2 ≤ w2.heap.size := Nat.le_trans (by omega) b12.size
      clear row2 hb2 b12 h0 h1 hb hcv hrow hsz hc1 hsz2
      have HFB : Hid (∀ j, byteAt s j < 256) := byteAt_lt s
      generalize HFE : byteAt s = f at *
      have HFEQ : Hid (byteAt s = f) := HFE
      clear HFE
      have HTAG : Hid (okC (firstN tag)) := first_ok tag h
      generalize firstN tag = c0 at *
      have HF : Hid (∀ j, f j < 256) := HFB.out
      clear HFB
      as_aux_lemma =>
        obtain ⟨b2, cap2, hv2, hbb⟩ := id row
        subst hv2
        clear hbb
        have pg := padLen_ge n
        have pl2 := padLen_lt n
        have pl : padLen n = 32 * ((n + 8) / 32 + 1) := rfl
        go_wp2_with fail
        go_loopw [7] (fun v wr => ∃ m b cap : Nat, n + 1 ≤ m ∧ m ≤ padLen n - 8 ∧ v = .slice (some ⟨b, 0, none⟩) m cap ∧ RowC wr (w.heap.size + 2) v m (zeroN f n) ∧ Blk wr w.heap.size 38 (va 32 (iv .u8 fun _ => 0)) ∧ Blk wr (w.heap.size + 1) 339 (va 8 (iv .u32 c0)) ∧ Below w.heap.size w wr ∧ w.heap.size + 2 ≤ wr.heap.size) (fun v _ => padLen n - 8 - (match v with | .slice _ k _ => k | _ => 0))
        case atStart => exact ⟨n + 1, b2, cap2, Nat.le_refl _, by omega, rfl, row, k0, k1, kb, ls⟩
        case round =>
          clear row k0 k1 kb ls
          obtain ⟨m, b, cap, hm1, hm2, rfl, row, k0, k1, kb, ls⟩ := hrel
          have hmm : m ≤ 140737488351400 := by omega
          by_cases hlt : m < padLen n - 8
          · have t1 : ¬ (((m : Int) + 8) % 32 = 0) := by omega
            have rowA : Hid (RowC (wr.alloc (.cells #[.int .u8 0] 5)) (w.heap.size + 2) (.slice (some ⟨b, 0, none⟩) m cap) m (zeroN f n)) := row.below ((Below.refl _ _).alloc (Nat.le_refl _) _) (Nat.le_refl _)
            have lsA : Hid (w.heap.size + 2 ≤ (wr.alloc (.cells #[.int .u8 0] 5)).heap.size) := by
              show _ ≤ _
              simp
              omega
            clear pl row
            go_wp2_with (first
              | (at_builtin; refine wpList_append_rowC _ rfl _ _ 206 rfl 5 i0 (.int .u8 0) Tryz.underlying206 hi hz0 hz1 hz2 rfl (w.heap.size + 2) m (zeroN f n) _ rfl rowA.out lsA.out ⟨wr.heap.size, 0, none⟩ 1 1 (fun _ => 0) rfl (cells_one _ 0 _) (by omega) (by decide) ?_)
              | go_in)
            intro v' w3 row' hb3
            have b13 : Below (w.heap.size + 2) wr w3 := ((Below.refl _ _).alloc ls _).trans hb3
            have row3 := row'.congr (app_zero f n m (by omega))
            have j0 := k0.below b13 (by omega)
            have j1 := k1.below b13 (by omega)
            have jb : Below w.heap.size w w3 := kb.trans (b13.mono (by omega))
            have js := Nat.le_trans ls b13.size
            obtain ⟨b3, cap3, hv3, hbb⟩ := id row3
            subst hv3
            clear row' hb3 b13 k0 k1 kb rowA lsA hbb
            go_wp2_with fail
            go_roundw
            case rel => exact ⟨m + 1, b3, cap3, by omega, by omega, rfl, row3, j0, j1, jb, js⟩
            case measure => simp; omega
          · obtain rfl : m = padLen n - 8 := by omega
            have t1 : (((padLen n - 8 : Nat) : Int) + 8) % 32 = 0 := by omega
            clear hlt hm1 hm2
            obtain ⟨N, hN⟩ : ∃ N : Nat, N = (n + 8) / 32 + 1 := ⟨_, rfl⟩
            have HNN : Hid ((n + 8) / 32 + 1 = N) := hN.symm
            have hpn : padLen n = 32 * N := by rw [hN]; exact pl
            have HM : Hid (padLen n - 8 + 8 = 32 * N) := by show _ = _; omega
            have hN1 : 1 ≤ N := by omega
            have hNb : N ≤ 4398046510977 := by omega
            have HPB : Hid (∀ j, padN f n j < 256) := pad_lt f n HF.out
            have HAL : Hid (∀ j, j < 32 * N → appN (zeroN f n) (padLen n - 8) (dig n) j = padN f n j) := fun j hj => app_last f n j (by omega)
            clear pl hN hpn pl2 pg
            have HB8 : Hid (∀ w : World, Calls Tryz.prog 92 #[.int .u64 (n : Int), .int .i64 8] w fun e w' => ∃ v, e = .returned v ∧ w'.ownsRow w.heap.size 5 1 v 8 (bytesL (dig n) 8) ∧ Below w.heap.size w w') := fun w => by
              have := refBytes_own n 8 (by decide) (by omega) w
              rw [digs_bytes] at this
              exact this
            generalize padLen n - 8 = m at *
            have HQ : Hid (padN f n = padN f n) := rfl
            go_wp2_with fail
            refine (HB8.out _).mono ?_
            rintro e w4 ⟨v8, rfl, own8, hb4⟩
            obtain ⟨g8, cap8, rfl, hg8, hg8'⟩ := own_form own8 (by decide)
            have row4 := row.below hb4 (Nat.le_refl _)
            have j0 := k0.below hb4 k0.lt
            have j1 := k1.below hb4 k1.lt
            have jb : Below w.heap.size w w4 := kb.trans (hb4.mono kb.size)
            have js := Nat.le_trans ls hb4.size
            have hc8 : Hid (∀ j u, (bytesL (dig n) 8)[j]? = some u → w4.cell? ((⟨g8, 0, none⟩ : Addr).add j) = some u) := own8.cells rfl
            clear row k0 k1 kb ls hb4 own8 HB8
            go_wp2_with (first
              | (at_builtin; refine wpList_append_rowC _ rfl _ _ 206 rfl 5 i0 (.int .u8 0) Tryz.underlying206 hi hz0 hz1 hz2 rfl (w.heap.size + 2) m (zeroN f n) _ rfl row4 js ⟨g8, 0, none⟩ 8 cap8 (dig n) rfl hc8.out (by omega) (by decide) ?_)
              | go_in)
            intro v5 w5 row5 hb5
            rw [HM.out] at row5
            have row6 := row5.congr HAL.out
            have k0 := j0.below hb5 (by omega)
            have k1 := j1.below hb5 (by omega)
            have kb : Below w.heap.size w w5 := jb.trans (hb5.mono (by omega))
            have ls := Nat.le_trans js hb5.size
            clear row5 row4 j0 j1 jb js hc8 hb5 HAL
            obtain ⟨b5, cap5, hv5, hb5, hb5', hcap5, hcell5, _⟩ := row6
            subst hv5
            have HC : Hid (∀ j, j < 32 * N → w5.cell? ⟨b5, j, none⟩ = some (.int .u8 ((padN f n j : Nat) : Int))) := hcell5
            clear hcell5 HQ t1 hmm HM hg8 hg8'
            have HFIN2 : Hid (ofN tag (byteAt s) s.size = sumN (runN c0 (padN f n) N)) := by
              show _ = _
              rw [← HNN.out, HFEQ.out]
              exact HFIN.out
            clear HFIN HNN HNS hi hz0 hz1 hz2 HI HF
            generalize padN f n = P at *
            as_aux_lemma =>
              have HRR : Hid (∀ (st : St), st.ok → ∀ w : World, Calls Tryz.prog 213 #[.agg (stA st), .int .i64 6] w fun e w' => e = .returned (.agg (stA (fwd st 6))) ∧ Below w.heap.size w w') := fun st hst w => refRounds_pos st hst 6 (by decide) w
              go_wp2_with fail
              go_loopw [8] (fun a wr => ∃ i : Nat, i ≤ N ∧ a = .int .i64 ((32 * i : Nat) : Int) ∧ Blk wr w.heap.size 38 (va 32 (iv .u8 fun _ => 0)) ∧ Blk wr (w.heap.size + 1) 339 (va 8 (iv .u32 (runN c0 P i))) ∧ wr.heap[b5]? = w5.heap[b5]? ∧ b5 < wr.heap.size ∧ Below w.heap.size w wr) (fun a _ => 32 * N - (intOf a).toNat)
              case atStart => exact ⟨0, Nat.zero_le _, rfl, k0, k1, rfl, hb5', kb⟩
              case round =>
                clear k0 k1 kb ls hb5'
                obtain ⟨i, hi, rfl, k0, k1, hb5', hb5l, kb⟩ := hrel
                by_cases hlt : i < N
                · have hK := run_ok HTAG.out HPB.out i
                  have HNX : Hid (runN c0 P (i + 1) = pressN (runN c0 P i) fun j => P (32 * i + j)) := rfl
                  generalize runN c0 P i = ch at *
                  have t1 : decide (((32 * i : Nat) : Int) < ((32 * N : Nat) : Int)) = true := decide_eq_true (by omega)
                  have t1' : ((32 * i : Nat) : Int) < ((32 * N : Nat) : Int) := by omega
                  have HI32 : Hid (∀ j, j < 32 → wr.cell? ⟨b5, 32 * i + j, none⟩ = some (.int .u8 ((P (32 * i + j) : Nat) : Int))) := fun j hj => by
                    rw [← HC.out (32 * i + j) (by omega)]
                    simp [World.cell?, hb5']
                  have hAN : 32 * i + 32 ≤ 32 * N := by omega
                  have HAI : Hid (32 * i = 32 * i) := rfl
                  obtain ⟨A, hA⟩ : ∃ A : Nat, A = 32 * i := ⟨_, rfl⟩
                  obtain ⟨LN, hLN⟩ : ∃ LN : Nat, LN = 32 * N := ⟨_, rfl⟩
                  rw [← hA, ← hLN] at t1 t1' hAN
                  rw [← hA] at HI32 HNX
                  have HA : Hid (A = 32 * i) := hA
                  have HLN : Hid (LN = 32 * N) := hLN
                  have hAb : LN ≤ 140737488352000 := by omega
                  rw [← hA, ← hLN]
                  clear hA hLN HAI
                  have nW : Blk (wr.alloc (.cells #[.int .u32 0, .int .u32 0, .int .u32 0, .int .u32 0, .int .u32 0, .int .u32 0, .int .u32 0, .int .u32 0, .int .u32 0, .int .u32 0, .int .u32 0, .int .u32 0, .int .u32 0, .int .u32 0, .int .u32 0, .int .u32 0] 340)) wr.heap.size 340 (va 16 (iv .u32 fun _ => 0)) := Blk.new _ _ _
                  go_wp2_with (first
                    | (refine wpList_store_row (by rfl) 340 _ _ (by rfl) wr.heap.size (va 16 (iv .u32 fun _ => 0)) (by rfl) (by rfl) 340 _ nW (size16.trans (by rw [va_size])) rfl (iv_one _ _ _) ?_; simp only [Act.put, List.setIfInBounds_toArray, List.set_cons_zero, List.set_cons_succ])
                    | fail)
                  have mW := nW.set (va 16 (iv .u32 fun _ => 0))
                  have j0 := (k0.alloc (.cells #[.int .u32 0, .int .u32 0, .int .u32 0, .int .u32 0, .int .u32 0, .int .u32 0, .int .u32 0, .int .u32 0, .int .u32 0, .int .u32 0, .int .u32 0, .int .u32 0, .int .u32 0, .int .u32 0, .int .u32 0, .int .u32 0] 340)).other (va 16 (iv .u32 fun _ => 0)) (g := wr.heap.size) (Nat.ne_of_lt k0.lt)
                  have j1 := (k1.alloc (.cells #[.int .u32 0, .int .u32 0, .int .u32 0, .int .u32 0, .int .u32 0, .int .u32 0, .int .u32 0, .int .u32 0, .int .u32 0, .int .u32 0, .int .u32 0, .int .u32 0, .int .u32 0, .int .u32 0, .int .u32 0, .int .u32 0] 340)).other (va 16 (iv .u32 fun _ => 0)) (g := wr.heap.size) (Nat.ne_of_lt k1.lt)
                  have jb : Below w.heap.size w ((wr.alloc (.cells #[.int .u32 0, .int .u32 0, .int .u32 0, .int .u32 0, .int .u32 0, .int .u32 0, .int .u32 0, .int .u32 0, .int .u32 0, .int .u32 0, .int .u32 0, .int .u32 0, .int .u32 0, .int .u32 0, .int .u32 0, .int .u32 0] 340)).setRow wr.heap.size (va 16 (iv .u32 fun _ => 0))) := below_setRow (kb.alloc kb.size _) kb.size _
                  have jh : ((wr.alloc (.cells #[.int .u32 0, .int .u32 0, .int .u32 0, .int .u32 0, .int .u32 0, .int .u32 0, .int .u32 0, .int .u32 0, .int .u32 0, .int .u32 0, .int .u32 0, .int .u32 0, .int .u32 0, .int .u32 0, .int .u32 0, .int .u32 0] 340)).setRow wr.heap.size (va 16 (iv .u32 fun _ => 0))).heap[b5]? = w5.heap[b5]? := by
                    rw [setRow_other _ _ _ _ (Nat.ne_of_lt hb5l), heap_alloc_old _ _ hb5l]
                    exact hb5'
                  have lM1 := k1.lt
                  have HOF : Hid (∀ q, q + 4 ≤ 32 → ∀ (W : World) (cc : Nat), W.heap[b5]? = w5.heap[b5]? → Calls Tryz.prog 212 #[.slice (some ⟨b5, A + q, none⟩) 4 cc] W fun e w' => e = .returned (.int .u64 (le4f (fun j => P (A + j)) q : Int)) ∧ w' = W) := fun q hq W cc hW => by
                    have hcw : ∀ j, j < 32 → W.cell? ⟨b5, A + j, none⟩ = some (.int .u8 ((P (A + j) : Nat) : Int)) := fun j hj => by
                      rw [← HI32.out j hj]
                      simp [World.cell?, hW, hb5']
                    exact refOf32_at b5 (A + q) cc (P (A + q)) (P (A + (q + 1))) (P (A + (q + 2))) (P (A + (q + 3))) W (HPB.out _) (HPB.out _) (HPB.out _) (HPB.out _) (hcw q (by omega)) (hcw (q + 1) (by omega)) (hcw (q + 2) (by omega)) (hcw (q + 3) (by omega))
                  generalize (wr.alloc (.cells #[.int .u32 0, .int .u32 0, .int .u32 0, .int .u32 0, .int .u32 0, .int .u32 0, .int .u32 0, .int .u32 0, .int .u32 0, .int .u32 0, .int .u32 0, .int .u32 0, .int .u32 0, .int .u32 0, .int .u32 0, .int .u32 0] 340)).setRow wr.heap.size (va 16 (iv .u32 fun _ => 0)) = w6 at *
                  have hMb : b5 < wr.heap.size := hb5l
                  clear nW k0 k1 kb hb5' hb5l HI32
                  generalize HMM : wr.heap.size = M at *
                  have HPP : Hid (okP fun j => P (A + j)) := fun j _ => HPB.out _
                  have hcapA : A + 32 ≤ cap5 := by have := HLN.out; omega
                  as_aux_lemma =>
                    generalize HPQ : (fun j => P (A + j)) = Pp at *
                    have HPQ' : Hid ((fun j => P (A + j)) = Pp) := HPQ
                    clear HPQ
                    go_loopw [10] (fun a w1 => ∃ k : Nat, k ≤ 8 ∧ a = .int .i64 (k : Int) ∧ Blk w1 M 340 (va 16 (iv .u32 (sideK ch Pp k))) ∧ Blk w1 w.heap.size 38 (va 32 (iv .u8 fun _ => 0)) ∧ Blk w1 (w.heap.size + 1) 339 (va 8 (iv .u32 ch)) ∧ w1.heap[b5]? = w5.heap[b5]? ∧ Below w.heap.size w w1) (fun a _ => 8 - (intOf a).toNat)
                    case atStart =>
                      refine ⟨0, by omega, rfl, ?_, j0, j1, jh, jb⟩
                      rw [sideK_zero]
                      exact mW
                    case round =>
                      clear mW j0 j1 jh jb
                      obtain ⟨k, hk, rfl, mW, j0, j1, jh, jb⟩ := hrel
                      by_cases hk8 : k < 8
                      · have ck : wr.cell? ⟨w.heap.size + 1, k, none⟩ = some (.int .u32 ((ch k : Nat) : Int)) := j1.cv hk8
                        have cM : wr.cell? ⟨M, k, none⟩ = some (iv .u32 (sideK ch Pp k) k) := mW.cv (by omega)
                        have fM := mW.frozen k
                        have m1 := mW.put k (.int .u32 ((ch k : Nat) : Int))
                        rw [va_set] at m1
                        have cM8 : (wr.setCell ⟨M, k, none⟩ (.int .u32 ((ch k : Nat) : Int))).cell? ⟨M, k + 8, none⟩ = some (upd (iv .u32 (sideK ch Pp k)) k (.int .u32 ((ch k : Nat) : Int)) (k + 8)) := m1.cv (by omega)
                        have fM8 := m1.frozen (k + 8)
                        have m2 := m1.put (k + 8) (.int .u32 ((le4f Pp (4 * k) : Nat) : Int))
                        rw [va_set, sideK_step ch Pp k hk8] at m2
                        obtain ⟨q, hq⟩ : ∃ q : Nat, q = 4 * k := ⟨_, rfl⟩
                        rw [← hq] at m2
                        have hof := HOF.out q (by omega)
                        have HOQ : Hid (∀ (W : World) (cc : Nat), W.heap[b5]? = w5.heap[b5]? → Calls Tryz.prog 212 #[.slice (some ⟨b5, A + q, none⟩) 4 cc] W fun e w' => e = .returned (.int .u64 (le4f Pp q : Int)) ∧ w' = W) := hof
                        have hle : le4f Pp q < 4294967296 := le4f_lt Pp q fun j hj => HPP.out _ (by omega)
                        have hle2 : (le4f Pp q : Int) % 4294967296 = (le4f Pp q : Int) := by omega
                        have hW1 : (wr.setCell ⟨M, k, none⟩ (.int .u32 ((ch k : Nat) : Int))).heap[b5]? = w5.heap[b5]? := (Deep.blk_setCell_other wr ⟨M, k, none⟩ _ b5 (Nat.ne_of_lt hMb)).trans jh
                        have HW2 : Hid (((wr.setCell ⟨M, k, none⟩ (.int .u32 ((ch k : Nat) : Int))).setCell ⟨M, k + 8, none⟩ (.int .u32 ((le4f Pp q : Nat) : Int))).heap[b5]? = w5.heap[b5]?) := (Deep.blk_setCell_other _ ⟨M, k + 8, none⟩ _ b5 (Nat.ne_of_lt hMb)).trans hW1
                        have HW1 : Hid ((wr.setCell ⟨M, k, none⟩ (.int .u32 ((ch k : Nat) : Int))).heap[b5]? = w5.heap[b5]?) := hW1
                        have HM2 : Hid (Blk ((wr.setCell ⟨M, k, none⟩ (.int .u32 ((ch k : Nat) : Int))).setCell ⟨M, k + 8, none⟩ (.int .u32 ((le4f Pp q : Nat) : Int))) M 340 (va 16 (iv .u32 (sideK ch Pp (k + 1))))) := m2
                        have q28 : q ≤ 28 := by omega
                        have eq1 : (4 : Int) * (k : Int) = (q : Int) := by omega
                        obtain ⟨lo, hlo⟩ : ∃ lo : Nat, lo = A + q := ⟨_, rfl⟩
                        rw [← hlo] at HOQ
                        have lo1 : lo + 4 ≤ LN := by omega
                        have lo2 : lo < cap5 := by omega
                        have lo3 : ¬ cap5 = lo := by omega
                        have lo5 : lo + 4 ≤ cap5 := by omega
                        have eq2 : (A : Int) + (q : Int) = (lo : Int) := by omega
                        have eq4 : (8 : Int) + (k : Int) = ((k + 8 : Nat) : Int) := by omega
                        have i0 : (0 : Int) ≤ (k : Int) := by omega
                        have i1 : (k : Int) < 8 := by omega
                        have i3 : (k : Int) < 16 := by omega
                        clear hof m1 m2 hW1 hlo hq jh
                        generalize le4f Pp q = lv at *
                        generalize ch k = cv at *
                        go_wp2_with fail
                        refine (HOQ.out _ _ HW1.out).mono ?_
                        rintro e w9 ⟨rfl, rfl⟩
                        clear HOQ HW1
                        go_wp2_with fail
                        go_roundw
                        case rel => exact ⟨k + 1, by omega, by go_num, HM2.out, (j0.put_other _ _ (by omega)).put_other _ _ (by omega), (j1.put_other _ _ (by omega)).put_other _ _ (by omega), HW2.out, (jb.setCell (by show w.heap.size ≤ M; omega) _).setCell (by show w.heap.size ≤ M; omega) _⟩
                        case measure => simp [intOf]; omega
                      · obtain rfl : k = 8 := by omega
                        rw [sideK_all, ← stA_of] at mW
                        have hok : (St.of (sideN ch Pp)).ok := St.of_ok _ (side_lt hK HPP.out)
                        have HR6 : Hid (∀ w : World, Calls Tryz.prog 213 #[.agg (stA (St.of (sideN ch Pp))), .int .i64 6] w fun e w' => e = .returned (.agg (stA (mixedN ch Pp))) ∧ Below w.heap.size w w') := fun w => HRR.out _ hok w
                        have HV : Hid (∀ k, k < 8 → bits .xor .u32 (bits .xor .u32 ((ch k : Nat) : Int) (((mixedN ch Pp).at k : Nat) : Int)) (((mixedN ch Pp).at (k + 8) : Nat) : Int) = ((pressN ch Pp k : Nat) : Int)) := press_val2 ch Pp hK HPP.out
                        have HPR : Hid (runN c0 P (i + 1) = pressN ch Pp) := by
                          show _ = _
                          exact HNX.out
                        clear hok HOF HNX
                        generalize St.of (sideN ch Pp) = st at *
                        generalize mixedN ch Pp = y at *
                        generalize pressN ch Pp = pr at *
                        have hMl := mW.lt
                        as_aux_lemma =>
                          go_wp2_with (first
                            | (refine wpList_load_row (by rfl) 340 _ (by rfl) M (by rfl) 340 (stA st) (0, 0) _ mW Tryz.underlying340 (by rfl) (size16.trans rfl) ?_; simp only [Act.put, List.setIfInBounds_toArray, List.set_cons_zero, List.set_cons_succ])
                            | fail)
                          refine (HR6.out _).mono ?_
                          rintro e w7 ⟨rfl, hb7⟩
                          have l0 := j0.below hb7 j0.lt
                          have l1' := j1.below hb7 j1.lt
                          have lb : Below w.heap.size w w7 := jb.trans (hb7.mono jb.size)
                          have hMl7 : M < w7.heap.size := Nat.lt_of_lt_of_le hMl hb7.size
                          have lh : w7.heap[b5]? = w5.heap[b5]? := (hb7.block b5 (by omega)).trans jh
                          clear mW j0 j1 jb jh hb7 HR6 hMl
                          have nX : Blk (w7.alloc (.cells #[.int .u32 0, .int .u32 0, .int .u32 0, .int .u32 0, .int .u32 0, .int .u32 0, .int .u32 0, .int .u32 0, .int .u32 0, .int .u32 0, .int .u32 0, .int .u32 0, .int .u32 0, .int .u32 0, .int .u32 0, .int .u32 0] 342)) w7.heap.size 342 (stA St.zero) := Blk.new _ _ _
                          go_wp2_with (first
                            | (refine wpList_store_row (by rfl) 342 _ _ (by rfl) w7.heap.size (stA y) (by rfl) (by rfl) 342 _ nX sizeRef rfl (stAll y) ?_; simp only [Act.put, List.setIfInBounds_toArray, List.set_cons_zero, List.set_cons_succ])
                            | fail)
                          have mX := nX.set (stA y)
                          have n0 := (l0.alloc (.cells #[.int .u32 0, .int .u32 0, .int .u32 0, .int .u32 0, .int .u32 0, .int .u32 0, .int .u32 0, .int .u32 0, .int .u32 0, .int .u32 0, .int .u32 0, .int .u32 0, .int .u32 0, .int .u32 0, .int .u32 0, .int .u32 0] 342)).other (stA y) (g := w7.heap.size) (Nat.ne_of_lt l0.lt)
                          have n1 := (l1'.alloc (.cells #[.int .u32 0, .int .u32 0, .int .u32 0, .int .u32 0, .int .u32 0, .int .u32 0, .int .u32 0, .int .u32 0, .int .u32 0, .int .u32 0, .int .u32 0, .int .u32 0, .int .u32 0, .int .u32 0, .int .u32 0, .int .u32 0] 342)).other (stA y) (g := w7.heap.size) (Nat.ne_of_lt l1'.lt)
                          have nb : Below w.heap.size w ((w7.alloc (.cells #[.int .u32 0, .int .u32 0, .int .u32 0, .int .u32 0, .int .u32 0, .int .u32 0, .int .u32 0, .int .u32 0, .int .u32 0, .int .u32 0, .int .u32 0, .int .u32 0, .int .u32 0, .int .u32 0, .int .u32 0, .int .u32 0] 342)).setRow w7.heap.size (stA y)) := below_setRow (lb.alloc lb.size _) lb.size _
                          have nh : ((w7.alloc (.cells #[.int .u32 0, .int .u32 0, .int .u32 0, .int .u32 0, .int .u32 0, .int .u32 0, .int .u32 0, .int .u32 0, .int .u32 0, .int .u32 0, .int .u32 0, .int .u32 0, .int .u32 0, .int .u32 0, .int .u32 0, .int .u32 0] 342)).setRow w7.heap.size (stA y)).heap[b5]? = w5.heap[b5]? := by
                            rw [setRow_other _ _ _ _ (Nat.ne_of_lt (by omega)), heap_alloc_old _ _ (by omega)]
                            exact lh
                          have nl : b5 < ((w7.alloc (.cells #[.int .u32 0, .int .u32 0, .int .u32 0, .int .u32 0, .int .u32 0, .int .u32 0, .int .u32 0, .int .u32 0, .int .u32 0, .int .u32 0, .int .u32 0, .int .u32 0, .int .u32 0, .int .u32 0, .int .u32 0, .int .u32 0] 342)).setRow w7.heap.size (stA y)).heap.size := by
                            simp [World.setRow]
                            omega
                          generalize (w7.alloc (.cells #[.int .u32 0, .int .u32 0, .int .u32 0, .int .u32 0, .int .u32 0, .int .u32 0, .int .u32 0, .int .u32 0, .int .u32 0, .int .u32 0, .int .u32 0, .int .u32 0, .int .u32 0, .int .u32 0, .int .u32 0, .int .u32 0] 342)).setRow w7.heap.size (stA y) = w8 at *
                          have hX1 := l1'.lt
                          have hXb : b5 < w7.heap.size := by omega
                          clear nX l0 l1' lb lh
                          generalize w7.heap.size = MX at *
                          go_loopw [12] (fun a w1 => ∃ k : Nat, k ≤ 8 ∧ a = .int .i64 (k : Int) ∧ Blk w1 MX 342 (stA y) ∧ Blk w1 w.heap.size 38 (va 32 (iv .u8 fun _ => 0)) ∧ Blk w1 (w.heap.size + 1) 339 (va 8 (iv .u32 (fupN k pr ch))) ∧ w1.heap[b5]? = w5.heap[b5]? ∧ b5 < w1.heap.size ∧ Below w.heap.size w w1) (fun a _ => 8 - (intOf a).toNat)
                          case atStart =>
                            refine ⟨0, by omega, rfl, mX, n0, ?_, nh, nl, nb⟩
                            rw [fup_zero]
                            exact n1
                          case round =>
                            clear mX n0 n1 nh nl nb
                            obtain ⟨k, hk, rfl, mX, n0, n1, nh, nl, nb⟩ := hrel
                            by_cases hk8 : k < 8
                            · have i0 : (0 : Int) ≤ (k : Int) := by omega
                              have i1 : (k : Int) < 8 := by omega
                              have i3 : (k : Int) < 16 := by omega
                              have eq4 : IntKind.i64.wrap ((8 : Int) + (k : Int)) = ((k + 8 : Nat) : Int) := by rw [IntKind.wrap_i64]; omega
                              have hv := HV.out k hk8
                              have c0' : wr.cell? ⟨w.heap.size + 1, k, none⟩ = some (.int .u32 ((ch k : Nat) : Int)) := by
                                rw [n1.cv hk8]
                                show some (Value.int .u32 ((fupN k pr ch k : Nat) : Int)) = _
                                rw [show fupN k pr ch k = ch k from if_neg (by omega)]
                              have c1 : wr.cell? ⟨MX, k, none⟩ = some (.int .u32 ((y.at k : Nat) : Int)) := by rw [mX.cell, stA_at y k (by omega)]
                              have c2 : wr.cell? ⟨MX, k + 8, none⟩ = some (.int .u32 ((y.at (k + 8) : Nat) : Int)) := by rw [mX.cell, stA_at y (k + 8) (by omega)]
                              have f0 := n1.frozen k
                              have HV' : Hid (bits .xor .u32 (bits .xor .u32 ((ch k : Nat) : Int) ((y.at k : Nat) : Int)) ((y.at (k + 8) : Nat) : Int) = ((pr k : Nat) : Int)) := hv
                              have HH : Hid (∀ v, (wr.setCell ⟨w.heap.size + 1, k, none⟩ v).heap[b5]? = w5.heap[b5]?) := fun v => (Deep.blk_setCell_other wr ⟨w.heap.size + 1, k, none⟩ v b5 (by show b5 ≠ w.heap.size + 1; omega)).trans nh
                              have HNL : Hid (∀ v, b5 < (wr.setCell ⟨w.heap.size + 1, k, none⟩ v).heap.size) := fun v => by simpa [World.setCell] using nl
                              have p1 := n1.put k (.int .u32 ((pr k : Nat) : Int))
                              rw [va_set, fup_step] at p1
                              clear hv nh nl
                              generalize ch k = ck at *
                              generalize y.at k = yk at *
                              generalize y.at (k + 8) = yk8 at *
                              go_wp2_with fail
                              go_region
                              go_wp2_with fail
                              go_roundw
                              case rel =>
                                refine ⟨k + 1, by omega, by go_num, (mX.put_other _ _ (by omega)).drew, (n0.put_other _ _ (by omega)).drew, ?_, HH.out _, HNL.out _, (nb.setCell (by show w.heap.size ≤ w.heap.size + 1; omega) _).drew⟩
                                have := p1.drew
                                rw [← HV'.out] at this
                                exact this
                              case measure => simp [intOf]; omega
                            · obtain rfl : k = 8 := by omega
                              rw [fup_all _ 8 8 _ _ (Nat.le_refl _)] at n1
                              go_wp2_with fail
                              have hAA := HA.out
                              have hLL := HLN.out
                              refine ⟨⟨i + 1, hlt, ?_, n0, ?_, nh, nl, nb⟩, ?_⟩
                              · congr 1
                                omega
                              · rw [HPR.out]
                                exact n1
                              · simp [intOf]
                                omega
                · obtain rfl : i = N := by omega
                  have t1 : decide (((32 * i : Nat) : Int) < ((32 * i : Nat) : Int)) = false := decide_eq_false (by omega)
                  have HFIN3 : Hid (ofN tag (byteAt s) s.size = sumN (runN c0 P i)) := HFIN2.out
                  clear HFIN2 HC HRR hb5'
                  have HCH : Hid (okC (runN c0 P i)) := run_ok HTAG.out HPB.out i
                  clear HPB HTAG
                  generalize runN c0 P i = ch at *
                  generalize 32 * i = A at *
                  as_aux_lemma =>
                    have nO : Blk (wr.alloc (.cells #[.int .u8 0, .int .u8 0, .int .u8 0, .int .u8 0, .int .u8 0, .int .u8 0, .int .u8 0, .int .u8 0, .int .u8 0, .int .u8 0, .int .u8 0, .int .u8 0, .int .u8 0, .int .u8 0, .int .u8 0, .int .u8 0, .int .u8 0, .int .u8 0, .int .u8 0, .int .u8 0, .int .u8 0, .int .u8 0, .int .u8 0, .int .u8 0, .int .u8 0, .int .u8 0, .int .u8 0, .int .u8 0, .int .u8 0, .int .u8 0, .int .u8 0, .int .u8 0] 38)) wr.heap.size 38 (va 32 (iv .u8 fun _ => 0)) := Blk.new _ _ _
                    go_wp2_with (first
                      | (refine wpList_store_row (by rfl) 38 _ _ (by rfl) wr.heap.size (va 32 (iv .u8 fun _ => 0)) (by rfl) (by rfl) 38 _ nO (size32.trans (by rw [va_size])) rfl (iv_one _ _ _) ?_; simp only [Act.put, List.setIfInBounds_toArray, List.set_cons_zero, List.set_cons_succ])
                      | fail)
                    have mO := nO.set (va 32 (iv .u8 fun _ => 0))
                    have j0 := (k0.alloc (.cells #[.int .u8 0, .int .u8 0, .int .u8 0, .int .u8 0, .int .u8 0, .int .u8 0, .int .u8 0, .int .u8 0, .int .u8 0, .int .u8 0, .int .u8 0, .int .u8 0, .int .u8 0, .int .u8 0, .int .u8 0, .int .u8 0, .int .u8 0, .int .u8 0, .int .u8 0, .int .u8 0, .int .u8 0, .int .u8 0, .int .u8 0, .int .u8 0, .int .u8 0, .int .u8 0, .int .u8 0, .int .u8 0, .int .u8 0, .int .u8 0, .int .u8 0, .int .u8 0] 38)).other (va 32 (iv .u8 fun _ => 0)) (g := wr.heap.size) (Nat.ne_of_lt k0.lt)
                    have j1 := (k1.alloc (.cells #[.int .u8 0, .int .u8 0, .int .u8 0, .int .u8 0, .int .u8 0, .int .u8 0, .int .u8 0, .int .u8 0, .int .u8 0, .int .u8 0, .int .u8 0, .int .u8 0, .int .u8 0, .int .u8 0, .int .u8 0, .int .u8 0, .int .u8 0, .int .u8 0, .int .u8 0, .int .u8 0, .int .u8 0, .int .u8 0, .int .u8 0, .int .u8 0, .int .u8 0, .int .u8 0, .int .u8 0, .int .u8 0, .int .u8 0, .int .u8 0, .int .u8 0, .int .u8 0] 38)).other (va 32 (iv .u8 fun _ => 0)) (g := wr.heap.size) (Nat.ne_of_lt k1.lt)
                    have jb : Below w.heap.size w ((wr.alloc (.cells #[.int .u8 0, .int .u8 0, .int .u8 0, .int .u8 0, .int .u8 0, .int .u8 0, .int .u8 0, .int .u8 0, .int .u8 0, .int .u8 0, .int .u8 0, .int .u8 0, .int .u8 0, .int .u8 0, .int .u8 0, .int .u8 0, .int .u8 0, .int .u8 0, .int .u8 0, .int .u8 0, .int .u8 0, .int .u8 0, .int .u8 0, .int .u8 0, .int .u8 0, .int .u8 0, .int .u8 0, .int .u8 0, .int .u8 0, .int .u8 0, .int .u8 0, .int .u8 0] 38)).setRow wr.heap.size (va 32 (iv .u8 fun _ => 0))) := below_setRow (kb.alloc kb.size _) kb.size _
                    have hO1 := k1.lt
                    generalize (wr.alloc (.cells #[.int .u8 0, .int .u8 0, .int .u8 0, .int .u8 0, .int .u8 0, .int .u8 0, .int .u8 0, .int .u8 0, .int .u8 0, .int .u8 0, .int .u8 0, .int .u8 0, .int .u8 0, .int .u8 0, .int .u8 0, .int .u8 0, .int .u8 0, .int .u8 0, .int .u8 0, .int .u8 0, .int .u8 0, .int .u8 0, .int .u8 0, .int .u8 0, .int .u8 0, .int .u8 0, .int .u8 0, .int .u8 0, .int .u8 0, .int .u8 0, .int .u8 0, .int .u8 0] 38)).setRow wr.heap.size (va 32 (iv .u8 fun _ => 0)) = w6 at *
                    clear nO k0 k1 kb
                    generalize wr.heap.size = O at *
                    go_loopw [14] (fun a w1 => ∃ k : Nat, k ≤ 8 ∧ a = .int .i64 (k : Int) ∧ Blk w1 O 38 (va 32 (iv .u8 (fupN (4 * k) (sumN ch) fun _ => 0))) ∧ Blk w1 w.heap.size 38 (va 32 (iv .u8 fun _ => 0)) ∧ Blk w1 (w.heap.size + 1) 339 (va 8 (iv .u32 ch)) ∧ Below w.heap.size w w1) (fun a _ => 8 - (intOf a).toNat)
                    case atStart =>
                      refine ⟨0, by omega, rfl, ?_, j0, j1, jb⟩
                      rw [Nat.mul_zero, fup_zero]
                      exact mO
                    case round =>
                      clear mO j0 j1 jb
                      obtain ⟨k, hk, rfl, mO, j0, j1, jb⟩ := hrel
                      by_cases hk8 : k < 8
                      · have i0 : (0 : Int) ≤ (k : Int) := by omega
                        have i1 : (k : Int) < 8 := by omega
                        have ck : wr.cell? ⟨w.heap.size + 1, k, none⟩ = some (.int .u32 ((ch k : Nat) : Int)) := j1.cv hk8
                        have HD : Hid (∀ j, j < 4 → sumN ch (4 * k + j) = dig (ch k) j) := fun j hj => sum_at ch k j hj
                        have hcb := HCH.out k hk8
                        have HB4 : Hid (∀ w : World, Calls Tryz.prog 92 #[.int .u64 ((ch k : Nat) : Int), .int .i64 4] w fun e w' => ∃ v, e = .returned v ∧ w'.ownsRow w.heap.size 5 1 v 4 (bytesL (dig (ch k)) 4) ∧ Below w.heap.size w w') := fun w => by
                          have := refBytes_own (ch k) 4 (by decide) (by omega) w
                          rw [digs_bytes] at this
                          exact this
                        have HX : Hid (ch k = ch k) := rfl
                        generalize ch k = x at *
                        go_wp2_with fail
                        refine (HB4.out _).mono ?_
                        rintro e w7 ⟨v4, rfl, own4, hb7⟩
                        obtain ⟨g4, cap4, rfl, hg4, hg4'⟩ := own_form own4 (by decide)
                        have l0 := j0.below hb7 j0.lt
                        have l1' := j1.below hb7 j1.lt
                        have lO := mO.below hb7 mO.lt
                        have lb : Below w.heap.size w w7 := jb.trans (hb7.mono jb.size)
                        have hOg : O < g4 := Nat.lt_of_lt_of_le mO.lt hg4
                        have HC4 : Hid (∀ j, j < 4 → w7.cell? ⟨g4, j, none⟩ = some (.int .u8 ((dig x j : Nat) : Int))) := fun j hj => by
                          rw [own4.cellAt j (by omega), bytesL_at _ _ _ hj]
                        clear mO j0 j1 jb hb7 HB4 ck own4
                        go_wp2_with fail
                        go_loopw [16] (fun a w1 => ∃ kk : Nat, kk ≤ 4 ∧ a = .int .i64 (kk : Int) ∧ Blk w1 O 38 (va 32 (iv .u8 (fupN (4 * k + kk) (sumN ch) fun _ => 0))) ∧ Blk w1 w.heap.size 38 (va 32 (iv .u8 fun _ => 0)) ∧ Blk w1 (w.heap.size + 1) 339 (va 8 (iv .u32 ch)) ∧ w1.heap[g4]? = w7.heap[g4]? ∧ Below w.heap.size w w1) (fun a _ => 4 - (intOf a).toNat)
                        case atStart => exact ⟨0, by omega, rfl, lO, l0, l1', rfl, lb⟩
                        case round =>
                          clear lO l0 l1' lb
                          obtain ⟨kk, hkk, rfl, lO, l0, l1', lh, lb⟩ := hrel
                          by_cases hk4 : kk < 4
                          · have i4 : (0 : Int) ≤ (kk : Int) := by omega
                            have i5 : (kk : Int) < 4 := by omega
                            have c4 : wr.cell? ⟨g4, kk, none⟩ = some (.int .u8 ((sumN ch (4 * k + kk) : Nat) : Int)) := by
                              rw [HD.out kk hk4, ← HC4.out kk hk4]
                              simp [World.cell?, lh]
                            obtain ⟨q, hq⟩ : ∃ q : Nat, q = 4 * k + kk := ⟨_, rfl⟩
                            have p1 := lO.put q (.int .u8 ((sumN ch (4 * k + kk) : Nat) : Int))
                            rw [← hq] at p1 c4 lO
                            rw [va_set, fup_step] at p1
                            have HQ1 : Hid (q + 1 = 4 * k + (kk + 1)) := by show _ = _; omega
                            have eq1 : (4 : Int) * (k : Int) + (kk : Int) = (q : Int) := by omega
                            have q32 : (q : Int) < 32 := by omega
                            have q0 : (0 : Int) ≤ (q : Int) := by omega
                            have q31 : q ≤ 31 := by omega
                            have cO : wr.cell? ⟨O, q, none⟩ = some (iv .u8 (fupN q (sumN ch) fun _ => 0) q) := lO.cv (by omega)
                            have fO := lO.frozen q
                            have HH : Hid (∀ v, (wr.setCell ⟨O, q, none⟩ v).heap[g4]? = w7.heap[g4]?) := fun v => (Deep.blk_setCell_other wr ⟨O, q, none⟩ v g4 (by show g4 ≠ O; omega)).trans lh
                            clear hq lh
                            generalize sumN ch q = sv at *
                            go_wp2_with fail
                            go_roundw
                            case rel =>
                              refine ⟨kk + 1, by omega, by go_num, ?_, l0.put_other _ _ (by omega), l1'.put_other _ _ (by omega), HH.out _, lb.setCell (by show w.heap.size ≤ O; omega) _⟩
                              rw [← HQ1.out]
                              exact p1
                            case measure => simp [intOf]; omega
                          · obtain rfl : kk = 4 := by omega
                            go_wp2_with fail
                            refine ⟨⟨k + 1, hk8, by simp, ?_, l0, l1', lb⟩, ?_⟩
                            · rw [show 4 * (k + 1) = 4 * k + 4 from by omega]
                              exact lO
                            · simp [intOf]
                              omega
                      · obtain rfl : k = 8 := by omega
                        rw [fup_all _ 32 (4 * 8) _ _ (Nat.le_refl _)] at mO
                        clear j1 HCH
                        have HFS : Hid (ofN tag (byteAt s) s.size = sumN ch) := HFIN3.out
                        clear HFIN3
                        generalize sumN ch = sm at *
                        go_wp2_with (first
                          | (refine wpList_load_row (by rfl) 38 _ (by rfl) O (by rfl) 38 (va 32 (iv .u8 sm)) (0, 0) _ mO Tryz.underlying38 (by rfl) (size32.trans (by rw [va_size])) ?_; simp only [Act.put, List.setIfInBounds_toArray, List.set_cons_zero, List.set_cons_succ])
                          | (refine wpList_store_row (by rfl) 38 _ _ (by rfl) w.heap.size (va 32 (iv .u8 sm)) (by rfl) (by rfl) 38 _ j0 (size32.trans (by rw [va_size])) (by rw [va_size, va_size]) (iv_one _ _ _) ?_; simp only [Act.put, List.setIfInBounds_toArray, List.set_cons_zero, List.set_cons_succ])
                          | fail)
                        try simp only [Exit.inBlock, Exit.then]
                        refine bodyPost_ret (results_cell_row Tryz.results151 _ _ w.heap.size 38 (va 32 (iv .u8 sm)) (0, 0) _ rfl (j0.set _) Tryz.underlying38 rfl (size32.trans (by rw [va_size]))) rfl ?_
                        rw [HFS.out]
                        exact ⟨rfl, below_setRow jb (Nat.le_refl _) _⟩
end Go.Proofs.YtppagdmlfgialaaGreatDoor

namespace Go.Proofs.YtppagdmlfgialaaGreatDoor
open Go Go.RowKit

theorem run_items {P : Program} {w : World} {e : TypeId} {k : IntKind} (d : Nat) (he : P.underlying e = some (.int k)) (f g : Nat → Int) (xs ys : Array Value) :
    ∀ is : List Nat, (∀ i ∈ is, xs[i]? = some (.int k (f i)) ∧ ys[i]? = some (.int k (g i))) → (Op.eqItems (d + 1) e 1 xs ys is).run P w = .ok (is.all fun i => f i == g i) w
  | [], _ => by simp [Op.eqItems]
  | i :: is, h => by
    obtain ⟨h1, h2⟩ := h i (by simp)
    have ih := run_items (w := w) d he f g xs ys is fun j hj => h j (by simp [hj])
    have p1 : (part e xs (i * 1)).run P w = .ok (.int k (f i)) w := by
      simp [part, isAgg, run_underlying he, h1]
    have p2 : (part e ys (i * 1)).run P w = .ok (.int k (g i)) w := by
      simp [part, isAgg, run_underlying he, h2]
    have p3 : (Op.equalIn (d + 1) e (.int k (f i)) (.int k (g i))).run P w = .ok (f i == g i) w := by
      simp [Op.equalIn, run_underlying he]
    simp only [Op.eqItems, Sem.run_bind, p1, p2, p3, Result.andThen_ok]
    by_cases hq : f i = g i
    · simp only [hq, beq_self_eq_true, Bool.not_true, Bool.false_eq_true, if_false, ih, List.all_cons, Bool.true_and]
    · have : (f i == g i) = false := by simpa using hq
      simp only [this, Bool.not_false, if_true, Sem.run_pure, List.all_cons, Bool.false_and]

end Go.Proofs.YtppagdmlfgialaaGreatDoor

namespace Go.Proofs.YtppagdmlfgialaaGreatDoor
open Go Go.RowKit
set_option linter.unusedSimpArgs false
set_option linter.unusedVariables false

/-- of the first n digests: k the least place with a like one ahead of it, i the first such; or none -/
def CollIs {α : Type} (D : Nat → α) (n i k : Nat) (b : Bool) : Prop :=
  (b = true ∧ i < k ∧ k < n ∧ D i = D k ∧ (∀ x, x < i → D x ≠ D k) ∧ ∀ y, y < k → ∀ x, x < y → D x ≠ D y) ∨
  (b = false ∧ i = 0 ∧ k = 0 ∧ ∀ y, y < n → ∀ x, x < y → D x ≠ D y)
theorem CollIs.same {α : Type} {D : Nat → α} {n i k i' k' : Nat} {b b' : Bool} (h : CollIs D n i k b) (h' : CollIs D n i' k' b') : i' = i ∧ k' = k ∧ b' = b := by
  rcases h with ⟨rfl, h1, h2, h3, h4, h5⟩ | ⟨rfl, rfl, rfl, h5⟩
  · rcases h' with ⟨rfl, g1, g2, g3, g4, g5⟩ | ⟨rfl, rfl, rfl, g5⟩
    · have hk : k' = k := by
        rcases Nat.lt_trichotomy k' k with q | q | q
        · exact absurd g3 (h5 k' q i' g1)
        · exact q
        · exact absurd h3 (g5 k q i h1)
      subst hk
      refine ⟨?_, rfl, rfl⟩
      rcases Nat.lt_trichotomy i' i with q | q | q
      · exact absurd g3 (h4 i' q)
      · exact q
      · exact absurd h3 (g4 i q)
    · exact absurd h3 (g5 k h2 i h1)
  · rcases h' with ⟨rfl, g1, g2, g3, g4, g5⟩ | ⟨rfl, rfl, rfl, g5⟩
    · exact absurd g3 (h5 k' g2 i' g1)
    · exact ⟨rfl, rfl, rfl⟩

/-- an entry's digest, as a plain thing -/
def dg (e : Nat × ByteArray) : Vector Nat 32 := Vector.ofFn fun i : Fin 32 => sumOf e i.1
def dF (d : Vector Nat 32) : Nat → Nat := fun i => (d[i]?).getD 0
def dK (d : Vector Nat 32) : Value := .agg (va 32 (iv .u8 (dF d)))
theorem dF_inj {a b : Vector Nat 32} (h : ∀ i, i < 32 → dF a i = dF b i) : a = b := by
  apply Vector.ext
  intro i hi
  have := h i hi
  unfold dF at this
  simpa [hi] using this

theorem size_u8 (w : World) : (sizeOf 5).run Tryz.prog w = .ok 1 w := by
  obtain ⟨i, hi⟩ : ∃ i, Tryz.prog.info? 5 = some i := Option.isSome_iff_exists.1 (by kernel_rfl)
  have hs : i.size = 1 := by
    have : (Tryz.prog.info? 5).map (·.size) = some 1 := by kernel_rfl
    rw [hi] at this
    simpa using this
  simp [sizeOf, typeInfo, hi, hs]
theorem chk_dig (d : Nat) (e : Bool) (f : Nat → Nat) (w : World) : (Instr.checkKey e (d + 1 + 1) 39 (.agg (va 32 (iv .u8 f)))).run Tryz.prog w = .ok () w := by
  have hc := size_u8 w
  have h1 : ∀ x : Int, (Instr.checkKey e (d + 1) 5 (.int .u8 x)).run Tryz.prog w = .ok () w := fun x => by simp [Instr.checkKey, run_underlying Tryz.underlying5]
  have p1 : ∀ i, i < 32 → (part 5 (va 32 (iv .u8 f)) (i * 1)).run Tryz.prog w = .ok (.int .u8 ((f i : Nat) : Int)) w := fun i hi => by
    have := va_at (iv .u8 f) hi
    simp [part, isAgg, run_underlying Tryz.underlying5, this]
    rfl
  generalize va 32 (iv .u8 f) = cs at *
  rw [Instr.checkKey]
  simp only [Sem.run_bind, run_underlying Tryz.underlying39, Result.andThen_ok]
  have key : ∀ l : List Nat, (∀ i ∈ l, i < 32) → Sem.run Tryz.prog (forIn l PUnit.unit fun i __s => do
      let __do_lift ← sizeOf 5
      let __do_lift ← part 5 cs (i * __do_lift)
      Instr.checkKey e (d + 1) 5 __do_lift
      pure (ForInStep.yield PUnit.unit)) w = .ok PUnit.unit w := by
    intro l
    induction l with
    | nil => intro _; simp
    | cons i l ih =>
      intro h
      simp only [List.forIn_cons, Sem.run_bind, hc, Result.andThen_ok, p1 i (h i (by simp)), h1, Sem.run_pure]
      exact ih fun j hj => h j (by simp [hj])
  simp only [Std.Legacy.Range.forIn_eq_forIn_range']
  rw [key _ (fun i hi => by simpa using hi)]
  rfl
def intV (i : Nat) : Value := .int .i64 (i : Int)
end Go.Proofs.YtppagdmlfgialaaGreatDoor
