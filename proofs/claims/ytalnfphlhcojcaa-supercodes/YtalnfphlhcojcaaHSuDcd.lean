/- The program's Decode of a block as a root, and Fits. -/
import Derived.Test.YtalnfphlhcojcaaHSuRef
import Derived.Test.YtalnfphlhcojcaaHBlkNum
import Derived.Test.YtalnfphlhcojcaaHSegsS
import Derived.Lib.ConvBytes
import Derived.Handy
import Derived.BigQuiet
import Derived.Deep.QuietTactic

namespace Go.Proofs.Ytalnfphlhcojcaa
set_option maxRecDepth 20000
open Go Go.RowKit
set_option linter.unusedVariables false
set_option linter.unusedSimpArgs false
set_option maxRecDepth 100000 in
set_option maxHeartbeats 4000000 in
theorem snum_any (x n : Nat) (hx : x < 18446744073709551616) (hn : n ≤ 8) (hn0 : 0 < n) (w : World) :
    Calls Try.prog 25 #[.int .u64 (x : Int), .int .i64 (n : Int)] w fun e w' => e = .returned (.string (strN (dig x) n)) ∧ Below w.heap.size w w' := by
  obtain ⟨i0, hi, hz0, hz1, hz2⟩ := info_parts infoU8k
  have b1 := Blk.new w 5 #[]
  have hb := below_new1 w (Obj.cells #[] 5)
  go_enter Try.func25, Try.ntmps25
  go_wp2_with fail
  generalize w.alloc (Obj.cells #[] 5) = W at *
  go_loopw [0, 5, 6] (fun m v i wr => ∃ k g cap : Nat, k ≤ n ∧ m = .int .u64 ((x / 256 ^ k : Nat) : Int) ∧ i = .int .i64 k ∧ v = .slice (some ⟨g, 0, none⟩) k cap ∧ wr.ownsRow w.heap.size 5 1 v k (byL (dig x) k) ∧ Below w.heap.size w wr) (fun _ _ i _ => n - (intOf i).toNat)
  case atStart => exact ⟨0, w.heap.size, 0, by omega, by simp, rfl, rfl, kown_empty b1 (Nat.le_refl _), hb⟩
  case round =>
    clear b1 hb
    obtain ⟨k, g, cap, hk, rfl, rfl, rfl, hown, hb⟩ := hrel
    have hv := hown.lt
    have hsz := hb.size
    by_cases hlt : k < n
    · have hqn : x / 256 ^ k ≤ x := Nat.div_le_self _ _
      have HQ : Hid (x / 256 ^ (k + 1) = x / 256 ^ k / 256) := by
        show _ = _
        rw [Nat.pow_succ, Nat.div_div_eq_div_mul]
      have HZ : Hid (byL (dig x) (k + 1) = byL (dig x) k ++ [Value.int .u8 ((x / 256 ^ k % 256 : Nat) : Int)]) := byL_succ (dig x) k
      generalize x / 256 ^ k = q at *
      generalize byL (dig x) k = L at *
      have k1 : (k : Int) < (n : Int) := by omega
      go_wp2_with (first
        | (at_builtin; refine wpList_append_own _ rfl _ _ 48 rfl w.heap.size 5 i0 (.int .u8 0) 1 1 Try.underlying48 hi hz0 hz1 hz2 rfl (by decide) _ _ _ rfl (hown.alloc _) ⟨wr.heap.size, 0, none⟩ 1 1 [.int .u8 ((q : Int) % 256)] rfl rfl (cell_one_new _ _ _) (fun x hx => by simp at hx; subst hx; rfl) (by unfold maxLen; omega) (by omega) (by simp; omega) ?_)
        | go_in)
      intro v' w2 hown' hgrow _
      have hb2 : Below w.heap.size w w2 := (hb.alloc hsz _).grown hgrow (by simp; omega) (fun k hk => (hv k hk).1)
      have hown2 : w2.ownsRow w.heap.size 5 1 v' (k + 1) (byL (dig x) (k + 1)) := by
        rw [HZ.out]
        simpa using hown'
      obtain ⟨g3, cap3, rfl, hg3, hg3'⟩ := kown_form hown2 (Nat.succ_pos k)
      clear hown hv hgrow hb hown'
      go_wp2_with fail
      go_roundw
      case rel => exact ⟨k + 1, g3, cap3, by omega, by rw [HQ.out]; simp, by simp, rfl, hown2, hb2⟩
      case measure => simp [intOf]; omega
    · obtain rfl : k = n := by omega
      have hc := run_own_text (P := Try.prog) wr 48 5 9 Try.underlying48 Try.underlying5 Try.underlying9 hown
      go_wp2_with fail
      go_ret
      exact ⟨rfl, hb⟩

/-- the number of a text's last m bytes -/
def vN (u : ByteArray) : Nat → Nat
  | 0 => 0
  | m + 1 => 256 * vN u m + tbyte u (u.size - 1 - m)
theorem vN_lt (u : ByteArray) : ∀ m, vN u m < 256 ^ m
  | 0 => Nat.one_pos
  | m + 1 => by
    have h1 := vN_lt u m
    have h2 := tbyte_lt u (u.size - 1 - m)
    show 256 * vN u m + tbyte u (u.size - 1 - m) < 256 ^ (m + 1)
    rw [Nat.pow_succ]
    omega
theorem pow256 (m : Nat) (h : m ≤ 7) : 256 ^ m ≤ 72057594037927936 := by
  have : (256 : Nat) ^ m ≤ 256 ^ 7 := Nat.pow_le_pow_right (by decide) h
  exact this
set_option maxHeartbeats 4000000 in
theorem sval_any (u : ByteArray) (hu : u.size ≤ 8) (w : World) : Calls Try.prog 32 #[.string u] w fun e w' => e = .returned (.int .u64 ((vN u u.size : Nat) : Int)) ∧ w' = w := by
  go_enter Try.func32, Try.ntmps32
  go_wp2
  go_loopw [3, 4] (fun v i wr => Hid (∃ m : Nat, m ≤ u.size ∧ i = .int .i64 ((u.size : Int) - 1 - (m : Int)) ∧ v = .int .u64 ((vN u m : Nat) : Int) ∧ wr = w)) (fun _ i _ => (intOf i + 1).toNat)
  case atStart => exact ⟨0, by omega, by simp, rfl, rfl⟩
  case round =>
    obtain ⟨m, hm, rfl, rfl, rfl⟩ := Hid.out hrel
    clear hrel
    by_cases hlt : m < u.size
    · have h0 : 0 ≤ (u.size : Int) - 1 - (m : Int) := by omega
      have h1 : (u.size : Int) - 1 - (m : Int) < (u.size : Int) := by omega
      have hv := vN_lt u m
      have hp := pow256 m (by omega)
      have hj : u.size - 1 - m < u.size := by omega
      have hti : ((u.size : Int) - 1 - (m : Int)).toNat = u.size - 1 - m := by omega
      have hb : u[u.size - 1 - m].toNat < 256 := UInt8.toNat_lt _
      have HS : Hid (vN u (m + 1) = 256 * vN u m + u[u.size - 1 - m].toNat) := by
        show 256 * vN u m + tbyte u (u.size - 1 - m) = _
        rw [tbyte_get u _ hj]
      have hw1 : IntKind.u64.wrap (256 * ((vN u m : Nat) : Int)) = 256 * ((vN u m : Nat) : Int) := by
        have := su_wrap (256 * vN u m) (by omega)
        simpa using this
      have hw2 : IntKind.u64.wrap (256 * ((vN u m : Nat) : Int) + ((u[u.size - 1 - m].toNat : Nat) : Int)) = 256 * ((vN u m : Nat) : Int) + ((u[u.size - 1 - m].toNat : Nat) : Int) := by
        have := su_wrap (256 * vN u m + u[u.size - 1 - m].toNat) (by omega)
        simpa using this
      go_wp2
      have hs2 := HS.out
      refine ⟨⟨m + 1, by omega, by congr 1; omega, by congr 1; omega, trivial⟩, ?_⟩
      simp only [intOf]
      omega
    · have e : m = u.size := by omega
      subst e
      go_wp2
      go_ret
      exact ⟨rfl, rfl⟩
theorem vN4 (u : ByteArray) (h : u.size = 4) : vN u u.size = le4 (tbyte u 0) (tbyte u 1) (tbyte u 2) (tbyte u 3) := by
  rw [h]
  show 256 * (256 * (256 * (256 * 0 + tbyte u (u.size - 1 - 0)) + tbyte u (u.size - 1 - 1)) + tbyte u (u.size - 1 - 2)) + tbyte u (u.size - 1 - 3) = _
  rw [h]
  unfold le4
  show 256 * (256 * (256 * (256 * 0 + tbyte u 3) + tbyte u 2) + tbyte u 1) + tbyte u 0 = _
  omega
theorem vN8 (u : ByteArray) (h : u.size = 8) : vN u u.size = le8 (tbyte u 0) (tbyte u 1) (tbyte u 2) (tbyte u 3) (tbyte u 4) (tbyte u 5) (tbyte u 6) (tbyte u 7) := by
  rw [h]
  show 256 * (256 * (256 * (256 * (256 * (256 * (256 * (256 * 0 + tbyte u (u.size - 1 - 0)) + tbyte u (u.size - 1 - 1)) + tbyte u (u.size - 1 - 2)) + tbyte u (u.size - 1 - 3)) + tbyte u (u.size - 1 - 4)) + tbyte u (u.size - 1 - 5)) + tbyte u (u.size - 1 - 6)) + tbyte u (u.size - 1 - 7) = _
  rw [h]
  unfold le8
  show 256 * (256 * (256 * (256 * (256 * (256 * (256 * (256 * 0 + tbyte u 7) + tbyte u 6) + tbyte u 5) + tbyte u 4) + tbyte u 3) + tbyte u 2) + tbyte u 1) + tbyte u 0 = _
  omega
theorem part_at4 (s : ByteArray) (a : Nat) (h : a + 4 ≤ s.size) : vN (s.extract a (a + 4)) (s.extract a (a + 4)).size = at4 s a := by
  rw [vN4 _ (by rw [extract_size s a (a + 4) h]; omega)]
  unfold at4
  rw [tbyte_extract0 s a 4 0 (by decide), tbyte_extract0 s a 4 1 (by decide), tbyte_extract0 s a 4 2 (by decide), tbyte_extract0 s a 4 3 (by decide)]
  rfl
theorem part_at8 (s : ByteArray) (a : Nat) (h : a + 8 ≤ s.size) : vN (s.extract a (a + 8)) (s.extract a (a + 8)).size = at8 s a := by
  rw [vN8 _ (by rw [extract_size s a (a + 8) h]; omega)]
  unfold at8
  rw [tbyte_extract0 s a 8 0 (by decide), tbyte_extract0 s a 8 1 (by decide), tbyte_extract0 s a 8 2 (by decide), tbyte_extract0 s a 8 3 (by decide), tbyte_extract0 s a 8 4 (by decide), tbyte_extract0 s a 8 5 (by decide), tbyte_extract0 s a 8 6 (by decide), tbyte_extract0 s a 8 7 (by decide)]
  rfl
set_option maxRecDepth 100000 in
set_option maxHeartbeats 4000000 in
theorem ssum_any (f : Nat → Nat) (hf : ∀ i, i < 32 → f i < 256) (w : World) :
    Calls Try.prog 26 #[.agg (va 32 (iv .u8 f))] w fun e w' => e = .returned (.string (strN f 32)) ∧ Below w.heap.size w w' := by
  obtain ⟨i0, hi, hz0, hz1, hz2⟩ := info_parts infoU8k
  have b0 : Blk ((w.alloc (.cells (va 32 (iv .u8 f)) 24)).alloc (.cells #[] 5)) w.heap.size 24 (va 32 (iv .u8 f)) := (Blk.new _ _ _).alloc _
  have b1 : Blk ((w.alloc (.cells (va 32 (iv .u8 f)) 24)).alloc (.cells #[] 5)) (w.heap.size + 1) 5 #[] := Blk.new1 _ _ _ _
  have hb : Below w.heap.size w ((w.alloc (.cells (va 32 (iv .u8 f)) 24)).alloc (.cells #[] 5)) := below_new2 _ _ _
  go_enter Try.func26, Try.ntmps26
  go_wp2_with fail
  generalize (w.alloc (.cells (va 32 (iv .u8 f)) 24)).alloc (.cells #[] 5) = W at *
  go_loopw [3, 4] (fun v i wr => ∃ k g cap : Nat, k ≤ 32 ∧ i = .int .i64 k ∧ v = .slice (some ⟨g, 0, none⟩) k cap ∧ wr.ownsRow (w.heap.size + 1) 5 1 v k (byL f k) ∧ Blk wr w.heap.size 24 (va 32 (iv .u8 f)) ∧ Below w.heap.size w wr ∧ w.heap.size + 1 ≤ wr.heap.size) (fun _ i _ => 32 - (intOf i).toNat)
  case atStart => exact ⟨0, w.heap.size + 1, 0, by omega, rfl, rfl, kown_empty b1 (Nat.le_refl _), b0, hb, by have := b1.lt; omega⟩
  case round =>
    clear b0 b1 hb
    obtain ⟨k, g, cap, hk, rfl, rfl, hown, b0, hb, hs1⟩ := hrel
    have hv := hown.lt
    have hsz := hb.size
    by_cases hlt : k < 32
    · have c0 : wr.cell? ⟨w.heap.size, k, none⟩ = some (.int .u8 ((f k : Nat) : Int)) := by rw [b0.cell]; exact va_at (iv .u8 f) hlt
      have HZ : Hid (byL f (k + 1) = byL f k ++ [Value.int .u8 ((f k : Nat) : Int)]) := byL_succ f k
      generalize byL f k = L at *
      have k1 : (k : Int) < 32 := by omega
      have hfk := hf k hlt
      go_wp2_with (first
        | (at_builtin; refine wpList_append_own _ rfl _ _ 48 rfl (w.heap.size + 1) 5 i0 (.int .u8 0) 1 1 Try.underlying48 hi hz0 hz1 hz2 rfl (by decide) _ _ _ rfl (hown.alloc _) ⟨wr.heap.size, 0, none⟩ 1 1 [.int .u8 ((f k : Nat) : Int)] rfl rfl (cell_one_new _ _ _) (fun x hx => by simp at hx; subst hx; rfl) (by unfold maxLen; omega) (by omega) (by simp; omega) ?_)
        | go_in)
      intro v' w2 hown' hgrow _
      have hb1 : Below (w.heap.size + 1) wr w2 := ((Below.refl _ _).alloc hs1 _).grown hgrow (by simp; omega) (fun k hk => (hv k hk).1)
      have hb2 : Below w.heap.size w w2 := hb.trans (hb1.mono (Nat.le_succ _))
      have b2 : Blk w2 w.heap.size 24 (va 32 (iv .u8 f)) := b0.below hb1 (Nat.lt_succ_self _)
      have hown2 : w2.ownsRow (w.heap.size + 1) 5 1 v' (k + 1) (byL f (k + 1)) := by
        rw [HZ.out]
        simpa using hown'
      obtain ⟨g3, cap3, rfl, hg3, hg3'⟩ := kown_form hown2 (Nat.succ_pos k)
      have hs2 : w.heap.size + 1 ≤ w2.heap.size := Nat.le_trans hs1 hb1.size
      clear hown hv hgrow hb hown' c0 b0 hb1
      go_wp2_with fail
      go_roundw
      case rel => exact ⟨k + 1, g3, cap3, by omega, by simp, rfl, hown2, b2, hb2, hs2⟩
      case measure => simp [intOf]; omega
    · obtain rfl : k = 32 := by omega
      have hc := run_own_text (P := Try.prog) wr 48 5 9 Try.underlying48 Try.underlying5 Try.underlying9 hown
      go_wp2_with fail
      go_ret
      exact ⟨rfl, hb⟩
end Go.Proofs.Ytalnfphlhcojcaa

namespace Go.Proofs.Ytalnfphlhcojcaa
open Go Go.RowKit
set_option linter.unusedSimpArgs false
set_option linter.unusedVariables false
set_option maxRecDepth 20000
set_option maxRecDepth 100000 in
set_option maxHeartbeats 4000000 in
theorem sdecode_no (f : Nat → Nat) (hf : ∀ i, f i < 256) (hc : sck (prR f) = false) (w : World) : Calls Try.prog 11 #[bkV f] w fun e w' => e = .returned (.tuple #[.agg (suC su0), .int .i64 200]) ∧ Below w.heap.size w w' := by
  have hz := zero_sup
  have hz2 := zero_bk
  have HP : Hid (∀ w, Calls Try.prog 31 #[bkV f] w fun e w' => e = .returned (.agg (suC (prB f))) ∧ Below w.heap.size w w') := sparts_any f hf
  have HE : Hid (∀ w, Calls Try.prog 7 #[.agg (suC (prB f))] w fun e w' => e = .returned (.tuple #[bkV (fun _ => 0), .int .i64 200]) ∧ Below w.heap.size w w') := sencode_no (prB f) (prB_w f hf) (by rw [prB_sck]; exact hc)
  obtain ⟨Z, hZ⟩ : ∃ Z : Nat → Nat, Z = fun _ => 0 := ⟨_, rfl⟩
  have HE2 : Hid (∀ w, Calls Try.prog 7 #[.agg (suC (prB f))] w fun e w' => e = .returned (.tuple #[bkV Z, .int .i64 200]) ∧ Below w.heap.size w w') := by rw [hZ]; exact HE
  clear HE hZ
  have HE := HE2
  clear HE2
  generalize prB f = X at *
  generalize Z = G at *
  unfold bkV at *
  have r0 : Blk ((w.alloc (.cells (va 256 (iv .u8 f)) 33)).alloc (.cells (suC su0) 31)) w.heap.size 33 (va 256 (iv .u8 f)) := (Blk.new _ _ _).alloc _
  have r1 : Blk ((w.alloc (.cells (va 256 (iv .u8 f)) 33)).alloc (.cells (suC su0) 31)) (w.heap.size + 1) 31 (suC su0) := Blk.new1 _ _ _ _
  have hb : Below w.heap.size w ((w.alloc (.cells (va 256 (iv .u8 f)) 33)).alloc (.cells (suC su0) 31)) := below_new2 _ _ _
  go_enter Try.func11, Try.ntmps11
  go_wp2_with (first | (refine wpList_load_rowg (by rfl) 33 _ (by rfl) (w.heap.size) (by rfl) 33 (va 256 (iv .u8 (f))) (0, 0) _ (by exact r0) Try.underlying33 (by rfl) (sizeBk.trans (by rw [va_size])) ?_; simp only [Act.put, List.setIfInBounds_toArray, List.set_cons_zero, List.set_cons_succ]) | fail)
  generalize ((w.alloc (.cells (va 256 (iv .u8 f)) 33)).alloc (.cells (suC su0) 31)) = W at *
  refine (HP.out _).mono ?_
  rintro e w1 ⟨rfl, hb1⟩
  have q0 := r0.below hb1 r0.lt
  have q1 := r1.below hb1 r1.lt
  have hb2 : Below w.heap.size w w1 := hb.trans (hb1.mono hb.size)
  have l1 : w.heap.size + 1 < w1.heap.size := q1.lt
  clear r0 r1 hb hb1 HP
  have s0 : Blk (w1.alloc (.cells (suC su0) 31)) w1.heap.size 31 (suC su0) := Blk.new _ _ _
  have t0 : Blk ((w1.alloc (.cells (suC su0) 31)).setRow w1.heap.size (suC X)) w.heap.size 33 (va 256 (iv .u8 f)) := (q0.alloc _).other _ (by omega)
  have t1 : Blk ((w1.alloc (.cells (suC su0) 31)).setRow w1.heap.size (suC X)) (w.heap.size + 1) 31 (suC su0) := (q1.alloc _).other _ (by omega)
  have t2 : Blk ((w1.alloc (.cells (suC su0) 31)).setRow w1.heap.size (suC X)) w1.heap.size 31 (suC X) := s0.set _
  have hb5 : Below w.heap.size w ((w1.alloc (.cells (suC su0) 31)).setRow w1.heap.size (suC X)) := below_setRow (hb2.alloc hb2.size _) (by omega) _
  clear q0 q1 hb2
  go_wp2_with (first | (refine wpList_store_row (by rfl) 31 _ _ (by rfl) (w1.heap.size) (suC (X)) (by rfl) (by rfl) 31 (_) (by exact s0) (sizeSup.trans (by rw [suC_size])) (by simp only [suC_size]) (suC_all _) ?_; simp only [Act.put, List.setIfInBounds_toArray, List.set_cons_zero, List.set_cons_succ]) | (refine wpList_load_rowg (by rfl) 31 _ (by rfl) (w1.heap.size) (by rfl) 31 (suC (X)) (0, 0) _ (by exact t2) Try.underlying31 (by rfl) (sizeSup.trans (by rw [suC_size])) ?_; simp only [Act.put, List.setIfInBounds_toArray, List.set_cons_zero, List.set_cons_succ]) | fail)
  clear s0
  generalize ((w1.alloc (.cells (suC su0) 31)).setRow w1.heap.size (suC X)) = v1 at *
  generalize w1.heap.size = g at *
  refine (HE.out _).mono ?_
  rintro e u1 ⟨rfl, hb6⟩
  have p0 := t0.below hb6 t0.lt
  have p1 := t1.below hb6 t1.lt
  have p2 := t2.below hb6 t2.lt
  have hb7 : Below w.heap.size w u1 := hb5.trans (hb6.mono hb5.size)
  have l2 : g < u1.heap.size := p2.lt
  clear t0 t1 t2 hb5 hb6 HE
  have s1 : Blk (u1.alloc (.cells (va 256 (iv .u8 fun _ => 0)) 33)) u1.heap.size 33 (va 256 (iv .u8 fun _ => 0)) := Blk.new _ _ _
  have a0 : Blk ((u1.alloc (.cells (va 256 (iv .u8 fun _ => 0)) 33)).setRow u1.heap.size (va 256 (iv .u8 G))) w.heap.size 33 (va 256 (iv .u8 f)) := (p0.alloc _).other _ (by omega)
  have a1 : Blk ((u1.alloc (.cells (va 256 (iv .u8 fun _ => 0)) 33)).setRow u1.heap.size (va 256 (iv .u8 G))) (w.heap.size + 1) 31 (suC su0) := (p1.alloc _).other _ (by omega)
  have a2 : Blk ((u1.alloc (.cells (va 256 (iv .u8 fun _ => 0)) 33)).setRow u1.heap.size (va 256 (iv .u8 G))) g 31 (suC X) := (p2.alloc _).other _ (by omega)
  have a3 : Blk ((u1.alloc (.cells (va 256 (iv .u8 fun _ => 0)) 33)).setRow u1.heap.size (va 256 (iv .u8 G))) u1.heap.size 33 (va 256 (iv .u8 G)) := s1.set _
  have hb8 : Below w.heap.size w ((u1.alloc (.cells (va 256 (iv .u8 fun _ => 0)) 33)).setRow u1.heap.size (va 256 (iv .u8 G))) := below_setRow (hb7.alloc hb7.size _) (by omega) _
  clear p0 p1 p2 hb7
  go_wp2_with (first | (refine wpList_store_row (by rfl) 33 _ _ (by rfl) (u1.heap.size) (va 256 (iv .u8 (G))) (by rfl) (by rfl) 33 (_) (by exact s1) (sizeBk.trans (by rw [va_size])) (by simp only [va_size]) (iv_one _ _ _) ?_; simp only [Act.put, List.setIfInBounds_toArray, List.set_cons_zero, List.set_cons_succ]) | (refine wpList_load_rowg (by rfl) 33 _ (by rfl) (u1.heap.size) (by rfl) 33 (va 256 (iv .u8 (G))) (0, 0) _ (by exact a3) Try.underlying33 (by rfl) (sizeBk.trans (by rw [va_size])) ?_; simp only [Act.put, List.setIfInBounds_toArray, List.set_cons_zero, List.set_cons_succ]) | (refine wpList_load_rowg (by rfl) 33 _ (by rfl) (w.heap.size) (by rfl) 33 (va 256 (iv .u8 (f))) (0, 0) _ (by exact a0) Try.underlying33 (by rfl) (sizeBk.trans (by rw [va_size])) ?_; simp only [Act.put, List.setIfInBounds_toArray, List.set_cons_zero, List.set_cons_succ]) | (refine wpList_buildTo (by rfl) 31 _ (by rfl) _ rfl (suC su0) (by exact built_sup0) ?_; simp only [Act.put, List.setIfInBounds_toArray, List.set_cons_zero, List.set_cons_succ]) | (refine wpList_store_row (by rfl) 31 _ _ (by rfl) (w.heap.size + 1) (suC (su0)) (by rfl) (by rfl) 31 (_) (by exact a1) (sizeSup.trans (by rw [suC_size])) (by simp only [suC_size]) (suC_all _) ?_; simp only [Act.put, List.setIfInBounds_toArray, List.set_cons_zero, List.set_cons_succ]) | (refine wpList_load_rowg (by rfl) 31 _ (by rfl) (g) (by rfl) 31 (suC (X)) (0, 0) _ (by exact a2) Try.underlying31 (by rfl) (sizeSup.trans (by rw [suC_size])) ?_; simp only [Act.put, List.setIfInBounds_toArray, List.set_cons_zero, List.set_cons_succ]) | (refine wpList_store_row (by rfl) 31 _ _ (by rfl) (w.heap.size + 1) (suC (X)) (by rfl) (by rfl) 31 (_) (by exact a1) (sizeSup.trans (by rw [suC_size])) (by simp only [suC_size]) (suC_all _) ?_; simp only [Act.put, List.setIfInBounds_toArray, List.set_cons_zero, List.set_cons_succ]) | fail)
  try simp only [Exit.inBlock, Exit.then]
  refine bodyPost_ret (results_row2 Try.results11 _ _ (w.heap.size + 1) 31 (suC su0) (0, 0) _ rfl (a1.set _) Try.underlying31 rfl (sizeSup.trans (by rw [suC_size]))) rfl ?_
  exact ⟨rfl, below_setRow hb8 (Nat.le_succ _) _⟩
set_option maxRecDepth 100000 in
set_option maxHeartbeats 4000000 in
theorem sdecode_un (f : Nat → Nat) (hf : ∀ i, f i < 256) (hc : sck (prR f) = true) (hs : ¬ bkSame (suB (prR f)) f) (w : World) : Calls Try.prog 11 #[bkV f] w fun e w' => e = .returned (.tuple #[.agg (suC su0), .int .i64 200]) ∧ Below w.heap.size w w' := by
  have hz := zero_sup
  have hz2 := zero_bk
  have HP : Hid (∀ w, Calls Try.prog 31 #[bkV f] w fun e w' => e = .returned (.agg (suC (prB f))) ∧ Below w.heap.size w w') := sparts_any f hf
  rw [prB_eq f hc] at HP
  have HE : Hid (∀ w, Calls Try.prog 7 #[.agg (suC (prR f))] w fun e w' => e = .returned (.tuple #[bkV (suB (prR f)), .int .i64 0]) ∧ Below w.heap.size w w') := sencode_ok (prR f) (prR_w f hf) hc
  have hq : ∀ W, (Op.equalIn 10000 33 (bkV (suB (prR f))) (bkV f)).run Try.prog W = .ok false W := fun W => by
    have := eq_bk 33 Try.underlying33 (suB (prR f)) f W
    rw [decide_eq_false hs] at this
    exact this
  clear hs hc
  generalize hG : suB (prR f) = G0 at *
  clear hG
  generalize prR f = X at *
  generalize G0 = G at *
  unfold bkV at *
  have r0 : Blk ((w.alloc (.cells (va 256 (iv .u8 f)) 33)).alloc (.cells (suC su0) 31)) w.heap.size 33 (va 256 (iv .u8 f)) := (Blk.new _ _ _).alloc _
  have r1 : Blk ((w.alloc (.cells (va 256 (iv .u8 f)) 33)).alloc (.cells (suC su0) 31)) (w.heap.size + 1) 31 (suC su0) := Blk.new1 _ _ _ _
  have hb : Below w.heap.size w ((w.alloc (.cells (va 256 (iv .u8 f)) 33)).alloc (.cells (suC su0) 31)) := below_new2 _ _ _
  go_enter Try.func11, Try.ntmps11
  go_wp2_with (first | (refine wpList_load_rowg (by rfl) 33 _ (by rfl) (w.heap.size) (by rfl) 33 (va 256 (iv .u8 (f))) (0, 0) _ (by exact r0) Try.underlying33 (by rfl) (sizeBk.trans (by rw [va_size])) ?_; simp only [Act.put, List.setIfInBounds_toArray, List.set_cons_zero, List.set_cons_succ]) | fail)
  generalize ((w.alloc (.cells (va 256 (iv .u8 f)) 33)).alloc (.cells (suC su0) 31)) = W at *
  refine (HP.out _).mono ?_
  rintro e w1 ⟨rfl, hb1⟩
  have q0 := r0.below hb1 r0.lt
  have q1 := r1.below hb1 r1.lt
  have hb2 : Below w.heap.size w w1 := hb.trans (hb1.mono hb.size)
  have l1 : w.heap.size + 1 < w1.heap.size := q1.lt
  clear r0 r1 hb hb1 HP
  have s0 : Blk (w1.alloc (.cells (suC su0) 31)) w1.heap.size 31 (suC su0) := Blk.new _ _ _
  have t0 : Blk ((w1.alloc (.cells (suC su0) 31)).setRow w1.heap.size (suC X)) w.heap.size 33 (va 256 (iv .u8 f)) := (q0.alloc _).other _ (by omega)
  have t1 : Blk ((w1.alloc (.cells (suC su0) 31)).setRow w1.heap.size (suC X)) (w.heap.size + 1) 31 (suC su0) := (q1.alloc _).other _ (by omega)
  have t2 : Blk ((w1.alloc (.cells (suC su0) 31)).setRow w1.heap.size (suC X)) w1.heap.size 31 (suC X) := s0.set _
  have hb5 : Below w.heap.size w ((w1.alloc (.cells (suC su0) 31)).setRow w1.heap.size (suC X)) := below_setRow (hb2.alloc hb2.size _) (by omega) _
  clear q0 q1 hb2
  go_wp2_with (first | (refine wpList_store_row (by rfl) 31 _ _ (by rfl) (w1.heap.size) (suC (X)) (by rfl) (by rfl) 31 (_) (by exact s0) (sizeSup.trans (by rw [suC_size])) (by simp only [suC_size]) (suC_all _) ?_; simp only [Act.put, List.setIfInBounds_toArray, List.set_cons_zero, List.set_cons_succ]) | (refine wpList_load_rowg (by rfl) 31 _ (by rfl) (w1.heap.size) (by rfl) 31 (suC (X)) (0, 0) _ (by exact t2) Try.underlying31 (by rfl) (sizeSup.trans (by rw [suC_size])) ?_; simp only [Act.put, List.setIfInBounds_toArray, List.set_cons_zero, List.set_cons_succ]) | fail)
  clear s0
  generalize ((w1.alloc (.cells (suC su0) 31)).setRow w1.heap.size (suC X)) = v1 at *
  generalize w1.heap.size = g at *
  refine (HE.out _).mono ?_
  rintro e u1 ⟨rfl, hb6⟩
  have p0 := t0.below hb6 t0.lt
  have p1 := t1.below hb6 t1.lt
  have p2 := t2.below hb6 t2.lt
  have hb7 : Below w.heap.size w u1 := hb5.trans (hb6.mono hb5.size)
  have l2 : g < u1.heap.size := p2.lt
  clear t0 t1 t2 hb5 hb6 HE
  have s1 : Blk (u1.alloc (.cells (va 256 (iv .u8 fun _ => 0)) 33)) u1.heap.size 33 (va 256 (iv .u8 fun _ => 0)) := Blk.new _ _ _
  have a0 : Blk ((u1.alloc (.cells (va 256 (iv .u8 fun _ => 0)) 33)).setRow u1.heap.size (va 256 (iv .u8 G))) w.heap.size 33 (va 256 (iv .u8 f)) := (p0.alloc _).other _ (by omega)
  have a1 : Blk ((u1.alloc (.cells (va 256 (iv .u8 fun _ => 0)) 33)).setRow u1.heap.size (va 256 (iv .u8 G))) (w.heap.size + 1) 31 (suC su0) := (p1.alloc _).other _ (by omega)
  have a2 : Blk ((u1.alloc (.cells (va 256 (iv .u8 fun _ => 0)) 33)).setRow u1.heap.size (va 256 (iv .u8 G))) g 31 (suC X) := (p2.alloc _).other _ (by omega)
  have a3 : Blk ((u1.alloc (.cells (va 256 (iv .u8 fun _ => 0)) 33)).setRow u1.heap.size (va 256 (iv .u8 G))) u1.heap.size 33 (va 256 (iv .u8 G)) := s1.set _
  have hb8 : Below w.heap.size w ((u1.alloc (.cells (va 256 (iv .u8 fun _ => 0)) 33)).setRow u1.heap.size (va 256 (iv .u8 G))) := below_setRow (hb7.alloc hb7.size _) (by omega) _
  clear p0 p1 p2 hb7
  go_wp2_with (first | (refine wpList_store_row (by rfl) 33 _ _ (by rfl) (u1.heap.size) (va 256 (iv .u8 (G))) (by rfl) (by rfl) 33 (_) (by exact s1) (sizeBk.trans (by rw [va_size])) (by simp only [va_size]) (iv_one _ _ _) ?_; simp only [Act.put, List.setIfInBounds_toArray, List.set_cons_zero, List.set_cons_succ]) | (refine wpList_load_rowg (by rfl) 33 _ (by rfl) (u1.heap.size) (by rfl) 33 (va 256 (iv .u8 (G))) (0, 0) _ (by exact a3) Try.underlying33 (by rfl) (sizeBk.trans (by rw [va_size])) ?_; simp only [Act.put, List.setIfInBounds_toArray, List.set_cons_zero, List.set_cons_succ]) | (refine wpList_load_rowg (by rfl) 33 _ (by rfl) (w.heap.size) (by rfl) 33 (va 256 (iv .u8 (f))) (0, 0) _ (by exact a0) Try.underlying33 (by rfl) (sizeBk.trans (by rw [va_size])) ?_; simp only [Act.put, List.setIfInBounds_toArray, List.set_cons_zero, List.set_cons_succ]) | (refine wpList_buildTo (by rfl) 31 _ (by rfl) _ rfl (suC su0) (by exact built_sup0) ?_; simp only [Act.put, List.setIfInBounds_toArray, List.set_cons_zero, List.set_cons_succ]) | (refine wpList_store_row (by rfl) 31 _ _ (by rfl) (w.heap.size + 1) (suC (su0)) (by rfl) (by rfl) 31 (_) (by exact a1) (sizeSup.trans (by rw [suC_size])) (by simp only [suC_size]) (suC_all _) ?_; simp only [Act.put, List.setIfInBounds_toArray, List.set_cons_zero, List.set_cons_succ]) | (refine wpList_load_rowg (by rfl) 31 _ (by rfl) (g) (by rfl) 31 (suC (X)) (0, 0) _ (by exact a2) Try.underlying31 (by rfl) (sizeSup.trans (by rw [suC_size])) ?_; simp only [Act.put, List.setIfInBounds_toArray, List.set_cons_zero, List.set_cons_succ]) | (refine wpList_store_row (by rfl) 31 _ _ (by rfl) (w.heap.size + 1) (suC (X)) (by rfl) (by rfl) 31 (_) (by exact a1) (sizeSup.trans (by rw [suC_size])) (by simp only [suC_size]) (suC_all _) ?_; simp only [Act.put, List.setIfInBounds_toArray, List.set_cons_zero, List.set_cons_succ]) | fail)
  try simp only [Exit.inBlock, Exit.then]
  refine bodyPost_ret (results_row2 Try.results11 _ _ (w.heap.size + 1) 31 (suC su0) (0, 0) _ rfl (a1.set _) Try.underlying31 rfl (sizeSup.trans (by rw [suC_size]))) rfl ?_
  exact ⟨rfl, below_setRow hb8 (Nat.le_succ _) _⟩
set_option maxRecDepth 100000 in
set_option maxHeartbeats 4000000 in
theorem sdecode_ok (f : Nat → Nat) (hf : ∀ i, f i < 256) (hc : sck (prR f) = true) (hs : bkSame (suB (prR f)) f) (w : World) : Calls Try.prog 11 #[bkV f] w fun e w' => e = .returned (.tuple #[.agg (suC (prR f)), .int .i64 0]) ∧ Below w.heap.size w w' := by
  have hz := zero_sup
  have hz2 := zero_bk
  have HP : Hid (∀ w, Calls Try.prog 31 #[bkV f] w fun e w' => e = .returned (.agg (suC (prB f))) ∧ Below w.heap.size w w') := sparts_any f hf
  rw [prB_eq f hc] at HP
  have HE : Hid (∀ w, Calls Try.prog 7 #[.agg (suC (prR f))] w fun e w' => e = .returned (.tuple #[bkV (suB (prR f)), .int .i64 0]) ∧ Below w.heap.size w w') := sencode_ok (prR f) (prR_w f hf) hc
  have hq : ∀ W, (Op.equalIn 10000 33 (bkV (suB (prR f))) (bkV f)).run Try.prog W = .ok true W := fun W => by
    have := eq_bk 33 Try.underlying33 (suB (prR f)) f W
    rw [decide_eq_true hs] at this
    exact this
  clear hs hc
  generalize hG : suB (prR f) = G0 at *
  clear hG
  generalize prR f = X at *
  generalize G0 = G at *
  unfold bkV at *
  have r0 : Blk ((w.alloc (.cells (va 256 (iv .u8 f)) 33)).alloc (.cells (suC su0) 31)) w.heap.size 33 (va 256 (iv .u8 f)) := (Blk.new _ _ _).alloc _
  have r1 : Blk ((w.alloc (.cells (va 256 (iv .u8 f)) 33)).alloc (.cells (suC su0) 31)) (w.heap.size + 1) 31 (suC su0) := Blk.new1 _ _ _ _
  have hb : Below w.heap.size w ((w.alloc (.cells (va 256 (iv .u8 f)) 33)).alloc (.cells (suC su0) 31)) := below_new2 _ _ _
  go_enter Try.func11, Try.ntmps11
  go_wp2_with (first | (refine wpList_load_rowg (by rfl) 33 _ (by rfl) (w.heap.size) (by rfl) 33 (va 256 (iv .u8 (f))) (0, 0) _ (by exact r0) Try.underlying33 (by rfl) (sizeBk.trans (by rw [va_size])) ?_; simp only [Act.put, List.setIfInBounds_toArray, List.set_cons_zero, List.set_cons_succ]) | fail)
  generalize ((w.alloc (.cells (va 256 (iv .u8 f)) 33)).alloc (.cells (suC su0) 31)) = W at *
  refine (HP.out _).mono ?_
  rintro e w1 ⟨rfl, hb1⟩
  have q0 := r0.below hb1 r0.lt
  have q1 := r1.below hb1 r1.lt
  have hb2 : Below w.heap.size w w1 := hb.trans (hb1.mono hb.size)
  have l1 : w.heap.size + 1 < w1.heap.size := q1.lt
  clear r0 r1 hb hb1 HP
  have s0 : Blk (w1.alloc (.cells (suC su0) 31)) w1.heap.size 31 (suC su0) := Blk.new _ _ _
  have t0 : Blk ((w1.alloc (.cells (suC su0) 31)).setRow w1.heap.size (suC X)) w.heap.size 33 (va 256 (iv .u8 f)) := (q0.alloc _).other _ (by omega)
  have t1 : Blk ((w1.alloc (.cells (suC su0) 31)).setRow w1.heap.size (suC X)) (w.heap.size + 1) 31 (suC su0) := (q1.alloc _).other _ (by omega)
  have t2 : Blk ((w1.alloc (.cells (suC su0) 31)).setRow w1.heap.size (suC X)) w1.heap.size 31 (suC X) := s0.set _
  have hb5 : Below w.heap.size w ((w1.alloc (.cells (suC su0) 31)).setRow w1.heap.size (suC X)) := below_setRow (hb2.alloc hb2.size _) (by omega) _
  clear q0 q1 hb2
  go_wp2_with (first | (refine wpList_store_row (by rfl) 31 _ _ (by rfl) (w1.heap.size) (suC (X)) (by rfl) (by rfl) 31 (_) (by exact s0) (sizeSup.trans (by rw [suC_size])) (by simp only [suC_size]) (suC_all _) ?_; simp only [Act.put, List.setIfInBounds_toArray, List.set_cons_zero, List.set_cons_succ]) | (refine wpList_load_rowg (by rfl) 31 _ (by rfl) (w1.heap.size) (by rfl) 31 (suC (X)) (0, 0) _ (by exact t2) Try.underlying31 (by rfl) (sizeSup.trans (by rw [suC_size])) ?_; simp only [Act.put, List.setIfInBounds_toArray, List.set_cons_zero, List.set_cons_succ]) | fail)
  clear s0
  generalize ((w1.alloc (.cells (suC su0) 31)).setRow w1.heap.size (suC X)) = v1 at *
  generalize w1.heap.size = g at *
  refine (HE.out _).mono ?_
  rintro e u1 ⟨rfl, hb6⟩
  have p0 := t0.below hb6 t0.lt
  have p1 := t1.below hb6 t1.lt
  have p2 := t2.below hb6 t2.lt
  have hb7 : Below w.heap.size w u1 := hb5.trans (hb6.mono hb5.size)
  have l2 : g < u1.heap.size := p2.lt
  clear t0 t1 t2 hb5 hb6 HE
  have s1 : Blk (u1.alloc (.cells (va 256 (iv .u8 fun _ => 0)) 33)) u1.heap.size 33 (va 256 (iv .u8 fun _ => 0)) := Blk.new _ _ _
  have a0 : Blk ((u1.alloc (.cells (va 256 (iv .u8 fun _ => 0)) 33)).setRow u1.heap.size (va 256 (iv .u8 G))) w.heap.size 33 (va 256 (iv .u8 f)) := (p0.alloc _).other _ (by omega)
  have a1 : Blk ((u1.alloc (.cells (va 256 (iv .u8 fun _ => 0)) 33)).setRow u1.heap.size (va 256 (iv .u8 G))) (w.heap.size + 1) 31 (suC su0) := (p1.alloc _).other _ (by omega)
  have a2 : Blk ((u1.alloc (.cells (va 256 (iv .u8 fun _ => 0)) 33)).setRow u1.heap.size (va 256 (iv .u8 G))) g 31 (suC X) := (p2.alloc _).other _ (by omega)
  have a3 : Blk ((u1.alloc (.cells (va 256 (iv .u8 fun _ => 0)) 33)).setRow u1.heap.size (va 256 (iv .u8 G))) u1.heap.size 33 (va 256 (iv .u8 G)) := s1.set _
  have hb8 : Below w.heap.size w ((u1.alloc (.cells (va 256 (iv .u8 fun _ => 0)) 33)).setRow u1.heap.size (va 256 (iv .u8 G))) := below_setRow (hb7.alloc hb7.size _) (by omega) _
  clear p0 p1 p2 hb7
  go_wp2_with (first | (refine wpList_store_row (by rfl) 33 _ _ (by rfl) (u1.heap.size) (va 256 (iv .u8 (G))) (by rfl) (by rfl) 33 (_) (by exact s1) (sizeBk.trans (by rw [va_size])) (by simp only [va_size]) (iv_one _ _ _) ?_; simp only [Act.put, List.setIfInBounds_toArray, List.set_cons_zero, List.set_cons_succ]) | (refine wpList_load_rowg (by rfl) 33 _ (by rfl) (u1.heap.size) (by rfl) 33 (va 256 (iv .u8 (G))) (0, 0) _ (by exact a3) Try.underlying33 (by rfl) (sizeBk.trans (by rw [va_size])) ?_; simp only [Act.put, List.setIfInBounds_toArray, List.set_cons_zero, List.set_cons_succ]) | (refine wpList_load_rowg (by rfl) 33 _ (by rfl) (w.heap.size) (by rfl) 33 (va 256 (iv .u8 (f))) (0, 0) _ (by exact a0) Try.underlying33 (by rfl) (sizeBk.trans (by rw [va_size])) ?_; simp only [Act.put, List.setIfInBounds_toArray, List.set_cons_zero, List.set_cons_succ]) | (refine wpList_buildTo (by rfl) 31 _ (by rfl) _ rfl (suC su0) (by exact built_sup0) ?_; simp only [Act.put, List.setIfInBounds_toArray, List.set_cons_zero, List.set_cons_succ]) | (refine wpList_store_row (by rfl) 31 _ _ (by rfl) (w.heap.size + 1) (suC (su0)) (by rfl) (by rfl) 31 (_) (by exact a1) (sizeSup.trans (by rw [suC_size])) (by simp only [suC_size]) (suC_all _) ?_; simp only [Act.put, List.setIfInBounds_toArray, List.set_cons_zero, List.set_cons_succ]) | (refine wpList_load_rowg (by rfl) 31 _ (by rfl) (g) (by rfl) 31 (suC (X)) (0, 0) _ (by exact a2) Try.underlying31 (by rfl) (sizeSup.trans (by rw [suC_size])) ?_; simp only [Act.put, List.setIfInBounds_toArray, List.set_cons_zero, List.set_cons_succ]) | (refine wpList_store_row (by rfl) 31 _ _ (by rfl) (w.heap.size + 1) (suC (X)) (by rfl) (by rfl) 31 (_) (by exact a1) (sizeSup.trans (by rw [suC_size])) (by simp only [suC_size]) (suC_all _) ?_; simp only [Act.put, List.setIfInBounds_toArray, List.set_cons_zero, List.set_cons_succ]) | fail)
  try simp only [Exit.inBlock, Exit.then]
  refine bodyPost_ret (results_row2 Try.results11 _ _ (w.heap.size + 1) 31 (suC X) (0, 0) _ rfl (a1.set _) Try.underlying31 rfl (sizeSup.trans (by rw [suC_size]))) rfl ?_
  exact ⟨rfl, below_setRow hb8 (Nat.le_succ _) _⟩
theorem sdecode_any (f : Nat → Nat) (hf : ∀ i, f i < 256) (w : World) : Calls Try.prog 11 #[bkV f] w fun e w' => e = .returned (.tuple #[.agg (suC (sdV f)), .int .i64 (sdE f)]) ∧ Below w.heap.size w w' := by
  by_cases hc : sck (prR f) = true
  · by_cases hs : bkSame (suB (prR f)) f
    · have e : sdOk f = true := by unfold sdOk; rw [hc, decide_eq_true hs]; rfl
      unfold sdV sdE
      rw [if_pos e, if_pos e]
      exact sdecode_ok f hf hc hs w
    · have e : ¬ sdOk f = true := by unfold sdOk; rw [hc, decide_eq_false hs]; simp
      unfold sdV sdE
      rw [if_neg e, if_neg e]
      exact sdecode_un f hf hc hs w
  · have hc' : sck (prR f) = false := Bool.eq_false_iff.2 hc
    have e : ¬ sdOk f = true := by unfold sdOk; rw [hc']; simp
    unfold sdV sdE
    rw [if_neg e, if_neg e]
    exact sdecode_no f hf hc' w
set_option maxRecDepth 100000 in
set_option maxHeartbeats 4000000 in
theorem awake20_any (w : World) : Calls Try.prog 6 #[] w fun e w' => e = .returned (.bool true) ∧ w' = w := by
  have H : Hid (∀ w : World, Calls Try.prog 14 #[.int .i64 8192] w fun e w' => e = .returned (.tuple #[.int .i64 8, .int .i64 0]) ∧ w' = w) := mapLeaves_any 8192
  go_enter Try.func6, Try.ntmps6
  go_wp2_with fail
  refine (H.out _).mono ?_
  rintro e w2 ⟨rfl, rfl⟩
  go_wp2_with fail
  go_ret
  exact ⟨rfl, rfl⟩
end Go.Proofs.Ytalnfphlhcojcaa
