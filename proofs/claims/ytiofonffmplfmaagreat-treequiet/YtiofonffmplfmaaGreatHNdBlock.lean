/- A node's block: the program's contract of Block. -/
import Derived.Test.YtiofonffmplfmaaGreatHCaGet2
import Derived.Handy
import Derived.Test.YtiofonffmplfmaaGreatChecked
import Derived.Test.YtiofonffmplfmaaGreatHNdTake
import Derived.WalkKit
import Derived.Laws.MakeOwn
import Derived.Maps.AppendAt
import Derived.Test.YtiofonffmplfmaaGreatHSegsTree

namespace Go.Proofs.YtiofonffmplfmaaGreat
open Go Go.RowKit
set_option linter.unusedSimpArgs false
set_option linter.unusedVariables false

/-- a block of the disk -/
def blkAt (F : Nat → Nat) (a : Nat) : Nat → Nat := fun j => F (a * 256 + j)
/-- is what a reference says there? -/
def gotOk (F : Nat → Nat) (N : Nat) (k : Rf) : Prop := k.1 ≠ 0 ∧ k.1 < N ∧ dgB (blkAt F k.1) = k.2
instance (F : Nat → Nat) (N : Nat) (k : Rf) : Decidable (gotOk F N k) := by unfold gotOk; infer_instance
def gotF (F : Nat → Nat) (N : Nat) (k : Rf) : Nat → Nat := if k ≠ rf0 ∧ gotOk F N k then blkAt F k.1 else fun _ => 0
def gotE (F : Nat → Nat) (N : Nat) (k : Rf) : Int := if k = rf0 ∨ gotOk F N k then 0 else 2
/-- entries that say what the disk says -/
def ValidL (F : Nat → Nat) (N : Nat) (L : List En) : Prop := ∀ e ∈ L, e.k ≠ rf0 ∧ gotOk F N e.k ∧ e.f = blkAt F e.k.1
/-- a disk and a cache, behind i calls at most; U: their blocks -/
structure TD (W : World) (B g N : Nat) (F : Nat → Nat) (c m room i : Nat) (U : Nat → Prop) : Prop where
  ex : ∃ q kk lg h r bd cn L, CD W B g N F kk lg q c m room h r bd cn L ∧ Quiet q kk ∧ kk ≤ i ∧ lg ≤ i ∧ (0 ≤ h ∧ h ≤ (i : Int)) ∧ (0 ≤ r ∧ r ≤ (i : Int)) ∧ (0 ≤ bd ∧ bd ≤ (i : Int)) ∧ ValidL F N L ∧ ∀ x, U x ↔ cdfo g N q c m L x
  nz : 0 < N
  nN : N ≤ 8192
  rm : room ≤ 4096
  hB : B ≤ W.heap.size
section
variable {W W' : World} {B g N c m room i : Nat} {F : Nat → Nat} {U : Nat → Prop}
theorem TD.below (H : TD W B g N F c m room i U) (hb : Below W.heap.size W W') : TD W' B g N F c m room i U := by
  obtain ⟨q, kk, lg, h, r, bd, cn, L, h1, h2⟩ := H.ex
  exact ⟨⟨q, kk, lg, h, r, bd, cn, L, h1.below hb, h2⟩, H.nz, H.nN, H.rm, Nat.le_trans H.hB hb.size⟩
theorem TD.kept (H : TD W B g N F c m room i U) (hs : W.heap.size ≤ W'.heap.size) (hk : ∀ x, U x → W'.heap[x]? = W.heap[x]?) : TD W' B g N F c m room i U := by
  obtain ⟨q, kk, lg, h, r, bd, cn, L, h1, h2, h3, h4, h5, h6, h7, h8, h9⟩ := H.ex
  exact ⟨⟨q, kk, lg, h, r, bd, cn, L, h1.kept fun x hx => hk x ((h9 x).2 hx), h2, h3, h4, h5, h6, h7, h8, h9⟩, H.nz, H.nN, H.rm, Nat.le_trans H.hB hs⟩
theorem TD.lt (H : TD W B g N F c m room i U) (x : Nat) (hx : U x) : B ≤ x ∧ x < W.heap.size := by
  obtain ⟨q, kk, lg, h, r, bd, cn, L, h1, h2, h3, h4, h5, h6, h7, h8, h9⟩ := H.ex
  exact h1.lt x ((h9 x).1 hx)
theorem TD.mono (H : TD W B g N F c m room i U) {j : Nat} (hj : i ≤ j) : TD W B g N F c m room j U := by
  obtain ⟨q, kk, lg, h, r, bd, cn, L, h1, h2, h3, h4, h5, h6, h7, h8, h9⟩ := H.ex
  exact ⟨⟨q, kk, lg, h, r, bd, cn, L, h1, h2, by omega, by omega, by omega, by omega, by omega, h8, h9⟩, H.nz, H.nN, H.rm, H.hB⟩
/-- what a call does to them -/
def TDStep (W W' : World) (B g N : Nat) (F : Nat → Nat) (c m room i : Nat) (U : Nat → Prop) : Prop := ∃ U', TD W' B g N F c m room i U' ∧ Turns U W W' ∧ ∀ x, U' x → U x ∨ W.heap.size ≤ x
theorem TDStep.of_below (H : TD W B g N F c m room i U) (hb : Below W.heap.size W W') : TDStep W W' B g N F c m room i U := ⟨U, H.below hb, .of_below hb, fun _ => .inl⟩
theorem TDStep.trans {W1 W2 W3 : World} {i j : Nat} {U V : Nat → Prop} (ht : Turns U W1 W2) (hv : ∀ x, V x → U x ∨ W1.heap.size ≤ x) (h : TDStep W2 W3 B g N F c m room j V) : TDStep W1 W3 B g N F c m room j U := by
  obtain ⟨V', h1, h2, h3⟩ := h
  refine ⟨V', h1, ht.trans h2 hv, fun x hx => ?_⟩
  rcases h3 x hx with h | h
  · exact hv x h
  · exact .inr (Nat.le_trans ht.size h)
set_option maxHeartbeats 1000000 in
theorem get_td (k : Rf) (hk : k.1 < 4294967296) (hi : i < 68719476736) (W : World) (H : TD W B g N F c m room i U) : Calls Tryz.prog 32 #[.pointer (some ⟨c, 0, none⟩), .agg (rfC k)] W fun x W' => x = .returned (.tuple #[.agg (va 256 (iv .u8 (gotF F N k))), .int .i64 (gotE F N k)]) ∧ TDStep W W' B g N F c m room (i + 1) U := by
  by_cases hk0 : k = rf0
  · subst hk0
    refine (get_none _ W).mono ?_
    rintro x W' ⟨rfl, hb⟩
    refine ⟨?_, .of_below (H.mono (Nat.le_succ _)) hb⟩
    rw [show gotF F N rf0 = fun _ => 0 from if_neg (by simp), show gotE F N rf0 = 0 from if_pos (.inl rfl)]
  · obtain ⟨q, kk, lg, h, r, bd, cn, L, h1, h2, h3, h4, h5, h6, h7, h8, h9⟩ := H.ex
    have hturn : ∀ {W' : World}, Turns (cdfo g N q c m L) W W' → Turns U W W' := fun ht => ht.mono fun x hx => (h9 x).2 hx
    by_cases hin : ∃ e ∈ L, e.k = k
    · obtain ⟨e, he, hek⟩ := hin
      obtain ⟨n, hn⟩ := List.mem_iff_getElem?.1 he
      have hv := h8 e he
      refine (get_hit hn hek hk0 ⟨h5.1, by omega⟩ W h1.ca).mono ?_
      rintro x W' ⟨rfl, hc, ht⟩
      have hfo : ∀ x, cafo c m (L.eraseIdx n ++ [e]) x ↔ cafo c m L x := fun x => by
        constructor
        · rintro ((hz | ⟨y, hy, hz⟩) | hz)
          · exact .inl (.inl hz)
          · exact .inl (.inr ⟨y, (mem_moved hn y).1 hy, hz⟩)
          · exact .inr hz
        · rintro ((hz | ⟨y, hy, hz⟩) | hz)
          · exact .inl (.inl hz)
          · exact .inl (.inr ⟨y, (mem_moved hn y).2 hy, hz⟩)
          · exact .inr hz
      have hd : DiskQ W' B g N F kk lg q := h1.d.kept fun z hz => ht.block z (h1.d.foots z hz).2 fun u => h1.ap z u hz
      refine ⟨?_, U, ⟨⟨q, kk, lg, h + 1, r, bd, cn, L.eraseIdx n ++ [e], ⟨hd, hc, fun x hx => h1.ap x ((hfo x).1 hx), fun x hx => h1.lo x ((hfo x).1 hx)⟩, h2, by omega, by omega, by omega, by omega, by omega, fun y hy => h8 y ((mem_moved hn y).1 hy), fun x => (h9 x).trans ⟨fun u => u.imp id (hfo x).2, fun u => u.imp id (hfo x).1⟩⟩, H.nz, H.nN, H.rm, Nat.le_trans H.hB ht.size⟩, hturn (ht.mono fun x hx => .inr hx), fun x hx => .inl hx⟩
      rw [hek] at hv
      rw [show gotF F N k = blkAt F k.1 from if_pos ⟨hk0, hv.2.1⟩, show gotE F N k = 0 from if_pos (.inr hv.2.1), hv.2.2]
    · have hno : ∀ e ∈ L, e.k ≠ k := fun e he hek => hin ⟨e, he, hek⟩
      by_cases hbk : k.1 ≠ 0 ∧ k.1 < N
      · by_cases hdg : dgB (blkAt F k.1) = k.2
        · have hok : gotOk F N k := ⟨hbk.1, hbk.2, hdg⟩
          obtain ⟨L1, hp⟩ := putL_any L k
          refine (get_rgood hbk.1 hbk.2 H.nN (by omega) (by omega) h2 (blkAt F k.1) rfl hdg ⟨h6.1, by omega⟩ ⟨h7.1, by omega⟩ H.rm hp hno hk0 W H.hB h1).mono ?_
          rintro x W' ⟨rfl, q', b, hb, hcd, hq', ht, hsub⟩
          refine ⟨?_, _, ⟨⟨q', kk + 1, lg + 1, h, r + 1, bd, cn, _, hcd, hq', by omega, by omega, by omega, by omega, by omega, fun y hy => ?_, fun x => Iff.rfl⟩, H.nz, H.nN, H.rm, Nat.le_trans H.hB ht.size⟩, hturn ht, fun x hx => (hsub x hx).imp (h9 x).2 id⟩
          · rw [show gotF F N k = blkAt F k.1 from if_pos ⟨hk0, hok⟩, show gotE F N k = 0 from if_pos (.inr hok)]
          · rcases List.mem_append.1 (List.mem_of_mem_drop hy) with h | h
            · exact h8 y (hp.sub h)
            · have := List.mem_singleton.1 h
              subst this
              exact ⟨hk0, hok, rfl⟩
        · have hok : ¬ gotOk F N k := fun u => hdg u.2.2
          refine (get_rbad hbk.1 hbk.2 H.nN (by omega) (by omega) h2 (blkAt F k.1) rfl hdg ⟨h6.1, by omega⟩ ⟨h7.1, by omega⟩ hno hk0 W H.hB h1).mono ?_
          rintro x W' ⟨rfl, q', hcd, hq', ht, hsub⟩
          refine ⟨?_, _, ⟨⟨q', kk + 1, lg + 1, h, r + 1, bd + 1, cn, _, hcd, hq', by omega, by omega, by omega, by omega, by omega, h8, fun x => Iff.rfl⟩, H.nz, H.nN, H.rm, Nat.le_trans H.hB ht.size⟩, hturn ht, fun x hx => (hsub x hx).imp (h9 x).2 id⟩
          rw [show gotF F N k = fun _ => 0 from if_neg fun u => hok u.2, show gotE F N k = 2 from if_neg fun u => u.elim hk0 hok]
      · have hok : ¬ gotOk F N k := fun u => hbk ⟨u.1, u.2.1⟩
        have hML : ∀ w : World, Blk w c 133 (caC (some ⟨g, 0, none⟩) none (room : Int) m (headOf L) (lastOf L) h r bd cn) → DiskQ w B g N F kk lg q → Calls Tryz.prog 72 #[.pointer (some ⟨c, 0, none⟩), .int .u32 (k.1 : Int)] w fun e w' => e = .returned (.bool false) ∧ w = w' := fun w a b => by
          by_cases h0 : k.1 = 0
          · rw [h0]
            exact mayLie_zero H.nz H.nN w a b
          · exact mayLie_big k.1 (by omega) hk H.nz H.nN w a b
        refine (get_noBlock hML hno hk0 W H.hB h1).mono ?_
        rintro x W' ⟨rfl, hcd, ht⟩
        refine ⟨?_, U, ⟨⟨q, kk, lg, h, r, bd, cn, _, hcd, h2, by omega, by omega, by omega, by omega, by omega, h8, h9⟩, H.nz, H.nN, H.rm, Nat.le_trans H.hB ht.size⟩, hturn ht, fun x hx => .inl hx⟩
        rw [show gotF F N k = fun _ => 0 from if_neg fun u => hok u.2, show gotE F N k = 2 from if_neg fun u => u.elim hk0 hok]
end
end Go.Proofs.YtiofonffmplfmaaGreat

namespace Go.Proofs.YtiofonffmplfmaaGreat
open Go Go.RowKit
set_option linter.unusedSimpArgs false
set_option linter.unusedVariables false

theorem and3 (z : Nat) (hz : z < 9223372036854775808) : bits .and .i64 (z : Int) 3 = ((z % 4 : Nat) : Int) := by
  have h1 : (BitVec.ofInt 64 (z : Int)).toNat = z := by
    rw [BitVec.ofInt_natCast, BitVec.toNat_ofNat]; exact Nat.mod_eq_of_lt (by omega)
  have h2 : (BitVec.ofInt 64 (3 : Int)).toNat = 3 := by decide
  show IntKind.i64.wrap ((BitVec.ofInt 64 (z : Int) &&& BitVec.ofInt 64 (3 : Int)).toNat : Int) = _
  rw [BitVec.toNat_and, h1, h2, Nat.and_two_pow_sub_one_eq_mod z 2, IntKind.wrap_i64]
  omega
theorem pow4_le (h : Nat) (hh : h ≤ 6) : 4 ^ h ≤ 4096 := Nat.pow_le_pow_right (n := 4) (by decide) hh
theorem pow4_pos (h : Nat) : 1 ≤ 4 ^ h := Nat.pow_pos (n := h) (by decide : 0 < 4)
/-- the least height -/
def hgt (n : Nat) : Nat := if n ≤ 1 then 0 else if n ≤ 4 then 1 else if n ≤ 16 then 2 else if n ≤ 64 then 3 else if n ≤ 256 then 4 else if n ≤ 1024 then 5 else 6
theorem mayBe_yes (h : Nat) (hh : h ≤ 6) (w : World) : Calls Tryz.prog 46 #[.int .i64 (h : Int)] w fun e w' => e = .returned (.bool true) ∧ w = w' := by
  have hd : decide ((h : Int) ≤ 6) = true := decide_eq_true (by omega)
  go_enter Tryz.func46, Tryz.ntmps46
  go_wp2
  go_ret
  exact ⟨rfl, rfl⟩
theorem mayBe_no (h : Int) (hh : h < 0 ∨ 6 < h) (w : World) : Calls Tryz.prog 46 #[.int .i64 h] w fun e w' => e = .returned (.bool false) ∧ w = w' := by
  go_enter Tryz.func46, Tryz.ntmps46
  rcases hh with hh | hh
  · go_wp2
    go_ret
    exact ⟨rfl, rfl⟩
  · have h0 : 0 ≤ h := by omega
    have hd : decide (h ≤ 6) = false := decide_eq_false (by omega)
    go_wp2
    go_ret
    exact ⟨rfl, rfl⟩
theorem wrap_pow4 (p h : Nat) (hp : p * 4 ^ h < 9223372036854775808) : wrap64 ((p : Int) * 2 ^ (2 * h)) = ((p * 4 ^ h : Nat) : Int) := by
  have e : ((p : Int) * 2 ^ (2 * h)) = ((p * 4 ^ h : Nat) : Int) := by
    rw [show (4 : Nat) ^ h = 2 ^ (2 * h) by rw [Nat.pow_mul]]
    push_cast
    rfl
  rw [e, ← IntWalk.i64_left, IntKind.wrap_i64]
  omega
theorem firstLeaf_any (h p c : Nat) (hh : h ≤ 6) (hc : p * 4 ^ h = c) (hp : p < 1099511627776) (w : World) : Calls Tryz.prog 47 #[.int .i64 (h : Int), .int .i64 (p : Int)] w fun e w' => e = .returned (.int .i64 (c : Int)) ∧ w = w' := by
  have hq : p * 4 ^ h < 9223372036854775808 := by
    have h1 := pow4_le h hh
    have h2 := Nat.mul_le_mul (Nat.le_of_lt hp) h1
    omega
  have h1 : (h : Int) ≤ 6 := by omega
  go_enter Tryz.func47, Tryz.ntmps47
  go_wp2
  go_ret
  refine ⟨congrArg (fun x => Ending.returned (.int .i64 x)) ?_, rfl⟩
  rw [← hc]
  exact wrap_pow4 p h hq
theorem capacity_ok (h c : Nat) (hh : h ≤ 6) (hc : 4 ^ h = c) (w : World) : Calls Tryz.prog 26 #[.int .i64 (h : Int)] w fun e w' => e = .returned (.tuple #[.int .i64 (c : Int), .int .i64 0]) ∧ w = w' := by
  go_enter Tryz.func26, Tryz.ntmps26
  go_wp2_with fail
  refine (mayBe_yes h hh w).mono ?_
  rintro e _ ⟨rfl, rfl⟩
  go_wp2_with fail
  refine (firstLeaf_any h 1 c hh (by omega) (by decide) w).mono ?_
  rintro e _ ⟨rfl, rfl⟩
  go_wp2_with fail
  go_ret2
  exact ⟨rfl, rfl⟩
theorem refCap_any (h c : Nat) (hh : h ≤ 6) (hc : 4 ^ h = c) (w : World) : Calls Tryz.prog 11 #[.int .i64 (h : Int)] w fun e w' => e = .returned (.int .i64 (c : Int)) ∧ w = w' := by
  go_enter Tryz.func11, Tryz.ntmps11
  go_wp2_with fail
  go_loopw [3, 4] (fun n i wr => ∃ k b : Nat, k ≤ h ∧ i = .int .i64 (k : Int) ∧ n = .int .i64 (b : Int) ∧ 4 ^ k = b ∧ w = wr) (fun _ i _ => h - (intOf i).toNat)
  case atStart => exact ⟨0, 1, by omega, rfl, rfl, rfl, rfl⟩
  case round =>
    obtain ⟨k, b, hk, rfl, rfl, hb, rfl⟩ := hrel
    have h4 : b ≤ 4096 := hb ▸ pow4_le k (by omega)
    by_cases hlt : k < h
    · go_wp2_with fail
      go_roundw
      case rel => exact ⟨k + 1, b * 4, hlt, by congr 1, by congr 1, by rw [Nat.pow_succ, hb], by trivial⟩
      case measure =>
        simp only [intOf]
        omega
    · have hkh : k = h := by omega
      subst hkh
      have hbc : b = c := by omega
      subst hbc
      go_wp2_with fail
      go_ret
      exact ⟨rfl, rfl⟩
/-- the place at step i of a way -/
def wayN (h p : Nat) : Nat → Nat := fun i => p / 4 ^ (h - 1 - i) % 4
theorem wayN_lt (h p i : Nat) : wayN h p i < 4 := Nat.mod_lt _ (by decide)
theorem tinfoInt : (Tryz.prog.info? 3).map (fun i => (i.zero, i.size, i.bytes)) = some (some (.int .i64 0), 1, 8) := by kernel_rfl
theorem tinfo_parts {t : TypeId} {z : Value} {n b : Nat} (h : (Tryz.prog.info? t).map (fun i => (i.zero, i.size, i.bytes)) = some (some z, n, b)) : ∃ i, Tryz.prog.info? t = some i ∧ i.zero = some z ∧ i.size = n ∧ i.bytes = b := by
  cases hq : Tryz.prog.info? t with
  | none => simp [hq] at h
  | some i =>
    simp [hq] at h
    exact ⟨i, rfl, h.1, h.2.1, h.2.2⟩
theorem tmade_one (v : Value) (n : Nat) : madeCells #[v] n = va n fun _ => v := by
  refine va_ext (size_madeCells _ _) fun i hi => ?_
  unfold madeCells
  simp [hi, Nat.mod_one]
theorem tmake_ints (n : Nat) (hn : n ≤ 8192) (w : World) : (Instr.makeSlice 23 (.int .i64 (n : Int)) (.int .i64 (n : Int))).run Tryz.prog w = .ok (.slice (some ⟨w.heap.size, 0, none⟩) n n) (w.alloc (.cells (va n (iv .i64 fun _ => 0)) 3)) := by
  obtain ⟨i0, hi, hz0, hz1, hz2⟩ := tinfo_parts tinfoInt
  have := run_make (P := Tryz.prog) w 23 3 i0 (.int .i64 0) Tryz.underlying23 hi hz0 .i64 .i64 (n : Int) (n : Int) (by omega) (Int.le_refl _) (by rw [hz2]; omega) (by omega)
  rw [hz1] at this
  simp only [Int.toNat_natCast, Value.cells, tmade_one, Nat.mul_one] at this
  exact this
theorem shr_way (p k : Nat) : (p : Int) / 2 ^ (2 * k) = ((p / 4 ^ k : Nat) : Int) := by
  rw [show (4 : Nat) ^ k = 2 ^ (2 * k) by rw [Nat.pow_mul]]
  push_cast
  rfl
set_option maxHeartbeats 1000000 in
theorem way_ok (h p : Nat) (hh : h ≤ 6) (hp : p < 4 ^ h) (w : World) : Calls Tryz.prog 25 #[.int .i64 (h : Int), .int .i64 (p : Int)] w fun e w' => e = .returned (.tuple #[.slice (some ⟨w.heap.size, 0, none⟩) h h, .int .i64 0]) ∧ Blk w' w.heap.size 3 (va h (iv .i64 (wayN h p))) ∧ Below w.heap.size w w' := by
  obtain ⟨c, hc⟩ : ∃ c, 4 ^ h = c := ⟨_, rfl⟩
  have hc4 : c ≤ 4096 := hc ▸ pow4_le h hh
  rw [hc] at hp
  have hmk := tmake_ints h (by omega)
  have h6 : (h : Int) ≤ 6 := by omega
  have hd1 : decide ((p : Int) < 0) = false := decide_eq_false (by omega)
  have hd2 : decide (c ≤ p) = false := decide_eq_false (by omega)
  have HC : Hid (4 ^ h = c) := hc
  clear hc
  go_enter Tryz.func25, Tryz.ntmps25
  go_wp2_with fail
  refine (capacity_ok h c hh HC.out w).mono ?_
  rintro e _ ⟨rfl, rfl⟩
  go_wp2_with fail
  have b0 := Blk.new w 3 (va h (iv .i64 fun _ => 0))
  have hb0 : Below w.heap.size w (w.alloc (.cells (va h (iv .i64 fun _ => 0)) 3)) := (Below.refl _ _).alloc (Nat.le_refl _) _
  generalize (w.alloc (.cells (va h (iv .i64 fun _ => 0)) 3)) = w1 at *
  go_loopw [29] (fun i wr => ∃ k : Nat, k ≤ h ∧ i = .int .i64 (k : Int) ∧ Blk wr w.heap.size 3 (va h (iv .i64 (fupN k (wayN h p) fun _ => 0))) ∧ Below w.heap.size w wr) (fun i _ => h - (intOf i).toNat)
  case atStart => exact ⟨0, Nat.zero_le _, rfl, by rw [fup_zero]; exact b0, hb0⟩
  case round =>
    clear b0 hb0
    obtain ⟨k, hk, rfl, bk, hb⟩ := hrel
    by_cases hlt : k < h
    · have hfz := bk.frozen k
      have hcv := bk.cv hlt
      obtain ⟨l, hl⟩ : ∃ l : Nat, l = h - 1 - k := ⟨_, rfl⟩
      have hl1 : (h : Int) - 1 - (k : Int) = (l : Int) := by omega
      have hl6 : (l : Int) ≤ 6 := by omega
      have hv : bits .and .i64 ((p : Int) / 2 ^ (2 * (h - 1 - k))) 3 = ((wayN h p k : Nat) : Int) := by
        rw [shr_way, and3 _ (Nat.lt_of_le_of_lt (Nat.div_le_self _ _) (by omega))]
        rfl
      have bk1 := bk.put k (.int .i64 (wayN h p k : Int))
      rw [va_set, fup_step] at bk1
      go_wp2_with fail
      refine ⟨⟨k + 1, hlt, rfl, bk1, hb.setCell (p := ⟨w.heap.size, k, none⟩) (Nat.le_refl _) _⟩, ?_⟩
      simp only [intOf]
      omega
    · have hkh : k = h := by omega
      subst hkh
      go_wp2_with fail
      go_ret2
      refine ⟨rfl, ?_, hb⟩
      rw [fup_all _ _ _ _ _ (Nat.le_refl _)] at bk
      exact bk
theorem way_place (h : Nat) (p : Int) (hh : h ≤ 6) (hp : p < 0 ∨ ((4 ^ h : Nat) : Int) ≤ p) (w : World) : Calls Tryz.prog 25 #[.int .i64 (h : Int), .int .i64 p] w fun e w' => e = .returned (.tuple #[.slice none 0 0, .int .i64 90]) ∧ w = w' := by
  obtain ⟨c, hc⟩ : ∃ c, 4 ^ h = c := ⟨_, rfl⟩
  rw [hc] at hp
  have HC : Hid (4 ^ h = c) := hc
  clear hc
  go_enter Tryz.func25, Tryz.ntmps25
  go_wp2_with fail
  refine (capacity_ok h c hh HC.out w).mono ?_
  rintro e _ ⟨rfl, rfl⟩
  by_cases hp0 : p < 0
  · have hd1 : decide (p < 0) = true := decide_eq_true hp0
    go_wp2_with fail
    go_ret2
    exact ⟨rfl, rfl⟩
  · have hd1 : decide (p < 0) = false := decide_eq_false hp0
    have hp1 : (c : Int) ≤ p := by omega
    have hd2 : decide ((c : Int) ≤ p) = true := decide_eq_true hp1
    clear hp
    go_wp2_with fail
    go_ret2
    exact ⟨rfl, rfl⟩
end Go.Proofs.YtiofonffmplfmaaGreat

namespace Go.Proofs.YtiofonffmplfmaaGreat
open Go Go.RowKit
set_option linter.unusedSimpArgs false
set_option linter.unusedVariables false

/-- a node's block, byte by byte -/
def nodeB (l : Nat) (K : Nat → Rf) : Nat → Nat := fun j => if j < 8 then (if j = 0 then 110 else if j = 1 then 111 else if j = 2 then 100 else if j = 3 then 101 else if j = 4 then l else 0) else if j < 152 then encR (K ((j - 8) / 36)) ((j - 8) % 36) else 0
theorem nodeB_lt (l : Nat) (hl : l < 256) (K : Nat → Rf) (hK : ∀ i, i < 4 → okD (K i).2) (j : Nat) : nodeB l K j < 256 := by
  unfold nodeB
  split
  · repeat' split
    all_goals omega
  · split
    · exact encR_lt _ (hK _ (by omega)) _ (Nat.mod_lt _ (by decide))
    · omega
theorem nodeB_kid (l : Nat) (K : Nat → Rf) (i j : Nat) (hi : i < 4) (hj : j < 36) : nodeB l K (8 + 36 * i + j) = encR (K i) j := by
  unfold nodeB
  rw [if_neg (by omega), if_pos (by omega), show (8 + 36 * i + j - 8) / 36 = i by omega, show (8 + 36 * i + j - 8) % 36 = j by omega]
theorem nodeB_head (l : Nat) (h1 : 1 ≤ l) (h6 : l ≤ 6) (K : Nat → Rf) : ((⟨#[110, 111, 100, 101]⟩ : ByteArray) ++ strN (fun _ => l) 1) ++ (⟨#[0, 0, 0]⟩ : ByteArray) = strN (nodeB l K) 8 := by
  have h : l = 1 ∨ l = 2 ∨ l = 3 ∨ l = 4 ∨ l = 5 ∨ l = 6 := by omega
  rcases h with rfl | rfl | rfl | rfl | rfl | rfl <;> rfl
theorem nodeB_step (l : Nat) (hl : l < 256) (K : Nat → Rf) (hK : ∀ i, i < 4 → okD (K i).2) (k : Nat) (hk : k < 4) : strN (nodeB l K) (8 + 36 * k) ++ strN (encR (K k)) 36 = strN (nodeB l K) (8 + 36 * (k + 1)) := by
  have e := strN_append (nodeB l K) (8 + 36 * k) 36 fun j _ => nodeB_lt l hl K hK j
  rw [strN_congr (f := fun j => nodeB l K (8 + 36 * k + j)) (g := encR (K k)) fun j hj => nodeB_kid l K k j hk hj] at e
  rw [e]
  congr 1
theorem run_index_kid (t te : TypeId) (ht : Tryz.prog.underlying t = some (.array 4 te)) (u : TypeDesc) (hu : Tryz.prog.underlying te = some u) (hd : u.isRow = true) (hs : (Tryz.prog.info? te).map (·.size) = some 33) (K : Nat → Rf) (k : Nat) (hk : k < 4) (w : World) : (Instr.index t (.agg (kdC K)) (.int .i64 (k : Int))).run Tryz.prog w = .ok (.agg (rfC (K k))) w := by
  have hp := part_agg te 33 u hu hd hs (kdC K) (rfC (K k)) (k * 33) (kd_extract K k hk) w
  have hz := size_at te 33 hs w
  have h1 : (k : Int) < 4 := by omega
  simp [Instr.index, asIntOf, run_underlying ht, h1, hz, hp]
  intro h
  omega
set_option maxRecDepth 100000 in
set_option maxHeartbeats 4000000 in
theorem block_level (l : Int) (hl : l < 1 ∨ 6 < l) (K : Nat → Rf) (w : World) : Calls Tryz.prog 85 #[.agg (ndC l K)] w fun e w' => e = .returned (.tuple #[bkV fun _ => 0, .int .i64 1]) ∧ Below w.heap.size w w' := by
  unfold bkV
  have hz := zero_bk
  have hz8 := zero_ref
  have r0 : Blk ((w.alloc (.cells (ndC l K) 142)).alloc (.cells (va 256 (iv .u8 fun _ => 0)) 52)) w.heap.size 142 (va 133 (ndF l K)) := (Blk.new _ _ _).alloc _
  have r1 : Blk ((w.alloc (.cells (ndC l K) 142)).alloc (.cells (va 256 (iv .u8 fun _ => 0)) 52)) (w.heap.size + 1) 52 (va 256 (iv .u8 fun _ => 0)) := Blk.new1 _ _ _ _
  have hb : Below w.heap.size w ((w.alloc (.cells (ndC l K) 142)).alloc (.cells (va 256 (iv .u8 fun _ => 0)) 52)) := below_new2 _ _ _
  have hsz : ((w.alloc (.cells (ndC l K) 142)).alloc (.cells (va 256 (iv .u8 fun _ => 0)) 52)).heap.size = w.heap.size + 2 := by simp
  have x0 : ((w.alloc (.cells (ndC l K) 142)).alloc (.cells (va 256 (iv .u8 fun _ => 0)) 52)).cell? ⟨w.heap.size, 0, none⟩ = some (.int .i64 l) := by
    rw [r0.cell]
    exact va_at (ndF l K) (by decide)
  rcases hl with hl | hl
  · go_enter Tryz.func85, Tryz.ntmps85
    go_wp2_with (first
      | (refine wpList_store_row (by rfl) 52 _ _ (by rfl) (w.heap.size + 1) (va 256 (iv .u8 (fun _ => 0))) (by rfl) (by rfl) 52 (_) (by exact r1) (sizeBk.trans (by rw [va_size])) (by simp only [va_size]) (iv_one _ _ _) ?_; simp only [Act.put, List.setIfInBounds_toArray, List.set_cons_zero, List.set_cons_succ])
      | fail)
    try simp only [Exit.inBlock, Exit.then]
    refine bodyPost_ret (results_row2 Tryz.results85 _ _ (w.heap.size + 1) 52 (va 256 (iv .u8 (fun _ => 0))) (0, 0) _ rfl (r1.set _) Tryz.underlying52 rfl (sizeBk.trans (by rw [va_size]))) rfl ?_
    exact ⟨rfl, below_setRow hb (by omega) _⟩
  · go_enter Tryz.func85, Tryz.ntmps85
    go_wp2_with (first
      | (refine wpList_store_row (by rfl) 52 _ _ (by rfl) (w.heap.size + 1) (va 256 (iv .u8 (fun _ => 0))) (by rfl) (by rfl) 52 (_) (by exact r1) (sizeBk.trans (by rw [va_size])) (by simp only [va_size]) (iv_one _ _ _) ?_; simp only [Act.put, List.setIfInBounds_toArray, List.set_cons_zero, List.set_cons_succ])
      | fail)
    try simp only [Exit.inBlock, Exit.then]
    refine bodyPost_ret (results_row2 Tryz.results85 _ _ (w.heap.size + 1) 52 (va 256 (iv .u8 (fun _ => 0))) (0, 0) _ rfl (r1.set _) Tryz.underlying52 rfl (sizeBk.trans (by rw [va_size]))) rfl ?_
    exact ⟨rfl, below_setRow hb (by omega) _⟩
/-- what Block answers -/
def ndOk (l : Int) (K : Nat → Rf) : Bool := decide (1 ≤ l) && decide (l ≤ 6) && (List.range 4).all fun i => rOk (K i)
def blkF (l : Int) (K : Nat → Rf) : Nat → Nat := if ndOk l K then nodeB l.toNat K else fun _ => 0
set_option maxRecDepth 100000 in
set_option maxHeartbeats 4000000 in
theorem block_in (l : Nat) (h1 : 1 ≤ l) (h6 : l ≤ 6) (K : Nat → Rf) (hK : ∀ i, i < 4 → okD (K i).2) (X : Nat → Nat) (Y : Int) (HXY : Hid ((X, Y) = if ndOk l K then (nodeB l K, (0 : Int)) else (fun _ => 0, 1))) (w : World) : Calls Tryz.prog 85 #[.agg (ndC (l : Int) K)] w fun e w' => e = .returned (.tuple #[bkV X, .int .i64 Y]) ∧ Below w.heap.size w w' := by
  unfold bkV
  have hz := zero_bk
  have hz8 := zero_ref
  have r0 : Blk ((w.alloc (.cells (ndC (l : Int) K) 142)).alloc (.cells (va 256 (iv .u8 fun _ => 0)) 52)) w.heap.size 142 (va 133 (ndF (l : Int) K)) := (Blk.new _ _ _).alloc _
  have r1 : Blk ((w.alloc (.cells (ndC (l : Int) K) 142)).alloc (.cells (va 256 (iv .u8 fun _ => 0)) 52)) (w.heap.size + 1) 52 (va 256 (iv .u8 fun _ => 0)) := Blk.new1 _ _ _ _
  have hb : Below w.heap.size w ((w.alloc (.cells (ndC (l : Int) K) 142)).alloc (.cells (va 256 (iv .u8 fun _ => 0)) 52)) := below_new2 _ _ _
  have hsz : ((w.alloc (.cells (ndC (l : Int) K) 142)).alloc (.cells (va 256 (iv .u8 fun _ => 0)) 52)).heap.size = w.heap.size + 2 := by simp
  have x0 : ((w.alloc (.cells (ndC (l : Int) K) 142)).alloc (.cells (va 256 (iv .u8 fun _ => 0)) 52)).cell? ⟨w.heap.size, 0, none⟩ = some (.int .i64 (l : Int)) := by
    rw [r0.cell]
    exact va_at (ndF (l : Int) K) (by decide)
  have HKD : Hid ((((w.alloc (.cells (ndC (l : Int) K) 142)).alloc (.cells (va 256 (iv .u8 fun _ => 0)) 52)).alloc (.cells #[.int .u8 (l : Int)] 5)).rangeAt w.heap.size 1 ((List.range 132).map (kdF K))) := fun j v hv => by
    have := (r0.alloc (.cells #[.int .u8 (l : Int)] 5)).range 1 132 (by omega) j v
    refine this ?_
    rw [← hv]
    congr 1
  have hbt : ∀ W : World, True := fun _ => trivial
  have e8 : (l : Int) % 256 = l := by omega
  have hc : (convert 165 9 (.slice (some ⟨w.heap.size + 2, 0, none⟩) 1 1)).run Tryz.prog (((w.alloc (.cells (ndC (l : Int) K) 142)).alloc (.cells (va 256 (iv .u8 fun _ => 0)) 52)).alloc (.cells #[.int .u8 (l : Int)] 5)) = .ok (.string (strN (fun _ => l) 1)) (((w.alloc (.cells (ndC (l : Int) K) 142)).alloc (.cells (va 256 (iv .u8 fun _ => 0)) 52)).alloc (.cells #[.int .u8 (l : Int)] 5)) := by
    have q : Blk (((w.alloc (.cells (ndC (l : Int) K) 142)).alloc (.cells (va 256 (iv .u8 fun _ => 0)) 52)).alloc (.cells #[.int .u8 (l : Int)] 5)) (w.heap.size + 2) 5 (va 1 (iv .u8 fun _ => l)) := Blk.new2 _ _ _ _ _
    exact run_bytes_text (P := Tryz.prog) _ 165 5 9 Tryz.underlying165 Tryz.underlying5 Tryz.underlying9 q 0 1 1 (by omega)
  have hh := nodeB_head l h1 h6 K
  have z1 : (strN (fun _ => l) 1).size = 1 := strN_size _ _
  go_enter Tryz.func85, Tryz.ntmps85
  go_wp2_with (first
    | (refine wpList_load_blk (by rfl) 140 _ (by rfl) (w.heap.size) (1) 132 (kdF K) (by rfl) _ (by exact HKD.out) Tryz.underlying140 rfl sizeKid ?_; simp only [Act.put, List.setIfInBounds_toArray, List.set_cons_zero, List.set_cons_succ])
    | fail)
  clear hc
  have q1 : Blk (((w.alloc (.cells (ndC (l : Int) K) 142)).alloc (.cells (va 256 (iv .u8 fun _ => 0)) 52)).alloc (.cells #[.int .u8 (l : Int)] 5)) (w.heap.size + 1) 52 (va 256 (iv .u8 fun _ => 0)) := r1.alloc _
  have hb3 : Below w.heap.size w (((w.alloc (.cells (ndC (l : Int) K) 142)).alloc (.cells (va 256 (iv .u8 fun _ => 0)) 52)).alloc (.cells #[.int .u8 (l : Int)] 5)) := hb.alloc (by rw [hsz]; omega) _
  have hs3 : (((w.alloc (.cells (ndC (l : Int) K) 142)).alloc (.cells (va 256 (iv .u8 fun _ => 0)) 52)).alloc (.cells #[.int .u8 (l : Int)] 5)).heap.size = w.heap.size + 3 := by simp
  clear r0 r1 hb x0 HKD hsz
  generalize (((w.alloc (.cells (ndC (l : Int) K) 142)).alloc (.cells (va 256 (iv .u8 fun _ => 0)) 52)).alloc (.cells #[.int .u8 (l : Int)] 5)) = W at *
  go_loopw [4, 25] (fun t i wr => ∃ k : Nat, k ≤ 4 ∧ t = .string (strN (nodeB l K) (8 + 36 * k)) ∧ i = .int .i64 (k : Int) ∧ (∀ i, i < k → rOk (K i) = true) ∧ Blk wr (w.heap.size + 1) 52 (va 256 (iv .u8 fun _ => 0)) ∧ Below w.heap.size w wr ∧ w.heap.size + 3 ≤ wr.heap.size) (fun _ i _ => 4 - (intOf i).toNat)
  case atStart => exact ⟨0, by omega, rfl, rfl, fun i hi => absurd hi (by omega), q1, hb3, by omega⟩
  case round =>
    clear q1 hb3 hs3
    obtain ⟨k, hk, rfl, rfl, hR, q, hb, hs⟩ := hrel
    by_cases hlt : k < 4
    · have hx : ∀ W, (Instr.index 140 (.agg (va 132 (kdF K))) (.int .i64 (k : Int))).run Tryz.prog W = .ok (.agg (rfC (K k))) W := run_index_kid 140 43 Tryz.underlying140 _ Tryz.underlying43 rfl slSizeRef K k hlt
      have k1 : (k : Int) < 4 := by omega
      have HS : Hid (strN (nodeB l K) (8 + 36 * k) ++ strN (encR (K k)) 36 = strN (nodeB l K) (8 + 36 * (k + 1))) := nodeB_step l (by omega) K hK k hlt
      have s1 : (strN (nodeB l K) (8 + 36 * k)).size = 8 + 36 * k := strN_size _ _
      have s2 : (strN (encR (K k)) 36).size = 36 := strN_size _ _
      have HN : Hid (strN (nodeB l K) (8 + 36 * k) ++ strN (encR (K k)) 36 = strN (nodeB l K) (8 + 36 * (k + 1))) := HS.out
      have p1 : Blk (wr.alloc (.cells (rfC rf0) 43)) wr.heap.size 43 (rfC rf0) := Blk.new _ _ _
      have q1 : Blk (wr.alloc (.cells (rfC rf0) 43)) (w.heap.size + 1) 52 (va 256 (iv .u8 fun _ => 0)) := q.alloc _
      have hb1 : Below w.heap.size w (wr.alloc (.cells (rfC rf0) 43)) := hb.alloc (by omega) _
      have hs1 : (wr.alloc (.cells (rfC rf0) 43)).heap.size = wr.heap.size + 1 := by simp
      have HRT : Hid (∀ w, Calls Tryz.prog 67 #[.agg (rfC (K k))] w fun e w' => e = .returned (.bool (rOk (K k))) ∧ Below w.heap.size w w') := right_any (K k)
      have HEN : Hid (∀ w, Calls Tryz.prog 49 #[.agg (rfC (K k))] w fun e w' => e = .returned (.string (strN (encR (K k)) 36)) ∧ Below w.heap.size w w') := encR_any (K k) (hK k hlt)
      have HRK : Hid (∀ b, rOk (K k) = b → b = true → ∀ i, i < k + 1 → rOk (K i) = true) := fun b h1 h2 i hi => by
        rcases Nat.lt_or_ge i k with h | h
        · exact hR i h
        · rw [show i = k by omega, h1, h2]
      have HRF : Hid (rOk (K k) = false → ndOk l K = false) := fun h => by
        have : ((List.range 4).all fun i => rOk (K i)) = false := by
          rw [List.all_eq_false]
          exact ⟨k, by simpa using hlt, by simp [h]⟩
        unfold ndOk
        rw [this, Bool.and_false]
      have HRS : Hid ((rfC (K k)).size = 33) := rfC_size _
      have HRA : Hid ((rfC (K k)).all (·.oneCell') = true) := rfC_all _
      generalize hrb : rOk (K k) = b at *
      generalize strN (encR (K k)) 36 = t2 at *
      generalize strN (nodeB l K) (8 + 36 * k) = t1 at *
      generalize rfC (K k) = rc at *
      have hrs : rc.size = 33 := HRS.out
      go_wp2_with (first
        | (refine wpList_store_row (by rfl) 43 _ _ (by rfl) (wr.heap.size) (rc) (by rfl) (by rfl) 43 (rfC rf0) (by exact p1) (slSizeRef.trans (by rw [hrs])) (by rw [hrs, rfC_size]) (HRA.out) ?_; simp only [Act.put, List.setIfInBounds_toArray, List.set_cons_zero, List.set_cons_succ])
        | (refine wpList_load_rowg (by rfl) 43 _ (by rfl) (wr.heap.size) (by rfl) 43 (rc) (0, 0) _ (by exact p1.set _) Tryz.underlying43 (by rfl) (slSizeRef.trans (by rw [hrs])) ?_; simp only [Act.put, List.setIfInBounds_toArray, List.set_cons_zero, List.set_cons_succ])
        | fail)
      have p2 : Blk ((wr.alloc (.cells (rfC rf0) 43)).setRow wr.heap.size rc) wr.heap.size 43 rc := p1.set _
      have q2 : Blk ((wr.alloc (.cells (rfC rf0) 43)).setRow wr.heap.size rc) (w.heap.size + 1) 52 (va 256 (iv .u8 fun _ => 0)) := q1.other _ (by omega)
      have hb2 : Below w.heap.size w ((wr.alloc (.cells (rfC rf0) 43)).setRow wr.heap.size rc) := below_setRow hb1 (by omega) _
      have hs2 : ((wr.alloc (.cells (rfC rf0) 43)).setRow wr.heap.size rc).heap.size = wr.heap.size + 1 := by simp
      clear p1 q1 hb1 hs1
      generalize ((wr.alloc (.cells (rfC rf0) 43)).setRow wr.heap.size rc) = w2 at *
      refine (HRT.out w2).mono ?_
      rintro e w3 ⟨rfl, hb3⟩
      have hs3 := hb3.size
      have p3 : Blk w3 wr.heap.size 43 rc := p2.below hb3 (by omega)
      have q3 : Blk w3 (w.heap.size + 1) 52 (va 256 (iv .u8 fun _ => 0)) := q2.below hb3 (by omega)
      have hb4 : Below w.heap.size w w3 := hb2.trans (hb3.mono (by omega))
      clear p2 q2 hb2 hb3 HRT
      cases b
      · go_wp2_with (first
          | (refine wpList_store_row (by rfl) 52 _ _ (by rfl) (w.heap.size + 1) (va 256 (iv .u8 (fun _ => 0))) (by rfl) (by rfl) 52 (_) (by exact q3) (sizeBk.trans (by rw [va_size])) (by simp only [va_size]) (iv_one _ _ _) ?_; simp only [Act.put, List.setIfInBounds_toArray, List.set_cons_zero, List.set_cons_succ])
          | fail)
        try simp only [Exit.inBlock, Exit.then]
        refine bodyPost_ret (results_row2 Tryz.results85 _ _ (w.heap.size + 1) 52 (va 256 (iv .u8 fun _ => 0)) (0, 0) _ rfl (q3.set _) Tryz.underlying52 rfl (sizeBk.trans (by rw [va_size]))) rfl ?_
        have e : ndOk (l : Int) K = false := HRF.out (by first | rfl | trivial)
        refine ⟨?_, below_setRow hb4 (by omega) _⟩
        have hxy := HXY.out
        rw [e] at hxy
        injection hxy with hx hy
        subst hx hy
        rfl
      · go_wp2_with (first
          | (refine wpList_load_rowg (by rfl) 43 _ (by rfl) (wr.heap.size) (by rfl) 43 (rc) (0, 0) _ (by exact p3) Tryz.underlying43 (by rfl) (slSizeRef.trans (by rw [hrs])) ?_; simp only [Act.put, List.setIfInBounds_toArray, List.set_cons_zero, List.set_cons_succ])
          | fail)
        refine (HEN.out w3).mono ?_
        rintro e w4 ⟨rfl, hb5⟩
        have hs5 := hb5.size
        have q4 : Blk w4 (w.heap.size + 1) 52 (va 256 (iv .u8 fun _ => 0)) := q3.below hb5 (by omega)
        have hb6 : Below w.heap.size w w4 := hb4.trans (hb5.mono (by omega))
        clear p3 q3 hb4 hb5 HEN
        go_wp2_with fail
        go_roundw
        case rel => exact ⟨k + 1, by omega, by rw [← HS.out], by simp, HRK.out true rfl rfl, q4, hb6, by omega⟩
        case measure => simp [intOf]; omega
    · have e : k = 4 := by omega
      subst e
      have HO : Hid (ndOk l K = true) := by
        show ndOk l K = true
        unfold ndOk
        rw [Bool.and_eq_true, Bool.and_eq_true, decide_eq_true_eq, decide_eq_true_eq, List.all_eq_true]
        exact ⟨⟨by omega, by omega⟩, fun i hi => hR i (by simpa using hi)⟩
      have HF : Hid (∀ w, Calls Tryz.prog 94 #[.string (strN (nodeB l K) (8 + 36 * 4))] w fun e w' => e = .returned (.tuple #[.agg (va 256 (iv .u8 (nodeB l K))), .int .i64 0]) ∧ Below w.heap.size w w') := fun w => by
        have hsz : (strN (nodeB l K) (8 + 36 * 4)).size = 152 := strN_size _ _
        have := blockOf_fit (strN (nodeB l K) (8 + 36 * 4)) (by omega) w
        have e : bkV (tbyte (strN (nodeB l K) (8 + 36 * 4))) = .agg (va 256 (iv .u8 (nodeB l K))) := bkV_congr fun i hi => by
          by_cases h : i < 152
          · exact strN_at _ _ i h (nodeB_lt l (by omega) K hK i)
          · rw [tbyte_out _ _ (by omega)]
            unfold nodeB
            rw [if_neg (by omega), if_neg h]
        rw [e] at this
        exact this
      generalize strN (nodeB l K) (8 + 36 * 4) = t1 at *
      go_wp2_with fail
      refine (HF.out wr).mono ?_
      rintro e w4 ⟨rfl, hb5⟩
      have q4 : Blk w4 (w.heap.size + 1) 52 (va 256 (iv .u8 fun _ => 0)) := q.below hb5 (by omega)
      have hb6 : Below w.heap.size w w4 := hb.trans (hb5.mono (by omega))
      go_wp2_with (first
        | (refine wpList_store_row (by rfl) 52 _ _ (by rfl) (w.heap.size + 1) (va 256 (iv .u8 (nodeB l K))) (by rfl) (by rfl) 52 (_) (by exact q4) (sizeBk.trans (by rw [va_size])) (by simp only [va_size]) (iv_one _ _ _) ?_; simp only [Act.put, List.setIfInBounds_toArray, List.set_cons_zero, List.set_cons_succ])
        | fail)
      try simp only [Exit.inBlock, Exit.then]
      refine bodyPost_ret (results_row2 Tryz.results85 _ _ (w.heap.size + 1) 52 (va 256 (iv .u8 (nodeB l K))) (0, 0) _ rfl (q4.set _) Tryz.underlying52 rfl (sizeBk.trans (by rw [va_size]))) rfl ?_
      refine ⟨?_, below_setRow hb6 (by omega) _⟩
      have hxy := HXY.out
      rw [HO.out] at hxy
      injection hxy with hx hy
      subst hx hy
      rfl
theorem block_any (l : Int) (K : Nat → Rf) (hK : ∀ i, i < 4 → okD (K i).2) (w : World) : Calls Tryz.prog 85 #[.agg (ndC l K)] w fun e w' => e = .returned (.tuple #[bkV (blkF l K), .int .i64 (if ndOk l K then 0 else 1)]) ∧ Below w.heap.size w w' := by
  by_cases h : l < 1 ∨ 6 < l
  · have e : ndOk l K = false := by
      unfold ndOk
      rcases h with h | h
      · rw [decide_eq_false (p := 1 ≤ l) (by omega), Bool.false_and, Bool.false_and]
      · rw [decide_eq_false (p := l ≤ 6) (by omega), Bool.and_false, Bool.false_and]
    unfold blkF
    rw [e]
    exact block_level l h K w
  · obtain ⟨n, rfl⟩ : ∃ n : Nat, l = (n : Int) := ⟨l.toNat, by omega⟩
    refine block_in n (by omega) (by omega) K hK (blkF n K) (if ndOk n K then 0 else 1) ?_ w
    show (_, _) = _
    unfold blkF
    cases ndOk n K
    · rfl
    · rfl
end Go.Proofs.YtiofonffmplfmaaGreat
