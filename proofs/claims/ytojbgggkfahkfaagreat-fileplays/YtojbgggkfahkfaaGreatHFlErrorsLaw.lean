/- The statement FileErrors: its walk. -/
import Derived.Test.YtojbgggkfahkfaaGreatHFlAwake
import Derived.Handy
import Derived.Test.YtojbgggkfahkfaaGreatHLogOf
import Derived.Test.YtojbgggkfahkfaaGreatHGrKit
import Derived.LoopTactic
import Derived.Test.YtojbgggkfahkfaaGreatHInsCalls
import Derived.Deep.DeepCutAuto

namespace Go.Proofs.YtojbgggkfahkfaaGreat
open Go Go.RowKit
set_option linter.unusedSimpArgs false
set_option linter.unusedVariables false
/-- the bytes of a range that are there -/
def prT (s : ByteArray) (a m : Nat) : ByteArray := strN (fun j => tbyte s (a + j)) (thN s.size a m)
theorem prT_out (s : ByteArray) (a m : Nat) (h : s.size ≤ a) : prT s a m = ⟨#[]⟩ := by
  have : thN s.size a m = 0 := by unfold thN; omega
  unfold prT
  rw [this]
  rfl
theorem prT_cut (s : ByteArray) (a m : Nat) (h : a < s.size) (hm : m < s.size - a) : (s.extract a s.size).extract 0 m = prT s a m := by
  have hz := extract_size s a s.size (Nat.le_refl _)
  have ht : thN s.size a m = m := by unfold thN; omega
  refine text_ext ?_ fun j hj => ?_
  · unfold prT
    rw [strN_size, extract_size _ _ _ (by omega), ht]
    rfl
  · rw [extract_size _ _ _ (by omega)] at hj
    unfold prT
    rw [tbyte_extract _ _ _ _ (by omega) (by omega), tbyte_extract _ _ _ _ (Nat.le_refl _) (by omega), strN_at (fun j => tbyte s (a + j)) _ j (by omega) (tbyte_lt _ _), Nat.zero_add]
theorem prT_all (s : ByteArray) (a m : Nat) (h : a < s.size) (hm : ¬ m < s.size - a) : s.extract a s.size = prT s a m := by
  have hz := extract_size s a s.size (Nat.le_refl _)
  have ht : thN s.size a m = s.size - a := by unfold thN; omega
  refine text_ext ?_ fun j hj => ?_
  · unfold prT
    rw [strN_size, hz, ht]
  · rw [hz] at hj
    unfold prT
    rw [tbyte_extract _ _ _ _ (Nat.le_refl _) (by omega), strN_at (fun j => tbyte s (a + j)) _ j (by omega) (tbyte_lt _ _)]
set_option maxRecDepth 100000 in
theorem part_any (s : ByteArray) (a m : Nat) (hs : s.size ≤ 140737488355328) (ha : a ≤ 9223372036854775807) (hm : m ≤ 9223372036854775807) (w : World) : Calls Tryz.prog 33 #[.string s, .int .i64 (a : Int), .int .i64 (m : Int)] w fun e w' => e = .returned (.string (prT s a m)) ∧ w' = w := by
  obtain ⟨S, hS⟩ : ∃ S : Nat, s.size = S := ⟨_, rfl⟩
  by_cases h1 : S ≤ a
  · have HP : Hid (prT s a m = ⟨#[]⟩) := prT_out s a m (by omega)
    have t1 : (S : Int) ≤ (a : Int) := by omega
    go_enter Tryz.func33, Tryz.ntmps33
    go_wp2_with fail
    go_ret
    exact ⟨by rw [HP.out]; rfl, rfl⟩
  · have t1 : ¬ ((S : Int) ≤ (a : Int)) := by omega
    have t2 : (0 : Int) ≤ (a : Int) := by omega
    have t3 : (a : Int) ≤ (S : Int) := by omega
    have hz := extract_size s a s.size (Nat.le_refl _)
    rw [hS] at hz
    obtain ⟨T, hT⟩ : ∃ T : Nat, S - a = T := ⟨_, rfl⟩
    rw [hT] at hz
    have t4 : (0 : Int) ≤ (m : Int) := by omega
    by_cases h2 : m < T
    · have HP : Hid ((s.extract a S).extract 0 m = prT s a m) := by rw [← hS]; exact prT_cut s a m (by omega) (by omega)
      have t5 : (m : Int) < (T : Int) := by omega
      have t6 : (m : Int) ≤ (T : Int) := by omega
      clear h1 h2 hT
      go_enter Tryz.func33, Tryz.ntmps33
      go_wp2_with fail
      go_ret
      exact ⟨by rw [← HP.out]; rfl, rfl⟩
    · have HP : Hid (s.extract a S = prT s a m) := by rw [← hS]; exact prT_all s a m (by omega) (by omega)
      have t5 : ¬ ((m : Int) < (T : Int)) := by omega
      clear h1 h2 hT
      go_enter Tryz.func33, Tryz.ntmps33
      go_wp2_with fail
      go_ret
      exact ⟨by rw [← HP.out]; rfl, rfl⟩
/-- a file's model -/
def mdC (s : ByteArray) (st : Nat) : Array Value := #[.string s, .int .u64 ((st : Nat) : Int)]
section
variable {w : World} {x mf ml mc : Nat} {cp : Option Addr} {top : Int} {H : Nat → Hd} {D : Nat → Nat → Nat → Nat} {n st : Nat}
theorem read_whole (s : ByteArray) (h : s.size ≤ 1048576) : strN (fun j => tbyte s (0 + j)) (thN s.size 0 1048577) = s := by
  have : thN s.size 0 1048577 = s.size := by unfold thN; omega
  rw [this, strN_congr (g := tbyte s) fun j _ => by rw [Nat.zero_add]]
  exact strN_text s
set_option maxRecDepth 100000 in
set_option maxHeartbeats 8000000 in
theorem IM.standsF (h : IM w x mf ml mc cp top H D) (s : ByteArray) (hf : Fi H D n s.size st (tbyte s)) (a m : Int) (ha : -9223372036854775808 ≤ a ∧ a ≤ 9223372036854775807) (hm : -9223372036854775808 ≤ m ∧ m ≤ 9223372036854775807) : Calls Tryz.prog 13 #[.pointer (some ⟨x, 0, none⟩), .int .i64 (n : Int), .agg (mdC s st), .int .i64 a, .int .i64 m] w fun e w' => e = .returned (.bool true) ∧ Below w.heap.size w w' := by
  have hsz := hf.le
  have hzi : ∀ w, (zeroValue 77).run Tryz.prog w = .ok (.agg if0) w := zero_info
  have k1 : Blk (w.alloc (.cells (mdC s st) 33)) w.heap.size 33 (mdC s st) := Blk.new _ _ _
  have hb1 : Below w.heap.size w (w.alloc (.cells (mdC s st) 33)) := below_new1 _ _
  have HG := (h.below hb1).getF hf
  have HSZ : Hid (∀ V, Below w.heap.size w V → Calls Tryz.prog 18 #[.pointer (some ⟨x, 0, none⟩), .int .i64 (n : Int)] V fun e w' => e = .returned (.tuple #[.int .i64 (s.size : Int), .int .i64 0]) ∧ Below V.heap.size V w') := fun V hV => (h.below hV).sizeF hf
  have HRB : Hid (∀ V, Below w.heap.size w V → (a < 0 ∨ m < 0) → Calls Tryz.prog 15 #[.pointer (some ⟨x, 0, none⟩), .int .i64 (n : Int), .int .i64 a, .int .i64 m] V fun e w' => e = .returned (.tuple #[.string ⟨#[]⟩, .int .i64 1]) ∧ Below V.heap.size V w') := fun V hV hb => (h.below hV).readBad hf a m hb
  have HRF : Hid (∀ V, Below w.heap.size w V → ∀ a m : Nat, a ≤ 9223372036854775807 → m ≤ 9223372036854775807 → Calls Tryz.prog 15 #[.pointer (some ⟨x, 0, none⟩), .int .i64 (n : Int), .int .i64 (a : Int), .int .i64 (m : Int)] V fun e w' => e = .returned (.tuple #[.string (prT s a m), .int .i64 0]) ∧ Below V.heap.size V w') := fun V hV a m ha hm => (h.below hV).readF hf (fun p _ => tbyte_lt _ _) a m ha hm
  have HRW : Hid (∀ V, Below w.heap.size w V → Calls Tryz.prog 15 #[.pointer (some ⟨x, 0, none⟩), .int .i64 (n : Int), .int .i64 0, .int .i64 1048577] V fun e w' => e = .returned (.tuple #[.string s, .int .i64 0]) ∧ Below V.heap.size V w') := fun V hV => by
    have := (h.below hV).readF hf (fun p _ => tbyte_lt _ _) 0 1048577 (by decide) (by decide)
    rw [read_whole s hsz] at this
    exact this
  obtain ⟨S, hS⟩ : ∃ S : Nat, s.size = S := ⟨_, rfl⟩
  have HZ : Hid (s.size = S ∧ S ≤ 1048576) := ⟨hS, by omega⟩
  rw [hS] at HG HSZ
  unfold fiV at HG
  clear h hf hsz
  go_enter Tryz.func13, Tryz.ntmps13
  go_wp2_with fail
  refine HG.mono ?_
  rintro e w2 ⟨rfl, hb2⟩
  have u1 : Blk (w2.alloc (.cells if0 77)) w2.heap.size 77 if0 := Blk.new _ _ _
  have u2 := u1.set (fiC n S st)
  have hb12 := hb1.trans (hb2.mono hb1.size)
  have hb3 : Below w.heap.size w ((w2.alloc (.cells if0 77)).setRow w2.heap.size (fiC n S st)) := below_setRow (hb12.alloc hb12.size _) hb12.size _
  have k2 := k1.below hb2 k1.lt
  have k3 : Blk ((w2.alloc (.cells if0 77)).setRow w2.heap.size (fiC n S st)) w.heap.size 33 (mdC s st) := (k2.alloc _).other _ (by have := k2.lt; omega)
  have H3 := HSZ.out _ hb3
  clear HG hb1 hb2 hb12 k1 k2
  go_wp2_with (first
    | (refine wpList_store_row (by rfl) 77 _ _ (by rfl) (w2.heap.size) (fiC n S st) (by rfl) (by rfl) 77 if0 (by exact u1) (sizeInfo.trans (by rfl)) (by rfl) (fi_all _ _ _) ?_; simp only [Act.put, List.setIfInBounds_toArray, List.set_cons_zero, List.set_cons_succ])
    | fail)
  clear u1
  obtain ⟨g, hg⟩ : ∃ g, w2.heap.size = g := ⟨_, rfl⟩
  rw [hg] at u2 hb3 k3 H3 ⊢
  generalize (w2.alloc (.cells if0 77)).setRow g (fiC n S st) = w3 at *
  refine H3.mono ?_
  rintro e w4 ⟨rfl, hb4⟩
  have hb14 := hb3.trans (hb4.mono hb3.size)
  obtain ⟨d0, d1, d2, d3, d4⟩ := fi_cs (u2.below hb4 u2.lt)
  have k4 := k3.below hb4 k3.lt
  have m0 : w4.cell? ⟨w.heap.size, 0, none⟩ = some (.string s) := (k4.cell 0).trans rfl
  have m1 : w4.cell? ⟨w.heap.size, 1, none⟩ = some (.int .u64 ((st : Nat) : Int)) := (k4.cell 1).trans rfl
  have HB4 : Hid (Below w.heap.size w w4) := hb14
  have hneS : ((S : Int) != (S : Int)) = false := by simp
  have hneT : ((st : Int) != (st : Int)) = false := by simp
  clear H3 hb3 hb4 k3 u2 hg hb14
  by_cases hbad : a < 0 ∨ m < 0
  · have HR1 := HRB.out w4 HB4.out hbad
    go_wp2_with fail
    refine HR1.mono ?_
    rintro e w5 ⟨rfl, hb5⟩
    have HB5 : Hid (Below w.heap.size w w5) := HB4.out.trans (hb5.mono HB4.out.size)
    have k5 := k4.below hb5 k4.lt
    have HR2 := HRW.out w5 HB5.out
    have m5 : w5.cell? ⟨w.heap.size, 0, none⟩ = some (.string s) := (k5.cell 0).trans rfl
    clear HR1 hb5 m0 m1 k4 d0 d1 d2 d3 d4
    by_cases ha0 : a < 0
    · clear hbad
      go_wp2_with fail
      refine HR2.mono ?_
      rintro e w6 ⟨rfl, hb6⟩
      have HB6 : Hid (Below w.heap.size w w6) := HB5.out.trans (hb6.mono HB5.out.size)
      have m6 : w6.cell? ⟨w.heap.size, 0, none⟩ = some (.string s) := ((k5.below hb6 k5.lt).cell 0).trans rfl
      clear HR2 hb6 m5
      go_wp2_with fail
      go_ret
      exact ⟨rfl, HB6.out⟩
    · have hm0 : m < 0 := by omega
      clear hbad
      go_wp2_with fail
      refine HR2.mono ?_
      rintro e w6 ⟨rfl, hb6⟩
      have HB6 : Hid (Below w.heap.size w w6) := HB5.out.trans (hb6.mono HB5.out.size)
      have m6 : w6.cell? ⟨w.heap.size, 0, none⟩ = some (.string s) := ((k5.below hb6 k5.lt).cell 0).trans rfl
      clear HR2 hb6 m5
      go_wp2_with fail
      go_ret
      exact ⟨rfl, HB6.out⟩
  · obtain ⟨a', rfl⟩ : ∃ a' : Nat, a = (a' : Int) := ⟨a.toNat, by omega⟩
    obtain ⟨m', rfl⟩ : ∃ m' : Nat, m = (m' : Int) := ⟨m.toNat, by omega⟩
    have a0 : ¬ ((a' : Int) < 0) := by omega
    have a1 : ¬ ((m' : Int) < 0) := by omega
    have HR1 := HRF.out w4 HB4.out a' m' (by omega) (by omega)
    have HP := part_any s a' m' (by have := HZ.out; omega) (by omega) (by omega)
    clear hbad ha hm
    go_wp2_with fail
    refine HR1.mono ?_
    rintro e w5 ⟨rfl, hb5⟩
    have HB5 : Hid (Below w.heap.size w w5) := HB4.out.trans (hb5.mono HB4.out.size)
    have k5 := k4.below hb5 k4.lt
    have HR2 := HRW.out w5 HB5.out
    have HP5 := HP w5
    have m5 : w5.cell? ⟨w.heap.size, 0, none⟩ = some (.string s) := (k5.cell 0).trans rfl
    clear HR1 hb5 m0 m1 k4 d0 d1 d2 d3 d4 HP
    go_wp2_with fail
    refine HP5.mono ?_
    rintro e w6 ⟨rfl, hw6⟩
    rw [hw6]
    clear hw6 w6 HP5
    go_wp2_with fail
    refine HR2.mono ?_
    rintro e w6 ⟨rfl, hb6⟩
    have HB6 : Hid (Below w.heap.size w w6) := HB5.out.trans (hb6.mono HB5.out.size)
    have m6 : w6.cell? ⟨w.heap.size, 0, none⟩ = some (.string s) := ((k5.below hb6 k5.lt).cell 0).trans rfl
    clear HR2 hb6 m5
    go_wp2_with fail
    go_ret
    exact ⟨rfl, HB6.out⟩
end
end Go.Proofs.YtojbgggkfahkfaaGreat

namespace Go.Proofs.YtojbgggkfahkfaaGreat
open Go Go.RowKit
set_option linter.unusedSimpArgs false
set_option linter.unusedVariables false
/-- a file among inodes that lie above the world w -/
structure BS (w V : World) (x mf ml mc : Nat) (cp : Option Addr) (top : Int) (H0 : Nat → Hd) (D0 : Nat → Nat → Nat → Nat) (n z st : Nat) (F : Nat → Nat) : Prop where
  now : Now V x mf ml mc cp top H0 D0 n z st F
  bel : Below w.heap.size w V
  gl : w.heap.size ≤ ml
  gf : w.heap.size ≤ mf
  by8 : ∀ p, p < z → F p < 256
/-- how great a file is behind a write -/
def wzN (z a n : Nat) : Nat := if n = 0 then z else max z (a + n)
section
variable {w V : World} {x mf ml mc : Nat} {cp : Option Addr} {top : Int} {H0 : Nat → Hd} {D0 : Nat → Nat → Nat → Nat} {n z st : Nat} {F : Nat → Nat}
theorem BS.le (h : BS w V x mf ml mc cp top H0 D0 n z st F) : z ≤ 1048576 := by
  obtain ⟨H, D, _, hf, _⟩ := h.now
  exact hf.le
theorem BS.below {V' : World} (h : BS w V x mf ml mc cp top H0 D0 n z st F) (hb : Below V.heap.size V V') : BS w V' x mf ml mc cp top H0 D0 n z st F := by
  obtain ⟨H, D, hI, hf, hm⟩ := h.now
  exact ⟨⟨H, D, hI.below hb, hf, hm⟩, h.bel.trans (hb.mono h.bel.size), h.gl, h.gf, h.by8⟩
theorem BS.congr {G : Nat → Nat} (h : BS w V x mf ml mc cp top H0 D0 n z st F) (hG : ∀ p, p < z → G p = F p) : BS w V x mf ml mc cp top H0 D0 n z st G := by
  obtain ⟨H, D, hI, hf, hm⟩ := h.now
  exact ⟨⟨H, D, hI, hf.congr hG, hm⟩, h.bel, h.gl, h.gf, fun p hp => by rw [hG p hp]; exact h.by8 p hp⟩
theorem BS.writeErr (h : BS w V x mf ml mc cp top H0 D0 n z st F) (a : Int) (ha : a ≤ 9223372036854775807) (s : ByteArray) (hs : s.size ≤ 140737488355328) (hb : a < 0 ∨ 1048576 < a + (s.size : Int)) (s' : Nat) : Calls Tryz.prog 16 #[.pointer (some ⟨x, 0, none⟩), .int .i64 (n : Int), .int .i64 a, .string s, .int .u64 ((s' : Nat) : Int)] V fun e w' => e = .returned (.tuple #[.int .i64 0, .int .i64 (if a < 0 then 1 else 160)]) ∧ Below V.heap.size V w' := by
  obtain ⟨H, D, hI, hf, _⟩ := h.now
  by_cases h0 : a < 0
  · rw [if_pos h0]
    exact hI.writeBad hf a h0 s s'
  · rw [if_neg h0]
    have := hI.writeBig hf a.toNat s' s (by omega) hs (by omega)
    rw [show ((a.toNat : Nat) : Int) = a by omega] at this
    exact this
theorem BS.of_now {V' : World} {H D z' s'} {G : Nat → Nat} (h : BS w V x mf ml mc cp top H0 D0 n z st F) (hm : ∀ m, m ≠ n → H m = H0 m ∧ D m = D0 m) (hN : Now V' x mf ml mc cp top H D n z' s' G) (hT : Turns (fun z => z = ml ∨ z = mf) V V') (hG : ∀ p, p < z' → G p < 256) : BS w V' x mf ml mc cp top H0 D0 n z' s' G := by
  obtain ⟨H', D', h1, h2, h3⟩ := hN
  refine ⟨⟨H', D', h1, h2, fun m hm' => ⟨(h3 m hm').1.trans (hm m hm').1, (h3 m hm').2.trans (hm m hm').2⟩⟩, ?_, h.gl, h.gf, hG⟩
  have := h.gl
  have := h.gf
  exact h.bel.trans (hT.below h.bel.size (fun b hb => by rcases hb with rfl | rfl <;> assumption))
theorem BS.write (h : BS w V x mf ml mc cp top H0 D0 n z st F) (a : Nat) (s : ByteArray) (ha : a + s.size ≤ 1048576) (s' : Nat) : Calls Tryz.prog 16 #[.pointer (some ⟨x, 0, none⟩), .int .i64 (n : Int), .int .i64 (a : Int), .string s, .int .u64 ((s' : Nat) : Int)] V fun e w' => e = .returned (.tuple #[.int .i64 ((a + s.size : Nat) : Int), .int .i64 0]) ∧ BS w w' x mf ml mc cp top H0 D0 n (wzN z a s.size) (if s.size = 0 then st else s') (wrF F z s a) := by
  obtain ⟨H, D, hI, hf, hm⟩ := h.now
  by_cases h0 : s.size = 0
  · have e := empty_text h0
    subst e
    refine (hI.writeNone hf a s' (by omega)).mono ?_
    rintro e w' ⟨rfl, hb⟩
    refine ⟨rfl, ?_⟩
    have hb2 := h.below hb
    refine hb2.congr fun p hp => ?_
    unfold wrF
    rw [if_neg (fun c => absurd c.2 (by have : (⟨#[]⟩ : ByteArray).size = 0 := rfl; omega)), if_pos (by simpa [wzN] using hp)]
  · refine (hI.writeOk hf a s' s (by omega) ha).mono ?_
    rintro e w' ⟨rfl, hN, hT⟩
    refine ⟨rfl, ?_⟩
    rw [if_neg h0]
    unfold wzN
    rw [if_neg h0]
    exact h.of_now hm hN hT fun p _ => wrF_lt h.by8 _ _ _
end
theorem zeros_none (n : Int) (h : n ≤ 0) (w : World) : Calls Tryz.prog 22 #[.int .i64 n] w fun e w' => e = .returned (.string ⟨#[]⟩) ∧ Below w.heap.size w w' := by
  go_enter Tryz.func22, Tryz.ntmps22
  go_wp2_with fail
  go_ret
  exact ⟨rfl, Below.refl _ _⟩
theorem fl_made1 (v : Value) (n : Nat) : madeCells #[v] n = va n fun _ => v := by
  refine va_ext (size_madeCells _ _) fun i hi => ?_
  unfold madeCells
  simp [hi, Nat.mod_one]
theorem make_zeros (n : Nat) (hn : n ≤ 140737488355328) (w : World) : (Instr.makeSlice 116 (.int .i64 (n : Int)) (.int .i64 (n : Int))).run Tryz.prog w = .ok (.slice (some ⟨w.heap.size, 0, none⟩) n n) (w.alloc (.cells (va n (iv .u8 fun _ => 0)) 5)) := by
  obtain ⟨i0, hi, hz0, hz1, hz2⟩ := info_parts infoB8
  have := run_make (P := Tryz.prog) w 116 5 i0 (.int .u8 0) Tryz.underlying116 hi hz0 .i64 .i64 (n : Int) (n : Int) (by omega) (Int.le_refl _) (by rw [hz2]; omega) (by omega)
  rw [hz1] at this
  simp only [Int.toNat_natCast, Value.cells, fl_made1, Nat.mul_one] at this
  exact this
set_option maxRecDepth 100000 in
theorem zeros_some (n : Nat) (h : 1 ≤ n) (hn : n ≤ 140737488355328) (w : World) : Calls Tryz.prog 22 #[.int .i64 (n : Int)] w fun e w' => e = .returned (.string (strN (fun _ => 0) n)) ∧ Below w.heap.size w w' := by
  have t1 : ¬ ((n : Int) ≤ 0) := by omega
  have hmk := make_zeros n hn w
  have b0 := Blk.new w 5 (va n (iv .u8 fun _ => 0))
  have hb := below_new1 w (Obj.cells (va n (iv IntKind.u8 fun _ => 0)) 5)
  have hc := run_bytes_text (P := Tryz.prog) (w.alloc (Obj.cells (va n (iv IntKind.u8 fun _ => 0)) 5)) 116 5 9 Tryz.underlying116 Tryz.underlying5 Tryz.underlying9 b0 0 n n (by omega)
  clear b0 h
  go_enter Tryz.func22, Tryz.ntmps22
  go_wp2_with fail
  go_ret
  exact ⟨rfl, hb⟩
end Go.Proofs.YtojbgggkfahkfaaGreat

namespace Go.Proofs.YtojbgggkfahkfaaGreat
open Go Go.RowKit
set_option linter.unusedSimpArgs false
set_option linter.unusedVariables false
section
variable {w : World} {x mf ml mc : Nat} {cp : Option Addr} {top : Int} {H : Nat → Hd} {D : Nat → Nat → Nat → Nat} {n sz st : Nat} {F : Nat → Nat}
set_option maxRecDepth 100000 in
theorem IM.zeroBad (h : IM w x mf ml mc cp top H D) (hf : Fi H D n sz st F) (a m : Int) (hb : a < 0 ∨ m < 0) (s' : Nat) : Calls Tryz.prog 20 #[.pointer (some ⟨x, 0, none⟩), .int .i64 (n : Int), .int .i64 a, .int .i64 m, .int .u64 ((s' : Nat) : Int)] w fun e w' => e = .returned (.int .i64 1) ∧ Below w.heap.size w w' := by
  have H1 := h.oneF hf
  have hzi : ∀ w, (zeroValue 77).run Tryz.prog w = .ok (.agg if0) w := zero_info
  clear h hf
  go_enter Tryz.func20, Tryz.ntmps20
  go_wp2_with fail
  refine H1.mono ?_
  rintro e w2 ⟨rfl, hb2⟩
  have u1 : Blk (w2.alloc (.cells if0 77)) w2.heap.size 77 if0 := Blk.new _ _ _
  have u2 := u1.set (fiC n sz st)
  have c3 : ((w2.alloc (.cells if0 77)).setRow w2.heap.size (fiC n sz st)).cell? ⟨w2.heap.size, 3, none⟩ = some (.int .i64 (sz : Int)) := (u2.cell 3).trans rfl
  have HE : Hid (Below w.heap.size w ((w2.alloc (.cells if0 77)).setRow w2.heap.size (fiC n sz st))) := below_setRow (hb2.alloc hb2.size _) hb2.size _
  have HS2 : Hid (w.heap.size ≤ w2.heap.size) := hb2.size
  clear hb2 H1
  by_cases ha : a < 0
  · clear hb
    go_wp2_with (first
    | (refine wpList_store_row (by rfl) 77 _ _ (by rfl) (w2.heap.size) (fiC n sz st) (by rfl) (by rfl) 77 if0 (by exact u1) (sizeInfo.trans (by rfl)) (by rfl) (fi_all _ _ _) ?_; simp only [Act.put, List.setIfInBounds_toArray, List.set_cons_zero, List.set_cons_succ])
      | fail)
    go_ret
    exact ⟨rfl, HE.out⟩
  · have hm : m < 0 := by omega
    clear hb
    go_wp2_with (first
    | (refine wpList_store_row (by rfl) 77 _ _ (by rfl) (w2.heap.size) (fiC n sz st) (by rfl) (by rfl) 77 if0 (by exact u1) (sizeInfo.trans (by rfl)) (by rfl) (fi_all _ _ _) ?_; simp only [Act.put, List.setIfInBounds_toArray, List.set_cons_zero, List.set_cons_succ])
      | fail)
    go_ret
    exact ⟨rfl, HE.out⟩
set_option maxRecDepth 100000 in
theorem IM.zeroNone (h : IM w x mf ml mc cp top H D) (hf : Fi H D n sz st F) (a m : Nat) (ha : a ≤ 9223372036854775807) (hm : m ≤ 9223372036854775807) (ht : thN sz a m = 0) (s' : Nat) : Calls Tryz.prog 20 #[.pointer (some ⟨x, 0, none⟩), .int .i64 (n : Int), .int .i64 (a : Int), .int .i64 (m : Int), .int .u64 ((s' : Nat) : Int)] w fun e w' => e = .returned (.int .i64 0) ∧ Below w.heap.size w w' := by
  have H1 := h.oneF hf
  have hzi : ∀ w, (zeroValue 77).run Tryz.prog w = .ok (.agg if0) w := zero_info
  have HTH : Hid (∀ V : World, Calls Tryz.prog 39 #[.agg (fiC n sz st), .int .i64 (a : Int), .int .i64 (m : Int)] V fun e w' => e = .returned (.int .i64 0) ∧ Below V.heap.size V w') := fun V => by
    have := there_any n sz st a m hf.le ha hm V
    rw [ht] at this
    exact this
  have a0 : ¬ ((a : Int) < 0) := by omega
  have m0 : ¬ ((m : Int) < 0) := by omega
  clear h hf
  go_enter Tryz.func20, Tryz.ntmps20
  go_wp2_with fail
  refine H1.mono ?_
  rintro e w2 ⟨rfl, hb2⟩
  have u1 : Blk (w2.alloc (.cells if0 77)) w2.heap.size 77 if0 := Blk.new _ _ _
  have u2 := u1.set (fiC n sz st)
  have c3 : ((w2.alloc (.cells if0 77)).setRow w2.heap.size (fiC n sz st)).cell? ⟨w2.heap.size, 3, none⟩ = some (.int .i64 (sz : Int)) := (u2.cell 3).trans rfl
  have HE : Hid (Below w.heap.size w ((w2.alloc (.cells if0 77)).setRow w2.heap.size (fiC n sz st))) := below_setRow (hb2.alloc hb2.size _) hb2.size _
  have HS2 : Hid (w.heap.size ≤ w2.heap.size) := hb2.size
  clear hb2 H1
  have H3 := HTH.out ((w2.alloc (.cells if0 77)).setRow w2.heap.size (fiC n sz st))
  go_wp2_with (first
    | (refine wpList_store_row (by rfl) 77 _ _ (by rfl) (w2.heap.size) (fiC n sz st) (by rfl) (by rfl) 77 if0 (by exact u1) (sizeInfo.trans (by rfl)) (by rfl) (fi_all _ _ _) ?_; simp only [Act.put, List.setIfInBounds_toArray, List.set_cons_zero, List.set_cons_succ])
    | (refine wpList_load_row (by rfl) 77 _ (by rfl) (w2.heap.size) (by rfl) 77 (fiC n sz st) (0, 0) _ (by exact u2) Tryz.underlying77 (by rfl) (sizeInfo.trans (by rfl)) ?_; simp only [Act.put, List.setIfInBounds_toArray, List.set_cons_zero, List.set_cons_succ])
    | fail)
  refine H3.mono ?_
  rintro e w4 ⟨rfl, hb4⟩
  have hb5 : Below w.heap.size w w4 := HE.out.trans (hb4.mono HE.out.size)
  clear H3 c3 u1 u2 HE hb4
  go_wp2_with fail
  go_ret
  exact ⟨rfl, hb5⟩
set_option maxRecDepth 100000 in
set_option maxHeartbeats 4000000 in
theorem IM.zeroOk (h : IM w x mf ml mc cp top H D) (hf : Fi H D n sz st F) (a m : Nat) (ha : a ≤ 9223372036854775807) (hm : m ≤ 9223372036854775807) (k : Nat) (hk : thN sz a m = k) (hk0 : k ≠ 0) (s' : Nat) : Calls Tryz.prog 20 #[.pointer (some ⟨x, 0, none⟩), .int .i64 (n : Int), .int .i64 (a : Int), .int .i64 (m : Int), .int .u64 ((s' : Nat) : Int)] w fun e w' => e = .returned (.int .i64 0) ∧ Now w' x mf ml mc cp top H D n sz s' (wrF F sz (strN (fun _ => 0) k) a) ∧ Turns (fun z => z = ml ∨ z = mf) w w' := by
  have H1 := h.oneF hf
  have hak : a + k ≤ sz := by unfold thN at hk; omega
  have hsz := hf.le
  have hzi : ∀ w, (zeroValue 77).run Tryz.prog w = .ok (.agg if0) w := zero_info
  have HTH : Hid (∀ V : World, Calls Tryz.prog 39 #[.agg (fiC n sz st), .int .i64 (a : Int), .int .i64 (m : Int)] V fun e w' => e = .returned (.int .i64 (k : Int)) ∧ Below V.heap.size V w') := fun V => by
    have := there_any n sz st a m hf.le ha hm V
    rw [hk] at this
    exact this
  have HRP : Hid (∀ V : World, Calls Tryz.prog 43 #[.string ⟨#[0]⟩, .int .i64 (k : Int)] V fun e w' => e = .returned (.string (strN (fun _ => 0) k)) ∧ Below V.heap.size V w') := repeat_zero k (by omega)
  have HLY : Hid (∀ V, Below w.heap.size w V → Calls Tryz.prog 42 #[.pointer (some ⟨x, 0, none⟩), .agg (fiC n sz st), .int .i64 (a : Int), .string (strN (fun _ => 0) k), .int .i64 (sz : Int), .int .u64 ((s' : Nat) : Int)] V fun e w' => e = .returned (.int .i64 0) ∧ Now w' x mf ml mc cp top H D n sz s' (wrF F sz (strN (fun _ => 0) k) a) ∧ Turns (fun z => z = ml ∨ z = mf) V w') := fun V hV => (h.below hV).lay hf (strN (fun _ => 0) k) a sz s' (by rw [strN_size]; omega) (Nat.le_refl _) hf.le (by rw [strN_size]; exact hak)
  have hlt := h.lts
  have a0 : ¬ ((a : Int) < 0) := by omega
  have m0 : ¬ ((m : Int) < 0) := by omega
  have k0 : ¬ ((k : Int) = 0) := by omega
  have k0b : ((k : Int) == 0) = false := by simpa using k0
  clear h hf
  go_enter Tryz.func20, Tryz.ntmps20
  go_wp2_with fail
  refine H1.mono ?_
  rintro e w2 ⟨rfl, hb2⟩
  have u1 : Blk (w2.alloc (.cells if0 77)) w2.heap.size 77 if0 := Blk.new _ _ _
  have u2 := u1.set (fiC n sz st)
  have c3 : ((w2.alloc (.cells if0 77)).setRow w2.heap.size (fiC n sz st)).cell? ⟨w2.heap.size, 3, none⟩ = some (.int .i64 (sz : Int)) := (u2.cell 3).trans rfl
  have HE : Hid (Below w.heap.size w ((w2.alloc (.cells if0 77)).setRow w2.heap.size (fiC n sz st))) := below_setRow (hb2.alloc hb2.size _) hb2.size _
  have HS2 : Hid (w.heap.size ≤ w2.heap.size) := hb2.size
  clear hb2 H1
  have H3 := HTH.out ((w2.alloc (.cells if0 77)).setRow w2.heap.size (fiC n sz st))
  go_wp2_with (first
    | (refine wpList_store_row (by rfl) 77 _ _ (by rfl) (w2.heap.size) (fiC n sz st) (by rfl) (by rfl) 77 if0 (by exact u1) (sizeInfo.trans (by rfl)) (by rfl) (fi_all _ _ _) ?_; simp only [Act.put, List.setIfInBounds_toArray, List.set_cons_zero, List.set_cons_succ])
    | (refine wpList_load_row (by rfl) 77 _ (by rfl) (w2.heap.size) (by rfl) 77 (fiC n sz st) (0, 0) _ (by exact u2) Tryz.underlying77 (by rfl) (sizeInfo.trans (by rfl)) ?_; simp only [Act.put, List.setIfInBounds_toArray, List.set_cons_zero, List.set_cons_succ])
    | fail)
  refine H3.mono ?_
  rintro e w4 ⟨rfl, hb4⟩
  have hE4 : Below w.heap.size w w4 := HE.out.trans (hb4.mono HE.out.size)
  have u4 : Blk w4 w2.heap.size 77 (fiC n sz st) := u2.below hb4 u2.lt
  have hS0 : Blk w4.drew w2.heap.size 77 (fiC n sz st) := u4.drew
  clear H3 c3 u1 u2 HE hb4 HTH
  go_wp2_with fail
  refine wp_region_plan (fun W => Blk W w2.heap.size 77 (fiC n sz st)) (.yield [0, 2, 3, 7] 1 (.yield [] 5 (.yield [] 6 (.force [] 4 (.force [] 8 (.fin [9])))))) (by kernel_rfl) (by kernel_rfl) hS0 (plan_yield ?_)
  have hE5 := hE4.drew
  clear hE4 u4
  generalize w4.drew = w5 at *
  simp only [List.cons_append, List.nil_append, List.append_nil, List.filterMap_cons, List.filterMap_nil, List.getElem?_toArray, List.getElem?_cons_zero, List.getElem?_cons_succ]
  go_wp2_with fail
  refine ⟨rfl, _, .agg (fiC n sz st), rfl, Or.inl ⟨by rfl, fun W hW => by obtain ⟨d0, d1, d2, d3, d4⟩ := fi_cs hW; go_simp; rfl⟩, plan_yield ?_⟩
  simp only [Act.put, List.setIfInBounds_toArray, List.set_cons_zero, List.set_cons_succ]
  simp only [List.cons_append, List.nil_append, List.append_nil, List.filterMap_cons, List.filterMap_nil, List.getElem?_toArray, List.getElem?_cons_zero, List.getElem?_cons_succ]
  go_wp2_with fail
  refine ⟨rfl, _, .pointer (some ⟨w2.heap.size, 3, none⟩), rfl, Or.inl ⟨by rfl, fun W hW => by go_simp⟩, plan_yield ?_⟩
  simp only [Act.put, List.setIfInBounds_toArray, List.set_cons_zero, List.set_cons_succ]
  simp only [List.cons_append, List.nil_append, List.append_nil, List.filterMap_cons, List.filterMap_nil, List.getElem?_toArray, List.getElem?_cons_zero, List.getElem?_cons_succ]
  go_wp2_with fail
  refine ⟨rfl, _, .int .i64 (sz : Int), rfl, Or.inl ⟨by rfl, fun W hW => by have d3 := fi_c3 hW; go_simp⟩, plan_force ?_⟩
  simp only [Act.put, List.setIfInBounds_toArray, List.set_cons_zero, List.set_cons_succ]
  simp only [List.cons_append, List.nil_append, List.append_nil, List.filterMap_cons, List.filterMap_nil, List.getElem?_toArray, List.getElem?_cons_zero, List.getElem?_cons_succ]
  go_wp2_with fail
  refine (HRP.out w5).mono ?_
  rintro e w6 ⟨rfl, hb6⟩
  have hS6 : Blk w6 w2.heap.size 77 (fiC n sz st) := hS0.below hb6 hS0.lt
  have hE6 : Below w.heap.size w w6 := hE5.trans (hb6.mono hE5.size)
  have HL6 := HLY.out w6 hE6
  go_wp2_with fail
  refine ⟨rfl, hS6, plan_force ?_⟩
  simp only [List.cons_append, List.nil_append, List.append_nil, List.filterMap_cons, List.filterMap_nil, List.getElem?_toArray, List.getElem?_cons_zero, List.getElem?_cons_succ]
  go_wp2_with fail
  refine HL6.mono ?_
  rintro e w7 ⟨rfl, hN, hT⟩
  have hS7 : Blk w7 w2.heap.size 77 (fiC n sz st) := (hT.block _ hS6.lt (by have := HS2.out; omega)).trans hS6
  have HE7 : Hid (_ ∧ _) := ⟨hN, (Turns.bel hE6).tr hT⟩
  clear HL6 hN hT
  go_wp2_with fail
  refine ⟨rfl, hS7, plan_fin ?_⟩
  simp only [List.cons_append, List.nil_append, List.append_nil, List.filterMap_cons, List.filterMap_nil, List.getElem?_toArray, List.getElem?_cons_zero, List.getElem?_cons_succ]
  go_wp2_with fail
  refine ⟨rfl, ?_⟩
  go_wp2_with fail
  go_ret
  exact ⟨rfl, HE7.out⟩
end
end Go.Proofs.YtojbgggkfahkfaaGreat

namespace Go.Proofs.YtojbgggkfahkfaaGreat
open Go Go.RowKit
set_option linter.unusedSimpArgs false
set_option linter.unusedVariables false
/-- the numbers in use among the first m, as cells -/
def usL (H : Nat → Hd) : Nat → List Value
  | 0 => []
  | m + 1 => usL H m ++ (if (H (m + 1)).k = 0 then [] else [.int .i64 ((m : Int) + 1)])
theorem usL_le (H : Nat → Hd) : ∀ m, (usL H m).length ≤ m
  | 0 => Nat.le_refl _
  | m + 1 => by
    have := usL_le H m
    unfold usL
    rw [List.length_append]
    split <;> simp <;> omega
section
variable {w w' : World} {x mf ml mc : Nat} {cp : Option Addr} {top : Int} {H : Nat → Hd} {D : Nat → Nat → Nat → Nat}
set_option maxRecDepth 100000 in
set_option maxHeartbeats 8000000 in
theorem IM.all (h : IM w x mf ml mc cp top H D) (c : Nat) (ht : 0 ≤ top ∧ top ≤ 4096) (hc : (top + 3) / 4 = (c : Int)) : Calls Tryz.prog 21 #[.pointer (some ⟨x, 0, none⟩)] w fun e w' => ∃ a cap, e = .returned (.tuple #[.slice a (usL H (4 * c)).length cap, .int .i64 0]) ∧ w'.ownsRow w.heap.size 3 1 (.slice a (usL H (4 * c)).length cap) (usL H (4 * c)).length (usL H (4 * c)) ∧ Below w.heap.size w w' := by
  obtain ⟨i0, hi, hz0, hz1, hz2⟩ := tinfo_parts tinfoInt
  have hz := zero_ft
  have hzh := zero_hd
  have HFF : Hid (∀ i : Nat, i < 1024 → ∀ V, Below w.heap.size w V → Calls Tryz.prog 45 #[.pointer (some ⟨x, 0, none⟩), .int .i64 (i : Int)] V fun e w' => e = .returned (.tuple #[.agg (ftC (foH H i)), .int .i64 0]) ∧ Below V.heap.size V w') := fun i hi V hV => (h.below hV).four i hi
  have HLT := leavesTo_any top ht.1 ht.2 w
  rw [hc] at HLT
  have HNU : Hid (∀ i j : Nat, i < 1024 → j < 4 → ∀ w : World, Calls Tryz.prog 47 #[.int .i64 (i : Int), .int .i64 (j : Int)] w fun e w2 => e = .returned (.int .i64 ((i : Int) * 4 + (j : Int) + 1)) ∧ w2 = w) := fun i j h1 h2 => numberAt_any (i : Int) (j : Int) (by omega) (by omega) (by omega) (by omega)
  have hc4 : c ≤ 1024 := by omega
  have c36 : w.cell? ⟨x, 36, none⟩ = some (.int .i64 top) := h.ix.cv (n := 40) (by decide)
  clear h hc ht
  go_enter Tryz.func21, Tryz.ntmps21
  go_wp2_with fail
  refine HLT.mono ?_
  rintro e w1 ⟨rfl, hw1⟩
  rw [hw1]
  clear hw1 w1 HLT c36
  go_wp2_with fail
  go_loopw [4, 17] (fun v t wr => Hid (∃ (i m cap : Nat) (a : Option Addr), i ≤ c ∧ t = .int .i64 (i : Int) ∧ (usL H (4 * i)).length = m ∧ v = .slice a m cap ∧ wr.ownsRow w.heap.size 3 1 v m (usL H (4 * i)) ∧ Below w.heap.size w wr)) (fun _ t _ => c - (intOf t).toNat)
  case atStart => exact ⟨0, 0, 0, none, Nat.zero_le _, rfl, rfl, rfl, World.ownsRow_nil _ _ _ _, Below.refl _ _⟩
  case round =>
    obtain ⟨i, m, cap, a, hi4, rfl, hm, rfl, hown, hb⟩ := Hid.out hrel
    clear hrel
    by_cases hic : i < c
    · have i1 : (i : Int) < (c : Int) := by omega
      have i2 : i ≤ 1024 := by omega
      have HF1 := HFF.out i (by omega) _ hb
      have HR : Hid ((usL H (4 * i)).length = m ∧ wr.ownsRow w.heap.size 3 1 (.slice a m cap) m (usL H (4 * i)) ∧ Below w.heap.size w wr ∧ i < c) := ⟨hm, hown, hb, hic⟩
      clear hm hown hb hi4 hic
      go_wp2_with fail
      refine HF1.mono ?_
      rintro e w2 ⟨rfl, hb2⟩
      have f3 : Blk (w2.alloc (.cells (ftC ft00) 91)) w2.heap.size 91 (ftC ft00) := Blk.new _ _ _
      have f3' := f3.set (ftC (foH H i))
      have HR3 : Hid (((w2.alloc (.cells (ftC ft00) 91)).setRow w2.heap.size (ftC (foH H i))).ownsRow w.heap.size 3 1 (.slice a m cap) m (usL H (4 * i)) ∧ Below w.heap.size w ((w2.alloc (.cells (ftC ft00) 91)).setRow w2.heap.size (ftC (foH H i)))) := by
        have hb23 : Below w2.heap.size w2 ((w2.alloc (.cells (ftC ft00) 91)).setRow w2.heap.size (ftC (foH H i))) := below_setRow (below_new1 _ _) (Nat.le_refl _) _
        have hb13 : Below wr.heap.size wr _ := hb2.trans (hb23.mono hb2.size)
        refine ⟨⟨HR.out.2.1.1, ?_⟩, HR.out.2.2.1.trans (hb13.mono HR.out.2.2.1.size)⟩
        rcases HR.out.2.1.2 with h | ⟨g, cap, cur, h1, h2, h3, h4⟩
        · exact .inl h
        · exact .inr ⟨g, cap, cur, h1, h2, (hb13.block g (Array.getElem?_eq_some_iff.1 h3).1).trans h3, h4⟩
      clear hb2 HF1
      go_wp2_with (first
        | (refine wpList_store_row (by rfl) 91 _ _ (by rfl) (w2.heap.size) (ftC (foH H i)) (by rfl) (by rfl) 91 (ftC ft00) (by exact f3) (sizeFt.trans (by rw [ftC_size])) (by simp only [ftC_size]) (ftC_all _) ?_; simp only [Act.put, List.setIfInBounds_toArray, List.set_cons_zero, List.set_cons_succ])
        | (refine wpList_load_rowg (by rfl) 91 _ (by rfl) (w2.heap.size) (by rfl) 91 (ftC (foH H i)) (0, 0) _ (by exact f3') Tryz.underlying91 (by rfl) (sizeFt.trans (by rw [ftC_size])) ?_; simp only [Act.put, List.setIfInBounds_toArray, List.set_cons_zero, List.set_cons_succ])
        | fail)
      clear f3 f3'
      generalize ((w2.alloc (.cells (ftC ft00) 91)).setRow w2.heap.size (ftC (foH H i))) = w3 at *
      go_loopw [4, 30] (fun v t wr => Hid (∃ (j m cap : Nat) (a : Option Addr), j ≤ 4 ∧ t = .int .i64 (j : Int) ∧ (usL H (4 * i + j)).length = m ∧ v = .slice a m cap ∧ wr.ownsRow w.heap.size 3 1 v m (usL H (4 * i + j)) ∧ Below w.heap.size w wr)) (fun _ t _ => 4 - (intOf t).toNat)
      case atStart => exact ⟨0, m, cap, a, by omega, rfl, HR.out.1, rfl, HR3.out.1, HR3.out.2⟩
      case round =>
        obtain ⟨j, mm, cap', a', hj, rfl, hmm, rfl, hown, hb⟩ := Hid.out hrel
        clear hrel HR3
        by_cases hj4 : j < 4
        · have j1 : (j : Int) < 4 := by omega
          have hix : ∀ w, (Instr.index 91 (.agg (ftC (foH H i))) (.int .i64 (j : Int))).run Tryz.prog w = .ok (.agg (hdC (foH H i j))) w := fun w => run_index_ft (foH H i) j hj4 w
          have q4 : Blk (wr.alloc (.cells (hdC hd00) 79)) wr.heap.size 79 (hdC hd00) := Blk.new _ _ _
          have q4' := q4.set (hdC (foH H i j))
          have hb34 : Below wr.heap.size wr ((wr.alloc (.cells (hdC hd00) 79)).setRow wr.heap.size (hdC (foH H i j))) := below_setRow (below_new1 _ _) (Nat.le_refl _) _
          have HR4 : Hid (((wr.alloc (.cells (hdC hd00) 79)).setRow wr.heap.size (hdC (foH H i j))).ownsRow w.heap.size 3 1 (.slice a' mm cap') mm (usL H (4 * i + j)) ∧ Below w.heap.size w ((wr.alloc (.cells (hdC hd00) 79)).setRow wr.heap.size (hdC (foH H i j))) ∧ j < 4 ∧ (usL H (4 * i + j)).length = mm) := by
            refine ⟨⟨hown.1, ?_⟩, hb.trans (hb34.mono hb.size), hj4, hmm⟩
            rcases hown.2 with h | ⟨g, cap, cur, h1, h2, h3, h4⟩
            · exact .inl h
            · exact .inr ⟨g, cap, cur, h1, h2, (hb34.block g (Array.getElem?_eq_some_iff.1 h3).1).trans h3, h4⟩
          have HIU : Hid (∀ w : World, Calls Tryz.prog 46 #[.agg (hdC (foH H i j))] w fun e w' => e = .returned (.bool ((foH H i j).k != 0)) ∧ Below w.heap.size w w') := inUse_any (foH H i j)
          clear hown hb hj hj4 hmm hb34
          go_wp2_with (first
            | (refine wpList_store_row (by rfl) 79 _ _ (by rfl) (wr.heap.size) (hdC (foH H i j)) (by rfl) (by rfl) 79 (hdC hd00) (by exact q4) (sizeHd.trans (by rw [hdC_size])) (by simp only [hdC_size]) (hdC_all _) ?_; simp only [Act.put, List.setIfInBounds_toArray, List.set_cons_zero, List.set_cons_succ])
            | (refine wpList_load_rowg (by rfl) 79 _ (by rfl) (wr.heap.size) (by rfl) 79 (hdC (foH H i j)) (0, 0) _ (by exact q4') Tryz.underlying79 (by rfl) (sizeHd.trans (by rw [hdC_size])) ?_; simp only [Act.put, List.setIfInBounds_toArray, List.set_cons_zero, List.set_cons_succ])
            | fail)
          clear q4 hix q4'
          generalize ((wr.alloc (.cells (hdC hd00) 79)).setRow wr.heap.size (hdC (foH H i j))) = w4 at *
          refine (HIU.out w4).mono ?_
          rintro e w5 ⟨rfl, hb5⟩
          have hown5 : w5.ownsRow w.heap.size 3 1 (.slice a' mm cap') mm (usL H (4 * i + j)) := by
            refine ⟨HR4.out.1.1, ?_⟩
            rcases HR4.out.1.2 with h | ⟨g, cap, cur, h1, h2, h3, h4⟩
            · exact .inl h
            · exact .inr ⟨g, cap, cur, h1, h2, (hb5.block g (Array.getElem?_eq_some_iff.1 h3).1).trans h3, h4⟩
          have hb5' : Below w.heap.size w w5 := HR4.out.2.1.trans (hb5.mono HR4.out.2.1.size)
          have HJ : Hid (j < 4 ∧ (usL H (4 * i + j)).length = mm) := HR4.out.2.2
          have hus : usL H (4 * i + j + 1) = usL H (4 * i + j) ++ (if (foH H i j).k = 0 then [] else [.int .i64 (((4 * i + j : Nat) : Int) + 1)]) := rfl
          clear hb5 HR4 HIU
          by_cases hk : (foH H i j).k = 0
          · have hkb : ((foH H i j).k != 0) = false := by rw [hk]; rfl
            rw [if_pos hk, List.append_nil] at hus
            have HUS : Hid (usL H (4 * i + j + 1) = usL H (4 * i + j)) := hus
            rw [hkb]
            clear hk hkb hus
            go_wp2_with fail
            go_roundw
            case rel => exact ⟨j + 1, mm, cap', a', HJ.out.1, by simp, by rw [← Nat.add_assoc, HUS.out]; exact HJ.out.2, rfl, by rw [← Nat.add_assoc, HUS.out]; exact hown5, hb5'⟩
            case measure =>
              have := HJ.out
              simp [intOf]
              omega
          · have hkb : ((foH H i j).k != 0) = true := by simpa using hk
            rw [if_neg hk] at hus
            have HUS : Hid (usL H (4 * i + j + 1) = usL H (4 * i + j) ++ [.int .i64 (((4 * i + j : Nat) : Int) + 1)]) := hus
            rw [hkb]
            have HNU1 := HNU.out i j (by have := HR.out; omega) HJ.out.1 w5
            have hv := hown5.lt
            have hsz := hb5'.size
            have hmb : mm ≤ 4096 := by have := usL_le H (4 * i + j); have := HJ.out; omega
            have e1 : (i : Int) * 4 + (j : Int) + 1 = ((4 * i + j : Nat) : Int) + 1 := by omega
            rw [e1] at HNU1
            clear hk hkb hus e1
            go_wp2_with fail
            refine HNU1.mono ?_
            rintro e w6 ⟨rfl, hw6⟩
            rw [hw6]
            clear hw6 w6 HNU1
            go_wp2_with (first
              | (at_builtin; refine wpList_append_own _ rfl _ _ 51 rfl (w.heap.size) 3 i0 (.int .i64 0) 1 8 Tryz.underlying51 hi hz0 hz1 hz2 rfl (by decide) _ _ _ rfl (hown5.alloc _) ⟨w5.heap.size, 0, none⟩ 1 1 [.int .i64 (((4 * i + j : Nat) : Int) + 1)] rfl rfl (cell_one_new _ _ _) (fun x hx => by simp at hx; subst hx; rfl) (by unfold maxLen; omega) (by omega) (by simp; omega) ?_)
              | go_in)
            intro v' w7 hown' hgrow _
            have hb7 : Below w.heap.size w w7 := (hb5'.alloc (by omega) _).grown hgrow (by simp; omega) (fun k hk => (hv k hk).1)
            have hown7 : w7.ownsRow w.heap.size 3 1 v' (mm + 1) (usL H (4 * i + j + 1)) := by
              rw [HUS.out]
              simpa using hown'
            obtain ⟨g3, cap3, hv3⟩ := kown_slice hown7
            subst hv3
            clear hown5 hv hgrow hb5' hown'
            go_wp2_with fail
            go_roundw
            case rel => exact ⟨j + 1, mm + 1, cap3, g3, HJ.out.1, by simp, by rw [← Nat.add_assoc, HUS.out, List.length_append, HJ.out.2]; rfl, rfl, by rw [← Nat.add_assoc]; exact hown7, hb7⟩
            case measure =>
              have := HJ.out
              simp [intOf]
              omega
        · have hj5 : j = 4 := by omega
          subst hj5
          have j1 : ¬ ((4 : Int) < 4) := by decide
          have HX : Hid ((usL H (4 * i + 4)).length = mm ∧ wr.ownsRow w.heap.size 3 1 (.slice a' mm cap') mm (usL H (4 * i + 4)) ∧ Below w.heap.size w wr) := ⟨hmm, hown, hb⟩
          clear hmm hown hb hj4 hj
          go_wp2_with fail
          go_roundw
          case rel => exact ⟨i + 1, mm, cap', a', HR.out.2.2.2, by simp, HX.out.1, rfl, HX.out.2.1, HX.out.2.2⟩
          case measure =>
            have := HR.out
            simp [intOf]
            omega
    · have hic' : i = c := by omega
      have i1 : ¬ ((i : Int) < (c : Int)) := by omega
      subst hic'
      subst hm
      clear hic
      go_wp2_with fail
      go_ret2
      exact ⟨a, cap, rfl, hown, hb⟩
end
end Go.Proofs.YtojbgggkfahkfaaGreat

namespace Go.Proofs.YtojbgggkfahkfaaGreat
open Go Go.RowKit
set_option linter.unusedSimpArgs false
set_option linter.unusedVariables false
theorem fl_build_at {P : Program} {ops : Array Oper} {rest : List Oper} {o : Oper} {a : Act} {w : World} {Q : Exit → Act → World → Prop} (hw : Region.wanted o (yielded ops a.tmps) = true) (t : TypeId) (parts : Array (Nat × Operand)) (ho : o.op = .build t parts) (vals : List (Nat × Value))
    (hv : (parts.map fun (i, x) => (i, a.eval x)).toList = vals) (cells : Array Value) (hf : P.built t vals = some cells) (h : wpList P ops Q rest (a.put o.dst (.agg cells)) w) : wpList P ops Q (o :: rest) a w :=
  wpList_step fun K hK => by
    rw [if_pos hw]
    subst hv
    refine wp_build t parts ho (by rw [hf]; rfl) ?_
    rw [hf]
    exact hK _ _ h
theorem built_md1 : Tryz.prog.built 33 [(1, .int .u64 1)] = some (mdC ⟨#[]⟩ 1) := by kernel_rfl
/-- a deed's cells -/
def acC (kd a m : Int) (s : ByteArray) (t : Nat) : Array Value := #[.int .i64 kd, .int .i64 a, .int .i64 m, .string s, .int .u64 ((t : Nat) : Int)]
theorem ac_cs {w : World} {b T : Nat} {kd a m : Int} {s : ByteArray} {t : Nat} (H : Blk w b T (acC kd a m s t)) : w.cell? ⟨b, 1, none⟩ = some (.int .i64 a) ∧ w.cell? ⟨b, 2, none⟩ = some (.int .i64 m) ∧ w.cell? ⟨b, 3, none⟩ = some (.string s) ∧ w.cell? ⟨b, 4, none⟩ = some (.int .u64 ((t : Nat) : Int)) := ⟨(H.cell 1).trans rfl, (H.cell 2).trans rfl, (H.cell 3).trans rfl, (H.cell 4).trans rfl⟩
theorem TwoErr.mono {w V : World} {xp : Value} {a b er : Int} (h : TwoErr w xp a b er) (hb : Below w.heap.size w V) : TwoErr V xp a b er := fun U hU => h U (hb.trans (hU.mono hb.size))
end Go.Proofs.YtojbgggkfahkfaaGreat
