/- The statement TreeWays: called with whatever height and place it returns true. -/
import Derived.Test.YtdhbjcnbdfidcaaHBlkKit
import Derived.ArgAppend
import Derived.Handy
import Derived.Test.YtdhbjcnbdfidcaaChecked
import Derived.WalkKit
import Derived.Laws.MakeOwn
import Derived.Maps.AppendAt
import Derived.BigQuiet
import Derived.Deep.QuietTactic

namespace Go.Proofs.Ytdhbjcnbdfidcaa
open Go Go.RowKit
set_option linter.unusedVariables false

theorem kown_mono {w : World} {B B' e size n : Nat} {v : Value} {xs : List Value} (h : w.ownsRow B e size v n xs) (hB : B' ≤ B) : w.ownsRow B' e size v n xs :=
  ⟨h.1, h.2.imp id fun ⟨g, cap, cur, a, b, r⟩ => ⟨g, cap, cur, a, Nat.le_trans hB b, r⟩⟩
theorem kown_form {w : World} {B e size n : Nat} {v : Value} {xs : List Value} (h : w.ownsRow B e size v n xs) (hn : 0 < n) : ∃ g cap, v = .slice (some ⟨g, 0, none⟩) n cap ∧ B ≤ g ∧ g < w.heap.size := by
  rcases h.2 with ⟨_, h0⟩ | ⟨g, cap, cur, rfl, hb, hg, _⟩
  · omega
  · exact ⟨g, cap, rfl, hb, (Array.getElem?_eq_some_iff.1 hg).1⟩
theorem kown_slice {w : World} {B e size n : Nat} {v : Value} {xs : List Value} (h : w.ownsRow B e size v n xs) : ∃ a cap, v = .slice a n cap := by
  rcases h.2 with ⟨rfl, rfl⟩ | ⟨g, cap, cur, rfl, hb, hg, _⟩
  · exact ⟨none, 0, rfl⟩
  · exact ⟨_, cap, rfl⟩
theorem kown_below {w w' : World} {B e size n : Nat} {v : Value} {xs : List Value} (h : w.ownsRow B e size v n xs) (hb : Below w.heap.size w w') : w'.ownsRow B e size v n xs := by
  refine ⟨h.1, ?_⟩
  rcases h.2 with hn | ⟨g, cap, cur, rfl, hg, hgg, rest⟩
  · exact .inl hn
  · exact .inr ⟨g, cap, cur, rfl, hg, (hb.block g (Array.getElem?_eq_some_iff.1 hgg).1).trans hgg, rest⟩
theorem kown_kept {w w' : World} {B e size n : Nat} {v : Value} {xs : List Value} (h : w.ownsRow B e size v n xs) (hk : ∀ k, B ≤ k → v.ownBlock = some k → w'.heap[k]? = w.heap[k]?) : w'.ownsRow B e size v n xs := by
  refine ⟨h.1, ?_⟩
  rcases h.2 with hn | ⟨g, cap, cur, rfl, hg, hgg, rest⟩
  · exact .inl hn
  · exact .inr ⟨g, cap, cur, rfl, hg, (hk g hg rfl).trans hgg, rest⟩
theorem kown_setRow {w : World} {B e size n : Nat} {v : Value} {xs : List Value} (h : w.ownsRow B e size v n xs) {g : Nat} (hne : ∀ k, B ≤ k → v.ownBlock = some k → k ≠ g) (cs : Array Value) : (w.setRow g cs).ownsRow B e size v n xs :=
  kown_kept h fun k hk hv => setRow_other w g k cs (hne k hk hv)
theorem kown_empty {w : World} {B e size g : Nat} (h : Blk w g e #[]) (hB : B ≤ g) : w.ownsRow B e size (.slice (some ⟨g, 0, none⟩) 0 0) 0 [] :=
  ⟨by simp, .inr ⟨g, 0, #[], rfl, hB, h, Nat.le_refl _, by unfold maxLen; omega, by simp, by simp⟩⟩
theorem infoU8k : (Try.prog.info? 5).map (fun i => (i.zero, i.size, i.bytes)) = some (some (.int .u8 0), 1, 1) := by kernel_rfl
/-- bytes of an own slice, as a text -/
theorem run_own_text {P : Program} (w : World) (src e dst : TypeId) (hs : P.underlying src = some (.slice e)) (he : P.underlying e = some (.int .u8)) (hd : P.underlying dst = some .string) {B n g cap e' : Nat} {f : Nat → Nat} (h : w.ownsRow B e' 1 (.slice (some ⟨g, 0, none⟩) n cap) n (byL f n)) :
    (convert src dst (.slice (some ⟨g, 0, none⟩) n cap)).run P w = .ok (.string (strN f n)) w :=
  run_convert_bytes_arg w src e hs he g 0 n cap _ (by simp) (fun i hi => by
    rw [Nat.zero_add, h.cellAt i (by omega), byL_at _ _ _ hi]
    simp [List.getD_eq_getElem?_getD, hi]) dst hd
end Go.Proofs.Ytdhbjcnbdfidcaa

namespace Go.Proofs.Ytdhbjcnbdfidcaa
open Go Go.RowKit
set_option linter.unusedSimpArgs false
set_option linter.unusedVariables false

theorem and3 (z : Nat) (hz : z < 9223372036854775808) : bits .and .i64 (z : Int) 3 = ((z % 4 : Nat) : Int) := by
  have h1 : (BitVec.ofInt 64 (z : Int)).toNat = z := by
    rw [BitVec.ofInt_natCast, BitVec.toNat_ofNat]; exact Nat.mod_eq_of_lt (by omega)
  have h2 : (BitVec.ofInt 64 (3 : Int)).toNat = 3 := by decide
  show IntKind.i64.wrap ((BitVec.ofInt 64 (z : Int) &&& BitVec.ofInt 64 (3 : Int)).toNat : Int) = _
  rw [BitVec.toNat_and, h1, h2, Nat.and_two_pow_sub_one_eq_mod z 2, IntKind.wrap_i64]
  omega
theorem pow4_le (h : Nat) (hh : h ≤ 6) : 4 ^ h ≤ 4096 := Nat.pow_le_pow_right (n := 4) (by decide) hh
theorem pow4_pos (h : Nat) : 1 ≤ 4 ^ h := Nat.pow_pos (n := h) (by decide : 0 < 4)
/-- the least height -/
def hgt (n : Nat) : Nat := if n ≤ 1 then 0 else if n ≤ 4 then 1 else if n ≤ 16 then 2 else if n ≤ 64 then 3 else if n ≤ 256 then 4 else if n ≤ 1024 then 5 else 6
theorem hgt_eq (n k : Nat) (hk : k ≤ 6) (h1 : n ≤ 4 ^ k) (h2 : ∀ j, j < k → 4 ^ j < n) : hgt n = k := by
  unfold hgt
  have g0 := h2 0
  have g1 := h2 1
  have g2 := h2 2
  have g3 := h2 3
  have g4 := h2 4
  have g5 := h2 5
  obtain rfl | rfl | rfl | rfl | rfl | rfl | rfl : k = 0 ∨ k = 1 ∨ k = 2 ∨ k = 3 ∨ k = 4 ∨ k = 5 ∨ k = 6 := by omega
  all_goals simp only [Nat.reducePow, Nat.lt_irrefl, Nat.zero_lt_succ, true_implies, Nat.reduceLT] at g0 g1 g2 g3 g4 g5 h1
  all_goals (repeat' split) <;> omega
theorem mayBe_yes (h : Nat) (hh : h ≤ 6) (w : World) : Calls Try.prog 39 #[.int .i64 (h : Int)] w fun e w' => e = .returned (.bool true) ∧ w = w' := by
  have hd : decide ((h : Int) ≤ 6) = true := decide_eq_true (by omega)
  go_enter Try.func39, Try.ntmps39
  go_wp2
  go_ret
  exact ⟨rfl, rfl⟩
theorem mayBe_no (h : Int) (hh : h < 0 ∨ 6 < h) (w : World) : Calls Try.prog 39 #[.int .i64 h] w fun e w' => e = .returned (.bool false) ∧ w = w' := by
  go_enter Try.func39, Try.ntmps39
  rcases hh with hh | hh
  · go_wp2
    go_ret
    exact ⟨rfl, rfl⟩
  · have h0 : 0 ≤ h := by omega
    have hd : decide (h ≤ 6) = false := decide_eq_false (by omega)
    go_wp2
    go_ret
    exact ⟨rfl, rfl⟩
theorem wrap_pow4 (p h : Nat) (hp : p * 4 ^ h < 9223372036854775808) : wrap64 ((p : Int) * 2 ^ (2 * h)) = ((p * 4 ^ h : Nat) : Int) := by
  have e : ((p : Int) * 2 ^ (2 * h)) = ((p * 4 ^ h : Nat) : Int) := by
    rw [show (4 : Nat) ^ h = 2 ^ (2 * h) by rw [Nat.pow_mul]]
    push_cast
    rfl
  rw [e, ← IntWalk.i64_left, IntKind.wrap_i64]
  omega
theorem firstLeaf_any (h p c : Nat) (hh : h ≤ 6) (hc : p * 4 ^ h = c) (hp : p < 1099511627776) (w : World) : Calls Try.prog 40 #[.int .i64 (h : Int), .int .i64 (p : Int)] w fun e w' => e = .returned (.int .i64 (c : Int)) ∧ w = w' := by
  have hq : p * 4 ^ h < 9223372036854775808 := by
    have h1 := pow4_le h hh
    have h2 := Nat.mul_le_mul (Nat.le_of_lt hp) h1
    omega
  have h1 : (h : Int) ≤ 6 := by omega
  go_enter Try.func40, Try.ntmps40
  go_wp2
  go_ret
  refine ⟨congrArg (fun x => Ending.returned (.int .i64 x)) ?_, rfl⟩
  rw [← hc]
  exact wrap_pow4 p h hq
theorem capacity_ok (h c : Nat) (hh : h ≤ 6) (hc : 4 ^ h = c) (w : World) : Calls Try.prog 21 #[.int .i64 (h : Int)] w fun e w' => e = .returned (.tuple #[.int .i64 (c : Int), .int .i64 0]) ∧ w = w' := by
  go_enter Try.func21, Try.ntmps21
  go_wp2_with fail
  refine (mayBe_yes h hh w).mono ?_
  rintro e _ ⟨rfl, rfl⟩
  go_wp2_with fail
  refine (firstLeaf_any h 1 c hh (by omega) (by decide) w).mono ?_
  rintro e _ ⟨rfl, rfl⟩
  go_wp2_with fail
  go_ret2
  exact ⟨rfl, rfl⟩
theorem capacity_bad (h : Int) (hh : h < 0 ∨ 6 < h) (w : World) : Calls Try.prog 21 #[.int .i64 h] w fun e w' => e = .returned (.tuple #[.int .i64 0, .int .i64 1]) ∧ w = w' := by
  go_enter Try.func21, Try.ntmps21
  go_wp2_with fail
  refine (mayBe_no h hh w).mono ?_
  rintro e _ ⟨rfl, rfl⟩
  go_wp2_with fail
  go_ret2
  exact ⟨rfl, rfl⟩
theorem height_neg (n : Int) (hn : n < 0) (w : World) : Calls Try.prog 23 #[.int .i64 n] w fun e w' => e = .returned (.tuple #[.int .i64 0, .int .i64 1]) ∧ w = w' := by
  go_enter Try.func23, Try.ntmps23
  go_wp2_with fail
  go_ret2
  exact ⟨rfl, rfl⟩
theorem height_ok (n v : Nat) (hn : n ≤ 4096) (hv : hgt n = v) (w : World) : Calls Try.prog 23 #[.int .i64 (n : Int)] w fun e w' => e = .returned (.tuple #[.int .i64 (v : Int), .int .i64 0]) ∧ w = w' := by
  go_enter Try.func23, Try.ntmps23
  go_wp2_with fail
  go_loopw [9] (fun i wr => ∃ k : Nat, k ≤ 7 ∧ i = .int .i64 (k : Int) ∧ (∀ j, j < k → 4 ^ j < n) ∧ w = wr) (fun i _ => 7 - (intOf i).toNat)
  case atStart => exact ⟨0, by omega, rfl, fun j hj => by omega, by trivial⟩
  case round =>
    obtain ⟨k, hk, rfl, hl, rfl⟩ := hrel
    by_cases hlt : k < 7
    · obtain ⟨c, hc⟩ : ∃ c, 4 ^ k = c := ⟨_, rfl⟩
      go_wp2_with fail
      refine (capacity_ok k c (by omega) hc w).mono ?_
      rintro e _ ⟨rfl, rfl⟩
      by_cases hle : n ≤ c
      · have h4 : c ≤ 4096 := hc ▸ pow4_le k (by omega)
        go_wp2_with fail
        go_ret2
        have hkv : k = v := (hgt_eq n k (by omega) (by omega) hl).symm.trans hv
        subst hkv
        exact ⟨rfl, rfl⟩
      · go_wp2_with fail
        go_roundw
        case rel => exact ⟨k + 1, hlt, by congr 1, fun j hj => by
          rcases Nat.lt_or_ge j k with h | h
          · exact hl j h
          · rw [show j = k by omega, hc]
            omega, by trivial⟩
        case measure =>
          simp only [intOf]
          omega
    · have h6 := hl 6 (by omega)
      omega
theorem height_big (n : Nat) (hn : 4096 < n) (w : World) : Calls Try.prog 23 #[.int .i64 (n : Int)] w fun e w' => e = .returned (.tuple #[.int .i64 0, .int .i64 1]) ∧ w = w' := by
  go_enter Try.func23, Try.ntmps23
  go_wp2_with fail
  go_loopw [9] (fun i wr => ∃ k : Nat, k ≤ 7 ∧ i = .int .i64 (k : Int) ∧ (∀ j, j < k → 4 ^ j < n) ∧ w = wr) (fun i _ => 7 - (intOf i).toNat)
  case atStart => exact ⟨0, by omega, rfl, fun j hj => by omega, by trivial⟩
  case round =>
    obtain ⟨k, hk, rfl, hl, rfl⟩ := hrel
    by_cases hlt : k < 7
    · obtain ⟨c, hc⟩ : ∃ c, 4 ^ k = c := ⟨_, rfl⟩
      go_wp2_with fail
      refine (capacity_ok k c (by omega) hc w).mono ?_
      rintro e _ ⟨rfl, rfl⟩
      by_cases hle : n ≤ c
      · have h4 : c ≤ 4096 := hc ▸ pow4_le k (by omega)
        omega
      · go_wp2_with fail
        go_roundw
        case rel => exact ⟨k + 1, hlt, by congr 1, fun j hj => by
          rcases Nat.lt_or_ge j k with h | h
          · exact hl j h
          · rw [show j = k by omega, hc]
            omega, by trivial⟩
        case measure =>
          simp only [intOf]
          omega
    · have h6 := hl 6 (by omega)
      have hk7 : k = 7 := by omega
      subst hk7
      go_wp2_with fail
      go_ret2
      exact ⟨rfl, rfl⟩
theorem refCap_any (h c : Nat) (hh : h ≤ 6) (hc : 4 ^ h = c) (w : World) : Calls Try.prog 26 #[.int .i64 (h : Int)] w fun e w' => e = .returned (.int .i64 (c : Int)) ∧ w = w' := by
  go_enter Try.func26, Try.ntmps26
  go_wp2_with fail
  go_loopw [3, 4] (fun n i wr => ∃ k b : Nat, k ≤ h ∧ i = .int .i64 (k : Int) ∧ n = .int .i64 (b : Int) ∧ 4 ^ k = b ∧ w = wr) (fun _ i _ => h - (intOf i).toNat)
  case atStart => exact ⟨0, 1, by omega, rfl, rfl, rfl, rfl⟩
  case round =>
    obtain ⟨k, b, hk, rfl, rfl, hb, rfl⟩ := hrel
    have h4 : b ≤ 4096 := hb ▸ pow4_le k (by omega)
    by_cases hlt : k < h
    · go_wp2_with fail
      go_roundw
      case rel => exact ⟨k + 1, b * 4, hlt, by congr 1, by congr 1, by rw [Nat.pow_succ, hb], by trivial⟩
      case measure =>
        simp only [intOf]
        omega
    · have hkh : k = h := by omega
      subst hkh
      have hbc : b = c := by omega
      subst hbc
      go_wp2_with fail
      go_ret
      exact ⟨rfl, rfl⟩
theorem refHeight_any (n v : Nat) (hn : n ≤ 4096) (hv : hgt n = v) (w : World) : Calls Try.prog 25 #[.int .i64 (n : Int)] w fun e w' => e = .returned (.int .i64 (v : Int)) ∧ w = w' := by
  go_enter Try.func25, Try.ntmps25
  go_wp2_with fail
  go_loopw [3] (fun i wr => ∃ k : Nat, k ≤ 6 ∧ i = .int .i64 (k : Int) ∧ (∀ j, j < k → 4 ^ j < n) ∧ w = wr) (fun i _ => 7 - (intOf i).toNat)
  case atStart => exact ⟨0, by omega, rfl, fun j hj => by omega, by trivial⟩
  case round =>
    obtain ⟨k, hk, rfl, hl, rfl⟩ := hrel
    obtain ⟨c, hc⟩ : ∃ c, 4 ^ k = c := ⟨_, rfl⟩
    go_wp2_with fail
    refine (refCap_any k c (by omega) hc w).mono ?_
    rintro e _ ⟨rfl, rfl⟩
    by_cases hle : n ≤ c
    · go_wp2_with fail
      go_ret
      have hkv : k = v := (hgt_eq n k (by omega) (by omega) hl).symm.trans hv
      subst hkv
      exact ⟨rfl, rfl⟩
    · have hk5 : k < 6 := by
        rcases Nat.lt_or_ge k 6 with h | h
        · exact h
        · rw [show k = 6 by omega] at hc
          omega
      go_wp2_with fail
      go_roundw
      case rel => exact ⟨k + 1, hk5, by congr 1, fun j hj => by
        rcases Nat.lt_or_ge j k with h | h
        · exact hl j h
        · rw [show j = k by omega, hc]
          omega, by trivial⟩
      case measure =>
        simp only [intOf]
        omega
/-- the place at step i of a way -/
def wayN (h p : Nat) : Nat → Nat := fun i => p / 4 ^ (h - 1 - i) % 4
theorem wayN_lt (h p i : Nat) : wayN h p i < 4 := Nat.mod_lt _ (by decide)
theorem tinfoInt : (Try.prog.info? 3).map (fun i => (i.zero, i.size, i.bytes)) = some (some (.int .i64 0), 1, 8) := by kernel_rfl
theorem tinfo_parts {t : TypeId} {z : Value} {n b : Nat} (h : (Try.prog.info? t).map (fun i => (i.zero, i.size, i.bytes)) = some (some z, n, b)) : ∃ i, Try.prog.info? t = some i ∧ i.zero = some z ∧ i.size = n ∧ i.bytes = b := by
  cases hq : Try.prog.info? t with
  | none => simp [hq] at h
  | some i =>
    simp [hq] at h
    exact ⟨i, rfl, h.1, h.2.1, h.2.2⟩
theorem tmade_one (v : Value) (n : Nat) : madeCells #[v] n = va n fun _ => v := by
  refine va_ext (size_madeCells _ _) fun i hi => ?_
  unfold madeCells
  simp [hi, Nat.mod_one]
theorem tmake_ints (n : Nat) (hn : n ≤ 8192) (w : World) : (Instr.makeSlice 69 (.int .i64 (n : Int)) (.int .i64 (n : Int))).run Try.prog w = .ok (.slice (some ⟨w.heap.size, 0, none⟩) n n) (w.alloc (.cells (va n (iv .i64 fun _ => 0)) 3)) := by
  obtain ⟨i0, hi, hz0, hz1, hz2⟩ := tinfo_parts tinfoInt
  have := run_make (P := Try.prog) w 69 3 i0 (.int .i64 0) Try.underlying69 hi hz0 .i64 .i64 (n : Int) (n : Int) (by omega) (Int.le_refl _) (by rw [hz2]; omega) (by omega)
  rw [hz1] at this
  simp only [Int.toNat_natCast, Value.cells, tmade_one, Nat.mul_one] at this
  exact this
theorem shr_way (p k : Nat) : (p : Int) / 2 ^ (2 * k) = ((p / 4 ^ k : Nat) : Int) := by
  rw [show (4 : Nat) ^ k = 2 ^ (2 * k) by rw [Nat.pow_mul]]
  push_cast
  rfl
set_option maxHeartbeats 1000000 in
theorem way_ok (h p : Nat) (hh : h ≤ 6) (hp : p < 4 ^ h) (w : World) : Calls Try.prog 22 #[.int .i64 (h : Int), .int .i64 (p : Int)] w fun e w' => e = .returned (.tuple #[.slice (some ⟨w.heap.size, 0, none⟩) h h, .int .i64 0]) ∧ Blk w' w.heap.size 3 (va h (iv .i64 (wayN h p))) ∧ Below w.heap.size w w' := by
  obtain ⟨c, hc⟩ : ∃ c, 4 ^ h = c := ⟨_, rfl⟩
  have hc4 : c ≤ 4096 := hc ▸ pow4_le h hh
  rw [hc] at hp
  have hmk := tmake_ints h (by omega)
  have h6 : (h : Int) ≤ 6 := by omega
  have hd1 : decide ((p : Int) < 0) = false := decide_eq_false (by omega)
  have hd2 : decide (c ≤ p) = false := decide_eq_false (by omega)
  have HC : Hid (4 ^ h = c) := hc
  clear hc
  go_enter Try.func22, Try.ntmps22
  go_wp2_with fail
  refine (capacity_ok h c hh HC.out w).mono ?_
  rintro e _ ⟨rfl, rfl⟩
  go_wp2_with fail
  have b0 := Blk.new w 3 (va h (iv .i64 fun _ => 0))
  have hb0 : Below w.heap.size w (w.alloc (.cells (va h (iv .i64 fun _ => 0)) 3)) := (Below.refl _ _).alloc (Nat.le_refl _) _
  generalize (w.alloc (.cells (va h (iv .i64 fun _ => 0)) 3)) = w1 at *
  go_loopw [29] (fun i wr => ∃ k : Nat, k ≤ h ∧ i = .int .i64 (k : Int) ∧ Blk wr w.heap.size 3 (va h (iv .i64 (fupN k (wayN h p) fun _ => 0))) ∧ Below w.heap.size w wr) (fun i _ => h - (intOf i).toNat)
  case atStart => exact ⟨0, Nat.zero_le _, rfl, by rw [fup_zero]; exact b0, hb0⟩
  case round =>
    clear b0 hb0
    obtain ⟨k, hk, rfl, bk, hb⟩ := hrel
    by_cases hlt : k < h
    · have hfz := bk.frozen k
      have hcv := bk.cv hlt
      obtain ⟨l, hl⟩ : ∃ l : Nat, l = h - 1 - k := ⟨_, rfl⟩
      have hl1 : (h : Int) - 1 - (k : Int) = (l : Int) := by omega
      have hl6 : (l : Int) ≤ 6 := by omega
      have hv : bits .and .i64 ((p : Int) / 2 ^ (2 * (h - 1 - k))) 3 = ((wayN h p k : Nat) : Int) := by
        rw [shr_way, and3 _ (Nat.lt_of_le_of_lt (Nat.div_le_self _ _) (by omega))]
        rfl
      have bk1 := bk.put k (.int .i64 (wayN h p k : Int))
      rw [va_set, fup_step] at bk1
      go_wp2_with fail
      refine ⟨⟨k + 1, hlt, rfl, bk1, hb.setCell (p := ⟨w.heap.size, k, none⟩) (Nat.le_refl _) _⟩, ?_⟩
      simp only [intOf]
      omega
    · have hkh : k = h := by omega
      subst hkh
      go_wp2_with fail
      go_ret2
      refine ⟨rfl, ?_, hb⟩
      rw [fup_all _ _ _ _ _ (Nat.le_refl _)] at bk
      exact bk
theorem way_arg (h p : Int) (hh : h < 0 ∨ 6 < h) (w : World) : Calls Try.prog 22 #[.int .i64 h, .int .i64 p] w fun e w' => e = .returned (.tuple #[.slice none 0 0, .int .i64 1]) ∧ w = w' := by
  go_enter Try.func22, Try.ntmps22
  go_wp2_with fail
  refine (capacity_bad h hh w).mono ?_
  rintro e _ ⟨rfl, rfl⟩
  go_wp2_with fail
  go_ret2
  exact ⟨rfl, rfl⟩
theorem way_place (h : Nat) (p : Int) (hh : h ≤ 6) (hp : p < 0 ∨ ((4 ^ h : Nat) : Int) ≤ p) (w : World) : Calls Try.prog 22 #[.int .i64 (h : Int), .int .i64 p] w fun e w' => e = .returned (.tuple #[.slice none 0 0, .int .i64 90]) ∧ w = w' := by
  obtain ⟨c, hc⟩ : ∃ c, 4 ^ h = c := ⟨_, rfl⟩
  rw [hc] at hp
  have HC : Hid (4 ^ h = c) := hc
  clear hc
  go_enter Try.func22, Try.ntmps22
  go_wp2_with fail
  refine (capacity_ok h c hh HC.out w).mono ?_
  rintro e _ ⟨rfl, rfl⟩
  by_cases hp0 : p < 0
  · have hd1 : decide (p < 0) = true := decide_eq_true hp0
    go_wp2_with fail
    go_ret2
    exact ⟨rfl, rfl⟩
  · have hd1 : decide (p < 0) = false := decide_eq_false hp0
    have hp1 : (c : Int) ≤ p := by omega
    have hd2 : decide ((c : Int) ≤ p) = true := decide_eq_true hp1
    clear hp
    go_wp2_with fail
    go_ret2
    exact ⟨rfl, rfl⟩
/-- the places of a way, as values -/
def inL (f : Nat → Nat) (n : Nat) : List Value := (List.range n).map (iv .i64 f)
theorem inL_succ (f : Nat → Nat) (n : Nat) : inL f (n + 1) = inL f n ++ [.int .i64 (f n : Int)] := by
  unfold inL
  rw [List.range_succ, List.map_append]
  rfl
set_option maxRecDepth 100000 in
set_option maxHeartbeats 2000000 in
theorem refWay_any (h p : Nat) (hh : h ≤ 6) (hp : p < 4 ^ h) (w : World) : Calls Try.prog 27 #[.int .i64 (h : Int), .int .i64 (p : Int)] w fun e w' => ∃ a cap, e = .returned (.slice a h cap) ∧ w'.ownsRow w.heap.size 3 1 (.slice a h cap) h (inL (wayN h p) h) ∧ Below w.heap.size w w' := by
  obtain ⟨i0, hi, hz0, hz1, hz2⟩ := tinfo_parts tinfoInt
  have hp4 : p < 4096 := Nat.lt_of_lt_of_le hp (pow4_le h hh)
  have h6 : (h : Int) ≤ 6 := by omega
  clear hp
  have r1 := Blk.new w 3 #[]
  have hb1 : Below w.heap.size w (w.alloc (.cells #[] 3)) := (Below.refl _ _).alloc (Nat.le_refl _) _
  go_enter Try.func27, Try.ntmps27
  go_wp2_with fail
  generalize (w.alloc (.cells #[] 3)) = W at *
  go_loopw [5, 6] (fun v i wr => ∃ (k : Nat) (a : Option Addr) (cap : Nat), k ≤ h ∧ i = .int .i64 ((h : Int) - 1 - (k : Int)) ∧ v = .slice a k cap ∧ wr.ownsRow w.heap.size 3 1 v k (inL (wayN h p) k) ∧ Below w.heap.size w wr) (fun _ i _ => (intOf i + 1).toNat)
  case atStart => exact ⟨0, _, _, by omega, by simp, rfl, kown_empty r1 (Nat.le_refl _), hb1⟩
  case round =>
    clear r1 hb1
    obtain ⟨k, a, cap, hk, rfl, rfl, hown, hb⟩ := hrel
    have hv := hown.lt
    have hsz := hb.size
    by_cases hlt : k < h
    · obtain ⟨l, hl⟩ : ∃ l : Nat, l = h - 1 - k := ⟨_, rfl⟩
      have hl1 : (h : Int) - 1 - (k : Int) = (l : Int) := by omega
      obtain ⟨c, hc⟩ : ∃ c, 4 ^ l = c := ⟨_, rfl⟩
      have hc1 : 1 ≤ c := hc ▸ pow4_pos l
      have hc0 : ¬ (c : Int) = 0 := by omega
      have hc4 : c ≤ 4096 := hc ▸ pow4_le l (by omega)
      have HW : Hid (wayN h p k = p / c % 4) := by
        show _ = _
        unfold wayN
        rw [← hl, hc]
      rw [hl1]
      have HC : Hid (4 ^ l = c) := hc
      have HL : Hid (l ≤ 6) := by
        show _ ≤ _
        omega
      have HL1 : Hid ((h : Int) - 1 - (k : Int) = (l : Int)) := hl1
      obtain ⟨d, hd⟩ : ∃ d, p / c % 4 = d := ⟨_, rfl⟩
      have HZ : Hid (inL (wayN h p) (k + 1) = inL (wayN h p) k ++ [Value.int .i64 (d : Int)]) := by
        show _ = _
        rw [inL_succ, HW.out, hd]
      have hq : (wrap64 ((p : Int) / (c : Int))).tmod 4 = (d : Int) := by
        have h1 : p / c ≤ p := Nat.div_le_self _ _
        rw [show (p : Int) / (c : Int) = ((p / c : Nat) : Int) by omega, ← IntWalk.i64_left, IntKind.wrap_i64, ← hd]
        have h2 : ((p / c : Nat) : Int) ≤ 4096 := by omega
        have h3 : (0 : Int) ≤ ((p / c : Nat) : Int) := Int.natCast_nonneg _
        generalize p / c = z at *
        rw [show ((z : Int) + 9223372036854775808) % 18446744073709551616 - 9223372036854775808 = (z : Int) by omega]
        rfl
      clear hd
      have hwl : wrap64 ((l : Int) - 1) = (l : Int) - 1 := by
        rw [← IntWalk.i64_left, IntKind.wrap_i64]
        omega
      generalize inL (wayN h p) k = LL at *
      clear hc hl hl1
      go_wp2_with fail
      refine (refCap_any l c HL.out HC.out wr).mono ?_
      rintro e _ ⟨rfl, rfl⟩
      go_wp2_with (first
        | (at_builtin; refine wpList_append_own _ rfl _ _ 69 rfl (w.heap.size) 3 i0 (.int .i64 0) 1 8 Try.underlying69 hi hz0 hz1 hz2 rfl (by decide) _ _ _ rfl (hown.alloc _) ⟨wr.heap.size, 0, none⟩ 1 1 [.int .i64 (d : Int)] rfl rfl (cell_one_new _ _ _) (fun x hx => by simp at hx; subst hx; rfl) (by unfold maxLen; omega) (by omega) (by simp; omega) ?_)
        | go_in)
      intro v' w2 hown' hgrow _
      have hb2 : Below w.heap.size w w2 := (hb.alloc (by omega) _).grown hgrow (by simp; omega) (fun k hk => (hv k hk).1)
      have hown2 : w2.ownsRow w.heap.size 3 1 v' (k + 1) (inL (wayN h p) (k + 1)) := by
        rw [HZ.out]
        simpa using hown'
      obtain ⟨g3, cap3, hv3⟩ := kown_slice hown2
      subst hv3
      clear hown hv hgrow hb hown'
      go_wp2_with fail
      have hl1 := HL1.out
      refine ⟨⟨k + 1, g3, cap3, by omega, congrArg (Value.int .i64) (by push_cast; omega), rfl, hown2, hb2⟩, ?_⟩
      simp only [intOf]
      omega
    · have hkh : k = h := by omega
      subst hkh
      go_wp2_with fail
      go_ret
      exact ⟨_, _, rfl, hown, hb⟩
end Go.Proofs.Ytdhbjcnbdfidcaa

namespace Go.Proofs.Ytdhbjcnbdfidcaa
open Go Go.RowKit
set_option linter.unusedSimpArgs false
set_option linter.unusedVariables false

set_option maxRecDepth 100000 in
set_option maxHeartbeats 4000000 in
theorem awake9_any (w : World) : Calls Try.prog 24 #[] w fun e w' => e = .returned (.bool true) ∧ Below w.heap.size w w' := by
  have hW : Hid (Calls Try.prog 22 #[.int .i64 2, .int .i64 6] w fun e w' => e = .returned (.tuple #[.slice (some ⟨w.heap.size, 0, none⟩) 2 2, .int .i64 0]) ∧ Blk w' w.heap.size 3 (va 2 (iv .i64 (wayN 2 6))) ∧ Below w.heap.size w w') := way_ok 2 6 (by decide) (by decide) w
  have hC : Hid (∀ w : World, Calls Try.prog 21 #[.int .i64 3] w fun e w' => e = .returned (.tuple #[.int .i64 64, .int .i64 0]) ∧ w = w') := fun w => capacity_ok 3 64 (by decide) (by decide) w
  go_enter Try.func24, Try.ntmps24
  go_wp2_with fail
  refine hW.out.mono ?_
  rintro e w1 ⟨rfl, b1, hb1⟩
  have c0 : w1.cell? ⟨w.heap.size, 0, none⟩ = some (.int .i64 1) := b1.cv (by decide)
  have c1 : w1.cell? ⟨w.heap.size, 1, none⟩ = some (.int .i64 2) := b1.cv (by decide)
  go_wp2_with fail
  refine (hC.out w1).mono ?_
  rintro e _ ⟨rfl, rfl⟩
  go_wp2_with fail
  go_ret
  exact ⟨rfl, hb1⟩
set_option maxRecDepth 100000 in
set_option maxHeartbeats 4000000 in
theorem tw_bad_lo_neg (h : Int) (hh : h < 0) (p : Int) (hp : p < 0) (w : World) : Calls Try.prog 4 #[.int .i64 h, .int .i64 p] w fun e w' => e = .returned (.bool true) ∧ Below w.heap.size w w' := by
  have q0 : decide (h < 0) = true := decide_eq_true hh
  have p0 : decide (0 ≤ p) = false := decide_eq_false (by omega)
  have p1 : decide (p < 0) = true := decide_eq_true hp
  go_enter Try.func4, Try.ntmps4
  go_wp2_with fail
  refine (capacity_bad h (.inl hh) w).mono ?_
  rintro e _ ⟨rfl, rfl⟩
  go_wp2_with fail
  refine (way_arg h p (.inl hh) w).mono ?_
  rintro e _ ⟨rfl, rfl⟩
  go_wp2_with fail
  refine (height_neg p hp w).mono ?_
  rintro e _ ⟨rfl, rfl⟩
  go_wp2_with fail
  refine (awake9_any w).mono ?_
  rintro e w2 ⟨rfl, hb2⟩
  go_wp2_with fail
  go_ret
  exact ⟨rfl, hb2⟩
set_option maxRecDepth 100000 in
set_option maxHeartbeats 4000000 in
theorem tw_bad_lo_ok (h : Int) (hh : h < 0) (p : Nat) (hp : p ≤ 4096) (w : World) : Calls Try.prog 4 #[.int .i64 h, .int .i64 (p : Int)] w fun e w' => e = .returned (.bool true) ∧ Below w.heap.size w w' := by
  have q0 : decide (h < 0) = true := decide_eq_true hh
  have p0 : decide ((0 : Int) ≤ (p : Int)) = true := decide_eq_true (by omega)
  have p1 : decide ((p : Int) < 0) = false := decide_eq_false (by omega)
  have p2 : decide (p ≤ 4096) = true := decide_eq_true hp
  have p3 : decide ((p : Int) ≤ 4096) = true := decide_eq_true (by omega)
  obtain ⟨v, hv⟩ : ∃ v, hgt p = v := ⟨_, rfl⟩
  have HV : Hid (hgt p = v) := hv
  clear hv
  go_enter Try.func4, Try.ntmps4
  go_wp2_with fail
  refine (capacity_bad h (.inl hh) w).mono ?_
  rintro e _ ⟨rfl, rfl⟩
  go_wp2_with fail
  refine (way_arg h (p : Int) (.inl hh) w).mono ?_
  rintro e _ ⟨rfl, rfl⟩
  go_wp2_with fail
  refine (height_ok p v hp HV.out w).mono ?_
  rintro e _ ⟨rfl, rfl⟩
  go_wp2_with fail
  refine (awake9_any w).mono ?_
  rintro e w2 ⟨rfl, hb2⟩
  go_wp2_with fail
  refine (refHeight_any p v hp HV.out w2).mono ?_
  rintro e _ ⟨rfl, rfl⟩
  go_wp2_with fail
  go_ret
  exact ⟨rfl, hb2⟩
set_option maxRecDepth 100000 in
set_option maxHeartbeats 4000000 in
theorem tw_bad_lo_big (h : Int) (hh : h < 0) (p : Nat) (hp : 4096 < p) (w : World) : Calls Try.prog 4 #[.int .i64 h, .int .i64 (p : Int)] w fun e w' => e = .returned (.bool true) ∧ Below w.heap.size w w' := by
  have q0 : decide (h < 0) = true := decide_eq_true hh
  have p0 : decide ((0 : Int) ≤ (p : Int)) = true := decide_eq_true (by omega)
  have p1 : decide ((p : Int) < 0) = false := decide_eq_false (by omega)
  have p2 : decide (p ≤ 4096) = false := decide_eq_false (by omega)
  have p3 : decide ((p : Int) ≤ 4096) = false := decide_eq_false (by omega)
  go_enter Try.func4, Try.ntmps4
  go_wp2_with fail
  refine (capacity_bad h (.inl hh) w).mono ?_
  rintro e _ ⟨rfl, rfl⟩
  go_wp2_with fail
  refine (way_arg h (p : Int) (.inl hh) w).mono ?_
  rintro e _ ⟨rfl, rfl⟩
  go_wp2_with fail
  refine (height_big p hp w).mono ?_
  rintro e _ ⟨rfl, rfl⟩
  go_wp2_with fail
  refine (awake9_any w).mono ?_
  rintro e w2 ⟨rfl, hb2⟩
  go_wp2_with fail
  go_ret
  exact ⟨rfl, hb2⟩
set_option maxRecDepth 100000 in
set_option maxHeartbeats 4000000 in
theorem tw_bad_hi_neg (h : Int) (hh : 6 < h) (p : Int) (hp : p < 0) (w : World) : Calls Try.prog 4 #[.int .i64 h, .int .i64 p] w fun e w' => e = .returned (.bool true) ∧ Below w.heap.size w w' := by
  have q0 : decide (h < 0) = false := decide_eq_false (by omega)
  have q1 : decide (6 < h) = true := decide_eq_true hh
  have p0 : decide (0 ≤ p) = false := decide_eq_false (by omega)
  have p1 : decide (p < 0) = true := decide_eq_true hp
  go_enter Try.func4, Try.ntmps4
  go_wp2_with fail
  refine (capacity_bad h (.inr hh) w).mono ?_
  rintro e _ ⟨rfl, rfl⟩
  go_wp2_with fail
  refine (way_arg h p (.inr hh) w).mono ?_
  rintro e _ ⟨rfl, rfl⟩
  go_wp2_with fail
  refine (height_neg p hp w).mono ?_
  rintro e _ ⟨rfl, rfl⟩
  go_wp2_with fail
  refine (awake9_any w).mono ?_
  rintro e w2 ⟨rfl, hb2⟩
  go_wp2_with fail
  go_ret
  exact ⟨rfl, hb2⟩
set_option maxRecDepth 100000 in
set_option maxHeartbeats 4000000 in
theorem tw_bad_hi_ok (h : Int) (hh : 6 < h) (p : Nat) (hp : p ≤ 4096) (w : World) : Calls Try.prog 4 #[.int .i64 h, .int .i64 (p : Int)] w fun e w' => e = .returned (.bool true) ∧ Below w.heap.size w w' := by
  have q0 : decide (h < 0) = false := decide_eq_false (by omega)
  have q1 : decide (6 < h) = true := decide_eq_true hh
  have p0 : decide ((0 : Int) ≤ (p : Int)) = true := decide_eq_true (by omega)
  have p1 : decide ((p : Int) < 0) = false := decide_eq_false (by omega)
  have p2 : decide (p ≤ 4096) = true := decide_eq_true hp
  have p3 : decide ((p : Int) ≤ 4096) = true := decide_eq_true (by omega)
  obtain ⟨v, hv⟩ : ∃ v, hgt p = v := ⟨_, rfl⟩
  have HV : Hid (hgt p = v) := hv
  clear hv
  go_enter Try.func4, Try.ntmps4
  go_wp2_with fail
  refine (capacity_bad h (.inr hh) w).mono ?_
  rintro e _ ⟨rfl, rfl⟩
  go_wp2_with fail
  refine (way_arg h (p : Int) (.inr hh) w).mono ?_
  rintro e _ ⟨rfl, rfl⟩
  go_wp2_with fail
  refine (height_ok p v hp HV.out w).mono ?_
  rintro e _ ⟨rfl, rfl⟩
  go_wp2_with fail
  refine (awake9_any w).mono ?_
  rintro e w2 ⟨rfl, hb2⟩
  go_wp2_with fail
  refine (refHeight_any p v hp HV.out w2).mono ?_
  rintro e _ ⟨rfl, rfl⟩
  go_wp2_with fail
  go_ret
  exact ⟨rfl, hb2⟩
set_option maxRecDepth 100000 in
set_option maxHeartbeats 4000000 in
theorem tw_bad_hi_big (h : Int) (hh : 6 < h) (p : Nat) (hp : 4096 < p) (w : World) : Calls Try.prog 4 #[.int .i64 h, .int .i64 (p : Int)] w fun e w' => e = .returned (.bool true) ∧ Below w.heap.size w w' := by
  have q0 : decide (h < 0) = false := decide_eq_false (by omega)
  have q1 : decide (6 < h) = true := decide_eq_true hh
  have p0 : decide ((0 : Int) ≤ (p : Int)) = true := decide_eq_true (by omega)
  have p1 : decide ((p : Int) < 0) = false := decide_eq_false (by omega)
  have p2 : decide (p ≤ 4096) = false := decide_eq_false (by omega)
  have p3 : decide ((p : Int) ≤ 4096) = false := decide_eq_false (by omega)
  go_enter Try.func4, Try.ntmps4
  go_wp2_with fail
  refine (capacity_bad h (.inr hh) w).mono ?_
  rintro e _ ⟨rfl, rfl⟩
  go_wp2_with fail
  refine (way_arg h (p : Int) (.inr hh) w).mono ?_
  rintro e _ ⟨rfl, rfl⟩
  go_wp2_with fail
  refine (height_big p hp w).mono ?_
  rintro e _ ⟨rfl, rfl⟩
  go_wp2_with fail
  refine (awake9_any w).mono ?_
  rintro e w2 ⟨rfl, hb2⟩
  go_wp2_with fail
  go_ret
  exact ⟨rfl, hb2⟩
set_option maxRecDepth 100000 in
set_option maxHeartbeats 4000000 in
theorem tw_place_neg (h : Nat) (hh : h ≤ 6) (p : Int) (hp : p < 0) (w : World) : Calls Try.prog 4 #[.int .i64 (h : Int), .int .i64 p] w fun e w' => e = .returned (.bool true) ∧ Below w.heap.size w w' := by
  obtain ⟨c, hc⟩ : ∃ c, 4 ^ h = c := ⟨_, rfl⟩
  have HC : Hid (4 ^ h = c) := hc
  have q0 : decide ((h : Int) < 0) = false := decide_eq_false (by omega)
  have q1 : decide (6 < (h : Int)) = false := decide_eq_false (by omega)
  have q2 : decide (6 < h) = false := decide_eq_false (by omega)
  clear hc
  have p0 : decide (0 ≤ p) = false := decide_eq_false (by omega)
  have p1 : decide (p < 0) = true := decide_eq_true hp
  go_enter Try.func4, Try.ntmps4
  go_wp2_with fail
  refine (capacity_ok h c hh HC.out w).mono ?_
  rintro e _ ⟨rfl, rfl⟩
  go_wp2_with fail
  refine (way_place h p hh (.inl hp) w).mono ?_
  rintro e _ ⟨rfl, rfl⟩
  go_wp2_with fail
  refine (height_neg p hp w).mono ?_
  rintro e _ ⟨rfl, rfl⟩
  go_wp2_with fail
  refine (awake9_any w).mono ?_
  rintro e w2 ⟨rfl, hb2⟩
  go_wp2_with fail
  refine (refCap_any h c hh HC.out w2).mono ?_
  rintro e _ ⟨rfl, rfl⟩
  go_wp2_with fail
  go_ret
  exact ⟨rfl, hb2⟩
set_option maxRecDepth 100000 in
set_option maxHeartbeats 4000000 in
theorem tw_place_ok (h : Nat) (hh : h ≤ 6) (p : Nat) (hp : p ≤ 4096) (hcp : 4 ^ h ≤ p) (w : World) : Calls Try.prog 4 #[.int .i64 (h : Int), .int .i64 (p : Int)] w fun e w' => e = .returned (.bool true) ∧ Below w.heap.size w w' := by
  obtain ⟨c, hc⟩ : ∃ c, 4 ^ h = c := ⟨_, rfl⟩
  have HC : Hid (4 ^ h = c) := hc
  have q0 : decide ((h : Int) < 0) = false := decide_eq_false (by omega)
  have q1 : decide (6 < (h : Int)) = false := decide_eq_false (by omega)
  have q2 : decide (6 < h) = false := decide_eq_false (by omega)
  have HP : Hid (((4 ^ h : Nat) : Int) ≤ (p : Int)) := by
    show _ ≤ _
    omega
  have p4 : decide (c ≤ p) = true := decide_eq_true (by omega)
  clear hc hcp
  have p0 : decide ((0 : Int) ≤ (p : Int)) = true := decide_eq_true (by omega)
  have p1 : decide ((p : Int) < 0) = false := decide_eq_false (by omega)
  have p2 : decide (p ≤ 4096) = true := decide_eq_true hp
  have p3 : decide ((p : Int) ≤ 4096) = true := decide_eq_true (by omega)
  obtain ⟨v, hv⟩ : ∃ v, hgt p = v := ⟨_, rfl⟩
  have HV : Hid (hgt p = v) := hv
  clear hv
  go_enter Try.func4, Try.ntmps4
  go_wp2_with fail
  refine (capacity_ok h c hh HC.out w).mono ?_
  rintro e _ ⟨rfl, rfl⟩
  go_wp2_with fail
  refine (way_place h (p : Int) hh (.inr HP.out) w).mono ?_
  rintro e _ ⟨rfl, rfl⟩
  go_wp2_with fail
  refine (height_ok p v hp HV.out w).mono ?_
  rintro e _ ⟨rfl, rfl⟩
  go_wp2_with fail
  refine (awake9_any w).mono ?_
  rintro e w2 ⟨rfl, hb2⟩
  go_wp2_with fail
  refine (refHeight_any p v hp HV.out w2).mono ?_
  rintro e _ ⟨rfl, rfl⟩
  go_wp2_with fail
  refine (refCap_any h c hh HC.out w2).mono ?_
  rintro e _ ⟨rfl, rfl⟩
  go_wp2_with fail
  go_ret
  exact ⟨rfl, hb2⟩
set_option maxRecDepth 100000 in
set_option maxHeartbeats 4000000 in
theorem tw_place_big (h : Nat) (hh : h ≤ 6) (p : Nat) (hp : 4096 < p) (hcp : 4 ^ h ≤ p) (w : World) : Calls Try.prog 4 #[.int .i64 (h : Int), .int .i64 (p : Int)] w fun e w' => e = .returned (.bool true) ∧ Below w.heap.size w w' := by
  obtain ⟨c, hc⟩ : ∃ c, 4 ^ h = c := ⟨_, rfl⟩
  have HC : Hid (4 ^ h = c) := hc
  have q0 : decide ((h : Int) < 0) = false := decide_eq_false (by omega)
  have q1 : decide (6 < (h : Int)) = false := decide_eq_false (by omega)
  have q2 : decide (6 < h) = false := decide_eq_false (by omega)
  have HP : Hid (((4 ^ h : Nat) : Int) ≤ (p : Int)) := by
    show _ ≤ _
    omega
  have p4 : decide (c ≤ p) = true := decide_eq_true (by omega)
  clear hc hcp
  have p0 : decide ((0 : Int) ≤ (p : Int)) = true := decide_eq_true (by omega)
  have p1 : decide ((p : Int) < 0) = false := decide_eq_false (by omega)
  have p2 : decide (p ≤ 4096) = false := decide_eq_false (by omega)
  have p3 : decide ((p : Int) ≤ 4096) = false := decide_eq_false (by omega)
  go_enter Try.func4, Try.ntmps4
  go_wp2_with fail
  refine (capacity_ok h c hh HC.out w).mono ?_
  rintro e _ ⟨rfl, rfl⟩
  go_wp2_with fail
  refine (way_place h (p : Int) hh (.inr HP.out) w).mono ?_
  rintro e _ ⟨rfl, rfl⟩
  go_wp2_with fail
  refine (height_big p hp w).mono ?_
  rintro e _ ⟨rfl, rfl⟩
  go_wp2_with fail
  refine (awake9_any w).mono ?_
  rintro e w2 ⟨rfl, hb2⟩
  go_wp2_with fail
  refine (refCap_any h c hh HC.out w2).mono ?_
  rintro e _ ⟨rfl, rfl⟩
  go_wp2_with fail
  go_ret
  exact ⟨rfl, hb2⟩
set_option maxRecDepth 100000 in
set_option maxHeartbeats 4000000 in
theorem tw_fine (h : Nat) (hh : h ≤ 6) (p : Nat) (hp : p ≤ 4096) (hcp : p < 4 ^ h) (w : World) : Calls Try.prog 4 #[.int .i64 (h : Int), .int .i64 (p : Int)] w fun e w' => e = .returned (.bool true) ∧ Below w.heap.size w w' := by
  obtain ⟨c, hc⟩ : ∃ c, 4 ^ h = c := ⟨_, rfl⟩
  have HC : Hid (4 ^ h = c) := hc
  have q0 : decide ((h : Int) < 0) = false := decide_eq_false (by omega)
  have q1 : decide (6 < (h : Int)) = false := decide_eq_false (by omega)
  have q2 : decide (6 < h) = false := decide_eq_false (by omega)
  have HP : Hid (p < 4 ^ h) := hcp
  have p4 : decide (c ≤ p) = false := decide_eq_false (by omega)
  have h6 : (h : Int) ≤ 6 := by omega
  clear hc hcp
  have p0 : decide ((0 : Int) ≤ (p : Int)) = true := decide_eq_true (by omega)
  have p1 : decide ((p : Int) < 0) = false := decide_eq_false (by omega)
  have p2 : decide (p ≤ 4096) = true := decide_eq_true hp
  have p3 : decide ((p : Int) ≤ 4096) = true := decide_eq_true (by omega)
  obtain ⟨v, hv⟩ : ∃ v, hgt p = v := ⟨_, rfl⟩
  have HV : Hid (hgt p = v) := hv
  clear hv
  go_enter Try.func4, Try.ntmps4
  go_wp2_with fail
  refine (capacity_ok h c hh HC.out w).mono ?_
  rintro e _ ⟨rfl, rfl⟩
  go_wp2_with fail
  refine (way_ok h p hh HP.out w).mono ?_
  rintro e w1 ⟨rfl, b1, hb1⟩
  go_wp2_with fail
  refine (height_ok p v hp HV.out w1).mono ?_
  rintro e _ ⟨rfl, rfl⟩
  go_wp2_with fail
  refine (awake9_any w1).mono ?_
  rintro e w2 ⟨rfl, hb2⟩
  go_wp2_with fail
  refine (refHeight_any p v hp HV.out w2).mono ?_
  rintro e _ ⟨rfl, rfl⟩
  go_wp2_with fail
  refine (refCap_any h c hh HC.out w2).mono ?_
  rintro e _ ⟨rfl, rfl⟩
  go_wp2_with fail
  refine (refWay_any h p hh HP.out w2).mono ?_
  rintro e w3 ⟨a3, c3, rfl, ho, hb3⟩
  have hb3' : Below w.heap.size w w3 := (hb1.trans (hb2.mono hb1.size)).trans (hb3.mono (hb1.trans (hb2.mono hb1.size)).size)
  have b3 : Blk w3 w.heap.size 3 (va h (iv .i64 (wayN h p))) := (b1.below hb2 b1.lt).below hb3 (b1.below hb2 b1.lt).lt
  go_wp2_with fail
  go_loopw [12] (fun i wr => ∃ k : Nat, k ≤ h ∧ i = .int .i64 (k : Int) ∧ Below w3.heap.size w3 wr) (fun i _ => h - (intOf i).toNat)
  case atStart => exact ⟨0, Nat.zero_le _, rfl, Below.refl _ _⟩
  case round =>
    obtain ⟨k, hk, rfl, hbr⟩ := hrel
    by_cases hlt : k < h
    · have k0 : (0 : Int) ≤ (k : Int) := by omega
      have k1 : (k : Int) < (h : Int) := by omega
      obtain ⟨g3, hg3, x2⟩ : ∃ g3, a3 = some ⟨g3, 0, none⟩ ∧ wr.cell? ⟨g3, k, none⟩ = some (.int .i64 (wayN h p k : Int)) := by
        have ho2 := kown_below ho hbr
        obtain ⟨g3, cap, e, h1, h2⟩ := kown_form ho2 (by omega)
        injection e with e1 e2 e3
        subst e1
        refine ⟨g3, rfl, ?_⟩
        rw [ho2.cellAt k (by omega)]
        simp [inL, hlt, iv]
      subst hg3
      have x1 : wr.cell? ⟨w.heap.size, k, none⟩ = some (.int .i64 (wayN h p k : Int)) := (b3.below hbr b3.lt).cv hlt
      go_wp2_with fail
      go_quiet (fail)
      go_wp2_with fail
      refine ⟨⟨k + 1, hlt, by congr 1, (⟨hbr.1, hbr.2, hbr.3, hbr.4, hbr.5⟩ : Below w3.heap.size w3 (wr.drewN nq))⟩, ?_⟩
      simp only [intOf]
      omega
    · have hkh : k = h := by omega
      subst hkh
      go_wp2_with fail
      go_ret
      exact ⟨rfl, hb3'.trans (hbr.mono hb3'.size)⟩
theorem treeWaysLaw (h p : Int) (w : World) : Calls Try.prog 4 #[.int .i64 h, .int .i64 p] w fun e w' => e = .returned (.bool true) ∧ Below w.heap.size w w' := by
  by_cases h0 : h < 0
  · by_cases p0 : p < 0
    · exact tw_bad_lo_neg h h0 p p0 w
    · obtain ⟨q, rfl⟩ : ∃ q : Nat, p = (q : Int) := ⟨p.toNat, by omega⟩
      by_cases p1 : q ≤ 4096
      · exact tw_bad_lo_ok h h0 q p1 w
      · exact tw_bad_lo_big h h0 q (by omega) w
  · by_cases h6 : 6 < h
    · by_cases p0 : p < 0
      · exact tw_bad_hi_neg h h6 p p0 w
      · obtain ⟨q, rfl⟩ : ∃ q : Nat, p = (q : Int) := ⟨p.toNat, by omega⟩
        by_cases p1 : q ≤ 4096
        · exact tw_bad_hi_ok h h6 q p1 w
        · exact tw_bad_hi_big h h6 q (by omega) w
    · obtain ⟨n, rfl⟩ : ∃ n : Nat, h = (n : Int) := ⟨h.toNat, by omega⟩
      have hn : n ≤ 6 := by omega
      have h4 := pow4_le n hn
      by_cases p0 : p < 0
      · exact tw_place_neg n hn p p0 w
      · obtain ⟨q, rfl⟩ : ∃ q : Nat, p = (q : Int) := ⟨p.toNat, by omega⟩
        by_cases p1 : q ≤ 4096
        · by_cases p2 : q < 4 ^ n
          · exact tw_fine n hn q p1 p2 w
          · exact tw_place_ok n hn q p1 (by omega) w
        · exact tw_place_big n hn q (by omega) (by omega) w
end Go.Proofs.Ytdhbjcnbdfidcaa
