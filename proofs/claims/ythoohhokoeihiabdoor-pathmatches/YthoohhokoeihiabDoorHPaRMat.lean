/- The document's matches: is a name what a pattern says? -/
import Derived.Test.YthoohhokoeihiabDoorHPaMatch
import Derived.Test.YthoohhokoeihiabDoorHRowf
import Derived.Test.YthoohhokoeihiabDoorRows
import Derived.ChangeKeysEq
import Derived.WalkKit
import Derived.Laws.BytesArg
import Derived.Laws.ResultCell
import Derived.Handy
import Derived.Laws.MakeOwn
import Derived.BigQuiet
import Derived.Deep.QuietTactic

namespace Go.Proofs.YthoohhokoeihiabDoor
open Go Go.RowKit Go.Shelf Go.Nam
set_option linter.unusedVariables false
set_option linter.unusedSimpArgs false
open Classical in
/-- may the first j signs of the pattern stand for the first k bytes? -/
noncomputable def mF (P s : List UInt8) (j k : Nat) : Bool := decide (Mat (P.take j) (s.take k))
theorem mF_iff {P s : List UInt8} {j k : Nat} : mF P s j k = true ↔ Mat (P.take j) (s.take k) := by
  unfold mF
  exact @decide_eq_true_iff _ (Classical.propDecidable _)
theorem mF_no {P s : List UInt8} {j k : Nat} : mF P s j k = false ↔ ¬ Mat (P.take j) (s.take k) := by
  rw [← mF_iff]
  simp
theorem tk_snoc {P : List UInt8} {j : Nat} {p : UInt8} (h : P[j]? = some p) : P.take (j + 1) = P.take j ++ [p] := by
  obtain ⟨hj, e⟩ := List.getElem?_eq_some_iff.1 h
  rw [← e]
  exact (List.take_append_getElem hj).symm
theorem mF_zero (P s : List UInt8) : mF P s 0 0 = true := mF_iff.2 (by simpa using Mat.nil)
theorem mF_zero_succ {P s : List UInt8} {k : Nat} (hk : k < s.length) : mF P s 0 (k + 1) = false := by
  rw [mF_no, List.take_zero, Mat.nil_iff]
  intro h
  have := congrArg List.length h
  rw [List.length_take] at this
  simp at this
  rw [this] at hk
  simp at hk
theorem mF_star {P s : List UInt8} {j k : Nat} (h : P[j]? = some 42) (hk : k < s.length) : mF P s (j + 1) (k + 1) = (mF P s j (k + 1) || mF P s (j + 1) k) := by
  rw [Bool.eq_iff_iff, Bool.or_eq_true, mF_iff, mF_iff, mF_iff, tk_snoc h]
  exact Mat.snoc_star hk
theorem mF_one {P s : List UInt8} {j k : Nat} {p c : UInt8} (h : P[j]? = some p) (hp : p ≠ 42) (hc : s[k]? = some c) : mF P s (j + 1) (k + 1) = (decide (p = 63 ∨ p = c) && mF P s j k) := by
  obtain ⟨hk, e⟩ := List.getElem?_eq_some_iff.1 hc
  rw [Bool.eq_iff_iff, Bool.and_eq_true, mF_iff, mF_iff, tk_snoc h, Mat.snoc_one hp hk, e]
  simp [And.comm]
theorem mF_mono {P s : List UInt8} {j k : Nat} (h : P[j]? = some 42) (hm : mF P s j k = true) : mF P s (j + 1) k = true := by
  rw [mF_iff] at hm ⊢
  rw [tk_snoc h]
  exact Mat.app.2 ⟨(s.take k).length, Nat.le_refl _, by rw [List.take_length]; exact hm, by rw [List.drop_length]; exact Mat.none Mat.nil⟩
theorem mF_nil_star {P s : List UInt8} {j : Nat} (h : P[j]? = some 42) (hm : mF P s j 0 = true) : mF P s (j + 1) 0 = true := mF_mono h hm
theorem mF_nil_no {P s : List UInt8} {i j : Nat} {p : UInt8} (h : P[i]? = some p) (hp : p ≠ 42) (hj : i < j) : mF P s j 0 = false := by
  rw [mF_no, List.take_zero, Mat.nil_all]
  intro h2
  refine hp (h2 p ?_)
  obtain ⟨hi, e⟩ := List.getElem?_eq_some_iff.1 h
  refine List.mem_of_getElem? (i := i) ?_
  rw [List.getElem?_take_of_lt hj]
  exact h
/-- the row behind the first pass -/
noncomputable def s1F (P s : List UInt8) (k : Nat) (c : UInt8) : Nat → Bool
  | 0 => false
  | j + 1 => match P[j]? with
    | none => false
    | some p => if p = 42 then mF P s (j + 1) k else (decide (p = 63 ∨ p = c) && mF P s j k)
theorem s1_at {P s : List UInt8} {k j : Nat} {c p : UInt8} (h : P[j]? = some p) : s1F P s k c (j + 1) = if p = 42 then mF P s (j + 1) k else (decide (p = 63 ∨ p = c) && mF P s j k) := by
  rw [s1F, h]
noncomputable def r3F (P s : List UInt8) (k : Nat) (c : UInt8) (i j : Nat) : Bool := if j ≤ i then s1F P s k c j else false
noncomputable def r4F (P s : List UInt8) (k : Nat) (c : UInt8) (i j : Nat) : Bool := if j ≤ i then mF P s j (k + 1) else s1F P s k c j
/-- bools as values -/
def rv (f : Nat → Bool) : Nat → Value := fun j => .bool (f j)
theorem row_set {n i : Nat} {f g : Nat → Bool} {b : Bool} (h : ∀ j, j < n → g j = if j = i then b else f j) : (va n (rv f)).setIfInBounds i (.bool b) = va n (rv g) := by
  rw [va_set]
  refine va_congr fun j hj => ?_
  show upd (rv f) i (.bool b) j = rv g j
  unfold upd rv
  rw [h j hj]
  by_cases e : j = i
  · rw [if_pos e, if_pos e]
  · rw [if_neg e, if_neg e]
theorem row_same {n : Nat} {f g : Nat → Bool} (h : ∀ j, j < n → f j = g j) : va n (rv f) = va n (rv g) := va_congr fun j hj => by show Value.bool _ = _; rw [h j hj]; rfl
theorem r3_yes {P s : List UInt8} {k i : Nat} {c : UInt8} (h : s1F P s k c (i + 1) = true) (j : Nat) : r3F P s k c (i + 1) j = if j = i + 1 then true else r3F P s k c i j := by
  unfold r3F
  by_cases e : j = i + 1
  · subst e; rw [if_pos (Nat.le_refl _), if_pos rfl, h]
  · rw [if_neg e]
    by_cases e2 : j ≤ i
    · rw [if_pos e2, if_pos (by omega)]
    · rw [if_neg e2, if_neg (by omega)]
theorem r3_no {P s : List UInt8} {k i : Nat} {c : UInt8} (h : s1F P s k c (i + 1) = false) (j : Nat) : r3F P s k c i j = r3F P s k c (i + 1) j := by
  unfold r3F
  by_cases e : j = i + 1
  · subst e; rw [if_neg (by omega), if_pos (Nat.le_refl _), h]
  · by_cases e2 : j ≤ i
    · rw [if_pos e2, if_pos (by omega)]
    · rw [if_neg e2, if_neg (by omega)]
theorem r4_yes {P s : List UInt8} {k i : Nat} {c : UInt8} (h : mF P s (i + 1) (k + 1) = true) (j : Nat) : r4F P s k c (i + 1) j = if j = i + 1 then true else r4F P s k c i j := by
  unfold r4F
  by_cases e : j = i + 1
  · subst e; rw [if_pos (Nat.le_refl _), if_pos rfl, h]
  · rw [if_neg e]
    by_cases e2 : j ≤ i
    · rw [if_pos e2, if_pos (by omega)]
    · rw [if_neg e2, if_neg (by omega)]
theorem r4_no {P s : List UInt8} {k i : Nat} {c : UInt8} (h : mF P s (i + 1) (k + 1) = s1F P s k c (i + 1)) (j : Nat) : r4F P s k c i j = r4F P s k c (i + 1) j := by
  unfold r4F
  by_cases e : j = i + 1
  · subst e; rw [if_neg (by omega), if_pos (Nat.le_refl _), h]
  · by_cases e2 : j ≤ i
    · rw [if_pos e2, if_pos (by omega)]
    · rw [if_neg e2, if_neg (by omega)]
theorem made_oneD (v : Value) (n : Nat) : madeCells #[v] n = va n fun _ => v := by
  refine va_ext (size_madeCells _ _) fun i hi => ?_
  unfold madeCells
  simp [hi, Nat.mod_one]
theorem infoBoolD : (Tryd.prog.info? 4).map (fun i => (i.zero, i.size, i.bytes)) = some (some (.bool false), 1, 1) := by kernel_rfl
theorem make_boolsD (n : Nat) (hn : n ≤ 8192) (w : World) : (Instr.makeSlice 58 (.int .i64 ((n : Int) + 1)) (.int .i64 ((n : Int) + 1))).run Tryd.prog w = .ok (.slice (some ⟨w.heap.size, 0, none⟩) (n + 1) (n + 1)) (w.alloc (.cells (va (n + 1) (rv fun _ => false)) 4)) := by
  obtain ⟨i0, hi, hz0, hz1, hz2⟩ := info_parts infoBoolD
  have := run_make (P := Tryd.prog) w 58 4 i0 (.bool false) Tryd.underlying58 hi hz0 .i64 .i64 ((n : Int) + 1) ((n : Int) + 1) (by omega) (Int.le_refl _) (by rw [hz2]; omega) (by omega)
  rw [hz1] at this
  rw [show ((n : Int) + 1).toNat = n + 1 by omega] at this
  simp only [Value.cells, made_oneD, Nat.mul_one] at this
  exact this
set_option maxRecDepth 100000 in
set_option maxHeartbeats 8000000 in
theorem matches18_any (P s : ByteArray) (hP : P.size ≤ 3000) (hs : s.size ≤ 4611686018427387904) (mb : Bool) (hmb : mb = true ↔ Mat P.data.toList s.data.toList) (w : World) :
    Calls Tryd.prog 20 #[.string P, .string s] w fun e w' => e = .returned (.bool mb) ∧ Below w.heap.size w w' := by
  have HMB : Hid (mF P.data.toList s.data.toList P.size s.size = mb) := by
    show _ = mb
    rw [Bool.eq_iff_iff, mF_iff, hmb, Lib.size_eq, Lib.size_eq, List.take_length, List.take_length]
  have HPL : Hid (P.size = P.data.toList.length) := Lib.size_eq P
  have HSL : Hid (s.size = s.data.toList.length) := Lib.size_eq s
  clear hmb
  obtain ⟨m, hm⟩ : ∃ m, P.size = m := ⟨_, rfl⟩
  have hmk := make_boolsD m (by omega)
  have HPm : Hid (P.size = m) := hm
  have k0 := Blk.new w 4 (va (m + 1) (rv fun _ => false))
  have c0 := k0.cv (i := 0) (by omega)
  have f0 := k0.frozen 0
  have z1 : (0 : Int) < (m : Int) + 1 := by omega
  have HB0 : Hid (Below w.heap.size w (w.alloc (.cells ((va (m + 1) (rv fun _ => false)).setIfInBounds 0 (.bool true)) 4))) := (Below.refl _ w).alloc (Nat.le_refl _) _
  have HK0 : Hid (Blk (w.alloc (.cells ((va (m + 1) (rv fun _ => false)).setIfInBounds 0 (.bool true)) 4)) w.heap.size 4 (va (m + 1) (rv fun j => decide (j ≤ 0)))) := by
    have := Blk.new w 4 ((va (m + 1) (rv fun _ => false)).setIfInBounds 0 (.bool true))
    rw [row_set (g := fun j => decide (j ≤ 0))] at this ⊢
    · exact this
    all_goals
      intro j _
      by_cases e : j = 0
      · rw [if_pos e, decide_eq_true (by omega)]
      · rw [if_neg e, decide_eq_false (by omega)]
  clear k0
  go_enter Tryd.func20, Tryd.ntmps20
  go_wp2_with fail
  clear c0 f0 hm
  generalize w.alloc (.cells ((va (m + 1) (rv fun _ => false)).setIfInBounds 0 (.bool true)) 4) = w0 at *
  generalize hgn : w.heap.size = gn at *
  have HGN : Hid (gn = w.heap.size) := hgn.symm
  clear hgn
  go_loopw [6] (fun v wr => Hid (∃ i : Nat, i ≤ m ∧ v = .int .i64 (i : Int) ∧ Blk wr gn 4 (va (m + 1) (rv fun j => decide (j ≤ i))) ∧ (∀ j, j ≤ i → mF P.data.toList s.data.toList j 0 = true) ∧ Below gn w wr)) (fun v wr => m - (intOf v).toNat)
  case atStart => exact ⟨0, by omega, rfl, HK0.out, fun j hj => by rw [show j = 0 by omega]; exact mF_zero _ _, HB0.out⟩
  case round =>
    obtain ⟨i, him, rfl, kn, hst, hB⟩ := Hid.out hrel
    clear hrel HK0 HB0
    have hPs : (P.size : Int) = (m : Int) := by rw [HPm.out]
    by_cases hi : i < m
    · have hiz : (i : Int) < (m : Int) := by omega
      have hi2 : i < P.size := by rw [HPm.out]; exact hi
      have hxl := Lib.data_getElem? P i hi2
      obtain ⟨x, hx⟩ : ∃ x : UInt8, P[i]'hi2 = x := ⟨_, rfl⟩
      rw [hx] at hxl
      by_cases x1 : x = 42
      · have b1 : ((x.toNat : Int) == 42) = true := by rw [x1]; rfl
        have b2 : (x.toNat : Int) = 42 := by rw [x1]; rfl
        rw [x1] at hxl
        have cx := kn.cv (i := i + 1) (by omega)
        have fx := kn.frozen (i + 1)
        have i2 : (0 : Int) ≤ (i : Int) + 1 := by omega
        have i3 : (i : Int) + 1 < (m : Int) + 1 := by omega
        have kn2 := kn.put (i + 1) (.bool true)
        rw [row_set (g := fun j => decide (j ≤ i + 1)) (fun j _ => by
          by_cases e : j = i + 1
          · rw [if_pos e, decide_eq_true (by omega)]
          · rw [if_neg e]
            by_cases e2 : j ≤ i
            · rw [decide_eq_true e2, decide_eq_true (by omega)]
            · rw [decide_eq_false e2, decide_eq_false (by omega)])] at kn2
        have HN : Hid (_ ∧ _ ∧ _) := ⟨kn2, (fun j (hj : j ≤ i + 1) => by
          by_cases e : j = i + 1
          · rw [e]; exact mF_nil_star hxl (hst i (Nat.le_refl _))
          · exact hst j (by omega) : ∀ j, j ≤ i + 1 → mF P.data.toList s.data.toList j 0 = true), hB.setCell (p := ⟨gn, i + 1, none⟩) (Nat.le_refl _) (.bool true)⟩
        clear x1 kn kn2 hst hB hxl
        go_wp2_with fail
        go_roundw
        case rel => exact ⟨i + 1, by omega, by first | rfl | go_num | simp, HN.out.1, HN.out.2.1, HN.out.2.2⟩
        case measure => simp [intOf]; omega
      · have b1 : ((x.toNat : Int) == 42) = false := ubeq_ne x1
        have b2 : ¬ (x.toNat : Int) = 42 := by simpa using b1
        have kn2 : Blk wr gn 4 (va (m + 1) (rv fun j => mF P.data.toList s.data.toList j 0)) := by
          rw [row_same (g := fun j => mF P.data.toList s.data.toList j 0)] at kn
          · exact kn
          · intro j _
            by_cases e : j ≤ i
            · rw [decide_eq_true e, hst j e]
            · rw [decide_eq_false e, mF_nil_no hxl x1 (by omega)]
        clear x1 kn hst hxl
        have HB : Hid (Below gn w wr) := hB
        clear hB
        go_wp2_with fail
        go_loopw [5, 7] (fun u v wr => Hid (∃ (k g : Nat), k ≤ s.size ∧ v = .int .i64 (k : Int) ∧ u = .slice (some ⟨g, 0, none⟩) (m + 1) (m + 1) ∧ gn ≤ g ∧ Blk wr g 4 (va (m + 1) (rv fun j => mF P.data.toList s.data.toList j k)) ∧ Below gn w wr)) (fun u v wr => s.size - (intOf v).toNat)
        case atStart => exact ⟨0, gn, by omega, rfl, rfl, Nat.le_refl _, kn2, HB.out⟩
        case round =>
          obtain ⟨k, g, hks, rfl, rfl, hgg, kn, hB⟩ := Hid.out hrel
          clear hrel kn2 HB
          by_cases hk : k < s.size
          · have hkz : (k : Int) < (s.size : Int) := by omega
            have hkS : k < s.data.toList.length := by rw [← HSL.out]; exact hk
            have hcl := Lib.data_getElem? s k hk
            obtain ⟨c, hc⟩ : ∃ c : UInt8, s[k]'hk = c := ⟨_, rfl⟩
            rw [hc] at hcl
            have HC : Hid (s.data.toList[k]? = some c) := hcl
            clear hcl
            have kn1 := kn.alloc (.cells (va (m + 1) (rv fun _ => false)) 4)
            have kx1 : Blk (wr.alloc (.cells (va (m + 1) (rv fun _ => false)) 4)) wr.heap.size 4 (va (m + 1) (rv (r3F P.data.toList s.data.toList k c 0))) := by
              rw [← row_same (f := fun _ => false) (g := r3F P.data.toList s.data.toList k c 0) (fun j _ => by
                unfold r3F
                split
                · rename_i hj
                  rw [show j = 0 by omega]
                  rfl
                · rfl)]
              exact Blk.new wr 4 (va (m + 1) (rv fun _ => false))
            have hB1 := hB.alloc (Nat.le_trans hgg (Nat.le_of_lt kn.lt)) (.cells (va (m + 1) (rv fun _ => false)) 4)
            have hgx : g < wr.heap.size := kn.lt
            have HI : Hid (_ ∧ _ ∧ _) := ⟨kn1, kx1, hB1⟩
            clear kn kn1 kx1 hB hB1
            go_wp2_with fail
            obtain ⟨kn1, kx1, hB1⟩ := HI.out
            clear HI
            generalize wr.alloc (.cells (va (m + 1) (rv fun _ => false)) 4) = wr1 at *
            generalize wr.heap.size = gx at *
            have HK1 : Hid (_ ∧ _ ∧ _) := ⟨kn1, kx1, hB1⟩
            clear kn1 kx1 hB1
            go_loopw [9] (fun v wr2 => Hid (∃ i : Nat, i ≤ m ∧ v = .int .i64 (i : Int) ∧ Blk wr2 g 4 (va (m + 1) (rv fun j => mF P.data.toList s.data.toList j k)) ∧ Blk wr2 gx 4 (va (m + 1) (rv (r3F P.data.toList s.data.toList k c i))) ∧ Below gn w wr2)) (fun v wr2 => m - (intOf v).toNat)
            case atStart => exact ⟨0, by omega, rfl, HK1.out.1, HK1.out.2.1, HK1.out.2.2⟩
            case round =>
              rename World => wr2
              obtain ⟨i, him, rfl, kn, kx, hB⟩ := Hid.out hrel
              clear hrel HK1
              have hne : g ≠ gx := by omega
              by_cases hi : i < m
              · have hiz : (i : Int) < (m : Int) := by omega
                have hi0 : (0 : Int) ≤ (i : Int) := by omega
                have hi1 : (i : Int) < (m : Int) + 1 := by omega
                have hi2 : (0 : Int) ≤ (i : Int) + 1 := by omega
                have hi3 : (i : Int) + 1 < (m : Int) + 1 := by omega
                have hiP : i < P.size := by rw [HPm.out]; exact hi
                have hxl := Lib.data_getElem? P i hiP
                obtain ⟨x, hx⟩ : ∃ x : UInt8, P[i]'hiP = x := ⟨_, rfl⟩
                rw [hx] at hxl
                have cn : wr2.cell? ⟨g, i, none⟩ = some (.bool (mF P.data.toList s.data.toList i k)) := kn.cv (i := i) (by omega)
                have cn1 : wr2.cell? ⟨g, i + 1, none⟩ = some (.bool (mF P.data.toList s.data.toList (i + 1) k)) := kn.cv (i := i + 1) (by omega)
                have cx := kx.cv (i := i + 1) (by omega)
                have fx := kx.frozen (i + 1)
                by_cases x1 : x = 42
                · have hstar : P.data.toList[i]? = some 42 := by rw [hxl, x1]
                  have b42 : ((x.toNat : Int) == 42) = true := by rw [x1]; rfl
                  have n42 : ((x.toNat : Int) != 42) = false := by rw [bne, b42]; rfl
                  have b63 : ((x.toNat : Int) == 63) = false := by rw [x1]; rfl
                  cases hb : mF P.data.toList s.data.toList i k
                  · rw [hb] at cn
                    cases hb1 : mF P.data.toList s.data.toList (i + 1) k
                    · rw [hb1] at cn1
                      have hs1 : s1F P.data.toList s.data.toList k c (i + 1) = false := by rw [s1_at hxl]; rw [if_pos x1]; exact hb1
                      have kx2 := kx
                      rw [row_same (g := r3F P.data.toList s.data.toList k c (i + 1)) (fun j _ => r3_no hs1 j)] at kx2
                      have HN : Hid (_ ∧ _) := ⟨kn, kx2⟩
                      have HBx : Hid (Below gn w wr2) := hB
                      clear hs1 kx2 kn kx hB hxl x1 hstar hb hb1
                      go_wp2_with fail
                      go_quiet (fail)
                      go_wp2_with fail
                      go_roundw
                      case rel => exact ⟨i + 1, by omega, by first | rfl | go_num | simp, HN.out.1, HN.out.2, bdrewN HBx.out _⟩
                      case measure => simp [intOf]; omega
                    · rw [hb1] at cn1
                      have hs1 : s1F P.data.toList s.data.toList k c (i + 1) = true := by rw [s1_at hxl]; rw [if_pos x1]; exact hb1
                      have kx2 := kx.put (i + 1) (.bool true)
                      rw [row_set (g := r3F P.data.toList s.data.toList k c (i + 1)) (fun j _ => r3_yes hs1 j)] at kx2
                      have kn2 := kn.put_other (g := gx) (i + 1) (.bool true) hne
                      have HN : Hid (_ ∧ _) := ⟨kn2, kx2⟩
                      have HBx : Hid (Below gn w wr2) := hB
                      clear hs1 kx2 kn2 kn kx hB hxl x1 hstar hb hb1
                      go_wp2_with fail
                      go_quiet (fail)
                      go_wp2_with fail
                      go_roundw
                      case rel => exact ⟨i + 1, by omega, by first | rfl | go_num | simp, HN.out.1, HN.out.2, (bdrewN HBx.out _).setCell (p := ⟨gx, i + 1, none⟩) (by show gn ≤ gx; omega) _⟩
                      case measure => simp [intOf]; omega
                  · rw [hb] at cn
                    have hb1 := mF_mono hstar hb
                    rw [hb1] at cn1
                    by_cases x2 : x = c
                    · have bc : ((x.toNat : Int) == (c.toNat : Int)) = true := by rw [x2]; simp
                      have hs1 : s1F P.data.toList s.data.toList k c (i + 1) = true := by rw [s1_at hxl]; rw [if_pos x1]; exact hb1
                      have kx2 := kx.put (i + 1) (.bool true)
                      rw [row_set (g := r3F P.data.toList s.data.toList k c (i + 1)) (fun j _ => r3_yes hs1 j)] at kx2
                      have kn2 := kn.put_other (g := gx) (i + 1) (.bool true) hne
                      have HN : Hid (_ ∧ _) := ⟨kn2, kx2⟩
                      have HBx : Hid (Below gn w wr2) := hB
                      clear hs1 kx2 kn2 kn kx hB hxl x1 x2 hstar hb hb1
                      go_wp2_with fail
                      go_quiet (fail)
                      go_wp2_with fail
                      go_roundw
                      case rel => exact ⟨i + 1, by omega, by first | rfl | go_num | simp, HN.out.1, HN.out.2, (bdrewN HBx.out _).setCell (p := ⟨gx, i + 1, none⟩) (by show gn ≤ gx; omega) _⟩
                      case measure => simp [intOf]; omega
                    · have bc : ((x.toNat : Int) == (c.toNat : Int)) = false := ubeq_ne x2
                      have hs1 : s1F P.data.toList s.data.toList k c (i + 1) = true := by rw [s1_at hxl]; rw [if_pos x1]; exact hb1
                      have kx2 := kx.put (i + 1) (.bool true)
                      rw [row_set (g := r3F P.data.toList s.data.toList k c (i + 1)) (fun j _ => r3_yes hs1 j)] at kx2
                      have kn2 := kn.put_other (g := gx) (i + 1) (.bool true) hne
                      have HN : Hid (_ ∧ _) := ⟨kn2, kx2⟩
                      have HBx : Hid (Below gn w wr2) := hB
                      clear hs1 kx2 kn2 kn kx hB hxl x1 x2 hstar hb hb1
                      go_wp2_with fail
                      go_quiet (fail)
                      go_wp2_with fail
                      go_roundw
                      case rel => exact ⟨i + 1, by omega, by first | rfl | go_num | simp, HN.out.1, HN.out.2, (bdrewN HBx.out _).setCell (p := ⟨gx, i + 1, none⟩) (by show gn ≤ gx; omega) _⟩
                      case measure => simp [intOf]; omega
                · have b42 : ((x.toNat : Int) == 42) = false := by exact ubeq_ne x1
                  have n42 : ((x.toNat : Int) != 42) = true := by rw [bne, b42]; rfl
                  cases hb : mF P.data.toList s.data.toList i k
                  · rw [hb] at cn
                    have hs1 : s1F P.data.toList s.data.toList k c (i + 1) = false := by rw [s1_at hxl]; rw [if_neg x1, hb, Bool.and_false]
                    have kx2 := kx
                    rw [row_same (g := r3F P.data.toList s.data.toList k c (i + 1)) (fun j _ => r3_no hs1 j)] at kx2
                    have HN : Hid (_ ∧ _) := ⟨kn, kx2⟩
                    have HBx : Hid (Below gn w wr2) := hB
                    clear hs1 kx2 kn kx hB hxl x1 hb
                    go_wp2_with fail
                    go_quiet (fail)
                    go_wp2_with fail
                    go_roundw
                    case rel => exact ⟨i + 1, by omega, by first | rfl | go_num | simp, HN.out.1, HN.out.2, bdrewN HBx.out _⟩
                    case measure => simp [intOf]; omega
                  · rw [hb] at cn
                    by_cases x3 : x = 63
                    · have b63 : ((x.toNat : Int) == 63) = true := by rw [x3]; rfl
                      have hs1 : s1F P.data.toList s.data.toList k c (i + 1) = true := by rw [s1_at hxl]; rw [if_neg x1, hb, decide_eq_true (.inl x3)]; rfl
                      have kx2 := kx.put (i + 1) (.bool true)
                      rw [row_set (g := r3F P.data.toList s.data.toList k c (i + 1)) (fun j _ => r3_yes hs1 j)] at kx2
                      have kn2 := kn.put_other (g := gx) (i + 1) (.bool true) hne
                      have HN : Hid (_ ∧ _) := ⟨kn2, kx2⟩
                      have HBx : Hid (Below gn w wr2) := hB
                      clear hs1 kx2 kn2 kn kx hB hxl x1 x3 hb
                      go_wp2_with fail
                      go_quiet (fail)
                      go_wp2_with fail
                      go_roundw
                      case rel => exact ⟨i + 1, by omega, by first | rfl | go_num | simp, HN.out.1, HN.out.2, (bdrewN HBx.out _).setCell (p := ⟨gx, i + 1, none⟩) (by show gn ≤ gx; omega) _⟩
                      case measure => simp [intOf]; omega
                    · have b63 : ((x.toNat : Int) == 63) = false := ubeq_ne x3
                      by_cases x2 : x = c
                      · have bc : ((x.toNat : Int) == (c.toNat : Int)) = true := by rw [x2]; simp
                        have hs1 : s1F P.data.toList s.data.toList k c (i + 1) = true := by rw [s1_at hxl]; rw [if_neg x1, hb, decide_eq_true (.inr x2)]; rfl
                        have kx2 := kx.put (i + 1) (.bool true)
                        rw [row_set (g := r3F P.data.toList s.data.toList k c (i + 1)) (fun j _ => r3_yes hs1 j)] at kx2
                        have kn2 := kn.put_other (g := gx) (i + 1) (.bool true) hne
                        have HN : Hid (_ ∧ _) := ⟨kn2, kx2⟩
                        have HBx : Hid (Below gn w wr2) := hB
                        clear hs1 kx2 kn2 kn kx hB hxl x1 x2 x3 hb
                        go_wp2_with fail
                        go_quiet (fail)
                        go_wp2_with fail
                        go_roundw
                        case rel => exact ⟨i + 1, by omega, by first | rfl | go_num | simp, HN.out.1, HN.out.2, (bdrewN HBx.out _).setCell (p := ⟨gx, i + 1, none⟩) (by show gn ≤ gx; omega) _⟩
                        case measure => simp [intOf]; omega
                      · have bc : ((x.toNat : Int) == (c.toNat : Int)) = false := ubeq_ne x2
                        have hs1 : s1F P.data.toList s.data.toList k c (i + 1) = false := by rw [s1_at hxl]; rw [if_neg x1, decide_eq_false (fun h => h.elim x3 x2)]; rfl
                        have kx2 := kx
                        rw [row_same (g := r3F P.data.toList s.data.toList k c (i + 1)) (fun j _ => r3_no hs1 j)] at kx2
                        have HN : Hid (_ ∧ _) := ⟨kn, kx2⟩
                        have HBx : Hid (Below gn w wr2) := hB
                        clear hs1 kx2 kn kx hB hxl x1 x2 x3 hb
                        go_wp2_with fail
                        go_quiet (fail)
                        go_wp2_with fail
                        go_roundw
                        case rel => exact ⟨i + 1, by omega, by first | rfl | go_num | simp, HN.out.1, HN.out.2, bdrewN HBx.out _⟩
                        case measure => simp [intOf]; omega
              · obtain rfl : m = i := by omega
                have hiz : ¬ (m : Int) < (m : Int) := by omega
                have kx2 := kx
                rw [row_same (g := r4F P.data.toList s.data.toList k c 0) (fun j hj => by
                  unfold r3F r4F
                  rw [if_pos (by omega)]
                  split
                  · rename_i hj0
                    rw [show j = 0 by omega, mF_zero_succ hkS]
                    rfl
                  · rfl)] at kx2
                have HK2 : Hid (_ ∧ _ ∧ _) := ⟨kn, kx2, hB⟩
                clear kn kx kx2 hB
                go_wp2_with fail
                go_loopw [10] (fun v wr3 => Hid (∃ i : Nat, i ≤ m ∧ v = .int .i64 (i : Int) ∧ Blk wr3 gx 4 (va (m + 1) (rv (r4F P.data.toList s.data.toList k c i))) ∧ Below gn w wr3)) (fun v wr3 => m - (intOf v).toNat)
                case atStart => exact ⟨0, by omega, rfl, HK2.out.2.1, HK2.out.2.2⟩
                case round =>
                  rename World => wr3
                  obtain ⟨i, him2, rfl, kx, hB⟩ := Hid.out hrel
                  clear hrel HK2
                  by_cases hi : i < m
                  · have hiz : (i : Int) < (m : Int) := by omega
                    have hi0 : (0 : Int) ≤ (i : Int) := by omega
                    have hi1 : (i : Int) < (m : Int) + 1 := by omega
                    have hi2 : (0 : Int) ≤ (i : Int) + 1 := by omega
                    have hi3 : (i : Int) + 1 < (m : Int) + 1 := by omega
                    have hiP : i < P.size := by rw [HPm.out]; exact hi
                    have hxl := Lib.data_getElem? P i hiP
                    obtain ⟨x, hx⟩ : ∃ x : UInt8, P[i]'hiP = x := ⟨_, rfl⟩
                    rw [hx] at hxl
                    have ci : wr3.cell? ⟨gx, i, none⟩ = some (.bool (mF P.data.toList s.data.toList i (k + 1))) := by
                      have := kx.cv (i := i) (by omega)
                      rw [this]
                      show some (Value.bool (r4F P.data.toList s.data.toList k c i i)) = _
                      unfold r4F
                      rw [if_pos (Nat.le_refl _)]
                    have cx := kx.cv (i := i + 1) (by omega)
                    have fx := kx.frozen (i + 1)
                    by_cases x1 : x = 42
                    · have hstar : P.data.toList[i]? = some 42 := by rw [hxl, x1]
                      have b42 : ((x.toNat : Int) == 42) = true := by rw [x1]; rfl
                      have hms := mF_star hstar hkS
                      cases hb : mF P.data.toList s.data.toList i (k + 1)
                      · rw [hb] at ci hms
                        have hm1 : mF P.data.toList s.data.toList (i + 1) (k + 1) = s1F P.data.toList s.data.toList k c (i + 1) := by rw [s1_at hxl, if_pos x1, hms]; rfl
                        have kx2 := kx
                        rw [row_same (g := r4F P.data.toList s.data.toList k c (i + 1)) (fun j _ => r4_no hm1 j)] at kx2
                        have HN : Hid (_ ∧ _) := ⟨kx2, hB⟩
                        clear hm1 kx2 kx hB hxl x1 hstar hb hms
                        go_wp2_with fail
                        go_roundw
                        case rel => exact ⟨i + 1, by omega, by first | rfl | go_num | simp, HN.out.1, HN.out.2⟩
                        case measure => simp [intOf]; omega
                      · rw [hb] at ci hms
                        have hm1 : mF P.data.toList s.data.toList (i + 1) (k + 1) = true := by rw [hms]; rfl
                        have kx2 := kx.put (i + 1) (.bool true)
                        rw [row_set (g := r4F P.data.toList s.data.toList k c (i + 1)) (fun j _ => r4_yes hm1 j)] at kx2
                        have HN : Hid (_ ∧ _) := ⟨kx2, hB.setCell (p := ⟨gx, i + 1, none⟩) (by show gn ≤ gx; omega) (.bool true)⟩
                        clear hm1 kx2 kx hB hxl x1 hstar hb hms
                        go_wp2_with fail
                        go_roundw
                        case rel => exact ⟨i + 1, by omega, by first | rfl | go_num | simp, HN.out.1, HN.out.2⟩
                        case measure => simp [intOf]; omega
                    · have b42 : ((x.toNat : Int) == 42) = false := ubeq_ne x1
                      have hm1 : mF P.data.toList s.data.toList (i + 1) (k + 1) = s1F P.data.toList s.data.toList k c (i + 1) := by rw [s1_at hxl, if_neg x1, mF_one hxl x1 HC.out]
                      cases hb : mF P.data.toList s.data.toList i (k + 1)
                      · rw [hb] at ci
                        have kx2 := kx
                        rw [row_same (g := r4F P.data.toList s.data.toList k c (i + 1)) (fun j _ => r4_no hm1 j)] at kx2
                        have HN : Hid (_ ∧ _) := ⟨kx2, hB⟩
                        clear hm1 kx2 kx hB hxl x1 hb
                        go_wp2_with fail
                        go_roundw
                        case rel => exact ⟨i + 1, by omega, by first | rfl | go_num | simp, HN.out.1, HN.out.2⟩
                        case measure => simp [intOf]; omega
                      · rw [hb] at ci
                        have kx2 := kx
                        rw [row_same (g := r4F P.data.toList s.data.toList k c (i + 1)) (fun j _ => r4_no hm1 j)] at kx2
                        have HN : Hid (_ ∧ _) := ⟨kx2, hB⟩
                        clear hm1 kx2 kx hB hxl x1 hb
                        go_wp2_with fail
                        go_roundw
                        case rel => exact ⟨i + 1, by omega, by first | rfl | go_num | simp, HN.out.1, HN.out.2⟩
                        case measure => simp [intOf]; omega
                  · obtain rfl : m = i := by omega
                    have hiz : ¬ (m : Int) < (m : Int) := by omega
                    have kx3 : Blk wr3 gx 4 (va (m + 1) (rv fun j => mF P.data.toList s.data.toList j (k + 1))) := by
                      rw [← row_same (f := r4F P.data.toList s.data.toList k c m) (g := fun j => mF P.data.toList s.data.toList j (k + 1)) (fun j hj => by
                        unfold r4F
                        rw [if_pos (by omega)])]
                      exact kx
                    have HE : Hid (_ ∧ _) := ⟨kx3, hB⟩
                    clear kx kx3 hB
                    go_wp2_with fail
                    go_roundw
                    case rel => exact ⟨k + 1, gx, by omega, by first | rfl | go_num | simp, rfl, by omega, HE.out.1, HE.out.2⟩
                    case measure => simp [intOf]; omega
          · obtain rfl : k = s.size := by omega
            have hkz : ¬ (s.size : Int) < (s.size : Int) := by omega
            have cn : wr.cell? ⟨g, m, none⟩ = some (.bool (mF P.data.toList s.data.toList m s.size)) := kn.cv (i := m) (by omega)
            have hmm : mF P.data.toList s.data.toList m s.size = mb := by have := HMB.out; rwa [HPm.out] at this
            rw [hmm] at cn
            have hi0 : (0 : Int) ≤ (m : Int) := by omega
            have hi1 : (m : Int) < (m : Int) + 1 := by omega
            clear hmm kn
            go_wp2_with fail
            go_ret
            exact ⟨rfl, by rw [← HGN.out]; exact hB⟩

    · obtain rfl : m = i := by omega
      have hiz : ¬ (m : Int) < (m : Int) := by omega
      have kn2 : Blk wr gn 4 (va (m + 1) (rv fun j => mF P.data.toList s.data.toList j 0)) := by
        rw [row_same (g := fun j => mF P.data.toList s.data.toList j 0)] at kn
        · exact kn
        · intro j hj
          rw [decide_eq_true (by omega), hst j (by omega)]
      clear kn hst
      have HB : Hid (Below gn w wr) := hB
      clear hB
      go_wp2_with fail
      go_loopw [5, 7] (fun u v wr => Hid (∃ (k g : Nat), k ≤ s.size ∧ v = .int .i64 (k : Int) ∧ u = .slice (some ⟨g, 0, none⟩) (m + 1) (m + 1) ∧ gn ≤ g ∧ Blk wr g 4 (va (m + 1) (rv fun j => mF P.data.toList s.data.toList j k)) ∧ Below gn w wr)) (fun u v wr => s.size - (intOf v).toNat)
      case atStart => exact ⟨0, gn, by omega, rfl, rfl, Nat.le_refl _, kn2, HB.out⟩
      case round =>
        obtain ⟨k, g, hks, rfl, rfl, hgg, kn, hB⟩ := Hid.out hrel
        clear hrel kn2 HB
        by_cases hk : k < s.size
        · have hkz : (k : Int) < (s.size : Int) := by omega
          have hkS : k < s.data.toList.length := by rw [← HSL.out]; exact hk
          have hcl := Lib.data_getElem? s k hk
          obtain ⟨c, hc⟩ : ∃ c : UInt8, s[k]'hk = c := ⟨_, rfl⟩
          rw [hc] at hcl
          have HC : Hid (s.data.toList[k]? = some c) := hcl
          clear hcl
          have kn1 := kn.alloc (.cells (va (m + 1) (rv fun _ => false)) 4)
          have kx1 : Blk (wr.alloc (.cells (va (m + 1) (rv fun _ => false)) 4)) wr.heap.size 4 (va (m + 1) (rv (r3F P.data.toList s.data.toList k c 0))) := by
            rw [← row_same (f := fun _ => false) (g := r3F P.data.toList s.data.toList k c 0) (fun j _ => by
              unfold r3F
              split
              · rename_i hj
                rw [show j = 0 by omega]
                rfl
              · rfl)]
            exact Blk.new wr 4 (va (m + 1) (rv fun _ => false))
          have hB1 := hB.alloc (Nat.le_trans hgg (Nat.le_of_lt kn.lt)) (.cells (va (m + 1) (rv fun _ => false)) 4)
          have hgx : g < wr.heap.size := kn.lt
          have HI : Hid (_ ∧ _ ∧ _) := ⟨kn1, kx1, hB1⟩
          clear kn kn1 kx1 hB hB1
          go_wp2_with fail
          obtain ⟨kn1, kx1, hB1⟩ := HI.out
          clear HI
          generalize wr.alloc (.cells (va (m + 1) (rv fun _ => false)) 4) = wr1 at *
          generalize wr.heap.size = gx at *
          have HK1 : Hid (_ ∧ _ ∧ _) := ⟨kn1, kx1, hB1⟩
          clear kn1 kx1 hB1
          go_loopw [9] (fun v wr2 => Hid (∃ i : Nat, i ≤ m ∧ v = .int .i64 (i : Int) ∧ Blk wr2 g 4 (va (m + 1) (rv fun j => mF P.data.toList s.data.toList j k)) ∧ Blk wr2 gx 4 (va (m + 1) (rv (r3F P.data.toList s.data.toList k c i))) ∧ Below gn w wr2)) (fun v wr2 => m - (intOf v).toNat)
          case atStart => exact ⟨0, by omega, rfl, HK1.out.1, HK1.out.2.1, HK1.out.2.2⟩
          case round =>
            rename World => wr2
            obtain ⟨i, him, rfl, kn, kx, hB⟩ := Hid.out hrel
            clear hrel HK1
            have hne : g ≠ gx := by omega
            by_cases hi : i < m
            · have hiz : (i : Int) < (m : Int) := by omega
              have hi0 : (0 : Int) ≤ (i : Int) := by omega
              have hi1 : (i : Int) < (m : Int) + 1 := by omega
              have hi2 : (0 : Int) ≤ (i : Int) + 1 := by omega
              have hi3 : (i : Int) + 1 < (m : Int) + 1 := by omega
              have hiP : i < P.size := by rw [HPm.out]; exact hi
              have hxl := Lib.data_getElem? P i hiP
              obtain ⟨x, hx⟩ : ∃ x : UInt8, P[i]'hiP = x := ⟨_, rfl⟩
              rw [hx] at hxl
              have cn : wr2.cell? ⟨g, i, none⟩ = some (.bool (mF P.data.toList s.data.toList i k)) := kn.cv (i := i) (by omega)
              have cn1 : wr2.cell? ⟨g, i + 1, none⟩ = some (.bool (mF P.data.toList s.data.toList (i + 1) k)) := kn.cv (i := i + 1) (by omega)
              have cx := kx.cv (i := i + 1) (by omega)
              have fx := kx.frozen (i + 1)
              by_cases x1 : x = 42
              · have hstar : P.data.toList[i]? = some 42 := by rw [hxl, x1]
                have b42 : ((x.toNat : Int) == 42) = true := by rw [x1]; rfl
                have n42 : ((x.toNat : Int) != 42) = false := by rw [bne, b42]; rfl
                have b63 : ((x.toNat : Int) == 63) = false := by rw [x1]; rfl
                cases hb : mF P.data.toList s.data.toList i k
                · rw [hb] at cn
                  cases hb1 : mF P.data.toList s.data.toList (i + 1) k
                  · rw [hb1] at cn1
                    have hs1 : s1F P.data.toList s.data.toList k c (i + 1) = false := by rw [s1_at hxl]; rw [if_pos x1]; exact hb1
                    have kx2 := kx
                    rw [row_same (g := r3F P.data.toList s.data.toList k c (i + 1)) (fun j _ => r3_no hs1 j)] at kx2
                    have HN : Hid (_ ∧ _) := ⟨kn, kx2⟩
                    have HBx : Hid (Below gn w wr2) := hB
                    clear hs1 kx2 kn kx hB hxl x1 hstar hb hb1
                    go_wp2_with fail
                    go_quiet (fail)
                    go_wp2_with fail
                    go_roundw
                    case rel => exact ⟨i + 1, by omega, by first | rfl | go_num | simp, HN.out.1, HN.out.2, bdrewN HBx.out _⟩
                    case measure => simp [intOf]; omega
                  · rw [hb1] at cn1
                    have hs1 : s1F P.data.toList s.data.toList k c (i + 1) = true := by rw [s1_at hxl]; rw [if_pos x1]; exact hb1
                    have kx2 := kx.put (i + 1) (.bool true)
                    rw [row_set (g := r3F P.data.toList s.data.toList k c (i + 1)) (fun j _ => r3_yes hs1 j)] at kx2
                    have kn2 := kn.put_other (g := gx) (i + 1) (.bool true) hne
                    have HN : Hid (_ ∧ _) := ⟨kn2, kx2⟩
                    have HBx : Hid (Below gn w wr2) := hB
                    clear hs1 kx2 kn2 kn kx hB hxl x1 hstar hb hb1
                    go_wp2_with fail
                    go_quiet (fail)
                    go_wp2_with fail
                    go_roundw
                    case rel => exact ⟨i + 1, by omega, by first | rfl | go_num | simp, HN.out.1, HN.out.2, (bdrewN HBx.out _).setCell (p := ⟨gx, i + 1, none⟩) (by show gn ≤ gx; omega) _⟩
                    case measure => simp [intOf]; omega
                · rw [hb] at cn
                  have hb1 := mF_mono hstar hb
                  rw [hb1] at cn1
                  by_cases x2 : x = c
                  · have bc : ((x.toNat : Int) == (c.toNat : Int)) = true := by rw [x2]; simp
                    have hs1 : s1F P.data.toList s.data.toList k c (i + 1) = true := by rw [s1_at hxl]; rw [if_pos x1]; exact hb1
                    have kx2 := kx.put (i + 1) (.bool true)
                    rw [row_set (g := r3F P.data.toList s.data.toList k c (i + 1)) (fun j _ => r3_yes hs1 j)] at kx2
                    have kn2 := kn.put_other (g := gx) (i + 1) (.bool true) hne
                    have HN : Hid (_ ∧ _) := ⟨kn2, kx2⟩
                    have HBx : Hid (Below gn w wr2) := hB
                    clear hs1 kx2 kn2 kn kx hB hxl x1 x2 hstar hb hb1
                    go_wp2_with fail
                    go_quiet (fail)
                    go_wp2_with fail
                    go_roundw
                    case rel => exact ⟨i + 1, by omega, by first | rfl | go_num | simp, HN.out.1, HN.out.2, (bdrewN HBx.out _).setCell (p := ⟨gx, i + 1, none⟩) (by show gn ≤ gx; omega) _⟩
                    case measure => simp [intOf]; omega
                  · have bc : ((x.toNat : Int) == (c.toNat : Int)) = false := ubeq_ne x2
                    have hs1 : s1F P.data.toList s.data.toList k c (i + 1) = true := by rw [s1_at hxl]; rw [if_pos x1]; exact hb1
                    have kx2 := kx.put (i + 1) (.bool true)
                    rw [row_set (g := r3F P.data.toList s.data.toList k c (i + 1)) (fun j _ => r3_yes hs1 j)] at kx2
                    have kn2 := kn.put_other (g := gx) (i + 1) (.bool true) hne
                    have HN : Hid (_ ∧ _) := ⟨kn2, kx2⟩
                    have HBx : Hid (Below gn w wr2) := hB
                    clear hs1 kx2 kn2 kn kx hB hxl x1 x2 hstar hb hb1
                    go_wp2_with fail
                    go_quiet (fail)
                    go_wp2_with fail
                    go_roundw
                    case rel => exact ⟨i + 1, by omega, by first | rfl | go_num | simp, HN.out.1, HN.out.2, (bdrewN HBx.out _).setCell (p := ⟨gx, i + 1, none⟩) (by show gn ≤ gx; omega) _⟩
                    case measure => simp [intOf]; omega
              · have b42 : ((x.toNat : Int) == 42) = false := by exact ubeq_ne x1
                have n42 : ((x.toNat : Int) != 42) = true := by rw [bne, b42]; rfl
                cases hb : mF P.data.toList s.data.toList i k
                · rw [hb] at cn
                  have hs1 : s1F P.data.toList s.data.toList k c (i + 1) = false := by rw [s1_at hxl]; rw [if_neg x1, hb, Bool.and_false]
                  have kx2 := kx
                  rw [row_same (g := r3F P.data.toList s.data.toList k c (i + 1)) (fun j _ => r3_no hs1 j)] at kx2
                  have HN : Hid (_ ∧ _) := ⟨kn, kx2⟩
                  have HBx : Hid (Below gn w wr2) := hB
                  clear hs1 kx2 kn kx hB hxl x1 hb
                  go_wp2_with fail
                  go_quiet (fail)
                  go_wp2_with fail
                  go_roundw
                  case rel => exact ⟨i + 1, by omega, by first | rfl | go_num | simp, HN.out.1, HN.out.2, bdrewN HBx.out _⟩
                  case measure => simp [intOf]; omega
                · rw [hb] at cn
                  by_cases x3 : x = 63
                  · have b63 : ((x.toNat : Int) == 63) = true := by rw [x3]; rfl
                    have hs1 : s1F P.data.toList s.data.toList k c (i + 1) = true := by rw [s1_at hxl]; rw [if_neg x1, hb, decide_eq_true (.inl x3)]; rfl
                    have kx2 := kx.put (i + 1) (.bool true)
                    rw [row_set (g := r3F P.data.toList s.data.toList k c (i + 1)) (fun j _ => r3_yes hs1 j)] at kx2
                    have kn2 := kn.put_other (g := gx) (i + 1) (.bool true) hne
                    have HN : Hid (_ ∧ _) := ⟨kn2, kx2⟩
                    have HBx : Hid (Below gn w wr2) := hB
                    clear hs1 kx2 kn2 kn kx hB hxl x1 x3 hb
                    go_wp2_with fail
                    go_quiet (fail)
                    go_wp2_with fail
                    go_roundw
                    case rel => exact ⟨i + 1, by omega, by first | rfl | go_num | simp, HN.out.1, HN.out.2, (bdrewN HBx.out _).setCell (p := ⟨gx, i + 1, none⟩) (by show gn ≤ gx; omega) _⟩
                    case measure => simp [intOf]; omega
                  · have b63 : ((x.toNat : Int) == 63) = false := ubeq_ne x3
                    by_cases x2 : x = c
                    · have bc : ((x.toNat : Int) == (c.toNat : Int)) = true := by rw [x2]; simp
                      have hs1 : s1F P.data.toList s.data.toList k c (i + 1) = true := by rw [s1_at hxl]; rw [if_neg x1, hb, decide_eq_true (.inr x2)]; rfl
                      have kx2 := kx.put (i + 1) (.bool true)
                      rw [row_set (g := r3F P.data.toList s.data.toList k c (i + 1)) (fun j _ => r3_yes hs1 j)] at kx2
                      have kn2 := kn.put_other (g := gx) (i + 1) (.bool true) hne
                      have HN : Hid (_ ∧ _) := ⟨kn2, kx2⟩
                      have HBx : Hid (Below gn w wr2) := hB
                      clear hs1 kx2 kn2 kn kx hB hxl x1 x2 x3 hb
                      go_wp2_with fail
                      go_quiet (fail)
                      go_wp2_with fail
                      go_roundw
                      case rel => exact ⟨i + 1, by omega, by first | rfl | go_num | simp, HN.out.1, HN.out.2, (bdrewN HBx.out _).setCell (p := ⟨gx, i + 1, none⟩) (by show gn ≤ gx; omega) _⟩
                      case measure => simp [intOf]; omega
                    · have bc : ((x.toNat : Int) == (c.toNat : Int)) = false := ubeq_ne x2
                      have hs1 : s1F P.data.toList s.data.toList k c (i + 1) = false := by rw [s1_at hxl]; rw [if_neg x1, decide_eq_false (fun h => h.elim x3 x2)]; rfl
                      have kx2 := kx
                      rw [row_same (g := r3F P.data.toList s.data.toList k c (i + 1)) (fun j _ => r3_no hs1 j)] at kx2
                      have HN : Hid (_ ∧ _) := ⟨kn, kx2⟩
                      have HBx : Hid (Below gn w wr2) := hB
                      clear hs1 kx2 kn kx hB hxl x1 x2 x3 hb
                      go_wp2_with fail
                      go_quiet (fail)
                      go_wp2_with fail
                      go_roundw
                      case rel => exact ⟨i + 1, by omega, by first | rfl | go_num | simp, HN.out.1, HN.out.2, bdrewN HBx.out _⟩
                      case measure => simp [intOf]; omega
            · obtain rfl : m = i := by omega
              have hiz : ¬ (m : Int) < (m : Int) := by omega
              have kx2 := kx
              rw [row_same (g := r4F P.data.toList s.data.toList k c 0) (fun j hj => by
                unfold r3F r4F
                rw [if_pos (by omega)]
                split
                · rename_i hj0
                  rw [show j = 0 by omega, mF_zero_succ hkS]
                  rfl
                · rfl)] at kx2
              have HK2 : Hid (_ ∧ _ ∧ _) := ⟨kn, kx2, hB⟩
              clear kn kx kx2 hB
              go_wp2_with fail
              go_loopw [10] (fun v wr3 => Hid (∃ i : Nat, i ≤ m ∧ v = .int .i64 (i : Int) ∧ Blk wr3 gx 4 (va (m + 1) (rv (r4F P.data.toList s.data.toList k c i))) ∧ Below gn w wr3)) (fun v wr3 => m - (intOf v).toNat)
              case atStart => exact ⟨0, by omega, rfl, HK2.out.2.1, HK2.out.2.2⟩
              case round =>
                rename World => wr3
                obtain ⟨i, him2, rfl, kx, hB⟩ := Hid.out hrel
                clear hrel HK2
                by_cases hi : i < m
                · have hiz : (i : Int) < (m : Int) := by omega
                  have hi0 : (0 : Int) ≤ (i : Int) := by omega
                  have hi1 : (i : Int) < (m : Int) + 1 := by omega
                  have hi2 : (0 : Int) ≤ (i : Int) + 1 := by omega
                  have hi3 : (i : Int) + 1 < (m : Int) + 1 := by omega
                  have hiP : i < P.size := by rw [HPm.out]; exact hi
                  have hxl := Lib.data_getElem? P i hiP
                  obtain ⟨x, hx⟩ : ∃ x : UInt8, P[i]'hiP = x := ⟨_, rfl⟩
                  rw [hx] at hxl
                  have ci : wr3.cell? ⟨gx, i, none⟩ = some (.bool (mF P.data.toList s.data.toList i (k + 1))) := by
                    have := kx.cv (i := i) (by omega)
                    rw [this]
                    show some (Value.bool (r4F P.data.toList s.data.toList k c i i)) = _
                    unfold r4F
                    rw [if_pos (Nat.le_refl _)]
                  have cx := kx.cv (i := i + 1) (by omega)
                  have fx := kx.frozen (i + 1)
                  by_cases x1 : x = 42
                  · have hstar : P.data.toList[i]? = some 42 := by rw [hxl, x1]
                    have b42 : ((x.toNat : Int) == 42) = true := by rw [x1]; rfl
                    have hms := mF_star hstar hkS
                    cases hb : mF P.data.toList s.data.toList i (k + 1)
                    · rw [hb] at ci hms
                      have hm1 : mF P.data.toList s.data.toList (i + 1) (k + 1) = s1F P.data.toList s.data.toList k c (i + 1) := by rw [s1_at hxl, if_pos x1, hms]; rfl
                      have kx2 := kx
                      rw [row_same (g := r4F P.data.toList s.data.toList k c (i + 1)) (fun j _ => r4_no hm1 j)] at kx2
                      have HN : Hid (_ ∧ _) := ⟨kx2, hB⟩
                      clear hm1 kx2 kx hB hxl x1 hstar hb hms
                      go_wp2_with fail
                      go_roundw
                      case rel => exact ⟨i + 1, by omega, by first | rfl | go_num | simp, HN.out.1, HN.out.2⟩
                      case measure => simp [intOf]; omega
                    · rw [hb] at ci hms
                      have hm1 : mF P.data.toList s.data.toList (i + 1) (k + 1) = true := by rw [hms]; rfl
                      have kx2 := kx.put (i + 1) (.bool true)
                      rw [row_set (g := r4F P.data.toList s.data.toList k c (i + 1)) (fun j _ => r4_yes hm1 j)] at kx2
                      have HN : Hid (_ ∧ _) := ⟨kx2, hB.setCell (p := ⟨gx, i + 1, none⟩) (by show gn ≤ gx; omega) (.bool true)⟩
                      clear hm1 kx2 kx hB hxl x1 hstar hb hms
                      go_wp2_with fail
                      go_roundw
                      case rel => exact ⟨i + 1, by omega, by first | rfl | go_num | simp, HN.out.1, HN.out.2⟩
                      case measure => simp [intOf]; omega
                  · have b42 : ((x.toNat : Int) == 42) = false := ubeq_ne x1
                    have hm1 : mF P.data.toList s.data.toList (i + 1) (k + 1) = s1F P.data.toList s.data.toList k c (i + 1) := by rw [s1_at hxl, if_neg x1, mF_one hxl x1 HC.out]
                    cases hb : mF P.data.toList s.data.toList i (k + 1)
                    · rw [hb] at ci
                      have kx2 := kx
                      rw [row_same (g := r4F P.data.toList s.data.toList k c (i + 1)) (fun j _ => r4_no hm1 j)] at kx2
                      have HN : Hid (_ ∧ _) := ⟨kx2, hB⟩
                      clear hm1 kx2 kx hB hxl x1 hb
                      go_wp2_with fail
                      go_roundw
                      case rel => exact ⟨i + 1, by omega, by first | rfl | go_num | simp, HN.out.1, HN.out.2⟩
                      case measure => simp [intOf]; omega
                    · rw [hb] at ci
                      have kx2 := kx
                      rw [row_same (g := r4F P.data.toList s.data.toList k c (i + 1)) (fun j _ => r4_no hm1 j)] at kx2
                      have HN : Hid (_ ∧ _) := ⟨kx2, hB⟩
                      clear hm1 kx2 kx hB hxl x1 hb
                      go_wp2_with fail
                      go_roundw
                      case rel => exact ⟨i + 1, by omega, by first | rfl | go_num | simp, HN.out.1, HN.out.2⟩
                      case measure => simp [intOf]; omega
                · obtain rfl : m = i := by omega
                  have hiz : ¬ (m : Int) < (m : Int) := by omega
                  have kx3 : Blk wr3 gx 4 (va (m + 1) (rv fun j => mF P.data.toList s.data.toList j (k + 1))) := by
                    rw [← row_same (f := r4F P.data.toList s.data.toList k c m) (g := fun j => mF P.data.toList s.data.toList j (k + 1)) (fun j hj => by
                      unfold r4F
                      rw [if_pos (by omega)])]
                    exact kx
                  have HE : Hid (_ ∧ _) := ⟨kx3, hB⟩
                  clear kx kx3 hB
                  go_wp2_with fail
                  go_roundw
                  case rel => exact ⟨k + 1, gx, by omega, by first | rfl | go_num | simp, rfl, by omega, HE.out.1, HE.out.2⟩
                  case measure => simp [intOf]; omega
        · obtain rfl : k = s.size := by omega
          have hkz : ¬ (s.size : Int) < (s.size : Int) := by omega
          have cn : wr.cell? ⟨g, m, none⟩ = some (.bool (mF P.data.toList s.data.toList m s.size)) := kn.cv (i := m) (by omega)
          have hmm : mF P.data.toList s.data.toList m s.size = mb := by have := HMB.out; rwa [HPm.out] at this
          rw [hmm] at cn
          have hi0 : (0 : Int) ≤ (m : Int) := by omega
          have hi1 : (m : Int) < (m : Int) + 1 := by omega
          clear hmm kn
          go_wp2_with fail
          go_ret
          exact ⟨rfl, by rw [← HGN.out]; exact hB⟩

end Go.Proofs.YthoohhokoeihiabDoor
