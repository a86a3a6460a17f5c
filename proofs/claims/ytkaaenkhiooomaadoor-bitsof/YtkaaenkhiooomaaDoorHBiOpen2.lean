/- A slice of integers as an argument, opened: no condition but that it is one. -/
import Derived.Test.YtkaaenkhiooomaaDoorHBiPlay
import Derived.Handy
import Derived.Test.YtkaaenkhiooomaaDoorRows
import Derived.WalkKit
import Derived.ProofKit
import Derived.OpenShut
import Derived.Carry
import Derived.Deep.Slices
import Derived.Lib.SmallJoins
import Derived.SizedLaws

namespace Go.Proofs.YtkaaenkhiooomaaDoor
open Go Go.RowKit
set_option linter.unusedVariables false
set_option linter.unusedSimpArgs false
/-- a slice of integers, handed in -/
def IsPlaces (w : World) (a : Option Addr) (N : Nat) (A : Nat → Int) : Prop :=
  ∀ i, i < N → ∃ b o, a = some ⟨b, o, none⟩ ∧ b < w.heap.size ∧ w.cell? ⟨b, o + i, none⟩ = some (.int .i64 (A i))
theorem IsPlaces.below {w w' : World} {a : Option Addr} {N : Nat} {A : Nat → Int} (h : IsPlaces w a N A) (hb : Below w.heap.size w w') : IsPlaces w' a N A := fun i hi => by
  obtain ⟨b, o, e, h1, h2⟩ := h i hi
  have hblk := hb.block b h1
  refine ⟨b, o, e, Nat.lt_of_lt_of_le h1 hb.size, ?_⟩
  rw [← h2]; simp [World.cell?, hblk]
/-- whether a place is among the first of them -/
def onF (A : Nat → Int) : Nat → Nat → Bool
  | 0, _ => false
  | k + 1, q => if (q : Int) = A k then true else onF A k q
def AllIn (A : Nat → Int) (n k : Nat) : Prop := ∀ i, i < k → 0 ≤ A i ∧ A i < (n : Int)
theorem AllIn.succ {A : Nat → Int} {n k : Nat} (h : AllIn A n k) (hk : 0 ≤ A k ∧ A k < (n : Int)) : AllIn A n (k + 1) := fun i hi => by
  by_cases e : i = k
  · rw [e]; exact hk
  · exact h i (by omega)
theorem on_put {A : Nat → Int} {k p : Nat} (hp : A k = (p : Int)) (W : Nat → Nat) (h : ∀ q, bitF W q = onF A k q) (q : Nat) : bitF (putW W p) q = onF A (k + 1) q := by
  rw [put_if, h]
  show _ = if (q : Int) = A k then true else onF A k q
  rw [hp]
  by_cases e : q = p
  · simp [e]
  · rw [if_neg e, if_neg (by omega)]
section
variable {n : Nat}
theorem of_no (p : Int) (hp : p < 1 ∨ 8192 < p) (v : Value) (w : World) : Calls Tryd.prog 12 #[.int .i64 p, v] w fun e w' => e = .returned (.tuple #[.pointer none, .int .i64 1]) ∧ w' = w := by
  have HN := newM_no p hp
  go_enter Tryd.func12, Tryd.ntmps12
  go_wp2_with fail
  refine (HN _).mono ?_
  rintro e w' ⟨rfl, rfl⟩
  go_wp2_with fail
  go_ret2
  exact ⟨rfl, rfl⟩
def OnM (w : World) (B g n : Nat) (A : Nat → Int) (k : Nat) : Prop := ∃ b c W, BM w B g n b c W ∧ ∀ q, bitF W q = onF A k q
set_option maxHeartbeats 4000000 in
theorem of_ok (h1 : 1 ≤ n) (h2 : n ≤ 8192) (a : Option Addr) (N cc : Nat) (hN : N ≤ 9223372036854775807) (A : Nat → Int) (hall : AllIn A n N) (w : World) (hD : IsPlaces w a N A) : Calls Tryd.prog 12 #[.int .i64 (n : Int), .slice a N cc] w fun e w' => ∃ g, e = .returned (.tuple #[.pointer (some ⟨g, 0, none⟩), .int .i64 0]) ∧ OnM w' w.heap.size g n A N ∧ Below w.heap.size w w' := by
  have HN := newM_ok n h1 h2 w
  have HALL : Hid (AllIn A n N) := hall
  have HD : Hid (∀ V : World, Below w.heap.size w V → IsPlaces V a N A) := fun V hV => hD.below hV
  clear hD
  go_enter Tryd.func12, Tryd.ntmps12
  go_wp2_with fail
  refine HN.mono ?_
  rintro e w1 ⟨g, b0, c0, rfl, hM0, hb0⟩
  go_wp2_with fail
  go_loopw [20] (fun t wr => ∃ j : Nat, j ≤ N ∧ t = .int .i64 (j : Int) ∧ AllIn A n j ∧ OnM wr w.heap.size g n A j ∧ Below w.heap.size w wr) (fun t _ => N - (intOf t).toNat)
  case atStart => exact ⟨0, by omega, rfl, fun i hi => by omega, ⟨_, _, _, hM0, fun q => bitF_zero q⟩, hb0⟩
  case round =>
    clear hM0 hb0 HN
    obtain ⟨j, hj, rfl, hal, ⟨b, c, W, hM, hbits⟩, hb⟩ := hrel
    by_cases hlt : j < N
    · obtain ⟨ab, ao, rfl, hab, cw⟩ := HD.out wr hb j hlt
      have j0 : (0 : Int) ≤ (j : Int) := by omega
      have j1 : (j : Int) < (N : Int) := by omega
      by_cases hin : 0 ≤ A j ∧ A j < (n : Int)
      · obtain ⟨p, hp⟩ := Int.eq_ofNat_of_zero_le hin.1
        rw [hp] at cw hin
        have hpn : p < n := by omega
        have HI := inside_yes wr hM p hpn
        have HS := set_in wr hM p hpn
        have HON : Hid (∀ q, bitF (putW W p) q = onF A (j + 1) q) := fun q => on_put hp W hbits q
        have HAL : Hid (AllIn A n (j + 1)) := hal.succ (by rw [hp]; exact hin)
        have HB : Hid (∀ V, Only b wr V → Below w.heap.size w V) := fun V ho => hb.trans (ho.below hb.size hM.blt.1)
        have HJ : Hid (j < N ∧ N ≤ 9223372036854775807) := ⟨hlt, hN⟩
        clear hM hbits hal hb hin hp
        go_wp2_with fail
        refine HI.mono ?_
        intro e2 w2 hw2
        obtain ⟨he2, hw2⟩ := hw2
        subst he2
        subst hw2
        go_wp2_with fail
        refine HS.mono ?_
        rintro e3 w3 ⟨rfl, hM3, ho3⟩
        have hb3 := HB.out w3 ho3
        go_wp2_with fail
        go_roundw
        case rel => exact ⟨j + 1, HJ.out.1, by first | rfl | go_num | simp, HAL.out, ⟨b, c, _, hM3, HON.out⟩, hb3⟩
        case measure => simp [intOf]; have := HJ.out; omega
      · exact absurd (HALL.out j hlt) hin
    · obtain rfl : j = N := by omega
      have j1 : ¬ ((j : Int) < (j : Int)) := by omega
      have HO : Hid (OnM wr w.heap.size g n A j) := ⟨b, c, W, hM, hbits⟩
      clear hM hbits
      go_wp2_with fail
      go_ret2
      exact ⟨g, rfl, HO.out, hb⟩
set_option maxHeartbeats 4000000 in
theorem of_bad (h1 : 1 ≤ n) (h2 : n ≤ 8192) (a : Option Addr) (N cc : Nat) (hN : N ≤ 9223372036854775807) (A : Nat → Int) (hbad : ¬ AllIn A n N) (w : World) (hD : IsPlaces w a N A) : Calls Tryd.prog 12 #[.int .i64 (n : Int), .slice a N cc] w fun e w' => e = .returned (.tuple #[.pointer none, .int .i64 90]) ∧ Below w.heap.size w w' := by
  have HN := newM_ok n h1 h2 w
  have HBAD : Hid (¬ AllIn A n N) := hbad
  have HD : Hid (∀ V : World, Below w.heap.size w V → IsPlaces V a N A) := fun V hV => hD.below hV
  clear hD
  go_enter Tryd.func12, Tryd.ntmps12
  go_wp2_with fail
  refine HN.mono ?_
  rintro e w1 ⟨g, b0, c0, rfl, hM0, hb0⟩
  go_wp2_with fail
  go_loopw [20] (fun t wr => ∃ j : Nat, j ≤ N ∧ t = .int .i64 (j : Int) ∧ AllIn A n j ∧ OnM wr w.heap.size g n A j ∧ Below w.heap.size w wr) (fun t _ => N - (intOf t).toNat)
  case atStart => exact ⟨0, by omega, rfl, fun i hi => by omega, ⟨_, _, _, hM0, fun q => bitF_zero q⟩, hb0⟩
  case round =>
    clear hM0 hb0 HN
    obtain ⟨j, hj, rfl, hal, ⟨b, c, W, hM, hbits⟩, hb⟩ := hrel
    by_cases hlt : j < N
    · obtain ⟨ab, ao, rfl, hab, cw⟩ := HD.out wr hb j hlt
      have j0 : (0 : Int) ≤ (j : Int) := by omega
      have j1 : (j : Int) < (N : Int) := by omega
      by_cases hin : 0 ≤ A j ∧ A j < (n : Int)
      · obtain ⟨p, hp⟩ := Int.eq_ofNat_of_zero_le hin.1
        rw [hp] at cw hin
        have hpn : p < n := by omega
        have HI := inside_yes wr hM p hpn
        have HS := set_in wr hM p hpn
        have HON : Hid (∀ q, bitF (putW W p) q = onF A (j + 1) q) := fun q => on_put hp W hbits q
        have HAL : Hid (AllIn A n (j + 1)) := hal.succ (by rw [hp]; exact hin)
        have HB : Hid (∀ V, Only b wr V → Below w.heap.size w V) := fun V ho => hb.trans (ho.below hb.size hM.blt.1)
        have HJ : Hid (j < N ∧ N ≤ 9223372036854775807) := ⟨hlt, hN⟩
        clear hM hbits hal hb hin hp
        go_wp2_with fail
        refine HI.mono ?_
        intro e2 w2 hw2
        obtain ⟨he2, hw2⟩ := hw2
        subst he2
        subst hw2
        go_wp2_with fail
        refine HS.mono ?_
        rintro e3 w3 ⟨rfl, hM3, ho3⟩
        have hb3 := HB.out w3 ho3
        go_wp2_with fail
        go_roundw
        case rel => exact ⟨j + 1, HJ.out.1, by first | rfl | go_num | simp, HAL.out, ⟨b, c, _, hM3, HON.out⟩, hb3⟩
        case measure => simp [intOf]; have := HJ.out; omega
      · have hout : A j < 0 ∨ (n : Int) ≤ A j := by omega
        have HI := inside_no wr hM (A j) hout
        clear hM hbits hal hin hout
        generalize A j = aj at *
        go_wp2_with fail
        refine HI.mono ?_
        intro e2 w2 hw2
        obtain ⟨he2, hw2⟩ := hw2
        subst he2
        subst hw2
        go_wp2_with fail
        go_ret2
        exact ⟨rfl, hb⟩
    · obtain rfl : j = N := by omega
      exact absurd hal HBAD.out
theorem OnM.below {w w' : World} {B g n : Nat} {A : Nat → Int} {k : Nat} (h : OnM w B g n A k) (hb : Below w.heap.size w w') : OnM w' B g n A k := by
  obtain ⟨b, c, W, hM, hq⟩ := h
  exact ⟨b, c, W, hM.below hb, hq⟩
theorem OnM.store {w : World} {B B' g n kb c : Nat} {A : Nat → Int} {k i : Nat} {F : Nat → Bool} (h : OnM w B g n A k) (hA : BA w B' kb n c F) (x : Value) : OnM (w.setCell ⟨kb, i, none⟩ x) B g n A k := by
  obtain ⟨b, c, W, hM, hq⟩ := h
  have h1 := hA.ne hM
  exact ⟨b, c, W, hM.only (Only.set w kb i x) h1.1 h1.2, hq⟩
theorem on_step {A : Nat → Int} {k p : Nat} (hp : A k = (p : Int)) (q : Nat) : (if q = p then true else onF A k q) = onF A (k + 1) q := by
  show _ = if (q : Int) = A k then true else onF A k q
  rw [hp]
  by_cases e : q = p
  · simp [e]
  · rw [if_neg e, if_neg (by omega)]
theorem ba_new (n : Nat) (h2 : n ≤ 8192) (A : Nat → Int) (w : World) (B : Nat) (hB : B ≤ w.heap.size) : BA (w.alloc (.cells (va n fun _ => .bool false) 4)) B w.heap.size n n (onF A 0) := ⟨h2, by
  have : boL (onF A 0) n = (List.range n).map fun _ => Value.bool false := rfl
  rw [this]
  exact own_made1 (Blk.new _ _ _) h2 _ hB⟩
theorem bitsOf_no (p : Int) (hp : p < 1 ∨ 8192 < p) (v : Value) (w : World) : Calls Tryd.prog 4 #[.int .i64 p, v] w fun e w' => e = .returned (.bool true) ∧ Below w.heap.size w w' := by
  have HO := of_no p hp v
  by_cases h1 : p < 1
  · go_enter Tryd.func4, Tryd.ntmps4
    go_wp2_with fail
    refine (HO _).mono ?_
    rintro e w' ⟨rfl, rfl⟩
    go_wp2_with fail
    refine (awake11_any _).mono ?_
    rintro e w2 ⟨rfl, hb2⟩
    go_wp2_with fail
    go_ret
    exact ⟨rfl, hb2⟩
  · have h2 : 8192 < p := by omega
    go_enter Tryd.func4, Tryd.ntmps4
    go_wp2_with fail
    refine (HO _).mono ?_
    rintro e w' ⟨rfl, rfl⟩
    go_wp2_with fail
    refine (awake11_any _).mono ?_
    rintro e w2 ⟨rfl, hb2⟩
    go_wp2_with fail
    go_ret
    exact ⟨rfl, hb2⟩
set_option maxHeartbeats 4000000 in
theorem bitsOf_ok (h1 : 1 ≤ n) (h2 : n ≤ 8192) (a : Option Addr) (N cc : Nat) (hN : N ≤ 9223372036854775807) (A : Nat → Int) (hall : AllIn A n N) (w : World) (h0 : 0 < w.heap.size) (hT : TabAt w) (hD : IsPlaces w a N A) : Calls Tryd.prog 4 #[.int .i64 (n : Int), .slice a N cc] w fun e w' => e = .returned (.bool true) ∧ Below w.heap.size w w' := by
  have HO := of_ok h1 h2 a N cc hN A hall w hD
  have HALL : Hid (AllIn A n N) := hall
  have HT : Hid (TabAt w) := hT
  have a1 : ¬ ((n : Int) < 1) := by omega
  have a2 : ¬ ((8192 : Int) < (n : Int)) := by omega
  have hmk := make_bools n h2
  have HD : Hid (∀ V : World, Below w.heap.size w V → IsPlaces V a N A) := fun V hV => hD.below hV
  clear hD hT
  go_enter Tryd.func4, Tryd.ntmps4
  go_wp2_with fail
  refine HO.mono ?_
  rintro e w1 ⟨g, rfl, hO1, hb1⟩
  have HA1 : Hid (BA (w1.alloc (.cells (va n fun _ => .bool false) 4)) w.heap.size w1.heap.size n n (onF A 0)) := ba_new n h2 A w1 _ hb1.size
  have HB1 : Hid (Below w.heap.size w (w1.alloc (.cells (va n fun _ => .bool false) 4))) := hb1.alloc hb1.size _
  have HO1 : Hid (OnM (w1.alloc (.cells (va n fun _ => .bool false) 4)) w.heap.size g n A N) := hO1.below (below_new1 _ _)
  clear hO1
  go_wp2_with fail
  generalize hw2 : w1.alloc (.cells (va n fun _ => .bool false) 4) = w2 at *
  clear hw2
  generalize hkb : w1.heap.size = kb at *
  clear hkb hb1 HO
  go_loopw [8] (fun t wr => ∃ j : Nat, j ≤ N ∧ t = .int .i64 (j : Int) ∧ AllIn A n j ∧ BA wr w.heap.size kb n n (onF A j) ∧ OnM wr w.heap.size g n A N ∧ Below w.heap.size w wr) (fun t _ => N - (intOf t).toNat)
  case atStart => exact ⟨0, by omega, rfl, fun i hi => by omega, HA1.out, HO1.out, HB1.out⟩
  case round =>
    clear HA1 HB1 HO1
    obtain ⟨j, hj, rfl, hal, hA, hO, hb⟩ := hrel
    by_cases hlt : j < N
    · obtain ⟨ab, ao, rfl, hab, cw⟩ := HD.out wr hb j hlt
      have j0 : (0 : Int) ≤ (j : Int) := by omega
      have j1 : (j : Int) < (N : Int) := by omega
      by_cases hin : 0 ≤ A j ∧ A j < (n : Int)
      · obtain ⟨p, hp⟩ := Int.eq_ofNat_of_zero_le hin.1
        have hal2 : AllIn A n (j + 1) := hal.succ hin
        have hst := fun q => on_step (A := A) (k := j) hp q
        rw [hp] at cw hin
        have p0 : (0 : Int) ≤ (p : Int) := hin.1
        have p1 : (p : Int) < (n : Int) := hin.2
        have p2 : ¬ ((p : Int) < 0) := by omega
        have p3 : ¬ ((n : Int) ≤ (p : Int)) := by omega
        have hpn : p < n := by omega
        have ck := hA.at hpn
        have cf := hA.frozen p
        have HA2 : Hid (BA (wr.setCell ⟨kb, p, none⟩ (.bool true)) w.heap.size kb n n (onF A (j + 1))) := (hA.put p true).congr fun i _ => hst i
        have HO2 : Hid (OnM (wr.setCell ⟨kb, p, none⟩ (.bool true)) w.heap.size g n A N) := hO.store hA _
        have HB2 : Hid (Below w.heap.size w (wr.setCell ⟨kb, p, none⟩ (.bool true))) := hb.setCell (p := ⟨kb, p, none⟩) hA.lt.1 _
        have HAL : Hid (AllIn A n (j + 1)) := hal2
        have HJ : Hid (j < N ∧ N ≤ 9223372036854775807) := ⟨hlt, hN⟩
        clear hA hal hal2 hb hin hp hst hO
        go_wp2_with fail
        go_roundw
        case rel => exact ⟨j + 1, HJ.out.1, by first | rfl | go_num | simp, HAL.out, HA2.out, HO2.out, HB2.out⟩
        case measure => simp [intOf]; have := HJ.out; omega
      · exact absurd (HALL.out j hlt) hin
    · obtain rfl : j = N := by omega
      have j1 : ¬ ((j : Int) < (j : Int)) := by omega
      obtain ⟨b, c, W, hM, hbits⟩ := hO
      have HMK : Hid (BM wr w.heap.size g n b c W ∧ BA wr w.heap.size kb n n (bitF W)) := ⟨hM, hA.congr fun i _ => (hbits i).symm⟩
      clear hM hA hbits
      go_wp2_with fail
      refine (awake11_any _).mono ?_
      rintro e2 w5 ⟨rfl, hb5⟩
      have hb6 : Below w.heap.size w w5 := hb.trans (hb5.mono hb.size)
      have HS : Hid (Calls Tryd.prog 11 #[.pointer (some ⟨g, 0, none⟩), .slice (some ⟨kb, 0, none⟩) n n, .int .i64 0] w5 fun e w' => e = .returned (.bool true) ∧ Below w5.heap.size w5 w') := says_any w5 (Nat.lt_of_lt_of_le h0 hb6.size) (HT.out.below h0 hb6) (HMK.out.1.below hb5) (HMK.out.2.below hb5) 0
      clear HMK hb5 hb
      go_wp2_with fail
      refine HS.out.mono ?_
      rintro e3 w7 ⟨rfl, hb7⟩
      have hb8 : Below w.heap.size w w7 := hb6.trans (hb7.mono hb6.size)
      go_wp2_with fail
      go_ret
      exact ⟨rfl, hb8⟩
set_option maxHeartbeats 4000000 in
theorem bitsOf_bad (h1 : 1 ≤ n) (h2 : n ≤ 8192) (a : Option Addr) (N cc : Nat) (hN : N ≤ 9223372036854775807) (A : Nat → Int) (hbad : ¬ AllIn A n N) (w : World) (h0 : 0 < w.heap.size) (hT : TabAt w) (hD : IsPlaces w a N A) : Calls Tryd.prog 4 #[.int .i64 (n : Int), .slice a N cc] w fun e w' => e = .returned (.bool true) ∧ Below w.heap.size w w' := by
  have HO := of_bad h1 h2 a N cc hN A hbad w hD
  have HBAD : Hid (¬ AllIn A n N) := hbad
  have HT : Hid (TabAt w) := hT
  have a1 : ¬ ((n : Int) < 1) := by omega
  have a2 : ¬ ((8192 : Int) < (n : Int)) := by omega
  have hmk := make_bools n h2
  have HD : Hid (∀ V : World, Below w.heap.size w V → IsPlaces V a N A) := fun V hV => hD.below hV
  clear hD hT
  go_enter Tryd.func4, Tryd.ntmps4
  go_wp2_with fail
  refine HO.mono ?_
  rintro e w1 ⟨rfl, hb1⟩
  have HA1 : Hid (BA (w1.alloc (.cells (va n fun _ => .bool false) 4)) w.heap.size w1.heap.size n n (onF A 0)) := ba_new n h2 A w1 _ hb1.size
  have HB1 : Hid (Below w.heap.size w (w1.alloc (.cells (va n fun _ => .bool false) 4))) := hb1.alloc hb1.size _
  go_wp2_with fail
  generalize hw2 : w1.alloc (.cells (va n fun _ => .bool false) 4) = w2 at *
  clear hw2
  generalize hkb : w1.heap.size = kb at *
  clear hkb hb1 HO
  go_loopw [8] (fun t wr => ∃ j : Nat, j ≤ N ∧ t = .int .i64 (j : Int) ∧ AllIn A n j ∧ BA wr w.heap.size kb n n (onF A j) ∧ Below w.heap.size w wr) (fun t _ => N - (intOf t).toNat)
  case atStart => exact ⟨0, by omega, rfl, fun i hi => by omega, HA1.out, HB1.out⟩
  case round =>
    clear HA1 HB1
    obtain ⟨j, hj, rfl, hal, hA, hb⟩ := hrel
    by_cases hlt : j < N
    · obtain ⟨ab, ao, rfl, hab, cw⟩ := HD.out wr hb j hlt
      have j0 : (0 : Int) ≤ (j : Int) := by omega
      have j1 : (j : Int) < (N : Int) := by omega
      by_cases hin : 0 ≤ A j ∧ A j < (n : Int)
      · obtain ⟨p, hp⟩ := Int.eq_ofNat_of_zero_le hin.1
        have hal2 : AllIn A n (j + 1) := hal.succ hin
        have hst := fun q => on_step (A := A) (k := j) hp q
        rw [hp] at cw hin
        have p0 : (0 : Int) ≤ (p : Int) := hin.1
        have p1 : (p : Int) < (n : Int) := hin.2
        have p2 : ¬ ((p : Int) < 0) := by omega
        have p3 : ¬ ((n : Int) ≤ (p : Int)) := by omega
        have hpn : p < n := by omega
        have ck := hA.at hpn
        have cf := hA.frozen p
        have HA2 : Hid (BA (wr.setCell ⟨kb, p, none⟩ (.bool true)) w.heap.size kb n n (onF A (j + 1))) := (hA.put p true).congr fun i _ => hst i
        have HB2 : Hid (Below w.heap.size w (wr.setCell ⟨kb, p, none⟩ (.bool true))) := hb.setCell (p := ⟨kb, p, none⟩) hA.lt.1 _
        have HAL : Hid (AllIn A n (j + 1)) := hal2
        have HJ : Hid (j < N ∧ N ≤ 9223372036854775807) := ⟨hlt, hN⟩
        clear hA hal hal2 hb hin hp hst
        go_wp2_with fail
        go_roundw
        case rel => exact ⟨j + 1, HJ.out.1, by first | rfl | go_num | simp, HAL.out, HA2.out, HB2.out⟩
        case measure => simp [intOf]; have := HJ.out; omega
      · by_cases hneg : A j < 0
        · clear hin hal hA
          generalize A j = aj at *
          go_wp2_with fail
          refine (awake11_any _).mono ?_
          rintro e2 w5 ⟨rfl, hb5⟩
          have hb6 : Below w.heap.size w w5 := hb.trans (hb5.mono hb.size)
          go_wp2_with fail
          go_ret
          exact ⟨rfl, hb6⟩
        · have hge : (n : Int) ≤ A j := by omega
          clear hin hal hA
          generalize A j = aj at *
          go_wp2_with fail
          refine (awake11_any _).mono ?_
          rintro e2 w5 ⟨rfl, hb5⟩
          have hb6 : Below w.heap.size w w5 := hb.trans (hb5.mono hb.size)
          go_wp2_with fail
          go_ret
          exact ⟨rfl, hb6⟩
    · obtain rfl : j = N := by omega
      exact absurd hal HBAD.out
theorem bitsOfLaw (p : Int) (a : Option Addr) (N cc : Nat) (hN : N ≤ 9223372036854775807) (A : Nat → Int) (w : World) (h0 : 0 < w.heap.size) (hT : TabAt w) (hD : IsPlaces w a N A) : Calls Tryd.prog 4 #[.int .i64 p, .slice a N cc] w fun e w' => e = .returned (.bool true) ∧ Below w.heap.size w w' := by
  by_cases hp : p < 1 ∨ 8192 < p
  · exact bitsOf_no p hp _ w
  · obtain ⟨n, rfl⟩ := Int.eq_ofNat_of_zero_le (a := p) (by omega)
    by_cases hall : AllIn A n N
    · exact bitsOf_ok (by omega) (by omega) a N cc hN A hall w h0 hT hD
    · exact bitsOf_bad (by omega) (by omega) a N cc hN A hall w h0 hT hD
end
end Go.Proofs.YtkaaenkhiooomaaDoor

namespace Go.Proofs.YtkaaenkhiooomaaDoor
open Go.ChangeShapes Go.WideShapes Go.ChangeAt Go.RowKit Go.Joins
set_option linter.unusedVariables false
theorem icell_lt {w : World} {a : Addr} {v : Value} (h : w.cell? a = some v) : a.block < w.heap.size := by
  obtain ⟨e, n, hs, _⟩ := World.shape?_of_cell? h
  unfold World.shape? at hs
  cases hb : w.heap[a.block]? with
  | none => simp [hb] at hs
  | some o => exact (Array.getElem?_eq_some_iff.1 hb).1
set_option maxRecDepth 100000 in
theorem open_places {H : Type} {enc : TypeId × Value → H} {W : World} {a0 : Option Addr} {len cap fuel : Nat} {x : DataW H × List MemPlace}
    (hf : DataW.trod enc Tryd.prog W 0 (fun _ => true) true fuel 30 [.slice a0 len cap] = some x) (hsz : ∀ n ∈ x.1.weights Tryd.prog 30, n ≤ reachBytes) :
    ∃ (A : Nat → Int), len ≤ 9223372036854775807 ∧ IsPlaces W a0 len A := by
  rcases Deep.open_slice Tryd.underlying30 hf with ⟨hcs, hx⟩ | ⟨a, len', cap', m, n, D, Pl, hcs, _, hl, hm, hmm, hx, hel⟩
  · simp at hcs
    obtain ⟨rfl, rfl, rfl⟩ := hcs
    exact ⟨fun _ => 0, by omega, fun i hi => absurd hi (by omega)⟩
  · simp at hcs
    obtain ⟨rfl, rfl, rfl⟩ := hcs
    subst hx
    simp only [if_true] at hmm
    subst hmm
    have hu := Tryd.underlying30
    have hby : Tryd.prog.bytesOf 3 = 8 := by kernel_rfl
    have hw0 := hsz ((((List.range len).map D).length + ((List.range (m - len)).map fun j => D (len + j)).length) * Tryd.prog.bytesOf 3) (by simp [DataW.weights, hu])
    rw [hby] at hw0
    simp only [List.length_map, List.length_range] at hw0
    have hlen4 : len ≤ 9223372036854775807 := by
      unfold reachBytes at hw0
      omega
    have hce : Tryd.prog.cellsOf 3 = 1 := by kernel_rfl
    have hsp : 0 < len → a.spot = none := fun h0 => by
      obtain ⟨cs', h1, _⟩ := hel 0 (by omega)
      rw [hce] at h1
      obtain ⟨_, hcl, hcell⟩ := World.cells?_some h1
      match cs', hcl with
      | [v0], _ => simpa [Addr.add] using World.cell?_spot (hcell 0 (by omega))
    have each : ∀ i, ∃ q : Int, i < len → ∃ b o, a = ⟨b, o, none⟩ ∧ b < W.heap.size ∧ W.cell? ⟨b, o + i, none⟩ = some (.int .i64 q) := by
      intro i
      by_cases hi : i < len
      · obtain ⟨cs', h1, h2⟩ := hel i (by omega)
        rw [hce] at h1
        obtain ⟨_, hcl, hcell⟩ := World.cells?_some h1
        match cs', hcl with
        | [v0], _ =>
          obtain ⟨p, e0, _, w0⟩ := DataW.trod_int Tryd.underlying3 h2
          simp at e0
          subst e0
          refine ⟨p, fun _ => ?_⟩
          have c0 := hcell 0 (by decide)
          obtain ⟨b, off, spot⟩ := a
          have hspot : spot = none := hsp (by omega)
          subst hspot
          simp only [Addr.add_mid, List.getElem?_cons_zero, Nat.mul_one, Nat.add_zero] at c0
          exact ⟨b, off, rfl, icell_lt c0, c0⟩
      · exact ⟨0, fun h => absurd h hi⟩
    refine ⟨fun i => Classical.choose (each i), hlen4, fun i hi => ?_⟩
    obtain ⟨b, o, rfl, h1, h2⟩ := Classical.choose_spec (each i) hi
    exact ⟨b, o, rfl, h1, h2⟩
end Go.Proofs.YtkaaenkhiooomaaDoor
