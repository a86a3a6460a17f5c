/- The document's rooms: lists of states; New. Two slices of uint32 compared (the law's same). -/
import Derived.Test.YtjlngldmdfbbaaaDoorHBiPlay
import Derived.Handy
import Derived.Test.YtjlngldmdfbbaaaDoorHSegsP
import Derived.Maps.AppendAt

namespace Go.Proofs.YtjlngldmdfbbaaaDoor
open Go Go.RowKit
set_option linter.unusedVariables false
set_option linter.unusedSimpArgs false
/-- a slice of integers, handed in -/
def IsPlaces (w : World) (a : Option Addr) (N : Nat) (A : Nat → Int) : Prop :=
  ∀ i, i < N → ∃ b o, a = some ⟨b, o, none⟩ ∧ b < w.heap.size ∧ w.cell? ⟨b, o + i, none⟩ = some (.int .i64 (A i))
theorem IsPlaces.below {w w' : World} {a : Option Addr} {N : Nat} {A : Nat → Int} (h : IsPlaces w a N A) (hb : Below w.heap.size w w') : IsPlaces w' a N A := fun i hi => by
  obtain ⟨b, o, e, h1, h2⟩ := h i hi
  have hblk := hb.block b h1
  refine ⟨b, o, e, Nat.lt_of_lt_of_le h1 hb.size, ?_⟩
  rw [← h2]; simp [World.cell?, hblk]
/-- whether a place is among the first of them -/
def onF (A : Nat → Int) : Nat → Nat → Bool
  | 0, _ => false
  | k + 1, q => if (q : Int) = A k then true else onF A k q
def AllIn (A : Nat → Int) (n k : Nat) : Prop := ∀ i, i < k → 0 ≤ A i ∧ A i < (n : Int)
theorem AllIn.succ {A : Nat → Int} {n k : Nat} (h : AllIn A n k) (hk : 0 ≤ A k ∧ A k < (n : Int)) : AllIn A n (k + 1) := fun i hi => by
  by_cases e : i = k
  · rw [e]; exact hk
  · exact h i (by omega)
theorem on_put {A : Nat → Int} {k p : Nat} (hp : A k = (p : Int)) (W : Nat → Nat) (h : ∀ q, bitF W q = onF A k q) (q : Nat) : bitF (putW W p) q = onF A (k + 1) q := by
  rw [put_if, h]
  show _ = if (q : Int) = A k then true else onF A k q
  rw [hp]
  by_cases e : q = p
  · simp [e]
  · rw [if_neg e, if_neg (by omega)]
section
variable {n : Nat}
def OnM (w : World) (B g n : Nat) (A : Nat → Int) (k : Nat) : Prop := ∃ b c W, BM w B g n b c W ∧ ∀ q, bitF W q = onF A k q
set_option maxHeartbeats 4000000 in
theorem of_ok (h1 : 1 ≤ n) (h2 : n ≤ 8192) (a : Option Addr) (N cc : Nat) (hN : N ≤ 9223372036854775807) (A : Nat → Int) (hall : AllIn A n N) (w : World) (hD : IsPlaces w a N A) : Calls Tryd.prog 44 #[.int .i64 (n : Int), .slice a N cc] w fun e w' => ∃ g, e = .returned (.tuple #[.pointer (some ⟨g, 0, none⟩), .int .i64 0]) ∧ OnM w' w.heap.size g n A N ∧ Below w.heap.size w w' := by
  have HN := newM_ok n h1 h2 w
  have HALL : Hid (AllIn A n N) := hall
  have HD : Hid (∀ V : World, Below w.heap.size w V → IsPlaces V a N A) := fun V hV => hD.below hV
  clear hD
  go_enter Tryd.func44, Tryd.ntmps44
  go_wp2_with fail
  refine HN.mono ?_
  rintro e w1 ⟨g, b0, c0, rfl, hM0, hb0⟩
  go_wp2_with fail
  go_loopw [20] (fun t wr => ∃ j : Nat, j ≤ N ∧ t = .int .i64 (j : Int) ∧ AllIn A n j ∧ OnM wr w.heap.size g n A j ∧ Below w.heap.size w wr) (fun t _ => N - (intOf t).toNat)
  case atStart => exact ⟨0, by omega, rfl, fun i hi => by omega, ⟨_, _, _, hM0, fun q => bitF_zero q⟩, hb0⟩
  case round =>
    clear hM0 hb0 HN
    obtain ⟨j, hj, rfl, hal, ⟨b, c, W, hM, hbits⟩, hb⟩ := hrel
    by_cases hlt : j < N
    · obtain ⟨ab, ao, rfl, hab, cw⟩ := HD.out wr hb j hlt
      have j0 : (0 : Int) ≤ (j : Int) := by omega
      have j1 : (j : Int) < (N : Int) := by omega
      by_cases hin : 0 ≤ A j ∧ A j < (n : Int)
      · obtain ⟨p, hp⟩ := Int.eq_ofNat_of_zero_le hin.1
        rw [hp] at cw hin
        have hpn : p < n := by omega
        have HI := inside_yes wr hM p hpn
        have HS := set_in wr hM p hpn
        have HON : Hid (∀ q, bitF (putW W p) q = onF A (j + 1) q) := fun q => on_put hp W hbits q
        have HAL : Hid (AllIn A n (j + 1)) := hal.succ (by rw [hp]; exact hin)
        have HB : Hid (∀ V, Only b wr V → Below w.heap.size w V) := fun V ho => hb.trans (ho.below hb.size hM.blt.1)
        have HJ : Hid (j < N ∧ N ≤ 9223372036854775807) := ⟨hlt, hN⟩
        clear hM hbits hal hb hin hp
        go_wp2_with fail
        refine HI.mono ?_
        intro e2 w2 hw2
        obtain ⟨he2, hw2⟩ := hw2
        subst he2
        subst hw2
        go_wp2_with fail
        refine HS.mono ?_
        rintro e3 w3 ⟨rfl, hM3, ho3⟩
        have hb3 := HB.out w3 ho3
        go_wp2_with fail
        go_roundw
        case rel => exact ⟨j + 1, HJ.out.1, by first | rfl | go_num | simp, HAL.out, ⟨b, c, _, hM3, HON.out⟩, hb3⟩
        case measure => simp [intOf]; have := HJ.out; omega
      · exact absurd (HALL.out j hlt) hin
    · obtain rfl : j = N := by omega
      have j1 : ¬ ((j : Int) < (j : Int)) := by omega
      have HO : Hid (OnM wr w.heap.size g n A j) := ⟨b, c, W, hM, hbits⟩
      clear hM hbits
      go_wp2_with fail
      go_ret2
      exact ⟨g, rfl, HO.out, hb⟩
theorem OnM.below {w w' : World} {B g n : Nat} {A : Nat → Int} {k : Nat} (h : OnM w B g n A k) (hb : Below w.heap.size w w') : OnM w' B g n A k := by
  obtain ⟨b, c, W, hM, hq⟩ := h
  exact ⟨b, c, W, hM.below hb, hq⟩
theorem OnM.store {w : World} {B B' g n kb c : Nat} {A : Nat → Int} {k i : Nat} {F : Nat → Bool} (h : OnM w B g n A k) (hA : BA w B' kb n c F) (x : Value) : OnM (w.setCell ⟨kb, i, none⟩ x) B g n A k := by
  obtain ⟨b, c, W, hM, hq⟩ := h
  have h1 := hA.ne hM
  exact ⟨b, c, W, hM.only (Only.set w kb i x) h1.1 h1.2, hq⟩
end
end Go.Proofs.YtjlngldmdfbbaaaDoor

namespace Go.Proofs.YtjlngldmdfbbaaaDoor
open Go Go.RowKit Go.Shelf
set_option linter.unusedVariables false
set_option linter.unusedSimpArgs false
theorem a12_ok : ∀ m, m < 2 → OkAt (fun i => i + 1) 16 m := fun m hm => by
  match m, hm with
  | 0, _ => exact ⟨by decide, by decide, by decide⟩
  | 1, _ => exact ⟨by decide, by decide, by decide⟩
theorem a12_free : freeF (memA (fun i => i + 1) 2) (memA (fun i => i + 1) 2) 16 = 3 := by decide
set_option maxHeartbeats 4000000 in
theorem awake12_any (w : World) (hT : TabAt w) (h0 : 0 < w.heap.size) : Calls Tryd.prog 6 #[] w fun e w' => e = .returned (.bool true) ∧ Below w.heap.size w w' := by
  have hb1 : Below w.heap.size w (w.alloc (.cells #[.int .u32 1, .int .u32 2] 36)) := below_new1 _ _
  have hI : IsU32s (w.alloc (.cells #[.int .u32 1, .int .u32 2] 36)) (some ⟨w.heap.size, 0, none⟩) 2 (fun i => i + 1) := fun i hi => by
    have hblk : Blk (w.alloc (.cells #[.int .u32 1, .int .u32 2] 36)) w.heap.size 36 #[.int .u32 1, .int .u32 2] := Blk.new _ _ _
    match i, hi with
    | 0, _ => exact ⟨by decide, w.heap.size, 0, rfl, hblk.lt, by rw [hblk.cell]; rfl⟩
    | 1, _ => exact ⟨by decide, w.heap.size, 0, rfl, hblk.lt, by rw [hblk.cell]; rfl⟩
  have HN : Hid (Calls Tryd.prog 4 #[.int .i64 16, .slice (some ⟨w.heap.size, 0, none⟩) 2 2] (w.alloc (.cells #[.int .u32 1, .int .u32 2] 36)) fun e w' => ∃ r, e = .returned (.tuple #[.pointer (some ⟨r, 0, none⟩), .int .i64 0, .int .i64 0]) ∧ RoomIs w' (fun k => w.heap.size ≤ k) r 16 (memA (fun i => i + 1) 2) (memA (fun i => i + 1) 2) ∧ Below w.heap.size w w') := by
    refine (rnew_any (n := 16) (by decide) (by decide) (some ⟨w.heap.size, 0, none⟩) 2 2 (by decide) (fun i => i + 1) _ hI).mono ?_
    rintro e w' ⟨⟨r, rfl, _, hR⟩ | ⟨m, hm, rfl, _, hbad⟩, hb⟩
    · refine ⟨r, rfl, ?_, hb1.trans (hb.mono hb1.size)⟩
      obtain ⟨gu, bu, cu, gn, bn, cn, U, X, hRM, h1, h2⟩ := hR
      have hs := hb1.size
      exact ⟨gu, bu, cu, gn, bn, cn, U, X, ⟨hRM.cells, hRM.u, hRM.x, ⟨Nat.le_trans hs hRM.own.1, Nat.le_trans hs hRM.own.2.1, Nat.le_trans hs hRM.own.2.2.1, Nat.le_trans hs hRM.own.2.2.2.1, Nat.le_trans hs hRM.own.2.2.2.2⟩, hRM.ne, hRM.z, hRM.n16⟩, h1, h2⟩
    · exact absurd (a12_ok m hm) hbad
  clear hI
  go_enter Tryd.func6, Tryd.ntmps6
  go_wp2_with fail
  refine HN.out.mono ?_
  rintro e w2 ⟨r, rfl, hR2, hb2⟩
  have HTK : Hid (Calls Tryd.prog 20 #[.pointer (some ⟨r, 0, none⟩)] w2 fun e w' => e = .returned (.tuple #[.int .u32 3, .int .i64 0]) ∧ RoomIs w' (fun k => w.heap.size ≤ k) r 16 (memA (fun i => i + 1) 2) (fun q => if q = 3 then true else memA (fun i => i + 1) 2 q) ∧ Below w.heap.size w w') := by
    refine (rtake_any (hT.below h0 hb2) (Nat.lt_of_lt_of_le h0 hb2.size) hR2).mono ?_
    rintro e w' (⟨hf, _⟩ | ⟨p, hf, _, _, _, _, rfl, hR, hTc⟩)
    · rw [a12_free] at hf
      cases hf
    · rw [a12_free] at hf
      obtain rfl : p = 3 := by omega
      exact ⟨rfl, hR, hb2.trans (hTc.below hb2.size fun k hk => by omega)⟩
  clear hR2 HN hb1
  go_wp2_with fail
  refine HTK.out.mono ?_
  rintro e w3 ⟨rfl, hR3, hb3⟩
  have HST : Hid (Calls Tryd.prog 21 #[.pointer (some ⟨r, 0, none⟩), .int .u32 3] w3 fun e w' => e = .returned (.int .i64 3) ∧ ∃ m, w' = w3.drewN m) := rstate_any hR3 3 (by decide)
  clear hR3 HTK hb2
  go_wp2_with fail
  refine HST.out.mono ?_
  rintro e w4 ⟨rfl, m, rfl⟩
  go_wp2_with fail
  go_ret
  exact ⟨rfl, below_dN hb3 m⟩
end Go.Proofs.YtjlngldmdfbbaaaDoor

namespace Go.Proofs.YtjlngldmdfbbaaaDoor
open Go Go.RowKit Go.Shelf
set_option linter.unusedVariables false
set_option linter.unusedSimpArgs false
/-- whether a block has a state -/
def inF (F G : Nat → Bool) (n : Nat) (s : Int) (p : Nat) : Bool := decide (p < n) && decide ((stAt F G n p : Int) = s)
/-- what in answers -/
def InMap (w' : World) (B n : Nat) (I : Nat → Bool) (mv : Value) : Prop := (mv = .pointer none ∧ ∀ p, I p = false) ∨ ∃ (g b c : Nat) (V : Nat → Nat), mv = .pointer (some ⟨g, 0, none⟩) ∧ BM w' B g n b c V ∧ ∀ p, bitF V p = I p
section
variable {w w' : World} {P : Nat → Prop} {r n gu bu cu gn bn cn : Nat} {U X : Nat → Nat} {F G : Nat → Bool}
theorem inF_zero (hn : 1 ≤ n) (p : Nat) : inF F G n 0 p = decide (p = 0) := by
  unfold inF stAt stN
  by_cases h : p = 0
  · subst h
    rw [if_pos (.inl rfl)]
    simp
    omega
  · by_cases h2 : n ≤ p
    · simp [h]
      omega
    · rw [if_neg (by omega)]
      cases F p <;> cases G p <;> simp [h]
theorem inF_pos (s : Int) (hs : 1 ≤ s) (hF0 : ∀ p, n ≤ p → F p = false) (hG0 : ∀ p, n ≤ p → G p = false) (p : Nat) : inF F G n s p = (decide (1 ≤ p) && decide (p < n) && decide ((stN F G p : Int) = s)) := by
  unfold inF stAt
  by_cases h : p = 0
  · subst h
    rw [if_pos (.inl rfl)]
    simp
    omega
  · by_cases h2 : n ≤ p
    · rw [if_pos (.inr h2)]
      have : ¬ p < n := by omega
      simp [this]
    · rw [if_neg (by omega)]
      have : 1 ≤ p := by omega
      simp [this]
theorem inF_not (s : Int) (hs : s < 0 ∨ 4 < s) (p : Nat) : inF F G n s p = false := by
  unfold inF stAt stN
  split
  · simp
    omega
  · cases F p <;> cases G p <;> simp <;> omega
set_option maxHeartbeats 4000000 in
theorem rnumbers_any (h : RM w P r n gu bu cu gn bn cn U X) : Calls Tryd.prog 45 #[.pointer (some ⟨r, 0, none⟩)] w fun e w' => ∃ g b c V, e = .returned (.pointer (some ⟨g, 0, none⟩)) ∧ BM w' w.heap.size g n b c V ∧ (∀ p, bitF V p = (decide (1 ≤ p) && decide (p < n))) ∧ Below w.heap.size w w' := by
  have HB := rblocks_any h
  have hn := h.n16
  have hn2 := h.x.n2
  have HN : Hid (∀ m, Calls Tryd.prog 17 #[.int .i64 (n : Int)] (w.drewN m) fun e w' => ∃ g b c, e = .returned (.tuple #[.pointer (some ⟨g, 0, none⟩), .int .i64 0]) ∧ BM w' w.heap.size g n b c (fun _ => 0) ∧ Below w.heap.size w w') := fun m => by
    refine (newM_ok n (by omega) hn2 (w.drewN m)).mono ?_
    rintro e w' ⟨g, b, c, rfl, hM, hb⟩
    exact ⟨g, b, c, rfl, hM, ⟨hb.os, hb.tape, hb.output, hb.size, hb.block⟩⟩
  have HB2 : Hid (∀ V, Below w.heap.size w V → Calls Tryd.prog 27 #[.pointer (some ⟨r, 0, none⟩)] V fun e w' => e = .returned (.int .i64 (n : Int)) ∧ ∃ m, w' = V.drewN m) := fun V hV => rblocks_any (h.below hV)
  clear h
  go_enter Tryd.func45, Tryd.ntmps45
  go_wp2_with fail
  refine HB.mono ?_
  rintro e w1 ⟨rfl, m1, rfl⟩
  go_wp2_with fail
  refine (HN.out m1).mono ?_
  rintro e w2 ⟨g, b, c, rfl, hM2, hb2⟩
  have HB3 := HB2.out w2 hb2
  have HM2 : Hid (BM w2 w.heap.size g n b c (fun _ => 0)) := hM2
  clear hM2 HB HN HB2
  go_wp2_with fail
  refine HB3.mono ?_
  rintro e w3 ⟨rfl, m3, rfl⟩
  have HFI := fill_ok _ (HM2.out.dN m3) 1 n (by omega) (Nat.le_refl _)
  have hb3 : Below w.heap.size w (w2.drewN m3) := below_dN hb2 m3
  have HFI2 : Hid (Calls Tryd.prog 59 #[.pointer (some ⟨g, 0, none⟩), .int .i64 1, .int .i64 (n : Int)] (w2.drewN m3) fun e w' => e = .returned (.int .i64 0) ∧ ∃ V, BM w' w.heap.size g n b c V ∧ (∀ p, bitF V p = (decide (1 ≤ p) && decide (p < n))) ∧ Below w.heap.size w w') := by
    refine HFI.mono ?_
    rintro e w' ⟨rfl, V, hM, hV, hO⟩
    refine ⟨rfl, V, hM, fun p => ?_, hb3.trans (hO.below hb3.size hM.blt.1)⟩
    rw [hV]
    unfold filF
    rw [bitF_zero, Bool.or_false]
  clear HB3 HM2 HFI hb2 hb3
  go_wp2_with fail
  refine HFI2.out.mono ?_
  rintro e w4 ⟨rfl, V, hM4, hV4, hb4⟩
  go_wp2_with fail
  go_ret
  exact ⟨g, b, c, V, rfl, hM4, hV4, hb4⟩
set_option maxHeartbeats 4000000 in
theorem rin_2 (h : RoomIs w P r n F G) : Calls Tryd.prog 25 #[.pointer (some ⟨r, 0, none⟩), .int .i64 2] w fun e w' => ∃ mv, e = .returned mv ∧ InMap w' w.heap.size n (inF F G n 2) mv ∧ Below w.heap.size w w' := by
  obtain ⟨gu, bu, cu, gn, bn, cn, U, X, hR, hF, hG⟩ := h
  have HM := rmaps_any hR
  have hF0 : ∀ p, n ≤ p → F p = false := fun p hp => by rw [← hF]; exact hR.u.tail p hp
  have hG0 : ∀ p, n ≤ p → G p = false := fun p hp => by rw [← hG]; exact hR.x.tail p hp
  have hz : F 0 = false ∧ G 0 = false := ⟨by rw [← hF]; exact hR.z.1, by rw [← hG]; exact hR.z.2⟩
  have HZ : Hid (F 0 = false ∧ G 0 = false) := hz
  have HF0 : Hid ((∀ p, n ≤ p → F p = false) ∧ (∀ p, n ≤ p → G p = false) ∧ (∀ p, bitF U p = F p) ∧ (∀ p, bitF X p = G p)) := ⟨hF0, hG0, hF, hG⟩
  have HW : Hid (∀ m, Calls Tryd.prog 47 #[.pointer (some ⟨gu, 0, none⟩), .pointer (some ⟨gn, 0, none⟩)] (w.drewN m) fun e w' => ∃ g2, e = .returned (.tuple #[.pointer (some ⟨g2, 0, none⟩), .int .i64 0]) ∧ Made (w.drewN m) w' g2 n fun p => bitF U p && bitF X p) := fun m => cross_like _ (hR.u.dN m) (hR.x.dN m)
  clear hR hF hG hF0 hG0 hz
  go_enter Tryd.func25, Tryd.ntmps25
  go_wp2_with fail
  refine HM.mono ?_
  rintro e w1 ⟨rfl, m1, rfl⟩
  go_wp2_with fail
  refine (HW.out m1).mono ?_
  rintro e w2 ⟨g2, rfl, ⟨b2, c2, V, hV, hVb⟩, hb2⟩
  have HH : Hid (_ ∧ _) := ⟨hV, hVb⟩
  clear hV hVb
  go_wp2_with fail
  go_ret
  obtain ⟨hV, hVb⟩ := HH.out
  refine ⟨_, rfl, .inr ⟨g2, b2, c2, V, rfl, hV, fun p => ?_⟩, ⟨hb2.os, hb2.tape, hb2.output, hb2.size, hb2.block⟩⟩
  obtain ⟨f0, g0, hF, hG⟩ := HF0.out
  rw [hVb, inF_pos 2 (by decide) f0 g0, hF, hG]
  unfold stN
  by_cases h1 : p = 0
  · subst h1
    rw [HZ.out.1, HZ.out.2]
    simp
  · have h1' : 1 ≤ p := by omega
    by_cases h2 : p < n
    · cases F p <;> cases G p <;> simp [h1', h2]
    · rw [f0 p (by omega), g0 p (by omega)]
      simp
set_option maxHeartbeats 4000000 in
theorem rin_3 (h : RoomIs w P r n F G) : Calls Tryd.prog 25 #[.pointer (some ⟨r, 0, none⟩), .int .i64 3] w fun e w' => ∃ mv, e = .returned mv ∧ InMap w' w.heap.size n (inF F G n 3) mv ∧ Below w.heap.size w w' := by
  obtain ⟨gu, bu, cu, gn, bn, cn, U, X, hR, hF, hG⟩ := h
  have HM := rmaps_any hR
  have hF0 : ∀ p, n ≤ p → F p = false := fun p hp => by rw [← hF]; exact hR.u.tail p hp
  have hG0 : ∀ p, n ≤ p → G p = false := fun p hp => by rw [← hG]; exact hR.x.tail p hp
  have hz : F 0 = false ∧ G 0 = false := ⟨by rw [← hF]; exact hR.z.1, by rw [← hG]; exact hR.z.2⟩
  have HZ : Hid (F 0 = false ∧ G 0 = false) := hz
  have HF0 : Hid ((∀ p, n ≤ p → F p = false) ∧ (∀ p, n ≤ p → G p = false) ∧ (∀ p, bitF U p = F p) ∧ (∀ p, bitF X p = G p)) := ⟨hF0, hG0, hF, hG⟩
  have HW : Hid (∀ m, Calls Tryd.prog 46 #[.pointer (some ⟨gn, 0, none⟩), .pointer (some ⟨gu, 0, none⟩)] (w.drewN m) fun e w' => ∃ g2, e = .returned (.tuple #[.pointer (some ⟨g2, 0, none⟩), .int .i64 0]) ∧ Made (w.drewN m) w' g2 n fun p => bitF X p && !bitF U p) := fun m => less_like _ (hR.x.dN m) (hR.u.dN m)
  clear hR hF hG hF0 hG0 hz
  go_enter Tryd.func25, Tryd.ntmps25
  go_wp2_with fail
  refine HM.mono ?_
  rintro e w1 ⟨rfl, m1, rfl⟩
  go_wp2_with fail
  refine (HW.out m1).mono ?_
  rintro e w2 ⟨g2, rfl, ⟨b2, c2, V, hV, hVb⟩, hb2⟩
  have HH : Hid (_ ∧ _) := ⟨hV, hVb⟩
  clear hV hVb
  go_wp2_with fail
  go_ret
  obtain ⟨hV, hVb⟩ := HH.out
  refine ⟨_, rfl, .inr ⟨g2, b2, c2, V, rfl, hV, fun p => ?_⟩, ⟨hb2.os, hb2.tape, hb2.output, hb2.size, hb2.block⟩⟩
  obtain ⟨f0, g0, hF, hG⟩ := HF0.out
  rw [hVb, inF_pos 3 (by decide) f0 g0, hF, hG]
  unfold stN
  by_cases h1 : p = 0
  · subst h1
    rw [HZ.out.1, HZ.out.2]
    simp
  · have h1' : 1 ≤ p := by omega
    by_cases h2 : p < n
    · cases F p <;> cases G p <;> simp [h1', h2]
    · rw [f0 p (by omega), g0 p (by omega)]
      simp
set_option maxHeartbeats 4000000 in
theorem rin_4 (h : RoomIs w P r n F G) : Calls Tryd.prog 25 #[.pointer (some ⟨r, 0, none⟩), .int .i64 4] w fun e w' => ∃ mv, e = .returned mv ∧ InMap w' w.heap.size n (inF F G n 4) mv ∧ Below w.heap.size w w' := by
  obtain ⟨gu, bu, cu, gn, bn, cn, U, X, hR, hF, hG⟩ := h
  have HM := rmaps_any hR
  have hF0 : ∀ p, n ≤ p → F p = false := fun p hp => by rw [← hF]; exact hR.u.tail p hp
  have hG0 : ∀ p, n ≤ p → G p = false := fun p hp => by rw [← hG]; exact hR.x.tail p hp
  have hz : F 0 = false ∧ G 0 = false := ⟨by rw [← hF]; exact hR.z.1, by rw [← hG]; exact hR.z.2⟩
  have HZ : Hid (F 0 = false ∧ G 0 = false) := hz
  have HF0 : Hid ((∀ p, n ≤ p → F p = false) ∧ (∀ p, n ≤ p → G p = false) ∧ (∀ p, bitF U p = F p) ∧ (∀ p, bitF X p = G p)) := ⟨hF0, hG0, hF, hG⟩
  have HW : Hid (∀ m, Calls Tryd.prog 46 #[.pointer (some ⟨gu, 0, none⟩), .pointer (some ⟨gn, 0, none⟩)] (w.drewN m) fun e w' => ∃ g2, e = .returned (.tuple #[.pointer (some ⟨g2, 0, none⟩), .int .i64 0]) ∧ Made (w.drewN m) w' g2 n fun p => bitF U p && !bitF X p) := fun m => less_like _ (hR.u.dN m) (hR.x.dN m)
  clear hR hF hG hF0 hG0 hz
  go_enter Tryd.func25, Tryd.ntmps25
  go_wp2_with fail
  refine HM.mono ?_
  rintro e w1 ⟨rfl, m1, rfl⟩
  go_wp2_with fail
  refine (HW.out m1).mono ?_
  rintro e w2 ⟨g2, rfl, ⟨b2, c2, V, hV, hVb⟩, hb2⟩
  have HH : Hid (_ ∧ _) := ⟨hV, hVb⟩
  clear hV hVb
  go_wp2_with fail
  go_ret
  obtain ⟨hV, hVb⟩ := HH.out
  refine ⟨_, rfl, .inr ⟨g2, b2, c2, V, rfl, hV, fun p => ?_⟩, ⟨hb2.os, hb2.tape, hb2.output, hb2.size, hb2.block⟩⟩
  obtain ⟨f0, g0, hF, hG⟩ := HF0.out
  rw [hVb, inF_pos 4 (by decide) f0 g0, hF, hG]
  unfold stN
  by_cases h1 : p = 0
  · subst h1
    rw [HZ.out.1, HZ.out.2]
    simp
  · have h1' : 1 ≤ p := by omega
    by_cases h2 : p < n
    · cases F p <;> cases G p <;> simp [h1', h2]
    · rw [f0 p (by omega), g0 p (by omega)]
      simp
set_option maxHeartbeats 4000000 in
theorem rin_1 (h : RoomIs w P r n F G) : Calls Tryd.prog 25 #[.pointer (some ⟨r, 0, none⟩), .int .i64 1] w fun e w' => ∃ mv, e = .returned mv ∧ InMap w' w.heap.size n (inF F G n 1) mv ∧ Below w.heap.size w w' := by
  obtain ⟨gu, bu, cu, gn, bn, cn, U, X, hR, hF, hG⟩ := h
  have HM := rmaps_any hR
  have hF0 : ∀ p, n ≤ p → F p = false := fun p hp => by rw [← hF]; exact hR.u.tail p hp
  have hG0 : ∀ p, n ≤ p → G p = false := fun p hp => by rw [← hG]; exact hR.x.tail p hp
  have hz : F 0 = false ∧ G 0 = false := ⟨by rw [← hF]; exact hR.z.1, by rw [← hG]; exact hR.z.2⟩
  have HZ : Hid (F 0 = false ∧ G 0 = false) := hz
  have HF0 : Hid ((∀ p, n ≤ p → F p = false) ∧ (∀ p, n ≤ p → G p = false) ∧ (∀ p, bitF U p = F p) ∧ (∀ p, bitF X p = G p)) := ⟨hF0, hG0, hF, hG⟩
  have HW : Hid (∀ m, Calls Tryd.prog 40 #[.pointer (some ⟨gu, 0, none⟩), .pointer (some ⟨gn, 0, none⟩)] (w.drewN m) fun e w' => ∃ g2, e = .returned (.tuple #[.pointer (some ⟨g2, 0, none⟩), .int .i64 0]) ∧ Made (w.drewN m) w' g2 n fun p => bitF U p || bitF X p) := fun m => either_like _ (hR.u.dN m) (hR.x.dN m)
  have HN : Hid (∀ V, Below w.heap.size w V → Calls Tryd.prog 45 #[.pointer (some ⟨r, 0, none⟩)] V fun e w' => ∃ g b c W, e = .returned (.pointer (some ⟨g, 0, none⟩)) ∧ BM w' V.heap.size g n b c W ∧ (∀ p, bitF W p = (decide (1 ≤ p) && decide (p < n))) ∧ Below V.heap.size V w') := fun V hV => rnumbers_any (hR.below hV)
  clear hR hF hG hF0 hG0 hz
  go_enter Tryd.func25, Tryd.ntmps25
  go_wp2_with fail
  refine HM.mono ?_
  rintro e w1 ⟨rfl, m1, rfl⟩
  go_wp2_with fail
  refine (HW.out m1).mono ?_
  rintro e w2 ⟨g2, rfl, ⟨b2, c2, V, hV, hVb⟩, hb2'⟩
  have hb2 : Below w.heap.size w w2 := ⟨hb2'.os, hb2'.tape, hb2'.output, hb2'.size, hb2'.block⟩
  have HV : Hid (_ ∧ _) := ⟨hV, hVb⟩
  have HN2 := HN.out w2 hb2
  clear hV hVb hb2' HW HM HN
  go_wp2_with fail
  refine HN2.mono ?_
  rintro e w3 ⟨g3, b3, c3, V3, rfl, hM3, hV3, hb3⟩
  have HL := less_like w3 hM3 (HV.out.1.below hb3)
  have HV3 : Hid (∀ p, bitF V3 p = (decide (1 ≤ p) && decide (p < n))) := hV3
  have hbw3 : Below w.heap.size w w3 := hb2.trans (hb3.mono hb2.size)
  clear hM3 hV3 HN2 hb2 hb3
  go_wp2_with fail
  refine HL.mono ?_
  rintro e w4 ⟨g4, rfl, ⟨b4, c4, V4, hM4, hV4⟩, hb4⟩
  have HH : Hid (_ ∧ _) := ⟨hM4, hV4⟩
  have hbw4 : Below w.heap.size w w4 := hbw3.trans (hb4.mono hbw3.size)
  have hs3 := hbw3.size
  clear hM4 hV4 HL hb4 hbw3
  go_wp2_with fail
  go_ret
  obtain ⟨hM4, hV4⟩ := HH.out
  refine ⟨_, rfl, .inr ⟨g4, b4, c4, V4, rfl, hM4.mono hs3, fun p => ?_⟩, hbw4⟩
  obtain ⟨f0, g0, hF, hG⟩ := HF0.out
  have hVb := HV.out.2 p
  rw [hV4, HV3.out, hVb, inF_pos 1 (by decide) f0 g0]
  show (_ && !(bitF U p || bitF X p)) = _
  rw [hF, hG]
  unfold stN
  cases F p <;> cases G p <;> simp
set_option maxHeartbeats 4000000 in
theorem rin_0 (h : RoomIs w P r n F G) : Calls Tryd.prog 25 #[.pointer (some ⟨r, 0, none⟩), .int .i64 0] w fun e w' => ∃ mv, e = .returned mv ∧ InMap w' w.heap.size n (inF F G n 0) mv ∧ Below w.heap.size w w' := by
  obtain ⟨gu, bu, cu, gn, bn, cn, U, X, hR, hF, hG⟩ := h
  have HM := rmaps_any hR
  have hF0 : ∀ p, n ≤ p → F p = false := fun p hp => by rw [← hF]; exact hR.u.tail p hp
  have hG0 : ∀ p, n ≤ p → G p = false := fun p hp => by rw [← hG]; exact hR.x.tail p hp
  have hz : F 0 = false ∧ G 0 = false := ⟨by rw [← hF]; exact hR.z.1, by rw [← hG]; exact hR.z.2⟩
  have HZ : Hid (F 0 = false ∧ G 0 = false) := hz
  have HF0 : Hid ((∀ p, n ≤ p → F p = false) ∧ (∀ p, n ≤ p → G p = false) ∧ (∀ p, bitF U p = F p) ∧ (∀ p, bitF X p = G p)) := ⟨hF0, hG0, hF, hG⟩
  have hn := hR.n16
  have hn2 := hR.x.n2
  have HB : Hid (∀ m, Calls Tryd.prog 27 #[.pointer (some ⟨r, 0, none⟩)] (w.drewN m) fun e w' => e = .returned (.int .i64 (n : Int)) ∧ ∃ m', w' = w.drewN m') := fun m => by
    refine (rblocks_any (hR.dN m)).mono ?_
    rintro e w' ⟨rfl, m', rfl⟩
    exact ⟨rfl, _, World.drewN_drewN ..⟩
  have HO : Hid (∀ m, Calls Tryd.prog 44 #[.int .i64 (n : Int), .slice (some ⟨w.heap.size, 0, none⟩) 1 1] ((w.drewN m).alloc (.cells #[.int .i64 0] 3)) fun e w' => ∃ g b c W, e = .returned (.tuple #[.pointer (some ⟨g, 0, none⟩), .int .i64 0]) ∧ BM w' w.heap.size g n b c W ∧ (∀ p, bitF W p = decide (p = 0)) ∧ Below w.heap.size w w') := fun m => by
    have hblk : Blk ((w.drewN m).alloc (.cells #[.int .i64 0] 3)) w.heap.size 3 #[.int .i64 0] := Blk.new _ _ _
    have hb1 : Below w.heap.size w ((w.drewN m).alloc (.cells #[.int .i64 0] 3)) := (below_dN (Below.refl _ _) m).alloc (Nat.le_refl _) _
    refine (of_ok (n := n) (by omega) hn2 (some ⟨w.heap.size, 0, none⟩) 1 1 (by decide) (fun _ => 0) (fun i hi => ⟨Int.le_refl 0, by show (0 : Int) < (n : Int); omega⟩) _ (fun i hi => ?_)).mono ?_
    · match i, hi with
      | 0, _ => exact ⟨w.heap.size, 0, rfl, hblk.lt, by rw [hblk.cell]; rfl⟩
    · rintro e w' ⟨g, rfl, ⟨b, c, W, hM, hW⟩, hb⟩
      refine ⟨g, b, c, W, rfl, hM.mono hb1.size, fun p => ?_, hb1.trans (hb.mono hb1.size)⟩
      rw [hW]
      show (if (p : Int) = 0 then true else false) = _
      by_cases h : p = 0
      · simp [h]
      · rw [if_neg (by omega)]
        simp [h]
  have HI : Hid (∀ p, inF F G n 0 p = decide (p = 0)) := fun p => inF_zero (by omega) p
  clear hR hF hG hF0 hG0 hz
  go_enter Tryd.func25, Tryd.ntmps25
  go_wp2_with fail
  refine HM.mono ?_
  rintro e w1 ⟨rfl, m1, rfl⟩
  go_wp2_with fail
  refine (HB.out m1).mono ?_
  rintro e w2 ⟨rfl, m2, rfl⟩
  have HO2 := HO.out m2
  clear HO HB HM
  go_wp2_with fail
  refine HO2.mono ?_
  rintro e w3 ⟨g, b, c, W, rfl, hM3, hW3, hb3⟩
  have HH : Hid (_ ∧ _) := ⟨hM3, hW3⟩
  clear hM3 hW3 HO2
  go_wp2_with fail
  go_ret
  exact ⟨_, rfl, .inr ⟨g, b, c, W, rfl, HH.out.1, fun p => by rw [HI.out]; exact HH.out.2 p⟩, hb3⟩
set_option maxHeartbeats 4000000 in
theorem rin_not (h : RoomIs w P r n F G) (s : Int) (hs : s < 0 ∨ 4 < s) : Calls Tryd.prog 25 #[.pointer (some ⟨r, 0, none⟩), .int .i64 s] w fun e w' => ∃ mv, e = .returned mv ∧ InMap w' w.heap.size n (inF F G n s) mv ∧ Below w.heap.size w w' := by
  obtain ⟨gu, bu, cu, gn, bn, cn, U, X, hR, hF, hG⟩ := h
  have HM := rmaps_any hR
  have n0 : ¬ s = 0 := by omega
  have n1 : ¬ s = 1 := by omega
  have n2 : ¬ s = 2 := by omega
  have n3 : ¬ s = 3 := by omega
  have n4 : ¬ s = 4 := by omega
  have HI : Hid (∀ p, inF F G n s p = false) := fun p => inF_not s hs p
  clear hR hF hG hs
  go_enter Tryd.func25, Tryd.ntmps25
  go_wp2_with fail
  refine HM.mono ?_
  rintro e w1 ⟨rfl, m1, rfl⟩
  go_wp2_with fail
  go_ret
  exact ⟨_, rfl, .inl ⟨rfl, HI.out⟩, below_dN (Below.refl _ _) m1⟩
theorem rin_any (h : RoomIs w P r n F G) (s : Int) : Calls Tryd.prog 25 #[.pointer (some ⟨r, 0, none⟩), .int .i64 s] w fun e w' => ∃ mv, e = .returned mv ∧ InMap w' w.heap.size n (inF F G n s) mv ∧ Below w.heap.size w w' := by
  by_cases hs : s < 0 ∨ 4 < s
  · exact rin_not h s hs
  · have : s = 0 ∨ s = 1 ∨ s = 2 ∨ s = 3 ∨ s = 4 := by omega
    rcases this with rfl | rfl | rfl | rfl | rfl
    · exact rin_0 h
    · exact rin_1 h
    · exact rin_2 h
    · exact rin_3 h
    · exact rin_4 h
theorem rcountR_any (h : RoomIs w P r n F G) (s : Int) : Calls Tryd.prog 22 #[.pointer (some ⟨r, 0, none⟩), .int .i64 s] w fun e w' => e = .returned (.int .i64 (cntF (inF F G n s) n : Int)) ∧ Below w.heap.size w w' := by
  have HI := rin_any h s
  clear h
  go_enter Tryd.func22, Tryd.ntmps22
  go_wp2_with fail
  refine HI.mono ?_
  rintro e w1 ⟨mv, rfl, hM, hb⟩
  rcases hM with ⟨rfl, h0⟩ | ⟨g, b, c, V, rfl, hM, hV⟩
  · have hc : cntF (inF F G n s) n = 0 := by
      exact cntF_none (inF F G n s) n fun p _ => h0 p
    go_wp2_with fail
    refine (ncount _).mono ?_
    rintro e w2 ⟨rfl, rfl⟩
    go_wp2_with fail
    go_ret
    exact ⟨by rw [hc]; rfl, hb⟩
  · have HC := count_any w1 hM
    rw [cntF_congr (G := inF F G n s) fun i _ => hV i] at HC
    clear hM hV
    go_wp2_with fail
    refine HC.mono ?_
    rintro e w2 ⟨rfl, rfl⟩
    go_wp2_with fail
    go_ret
    exact ⟨rfl, hb⟩
theorem rlist_any (hT : TabAt w) (h0 : 0 < w.heap.size) (h : RoomIs w P r n F G) (s : Int) : Calls Tryd.prog 28 #[.pointer (some ⟨r, 0, none⟩), .int .i64 s] w fun e w' => ∃ v, e = .returned v ∧ w'.ownsRow w.heap.size 36 1 v (onesL (inF F G n s) n).length (u32L (onesL (inF F G n s) n)) ∧ (v = .slice none 0 0 ↔ onesL (inF F G n s) n = []) ∧ Below w.heap.size w w' := by
  have hn2 : n ≤ 8192 := by
    obtain ⟨gu, bu, cu, gn, bn, cn, U, X, hR, hF, hG⟩ := h
    exact hR.x.n2
  refine rlist_gen _ s (onesL (inF F G n s) n) (by
    unfold onesL
    exact Nat.le_trans (List.length_filter_le _ _) (by rw [List.length_range]; exact hn2)) w h0 fun W hW hlt => ?_
  refine (rin_any (h.below hW) s).mono ?_
  rintro e w' ⟨mv, rfl, hM, hb⟩
  rcases hM with ⟨rfl, h00⟩ | ⟨g, b, c, V, rfl, hM, hV⟩
  · refine ⟨.pointer none, fun _ => -1, rfl, rfl, fun V Bq _ _ U _ p => nnext p U, ?_, hb⟩
    have : onesL (inF F G n s) n = [] := by
      unfold onesL
      rw [List.filter_eq_nil_iff]
      intro x _
      rw [h00]
      simp
    rw [this]
    rfl
  · refine ⟨_, _, rfl, rfl, fun Y Bq hY hle => ?_, steps_ones (inF F G n s) n hn2, hb⟩
    have hnx : (fun p => nxt (inF F G n s) true n (fromN p)) = fun p => nxt (bitF V) true n (fromN p) := by
      funext p
      exact (nxt_congr (fun q _ => hV q) true _).symm
    rw [hnx]
    have hgl := hM.glt
    have hgb := hM.gB
    have hbl := hM.blt
    have hTY : TabAt Y := ((hT.below h0 hW).below (Nat.lt_of_lt_of_le h0 hW.size) hb).below (Nat.lt_of_lt_of_le h0 (Nat.le_trans hW.size hb.size)) hY
    exact nexts_map (hM.below hY) hTY fun Z hZ => ⟨hZ.block _ (by omega) (by omega), hZ.block _ (by omega) (by omega), hZ.block _ (by omega) (by omega)⟩
end
end Go.Proofs.YtjlngldmdfbbaaaDoor

namespace Go.Proofs.YtjlngldmdfbbaaaDoor
open Go Go.RowKit
set_option linter.unusedVariables false
set_option linter.unusedSimpArgs false
section
variable {w w' : World} {P : Nat → Prop} {r n gu bu cu gn bn cn : Nat} {U X : Nat → Nat} {F G : Nat → Bool}
set_option maxHeartbeats 4000000 in
theorem rcopy_rm (h : RM w P r n gu bu cu gn bn cn U X) : Calls Tryd.prog 23 #[.pointer (some ⟨r, 0, none⟩)] w fun e w' => ∃ r' g1 b1 c1 g2 b2 c2, e = .returned (.pointer (some ⟨r', 0, none⟩)) ∧ RM w' (fun k => w.heap.size ≤ k) r' n g1 b1 c1 g2 b2 c2 U X ∧ Below w.heap.size w w' := by
  have c0 := h.c0
  go_enter Tryd.func23, Tryd.ntmps23
  go_wp2_with fail
  have S0 : w.drew.cell? ⟨r, 0, none⟩ = some (.pointer (some ⟨gu, 0, none⟩)) ∧ w.drew.cell? ⟨r, 1, none⟩ = some (.pointer (some ⟨gn, 0, none⟩)) ∧ RM w.drew P r n gu bu cu gn bn cn U X ∧ Below w.heap.size w w.drew := ⟨h.c0, h.c1, h.dN 1, (Below.refl _ _).drew⟩
  have HZ : Hid (bitF U 0 = false ∧ bitF X 0 = false ∧ 16 ≤ n) := ⟨h.z.1, h.z.2, h.n16⟩
  clear h c0
  refine wp_region_partsS (fun V => V.cell? ⟨r, 0, none⟩ = some (.pointer (some ⟨gu, 0, none⟩)) ∧ V.cell? ⟨r, 1, none⟩ = some (.pointer (some ⟨gn, 0, none⟩)) ∧ RM V P r n gu bu cu gn bn cn U X ∧ Below w.heap.size w V) [([0, 5], 1, true), ([], 2, true), ([], 3, true), ([], 6, true), ([], 7, true), ([], 8, true), ([], 4, false), ([], 9, false), ([], 10, false), ([], 11, false)] [12] [] (by kernel_rfl) (by kernel_rfl) S0 (partsI_yield ?_)
  simp only [List.cons_append, List.nil_append, List.append_nil, List.filterMap_cons, List.filterMap_nil, List.getElem?_toArray, List.getElem?_cons_zero, List.getElem?_cons_succ]
  go_wp2_with fail
  refine ⟨rfl, _, .pointer (some ⟨r, 0, none⟩), rfl, Or.inl ⟨by rfl, fun W hW => by go_simp⟩, partsI_yield ?_⟩
  simp only [Act.put, List.setIfInBounds_toArray, List.set_cons_zero, List.set_cons_succ]
  simp only [List.cons_append, List.nil_append, List.append_nil, List.filterMap_cons, List.filterMap_nil, List.getElem?_toArray, List.getElem?_cons_zero, List.getElem?_cons_succ]
  go_wp2_with fail
  refine ⟨rfl, _, .pointer (some ⟨r, 0, none⟩), rfl, Or.inl ⟨by rfl, fun W hW => by go_simp⟩, partsI_yield ?_⟩
  simp only [Act.put, List.setIfInBounds_toArray, List.set_cons_zero, List.set_cons_succ]
  simp only [List.cons_append, List.nil_append, List.append_nil, List.filterMap_cons, List.filterMap_nil, List.getElem?_toArray, List.getElem?_cons_zero, List.getElem?_cons_succ]
  go_wp2_with fail
  refine ⟨rfl, _, .pointer (some ⟨gu, 0, none⟩), rfl, Or.inl ⟨by rfl, fun W hW => by have c0 := hW.1; go_simp⟩, partsI_yield ?_⟩
  simp only [Act.put, List.setIfInBounds_toArray, List.set_cons_zero, List.set_cons_succ]
  simp only [List.cons_append, List.nil_append, List.append_nil, List.filterMap_cons, List.filterMap_nil, List.getElem?_toArray, List.getElem?_cons_zero, List.getElem?_cons_succ]
  go_wp2_with fail
  refine ⟨rfl, _, .pointer (some ⟨r, 0, none⟩), rfl, Or.inl ⟨by rfl, fun W hW => by go_simp⟩, partsI_yield ?_⟩
  simp only [Act.put, List.setIfInBounds_toArray, List.set_cons_zero, List.set_cons_succ]
  simp only [List.cons_append, List.nil_append, List.append_nil, List.filterMap_cons, List.filterMap_nil, List.getElem?_toArray, List.getElem?_cons_zero, List.getElem?_cons_succ]
  go_wp2_with fail
  refine ⟨rfl, _, .pointer (some ⟨r, 1, none⟩), rfl, Or.inl ⟨by rfl, fun W hW => by go_simp⟩, partsI_yield ?_⟩
  simp only [Act.put, List.setIfInBounds_toArray, List.set_cons_zero, List.set_cons_succ]
  simp only [List.cons_append, List.nil_append, List.append_nil, List.filterMap_cons, List.filterMap_nil, List.getElem?_toArray, List.getElem?_cons_zero, List.getElem?_cons_succ]
  go_wp2_with fail
  refine ⟨rfl, _, .pointer (some ⟨gn, 0, none⟩), rfl, Or.inl ⟨by rfl, fun W hW => by have c1 := hW.2.1; go_simp⟩, partsI_force ?_⟩
  simp only [Act.put, List.setIfInBounds_toArray, List.set_cons_zero, List.set_cons_succ]
  simp only [List.cons_append, List.nil_append, List.append_nil, List.filterMap_cons, List.filterMap_nil, List.getElem?_toArray, List.getElem?_cons_zero, List.getElem?_cons_succ]
  go_wp2_with fail
  refine (bclone_any _ S0.2.2.1.u).mono ?_
  rintro e w2 ⟨g1, b1, c1, rfl, hM1, hb1⟩
  have S1 : w2.cell? ⟨r, 0, none⟩ = some (.pointer (some ⟨gu, 0, none⟩)) ∧ w2.cell? ⟨r, 1, none⟩ = some (.pointer (some ⟨gn, 0, none⟩)) ∧ RM w2 P r n gu bu cu gn bn cn U X ∧ Below w.heap.size w w2 := ⟨(S0.2.2.1.below hb1).c0, (S0.2.2.1.below hb1).c1, S0.2.2.1.below hb1, S0.2.2.2.trans (hb1.mono S0.2.2.2.size)⟩
  have HM1 : Hid (BM w2 w.drew.heap.size g1 n b1 c1 U) := hM1
  clear hM1
  go_wp2_with fail
  refine ⟨rfl, S1, partsI_force ?_⟩
  simp only [List.cons_append, List.nil_append, List.append_nil, List.filterMap_cons, List.filterMap_nil, List.getElem?_toArray, List.getElem?_cons_zero, List.getElem?_cons_succ]
  go_wp2_with fail
  refine (bclone_any _ S1.2.2.1.x).mono ?_
  rintro e w3 ⟨g2, b2, c2, rfl, hM2, hb2⟩
  have S2 : w3.cell? ⟨r, 0, none⟩ = some (.pointer (some ⟨gu, 0, none⟩)) ∧ w3.cell? ⟨r, 1, none⟩ = some (.pointer (some ⟨gn, 0, none⟩)) ∧ RM w3 P r n gu bu cu gn bn cn U X ∧ Below w.heap.size w w3 := ⟨(S1.2.2.1.below hb2).c0, (S1.2.2.1.below hb2).c1, S1.2.2.1.below hb2, S1.2.2.2.trans (hb2.mono S1.2.2.2.size)⟩
  have HM2 : Hid (BM w3 w2.heap.size g2 n b2 c2 X ∧ BM w3 w.drew.heap.size g1 n b1 c1 U ∧ g1 < w2.heap.size ∧ b1 < w2.heap.size) := ⟨hM2, HM1.out.below hb2, HM1.out.glt, HM1.out.blt.2⟩
  have hs2 := hb1.size
  clear hM2
  go_wp2_with fail
  refine ⟨rfl, S2, partsI_force ?_⟩
  simp only [List.cons_append, List.nil_append, List.append_nil, List.filterMap_cons, List.filterMap_nil, List.getElem?_toArray, List.getElem?_cons_zero, List.getElem?_cons_succ]
  go_wp2_with fail
  refine ⟨rfl, S2, partsI_force ?_⟩
  simp only [List.cons_append, List.nil_append, List.append_nil, List.filterMap_cons, List.filterMap_nil, List.getElem?_toArray, List.getElem?_cons_zero, List.getElem?_cons_succ]
  go_wp2_with fail
  refine ⟨rfl, ⟨(S2.2.2.1.below (below_new1 _ _)).c0, (S2.2.2.1.below (below_new1 _ _)).c1, S2.2.2.1.below (below_new1 _ _), S2.2.2.2.trans ((below_new1 _ _).mono S2.2.2.2.size)⟩, partsI_last ?_⟩
  simp only [List.cons_append, List.nil_append, List.append_nil, List.filterMap_cons, List.filterMap_nil, List.getElem?_toArray, List.getElem?_cons_zero, List.getElem?_cons_succ]
  go_wp2_with fail
  refine ⟨rfl, ?_⟩
  go_wp2_with fail
  go_ret
  obtain ⟨hM2, hM1, hg1, hb1'⟩ := HM2.out
  have q1 : w.heap.size ≤ g1 := hM1.gB
  have q2 : w.heap.size ≤ b1 := hM1.blt.1
  have q3 := hM2.gB
  have q4 := hM2.blt
  have q5 := hM2.glt
  have q6 := hM2.ne
  have q7 := hM1.ne
  have q8 : w.heap.size ≤ w2.heap.size := hs2
  have hba : Below w3.heap.size w3 (w3.alloc (.cells #[.pointer (some ⟨g1, 0, none⟩), .pointer (some ⟨g2, 0, none⟩)] 80)) := below_new1 _ _
  exact ⟨w3.heap.size, g1, b1, c1, g2, b2, c2, rfl, ⟨Blk.new _ _ _, (hM1.mono (Nat.zero_le _)).below hba, (hM2.mono (Nat.zero_le _)).below hba, ⟨by show w.heap.size ≤ _; omega, q1, q2, by show w.heap.size ≤ _; omega, by show w.heap.size ≤ _; omega⟩, ⟨by omega, by omega, by omega, by omega, by omega, by omega, by omega, by omega⟩, ⟨HZ.out.1, HZ.out.2.1⟩, HZ.out.2.2⟩, S2.2.2.2.trans (hba.mono S2.2.2.2.size)⟩
theorem rcopy_any (h : RoomIs w P r n F G) : Calls Tryd.prog 23 #[.pointer (some ⟨r, 0, none⟩)] w fun e w' => ∃ r', e = .returned (.pointer (some ⟨r', 0, none⟩)) ∧ RoomIs w' (fun k => w.heap.size ≤ k) r' n F G ∧ Below w.heap.size w w' := by
  obtain ⟨gu, bu, cu, gn, bn, cn, U, X, hR, hF, hG⟩ := h
  refine (rcopy_rm hR).mono ?_
  rintro e w' ⟨r', g1, b1, c1, g2, b2, c2, rfl, hR', hb⟩
  exact ⟨r', rfl, ⟨g1, b1, c1, g2, b2, c2, U, X, hR', hF, hG⟩, hb⟩
end
end Go.Proofs.YtjlngldmdfbbaaaDoor

namespace Go.Proofs.YtjlngldmdfbbaaaDoor
open Go Go.RowKit
set_option linter.unusedVariables false
set_option linter.unusedSimpArgs false
def stL (F : Nat → Int) (n : Nat) : List Value := (List.range n).map fun i => Value.int .i64 (F i)
theorem stL_at (F : Nat → Int) (n i : Nat) (h : i < n) : (stL F n)[i]? = some (.int .i64 (F i)) := by simp [stL, h]
theorem stL_len (F : Nat → Int) (n : Nat) : (stL F n).length = n := by simp [stL]
theorem stL_congr {F G : Nat → Int} {n : Nat} (h : ∀ i, i < n → F i = G i) : stL F n = stL G n := List.map_congr_left fun i hi => by rw [h i (List.mem_range.1 hi)]
theorem stL_set (F : Nat → Int) (n i : Nat) (x : Int) : (stL F n).set i (.int .i64 x) = stL (fun j => if j = i then x else F j) n := by
  apply List.ext_getElem?
  intro j
  rw [List.getElem?_set]
  by_cases hj : j < n
  · rw [stL_at (fun j => if j = i then x else F j) _ _ hj]
    by_cases he : i = j
    · subst he
      rw [if_pos rfl, stL_len, if_pos hj]
      simp
    · rw [if_neg he, stL_at _ _ _ hj]
      simp [Ne.symm he]
  · have e1 : (stL F n)[j]? = none := List.getElem?_eq_none (by rw [stL_len]; omega)
    have e2 : (stL (fun j => if j = i then x else F j) n)[j]? = none := List.getElem?_eq_none (by rw [stL_len]; omega)
    rw [e1, e2, stL_len]
    split
    · rw [if_neg (by omega)]
    · rfl
/-- a list of n states in block k -/
structure SA (w : World) (B k n c : Nat) (F : Nat → Int) : Prop where
  n2 : n ≤ 8192
  row : w.ownsRow B 3 1 (.slice (some ⟨k, 0, none⟩) n c) n (stL F n)
section
variable {w w' : World} {B k n c : Nat} {F : Nat → Int}
theorem SA.lt (h : SA w B k n c F) : B ≤ k ∧ k < w.heap.size := h.row.lt k rfl
theorem SA.keep (h : SA w B k n c F) (hk : w'.heap[k]? = w.heap[k]?) : SA w' B k n c F := ⟨h.n2, kown_kept h.row fun j _ hv => by
    have : j = k := by simp [Value.ownBlock] at hv; omega
    subst this
    exact hk⟩
theorem SA.below (h : SA w B k n c F) (hb : Below w.heap.size w w') : SA w' B k n c F := h.keep (hb.block k h.lt.2)
theorem SA.only {b : Nat} (h : SA w B k n c F) (ho : Only b w w') (hne : k ≠ b) : SA w' B k n c F := h.keep (ho.block k h.lt.2 hne)
theorem SA.dN (h : SA w B k n c F) (m : Nat) : SA (w.drewN m) B k n c F := h.keep rfl
theorem SA.mono {B' : Nat} (h : SA w B k n c F) (hB : B' ≤ B) : SA w B' k n c F := ⟨h.n2, kown_mono h.row hB⟩
theorem SA.congr {G : Nat → Int} (h : SA w B k n c F) (he : ∀ i, i < n → F i = G i) : SA w B k n c G := ⟨h.n2, by rw [← stL_congr he]; exact h.row⟩
theorem SA.at (h : SA w B k n c F) {i : Nat} (hi : i < n) : w.cell? ⟨k, i, none⟩ = some (.int .i64 (F i)) := by rw [h.row.cellAt i (by omega), stL_at _ _ _ hi]
theorem SA.frozen (h : SA w B k n c F) (i : Nat) : w.frozen? ⟨k, i, none⟩ = false := h.row.frozenAt i
theorem SA.put (h : SA w B k n c F) (i : Nat) (x : Int) : SA (w.setCell ⟨k, i, none⟩ (.int .i64 x)) B k n c (fun j => if j = i then x else F j) := ⟨h.n2, by
  have := (h.row.stored i (.int .i64 x)).1
  rw [stL_set] at this
  exact this⟩
end
theorem stL_snoc (f : Nat → Int) (n : Nat) : stL f (n + 1) = stL f n ++ [Value.int .i64 (f n)] := by simp [stL, List.range_succ]
theorem infoInt : (Tryd.prog.info? 3).map (fun i => (i.zero, i.size, i.bytes)) = some (some (.int .i64 0), 1, 8) := by kernel_rfl
set_option maxHeartbeats 4000000 in
theorem sameU_any (m d d' : Nat) (hm : m ≤ 9223372036854775807) (a a' : Option Addr) (A A' : Nat → Nat) (w : World) (h : IsU32s w a m A) (h' : IsU32s w a' m A') : Calls Tryd.prog 29 #[.slice a m d, .slice a' m d'] w fun e w' => e = .returned (.bool (decide (∀ i, i < m → A i = A' i))) ∧ Below w.heap.size w w' := by
  have HI : Hid (∀ V, Below w.heap.size w V → IsU32s V a m A ∧ IsU32s V a' m A') := fun V hV => ⟨h.below hV, h'.below hV⟩
  clear h h'
  go_enter Tryd.func29, Tryd.ntmps29
  go_wp2_with fail
  go_loopw [13] (fun t wr => Hid (∃ k : Nat, k ≤ m ∧ t = .int .i64 (k : Int) ∧ (∀ i, i < k → A i = A' i) ∧ Below w.heap.size w wr)) (fun t _ => m - (intOf t).toNat)
  case atStart => exact ⟨0, by omega, rfl, fun i hi => by omega, Below.refl _ _⟩
  case round =>
    obtain ⟨k, hk, rfl, hall, hb⟩ := Hid.out hrel
    clear hrel
    by_cases hlt : k < m
    · obtain ⟨u1, b1, o1, rfl, l1, r1⟩ := (HI.out wr hb).1 k hlt
      obtain ⟨u2, b2, o2, rfl, l2, r2⟩ := (HI.out wr hb).2 k hlt
      have k0 : (0 : Int) ≤ (k : Int) := by omega
      have k1 : (k : Int) < (m : Int) := by omega
      have HJ : Hid (k < m ∧ m ≤ 9223372036854775807 ∧ (∀ i, i < k → A i = A' i) ∧ Below w.heap.size w wr) := ⟨hlt, hm, hall, hb⟩
      clear hall hb HI
      by_cases he : A k = A' k
      · have HE : Hid (A k = A' k) := he
        rw [← he] at r2
        clear he
        generalize A k = x at r1 r2
        go_wp2_with fail
        go_quiet (fail)
        have HB : Hid (Below w.heap.size w (wr.drewN nq)) := below_dN HJ.out.2.2.2 nq
        generalize wr.drewN nq = w2 at *
        go_wp2_with fail
        go_roundw
        case rel =>
          refine ⟨k + 1, HJ.out.1, by first | rfl | go_num | simp, fun i hi => ?_, HB.out⟩
          by_cases e : i = k
          · rw [e]; exact HE.out
          · exact HJ.out.2.2.1 i (by omega)
        case measure => simp [intOf]; have := HJ.out; omega
      · have HE : Hid (¬ A k = A' k) := he
        have hei : ¬ ((A k : Int) = (A' k : Int)) := by omega
        clear he
        generalize (A k : Int) = x at r1 hei
        generalize (A' k : Int) = y at r2 hei
        go_wp2_with fail
        go_quiet (fail)
        have HB : Hid (Below w.heap.size w (wr.drewN nq)) := below_dN HJ.out.2.2.2 nq
        generalize wr.drewN nq = w2 at *
        go_wp2_with fail
        go_ret
        exact ⟨by rw [decide_eq_false (fun hx => HE.out (hx k HJ.out.1))]; rfl, HB.out⟩
    · obtain rfl : k = m := by omega
      have j1 : ¬ ((k : Int) < (k : Int)) := by omega
      have HA : Hid (∀ i, i < k → A i = A' i) := hall
      clear hall
      go_wp2_with fail
      go_ret
      exact ⟨by rw [decide_eq_true HA.out]; rfl, hb⟩
/-- the states of a room of n blocks, some of which are used -/
def newS (A : Nat → Nat) (k : Nat) (p : Nat) : Int := if p = 0 then 0 else if memA A k p then 2 else 1
theorem rref_no (p : Int) (hp : p < 16 ∨ 8192 < p) (v : Value) (w : World) : Calls Tryd.prog 5 #[.int .i64 p, v] w fun e w' => e = .returned (.tuple #[.slice none 0 0, .int .i64 0, .int .i64 120]) ∧ w' = w := by
  by_cases h : p < 16
  · go_enter Tryd.func5, Tryd.ntmps5
    go_wp2_with fail
    go_ret3
    exact ⟨rfl, rfl⟩
  · have h2 : 8192 < p := by omega
    go_enter Tryd.func5, Tryd.ntmps5
    go_wp2_with fail
    go_ret3
    exact ⟨rfl, rfl⟩
end Go.Proofs.YtjlngldmdfbbaaaDoor
