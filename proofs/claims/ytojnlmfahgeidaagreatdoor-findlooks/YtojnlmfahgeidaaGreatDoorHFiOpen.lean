/- A slice of deeds of the statements' trees as an argument; a slice of texts. -/
import Derived.Test.YtojnlmfahgeidaaGreatDoorHPaParts
import Derived.Test.YtojnlmfahgeidaaGreatDoorHFiInts
import Derived.Handy
import Derived.Test.YtojnlmfahgeidaaGreatDoorHBrRoot
import Derived.BigQuiet
import Derived.Deep.QuietTactic
import Derived.Deep.Cut
import Derived.Deep.DeepCutAuto
import Derived.Test.YtojnlmfahgeidaaGreatDoorRows
import Derived.WalkKit
import Derived.ProofKit
import Derived.OpenShut
import Derived.Lib.SmallJoins
import Derived.SizedLaws
import Derived.Deep.Slices
import Derived.Test.YtojnlmfahgeidaaGreatDoorHCaAll
import Derived.Test.YtojnlmfahgeidaaGreatDoorHPaForm
import Derived.Carry
import Derived.SliceStrings

namespace Go.Proofs.YtojnlmfahgeidaaGreatDoor
open Go Go.RowKit
set_option linter.unusedSimpArgs false
set_option linter.unusedVariables false
/-- two lists, one beside the other -/
structure RW (B : Nat) (w0 : World) (v1 v2 : Value) (L1 L2 : List Value) (U : World) : Prop where
  r1 : U.ownsRow B 3 1 v1 L1.length L1
  r2 : U.ownsRow B 3 1 v2 L2.length L2
  ap : ∀ b, v1.ownBlock = some b → v2.ownBlock ≠ some b
  bl : Below B w0 U
  bs : B ≤ U.heap.size
section
variable {B : Nat} {w0 : World} {v1 v2 : Value} {L1 L2 : List Value} {U U' : World}
theorem RW.alloc (h : RW B w0 v1 v2 L1 L2 U) (o : Obj) : RW B w0 v1 v2 L1 L2 (U.alloc o) := ⟨h.r1.alloc _, h.r2.alloc _, h.ap, h.bl.alloc h.bs _, by have := h.bs; simp; omega⟩
theorem RW.app1 {v1' : Value} {n : Nat} {xs : List Value} (h : RW B w0 v1 v2 L1 L2 U) (ho : U'.ownsRow B 3 1 v1' n xs) (hg : U.grownBy U' v1.ownBlock) (hv : v1'.ownBlock = v1.ownBlock ∨ v1'.ownBlock = some U.heap.size) (hn : n = xs.length := by simp) : RW B w0 v1' v2 xs L2 U' := by
  subst hn
  have hlt := fun b q => (h.r2.lt b q).2
  refine ⟨ho, h.r2.kept hg ?_, fun b hb q => ?_, h.bl.trans (fi_grown h.r1 hg h.bs), Nat.le_trans h.bs hg.size⟩
  · cases hq : v2.ownBlock with
    | none => exact .inl rfl
    | some k => exact .inr fun q => h.ap k q.symm hq
  · rcases hv with hv | hv
    · exact h.ap b (hv.symm.trans hb) q
    · rw [hv] at hb
      injection hb with hb
      have := hlt b q
      omega
theorem RW.app2 {v2' : Value} {n : Nat} {xs : List Value} (h : RW B w0 v1 v2 L1 L2 U) (ho : U'.ownsRow B 3 1 v2' n xs) (hg : U.grownBy U' v2.ownBlock) (hv : v2'.ownBlock = v2.ownBlock ∨ v2'.ownBlock = some U.heap.size) (hn : n = xs.length := by simp) : RW B w0 v1 v2' L1 xs U' := by
  subst hn
  have hlt := fun b q => (h.r1.lt b q).2
  refine ⟨h.r1.kept hg ?_, ho, fun b hb q => ?_, h.bl.trans (fi_grown h.r2 hg h.bs), Nat.le_trans h.bs hg.size⟩
  · cases hq : v1.ownBlock with
    | none => exact .inl rfl
    | some k => exact .inr fun q => h.ap k hq q.symm
  · rcases hv with hv | hv
    · exact h.ap b hb (hv.symm.trans q)
    · rw [hv] at q
      injection q with q
      have := hlt b hb
      omega
end
theorem rw_start (w w0 : World) (hb : Below w0.heap.size w0 w) : RW w0.heap.size w0 (.slice (some ⟨w.heap.size, 0, none⟩) 1 1) (.slice (some ⟨w.heap.size + 1, 0, none⟩) 0 0) [.int .i64 1] [] ((w.alloc (.cells #[.int .i64 1] 3)).alloc (.cells #[] 3)) := by
  have hs := hb.size
  have q0 : Blk (w.alloc (.cells #[.int .i64 1] 3)) w.heap.size 3 #[.int .i64 1] := Blk.new _ _ _
  have q1 : Blk ((w.alloc (.cells #[.int .i64 1] 3)).alloc (.cells #[] 3)) (w.alloc (.cells #[.int .i64 1] 3)).heap.size 3 #[] := Blk.new _ _ _
  rw [show (w.alloc (.cells #[.int .i64 1] 3)).heap.size = w.heap.size + 1 by simp] at q1
  exact ⟨fi_one (q0.alloc _) hs, kown_empty q1 (by omega), fun b hb => by
    simp [Value.ownBlock] at hb ⊢
    omega, (hb.alloc hs _).alloc (by simp; omega) _, by simp; omega⟩
/-- what the document's Walk answers -/
def RWk (F : Fo) (nm : Nat → ByteArray) (n : Nat) (RR : Int) (w : World) (e : Ending) (w' : World) : Prop := ∃ a1 a2 m1 m2 c1 c2, e = .returned (.tuple #[.slice a1 m1 c1, .slice a2 m2 c2, .int .i64 RR]) ∧ m1 = (if RR = 0 then n + 1 else 0) ∧ m2 = (if RR = 0 then n else 0) ∧ IsI w' a1 m1 (wkA F nm) ∧ IsI w' a2 m2 (wkP F nm) ∧ Below w.heap.size w w'
theorem RWk.err {F : Fo} {nm : Nat → ByteArray} {n : Nat} {RR : Int} {w w' : World} {a1 a2 : Option Addr} {c1 c2 : Nat} (h : RR ≠ 0) (hb : Below w.heap.size w w') : RWk F nm n RR w (.returned (.tuple #[.slice a1 0 c1, .slice a2 0 c2, .int .i64 RR])) w' :=
  ⟨a1, a2, 0, 0, c1, c2, rfl, by rw [if_neg h], by rw [if_neg h], fun j hj => absurd hj (Nat.not_lt_zero _), fun j hj => absurd hj (Nat.not_lt_zero _), hb⟩
theorem RWk.ok {F : Fo} {nm : Nat → ByteArray} {n : Nat} {w w' : World} {B : Nat} {v1 v2 : Value} (h1 : w'.ownsRow B 3 1 v1 (n + 1) ((List.range (n + 1)).map fun k => .int .i64 ((wkA F nm k : Nat) : Int))) (h2 : w'.ownsRow B 3 1 v2 n ((List.range n).map fun k => .int .i64 ((wkP F nm k : Nat) : Int))) (hb : Below w.heap.size w w') : RWk F nm n 0 w (.returned (.tuple #[v1, v2, .int .i64 0])) w' := by
  obtain ⟨a1, c1, rfl, hI1⟩ := own_isI h1
  obtain ⟨a2, c2, rfl, hI2⟩ := own_isI h2
  exact ⟨a1, a2, n + 1, n, c1, c2, rfl, by rw [if_pos rfl], by rw [if_pos rfl], hI1, hI2, hb⟩
set_option maxRecDepth 100000 in
set_option maxHeartbeats 16000000 in
theorem rwalk_any (r : Nat) (F : Fo) (w : World) (hM : BM w r F) (hk : ∀ n, F.dr n = true → F.K n ≤ 16384) (hW : ∀ (nm : Nat → ByteArray) i, wkE F nm i = 0 → F.N (wkA F nm i) (wkP F nm i) = ((wkA F nm (i + 1) : Nat) : Int)) (a : Option Addr) (n c : Nat) (hn : n ≤ 8796093022200) (nm : Nat → ByteArray) (hN : IsNm w a n nm) : Calls Tryz.prog 35 #[.map (some r), .slice a n c] w (RWk F nm n (wkR F nm n) w) := by
  obtain ⟨i0, hi0, hz0, hz1, hz2⟩ := info_parts infoIn
  have HM : Hid (∀ V, Below w.heap.size w V → BM V r F) := fun V hV => hM.below hV
  have HN : Hid (∀ V, Below w.heap.size w V → IsNm V a n nm) := fun V hV => hN.below hV
  have HK : Hid (∀ n, F.dr n = true → F.K n ≤ 16384) := hk
  have HW : Hid (∀ (nm : Nat → ByteArray) i, wkE F nm i = 0 → F.N (wkA F nm i) (wkP F nm i) = ((wkA F nm (i + 1) : Nat) : Int)) := hW
  have HNN : Hid (n ≤ 8796093022200) := hn
  clear hM hN hk hW
  obtain ⟨RR, hRR⟩ : ∃ R, R = wkR F nm n := ⟨_, rfl⟩
  have HRR : Hid (RR = wkR F nm n) := hRR
  rw [← hRR]
  clear hRR
  go_enter Tryz.func35, Tryz.ntmps35
  go_wp2_with fail
  go_loopw [7] (fun v wr => Hid (∃ i : Nat, i ≤ n ∧ v = .int .i64 (i : Int) ∧ naE nm i = 0 ∧ Below w.heap.size w wr)) (fun v _ => n - (intOf v).toNat)
  case atStart => exact ⟨0, Nat.zero_le _, rfl, rfl, Below.refl _ _⟩
  case round =>
    obtain ⟨i, hi, rfl, hna, hb⟩ := Hid.out hrel
    have HS : Hid (naE nm i = 0 ∧ Below w.heap.size w wr) := ⟨hna, hb⟩
    clear hrel hna hb
    by_cases hin : i < n
    · have i1 : (i : Int) < (n : Int) := by omega
      obtain ⟨b, o, rfl, _, c0⟩ := HN.out wr HS.out.2 i hin
      have HC := is_any (nm i) wr
      by_cases h : isName (nm i).data.toList = true
      · have HE : Hid (nameE (nm i).data.toList = 0) := by show nameE _ = 0; unfold nameE; rw [if_pos h]
        rw [h] at HC
        clear h
        go_wp2_with fail
        refine HC.mono ?_
        rintro e w2 ⟨rfl, hw2⟩
        subst w2
        have HS2 : Hid (naE nm (i + 1) = 0 ∧ Below w.heap.size w wr) := ⟨(naE_step HS.out.1).trans HE.out, HS.out.2⟩
        clear HC c0
        go_wp2_with fail
        go_roundw
        case rel => exact ⟨i + 1, hin, by first | rfl | go_num | simp, HS2.out.1, HS2.out.2⟩
        case measure => simp [intOf]; omega
      · have he : nameE (nm i).data.toList = 130 := by unfold nameE; rw [if_neg h]
        have HE : Hid (RR = 130) := HRR.out.trans ((wkR_name HS.out.1 hin (by rw [he]; decide)).trans he)
        have h' : isName (nm i).data.toList = false := by simpa using h
        rw [h'] at HC
        clear h h' he
        go_wp2_with fail
        refine HC.mono ?_
        rintro e w2 ⟨rfl, hw2⟩
        subst w2
        have HB : Hid (Below w.heap.size w ((wr.alloc (.cells #[] 3)).alloc (.cells #[] 3))) := (HS.out.2.alloc HS.out.2.size _).alloc (by have := HS.out.2.size; simp; omega) _
        clear HC c0
        go_wp2_with fail
        go_ret3
        have e1 := HE.out
        subst e1
        exact RWk.err (by decide) HB.out
    · obtain rfl : i = n := by omega
      have i1 : ¬ ((i : Int) < (i : Int)) := by omega
      have HNA : Hid (naE nm i = 0) := HS.out.1
      have HW0 : Hid (RW w.heap.size w (.slice (some ⟨wr.heap.size, 0, none⟩) 1 1) (.slice (some ⟨wr.heap.size + 1, 0, none⟩) 0 0) [.int .i64 1] [] ((wr.alloc (.cells #[.int .i64 1] 3)).alloc (.cells #[] 3))) := rw_start wr w HS.out.2
      clear HS
      go_wp2_with fail
      go_loopw [8, 9, 10, 11] (fun v8 v9 v10 v11 wr => Hid (∃ j : Nat, j ≤ i ∧ v8 = .int .i64 ((wkA F nm j : Nat) : Int) ∧ v11 = .int .i64 (j : Int) ∧ feE F nm j = 0 ∧ RW w.heap.size w v9 v10 (wkL F nm j) (plL F nm j) wr)) (fun _ _ _ v11 _ => i - (intOf v11).toNat)
      case atStart => exact ⟨0, Nat.zero_le _, rfl, rfl, rfl, HW0.out⟩
      case round =>
        clear HW0
        obtain ⟨WR, rfl⟩ : ∃ u, u = wr := ⟨_, rfl⟩
        obtain ⟨j, hj, rfl, rfl, hfe, hR⟩ := Hid.out hrel
        obtain ⟨V1, rfl⟩ : ∃ u, u = u9 := ⟨_, rfl⟩
        obtain ⟨V2, rfl⟩ : ∃ u, u = u10 := ⟨_, rfl⟩
        have HT : Hid (feE F nm j = 0 ∧ RW w.heap.size w V1 V2 (wkL F nm j) (plL F nm j) WR) := ⟨hfe, hR⟩
        clear hrel hfe hR i1
        by_cases hjn : j < i
        · have j1 : (j : Int) < (i : Int) := by omega
          obtain ⟨t, ht, hlk⟩ := (HM.out WR HT.out.2.bl).look (wkA F nm j)
          obtain ⟨ta, tn, tc⟩ := t
          cases hd : F.dr (wkA F nm j) with
          | false =>
            have he : wkE F nm j = 170 := by unfold wkE; rw [if_neg (by rw [hd]; decide)]
            have HE : Hid (RR = 170) := HRR.out.trans ((wkR_step HNA.out HT.out.1 hjn (by rw [he]; decide)).trans he)
            rw [hd] at hlk
            have HB : Hid (Below w.heap.size w ((WR.alloc (.cells #[] 3)).alloc (.cells #[] 3))) := (HT.out.2.bl.alloc HT.out.2.bl.size _).alloc (by have := HT.out.2.bl.size; simp; omega) _
            clear ht hd he
            generalize wkA F nm j = A0 at *
            go_wp2_with fail
            go_ret3
            have e1 := HE.out
            subst e1
            exact RWk.err (by decide) HB.out
          | true =>
            obtain ⟨k1, k2, k3, k4⟩ := ht hd
            have k1' : tn = F.K (wkA F nm j) := k1
            subst k1'
            obtain ⟨b, o, rfl, _, c0⟩ := HN.out WR HT.out.2.bl j hjn
            have HFI := rfind17_any ta (F.K (wkA F nm j)) tc (wkP F nm j) (by have := HK.out _ hd; omega) (F.N (wkA F nm j)) (F.S (wkA F nm j)) (nm j) (fiN_is _ _ _) _ _ rfl rfl WR k2
            rw [hd] at hlk
            by_cases hp : wkP F nm j < F.K (wkA F nm j)
            · have he : wkE F nm j = 0 := by unfold wkE; rw [if_pos hd, if_pos hp]
              have hNN := HW.out nm j he
              rw [if_pos hp, if_pos hp, hNN] at HFI
              have HFE : Hid (feE F nm (j + 1) = 0) := (feE_step HT.out.1).trans he
              have h1 : Hid (RW w.heap.size w V1 V2 (wkL F nm j) (plL F nm j) (WR.alloc (.cells #[.int .i64 ((wkA F nm (j + 1) : Nat) : Int)] 3))) := HT.out.2.alloc _
              have HL : Hid ((wkL F nm j).length ≤ 8796093022201 ∧ (plL F nm j).length ≤ 8796093022200) := ⟨by rw [wkL_len]; have := HNN.out; omega, by rw [plL_len]; have := HNN.out; omega⟩
              have HS1 : Hid (wkL F nm (j + 1) = wkL F nm j ++ [.int .i64 ((wkA F nm (j + 1) : Nat) : Int)] ∧ plL F nm (j + 1) = plL F nm j ++ [.int .i64 ((wkP F nm j : Nat) : Int)]) := ⟨wkL_succ _ _ _, plL_succ _ _ _⟩
              generalize hA1 : wkA F nm (j + 1) = A1 at HFI h1 HS1
              have HA1 : Hid (wkA F nm (j + 1) = A1) := hA1
              have p0 : (0 : Int) ≤ ((wkP F nm j : Nat) : Int) := by omega
              clear hA1 hNN k1 k2 k3 k4 hp he hd ht
              generalize F.K (wkA F nm j) = KA at *
              generalize wkP F nm j = P1 at *
              generalize wkA F nm j = A0 at *
              generalize nm j = sj at *
              go_wp2_with fail
              refine HFI.mono ?_
              rintro e w2 ⟨rfl, hw2⟩
              subst w2
              clear HFI c0 hlk
              go_wp2_with (first
                | (at_builtin; refine wpList_append_own_at rfl _ _ 78 rfl w.heap.size 3 i0 (.int .i64 0) 1 8 Tryz.underlying78 hi0 hz0 hz1 hz2 rfl (by decide) V1 (wkL F nm j).length (wkL F nm j) rfl h1.out.r1 ⟨WR.heap.size, 0, none⟩ 1 1 [.int .i64 (A1 : Int)] rfl rfl (cell_one_new _ _ _) (fun x hx => by simp at hx; subst hx; rfl) (by have := HL.out; unfold maxLen; omega) (by have := HL.out; omega) h1.out.bs ?_)
                | go_in)
              intro va U2 ho hg hv
              have h2 : Hid (RW w.heap.size w va V2 (wkL F nm j ++ [.int .i64 (A1 : Int)]) (plL F nm j) U2) := h1.out.app1 ho hg (by simpa using hv)
              have h3 : Hid (RW w.heap.size w va V2 (wkL F nm j ++ [.int .i64 (A1 : Int)]) (plL F nm j) (U2.alloc (.cells #[.int .i64 (P1 : Int)] 3))) := h2.out.alloc _
              clear ho hg hv h1
              go_wp2_with (first
                | (at_builtin; refine wpList_append_own_at rfl _ _ 78 rfl w.heap.size 3 i0 (.int .i64 0) 1 8 Tryz.underlying78 hi0 hz0 hz1 hz2 rfl (by decide) V2 (plL F nm j).length (plL F nm j) rfl h3.out.r2 ⟨U2.heap.size, 0, none⟩ 1 1 [.int .i64 (P1 : Int)] rfl rfl (cell_one_new _ _ _) (fun x hx => by simp at hx; subst hx; rfl) (by have := HL.out; unfold maxLen; omega) (by have := HL.out; omega) h3.out.bs ?_)
                | go_in)
              intro vb U4 ho hg hv
              have h4 : Hid (RW w.heap.size w va vb (wkL F nm j ++ [.int .i64 (A1 : Int)]) (plL F nm j ++ [.int .i64 (P1 : Int)]) U4) := h3.out.app2 ho hg (by simpa using hv)
              clear ho hg hv h3 h2
              go_wp2_with fail
              go_roundw
              case rel => exact ⟨j + 1, hjn, by rw [HA1.out], by first | rfl | go_num | simp, HFE.out, by rw [HS1.out.1, HS1.out.2]; exact h4.out⟩
              case measure => simp [intOf]; omega
            · have he : wkE F nm j = 171 := by unfold wkE; rw [if_pos hd, if_neg hp]
              have HE : Hid (RR = 171) := HRR.out.trans ((wkR_step HNA.out HT.out.1 hjn (by rw [he]; decide)).trans he)
              rw [if_neg hp, if_neg hp] at HFI
              have HB : Hid (Below w.heap.size w ((WR.alloc (.cells #[] 3)).alloc (.cells #[] 3))) := (HT.out.2.bl.alloc HT.out.2.bl.size _).alloc (by have := HT.out.2.bl.size; simp; omega) _
              clear k1 k2 k3 k4 hp he hd ht
              generalize F.K (wkA F nm j) = KA at *
              generalize wkA F nm j = A0 at *
              generalize nm j = sj at *
              go_wp2_with fail
              refine HFI.mono ?_
              rintro e w2 ⟨rfl, hw2⟩
              subst w2
              clear HFI c0 hlk
              go_wp2_with fail
              go_ret3
              have e1 := HE.out
              subst e1
              exact RWk.err (by decide) HB.out
        · obtain rfl : j = i := by omega
          have j1 : ¬ ((j : Int) < (j : Int)) := by omega
          have HE : Hid (RR = 0) := HRR.out.trans (wkR_ok HNA.out HT.out.1)
          have HO : Hid (WR.ownsRow w.heap.size 3 1 V1 (j + 1) ((List.range (j + 1)).map fun k => .int .i64 ((wkA F nm k : Nat) : Int)) ∧ WR.ownsRow w.heap.size 3 1 V2 j ((List.range j).map fun k => .int .i64 ((wkP F nm k : Nat) : Int)) ∧ Below w.heap.size w WR) := by
            have h1 := HT.out.2.r1
            have h2 := HT.out.2.r2
            rw [wkL_len] at h1
            rw [plL_len] at h2
            exact ⟨h1, h2, HT.out.2.bl⟩
          clear HT
          go_wp2_with fail
          go_ret3
          have e1 := HE.out
          subst e1
          exact RWk.ok HO.out.1 HO.out.2.1 HO.out.2.2
end Go.Proofs.YtojnlmfahgeidaaGreatDoor

namespace Go.Proofs.YtojnlmfahgeidaaGreatDoor
open Go Go.RowKit
set_option linter.unusedSimpArgs false
set_option linter.unusedVariables false
theorem p18_zero (w : World) : (zeroValue 90).run Tryz.prog w = .ok (.agg #[.slice none 0 0, .bool false]) w := di_zero (by kernel_rfl) w
/-- what stands while the law is asked: the tree, what Lookup told, the path as it was read -/
structure LK (w W : World) (x mf ml mc : Nat) (cp : Option Addr) (r all : Nat) (F : Fo) (gI gP : Nat) (nu k l zz : Int) (st : Nat) (a : Option Addr) (c : Nat) (N : List ByteArray) (dd : Bool) : Prop where
  t : BT19 w W x mf ml mc cp r all F
  bi : Blk W gI 86 (nfC nu k l zz st)
  bp : Blk W gP 90 #[.slice a N.length c, .bool dd]
  nm : IsNm W a N.length (nmL N)
theorem LK.below {w W V : World} {x mf ml mc : Nat} {cp : Option Addr} {r all : Nat} {F : Fo} {gI gP : Nat} {nu k l zz : Int} {st : Nat} {a : Option Addr} {c : Nat} {N : List ByteArray} {dd : Bool} (h : LK w W x mf ml mc cp r all F gI gP nu k l zz st a c N dd) (hb : Below W.heap.size W V) : LK w V x mf ml mc cp r all F gI gP nu k l zz st a c N dd :=
  ⟨h.t.below hb, h.bi.below hb h.bi.lt, h.bp.below hb h.bp.lt, h.nm.below hb⟩
/-- what Parent told, the directory's path as it was split -/
structure PK (W : World) (gW gS : Nat) (a2 : Option Addr) (m2 c2 : Nat) (b2 : Bool) (a3 : Option Addr) (c3 : Nat) (N2 : List ByteArray) (d2 : Bool) : Prop where
  bw : Blk W gW 94 #[.slice a2 m2 c2, .bool b2]
  bs : Blk W gS 90 #[.slice a3 N2.length c3, .bool d2]
  nm : IsNm W a3 N2.length (nmL N2)
theorem PK.below {W V : World} {gW gS : Nat} {a2 : Option Addr} {m2 c2 : Nat} {b2 : Bool} {a3 : Option Addr} {c3 : Nat} {N2 : List ByteArray} {d2 : Bool} (h : PK W gW gS a2 m2 c2 b2 a3 c3 N2 d2) (hb : Below W.heap.size W V) : PK V gW gS a2 m2 c2 b2 a3 c3 N2 d2 :=
  ⟨h.bw.below hb h.bw.lt, h.bs.below hb h.bs.lt, h.nm.below hb⟩
theorem BT19.rwalk {w W : World} {x mf ml mc : Nat} {cp : Option Addr} {r all : Nat} {F : Fo} (h : BT19 w W x mf ml mc cp r all F) (N : List ByteArray) (hl : N.length ≤ 32) (a : Option Addr) (c : Nat) (hn : IsNm W a N.length (nmL N)) : Calls Tryz.prog 35 #[.map (some r), .slice a N.length c] W (RWk F (nmL N) N.length (wkR F (nmL N) N.length) W) :=
  rwalk_any r F W h.bm (fun n hn => h.bi.kle hn) (fun nm i q => (h.bi.wkN q).1) a N.length c (by omega) (nmL N) hn
set_option maxRecDepth 100000 in
set_option maxHeartbeats 32000000 in
theorem findLooksLaw (a : Option Addr) (n c : Nat) (hn : n ≤ 9223372036854775807) (X : Nat → A19) (hX : ∀ i, i < n → (X i).ok) (s : ByteArray) (w : World) (hI : IsA19 w a n X) :
    Calls Tryz.prog 7 #[.slice a n c, .string s] w fun e w' => e = .returned (.bool true) ∧ Below w.heap.size w w' := by
  obtain ⟨N, dd, i, z, hp⟩ : ∃ N dd i z, prs s.data.toList = (N, dd, i, z) := ⟨_, _, _, _, rfl⟩
  obtain ⟨N2, d2, last, z2, hs⟩ : ∃ N2 d2 last z2, splR s.data.toList = (N2, d2, last, z2) := ⟨_, _, _, _, rfl⟩
  have hN : N.length ≤ 32 := by have := (good_prs s.data.toList).1; rwa [hp] at this
  obtain ⟨hz2, hN2⟩ := spl_prs hp hs
  have HPS : Hid (prs s.data.toList = (N, dd, i, z) ∧ splR s.data.toList = (N2, d2, last, z2) ∧ N.length ≤ 32 ∧ N2.length ≤ 32 ∧ (z2 = 0 → z = 0 ∧ d2 = true)) := ⟨hp, hs, hN, hN2, hz2⟩
  have HB := built19_any a n c hn X hX w hI
  have HAW : Hid (∀ V : World, Calls Tryz.prog 32 #[] V fun e w' => e = .returned (.bool true) ∧ Below V.heap.size V w') := awake19_any
  have HZ1 := zero_nf
  have HZ2 := pt_zero
  have HZ3 := p18_zero
  clear hX hI hp hs hN hN2 hz2
  go_enter Tryz.func7, Tryz.ntmps7
  go_wp2_with fail
  refine HB.mono ?_
  rintro e w1 ⟨x, mf, ml, mc, cp, r, all, F, rfl, hT⟩
  have HT1 : Hid (BT19 w w1 x mf ml mc cp r all F) := hT
  clear HB hT
  go_wp2_with fail
  refine (HAW.out _).mono ?_
  rintro e w2 ⟨rfl, hb2⟩
  have HT2 : Hid (BT19 w w2 x mf ml mc cp r all F) := HT1.out.below hb2
  have H3 := HT2.out.lookup s N HPS.out.2.2.1 dd i z HPS.out.1
  clear hb2 HT1 HAW
  obtain ⟨ff, hff⟩ : ∃ ff, lkE F N dd z = ff := ⟨_, rfl⟩
  obtain ⟨nu, hnu⟩ : ∃ nu, lkN F N dd z = nu := ⟨_, rfl⟩
  have HFF : Hid (lkE F N dd z = ff ∧ lkN F N dd z = nu) := ⟨hff, hnu⟩
  rw [hff, hnu] at H3
  clear hff hnu
  go_wp2_with fail
  refine H3.mono ?_
  rintro e w3 ⟨k, l, zz, st, rfl, hb3⟩
  have HT3 : Hid (BT19 w w3 x mf ml mc cp r all F) := HT2.out.below hb3
  have u1 : Blk (w3.alloc (.cells nf0 86)) w3.heap.size 86 nf0 := Blk.new _ _ _
  have HT4 : Hid (BT19 w ((w3.alloc (.cells nf0 86)).setRow w3.heap.size (nfC nu k l zz st)) x mf ml mc cp r all F ∧ Blk ((w3.alloc (.cells nf0 86)).setRow w3.heap.size (nfC nu k l zz st)) w3.heap.size 86 (nfC nu k l zz st)) := ⟨HT3.out.below (below_setRow (below_new1 _ _) (Nat.le_refl _) _), u1.set _⟩
  have HRP : Hid (∀ V : World, Calls Tryz.prog 38 #[.string s] V fun e w' => ∃ (a : Option Addr) (c : Nat), e = .returned (.tuple #[.agg #[.slice a N.length c, .bool dd], .int .i64 (i : Int), .int .i64 z]) ∧ IsNm w' a N.length (nmL N) ∧ Below V.heap.size V w') := fun V => (rparse_at s HPS.out.1 V).mono fun e w' ⟨a, c, h1, h2, h3⟩ => ⟨a, c, h1, own_nm h2, h3⟩
  clear hb3 H3 HT2 HT3
  go_wp2_with (first | (refine wpList_store_row (by rfl) 86 _ _ (by rfl) (w3.heap.size) (nfC nu k l zz st) (by rfl) (by rfl) 86 (nf0) (by exact u1) (size_nf.trans (by rfl)) (by rfl) (nf_all _ _ _ _ _) ?_; simp only [Act.put, List.setIfInBounds_toArray, List.set_cons_zero, List.set_cons_succ]) | fail)
  generalize ((w3.alloc (.cells nf0 86)).setRow w3.heap.size (nfC nu k l zz st)) = w4 at *
  generalize w3.heap.size = gI at *
  clear u1
  refine (HRP.out _).mono ?_
  rintro e w5 ⟨pa, pc, rfl, hnm, hb5⟩
  have HK5 : Hid (LK w (w5.alloc (.cells #[.slice pa N.length pc, .bool dd] 90)) x mf ml mc cp r all F gI w5.heap.size nu k l zz st pa pc N dd) := ⟨(HT4.out.1.below hb5).below (below_new1 _ _), (HT4.out.2.below hb5 HT4.out.2.lt).alloc _, Blk.new _ _ _, hnm.below (below_new1 _ _)⟩
  clear hnm hb5 HT4 HRP
  go_upto_if 57 with fail
  generalize (w5.alloc (.cells #[.slice pa N.length pc, .bool dd] 90)) = w6 at *
  generalize w5.heap.size = gP at *
  go_cut [12, 13] (fun v12 v13 wx => v12 = .int .i64 ff ∧ v13 = .int .i64 nu ∧ Hid (LK w wx x mf ml mc cp r all F gI gP nu k l zz st pa pc N dd))
  case first =>
    by_cases hz : z = 0
    · subst hz
      have H7 := HK5.out.t.rwalk N HPS.out.2.2.1 pa pc HK5.out.nm
      obtain ⟨RR, hRR⟩ : ∃ R, wkR F (nmL N) N.length = R := ⟨_, rfl⟩
      have HRR : Hid (wkR F (nmL N) N.length = RR) := hRR
      rw [hRR] at H7
      have HRF := wkR_four F (nmL N) N.length
      rw [hRR] at HRF
      clear hRR
      have c0 := (HK5.out.bp.cell 0).trans rfl
      go_wp2_with fail
      refine H7.mono ?_
      rintro e w7 ⟨a1, a2, m1, m2, c1, c2, rfl, hm1, hm2, hi1, hi2, hb7⟩
      have HK7 : Hid (LK w w7 x mf ml mc cp r all F gI gP nu k l zz st pa pc N dd) := HK5.out.below hb7
      have q0 := (HK7.out.bp.cell 1).trans rfl
      by_cases hR : RR = 0
      · rw [if_pos hR] at hm1
        subst hR
        subst hm1
        have hin := HK7.out.t.bi.wkIn N.length (wkR_zero HRR.out).2
        obtain ⟨g, o, rfl, _, cw⟩ := hi1 N.length (by omega)
        obtain ⟨t, ht, hlk⟩ := HK7.out.t.bm.look (wkA F (nmL N) N.length)
        have n1 : (0 : Int) ≤ (N.length : Int) := by omega
        have n2 : (N.length : Int) ≤ 32 := by have := HPS.out.2.2.1; omega
        by_cases hd : dd = true ∧ F.dr (wkA F (nmL N) N.length) = false
        · have e1 : lkE F N dd 0 = 170 := by unfold lkE; rw [if_neg (by simp), if_neg (by simp [HRR.out]), if_pos hd]
          have e2 : lkN F N dd 0 = 0 := by unfold lkN; rw [if_neg (by rw [e1]; decide)]
          obtain ⟨f1, f2⟩ := HFF.out
          rw [e1] at f1
          rw [e2] at f2
          subst f1 f2
          obtain ⟨hd1, hd2⟩ := hd
          rw [hd2] at hlk
          subst hd1
          clear hm2 hi1 hi2 hb7 H7 HRF hin ht e1 e2 hd2 HK5 c0
          generalize wkA F (nmL N) N.length = A0 at *
          go_wp2_with fail
          go_meet
          exact ⟨rfl, rfl, HK7⟩
        · have e1 : lkE F N dd 0 = 0 := by unfold lkE; rw [if_neg (by simp), if_neg (by simp [HRR.out]), if_neg hd]
          have e2 : lkN F N dd 0 = ((wkA F (nmL N) N.length : Nat) : Int) := by unfold lkN; rw [if_pos e1]
          obtain ⟨f1, f2⟩ := HFF.out
          rw [e1] at f1
          rw [e2] at f2
          subst f1
          rw [f2] at hlk cw
          clear f2
          cases dd
          · clear hm2 hi1 hi2 hb7 H7 HRF hin ht e1 e2 hd HK5 c0
            generalize F.dr (wkA F (nmL N) N.length) = dA at *
            generalize wkA F (nmL N) N.length = A0 at *
            go_wp2_with fail
            go_meet
            exact ⟨rfl, rfl, HK7⟩
          · have hd2 : F.dr (wkA F (nmL N) N.length) = true := by
              cases q : F.dr (wkA F (nmL N) N.length) with
              | true => rfl
              | false => exact absurd ⟨rfl, q⟩ hd
            rw [hd2] at hlk
            clear hm2 hi1 hi2 hb7 H7 HRF hin ht e1 e2 hd hd2 HK5 c0
            generalize wkA F (nmL N) N.length = A0 at *
            go_wp2_with fail
            go_meet
            exact ⟨rfl, rfl, HK7⟩
      · have e1 : lkE F N dd 0 = RR := by unfold lkE; rw [if_neg (by simp), if_pos (by rw [HRR.out]; exact hR)]; exact HRR.out
        have e2 : lkN F N dd 0 = 0 := by unfold lkN; rw [if_neg (by rw [e1]; exact hR)]
        obtain ⟨f1, f2⟩ := HFF.out
        rw [e1] at f1
        rw [e2] at f2
        subst f1 f2
        clear hm1 hm2 hi1 hi2 hb7 H7 e1 e2 HK5 c0
        rcases HRF with q | rfl | rfl | rfl
        · exact absurd q hR
        all_goals
          clear hR
          go_wp2_with fail
          go_meet
          exact ⟨rfl, rfl, HK7⟩
    · obtain ⟨e1, e2⟩ := lkE_err (F := F) (N := N) (dd := dd) hz
      obtain ⟨f1, f2⟩ := HFF.out
      rw [e1] at f1
      rw [e2] at f2
      subst f1 f2
      clear e1 e2
      go_wp2_with fail
      go_meet
      exact ⟨rfl, rfl, HK5⟩
  case rest =>
    obtain ⟨rfl, rfl, HKC⟩ := hcut
    obtain ⟨WC, rfl⟩ : ∃ u, u = wc := ⟨_, rfl⟩
    clear HK5
    obtain ⟨n0, _, _, _, _⟩ := nf_cs HKC.out.bi
    have HPA := HKC.out.t.parent s N N2 dd d2 i z z2 last HPS.out.1 HPS.out.2.1
    obtain ⟨pk, hpk⟩ : ∃ pk, pkE F N2 z2 = pk := ⟨_, rfl⟩
    have HPK : Hid (pkE F N2 z2 = pk) := hpk
    rw [hpk] at HPA
    clear hpk
    have b1 : (ff != ff) = false := by simp
    have b2 : (nu != nu) = false := by simp
    have HRS : Hid (∀ V : World, Calls Tryz.prog 40 #[.string s] V fun e w' => ∃ (a : Option Addr) (c : Nat), e = .returned (.tuple #[.agg #[.slice a N2.length c, .bool d2], .string last, .int .i64 z2]) ∧ IsNm w' a N2.length (nmL N2) ∧ Below V.heap.size V w') := fun V => (rsplit_any s V).mono fun e w' ⟨v, h1, h2, h3⟩ => by
      rw [HPS.out.2.1] at h1 h2
      obtain ⟨a, c, rfl⟩ := kown_slice h2
      exact ⟨a, c, h1, own_nm h2, h3⟩
    go_wp2_with fail
    refine HPA.mono ?_
    rintro e w9 ⟨a2, m2, c2, bb2, pn, pl, rfl, hok, hno, hb9⟩
    have HPO : Hid ((pk = 0 → pn = ((wkA F (nmL N2) N2.length : Nat) : Int) ∧ pl = last ∧ m2 = N.length ∧ bb2 = dd ∧ IsNm w9 a2 N.length (nmL N)) ∧ (pk ≠ 0 → pn = 0 ∧ pl = ⟨#[]⟩ ∧ m2 = 0 ∧ bb2 = false)) := ⟨hok, hno⟩
    have HK9 : Hid (LK w (w9.alloc (.cells #[.slice a2 m2 c2, .bool bb2] 94)) x mf ml mc cp r all F gI gP nu k l zz st pa pc N dd ∧ Blk (w9.alloc (.cells #[.slice a2 m2 c2, .bool bb2] 94)) w9.heap.size 94 #[.slice a2 m2 c2, .bool bb2] ∧ Below w9.heap.size w9 (w9.alloc (.cells #[.slice a2 m2 c2, .bool bb2] 94))) := ⟨(HKC.out.below hb9).below (below_new1 _ _), Blk.new _ _ _, below_new1 _ _⟩
    clear hok hno hb9 HKC n0 HPA b1 b2
    go_wp2_with fail
    generalize (w9.alloc (.cells #[.slice a2 m2 c2, .bool bb2] 94)) = w9' at *
    generalize hgW : w9.heap.size = gW at *
    refine (HRS.out _).mono ?_
    rintro e w10 ⟨a3, c3, rfl, hnm3, hb10⟩
    have HK10 : Hid (LK w (w10.alloc (.cells #[.slice a3 N2.length c3, .bool d2] 90)) x mf ml mc cp r all F gI gP nu k l zz st pa pc N dd ∧ PK (w10.alloc (.cells #[.slice a3 N2.length c3, .bool d2] 90)) gW w10.heap.size a2 m2 c2 bb2 a3 c3 N2 d2 ∧ Below w9.heap.size w9 (w10.alloc (.cells #[.slice a3 N2.length c3, .bool d2] 90))) := by
      have h2 := hb10.alloc hb10.size (.cells #[.slice a3 N2.length c3, .bool d2] 90)
      have h3 := HK9.out.2.2
      rw [← hgW] at h3
      refine ⟨HK9.out.1.below h2, ⟨HK9.out.2.1.below h2 HK9.out.2.1.lt, Blk.new _ _ _, hnm3.below (below_new1 _ _)⟩, h3.trans (h2.mono h3.size)⟩
    clear hnm3 hb10 HK9 HRS
    go_upto_if 111 with fail
    generalize (w10.alloc (.cells #[.slice a3 N2.length c3, .bool d2] 90)) = w11 at *
    generalize w10.heap.size = gS at *
    go_cut [13, 25] (fun v13 v25 wx => ∃ nn : Int, v13 = .int .i64 nn ∧ v25 = .int .i64 pk ∧ Hid ((pk = 0 → nn = ((wkA F (nmL N2) N2.length : Nat) : Int)) ∧ LK w wx x mf ml mc cp r all F gI gP nu k l zz st pa pc N dd ∧ PK wx gW gS a2 m2 c2 bb2 a3 c3 N2 d2 ∧ Below w9.heap.size w9 wx))
    case first =>
      by_cases hz : z2 = 0
      · subst hz
        have H7 := HK10.out.1.t.rwalk N2 HPS.out.2.2.2.1 a3 c3 HK10.out.2.1.nm
        obtain ⟨RR, hRR⟩ : ∃ R, wkR F (nmL N2) N2.length = R := ⟨_, rfl⟩
        have HRR : Hid (wkR F (nmL N2) N2.length = RR) := hRR
        rw [hRR] at H7
        have HRF := wkR_four F (nmL N2) N2.length
        rw [hRR] at HRF
        clear hRR
        have c0 := (HK10.out.2.1.bs.cell 0).trans rfl
        go_wp2_with fail
        refine H7.mono ?_
        rintro e w12 ⟨a4, a5, m4, m5, c4, c5, rfl, hm1, hm2, hi1, hi2, hb7⟩
        have HK12 : Hid (LK w w12 x mf ml mc cp r all F gI gP nu k l zz st pa pc N dd ∧ PK w12 gW gS a2 m2 c2 bb2 a3 c3 N2 d2 ∧ Below w9.heap.size w9 w12) := ⟨HK10.out.1.below hb7, HK10.out.2.1.below hb7, HK10.out.2.2.trans (hb7.mono HK10.out.2.2.size)⟩
        by_cases hR : RR = 0
        · rw [if_pos hR] at hm1
          subst hR
          subst hm1
          obtain ⟨g, o, rfl, _, cw⟩ := hi1 N2.length (by omega)
          obtain ⟨t, ht, hlk⟩ := HK12.out.1.t.bm.look (wkA F (nmL N2) N2.length)
          have n1 : (0 : Int) ≤ (N2.length : Int) := by omega
          have n2 : (N2.length : Int) ≤ 32 := by have := HPS.out.2.2.2.1; omega
          have HNN : Hid (∃ A0, wkA F (nmL N2) N2.length = A0) := ⟨_, rfl⟩
          cases hd : F.dr (wkA F (nmL N2) N2.length) with
          | false =>
            have e1 : pkE F N2 0 = 170 := by unfold pkE; rw [if_neg (by simp), if_neg (by simp [HRR.out]), if_neg (by rw [hd]; decide)]
            have f1 : pk = 170 := HPK.out.symm.trans e1
            subst f1
            rw [hd] at hlk
            clear hm2 hi1 hi2 hb7 H7 HRF ht e1 hd HK10 c0
            generalize wkA F (nmL N2) N2.length = A0 at *
            go_wp2_with fail
            go_meet
            exact ⟨_, rfl, rfl, fun q => absurd q (by decide), HK12.out⟩
          | true =>
            have e1 : pkE F N2 0 = 0 := by unfold pkE; rw [if_neg (by simp), if_neg (by simp [HRR.out]), if_pos hd]
            have f1 : pk = 0 := HPK.out.symm.trans e1
            subst f1
            rw [hd] at hlk
            clear hm2 hi1 hi2 hb7 H7 HRF ht e1 hd HK10 c0
            generalize wkA F (nmL N2) N2.length = A0 at *
            go_wp2_with fail
            go_meet
            exact ⟨_, rfl, rfl, fun _ => rfl, HK12.out⟩
        · have e1 : pkE F N2 0 = RR := by unfold pkE; rw [if_neg (by simp), if_pos (by rw [HRR.out]; exact hR)]; exact HRR.out
          have f1 : pk = RR := HPK.out.symm.trans e1
          subst f1
          clear hm1 hm2 hi1 hi2 hb7 H7 e1 HK10 c0
          rcases HRF with q | rfl | rfl | rfl
          · exact absurd q hR
          all_goals
            clear hR
            go_wp2_with fail
            go_meet
            exact ⟨_, rfl, rfl, fun q => absurd q (by decide), HK12.out⟩
      · have e1 : pkE F N2 z2 = z2 := by unfold pkE; rw [if_pos hz]
        have f1 : pk = z2 := HPK.out.symm.trans e1
        subst f1
        clear e1
        go_wp2_with fail
        go_meet
        exact ⟨_, rfl, rfl, fun q => absurd q hz, HK10.out⟩
    case rest =>
      obtain ⟨nn, rfl, rfl, HX⟩ := hcut
      obtain ⟨WD, rfl⟩ : ∃ u, u = wc := ⟨_, rfl⟩
      have HBW : Hid (Below w.heap.size w WD) := HX.out.2.1.t.bl
      by_cases h0 : pk = 0
      · subst h0
        obtain ⟨p1, p2, p3, p4, p5⟩ := HPO.out.1 rfl
        have hnn := HX.out.1 rfl
        rw [← hnn] at p1
        subst p1 p2 p3 p4
        have HNW : Hid (IsNm WD a2 N.length (nmL N)) := p5.below HX.out.2.2.2
        have c0 := (HX.out.2.1.bp.cell 0).trans rfl
        have c1 := (HX.out.2.1.bp.cell 1).trans rfl
        have c2w := (HX.out.2.2.1.bw.cell 0).trans rfl
        have c3w := (HX.out.2.2.1.bw.cell 1).trans rfl
        have b1 : (pn != pn) = false := by simp
        have b2 : (pl.toList == pl.toList) = true := by simp
        have b3 : (bb2 != bb2) = false := by simp
        have b4 : ((N.length : Int) != (N.length : Int)) = false := by simp
        have n1 : (N.length : Int) ≤ 32 := by have := HPS.out.2.2.1; omega
        have HZ : Hid (WD.cell? ⟨gP, 0, none⟩ = some (.slice pa N.length pc) ∧ WD.cell? ⟨gW, 0, none⟩ = some (.slice a2 N.length c2) ∧ IsNm WD pa N.length (nmL N) ∧ IsNm WD a2 N.length (nmL N) ∧ Below w.heap.size w WD) := ⟨c0, c2w, HX.out.2.1.nm, HNW.out, HBW.out⟩
        clear p5 hnn HNW HPO HX
        go_wp2_with fail
        clear c0 c1 c2w c3w b1 b2 b3 b4
        go_loopw [31] (fun v wr => Hid (∃ (j m : Nat), j ≤ N.length ∧ v = .int .i64 (j : Int) ∧ wr = WD.drewN m)) (fun v _ => N.length - (intOf v).toNat)
        case atStart => exact ⟨0, 0, Nat.zero_le _, rfl, rfl⟩
        case round =>
          obtain ⟨j, m, hj, rfl, rfl⟩ := Hid.out hrel
          clear hrel
          have cp0 : ∀ q, ((WD.drewN m).drewN q).cell? ⟨gP, 0, none⟩ = some (.slice pa N.length pc) := fun _ => HZ.out.1
          have cw0 : ∀ q, ((WD.drewN m).drewN q).cell? ⟨gW, 0, none⟩ = some (.slice a2 N.length c2) := fun _ => HZ.out.2.1
          have HF : Hid (∀ q, ∃ z, (WD.drewN m).drewN q = WD.drewN z) := fun q => ⟨_, World.drewN_drewN _ _ _⟩
          have cp1 := cp0 0
          have cw1 := cw0 0
          rw [World.drewN_zero] at cp1 cw1
          by_cases hjn : j < N.length
          · have i1 : (j : Int) < (N.length : Int) := by omega
            obtain ⟨g1, o1, rfl, _, h1⟩ := HZ.out.2.2.1 j hjn
            obtain ⟨g2, o2, rfl, _, h2⟩ := HZ.out.2.2.2.1 j hjn
            have d1 : ∀ q, ((WD.drewN m).drewN q).cell? ⟨g1, o1 + j, none⟩ = some (.string (nmL N j)) := fun _ => h1
            have d2' : ∀ q, ((WD.drewN m).drewN q).cell? ⟨g2, o2 + j, none⟩ = some (.string (nmL N j)) := fun _ => h2
            clear h1 h2
            generalize nmL N j = sj at *
            have hq : (sj.toList == sj.toList) = true := by simp
            generalize WD.drewN m = w3 at *
            have d3 := d1 0
            have d4 := d2' 0
            rw [World.drewN_zero] at d3 d4
            go_wp2_with fail
            go_quiet (fail)
            go_wp2_with fail
            go_roundw
            case rel =>
              obtain ⟨z, hz⟩ := HF.out nq
              exact ⟨j + 1, z, by omega, by first | rfl | go_num | simp, hz⟩
            case measure => simp [intOf]; omega
          · have i1 : ¬ ((j : Int) < (N.length : Int)) := by omega
            have HBE : Hid (∀ q, Below w.heap.size w (WD.drewN q)) := fun q => below_drewN HZ.out.2.2.2.2 q
            clear cp0 cw0 HF HZ
            go_wp2_with fail
            go_ret
            exact ⟨rfl, HBE.out _⟩
      · obtain ⟨p1, p2, p3, p4⟩ := HPO.out.2 h0
        subst p1 p2 p3 p4
        have c2w := (HX.out.2.2.1.bw.cell 0).trans rfl
        have c3w := (HX.out.2.2.1.bw.cell 1).trans rfl
        have b1 : (pk == pk) = true := by simp
        clear HX HPO
        go_wp2_with fail
        go_ret
        exact ⟨rfl, HBW.out⟩
end Go.Proofs.YtojnlmfahgeidaaGreatDoor

namespace Go.Proofs.YtojnlmfahgeidaaGreatDoor
open Go.ChangeShapes Go.WideShapes Go.ChangeAt Go.RowKit Go.Joins
set_option linter.unusedVariables false
set_option linter.unusedSimpArgs false
theorem a19cell_lt {W : World} {b o : Nat} {v : Value} (h : W.cell? ⟨b, o, none⟩ = some v) : b < W.heap.size := World.block_lt_of_cell? _ _ h
set_option maxRecDepth 100000 in
theorem open_acts19 {H : Type} {enc : TypeId × Value → H} {W : World} {a0 : Option Addr} {len cap fuel : Nat} {x : DataW H × List MemPlace}
    (hf : DataW.trod enc Tryz.prog W 0 (fun _ => true) true fuel 72 [.slice a0 len cap] = some x) (hsz : ∀ n ∈ x.1.weights Tryz.prog 72, n ≤ reachBytes) :
    ∃ (A : Nat → A19), len * 40 ≤ 140737488351232 ∧ (a0 = none → len = 0 ∧ cap = 0) ∧ (∀ i, i < len → (A i).ok) ∧ IsA19 W a0 len A := by
  rcases Deep.open_slice Tryz.underlying72 hf with ⟨hcs, hx⟩ | ⟨a, len', cap', m, n, D, Pl, hcs, _, hl, hm, hmm, hx, hel⟩
  · simp at hcs
    obtain ⟨rfl, rfl, rfl⟩ := hcs
    exact ⟨fun _ => ⟨false, false, 0, 0, ⟨#[]⟩⟩, by omega, fun _ => ⟨rfl, rfl⟩, fun i hi => absurd hi (by omega), fun i hi => absurd hi (by omega)⟩
  · simp at hcs
    obtain ⟨rfl, rfl, rfl⟩ := hcs
    subst hx
    simp only [if_true] at hmm
    subst hmm
    have hu := Tryz.underlying72
    have hby : Tryz.prog.bytesOf 143 = 40 := by kernel_rfl
    have hw0 := hsz ((((List.range len).map D).length + ((List.range (m - len)).map fun j => D (len + j)).length) * Tryz.prog.bytesOf 143) (by simp [DataW.weights, hu])
    rw [hby] at hw0
    simp only [List.length_map, List.length_range] at hw0
    have hlen4 : len * 40 ≤ 140737488351232 := by
      unfold reachBytes at hw0
      omega
    have hce : Tryz.prog.cellsOf 143 = 5 := by kernel_rfl
    have hci : Tryz.prog.cellsOf 3 = 1 := by kernel_rfl
    have hcu : Tryz.prog.cellsOf 9 = 1 := by kernel_rfl
    have hc8 : Tryz.prog.cellsOf 4 = 1 := by kernel_rfl
    have hcl2 : Tryz.prog.cellsOf 36 = 2 := by kernel_rfl
    have hsp : 0 < len → a.spot = none := fun h0 => by
      obtain ⟨cs', h1, _⟩ := hel 0 (by omega)
      rw [hce] at h1
      obtain ⟨_, hcl, hcell⟩ := World.cells?_some h1
      match cs', hcl with
      | [v0, v1, v2, v3, v4], _ => simpa [Addr.add] using World.cell?_spot (hcell 0 (by omega))
    have each : ∀ i, ∃ q : A19, i < len → q.ok ∧ ∃ b o, a = ⟨b, o, none⟩ ∧ b < W.heap.size ∧ W.rangeAt b (o + i * 5) q.cs := by
      intro i
      by_cases hi : i < len
      · obtain ⟨cs', h1, h2⟩ := hel i (by omega)
        rw [hce] at h1
        obtain ⟨_, hcl, hcell⟩ := World.cells?_some h1
        obtain ⟨xs, k, hk, hxy, _, hxl, hfs⟩ := DataW.trod_struct Tryz.underlying143 h2
        match xs, hxl, cs', hcl with
        | [y0, y1, y2, y3], _, [v0, v1, v2, v3, v4], _ =>
          have g0 := hfs 0 _ rfl
          have g1 := hfs 1 _ rfl
          have g4 := hfs 2 _ rfl
          have gl := hfs 3 _ rfl
          simp [hci, hcu, hc8, hcl2] at g0 g1 gl g4
          obtain ⟨zs, k', hk', hzy, _, hzl, hgs⟩ := DataW.trod_struct Tryz.underlying36 gl
          match zs, hzl with
          | [z0, z1], _ =>
          have g2 := hgs 0 _ rfl
          have g3 := hgs 1 _ rfl
          simp [hci, hcu] at g2 g3
          obtain ⟨p0, e0, w0⟩ := DataW.trod_bool Tryz.underlying4 g0
          obtain ⟨p1, e1, w1⟩ := DataW.trod_bool Tryz.underlying4 g1
          obtain ⟨p2, e4, _, w4⟩ := DataW.trod_int Tryz.underlying3 g4
          obtain ⟨q, e2, _, w2⟩ := DataW.trod_int Tryz.underlying3 g2
          obtain ⟨r, e3, _, w3⟩ := DataW.trod_string Tryz.underlying9 g3
          simp at e0 e1 e2 e3 e4
          subst e0 e1 e2 e3 e4
          refine ⟨⟨p0, p1, p2, q, r⟩, fun _ => ⟨⟨bounds_i64 w4, bounds_i64 w2, w3⟩, ?_⟩⟩
          have c0 := hcell 0 (by decide)
          have c1 := hcell 1 (by decide)
          have c2 := hcell 2 (by decide)
          have c3 := hcell 3 (by decide)
          have c4 := hcell 4 (by decide)
          obtain ⟨b, off, spot⟩ := a
          have hspot : spot = none := hsp (by omega)
          subst hspot
          simp only [Addr.add_mid, List.getElem?_cons_zero, List.getElem?_cons_succ] at c0 c1 c2 c3 c4
          refine ⟨b, off, rfl, a19cell_lt c0, fun j v hv => ?_⟩
          match j with
          | 0 => rw [← hv]; exact c0
          | 1 => rw [← hv]; exact c1
          | 2 => rw [← hv]; exact c2
          | 3 => rw [← hv]; exact c3
          | 4 => rw [← hv]; exact c4
          | j + 5 => simp [A19.cs] at hv
      · exact ⟨⟨false, false, 0, 0, ⟨#[]⟩⟩, fun h => absurd h hi⟩
    refine ⟨fun i => Classical.choose (each i), hlen4, fun h => by simp at h, fun i hi => (Classical.choose_spec (each i) hi).1, fun i hi => ?_⟩
    obtain ⟨b, o, rfl, h1, h2⟩ := (Classical.choose_spec (each i) hi).2
    exact ⟨b, o, rfl, h1, h2⟩
theorem open_acts19y {H : Type} {enc : TypeId × Value → H} {W : World} {a0 : Option Addr} {len cap fuel : Nat} {x : DataW H × List MemPlace}
    (hf : DataW.trod enc Tryz.prog W 0 (fun _ => true) true fuel 72 [.slice a0 len cap] = some x) (hsz : ∀ n ∈ x.1.weights Tryz.prog 72, n ≤ reachBytes) :
    ∃ (X : Nat → A19), len ≤ 9223372036854775807 ∧ ((∀ i, i < len → (X i).ok) ∧ IsA19 W a0 len X) := by
  obtain ⟨A, h1, _, h3, h4⟩ := open_acts19 hf hsz
  exact ⟨A, by omega, h3, h4⟩
end Go.Proofs.YtojnlmfahgeidaaGreatDoor
