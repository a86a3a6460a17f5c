/- A slice of deeds (three integers each) as an argument, opened: no condition but that it is one. -/
import Derived.Test.YtgcnmopgpdmocaaDoorHBiPlay
import Derived.Handy
import Derived.Test.YtgcnmopgpdmocaaDoorHBiPair
import Derived.BigRegion
import Derived.Deep.CutRange
import Derived.OpenShut
import Derived.Test.YtgcnmopgpdmocaaDoorRows
import Derived.WalkKit
import Derived.ProofKit
import Derived.Carry
import Derived.Deep.Slices
import Derived.Lib.SmallJoins
import Derived.SizedLaws

namespace Go.Proofs.YtgcnmopgpdmocaaDoor
open Go Go.RowKit
set_option linter.unusedVariables false
set_option linter.unusedSimpArgs false
section
variable {w : World} {B g n b c B' g' n' b' c' : Nat} {V W : Nat → Nat}
theorem either_unlike (w : World) (h : BM w B g n b c V) (h' : BM w B' g' n' b' c' W) (hne : n ≠ n') : Calls Tryd.prog 8 #[.pointer (some ⟨g, 0, none⟩), .pointer (some ⟨g', 0, none⟩)] w fun e w' => e = .returned (.tuple #[.pointer none, .int .i64 110]) ∧ ∃ m, w' = w.drewN m := by
  have HW := fun v => with_unlike v w h h' hne
  clear h h'
  go_enter Tryd.func8, Tryd.ntmps8
  go_wp2_with fail
  refine (HW _).mono ?_
  rintro e w1 ⟨rfl, m, rfl⟩
  go_wp2_with fail
  go_ret2
  exact ⟨rfl, m, rfl⟩
theorem less_unlike (w : World) (h : BM w B g n b c V) (h' : BM w B' g' n' b' c' W) (hne : n ≠ n') : Calls Tryd.prog 9 #[.pointer (some ⟨g, 0, none⟩), .pointer (some ⟨g', 0, none⟩)] w fun e w' => e = .returned (.tuple #[.pointer none, .int .i64 110]) ∧ ∃ m, w' = w.drewN m := by
  have HW := fun v => with_unlike v w h h' hne
  clear h h'
  go_enter Tryd.func9, Tryd.ntmps9
  go_wp2_with fail
  refine (HW _).mono ?_
  rintro e w1 ⟨rfl, m, rfl⟩
  go_wp2_with fail
  go_ret2
  exact ⟨rfl, m, rfl⟩
theorem cross_unlike (w : World) (h : BM w B g n b c V) (h' : BM w B' g' n' b' c' W) (hne : n ≠ n') : Calls Tryd.prog 10 #[.pointer (some ⟨g, 0, none⟩), .pointer (some ⟨g', 0, none⟩)] w fun e w' => e = .returned (.tuple #[.pointer none, .int .i64 110]) ∧ ∃ m, w' = w.drewN m := by
  have HW := fun v => with_unlike v w h h' hne
  clear h h'
  go_enter Tryd.func10, Tryd.ntmps10
  go_wp2_with fail
  refine (HW _).mono ?_
  rintro e w1 ⟨rfl, m, rfl⟩
  go_wp2_with fail
  go_ret2
  exact ⟨rfl, m, rfl⟩
end
theorem ba_new0 (n : Nat) (h2 : n ≤ 8192) (w : World) (B : Nat) (hB : B ≤ w.heap.size) : BA (w.alloc (.cells (va n fun _ => .bool false) 4)) B w.heap.size n n (fun _ => false) := ⟨h2, own_made1 (f := fun _ => Value.bool false) (Blk.new _ _ _) h2 _ hB⟩
def mixB (f : Bool → Bool → Bool) (F G : Nat → Bool) (j : Nat) : Nat → Bool := fun i => if i < j then f (F i) (G i) else false
theorem mixB_succ (f : Bool → Bool → Bool) (F G : Nat → Bool) (j : Nat) : (fun i => if i = j then f (F j) (G j) else mixB f F G j i) = mixB f F G (j + 1) := by
  funext i
  unfold mixB
  by_cases h : i = j
  · subst h; simp
  · rw [if_neg h]
    by_cases h3 : i < j
    · rw [if_pos h3, if_pos (by omega)]
    · rw [if_neg h3, if_neg (by omega)]
def sameTo (F G : Nat → Bool) : Nat → Bool
  | 0 => true
  | j + 1 => sameTo F G j && (F j == G j)
theorem sameTo_all (F G : Nat → Bool) : ∀ n, sameTo F G n = decide (∀ p, p < n → F p = G p)
  | 0 => by simp [sameTo]
  | n + 1 => by
    unfold sameTo
    rw [sameTo_all F G n]
    by_cases h : ∀ p, p < n + 1 → F p = G p
    · rw [decide_eq_true h, decide_eq_true (fun p hp => h p (by omega)), h n (by omega)]
      simp
    · rw [decide_eq_false h]
      by_cases h2 : ∀ p, p < n → F p = G p
      · have : F n ≠ G n := fun e => h fun p hp => by
          by_cases e2 : p = n
          · rw [e2]; exact e
          · exact h2 p (by omega)
        simp [this]
      · simp [h2]
theorem sets_put {w8 wr : World} {B1 B2 kx ky kz k k' n j : Nat} {F G : Nat → Bool} (n1 : kx ≠ ky) (n2 : kx ≠ kz) (n3 : ky ≠ kz) (hx : BA wr w8.heap.size kx n n (mixB (fun x y => x || y) F G j)) (hy : BA wr w8.heap.size ky n n (mixB (fun x y => x && !y) F G j)) (hz : BA wr w8.heap.size kz n n (mixB (fun x y => x && y) F G j)) (hb : Below w8.heap.size w8 wr) (hk : BA w8 B1 k n n F) (hk' : BA w8 B2 k' n n G) (hj : j < n) :
    BA (((wr.setCell ⟨kx, j, none⟩ (.bool (F j || G j))).setCell ⟨ky, j, none⟩ (.bool (F j && !G j))).setCell ⟨kz, j, none⟩ (.bool (F j && G j))).drew w8.heap.size kx n n (mixB (fun x y => x || y) F G (j + 1)) ∧ BA (((wr.setCell ⟨kx, j, none⟩ (.bool (F j || G j))).setCell ⟨ky, j, none⟩ (.bool (F j && !G j))).setCell ⟨kz, j, none⟩ (.bool (F j && G j))).drew w8.heap.size ky n n (mixB (fun x y => x && !y) F G (j + 1)) ∧ BA (((wr.setCell ⟨kx, j, none⟩ (.bool (F j || G j))).setCell ⟨ky, j, none⟩ (.bool (F j && !G j))).setCell ⟨kz, j, none⟩ (.bool (F j && G j))).drew w8.heap.size kz n n (mixB (fun x y => x && y) F G (j + 1)) ∧ Below w8.heap.size w8 (((wr.setCell ⟨kx, j, none⟩ (.bool (F j || G j))).setCell ⟨ky, j, none⟩ (.bool (F j && !G j))).setCell ⟨kz, j, none⟩ (.bool (F j && G j))).drew ∧ (((wr.setCell ⟨kx, j, none⟩ (.bool (F j || G j))).setCell ⟨ky, j, none⟩ (.bool (F j && !G j))).setCell ⟨kz, j, none⟩ (.bool (F j && G j))).drew.cell? ⟨k, j, none⟩ = some (.bool (F j)) ∧ (((wr.setCell ⟨kx, j, none⟩ (.bool (F j || G j))).setCell ⟨ky, j, none⟩ (.bool (F j && !G j))).setCell ⟨kz, j, none⟩ (.bool (F j && G j))).drew.cell? ⟨k', j, none⟩ = some (.bool (G j)) := by
  have hB : Below w8.heap.size w8 (((wr.setCell ⟨kx, j, none⟩ (.bool (F j || G j))).setCell ⟨ky, j, none⟩ (.bool (F j && !G j))).setCell ⟨kz, j, none⟩ (.bool (F j && G j))).drew := (((hb.setCell (p := ⟨kx, j, none⟩) hx.lt.1 _).setCell (p := ⟨ky, j, none⟩) hy.lt.1 _).setCell (p := ⟨kz, j, none⟩) hz.lt.1 _).drew
  refine ⟨?_, ?_, ?_, hB, (hk.below hB).at hj, (hk'.below hB).at hj⟩
  · rw [← mixB_succ]
    exact (((hx.put j _).only (Only.set _ ky j _) n1).only (Only.set _ kz j _) n2).dN 1
  · rw [← mixB_succ]
    exact (((hy.only (Only.set _ kx j _) (Ne.symm n1)).put j _).only (Only.set _ kz j _) n3).dN 1
  · rw [← mixB_succ]
    exact (((hz.only (Only.set _ kx j _) (Ne.symm n2)).only (Only.set _ ky j _) (Ne.symm n3)).put j _).dN 1
set_option maxRecDepth 100000 in
set_option maxHeartbeats 8000000 in
theorem sets_like (n : Nat) (h1 : 1 ≤ n) (h2 : n ≤ 8192) (a a' : Option Addr) (N cc N' cc' : Nat) (hN : N ≤ 9223372036854775807) (hN' : N' ≤ 9223372036854775807) (K A Z K' A' Z' : Nat → Int) (w : World) (h0 : 0 < w.heap.size) (hT : TabAt w) (hD : IsDeeds w a N K A Z) (hD' : IsDeeds w a' N' K' A' Z') : Calls Tryd.prog 3 #[.agg #[.int .i64 (n : Int), .int .i64 (n : Int)], .slice a N cc, .slice a' N' cc'] w fun e w' => e = .returned (.bool true) ∧ Below w.heap.size w w' := by
  have hb1 : Below w.heap.size w ((w.alloc (.cells #[.int .i64 (n : Int), .int .i64 (n : Int)] 22))) := below_new1 _ _
  have hk : Blk (w.alloc (.cells #[.int .i64 (n : Int), .int .i64 (n : Int)] 22)) w.heap.size 22 #[.int .i64 (n : Int), .int .i64 (n : Int)] := Blk.new _ _ _
  have k0 : (w.alloc (.cells #[.int .i64 (n : Int), .int .i64 (n : Int)] 22)).cell? ⟨w.heap.size, 0, none⟩ = some (.int .i64 (n : Int)) := by rw [hk.cell]; rfl
  have k1 : (w.alloc (.cells #[.int .i64 (n : Int), .int .i64 (n : Int)] 22)).cell? ⟨w.heap.size, 1, none⟩ = some (.int .i64 (n : Int)) := by rw [hk.cell]; rfl
  have HT : Hid (TabAt w) := hT
  have HD : Hid (∀ V, Below w.heap.size w V → IsDeeds V a N K A Z ∧ IsDeeds V a' N' K' A' Z') := fun V hV => ⟨hD.below hV, hD'.below hV⟩
  clear hD hD' hT hk
  go_enter Tryd.func3, Tryd.ntmps3
  go_wp2_with fail
  go_quiet (fail)
  have hb2 : Below w.heap.size w ((w.alloc (.cells #[.int .i64 (n : Int), .int .i64 (n : Int)] 22)).drewN nq) := below_dN hb1 nq
  clear k0 k1 hb1
  generalize (w.alloc (.cells #[.int .i64 (n : Int), .int .i64 (n : Int)] 22)).drewN nq = w2 at *
  have HP := played_ok h1 h2 a N cc hN K A Z w2 (HD.out w2 hb2).1
  go_wp2_with fail
  refine HP.mono ?_
  rintro e w3 ⟨g, k, rfl, ⟨b, c, V, hM3⟩, hb3⟩
  have hbw3 : Below w.heap.size w w3 := hb2.trans (hb3.mono hb2.size)
  have HP' := played_ok h1 h2 a' N' cc' hN' K' A' Z' w3 (HD.out w3 hbw3).2
  clear HP hb3 hb2
  go_wp2_with fail
  refine HP'.mono ?_
  rintro e w4 ⟨g', k', rfl, ⟨b', c', W, hN4⟩, hb4⟩
  have hM4 := hM3.below hb4
  have hbw4 : Below w.heap.size w w4 := hbw3.trans (hb4.mono hbw3.size)
  clear HP' hM3 hbw3 HD
  go_wp2_with fail
  refine (awake11_any _).mono ?_
  rintro e w5 ⟨rfl, hb5⟩
  have hM5 := hM4.below hb5
  have hN5 := hN4.below hb5
  have hbw5 : Below w.heap.size w w5 := hbw4.trans (hb5.mono hbw4.size)
  have HE := either_like w5 hM5.m hN5.m
  clear hM4 hN4 hb4 hb5 hbw4
  have HM : Hid (MK w5 w2.heap.size g n b c k V) := hM5
  have HN : Hid (MK w5 w3.heap.size g' n b' c' k' W) := hN5
  clear hM5 hN5
  go_wp2_with fail
  refine HE.mono ?_
  rintro e w6 ⟨ga, rfl, ⟨ba, ca, Ua, hA6, hUa⟩, hb6⟩
  have HL := less_like w6 (HM.out.below hb6).m (HN.out.below hb6).m
  have HA : Hid (BM w6 w5.heap.size ga n ba ca Ua ∧ ∀ p, bitF Ua p = (bitF V p || bitF W p)) := ⟨hA6, hUa⟩
  clear HE hA6 hUa
  go_wp2_with fail
  refine HL.mono ?_
  rintro e w7 ⟨gb, rfl, ⟨bb, cb, Ub, hB7, hUb⟩, hb7⟩
  have hb57 : Below w5.heap.size w5 w7 := hb6.trans (hb7.mono hb6.size)
  have HC := cross_like w7 (HM.out.below hb57).m (HN.out.below hb57).m
  have HB : Hid (BM w7 w6.heap.size gb n bb cb Ub ∧ ∀ p, bitF Ub p = (bitF V p && !bitF W p)) := ⟨hB7, hUb⟩
  clear HL hB7 hUb
  go_wp2_with fail
  refine HC.mono ?_
  rintro e w8 ⟨gc, rfl, ⟨bc, cc2, Uc, hC8, hUc⟩, hb8⟩
  have hb58 : Below w5.heap.size w5 w8 := hb57.trans (hb8.mono hb57.size)
  have FA : Hid (MK w8 w2.heap.size g n b c k V ∧ MK w8 w3.heap.size g' n b' c' k' W ∧ BM w8 w5.heap.size ga n ba ca Ua ∧ (∀ p, bitF Ua p = (bitF V p || bitF W p)) ∧ BM w8 w6.heap.size gb n bb cb Ub ∧ (∀ p, bitF Ub p = (bitF V p && !bitF W p)) ∧ BM w8 w7.heap.size gc n bc cc2 Uc ∧ (∀ p, bitF Uc p = (bitF V p && bitF W p)) ∧ Below w.heap.size w w8 ∧ (g < w5.heap.size ∧ b < w5.heap.size ∧ k < w5.heap.size ∧ g' < w5.heap.size ∧ b' < w5.heap.size ∧ k' < w5.heap.size ∧ w5.heap.size ≤ w6.heap.size ∧ ba < w6.heap.size ∧ w.heap.size ≤ w5.heap.size)) :=
    ⟨HM.out.below hb58, HN.out.below hb58, HA.out.1.below (hb7.trans (hb8.mono hb7.size)), HA.out.2, HB.out.1.below hb8, HB.out.2, hC8, hUc, hbw5.trans (hb58.mono hbw5.size), HM.out.m.glt, HM.out.m.blt.2, HM.out.a.lt.2, HN.out.m.glt, HN.out.m.blt.2, HN.out.a.lt.2, hb6.size, HA.out.1.blt.2, hbw5.size⟩
  clear HC hC8 hUc hb58 hb57 hb8 hb7 hb6 HA HB HM HN hbw5
  have hmk := make_bools n h2
  have hnn : ¬ ((n : Int) < 0) := by omega
  go_wp2_with fail
  rename_i Q1 K1 a1
  have REST : ∀ (Y : World) (kx ky kz : Nat), BA Y w8.heap.size kx n n (fun _ => false) → BA Y w8.heap.size ky n n (fun _ => false) → BA Y w8.heap.size kz n n (fun _ => false) → kx ≠ ky → kx ≠ kz → ky ≠ kz → Below w8.heap.size w8 Y → K1 { tmps := #[Value.agg #[Value.int IntKind.i64 (n : Int), Value.int IntKind.i64 (n : Int)], Value.slice a N cc, Value.slice a' N' cc', Value.pointer (some ⟨w.heap.size, 0, none⟩), undef, undef, Value.bool false, Value.int IntKind.i64 (n : Int), Value.int IntKind.i64 (n : Int), Value.pointer (some ⟨g, 0, none⟩), Value.slice (some ⟨k, 0, none⟩) n n, Value.bool true, Value.pointer (some ⟨g', 0, none⟩), Value.slice (some ⟨k', 0, none⟩) n n, Value.bool true, Value.pointer (some ⟨ga, 0, none⟩), Value.int IntKind.i64 0, Value.pointer (some ⟨gb, 0, none⟩), Value.int IntKind.i64 0, Value.pointer (some ⟨gc, 0, none⟩), Value.int IntKind.i64 0, .slice (some ⟨kx, 0, none⟩) n n, .slice (some ⟨ky, 0, none⟩) n n, .slice (some ⟨kz, 0, none⟩) n n, .bool true, undef, Value.pointer (some ⟨w.heap.size, 0, none⟩), Value.int IntKind.i64 (n : Int), Value.pointer (some ⟨w.heap.size, 1, none⟩), Value.int IntKind.i64 (n : Int), Value.tuple #[Value.pointer (some ⟨g, 0, none⟩), Value.slice (some ⟨k, 0, none⟩) n n, Value.bool true], Value.int IntKind.i64 (n : Int), Value.slice a N cc, Value.tuple #[Value.pointer (some ⟨g, 0, none⟩), Value.slice (some ⟨k, 0, none⟩) n n, Value.bool true], Value.pointer (some ⟨g, 0, none⟩), Value.slice (some ⟨k, 0, none⟩) n n, Value.bool true, Value.tuple #[Value.pointer (some ⟨g', 0, none⟩), Value.slice (some ⟨k', 0, none⟩) n n, Value.bool true], Value.int IntKind.i64 (n : Int), Value.slice a' N' cc', Value.tuple #[Value.pointer (some ⟨g', 0, none⟩), Value.slice (some ⟨k', 0, none⟩) n n, Value.bool true], Value.pointer (some ⟨g', 0, none⟩), Value.slice (some ⟨k', 0, none⟩) n n, Value.bool true, Value.bool true, Value.bool false, Value.bool false, Value.bool true, Value.bool false, Value.bool false, Value.bool false, Value.bool true, Value.bool false, Value.bool false, Value.bool false, Value.pointer (some ⟨g, 0, none⟩), Value.bool false, Value.bool false, Value.bool false, Value.pointer (some ⟨g', 0, none⟩), Value.bool false, Value.bool false, undef, undef, undef, undef, undef, undef, undef, Value.tuple #[Value.pointer (some ⟨ga, 0, none⟩), Value.int IntKind.i64 0], Value.pointer (some ⟨g, 0, none⟩), Value.pointer (some ⟨g', 0, none⟩), Value.tuple #[Value.pointer (some ⟨ga, 0, none⟩), Value.int IntKind.i64 0], Value.pointer (some ⟨ga, 0, none⟩), Value.int IntKind.i64 0, Value.tuple #[Value.pointer (some ⟨gb, 0, none⟩), Value.int IntKind.i64 0], Value.pointer (some ⟨g, 0, none⟩), Value.pointer (some ⟨g', 0, none⟩), Value.tuple #[Value.pointer (some ⟨gb, 0, none⟩), Value.int IntKind.i64 0], Value.pointer (some ⟨gb, 0, none⟩), Value.int IntKind.i64 0, Value.tuple #[Value.pointer (some ⟨gc, 0, none⟩), Value.int IntKind.i64 0], Value.pointer (some ⟨g, 0, none⟩), Value.pointer (some ⟨g', 0, none⟩), Value.tuple #[Value.pointer (some ⟨gc, 0, none⟩), Value.int IntKind.i64 0], Value.pointer (some ⟨gc, 0, none⟩), Value.int IntKind.i64 0, Value.int IntKind.i64 (n : Int), Value.int IntKind.i64 (n : Int), Value.bool false, undef, undef, undef, undef, undef, undef, undef, undef, undef, undef, undef, undef, undef, undef, undef, undef, undef, undef, undef, undef, undef, undef, undef, undef, undef, undef, undef, undef, .int .i64 (n : Int), .slice (some ⟨kx, 0, none⟩) n n, .int .i64 (n : Int), .slice (some ⟨ky, 0, none⟩) n n, .int .i64 (n : Int), .slice (some ⟨kz, 0, none⟩) n n, undef, undef, undef, undef, undef, undef, undef, undef, undef, undef, undef, undef, undef, undef, undef, undef, undef, undef, undef, undef, undef, undef, undef, undef, undef, undef, undef, undef, undef, undef, undef, undef, undef, undef, undef, undef, undef, undef, undef, undef, undef, undef, undef, undef, undef, undef, undef, undef, undef, undef, undef, undef, undef, undef, undef, undef, undef, undef, undef, undef, undef, undef, undef, undef, undef, undef, undef, undef, undef, undef, undef, undef, undef, undef, undef, undef, undef, undef, undef, undef, undef, undef, undef, undef, undef, undef, undef, undef, undef, undef, undef, undef, undef, undef, undef, undef, undef, undef, undef, undef, undef, undef, undef, undef, undef, undef, undef, undef, undef, undef, undef, undef, undef, undef, undef, undef, undef, undef, undef, undef, undef], defers := [] } Y := by
    intro Y kx ky kz hx hy hz n1 n2 n3 hbY
    refine a1 _ _ ?_
    have HBY : Hid (Below w8.heap.size w8 Y) := hbY
    have HX : Hid (BA Y w8.heap.size kx n n (mixB (fun x y => x || y) (bitF V) (bitF W) 0) ∧ BA Y w8.heap.size ky n n (mixB (fun x y => x && !y) (bitF V) (bitF W) 0) ∧ BA Y w8.heap.size kz n n (mixB (fun x y => x && y) (bitF V) (bitF W) 0)) := ⟨hx, hy, hz⟩
    clear hbY hx hy hz hmk a1
    go_wp2_with fail
    go_loopw [24, 25] (fun s t wr => Hid (∃ j : Nat, j ≤ n ∧ t = .int .i64 (j : Int) ∧ s = .bool (sameTo (bitF V) (bitF W) j) ∧ BA wr w8.heap.size kx n n (mixB (fun x y => x || y) (bitF V) (bitF W) j) ∧ BA wr w8.heap.size ky n n (mixB (fun x y => x && !y) (bitF V) (bitF W) j) ∧ BA wr w8.heap.size kz n n (mixB (fun x y => x && y) (bitF V) (bitF W) j) ∧ Below w8.heap.size w8 wr)) (fun _ t _ => n - (intOf t).toNat)
    case atStart => exact ⟨0, by omega, rfl, rfl, HX.out.1, HX.out.2.1, HX.out.2.2, HBY.out⟩
    case round =>
      clear HX HBY
      obtain ⟨j, hj, rfl, rfl, hx, hy, hz, hb⟩ := Hid.out hrel
      by_cases hlt : j < n
      · have j1 : (j : Int) < (n : Int) := by omega
        have j0 : (0 : Int) ≤ (j : Int) := by omega
        have hk := (FA.out.1.below hb).a.at hlt
        have hk' := (FA.out.2.1.below hb).a.at hlt
        have HR : Hid (_ ∧ _ ∧ _ ∧ _) := ⟨hx, hy, hz, hb⟩
        have cx := hx.at hlt
        have cy := hy.at hlt
        have cz := hz.at hlt
        have fx := hx.frozen j
        have fy := hy.frozen j
        have fz := hz.frozen j
        have FB : Hid (BA w8 w2.heap.size k n n (bitF V) ∧ BA w8 w3.heap.size k' n n (bitF W)) := ⟨FA.out.1.a, FA.out.2.1.a⟩
        clear hx hy hz hb FA HT
        go_wp2_with fail
        have HS : Hid (_ ∧ _ ∧ _ ∧ _ ∧ _ ∧ _) := sets_put n1 n2 n3 HR.out.1 HR.out.2.1 HR.out.2.2.1 HR.out.2.2.2 FB.out.1 FB.out.2 hlt
        have HSM : Hid ((sameTo (bitF V) (bitF W) j && (bitF V j == bitF W j)) = sameTo (bitF V) (bitF W) (j + 1)) := rfl
        have HJ : Hid (j < n ∧ n ≤ 8192) := ⟨hlt, h2⟩
        clear HR
        go_cut [24, 25] from 124 to 180 (fun s t wx => s = .bool (sameTo (bitF V) (bitF W) j) ∧ t = .int .i64 (j : Int) ∧ Hid (BA wx w8.heap.size kx n n (mixB (fun x y => x || y) (bitF V) (bitF W) (j + 1)) ∧ BA wx w8.heap.size ky n n (mixB (fun x y => x && !y) (bitF V) (bitF W) (j + 1)) ∧ BA wx w8.heap.size kz n n (mixB (fun x y => x && y) (bitF V) (bitF W) (j + 1)) ∧ Below w8.heap.size w8 wx ∧ wx.cell? ⟨k, j, none⟩ = some (.bool (bitF V j)) ∧ wx.cell? ⟨k', j, none⟩ = some (.bool (bitF W j))))
        case first =>
          clear HSM HJ
          generalize sameTo (bitF V) (bitF W) j = sm at *
          generalize bitF V j = x at *
          generalize bitF W j = y at *
          cases x <;> cases y
          · go_region
            go_wp2_with fail
            go_meet
            exact ⟨rfl, rfl, HS.out⟩
          · go_region
            go_wp2_with fail
            go_meet
            exact ⟨rfl, rfl, HS.out⟩
          · go_region
            go_wp2_with fail
            go_meet
            exact ⟨rfl, rfl, HS.out⟩
          · go_region
            go_wp2_with fail
            go_meet
            exact ⟨rfl, rfl, HS.out⟩
        case rest =>
          clear HS cx cy cz fx fy fz hk hk'
          obtain ⟨rfl, rfl, HC⟩ := hcut
          have ek := HC.out.2.2.2.2.1
          have ek' := HC.out.2.2.2.2.2
          go_wp2_with fail
          have HE : Hid (∀ m, _) := fun m => (⟨HC.out.1.dN m, HC.out.2.1.dN m, HC.out.2.2.1.dN m, below_dN HC.out.2.2.2.1 m⟩ : BA (wc.drewN m) w8.heap.size kx n n (mixB (fun x y => x || y) (bitF V) (bitF W) (j + 1)) ∧ BA (wc.drewN m) w8.heap.size ky n n (mixB (fun x y => x && !y) (bitF V) (bitF W) (j + 1)) ∧ BA (wc.drewN m) w8.heap.size kz n n (mixB (fun x y => x && y) (bitF V) (bitF W) (j + 1)) ∧ Below w8.heap.size w8 (wc.drewN m))
          clear HC
          generalize sameTo (bitF V) (bitF W) j = sm at *
          generalize bitF V j = x at *
          generalize bitF W j = y at *
          cases sm <;> cases x <;> cases y
          all_goals
            go_quiet (fail)
            have HD := HE.out nq
            have HD' : Hid (_ ∧ _ ∧ _ ∧ _) := HD
            clear HE HD ek ek' n1 n2 n3 FB
            generalize World.drewN _ nq = w9 at *
            go_wp2_with fail
            go_roundw
            case rel => exact ⟨j + 1, HJ.out.1, by first | rfl | go_num | simp, congrArg Value.bool HSM.out, HD'.out.1, HD'.out.2.1, HD'.out.2.2.1, HD'.out.2.2.2⟩
            case measure => simp [intOf]; have := HJ.out; omega
      · obtain rfl : j = n := by omega
        have j1 : ¬ ((j : Int) < (j : Int)) := by omega
        obtain ⟨f1, f2, f3, f4, f5, f6, f7, f8, f9, f10⟩ := FA.out
        have m1 := f1.below hb
        have m2 := f2.below hb
        have m3 := f3.below hb
        have m5 := f5.below hb
        have m7 := f7.below hb
        have hbw : Below w.heap.size w wr := f9.trans (hb.mono f9.size)
        have qx : BA wr w8.heap.size kx j j (bitF Ua) := hx.congr fun i hi => by rw [f4]; unfold mixB; rw [if_pos hi]
        have qy : BA wr w8.heap.size ky j j (bitF Ub) := hy.congr fun i hi => by rw [f6]; unfold mixB; rw [if_pos hi]
        have qz : BA wr w8.heap.size kz j j (bitF Uc) := hz.congr fun i hi => by rw [f8]; unfold mixB; rw [if_pos hi]
        rw [sameTo_all]
        have HSA := same_like wr m1.m m2.m
        have HALL : Hid (_ ∧ _ ∧ _ ∧ _ ∧ _ ∧ _ ∧ _ ∧ _ ∧ _) := ⟨m1, m2, m3, m5, m7, qx, qy, qz, hbw⟩
        have HBL : Hid (_) := f10
        clear hx hy hz hb FA f1 f2 f3 f4 f5 f6 f7 f8 f9 f10 m1 m2 m3 m5 m7 qx qy qz hbw n1 n2 n3
        generalize (decide (∀ p, p < j → bitF V p = bitF W p)) = sm at *
        go_wp2_with fail
        refine HSA.mono ?_
        rintro e w9 ⟨rfl, m9, rfl⟩
        obtain ⟨m1, m2, m3, m5, m7, qx, qy, qz, hbw⟩ := HALL.out
        have HALL9 : Hid (_ ∧ _ ∧ _ ∧ _ ∧ _ ∧ _ ∧ _ ∧ _ ∧ _) := ⟨m1.dN m9, m2.dN m9, m3.dN m9, m5.dN m9, m7.dN m9, qx.dN m9, qy.dN m9, qz.dN m9, below_dN hbw m9⟩
        have HCL := bclone_any _ (m1.dN m9).m
        clear HALL HSA m1 m2 m3 m5 m7 qx qy qz hbw
        generalize wr.drewN m9 = w9 at *
        have TAIL : Hid (∀ wX : World, Below w9.heap.size w9 wX → (MK wX w2.heap.size g j b c k V) ∧ (MK wX w3.heap.size g' j b' c' k' W) ∧ (BM wX w5.heap.size ga j ba ca Ua) ∧ (BM wX w6.heap.size gb j bb cb Ub) ∧ (BM wX w7.heap.size gc j bc cc2 Uc) ∧ BA wX w8.heap.size kx j j (bitF Ua) ∧ BA wX w8.heap.size ky j j (bitF Ub) ∧ BA wX w8.heap.size kz j j (bitF Uc) ∧ Below w.heap.size w wX) := fun wX hX => by
          obtain ⟨m1, m2, m3, m5, m7, qx, qy, qz, hbw⟩ := HALL9.out
          exact ⟨m1.below hX, m2.below hX, m3.below hX, m5.below hX, m7.below hX, qx.below hX, qy.below hX, qz.below hX, hbw.trans (hX.mono hbw.size)⟩
        clear HALL9
        cases sm
        all_goals
          go_wp2_with fail
          refine HCL.mono ?_
          rintro e w10 ⟨g5, b5, c5, rfl, hM10, hb10⟩
          have HSB : Hid (Calls Tryd.prog 11 #[.pointer (some ⟨g, 0, none⟩), .pointer (some ⟨g5, 0, none⟩)] w10 fun e w' => e = .returned (.bool true) ∧ ∃ m, w' = w10.drewN m) := by
            have := same_like w10 (TAIL.out w10 hb10).1.m hM10
            rwa [decide_eq_true (fun p _ => rfl)] at this
          have HB10 : Hid (Below w9.heap.size w9 w10) := hb10
          clear hM10 hb10
          go_wp2_with fail
          refine HSB.out.mono ?_
          rintro e w11 ⟨rfl, m11, rfl⟩
          have hb11 : Below w9.heap.size w9 (w10.drewN m11) := below_dN HB10.out m11
          clear HSB HB10
          generalize w10.drewN m11 = w11 at *
          have HX1 := says_any w11 (Nat.lt_of_lt_of_le h0 (TAIL.out w11 hb11).2.2.2.2.2.2.2.2.size) (HT.out.below h0 (TAIL.out w11 hb11).2.2.2.2.2.2.2.2) (TAIL.out w11 hb11).2.2.1 (TAIL.out w11 hb11).2.2.2.2.2.1 0
          go_wp2_with fail
          refine HX1.mono ?_
          rintro e w12 ⟨rfl, hb12⟩
          replace hb11 := hb11.trans (hb12.mono hb11.size)
          clear HX1 hb12
          have HX2 := says_any w12 (Nat.lt_of_lt_of_le h0 (TAIL.out w12 hb11).2.2.2.2.2.2.2.2.size) (HT.out.below h0 (TAIL.out w12 hb11).2.2.2.2.2.2.2.2) (TAIL.out w12 hb11).2.2.2.1 (TAIL.out w12 hb11).2.2.2.2.2.2.1 0
          go_wp2_with fail
          refine HX2.mono ?_
          rintro e w13 ⟨rfl, hb13⟩
          replace hb11 := hb11.trans (hb13.mono hb11.size)
          clear HX2 hb13
          have HX3 := says_any w13 (Nat.lt_of_lt_of_le h0 (TAIL.out w13 hb11).2.2.2.2.2.2.2.2.size) (HT.out.below h0 (TAIL.out w13 hb11).2.2.2.2.2.2.2.2) (TAIL.out w13 hb11).2.2.2.2.1 (TAIL.out w13 hb11).2.2.2.2.2.2.2.1 0
          go_wp2_with fail
          refine HX3.mono ?_
          rintro e w14 ⟨rfl, hb14⟩
          replace hb11 := hb11.trans (hb14.mono hb11.size)
          clear HX3 hb14
          obtain ⟨m1, m2, m3, m5, _, _, _, _, hbw⟩ := TAIL.out w14 hb11
          have hq := HBL.out
          have a1 := m3.blt.1
          have a2 := m3.gB
          have a3 := m5.blt.1
          have a4 := m5.gB
          have HSE : Hid (Calls Tryd.prog 14 #[.pointer (some ⟨ga, 0, none⟩), .int .i64 0] w14 fun e w' => (∃ v, e = .returned v) ∧ BM w' w6.heap.size gb j bb cb Ub ∧ MK w' w2.heap.size g j b c k V ∧ MK w' w3.heap.size g' j b' c' k' W ∧ Below w.heap.size w w') := by
            refine (set_in w14 m3 0 (by omega)).mono ?_
            rintro e w' ⟨rfl, hM, hO⟩
            have hgl := (⟨by omega, by omega⟩ : ba ≠ gb ∧ ba ≠ bb)
            exact ⟨⟨_, rfl⟩, m5.only hO hgl.1 hgl.2, ⟨m1.m.only hO (by omega) (by omega), m1.a.only hO (by omega)⟩, ⟨m2.m.only hO (by omega) (by omega), m2.a.only hO (by omega)⟩, hbw.trans (hO.below hbw.size (by have := hbw.size; omega))⟩
          clear m1 m2 m3 m5 hbw TAIL hb11
          go_wp2_with fail
          refine HSE.out.mono ?_
          rintro e w15 ⟨⟨v15, rfl⟩, m5, m1, m2, hbw⟩
          have HCE : Hid (Calls Tryd.prog 15 #[.pointer (some ⟨gb, 0, none⟩), .int .i64 0] w15 fun e w' => (∃ v, e = .returned v) ∧ MK w' w2.heap.size g j b c k V ∧ MK w' w3.heap.size g' j b' c' k' W ∧ Below w.heap.size w w') := by
            refine (clear_in w15 m5 0 (by omega)).mono ?_
            rintro e w' ⟨rfl, hM, hO⟩
            exact ⟨⟨_, rfl⟩, ⟨m1.m.only hO (by omega) (by omega), m1.a.only hO (by omega)⟩, ⟨m2.m.only hO (by omega) (by omega), m2.a.only hO (by omega)⟩, hbw.trans (hO.below hbw.size (by omega))⟩
          clear m1 m2 m5 hbw HSE
          go_wp2_with fail
          refine HCE.out.mono ?_
          rintro e w16 ⟨⟨v16, rfl⟩, m1, m2, hbw⟩
          have HY1 := says_any w16 (Nat.lt_of_lt_of_le h0 hbw.size) (HT.out.below h0 hbw) m1.m m1.a 0
          have HM2 : Hid (MK w16 w3.heap.size g' j b' c' k' W) := m2
          clear m1 m2 HCE
          go_wp2_with fail
          refine HY1.mono ?_
          rintro e w17 ⟨rfl, hb17⟩
          have m2 := HM2.out.below hb17
          replace hbw := hbw.trans (hb17.mono hbw.size)
          have HY2 := says_any w17 (Nat.lt_of_lt_of_le h0 hbw.size) (HT.out.below h0 hbw) m2.m m2.a 0
          clear HY1 hb17 m2 HM2
          go_wp2_with fail
          refine HY2.mono ?_
          rintro e w18 ⟨rfl, hb18⟩
          replace hbw := hbw.trans (hb18.mono hbw.size)
          go_wp2_with fail
          go_ret
          exact ⟨rfl, hbw⟩
  clear a1 FA HT
  have D0 : BA (w8.alloc (.cells (va n fun _ => .bool false) 4)) w8.heap.size w8.heap.size n n (fun _ => false) := ba_new0 n h2 w8 _ (Nat.le_refl _)
  have D1 : BA ((w8.alloc (.cells (va n fun _ => .bool false) 4)).alloc (.cells (va n fun _ => .bool false) 4)) w8.heap.size (w8.heap.size + 1) n n (fun _ => false) := by
    have := ba_new0 n h2 (w8.alloc (.cells (va n fun _ => .bool false) 4)) w8.heap.size (by simp)
    rwa [World.size_alloc] at this
  have D2 : BA (((w8.alloc (.cells (va n fun _ => .bool false) 4)).alloc (.cells (va n fun _ => .bool false) 4)).alloc (.cells (va n fun _ => .bool false) 4)) w8.heap.size (w8.heap.size + 1 + 1) n n (fun _ => false) := by
    have := ba_new0 n h2 ((w8.alloc (.cells (va n fun _ => .bool false) 4)).alloc (.cells (va n fun _ => .bool false) 4)) w8.heap.size (by simp; omega)
    rwa [World.size_alloc, World.size_alloc] at this
  have E0 : BA (((w8.alloc (.cells (va n fun _ => .bool false) 4)).alloc (.cells (va n fun _ => .bool false) 4)).alloc (.cells (va n fun _ => .bool false) 4)).drew w8.heap.size w8.heap.size n n (fun _ => false) := ((D0.below (below_new1 _ (.cells (va n fun _ => .bool false) 4))).below (below_new1 _ (.cells (va n fun _ => .bool false) 4))).dN 1
  have E1 : BA (((w8.alloc (.cells (va n fun _ => .bool false) 4)).alloc (.cells (va n fun _ => .bool false) 4)).alloc (.cells (va n fun _ => .bool false) 4)).drew w8.heap.size (w8.heap.size + 1) n n (fun _ => false) := (D1.below (below_new1 _ (.cells (va n fun _ => .bool false) 4))).dN 1
  have E2 : BA (((w8.alloc (.cells (va n fun _ => .bool false) 4)).alloc (.cells (va n fun _ => .bool false) 4)).alloc (.cells (va n fun _ => .bool false) 4)).drew w8.heap.size (w8.heap.size + 1 + 1) n n (fun _ => false) := D2.dN 1
  have E3 : Below w8.heap.size w8 (((w8.alloc (.cells (va n fun _ => .bool false) 4)).alloc (.cells (va n fun _ => .bool false) 4)).alloc (.cells (va n fun _ => .bool false) 4)).drew := ((((Below.refl _ w8).alloc (Nat.le_refl _) _).alloc (by simp) _).alloc (by simp; omega) _).drew
  have EE : Hid (_ ∧ _ ∧ _ ∧ _) := ⟨E0, E1, E2, E3⟩
  clear D0 D1 D2 E0 E1 E2 E3
  go_region
  all_goals
    obtain ⟨E0, E1, E2, E3⟩ := EE.out
    first
    | exact REST _ _ _ _ E0 E1 E2 (by omega) (by omega) (by omega) E3
    | exact REST _ _ _ _ E0 E2 E1 (by omega) (by omega) (by omega) E3
    | exact REST _ _ _ _ E1 E0 E2 (by omega) (by omega) (by omega) E3
    | exact REST _ _ _ _ E1 E2 E0 (by omega) (by omega) (by omega) E3
    | exact REST _ _ _ _ E2 E0 E1 (by omega) (by omega) (by omega) E3
    | exact REST _ _ _ _ E2 E1 E0 (by omega) (by omega) (by omega) E3
end Go.Proofs.YtgcnmopgpdmocaaDoor

namespace Go.Proofs.YtgcnmopgpdmocaaDoor
open Go Go.RowKit Go.ChangeShapes
set_option linter.unusedVariables false
set_option linter.unusedSimpArgs false
/-- what played answers: of no map, or of one -/
def Pd (w' : World) (B : Nat) (p : Int) (mv kv : Value) : Prop := ((p < 1 ∨ 8192 < p) ∧ mv = .pointer none ∧ kv = .slice none 0 0) ∨ (∃ (n g k b c : Nat) (V : Nat → Nat), p = (n : Int) ∧ 1 ≤ n ∧ n ≤ 8192 ∧ mv = .pointer (some ⟨g, 0, none⟩) ∧ kv = .slice (some ⟨k, 0, none⟩) n n ∧ MK w' B g n b c k V)
theorem played_any (p : Int) (a : Option Addr) (N cc : Nat) (hN : N ≤ 9223372036854775807) (K A Z : Nat → Int) (w : World) (hD : IsDeeds w a N K A Z) : Calls Tryd.prog 6 #[.int .i64 p, .slice a N cc] w fun e w' => ∃ mv kv, e = .returned (.tuple #[mv, kv, .bool true]) ∧ Pd w' w.heap.size p mv kv ∧ Below w.heap.size w w' := by
  by_cases hp : p < 1 ∨ 8192 < p
  · refine (played_no p hp _ w).mono ?_
    rintro e w' ⟨rfl, rfl⟩
    exact ⟨_, _, rfl, .inl ⟨hp, rfl, rfl⟩, Below.refl _ _⟩
  · obtain ⟨n, rfl⟩ := Int.eq_ofNat_of_zero_le (a := p) (by omega)
    refine (played_ok (n := n) (by omega) (by omega) a N cc hN K A Z w hD).mono ?_
    rintro e w' ⟨g, k, rfl, ⟨b, c, V, hM⟩, hb⟩
    exact ⟨_, _, rfl, .inr ⟨n, g, k, b, c, V, rfl, by omega, by omega, rfl, rfl, hM⟩, hb⟩
set_option maxRecDepth 100000 in
set_option maxHeartbeats 8000000 in
theorem sets_other (p q : Int) (hpq : p ≠ q ∨ p < 1 ∨ 8192 < p) (a a' : Option Addr) (N cc N' cc' : Nat) (hN : N ≤ 9223372036854775807) (hN' : N' ≤ 9223372036854775807) (K A Z K' A' Z' : Nat → Int) (w : World) (h0 : 0 < w.heap.size) (hT : TabAt w) (hD : IsDeeds w a N K A Z) (hD' : IsDeeds w a' N' K' A' Z') : Calls Tryd.prog 3 #[.agg #[.int .i64 p, .int .i64 q], .slice a N cc, .slice a' N' cc'] w fun e w' => e = .returned (.bool true) ∧ Below w.heap.size w w' := by
  have hb1 : Below w.heap.size w ((w.alloc (.cells #[.int .i64 p, .int .i64 q] 22))) := below_new1 _ _
  have hk : Blk (w.alloc (.cells #[.int .i64 p, .int .i64 q] 22)) w.heap.size 22 #[.int .i64 p, .int .i64 q] := Blk.new _ _ _
  have k0 : (w.alloc (.cells #[.int .i64 p, .int .i64 q] 22)).cell? ⟨w.heap.size, 0, none⟩ = some (.int .i64 p) := by rw [hk.cell]; rfl
  have k1 : (w.alloc (.cells #[.int .i64 p, .int .i64 q] 22)).cell? ⟨w.heap.size, 1, none⟩ = some (.int .i64 q) := by rw [hk.cell]; rfl
  have HD : Hid (∀ V, Below w.heap.size w V → IsDeeds V a N K A Z ∧ IsDeeds V a' N' K' A' Z') := fun V hV => ⟨hD.below hV, hD'.below hV⟩
  have HPQ : Hid (p ≠ q ∨ p < 1 ∨ 8192 < p) := hpq
  clear hD hD' hT hk hpq
  go_enter Tryd.func3, Tryd.ntmps3
  go_wp2_with fail
  go_quiet (fail)
  have hb2 : Below w.heap.size w ((w.alloc (.cells #[.int .i64 p, .int .i64 q] 22)).drewN nq) := below_dN hb1 nq
  clear k0 k1 hb1
  generalize (w.alloc (.cells #[.int .i64 p, .int .i64 q] 22)).drewN nq = w2 at *
  have HP := played_any p a N cc hN K A Z w2 (HD.out w2 hb2).1
  go_wp2_with fail
  refine HP.mono ?_
  rintro e w3 ⟨mv, kv, rfl, hM3, hb3⟩
  have hbw3 : Below w.heap.size w w3 := hb2.trans (hb3.mono hb2.size)
  have HP' := played_any q a' N' cc' hN' K' A' Z' w3 (HD.out w3 hbw3).2
  have HM3 : Hid (Pd w3 w2.heap.size p mv kv) := hM3
  clear HP hb3 hb2 hM3
  go_wp2_with fail
  refine HP'.mono ?_
  rintro e w4 ⟨mv', kv', rfl, hN4, hb4⟩
  have hbw4 : Below w.heap.size w w4 := hbw3.trans (hb4.mono hbw3.size)
  clear HP' hbw3 HD
  rcases HM3.out with ⟨hp, rfl, rfl⟩ | ⟨n, g, k, b, c, V, rfl, hn1, hn2, rfl, rfl, hM⟩
  · clear hN4 HM3 HPQ hb4 hp
    go_wp2_with fail
    refine (awake11_any _).mono ?_
    rintro e w5 ⟨rfl, hb5⟩
    have hbw5 : Below w.heap.size w w5 := hbw4.trans (hb5.mono hbw4.size)
    clear hb5 hbw4
    go_wp2_with fail
    refine (awake11_any _).mono ?_
    rintro e w6 ⟨rfl, hb6⟩
    have hbw6 : Below w.heap.size w w6 := hbw5.trans (hb6.mono hbw5.size)
    go_wp2_with fail
    go_ret
    exact ⟨rfl, hbw6⟩
  · rcases hN4 with ⟨hp, rfl, rfl⟩ | ⟨n', g', k', b', c', W, rfl, hn1', hn2', rfl, rfl, hM'⟩
    · clear hM HM3 HPQ hb4 hp
      go_wp2_with fail
      refine (awake11_any _).mono ?_
      rintro e w5 ⟨rfl, hb5⟩
      have hbw5 : Below w.heap.size w w5 := hbw4.trans (hb5.mono hbw4.size)
      clear hb5 hbw4
      go_wp2_with fail
      refine (awake11_any _).mono ?_
      rintro e w6 ⟨rfl, hb6⟩
      have hbw6 : Below w.heap.size w w6 := hbw5.trans (hb6.mono hbw5.size)
      go_wp2_with fail
      go_ret
      exact ⟨rfl, hbw6⟩
    · have hne : n ≠ n' := by
        have := HPQ.out
        omega
      have hnei : ¬ ((n : Int) = (n' : Int)) := by omega
      have hM4 := hM.below hb4
      have HMM : Hid (MK w4 w2.heap.size g n b c k V ∧ MK w4 w3.heap.size g' n' b' c' k' W) := ⟨hM4, hM'⟩
      clear hM hM' hM4 HM3 HPQ hb4
      go_wp2_with fail
      refine (awake11_any _).mono ?_
      rintro e w5 ⟨rfl, hb5⟩
      have hbw5 : Below w.heap.size w w5 := hbw4.trans (hb5.mono hbw4.size)
      have HMM5 : Hid (∀ m, BM (w5.drewN m) w2.heap.size g n b c V ∧ BM (w5.drewN m) w3.heap.size g' n' b' c' W) := fun m => ⟨(HMM.out.1.below hb5).m.dN m, (HMM.out.2.below hb5).m.dN m⟩
      have HE := either_unlike _ (HMM5.out 0).1 (HMM5.out 0).2 hne
      have HL : Hid (∀ m, Calls Tryd.prog 9 #[.pointer (some ⟨g, 0, none⟩), .pointer (some ⟨g', 0, none⟩)] (w5.drewN m) fun e w' => e = .returned (.tuple #[.pointer none, .int .i64 110]) ∧ ∃ m', w' = w5.drewN m') := fun m => by
        refine (less_unlike _ (HMM5.out m).1 (HMM5.out m).2 hne).mono ?_
        rintro e w' ⟨rfl, m', rfl⟩
        exact ⟨rfl, _, World.drewN_drewN ..⟩
      have HC : Hid (∀ m, Calls Tryd.prog 10 #[.pointer (some ⟨g, 0, none⟩), .pointer (some ⟨g', 0, none⟩)] (w5.drewN m) fun e w' => e = .returned (.tuple #[.pointer none, .int .i64 110]) ∧ ∃ m', w' = w5.drewN m') := fun m => by
        refine (cross_unlike _ (HMM5.out m).1 (HMM5.out m).2 hne).mono ?_
        rintro e w' ⟨rfl, m', rfl⟩
        exact ⟨rfl, _, World.drewN_drewN ..⟩
      have HS : Hid (∀ m, Calls Tryd.prog 11 #[.pointer (some ⟨g, 0, none⟩), .pointer (some ⟨g', 0, none⟩)] (w5.drewN m) fun e w' => e = .returned (.bool false) ∧ ∃ m', w' = w5.drewN m') := fun m => by
        refine (same_unlike _ (HMM5.out m).1 (HMM5.out m).2 hne).mono ?_
        rintro e w' ⟨rfl, m', rfl⟩
        exact ⟨rfl, _, World.drewN_drewN ..⟩
      have HE0 : Hid (Calls Tryd.prog 8 #[.pointer (some ⟨g, 0, none⟩), .pointer (some ⟨g', 0, none⟩)] w5 fun e w' => e = .returned (.tuple #[.pointer none, .int .i64 110]) ∧ ∃ m', w' = w5.drewN m') := HE
      clear HMM HMM5 hb5 hbw4 HE
      go_wp2_with fail
      refine HE0.out.mono ?_
      rintro e w6 ⟨rfl, m6, rfl⟩
      go_wp2_with fail
      refine (HL.out m6).mono ?_
      rintro e w7 ⟨rfl, m7, rfl⟩
      go_wp2_with fail
      refine (HC.out m7).mono ?_
      rintro e w8 ⟨rfl, m8, rfl⟩
      go_wp2_with fail
      refine (HS.out m8).mono ?_
      rintro e w9 ⟨rfl, m9, rfl⟩
      go_wp2_with fail
      go_ret
      exact ⟨rfl, below_dN hbw5 m9⟩
theorem bitsSetsLaw (l : List Int) (hl : l.length = 2) (a a' : Option Addr) (N cc N' cc' : Nat) (hN : N ≤ 9223372036854775807) (hN' : N' ≤ 9223372036854775807) (K A Z K' A' Z' : Nat → Int) (w : World) (h0 : 0 < w.heap.size) (hT : TabAt w) (hD : IsDeeds w a N K A Z) (hD' : IsDeeds w a' N' K' A' Z') : Calls Tryd.prog 3 #[.agg (l.map (Value.int .i64)).toArray, .slice a N cc, .slice a' N' cc'] w fun e w' => e = .returned (.bool true) ∧ Below w.heap.size w w' := by
  match l, hl with
  | [p, q], _ =>
    by_cases h : p ≠ q ∨ p < 1 ∨ 8192 < p
    · exact sets_other p q h a a' N cc N' cc' hN hN' K A Z K' A' Z' w h0 hT hD hD'
    · obtain ⟨n, rfl⟩ := Int.eq_ofNat_of_zero_le (a := p) (by omega)
      obtain rfl : q = (n : Int) := by omega
      exact sets_like n (by omega) (by omega) a a' N cc N' cc' hN hN' K A Z K' A' Z' w h0 hT hD hD'
end Go.Proofs.YtgcnmopgpdmocaaDoor

namespace Go.Proofs.YtgcnmopgpdmocaaDoor
open Go.ChangeShapes Go.WideShapes Go.ChangeAt Go.RowKit Go.Joins
set_option linter.unusedVariables false
theorem dcell_lt {w : World} {a : Addr} {v : Value} (h : w.cell? a = some v) : a.block < w.heap.size := by
  obtain ⟨e, n, hs, _⟩ := World.shape?_of_cell? h
  unfold World.shape? at hs
  cases hb : w.heap[a.block]? with
  | none => simp [hb] at hs
  | some o => exact (Array.getElem?_eq_some_iff.1 hb).1
set_option maxRecDepth 100000 in
theorem open_deeds {H : Type} {enc : TypeId × Value → H} {W : World} {a0 : Option Addr} {len cap fuel : Nat} {x : DataW H × List MemPlace}
    (hf : DataW.trod enc Tryd.prog W 0 (fun _ => true) true fuel 23 [.slice a0 len cap] = some x) (hsz : ∀ n ∈ x.1.weights Tryd.prog 23, n ≤ reachBytes) :
    ∃ (K A Z : Nat → Int), len ≤ 9223372036854775807 ∧ IsDeeds W a0 len K A Z := by
  rcases Deep.open_slice Tryd.underlying23 hf with ⟨hcs, hx⟩ | ⟨a, len', cap', m, n, D, Pl, hcs, _, hl, hm, hmm, hx, hel⟩
  · simp at hcs
    obtain ⟨rfl, rfl, rfl⟩ := hcs
    exact ⟨fun _ => 0, fun _ => 0, fun _ => 0, by omega, fun i hi => absurd hi (by omega)⟩
  · simp at hcs
    obtain ⟨rfl, rfl, rfl⟩ := hcs
    subst hx
    simp only [if_true] at hmm
    subst hmm
    have hu := Tryd.underlying23
    have hby : Tryd.prog.bytesOf 53 = 24 := by kernel_rfl
    have hw0 := hsz ((((List.range len).map D).length + ((List.range (m - len)).map fun j => D (len + j)).length) * Tryd.prog.bytesOf 53) (by simp [DataW.weights, hu])
    rw [hby] at hw0
    simp only [List.length_map, List.length_range] at hw0
    have hlen4 : len ≤ 9223372036854775807 := by
      unfold reachBytes at hw0
      omega
    have hce : Tryd.prog.cellsOf 53 = 3 := by kernel_rfl
    have hci : Tryd.prog.cellsOf 3 = 1 := by kernel_rfl
    have hsp : 0 < len → a.spot = none := fun h0 => by
      obtain ⟨cs', h1, _⟩ := hel 0 (by omega)
      rw [hce] at h1
      obtain ⟨_, hcl, hcell⟩ := World.cells?_some h1
      match cs', hcl with
      | [v0, v1, v2], _ => simpa [Addr.add] using World.cell?_spot (hcell 0 (by omega))
    have each : ∀ i, ∃ q : Int × Int × Int, i < len → ∃ b o, a = ⟨b, o, none⟩ ∧ b < W.heap.size ∧ W.cell? ⟨b, o + i * 3, none⟩ = some (.int .i64 q.1) ∧ W.cell? ⟨b, o + i * 3 + 1, none⟩ = some (.int .i64 q.2.1) ∧ W.cell? ⟨b, o + i * 3 + 2, none⟩ = some (.int .i64 q.2.2) ∧ (-9223372036854775808 ≤ q.2.1 ∧ q.2.1 ≤ 9223372036854775807) ∧ (-9223372036854775808 ≤ q.2.2 ∧ q.2.2 ≤ 9223372036854775807) := by
      intro i
      by_cases hi : i < len
      · obtain ⟨cs', h1, h2⟩ := hel i (by omega)
        rw [hce] at h1
        obtain ⟨_, hcl, hcell⟩ := World.cells?_some h1
        obtain ⟨xs, k, hk, hxy, _, hxl, hfs⟩ := DataW.trod_struct Tryd.underlying53 h2
        match xs, hxl, cs', hcl with
        | [y0, y1, y2], _, [v0, v1, v2], _ =>
          have g0 := hfs 0 _ rfl
          have g1 := hfs 1 _ rfl
          have g2 := hfs 2 _ rfl
          simp [hci] at g0 g1 g2
          obtain ⟨p, e0, _, w0⟩ := DataW.trod_int Tryd.underlying3 g0
          obtain ⟨q, e1, _, w1⟩ := DataW.trod_int Tryd.underlying3 g1
          obtain ⟨r, e2, _, w2⟩ := DataW.trod_int Tryd.underlying3 g2
          simp at e0 e1 e2
          subst e0 e1 e2
          refine ⟨(p, q, r), fun _ => ?_⟩
          have c0 := hcell 0 (by decide)
          have c1 := hcell 1 (by decide)
          have c2 := hcell 2 (by decide)
          obtain ⟨b, off, spot⟩ := a
          have hspot : spot = none := hsp (by omega)
          subst hspot
          simp only [Addr.add_mid, List.getElem?_cons_zero, List.getElem?_cons_succ] at c0 c1 c2
          exact ⟨b, off, rfl, dcell_lt c0, c0, c1, c2, bounds_i64 w1, bounds_i64 w2⟩
      · exact ⟨(0, 0, 0), fun h => absurd h hi⟩
    refine ⟨fun i => (Classical.choose (each i)).1, fun i => (Classical.choose (each i)).2.1, fun i => (Classical.choose (each i)).2.2, hlen4, fun i hi => ?_⟩
    obtain ⟨b, o, rfl, h1, h2, h3, h4, h5⟩ := Classical.choose_spec (each i) hi
    exact ⟨b, o, rfl, h1, h2, h3, h4, h5⟩
end Go.Proofs.YtgcnmopgpdmocaaDoor
