/- A map on which all was done, and a list of bools beside it: the contract of signetlaw11.played. -/
import Derived.Test.YtjlngldmdfbbaaaDoorHRmKit
import Derived.Handy
import Derived.Test.YtjlngldmdfbbaaaDoorHSegsP
import Derived.Test.YtjlngldmdfbbaaaDoorHBiSeek
import Derived.RangeFuncNested
import Derived.RangeFuncBound
import Derived.RangeFuncCalls
import Derived.RangeFuncLeaves
import Derived.Shelf.Abstract
import Derived.Shelf.RegionOpen
import Derived.WalkKit
import Derived.OwnWalkIn
import Derived.TacticsInMore
import Derived.LoopNIn
import Derived.LoopIn
import Derived.RangeFuncFrom
import Derived.RangeFuncBox
import Derived.RangeFuncWrites
import Derived.Maps.AppendAt

namespace Go.Proofs.YtjlngldmdfbbaaaDoor
open Go Go.RowKit
set_option linter.unusedVariables false
set_option linter.unusedSimpArgs false
/-- a slice of numbers of 32 bits, handed in -/
def IsU32s (w : World) (a : Option Addr) (N : Nat) (A : Nat → Nat) : Prop :=
  ∀ i, i < N → A i < 4294967296 ∧ ∃ b o, a = some ⟨b, o, none⟩ ∧ b < w.heap.size ∧ w.cell? ⟨b, o + i, none⟩ = some (.int .u32 (A i : Int))
theorem IsU32s.below {w w' : World} {a : Option Addr} {N : Nat} {A : Nat → Nat} (h : IsU32s w a N A) (hb : Below w.heap.size w w') : IsU32s w' a N A := fun i hi => by
  obtain ⟨h0, b, o, e, h1, h2⟩ := h i hi
  have hblk := hb.block b h1
  refine ⟨h0, b, o, e, Nat.lt_of_lt_of_le h1 hb.size, ?_⟩
  rw [← h2]; simp [World.cell?, hblk]
/-- whether a block is among the first of them -/
def memA (A : Nat → Nat) : Nat → Nat → Bool
  | 0, _ => false
  | k + 1, q => if q = A k then true else memA A k q
def OkAt (A : Nat → Nat) (n m : Nat) : Prop := A m ≠ 0 ∧ A m < n ∧ memA A m (A m) = false
def GoodA (A : Nat → Nat) (n k : Nat) : Prop := ∀ i, i < k → OkAt A n i
theorem GoodA.succ {A : Nat → Nat} {n k : Nat} (h : GoodA A n k) (hk : OkAt A n k) : GoodA A n (k + 1) := fun i hi => by
  by_cases e : i = k
  · rw [e]; exact hk
  · exact h i (by omega)
theorem mem_zero {A : Nat → Nat} {n : Nat} : ∀ {k : Nat}, GoodA A n k → memA A k 0 = false
  | 0, _ => rfl
  | k + 1, h => by
    unfold memA
    rw [if_neg (Ne.symm (h k (by omega)).1)]
    exact mem_zero fun i hi => h i (by omega)
section
variable {w w' : World} {P : Nat → Prop} {r n gu bu cu gn bn cn : Nat} {U X : Nat → Nat} {F G : Nat → Bool}
theorem rmaybe_yes (n : Nat) (h1 : 16 ≤ n) (h2 : n ≤ 8192) (w : World) : Calls Tryd.prog 16 #[.int .i64 (n : Int)] w fun e w' => e = .returned (.bool true) ∧ w' = w := by
  have a1 : (16 : Int) ≤ (n : Int) := by omega
  have a2 : (n : Int) ≤ 8192 := by omega
  go_enter Tryd.func16, Tryd.ntmps16
  go_wp2_with fail
  go_ret
  exact ⟨by simp [a2], rfl⟩
theorem rmaybe_no (p : Int) (hp : p < 16 ∨ 8192 < p) (w : World) : Calls Tryd.prog 16 #[.int .i64 p] w fun e w' => e = .returned (.bool false) ∧ w' = w := by
  by_cases h : 16 ≤ p
  · have a2 : ¬ (p ≤ 8192) := by omega
    go_enter Tryd.func16, Tryd.ntmps16
    go_wp2_with fail
    go_ret
    exact ⟨by simp [a2], rfl⟩
  · go_enter Tryd.func16, Tryd.ntmps16
    go_wp2_with fail
    go_ret
    exact ⟨rfl, rfl⟩
theorem rstanding_any {B g b c : Nat} {W : Nat → Nat} (h : BM w B g n b c W) (h16 : 16 ≤ n) (hz : bitF W 0 = false) (hg : P g) (hb : P b) (hP : ∀ k, w.heap.size ≤ k → P k) : Calls Tryd.prog 19 #[.pointer (some ⟨g, 0, none⟩)] w fun e w' => ∃ r, e = .returned (.pointer (some ⟨r, 0, none⟩)) ∧ RoomIs w' P r n (bitF W) (bitF W) ∧ Below w.heap.size w w' := by
  have HC := bclone_any w h
  have HF : Hid (∀ (V : World) (g' b' c' : Nat), BM V w.heap.size g' n b' c' W → Below w.heap.size w V → RoomIs (V.alloc (.cells #[.pointer (some ⟨g, 0, none⟩), .pointer (some ⟨g', 0, none⟩)] 80)) P V.heap.size n (bitF W) (bitF W) ∧ Below w.heap.size w (V.alloc (.cells #[.pointer (some ⟨g, 0, none⟩), .pointer (some ⟨g', 0, none⟩)] 80))) := fun V g' b' c' hM hB => by
    have hV := h.below hB
    have hgl := h.glt
    have hbl := h.blt.2
    have hg' := hM.gB
    have hb' := hM.blt
    have hgg := hM.glt
    have hne := hM.ne
    have hs := hB.size
    have hba : Below V.heap.size V (V.alloc (.cells #[.pointer (some ⟨g, 0, none⟩), .pointer (some ⟨g', 0, none⟩)] 80)) := below_new1 _ _
    refine ⟨⟨g, b, c, g', b', c', W, W, ⟨Blk.new _ _ _, (hV.mono (Nat.zero_le _)).below hba, (hM.mono (Nat.zero_le _)).below hba, ⟨hP _ (by omega), hg, hb, hP _ hg', hP _ hb'.1⟩, ⟨by omega, by omega, by omega, by omega, by omega, by omega, by omega, by omega⟩, ⟨hz, hz⟩, h16⟩, fun _ => rfl, fun _ => rfl⟩, hB.trans (hba.mono hs)⟩
  clear h
  go_enter Tryd.func19, Tryd.ntmps19
  go_wp2_with fail
  refine HC.mono ?_
  rintro e w1 ⟨g', b', c', rfl, hM, hB⟩
  have hh := HF.out w1 g' b' c' hM hB
  clear HF hM
  go_wp2_with fail
  go_ret
  exact ⟨_, rfl, hh.1, hh.2⟩
theorem rnew_no (p : Int) (hp : p < 16 ∨ 8192 < p) (v : Value) (w : World) : Calls Tryd.prog 4 #[.int .i64 p, v] w fun e w' => e = .returned (.tuple #[.pointer none, .int .i64 0, .int .i64 120]) ∧ w' = w := by
  have HM := rmaybe_no p hp w
  go_enter Tryd.func4, Tryd.ntmps4
  go_wp2_with fail
  refine HM.mono ?_
  rintro e w1 ⟨rfl, rfl⟩
  go_wp2_with fail
  go_ret3
  exact ⟨rfl, rfl⟩
set_option maxHeartbeats 4000000 in
theorem rnew_any (h1 : 16 ≤ n) (h2 : n ≤ 8192) (a : Option Addr) (N cc : Nat) (hN : N ≤ 9223372036854775807) (A : Nat → Nat) (w : World) (hD : IsU32s w a N A) : Calls Tryd.prog 4 #[.int .i64 (n : Int), .slice a N cc] w fun e w' =>
    ((∃ r, e = .returned (.tuple #[.pointer (some ⟨r, 0, none⟩), .int .i64 0, .int .i64 0]) ∧ GoodA A n N ∧ RoomIs w' (fun k => w.heap.size ≤ k) r n (memA A N) (memA A N)) ∨
    (∃ m : Nat, m < N ∧ e = .returned (.tuple #[.pointer none, .int .i64 (m : Int), .int .i64 121]) ∧ GoodA A n m ∧ ¬ OkAt A n m)) ∧ Below w.heap.size w w' := by
  have HM := rmaybe_yes n h1 h2 w
  have HN := newM_ok n (by omega) h2 w
  have HD : Hid (∀ V : World, Below w.heap.size w V → IsU32s V a N A) := fun V hV => hD.below hV
  clear hD
  go_enter Tryd.func4, Tryd.ntmps4
  go_wp2_with fail
  refine HM.mono ?_
  rintro e w0 ⟨rfl, rfl⟩
  go_wp2_with fail
  refine HN.mono ?_
  rintro e w1 ⟨g, b0, c0, rfl, hM0, hb0⟩
  go_wp2_with fail
  go_loopw [21] (fun t wr => ∃ j : Nat, j ≤ N ∧ t = .int .i64 (j : Int) ∧ GoodA A n j ∧ (∃ b c W, BM wr w0.heap.size g n b c W ∧ ∀ q, bitF W q = memA A j q) ∧ Below w0.heap.size w0 wr) (fun t _ => N - (intOf t).toNat)
  case atStart => exact ⟨0, by omega, rfl, fun i hi => by omega, ⟨_, _, _, hM0, fun q => bitF_zero q⟩, hb0⟩
  case round =>
    clear hM0 hb0 HN HM
    obtain ⟨j, hj, rfl, hal, ⟨b, c, W, hM, hbits⟩, hb⟩ := hrel
    by_cases hlt : j < N
    · obtain ⟨hau, ab, ao, rfl, hab, cw⟩ := HD.out wr hb j hlt
      have j0 : (0 : Int) ≤ (j : Int) := by omega
      have j1 : (j : Int) < (N : Int) := by omega
      have HJ : Hid (j < N ∧ N ≤ 9223372036854775807) := ⟨hlt, hN⟩
      by_cases hz : A j = 0
      · rw [hz] at cw
        have HBAD : Hid (¬ OkAt A n j) := fun h => h.1 hz
        clear hM hbits
        go_wp2_with fail
        go_ret3
        exact ⟨.inr ⟨j, HJ.out.1, rfl, hal, HBAD.out⟩, hb⟩
      · have hzi : ¬ ((A j : Int) = 0) := by omega
        by_cases hok : A j < n ∧ memA A j (A j) = false
        · have HS := set_new wr hM (A j) hok.1 (by rw [hbits]; exact hok.2)
          have HON : Hid (∀ q, bitF (putW W (A j)) q = memA A (j + 1) q) := fun q => by
            rw [put_if', hbits]
            rfl
          have HAL : Hid (GoodA A n (j + 1)) := hal.succ ⟨hz, hok⟩
          have HB : Hid (∀ V, Only b wr V → Below w0.heap.size w0 V) := fun V ho => hb.trans (ho.below hb.size hM.blt.1)
          clear hM hbits hal hb hok
          generalize A j = aj at *
          go_wp2_with fail
          refine HS.mono ?_
          rintro e3 w3 ⟨rfl, hM3, ho3⟩
          have hb3 := HB.out w3 ho3
          go_wp2_with fail
          go_roundw
          case rel => exact ⟨j + 1, HJ.out.1, by first | rfl | go_num | simp, HAL.out, ⟨b, c, _, hM3, HON.out⟩, hb3⟩
          case measure => simp [intOf]; have := HJ.out; omega
        · have HBAD : Hid (¬ OkAt A n j) := fun h => hok ⟨h.2.1, h.2.2⟩
          have HS := set_not wr hM (A j : Int) (by
            by_cases hn : A j < n
            · refine .inr (.inr ⟨by omega, by omega, ?_⟩)
              rw [Int.toNat_natCast, hbits]
              cases hm : memA A j (A j) with
              | true => rfl
              | false => exact absurd ⟨hn, hm⟩ hok
            · exact .inr (.inl (by omega)))
          clear hM hbits hok
          generalize A j = aj at *
          go_wp2_with fail
          refine HS.mono ?_
          rintro e3 w3 ⟨rfl, m3, rfl⟩
          go_wp2_with fail
          go_ret3
          exact ⟨.inr ⟨j, HJ.out.1, rfl, hal, HBAD.out⟩, below_dN hb m3⟩
    · obtain rfl : j = N := by omega
      have j1 : ¬ ((j : Int) < (j : Int)) := by omega
      have HS := rstanding_any (P := fun k => w0.heap.size ≤ k) hM h1 (by rw [hbits]; exact mem_zero hal) hM.gB hM.blt.1 (fun k hk => Nat.le_trans hb.size hk)
      have HRR : Hid (∀ V r, RoomIs V (fun k => w0.heap.size ≤ k) r n (bitF W) (bitF W) → RoomIs V (fun k => w0.heap.size ≤ k) r n (memA A j) (memA A j)) := fun V r h => by
        rw [show bitF W = memA A j from funext hbits] at h
        exact h
      clear hM hbits
      go_wp2_with fail
      refine HS.mono ?_
      rintro e w4 ⟨r, rfl, hR4, hb4⟩
      have hh := HRR.out w4 r hR4
      clear hR4 HRR
      go_wp2_with fail
      go_ret3
      exact ⟨.inl ⟨r, rfl, hal, hh⟩, hb.trans (hb4.mono hb.size)⟩
end
end Go.Proofs.YtjlngldmdfbbaaaDoor

namespace Go.Proofs.YtjlngldmdfbbaaaDoor
open Go Go.RowKit
set_option linter.unusedVariables false
set_option linter.unusedSimpArgs false
section
variable {w w' : World} {P : Nat → Prop} {r n gu bu cu gn bn cn : Nat} {U X : Nat → Nat} {F G : Nat → Bool}
theorem RM.back {g' b' c' : Nat} (h : RM w P r n gu bu cu gn bn cn U X) (hb : Below w.heap.size w w') (hM : BM w' w.heap.size g' n b' c' U) (hP : ∀ k, w.heap.size ≤ k → P k) : RM (w'.setCell ⟨r, 1, none⟩ (.pointer (some ⟨g', 0, none⟩))) P r n gu bu cu g' b' c' U U := by
  have hR := h.below hb
  have h1 := h.cells.lt
  have h2 := h.u.glt
  have h3 := h.u.blt.2
  have h4 := hM.gB
  have h5 := hM.blt.1
  have h6 := hM.ne
  have ho := Only.set w' r 1 (.pointer (some ⟨g', 0, none⟩))
  exact ⟨hR.cells.put 1 _, hR.u.only ho h.ne.2.2.2.2.2.2.1 (Ne.symm h.ne.2.2.2.2.1), (hM.mono (Nat.zero_le _)).only ho (by omega) (by omega), ⟨h.own.1, h.own.2.1, h.own.2.2.1, hP _ h4, hP _ h5⟩, ⟨by omega, by omega, by omega, by omega, h.ne.2.2.2.2.1, by omega, h.ne.2.2.2.2.2.2.1, by omega⟩, ⟨h.z.1, h.z.1⟩, h.n16⟩
end
end Go.Proofs.YtjlngldmdfbbaaaDoor

namespace Go.Proofs.YtjlngldmdfbbaaaDoor
open Go Go.RowKit Go.Shelf
set_option linter.unusedVariables false
set_option linter.unusedSimpArgs false
attribute [local go_sem] Oper.semAt_some
/-- what Next tells, one behind the other -/
def Steps (f : Int → Int) : Int → List Nat → Prop
  | p, [] => f p = -1
  | p, x :: xs => f p = (x : Int) ∧ p ≤ (x : Int) ∧ x < 8192 ∧ Steps f ((x : Int) + 1) xs
def leftOf : Value → Nat
  | .int _ z => if z < 0 then 0 else (8193 - z).toNat
  | _ => 0
/-- a map whose Next tells f, as long as what is asked is kept -/
def Nexts (Kp : World → World → Prop) (w : World) (mv : Value) (f : Int → Int) : Prop := ∀ W, Kp w W → ∀ p : Int, Calls Tryd.prog 48 #[mv, .int .i64 p] W fun e w' => e = .returned (.int .i64 (f p)) ∧ w' = W
theorem wrap_small {x : Nat} (h : x < 8192) : wrap64 ((x : Int) + 1) = (x : Int) + 1 := by
  unfold wrap64
  omega
theorem eq_yield_in (d l : Nat) (w : World) : (Op.equalIn (d + 1) 52 (.func (.yield l) #[] #[]) .nilFunc).run Tryd.prog w = .ok false w := by
  simp [Op.equalIn, run_underlying Tryd.underlying52]
theorem eq_yield (l : Nat) (w : World) : Sem.run Tryd.prog (binOp .eql 52 (.func (.yield l) #[] #[]) .nilFunc) w = .ok (.bool false) w := by
  simp only [binOp]
  simp [show Op.equal 52 (.func (.yield l) #[] #[]) .nilFunc = Op.equalIn (9999 + 1) 52 (.func (.yield l) #[] #[]) .nilFunc from rfl, eq_yield_in 9999 l w]
set_option maxRecDepth 100000 in
set_option maxHeartbeats 2000000 in
theorem all1_in (l Bn : Nat) (Kp : World → World → Prop) (hKr : ∀ W, Kp W W) (hKt : ∀ {A B C : World}, Kp A B → Kp B C → Kp A C) (mv : Value) (f : Int → Int) (xs : List Nat) (J Jx : List Nat → World → Prop)
    (hY : ∀ pre x W, J pre W → pre.length < xs.length → YieldAt Fence.wide (3 - 1) Tryd.prog l #[.int .i64 ((x : Nat) : Int)] W fun e W' =>
      (e = .returned (.bool true) ∧ J (pre ++ [x]) W' ∧ Kp W W') ∨ (e = .returned (.bool false) ∧ Jx (pre ++ [x]) W'))
    (W : World) (hKc : ∀ V, Kp W V → V.cell? ⟨Bn, 0, none⟩ = W.cell? ⟨Bn, 0, none⟩) (hBn : W.cell? ⟨Bn, 0, none⟩ = some mv) (hN : Nexts Kp W mv f) (hs : Steps f 0 xs) (h0 : J [] W) :
    CallsIn Fence.wide 3 Tryd.prog 62 #[.func (.yield l) #[] #[], .pointer (some ⟨Bn, 0, none⟩)] W fun e W' => (∃ v, e = .returned v) ∧
      ((∃ ys, ys = xs ∧ J ys W') ∨ (∃ pre, pre <+: xs ∧ Jx pre W')) := by
  have hq := eq_yield l
  refine callsIn_of_wp Tryd.func62 rfl trivial ?_ rfl
  simp only [Tryd.ntmps62, List.size_toArray, List.length_cons, List.length_nil, Nat.reduceAdd, Nat.reduceSub, Array.replicate_succ, Array.replicate_zero, List.push_toArray, List.append_toArray, List.nil_append, List.cons_append]
  gi_wp2
  refine ⟨trivial, ?_⟩
  refine (callsIn_wide.2 (hN W (hKr _) 0)).mono ?_
  rintro e w' ⟨rfl, rfl⟩
  gi_wp2
  gi_loopw [3] (fun v wr => ∃ (pre rest : List Nat) (p : Int), v = .int .i64 (f p) ∧ 0 ≤ p ∧ xs = pre ++ rest ∧ Steps f p rest ∧ J pre wr ∧ Kp w' wr)
    (fun v wr => leftOf v)
  case atStart => exact ⟨[], xs, 0, rfl, by decide, rfl, hs, h0, hKr _⟩
  case round =>
    obtain ⟨pre, rest, p, rfl, hp, hx, hst, hJs, hb⟩ := hrel
    cases rest with
    | nil =>
      have hf : f p = -1 := hst
      rw [hf]
      gi_wp2
      go_end0
      exact ⟨⟨_, rfl⟩, .inl ⟨pre, by simp [hx], hJs⟩⟩
    | cons x rest =>
      obtain ⟨hf, hpx, hx8, hst⟩ := hst
      rw [hf]
      obtain ⟨fn, tmps, assign, body, hy, hR⟩ := hY pre x wr hJs (by rw [hx]; simp)
      gi_wp2
      refine hR.mono ?_
      rintro e W3 (⟨rfl, hJ3, hk3⟩ | ⟨rfl, hJx3⟩)
      · have hb3 : Kp w' W3 := hKt hb hk3
        have hc3 : W3.cell? ⟨Bn, 0, none⟩ = some mv := (hKc _ hb3).trans hBn
        have hwr : wrap64 ((x : Int) + 1) = (x : Int) + 1 := wrap_small hx8
        have HX : Hid (CallsIn Fence.wide 2 Tryd.prog 48 #[mv, .int .i64 ((x : Int) + 1)] W3 fun e w' => e = .returned (.int .i64 (f ((x : Int) + 1))) ∧ w' = W3) := callsIn_wide.2 (hN W3 hb3 _)
        gi_wp2
        refine ⟨trivial, ?_⟩
        refine HX.out.mono ?_
        rintro e w4 ⟨rfl, rfl⟩
        gi_wp2
        go_roundw
        case rel => exact ⟨pre ++ [x], rest, (x : Int) + 1, rfl, by omega, by simp [hx], hst, hJ3, hb3⟩
        case measure =>
          cases rest with
          | nil =>
            have e : f ((x : Int) + 1) = -1 := hst
            rw [e]
            simp only [leftOf]
            rw [if_pos (by decide), if_neg (by omega)]
            omega
          | cons y ys =>
            obtain ⟨e, h1, h2, _⟩ := hst
            rw [e]
            simp only [leftOf]
            rw [if_neg (by omega), if_neg (by omega)]
            omega
      · gi_wp2
        refine bodyPost_ret (results_none rfl _ _ _) rfl ?_
        exact ⟨⟨_, rfl⟩, .inr ⟨pre ++ [x], ⟨rest, by simp [hx]⟩, hJx3⟩⟩
theorem all_in (mv : Value) (hv : mv.oneCell' = true) (w : World) : CallsIn Fence.wide 3 Tryd.prog 50 #[mv] w fun e w' => e = .returned (.func (.func 62) #[] #[.pointer (some ⟨w.heap.size, 0, none⟩)]) ∧ w' = w.alloc (.cells #[mv] 53) := by
  refine callsIn_of_wp Tryd.func50 rfl trivial ?_ rfl
  simp only [Tryd.ntmps50, List.size_toArray, List.length_cons, List.length_nil, Nat.reduceAdd, Nat.reduceSub, Array.replicate_succ, Array.replicate_zero, List.push_toArray, List.append_toArray, List.nil_append, List.cons_append]
  gi_wp2
  go_ret
  exact ⟨rfl, rfl⟩
theorem all_stops (Bn : Nat) (Kp : World → World → Prop) (hKr : ∀ W, Kp W W) (hKt : ∀ {A B C : World}, Kp A B → Kp B C → Kp A C) (mv : Value) (f : Int → Int) (xs : List Nat) (w : World) (hBn : Bn < w.heap.size) (hKw : ∀ W, Below w.heap.size w W → Kp w W) (hKc : ∀ V, Kp w V → V.cell? ⟨Bn, 0, none⟩ = w.cell? ⟨Bn, 0, none⟩) (hc : w.cell? ⟨Bn, 0, none⟩ = some mv) (hN : Nexts Kp w mv f) (hs : Steps f 0 xs) :
    SeqStopsK Fence.wide 3 Tryd.prog 62 #[.pointer (some ⟨Bn, 0, none⟩)] (fun x : Nat => #[Value.int .i64 ((x : Nat) : Int)]) Kp (fun ys => ys = xs) (fun pre => pre <+: xs) xs.length w := fun l J Jx W hW _ _ hY h0 =>
  have hc' : W.cell? ⟨Bn, 0, none⟩ = w.cell? ⟨Bn, 0, none⟩ := hW.cell (p := ⟨Bn, 0, none⟩) hBn
  all1_in l Bn Kp hKr hKt mv f xs J Jx hY W (fun V hV => (hKc V (hKt (hKw W hW) hV)).trans hc'.symm) (hc'.trans hc) (fun V hV p => hN V (hKt (hKw W hW) hV) p) hs h0
/-- the places of ones -/
def onesL (F : Nat → Bool) (n : Nat) : List Nat := (List.range n).filter F
theorem onesL_succ (F : Nat → Bool) (n : Nat) : onesL F (n + 1) = onesL F n ++ if F n then [n] else [] := by
  unfold onesL
  rw [List.range_succ, List.filter_append]
  by_cases h : F n = true
  · simp [h]
  · simp [h]
theorem Steps.back {f : Int → Int} {p : Int} (he : f p = f (p + 1)) : ∀ {l : List Nat}, Steps f (p + 1) l → Steps f p l
  | [], h => by
    have h' : f (p + 1) = -1 := h
    exact he.trans h'
  | x :: xs, h => ⟨he.trans h.1, by have := h.2.1; omega, h.2.2⟩
theorem steps_range (F : Nat → Bool) (n : Nat) (hn : n ≤ 8192) : ∀ (m a : Nat), a + m = n → Steps (fun p => nxt F true n (fromN p)) (a : Int) ((List.range' a m).filter F)
  | 0, a, h => by
    show nxt F true n (fromN (a : Int)) = -1
    have e : fromN (a : Int) = a := by unfold fromN; omega
    rw [e]
    unfold nxt
    rw [show n - a = 0 by omega]
    rfl
  | m + 1, a, h => by
    have ih := steps_range F n hn m (a + 1) (by omega)
    rw [List.range'_succ]
    have e : fromN (a : Int) = a := by unfold fromN; omega
    have e1 : fromN ((a : Int) + 1) = a + 1 := by unfold fromN; omega
    have ec : ((a + 1 : Nat) : Int) = (a : Int) + 1 := by omega
    rw [ec] at ih
    have eN : nxt F true n a = if F a = true then (a : Int) else nxt F true n (a + 1) := by
      unfold nxt
      rw [show n - a = m + 1 by omega, show n - (a + 1) = m by omega]
      rfl
    by_cases hF : F a = true
    · rw [List.filter_cons_of_pos hF]
      refine ⟨?_, Int.le_refl _, by omega, ih⟩
      show nxt F true n (fromN (a : Int)) = _
      rw [e, eN, hF]
      rfl
    · rw [List.filter_cons_of_neg hF]
      refine Steps.back ?_ ih
      show nxt F true n (fromN (a : Int)) = nxt F true n (fromN ((a : Int) + 1))
      rw [e, e1, eN]
      simp [hF]
theorem steps_ones (F : Nat → Bool) (n : Nat) (hn : n ≤ 8192) : Steps (fun p => nxt F true n (fromN p)) 0 (onesL F n) := by
  have := steps_range F n hn n 0 (by omega)
  rwa [← List.range_eq_range'] at this
theorem nexts_map {Kp : World → World → Prop} {w : World} {B g n b c : Nat} {W : Nat → Nat} (h : BM w B g n b c W) (hT : TabAt w) (hK : ∀ V, Kp w V → V.heap[g]? = w.heap[g]? ∧ V.heap[b]? = w.heap[b]? ∧ V.heap[0]? = w.heap[0]?) : Nexts Kp w (.pointer (some ⟨g, 0, none⟩)) fun p => nxt (bitF W) true n (fromN p) := fun V hV p =>
  next_any V (fun j hj => (by
    have := (hK V hV).2.2
    rw [show V.cell? ⟨0, j, none⟩ = w.cell? ⟨0, j, none⟩ from by simp [World.cell?, this]]
    exact hT j hj)) (h.keep (hK V hV).1 (hK V hV).2.1) p
end Go.Proofs.YtjlngldmdfbbaaaDoor

namespace Go.Proofs.YtjlngldmdfbbaaaDoor
open Go Go.RowKit Go.Shelf
set_option linter.unusedVariables false
set_option linter.unusedSimpArgs false
attribute [local go_sem] Oper.semAt_some
theorem infoU32 : (Tryd.prog.info? 36).map (fun i => (i.zero, i.size, i.bytes)) = some (some (.int .u32 0), 1, 4) := by kernel_rfl
/-- all blocks but one stay -/
structure Kept (x B : Nat) (w w' : World) : Prop where
  size : w.heap.size ≤ w'.heap.size
  block : ∀ k, k < B → k ≠ x → w'.heap[k]? = w.heap[k]?
theorem Kept.trans {x B : Nat} {w v u : World} (h : Kept x B w v) (k : Kept x B v u) : Kept x B w u := ⟨Nat.le_trans h.size k.size, fun j hj hn => (k.block j hj hn).trans (h.block j hj hn)⟩
theorem Kept.of_below {x B : Nat} {w w' : World} (h : Below B w w') : Kept x B w w' := ⟨h.size, fun k hk _ => h.block k hk⟩
theorem Kept.refl (x B : Nat) (w : World) : Kept x B w w := ⟨Nat.le_refl _, fun _ _ _ => rfl⟩
def u32L (xs : List Nat) : List Value := xs.map fun (x : Nat) => Value.int .u32 ((x : Int) % 4294967296)
theorem own_lt {w : World} {B e size n k : Nat} {v : Value} {xs : List Value} (h : w.ownsRow B e size v n xs) (hv : v.ownBlock = some k) : B ≤ k := by
  rcases h.2 with ⟨rfl, _⟩ | ⟨g, cap, cur, rfl, hb, hg, _⟩
  · simp [Value.ownBlock] at hv
  · simp [Value.ownBlock] at hv
    omega
set_option maxRecDepth 100000 in
set_option maxHeartbeats 4000000 in
theorem rlist_gen (rv : Value) (s : Int) (xs : List Nat) (hx : xs.length ≤ 8192) (w : World) (h0 : 0 < w.heap.size)
    (HIN : ∀ W, Below w.heap.size w W → w.heap.size < W.heap.size → Calls Tryd.prog 25 #[rv, .int .i64 s] W fun e w' => ∃ mv f, e = .returned mv ∧ mv.oneCell' = true ∧ (∀ V Bq, Below w'.heap.size w' V → w'.heap.size ≤ Bq → Nexts (Kept w.heap.size Bq) V mv f) ∧ Steps f 0 xs ∧ Below W.heap.size W w') :
    Calls Tryd.prog 28 #[rv, .int .i64 s] w fun e w' => ∃ v, e = .returned v ∧ w'.ownsRow w.heap.size 36 1 v xs.length (u32L xs) ∧ (v = .slice none 0 0 ↔ xs = []) ∧ Below w.heap.size w w' := by
  obtain ⟨i0, hi, hz0, hz1, hz2⟩ := info_parts infoU32
  refine (callsIn_wide (n := 4)).1 ?_
  refine callsIn_of_wp_marks Tryd.func28 rfl trivial ?_ rfl
  simp only [Tryd.ntmps28, List.size_toArray, List.length_cons, List.length_nil, Nat.reduceAdd, Nat.reduceSub, Array.replicate_succ, Array.replicate_zero, List.push_toArray, List.append_toArray, List.nil_append, List.cons_append]
  gi_wp2
  have bO := Boxed.new w 22 (.slice none 0 0)
  have hb1 : Below w.heap.size w (w.alloc (.cells #[.slice none 0 0] 22)) := (Below.refl _ w).alloc (Nat.le_refl _) _
  have hs1 : (w.alloc (.cells #[.slice none 0 0] 22)).heap.size = w.heap.size + 1 := by simp
  generalize w.alloc (.cells #[.slice none 0 0] 22) = w1 at *
  refine ⟨trivial, ?_⟩
  refine (callsIn_wide.2 (HIN w1 hb1 (by omega))).mono ?_
  rintro e w2 ⟨mv, f, rfl, hone, hNx, hst, hb2⟩
  gi_wp2
  refine ⟨trivial, ?_⟩
  refine (all_in mv hone w2).mono ?_
  rintro e w3 ⟨rfl, hw3⟩
  have bN : Boxed w3 w2.heap.size 53 mv := by rw [hw3]; exact Boxed.new w2 _ _
  have hb3 : Below w2.heap.size w2 w3 := by rw [hw3]; exact (Below.refl _ w2).alloc (Nat.le_refl _) _
  have hs3 : w3.heap.size = w2.heap.size + 1 := by rw [hw3]; simp
  clear hw3
  have hs2 := hb2.size
  have bO3 : Boxed w3 w.heap.size 22 (.slice none 0 0) := by
    have q : w3.heap[w.heap.size]? = w1.heap[w.heap.size]? := ((hb2.trans (hb3.mono hs2)).block w.heap.size (by omega))
    exact q.trans bO
  have hB3 : Below w.heap.size w w3 := hb1.trans ((hb2.trans (hb3.mono hs2)).mono (by omega))
  have hN3 := hNx w3 w3.heap.size hb3 (by omega)
  clear hNx bO HIN
  gi_wp2
  have hKt : ∀ {A B C : World}, Kept w.heap.size w3.heap.size A B → Kept w.heap.size w3.heap.size B C → Kept w.heap.size w3.heap.size A C := fun h k => h.trans k
  have hKb : ∀ (W : World) (l : Nat) (o o' : Obj), w3.heap.size ≤ l → W.heap[l]? = some o → o.isCells = false → o.isWalk = false → Kept w.heap.size w3.heap.size W (W.putObj l o') := fun W l o o' hl h1 h2 h3 => Kept.of_below (belowK_b (w := w3) (Nat.le_refl _) W l o o' hl h1 h2 h3)
  refine wpIn_rangeFunc_ownG rfl (by decide) (gf := 62) (lb := #[.pointer (some ⟨w2.heap.size, 0, none⟩)]) rfl trivial (enters_of Tryd.func62 (by kernel_rfl) rfl)
    (all_stops w2.heap.size (Kept w.heap.size w3.heap.size) (fun W => Kept.refl _ _ W) hKt mv f xs w3 (by omega) (fun W h => Kept.of_below h) (fun V hV => by
      have := hV.block w2.heap.size (by omega) (by omega)
      simp [World.cell?, this]) bN.cell hN3 hst) hKt hKb (Below.refl _ _) (fun _ => rfl)
    (fun pre W => (∃ v, Boxed W w.heap.size 22 v ∧ W.ownsRow w3.heap.size 36 1 v pre.length (u32L pre) ∧ (v = .slice none 0 0 ↔ pre = [])) ∧ (Below w.heap.size w W ∧ w3.heap.size ≤ W.heap.size))
    (fun _ _ _ => False)
    (OwnFrom.and (Own.from (holdsRow_own w3.heap.size w.heap.size 22 36 1 (fun pre => pre.length) (fun pre => u32L pre) (fun pre v => v = .slice none 0 0 ↔ pre = [])) _) (OwnFrom.and (ownFrom_below (Nat.le_refl _) (by omega)) (fun _ _ _ _ hs hg _ => Nat.le_trans hs hg.size)))
    (fun _ _ _ _ _ hs _ _ => hs)
    ⟨⟨_, bO3, World.ownsRow_nil _ _ _ _, by simp⟩, hB3, Nat.le_refl _⟩
    (fun x => { tmps := #[rv, .int .i64 s, undef, undef, .slice none 0 0, .pointer (some ⟨w.heap.size, 0, none⟩), .int .i64 ((x : Nat) : Int), rv, .int .i64 s, mv, .func (.func 62) #[] #[.pointer (some ⟨w2.heap.size, 0, none⟩)], .int .i64 ((x : Nat) : Int), undef, undef, undef, undef, undef, undef], defers := [] }) ?assign ?body ?done ?stop
  case assign =>
    intro l x W K hK
    gi_wp2
    exact hK
  case body =>
    rintro l pre x W ⟨⟨v, hv, hrow, hnil⟩, hB, hsz⟩ hlt
    have hc := hv.cell
    have hpl : pre.length < 8192 := by omega
    have hml : pre.length + 1 ≤ maxLen := Nat.le_trans (Nat.succ_le_of_lt hpl) (by decide)
    clear hst hN3 bO3 hB3 hb1 hb2 hb3 bN hKt hKb hnil
    gi_wp2_with (gi_at_builtin; refine wpListIn_append_own _ rfl _ _ 22 rfl w3.heap.size 36 i0 (.int .u32 0) 1 4 Tryd.underlying22 hi hz0 hz1 hz2 rfl (by decide) _ _ _ rfl (hrow.alloc _) ⟨W.heap.size, 0, none⟩ 1 1 [.int .u32 ((x : Int) % 4294967296)] rfl rfl (cell_one_new _ _ _) (by simp [Value.oneCell']) hml (by omega) (by simp; omega) ?_; intro v' w4 hown' hgrow _; obtain ⟨g', cap', rfl⟩ := ownsRow_succ hown'; obtain ⟨hv1, hv2, hr2, hk2, hb2⟩ := hv.appended (by decide) (kown_mono hrow (by omega)) hB.size (Nat.le_refl _) (kown_mono hown' (by omega)) hgrow; have hc1 := hv1.cell; have hf1 := hv1.frozen)
    have hrw := (Boxed.not_row hv1 (by decide) hown')
    have hr3 := hown'.kept (grownBy_setCell' w4 w.heap.size (.slice (some ⟨g', 0, none⟩) (pre.length + 1) cap')) (.inr hrw.symm)
    have hne : ∀ k, k < w3.heap.size → some k ≠ v.ownBlock := fun k hk e => by
      have := own_lt hrow e.symm
      omega
    refine ⟨hk2.from _, ⟨?_, fun k hk hn => ?_⟩, ⟨_, hv2, ?_, ?_⟩, hB.trans hb2, Nat.le_trans hsz hb2.size⟩
    · exact hb2.size
    · rw [Deep.blk_setCell_other w4 ⟨w.heap.size, 0, none⟩ _ k hn, hgrow.block k (by simp; omega) (hne k hk)]
      exact Below.heap_alloc W _ k (by omega)
    · simpa [u32L] using hr3
    · simp
  case done =>
    rintro D ys W hD rfl ⟨⟨v, hv, hrow0, hnil⟩, hB, hsz⟩ hK
    have hrow := kown_mono (B' := w.heap.size) hrow0 (by omega)
    clear hrow0
    have hc := hv.cell
    have HE : Hid (_ ∧ _ ∧ _ ∧ _) := ⟨hrow, hnil, hB, hK⟩
    clear hst hN3 bO3 hB3 hb1 hb2 hb3 bN hKt hKb hnil hrow hB hK
    gi_wp2
    obtain ⟨hrow, hnil, hB, hK⟩ := HE.out
    refine ⟨by simp, .inl ⟨_, _, rfl, run_takeDeferred hK, ?_⟩⟩
    exact ⟨_, results_tmp rfl _ _ _, v, rfl, ownsRow_putObj hrow _ hK rfl, hnil, hB.trans (belowK_b (w := w) (Nat.le_refl _) W D _ _ (by omega) hK rfl rfl)⟩
  case stop =>
    rintro D c pre W _ _ h _
    exact h.elim
end Go.Proofs.YtjlngldmdfbbaaaDoor

namespace Go.Proofs.YtjlngldmdfbbaaaDoor
open Go Go.RowKit
set_option linter.unusedVariables false
set_option linter.unusedSimpArgs false
def boL (F : Nat → Bool) (n : Nat) : List Value := (List.range n).map fun i => Value.bool (F i)
theorem boL_at (F : Nat → Bool) (n i : Nat) (h : i < n) : (boL F n)[i]? = some (.bool (F i)) := by simp [boL, h]
theorem boL_len (F : Nat → Bool) (n : Nat) : (boL F n).length = n := by simp [boL]
theorem boL_congr {F G : Nat → Bool} {n : Nat} (h : ∀ i, i < n → F i = G i) : boL F n = boL G n := List.map_congr_left fun i hi => by rw [h i (List.mem_range.1 hi)]
theorem boL_set (F : Nat → Bool) (n i : Nat) (x : Bool) : (boL F n).set i (.bool x) = boL (fun j => if j = i then x else F j) n := by
  apply List.ext_getElem?
  intro j
  rw [List.getElem?_set]
  by_cases hj : j < n
  · rw [boL_at (fun j => if j = i then x else F j) _ _ hj]
    by_cases he : i = j
    · subst he
      rw [if_pos rfl, boL_len, if_pos hj]
      simp
    · rw [if_neg he, boL_at _ _ _ hj]
      simp [Ne.symm he]
  · have e1 : (boL F n)[j]? = none := List.getElem?_eq_none (by rw [boL_len]; omega)
    have e2 : (boL (fun j => if j = i then x else F j) n)[j]? = none := List.getElem?_eq_none (by rw [boL_len]; omega)
    rw [e1, e2, boL_len]
    split
    · rw [if_neg (by omega)]
    · rfl
/-- a list of n bools in block k -/
structure BA (w : World) (B k n c : Nat) (F : Nat → Bool) : Prop where
  n2 : n ≤ 8192
  row : w.ownsRow B 4 1 (.slice (some ⟨k, 0, none⟩) n c) n (boL F n)
section
variable {w w' : World} {B k n c : Nat} {F : Nat → Bool}
theorem BA.lt (h : BA w B k n c F) : B ≤ k ∧ k < w.heap.size := h.row.lt k rfl
theorem BA.keep (h : BA w B k n c F) (hk : w'.heap[k]? = w.heap[k]?) : BA w' B k n c F := ⟨h.n2, kown_kept h.row fun j _ hv => by
    have : j = k := by simp [Value.ownBlock] at hv; omega
    subst this
    exact hk⟩
theorem BA.below (h : BA w B k n c F) (hb : Below w.heap.size w w') : BA w' B k n c F := h.keep (hb.block k h.lt.2)
theorem BA.only {b : Nat} (h : BA w B k n c F) (ho : Only b w w') (hne : k ≠ b) : BA w' B k n c F := h.keep (ho.block k h.lt.2 hne)
theorem BA.dN (h : BA w B k n c F) (m : Nat) : BA (w.drewN m) B k n c F := h.keep rfl
theorem BA.mono {B' : Nat} (h : BA w B k n c F) (hB : B' ≤ B) : BA w B' k n c F := ⟨h.n2, kown_mono h.row hB⟩
theorem BA.congr {G : Nat → Bool} (h : BA w B k n c F) (he : ∀ i, i < n → F i = G i) : BA w B k n c G := ⟨h.n2, by rw [← boL_congr he]; exact h.row⟩
theorem BA.at (h : BA w B k n c F) {i : Nat} (hi : i < n) : w.cell? ⟨k, i, none⟩ = some (.bool (F i)) := by rw [h.row.cellAt i (by omega), boL_at _ _ _ hi]
theorem BA.frozen (h : BA w B k n c F) (i : Nat) : w.frozen? ⟨k, i, none⟩ = false := h.row.frozenAt i
theorem BA.put (h : BA w B k n c F) (i : Nat) (x : Bool) : BA (w.setCell ⟨k, i, none⟩ (.bool x)) B k n c (fun j => if j = i then x else F j) := ⟨h.n2, by
  have := (h.row.stored i (.bool x)).1
  rw [boL_set] at this
  exact this⟩
theorem BA.ne {g n' b' c' : Nat} {W : Nat → Nat} (h : BA w B k n c F) {B' : Nat} (hM : BM w B' g n' b' c' W) : k ≠ g ∧ k ≠ b' := by
  rcases h.row.2 with ⟨hn, _⟩ | ⟨g', cap', cur, hv, hb, hg, _⟩
  · cases hn
  · injection hv with hv1 hv2 hv3
    injection hv1 with hv1
    injection hv1 with hv1
    subst hv1
    refine ⟨fun e => ?_, fun e => ?_⟩
    · rw [e] at hg
      have := hM.cells
      unfold Blk at this
      rw [hg] at this
      injection this with this
      injection this with h1 h2
      exact absurd h2 (by decide)
    · rcases hM.row.2 with ⟨hn, _⟩ | ⟨g2, cap2, cur2, hv2, hb2, hg2, _⟩
      · cases hn
      · injection hv2 with hw1 hw2 hw3
        injection hw1 with hw1
        injection hw1 with hw1
        subst hw1
        rw [e, hg2] at hg
        injection hg with hg
        injection hg with h1 h2
        exact absurd h2 (by decide)
end
end Go.Proofs.YtjlngldmdfbbaaaDoor

namespace Go.Proofs.YtjlngldmdfbbaaaDoor
set_option maxRecDepth 20000
open Go Go.RowKit
set_option linter.unusedVariables false
set_option linter.unusedSimpArgs false
def rnL : List (Nat × Nat) → List Value
  | [] => []
  | r :: l => .int .i64 (r.1 : Int) :: .int .i64 (r.2 : Int) :: rnL l
theorem rnL_len : ∀ l : List (Nat × Nat), (rnL l).length = l.length * 2
  | [] => rfl
  | r :: l => by simp [rnL, rnL_len l]; omega
theorem rnL_app : ∀ l m : List (Nat × Nat), rnL (l ++ m) = rnL l ++ rnL m
  | [], m => rfl
  | r :: l, m => by simp [rnL, rnL_app l m]
theorem rnL_at : ∀ (l : List (Nat × Nat)) (i : Nat) (r : Nat × Nat), l[i]? = some r → (rnL l)[i * 2]? = some (.int .i64 (r.1 : Int)) ∧ (rnL l)[i * 2 + 1]? = some (.int .i64 (r.2 : Int))
  | [], i, r, h => by simp at h
  | x :: l, 0, r, h => by
    simp at h
    subst h
    exact ⟨rfl, rfl⟩
  | x :: l, i + 1, r, h => by
    have ih := rnL_at l i r (by simpa using h)
    rw [show (i + 1) * 2 = i * 2 + 1 + 1 from by omega]
    exact ⟨ih.1, ih.2⟩
theorem rnL_set (l : List (Nat × Nat)) (a b i : Nat) : (rnL (l ++ [(a, b)])).set (l.length * 2 + 1) (.int .i64 (i : Int)) = rnL (l ++ [(a, i)]) := by
  rw [rnL_app, rnL_app, ← rnL_len l]
  rw [List.set_append_right _ _ (by omega)]
  simp [rnL]
theorem infoRun : (Tryd.prog.info? 47).map (fun i => (i.zero, i.size, i.bytes)) = some (some (.agg #[.int .i64 0, .int .i64 0]), 2, 16) := by kernel_rfl
theorem cells_new2 (w : World) (x y : Value) (t : TypeId) : ∀ j u, ([x, y] : List Value)[j]? = some u → (w.alloc (.cells #[x, y] t)).cell? ((⟨w.heap.size, 0, none⟩ : Addr).add j) = some u := cells_new w #[x, y] t
section
variable {B g n b c k : Nat} {W : Nat → Nat} {F : Nat → Bool}
set_option maxHeartbeats 4000000 in
theorem runs_any (w : World) (h0 : 0 < w.heap.size) (hT : TabAt w) (h : BM w B g n b c W) : Calls Tryd.prog 26 #[.pointer (some ⟨g, 0, none⟩)] w fun e w' => ∃ v, e = .returned v ∧ w'.ownsRow w.heap.size 47 2 v (runsL (bitF W) n).length (rnL (runsL (bitF W) n)) ∧ Below w.heap.size w w' := by
  obtain ⟨i0, hi, hz0, hz1, hz2⟩ := info_parts infoRun
  have hn2 := h.n2
  have HNX : Hid (∀ V : World, Below w.heap.size w V → ∀ f : Nat, Calls Tryd.prog 48 #[.pointer (some ⟨g, 0, none⟩), .int .i64 (f : Int)] V fun e w' => e = .returned (.int .i64 (nxt (bitF W) true n f)) ∧ w' = V) := fun V hV f => by
    have := next_any V (hT.below h0 hV) (h.below hV) (f : Int)
    rw [show fromN (f : Int) = f from by unfold fromN; omega] at this
    exact this
  have HFR : Hid (∀ V : World, Below w.heap.size w V → ∀ f : Nat, Calls Tryd.prog 41 #[.pointer (some ⟨g, 0, none⟩), .int .i64 (f : Int)] V fun e w' => e = .returned (.int .i64 (nxt (bitF W) false n f)) ∧ w' = V) := fun V hV f => by
    have := free_any V (hT.below h0 hV) (h.below hV) (f : Int)
    rw [show fromN (f : Int) = f from by unfold fromN; omega] at this
    exact this
  have HM : Hid (∀ V : World, Below w.heap.size w V → V.cell? ⟨g, 0, none⟩ = some (.int .i64 (n : Int))) := fun V hV => (h.below hV).c0
  clear h hT h0
  have HN0 : Hid (Calls Tryd.prog 48 #[.pointer (some ⟨g, 0, none⟩), .int .i64 0] w fun e w' => e = .returned (.int .i64 (nxt (bitF W) true n 0)) ∧ w' = w) := HNX.out w (Below.refl _ _) 0
  generalize hF : bitF W = F at *
  clear hF
  go_enter Tryd.func26, Tryd.ntmps26
  go_wp2_with fail
  refine HN0.out.mono ?_
  intro e w2 hw2
  obtain ⟨he2, hw2⟩ := hw2
  subst he2
  subst hw2
  go_wp2_with fail
  go_loopw [3, 4] (fun l t wr => ∃ (e : Nat), e ≤ n ∧ t = .int .i64 (nxt F true n e) ∧ (e = 0 ∨ e = n ∨ F e = false) ∧ wr.ownsRow w2.heap.size 47 2 l (runsL F e).length (rnL (runsL F e)) ∧ Below w2.heap.size w2 wr) (fun _ t _ => if intOf t < 0 then 0 else n + 1 - (intOf t).toNat)
  case atStart => exact ⟨0, by omega, rfl, .inl rfl, World.ownsRow_nil _ _ _ _, Below.refl _ _⟩
  case round =>
    obtain ⟨e, he, rfl, hz, hown, hb⟩ := hrel
    have hx := nxt_is F true n e
    generalize hr : nxt F true n e = r at *
    by_cases hneg : r = -1
    · subst hneg
      have HE : Hid (runsL F n = runsL F e) := by
        show runsL F n = runsL F e
        have := runsL_gap F e (n - e) fun p h1 h2 => hx.none rfl p h1 (by omega)
        rw [show e + (n - e) = n from by omega] at this
        exact this
      rw [← HE.out] at hown
      clear hx hr hz
      go_wp2_with fail
      go_ret
      exact ⟨_, rfl, hown, hb⟩
    · obtain ⟨p, rfl, p1, p2, p3, p4⟩ := hx.some hneg
      have HP : Hid (runsL F p = runsL F e) := by
        show runsL F p = runsL F e
        have := runsL_gap F e (p - e) fun q h1 h2 => p4 q h1 (by omega)
        rw [show e + (p - e) = p from by omega] at this
        exact this
      have HP0 : p = 0 ∨ F (p - 1) = false := by
        by_cases hpe : p = e
        · rcases hz with z | z | z
          · exact .inl (hpe.trans z)
          · omega
          · rw [← hpe, p3] at z; cases z
        · exact .inr (p4 (p - 1) (by omega) (by omega))
      rw [← HP.out] at hown
      clear hx hr hz hneg p4
      have hy := nxt_is F false n p
      have a0 : (0 : Int) ≤ (p : Int) := by omega
      have c0 := HM.out wr hb
      have HFC := HFR.out wr hb p
      have key : ∀ d : Nat, p < d → d ≤ n → (∀ q, p ≤ q → q < d → F q = true) → runsL F d = runsL F p ++ [(p, d - 1)] := fun d h1 h2 h3 => by
        have := runsL_run F p HP0 (d - p - 1) fun q q1 q2 => h3 q q1 (by omega)
        rw [show p + (d - p - 1 + 1) = d from by omega, show p + (d - p - 1) = d - 1 from by omega] at this
        exact this
      have hlen := runsL_len F p
      obtain ⟨la, lc, hl3⟩ := kown_slice hown
      subst hl3
      have HLT := hown.lt
      -- what Free answers: a place d behind p, or none
      obtain ⟨d, hd1, hd2, hd3, hd4, hdv⟩ : ∃ d : Nat, p < d ∧ d ≤ n ∧ (∀ q, p ≤ q → q < d → F q = true) ∧ (d = n ∨ F d = false) ∧ ((nxt F false n p = (d : Int)) ∨ (nxt F false n p = -1 ∧ d = n)) := by
        by_cases hm : nxt F false n p = -1
        · exact ⟨n, p2, Nat.le_refl _, fun q h1 h2 => hy.none hm q h1 h2, .inl rfl, .inr ⟨hm, rfl⟩⟩
        · obtain ⟨d, e1, e2, e3, e4, e5⟩ := hy.some hm
          refine ⟨d, ?_, by omega, fun q h1 h2 => e5 q h1 h2, .inr e4, .inl e1⟩
          rcases Nat.lt_or_ge p d with z | z
          · exact z
          · have : d = p := by omega
            rw [this, p3] at e4; cases e4
      have HK : Hid (runsL F d = runsL F p ++ [(p, d - 1)]) := key d hd1 hd2 hd3
      have HROW : Hid (∀ (V : World) (v : Value), V.ownsRow w2.heap.size 47 2 v ((runsL F p).length + 1) (rnL (runsL F p) ++ [.int .i64 (p : Int), .int .i64 ((d : Int) - 1)]) → V.ownsRow w2.heap.size 47 2 v (runsL F d).length (rnL (runsL F d))) := fun V v hv => by
        rw [HK.out, rnL_app, List.length_append]
        rw [show ((d : Int) - 1) = ((d - 1 : Nat) : Int) from by omega] at hv
        exact hv
      have HNEW : Hid (∀ j u, ([.int .i64 (p : Int), .int .i64 ((d : Int) - 1)] : List Value)[j]? = some u → (wr.alloc (.cells #[.int .i64 (p : Int), .int .i64 ((d : Int) - 1)] 47)).cell? ((⟨wr.heap.size, 0, none⟩ : Addr).add j) = some u) := cells_new2 _ _ _ _
      have HOWN : Hid ((wr.alloc (.cells #[.int .i64 (p : Int), .int .i64 ((d : Int) - 1)] 47)).ownsRow w2.heap.size 47 2 (.slice la (runsL F p).length lc) (runsL F p).length (rnL (runsL F p))) := hown.alloc _
      have hbs := hb.size
      have HB : Hid (Below w2.heap.size w2 wr) := hb
      clear hy key hown p3 hd3 HP HP0 hb
      rcases hdv with hdv | ⟨hdv, hdn⟩
      · rw [hdv] at HFC
        have a1 : ¬ ((d : Int) < 0) := by omega
        have HD : Hid (d = n ∨ F d = false) := hd4
        have HPD : Hid (p < d ∧ d ≤ n ∧ p < n) := ⟨hd1, hd2, p2⟩
        clear hd4 hdv
        generalize hm0 : (runsL F p).length = m at *
        clear hm0
        go_wp2_with fail
        refine HFC.mono ?_
        intro e2 w3 hw3
        obtain ⟨he3, hw3⟩ := hw3
        subst he3
        subst hw3
        go_wp2_with (first
          | (refine wpList_build1 (by rfl) 43 47 _ (by rfl) #[.int .i64 (p : Int), .int .i64 ((d : Int) - 1)] (by rfl) i0 _ 2 Tryd.underlying43 hi hz0 hz1 rfl (by decide) (by decide) ?_; simp only [Act.put, List.setIfInBounds_toArray, List.set_cons_zero, List.set_cons_succ])
          | (at_builtin; refine bi_append_at rfl _ _ 43 rfl w2.heap.size 47 i0 _ 2 16 Tryd.underlying43 hi hz0 hz1 hz2 rfl (by decide) _ _ _ rfl HOWN.out ⟨w3.heap.size, 0, none⟩ 1 1 [.int .i64 (p : Int), .int .i64 ((d : Int) - 1)] rfl rfl HNEW.out (fun u hu => by simp at hu; rcases hu with rfl | rfl <;> rfl) (by unfold maxLen; omega) (by omega) (by simp; omega) ?_)
          | go_in)
        intro v4 w4 hown4 hgrow4 _
        have hb4 : Below w2.heap.size w2 w4 := (HB.out.alloc hbs _).grown hgrow4 (by simp; omega) (fun k hk => (HLT k hk).1)
        obtain ⟨g4, cap4, rfl, hg4, hg4'⟩ := kown_form hown4 (Nat.succ_pos m)
        have hown5 := HROW.out _ _ hown4
        have HN4 := HNX.out w4 hb4 d
        clear hown4 hgrow4 HOWN HNEW HROW HLT
        go_wp2_with fail
        refine HN4.mono ?_
        intro e5 w5 hw5
        obtain ⟨he5, hw5⟩ := hw5
        subst he5
        subst hw5
        go_wp2_with fail
        go_roundw
        case rel => exact ⟨d, HPD.out.2.1, rfl, .inr HD.out, hown5, hb4⟩
        case measure =>
          have hz := nxt_range F true n d
          have hP := HPD.out
          have hs := (nxt_is F true n d).some
          show (if nxt F true n d < 0 then 0 else n + 1 - (nxt F true n d).toNat) < (if (p : Int) < 0 then 0 else n + 1 - ((p : Int)).toNat)
          generalize nxt F true n d = r at *
          by_cases hr : r = -1
          · rw [if_pos (by omega), if_neg (by omega)]; omega
          · obtain ⟨x, e1, e2, _⟩ := hs hr
            rw [if_neg (by omega), if_neg (by omega)]
            omega
      · rw [hdv] at HFC
        subst hdn
        have HD : Hid (d = d ∨ F d = false) := hd4
        have HPD : Hid (p < d ∧ d ≤ d ∧ p < d) := ⟨hd1, hd2, p2⟩
        clear hd4 hdv
        generalize hm0 : (runsL F p).length = m at *
        clear hm0
        go_wp2_with fail
        refine HFC.mono ?_
        intro e2 w3 hw3
        obtain ⟨he3, hw3⟩ := hw3
        subst he3
        subst hw3
        go_wp2_with (first
          | (refine wpList_build1 (by rfl) 43 47 _ (by rfl) #[.int .i64 (p : Int), .int .i64 ((d : Int) - 1)] (by rfl) i0 _ 2 Tryd.underlying43 hi hz0 hz1 rfl (by decide) (by decide) ?_; simp only [Act.put, List.setIfInBounds_toArray, List.set_cons_zero, List.set_cons_succ])
          | (at_builtin; refine bi_append_at rfl _ _ 43 rfl w2.heap.size 47 i0 _ 2 16 Tryd.underlying43 hi hz0 hz1 hz2 rfl (by decide) _ _ _ rfl HOWN.out ⟨w3.heap.size, 0, none⟩ 1 1 [.int .i64 (p : Int), .int .i64 ((d : Int) - 1)] rfl rfl HNEW.out (fun u hu => by simp at hu; rcases hu with rfl | rfl <;> rfl) (by unfold maxLen; omega) (by omega) (by simp; omega) ?_)
          | go_in)
        intro v4 w4 hown4 hgrow4 _
        have hb4 : Below w2.heap.size w2 w4 := (HB.out.alloc hbs _).grown hgrow4 (by simp; omega) (fun k hk => (HLT k hk).1)
        obtain ⟨g4, cap4, rfl, hg4, hg4'⟩ := kown_form hown4 (Nat.succ_pos m)
        have hown5 := HROW.out _ _ hown4
        have HN4 := HNX.out w4 hb4 d
        clear hown4 hgrow4 HOWN HNEW HROW HLT
        go_wp2_with fail
        refine HN4.mono ?_
        intro e5 w5 hw5
        obtain ⟨he5, hw5⟩ := hw5
        subst he5
        subst hw5
        go_wp2_with fail
        go_roundw
        case rel => exact ⟨d, HPD.out.2.1, rfl, .inr (.inl rfl), hown5, hb4⟩
        case measure =>
          have hz := nxt_range F true d d
          have hP := HPD.out
          have hs := (nxt_is F true d d).some
          show (if nxt F true d d < 0 then 0 else d + 1 - (nxt F true d d).toNat) < (if (p : Int) < 0 then 0 else d + 1 - ((p : Int)).toNat)
          generalize nxt F true d d = r at *
          by_cases hr : r = -1
          · rw [if_pos (by omega), if_neg (by omega)]; omega
          · obtain ⟨x, e1, e2, _⟩ := hs hr
            rw [if_neg (by omega), if_neg (by omega)]
            omega
end
end Go.Proofs.YtjlngldmdfbbaaaDoor

namespace Go.Proofs.YtjlngldmdfbbaaaDoor
open Go Go.RowKit
set_option linter.unusedVariables false
set_option linter.unusedSimpArgs false
/-- a slice of deeds, handed in -/
def IsDeeds (w : World) (a : Option Addr) (N : Nat) (K A Z : Nat → Int) : Prop :=
  ∀ i, i < N → ∃ b o, a = some ⟨b, o, none⟩ ∧ b < w.heap.size ∧ w.cell? ⟨b, o + i * 3, none⟩ = some (.int .i64 (K i)) ∧ w.cell? ⟨b, o + i * 3 + 1, none⟩ = some (.int .i64 (A i)) ∧ w.cell? ⟨b, o + i * 3 + 2, none⟩ = some (.int .i64 (Z i)) ∧ (-9223372036854775808 ≤ A i ∧ A i ≤ 9223372036854775807) ∧ (-9223372036854775808 ≤ Z i ∧ Z i ≤ 9223372036854775807)
theorem IsDeeds.below {w w' : World} {a : Option Addr} {N : Nat} {K A Z : Nat → Int} (h : IsDeeds w a N K A Z) (hb : Below w.heap.size w w') : IsDeeds w' a N K A Z := fun i hi => by
  obtain ⟨b, o, e, h1, h2, h3, h4, h5⟩ := h i hi
  have hblk := hb.block b h1
  refine ⟨b, o, e, Nat.lt_of_lt_of_le h1 hb.size, ?_, ?_, ?_, h5⟩
  · rw [← h2]; simp [World.cell?, hblk]
  · rw [← h3]; simp [World.cell?, hblk]
  · rw [← h4]; simp [World.cell?, hblk]
/-- a map and the list of what it must say -/
structure MK (w : World) (B g n b c k : Nat) (W : Nat → Nat) : Prop where
  m : BM w B g n b c W
  a : BA w B k n n (bitF W)
def Pl (w : World) (B n k : Nat) (v : Value) : Prop := ∃ g b c W, v = .pointer (some ⟨g, 0, none⟩) ∧ MK w B g n b c k W
section
variable {w w' : World} {B g n b c k : Nat} {W : Nat → Nat}
theorem MK.dN (h : MK w B g n b c k W) (m : Nat) : MK (w.drewN m) B g n b c k W := ⟨h.m.dN m, h.a.dN m⟩
theorem MK.below (h : MK w B g n b c k W) (hb : Below w.heap.size w w') : MK w' B g n b c k W := ⟨h.m.below hb, h.a.below hb⟩
/-- behind a Set: the list's bool laid, too -/
theorem MK.put (hA : BA w B k n n (bitF W)) {p : Nat} {x : Bool} {V : Nat → Nat} (hM : BM w B g n b c V) (he : ∀ q, bitF V q = if q = p then x else bitF W q) : MK (w.setCell ⟨k, p, none⟩ (.bool x)) B g n b c k V := by
  have h1 := hA.ne hM
  refine ⟨hM.only (Only.set w k p (.bool x)) h1.1 h1.2, ?_⟩
  exact (hA.put p x).congr fun i hi => (he i).symm
theorem put_if (W : Nat → Nat) (p q : Nat) : bitF (putW W p) q = if q = p then true else bitF W q := by
  rw [bitF_put]; by_cases h : q = p <;> simp [h]
end
end Go.Proofs.YtjlngldmdfbbaaaDoor
