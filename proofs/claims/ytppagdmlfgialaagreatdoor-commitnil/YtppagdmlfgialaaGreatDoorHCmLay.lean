/- Commits: the document's Lay of one leaf that is not zeros and is none of the image's blocks; what the fresh tree's blocks say. -/
import Derived.Test.YtppagdmlfgialaaGreatDoorHIoNum
import Derived.Handy
import Derived.Test.YtppagdmlfgialaaGreatDoorHLvStep
import Derived.Test.YtppagdmlfgialaaGreatDoorHSuKit
import Derived.Test.YtppagdmlfgialaaGreatDoorHBiKit
import Derived.Test.YtppagdmlfgialaaGreatDoorHIoRSize

namespace Go.Proofs.YtppagdmlfgialaaGreatDoor
theorem sgLHCmLay : (∀ (α : Type) (a : α) (l r : List α), (a :: l) ++ r = a :: (l ++ r)) ∧ (∀ (α : Type) (l : List α), [] ++ l = l) ∧ (∀ (α : Type) (l : List α), l ++ [] = l) ∧ (∀ (α β : Type) (f : α → Option β) (a : α) (l : List α), (a :: l).filterMap f = match f a with | none => l.filterMap f | some b => b :: l.filterMap f) ∧ (∀ (α β : Type) (f : α → Option β), [].filterMap f = []) ∧ (∀ (α : Type) (l : List α) (i : Nat), l.toArray[i]? = l[i]?) ∧ (∀ (α : Type) (a : α) (l : List α), (a :: l)[0]? = some a) ∧ (∀ (α : Type) (a : α) (l : List α) (i : Nat), (a :: l)[i + 1]? = l[i]?) :=
  ⟨fun _ _ _ _ => List.cons_append, fun _ _ => List.nil_append _, fun _ _ => List.append_nil _, fun _ _ _ _ _ => List.filterMap_cons, fun _ _ _ => List.filterMap_nil, fun _ _ _ => List.getElem?_toArray, fun _ _ _ => List.getElem?_cons_zero, fun _ _ _ _ => List.getElem?_cons_succ⟩
theorem sgPHCmLay : (∀ (α : Type) (l : List α) (i : Nat) (a : α), l.toArray.setIfInBounds i a = (l.set i a).toArray) ∧ (∀ (α : Type) (a b : α) (l : List α), (a :: l).set 0 b = b :: l) ∧ (∀ (α : Type) (a b : α) (l : List α) (i : Nat), (a :: l).set (i + 1) b = a :: l.set i b) :=
  ⟨fun _ _ _ _ => List.setIfInBounds_toArray _ _ _, fun _ _ _ _ => List.set_cons_zero, fun _ _ _ _ _ => List.set_cons_succ⟩
end Go.Proofs.YtppagdmlfgialaaGreatDoor
namespace Go.Proofs.YtppagdmlfgialaaGreatDoor
set_option maxRecDepth 20000
open Go Go.RowKit
set_option linter.unusedVariables false
set_option linter.unusedSimpArgs false
/-- a number's bytes as cells -/
def bD (n k : Nat) : List Value := (digs n k).map (Value.int .u8)
theorem bD_one (n k : Nat) : ∀ u ∈ bD n k, u.oneCell' = true := fun u hu => by
  unfold bD at hu
  obtain ⟨i, _, rfl⟩ := List.mem_map.1 hu
  rfl
theorem number2 (n : Nat) (hn : n < 18446744073709551616) (w : World) : Calls Tryz.prog 90 #[.int .u64 (n : Int), .int .i64 2] w fun e w' => ∃ v, e = .returned v ∧ w'.ownsRow w.heap.size 5 1 v 2 (bD n 2) ∧ Below w.heap.size w w' := number_own n 2 (by decide) hn w
theorem number4 (n : Nat) (hn : n < 18446744073709551616) (w : World) : Calls Tryz.prog 90 #[.int .u64 (n : Int), .int .i64 4] w fun e w' => ∃ v, e = .returned v ∧ w'.ownsRow w.heap.size 5 1 v 4 (bD n 4) ∧ Below w.heap.size w w' := number_own n 4 (by decide) hn w
theorem number8 (n : Nat) (hn : n < 18446744073709551616) (w : World) : Calls Tryz.prog 90 #[.int .u64 (n : Int), .int .i64 8] w fun e w' => ∃ v, e = .returned v ∧ w'.ownsRow w.heap.size 5 1 v 8 (bD n 8) ∧ Below w.heap.size w w' := number_own n 8 (by decide) hn w
/-- an own slice as what is appended -/
theorem own_src {w : World} {B n : Nat} {v : Value} {xs : List Value} (h : w.ownsRow B 5 1 v n xs) (hn : 0 < n) : ∃ g c, v = .slice (some ⟨g, 0, none⟩) n c ∧ ∀ j u, xs[j]? = some u → w.cell? ((⟨g, 0, none⟩ : Addr).add j) = some u := by
  rcases h.2 with ⟨_, h0⟩ | ⟨g, cap, cur, rfl, hg, hgg, hc, _, hs, ht⟩
  · omega
  · refine ⟨g, cap, rfl, fun j u hu => ?_⟩
    have hb : Blk w g 5 cur := hgg
    rw [Addr.add_mid, hb.cell]
    have hj : j < n * 1 := by
      have := (List.getElem?_eq_some_iff.1 hu).1
      rw [h.1] at this
      exact this
    rw [← ht, List.getElem?_take, if_pos hj] at hu
    rw [Nat.zero_add]
    rw [← hu, Array.getElem?_toList]
theorem qown_ne {w : World} {B n gz : Nat} {v : Value} {xs : List Value} {cs : Array Value} (h : w.ownsRow B 5 1 v n xs) (hz : Blk w gz 5 cs) (hs : cs.size < n) : v.ownBlock ≠ some gz := fun e => by
  rcases h.2 with ⟨rfl, h0⟩ | ⟨g, cap, cur, rfl, hg, hgg, hc, _, hs2, ht⟩
  · omega
  · simp only [Value.ownBlock, Option.some.injEq] at e
    subst e
    have h1 : some (Obj.cells cur 5 (0, 0)) = some (Obj.cells cs 5 (0, 0)) := hgg.symm.trans hz
    injection h1 with h1
    injection h1 with h1
    subst h1
    omega
theorem zz_cells {w : World} {g : Nat} (h : Blk w g 5 #[.int .u8 0, .int .u8 0]) : ∀ j u, ([.int .u8 0, .int .u8 0] : List Value)[j]? = some u → w.cell? ((⟨g, 0, none⟩ : Addr).add j) = some u := fun j u hu => by
  rw [Addr.add_mid, h.cell, Nat.zero_add]
  rw [← hu]
  simp
theorem qfour_new (w : World) (t : TypeId) : ∀ j u, ([.int .u8 0, .int .u8 0, .int .u8 0, .int .u8 0] : List Value)[j]? = some u → (w.alloc (.cells #[.int .u8 0, .int .u8 0, .int .u8 0, .int .u8 0] t)).cell? ((⟨w.heap.size, 0, none⟩ : Addr).add j) = some u := fun j u hu => by
  have h : Blk (w.alloc (.cells #[.int .u8 0, .int .u8 0, .int .u8 0, .int .u8 0] t)) w.heap.size t #[.int .u8 0, .int .u8 0, .int .u8 0, .int .u8 0] := Blk.new _ _ _
  rw [Addr.add_mid, h.cell, Nat.zero_add]
  rw [← hu]
  simp
theorem bD_by (n k : Nat) : bD n k = byL (dig n) k := by
  unfold bD byL digs dig
  rw [List.map_map]
  rfl
def renA (x : Ino) (B : Nat) (v : World) (k l0 h0 : Nat) (l : Array Bool) (a : Act) (W : World) : Prop :=
  ∃ (x4 x12 x16 x17 x22 x23 x24 x25 : Value) (gz : Nat), a = ({ tmps := #[Value.agg (inC x), Value.pointer (some ⟨B, 0, none⟩), Value.string ⟨#[]⟩, Value.bool false, x4, undef, Value.agg (inC x), Value.bool true, Value.bool false, Value.pointer (some ⟨B, 0, none⟩), Value.int .i64 (k : Int), Value.int .u64 (k : Int), x12, Value.pointer (some ⟨B, 1, none⟩), Value.int .i64 (l0 : Int), Value.int .u64 (l0 : Int), x16, x17, Value.pointer (some ⟨B, 4, none⟩), Value.pointer (some ⟨B, 4, none⟩), Value.int .i64 (h0 : Int), Value.int .u64 (h0 : Int), x22, x23, x24, x25, undef, undef, undef, undef, undef, undef, undef, undef, undef, undef, undef, undef, undef, undef, undef, undef, undef, undef, undef, undef, undef, undef, undef, undef, undef, undef, undef, undef, undef, undef, undef, undef, undef, undef], defers := [] } : Act) ∧ Hid (l.size = 18 ∧ Blk W B 116 (inC x) ∧ Below v.heap.size v W ∧
    (l.getD 3 false = true → l.getD 8 false = false → W.ownsRow v.heap.size 5 1 x12 2 (bD k 2) ∧ (l.getD 15 false = true → x12.ownBlock ≠ some gz)) ∧ (l.getD 7 false = true → l.getD 8 false = false → W.ownsRow v.heap.size 5 1 x16 2 (bD l0 2)) ∧ (l.getD 8 false = true → l.getD 14 false = false → W.ownsRow v.heap.size 5 1 x17 4 (bD k 2 ++ bD l0 2)) ∧ (l.getD 13 false = true → l.getD 14 false = false → W.ownsRow v.heap.size 5 1 x22 2 (bD h0 2)) ∧ (l.getD 14 false = true → l.getD 16 false = false → W.ownsRow v.heap.size 5 1 x23 6 (bD k 2 ++ bD l0 2 ++ bD h0 2)) ∧ (l.getD 15 false = true → l.getD 16 false = false → x24 = .slice (some ⟨gz, 0, none⟩) 2 2 ∧ Blk W gz 5 #[.int .u8 0, .int .u8 0]) ∧ (l.getD 16 false = true → W.ownsRow v.heap.size 5 1 x25 8 (bD k 2 ++ bD l0 2 ++ bD h0 2 ++ [.int .u8 0, .int .u8 0])) ∧ (l.getD 17 false = true → x4 = x25))
set_option maxHeartbeats 16000000 in
theorem rencode_ok (x : Ino) (hx : InW x) (hc : chk x = true) (w : World) : Calls Tryz.prog 41 #[.agg (inC x)] w fun e w' => e = .returned (.tuple #[.string (strN (inB x) 64), .bool true]) ∧ Below w.heap.size w w' := by
  obtain ⟨i0, hi, hz0, hz1, hz2⟩ := info_parts infoU8k
  obtain ⟨b1, b2, b3, b4, b5, b6⟩ := chk_small hc
  have r0 : Blk (w.alloc (.cells (inC x) 116)) w.heap.size 116 (inC x) := Blk.new _ _ _
  have HB : Hid (Below w.heap.size w (w.alloc (.cells (inC x) 116)) ∧ w.heap.size < (w.alloc (.cells (inC x) 116)).heap.size) := ⟨below_new1 _ _, by simp⟩
  have HC : Hid (∀ w : World, Calls Tryz.prog 89 #[.agg (inC x)] w fun e w' => e = .returned (.bool true) ∧ Below w.heap.size w w') := by
    have := rcheck_any x hx
    rw [hc] at this
    exact this
  obtain ⟨k, hX0⟩ : ∃ k : Nat, Value.int .i64 x.k = Value.int .i64 (k : Int) := ⟨x.k.toNat, by congr 1; omega⟩
  obtain ⟨l0, hX1⟩ : ∃ k : Nat, Value.int .i64 x.l = Value.int .i64 (k : Int) := ⟨x.l.toNat, by congr 1; omega⟩
  obtain ⟨s0, hX2⟩ : ∃ k : Nat, Value.int .i64 x.s = Value.int .i64 (k : Int) := ⟨x.s.toNat, by congr 1; omega⟩
  obtain ⟨t0, hX3⟩ : ∃ k : Nat, Value.int .u64 ((x.t : Nat) : Int) = Value.int .u64 (k : Int) := ⟨x.t, rfl⟩
  obtain ⟨h0, hX4⟩ : ∃ k : Nat, Value.int .i64 x.h = Value.int .i64 (k : Int) := ⟨x.h.toNat, by congr 1; omega⟩
  have j0 : x.k = (k : Int) := by injection hX0
  have j1 : x.l = (l0 : Int) := by injection hX1
  have j2 : x.s = (s0 : Int) := by injection hX2
  have j3 : ((x.t : Nat) : Int) = (t0 : Int) := by injection hX3
  have j4 : x.h = (h0 : Int) := by injection hX4
  have hxt := hx.t
  have hk2 : k < 18446744073709551616 := by omega
  have hl2 : l0 < 18446744073709551616 := by omega
  have hh2 : h0 < 18446744073709551616 := by omega
  have hs2 : s0 < 18446744073709551616 := by omega
  have ht2 : t0 < 18446744073709551616 := by omega
  have hw0 : IntKind.u64.wrap (k : Int) = (k : Int) := wrap_u64 k hk2
  have hw1 : IntKind.u64.wrap (l0 : Int) = (l0 : Int) := wrap_u64 l0 hl2
  have hw2 : IntKind.u64.wrap (h0 : Int) = (h0 : Int) := wrap_u64 h0 hh2
  have hw3 : IntKind.u64.wrap (s0 : Int) = (s0 : Int) := wrap_u64 s0 hs2
  have HL8 : Hid (bD k 2 ++ bD l0 2 ++ bD h0 2 ++ [Value.int .u8 0, Value.int .u8 0] = byL (inB x) 8) := by
    show _ = byL (inB x) (2 + 2 + 2 + 2)
    rw [byL_add, byL_add, byL_add, bD_by, bD_by, bD_by]
    have e1 : byL (dig k) 2 = byL (inB x) 2 := byL_congr fun j hj => by unfold inB; rw [if_pos hj, show x.k.toNat = k by omega]
    have e2 : byL (dig l0) 2 = byL (fun j => inB x (2 + j)) 2 := byL_congr fun j hj => by unfold inB; rw [if_neg (by omega), if_pos (by omega), show x.l.toNat = l0 by omega, show 2 + j - 2 = j by omega]
    have e3 : byL (dig h0) 2 = byL (fun j => inB x (2 + 2 + j)) 2 := byL_congr fun j hj => by unfold inB; rw [if_neg (by omega), if_neg (by omega), if_pos (by omega), show x.h.toNat = h0 by omega, show 2 + 2 + j - 4 = j by omega]
    rw [e1, e2, e3]
    congr 1
  have HL16 : Hid (byL (inB x) 8 ++ bD s0 8 = byL (inB x) 16) := by
    show _ = byL (inB x) (8 + 8)
    rw [byL_add, bD_by]
    congr 1
    exact byL_congr fun j hj => by unfold inB; rw [if_neg (by omega), if_neg (by omega), if_neg (by omega), if_neg (by omega), if_pos (by omega), show x.s.toNat = s0 by omega, show 8 + j - 8 = j by omega]
  have HL24 : Hid (byL (inB x) 16 ++ bD t0 8 = byL (inB x) 24) := by
    show _ = byL (inB x) (16 + 8)
    rw [byL_add, bD_by]
    congr 1
    exact byL_congr fun j hj => by unfold inB; rw [if_neg (by omega), if_neg (by omega), if_neg (by omega), if_neg (by omega), if_neg (by omega), if_pos (by omega), show x.t = t0 by omega, show 16 + j - 16 = j by omega]
  have HL28 : Hid (byL (inB x) 24 ++ bD x.r.1 4 = byL (inB x) 28) := by
    show _ = byL (inB x) (24 + 4)
    rw [byL_add, bD_by]
    congr 1
  have HD : Hid (okD x.r.2 ∧ x.r.1 < 18446744073709551616) := ⟨hx.d, by have := hx.a; omega⟩
  clear j0 j1 j2 j3 j4 b1 b2 b3 b4 b5 b6 hc hx hxt
  go_enter Tryz.func41, Tryz.ntmps41
  go_wp2_with (first | (refine wpList_load_row (by rfl) 116 _ (by rfl) (w.heap.size) (by rfl) 116 (inC x) (0, 0) _ (by exact r0) Tryz.underlying116 (by rfl) (sizeRIno.trans (by rw [inC_size])) ?_; simp only [Act.put, sgPHCmLay]) | fail)
  refine (HC.out _).mono ?_
  intro e v hv2
  obtain ⟨he2, hb2⟩ := hv2
  subst he2
  have HV : Hid (Blk v w.heap.size 116 (inC x) ∧ Below v.heap.size v v ∧ w.heap.size < v.heap.size) := ⟨r0.below hb2 HB.out.2, Below.refl _ _, Nat.lt_of_lt_of_le HB.out.2 hb2.size⟩
  have HBV : Hid (Below w.heap.size w v) := HB.out.1.trans (hb2.mono (by have := HB.out.2; omega))
  clear hb2 r0 HB HC
  go_wp2_with fail
  refine wp_region_mach (fun W => Blk W w.heap.size 116 (inC x)) (fun i l => match i with | 3 => !l.getD 3 false && !l.getD 16 false | 7 => l.getD 3 false && !l.getD 7 false && !l.getD 8 false | 8 => l.getD 3 false && l.getD 7 false && !l.getD 8 false && !l.getD 13 false && !l.getD 14 false && !l.getD 16 false | 13 => l.getD 8 false && !l.getD 14 false | 14 => l.getD 8 false && l.getD 13 false && !l.getD 14 false && !l.getD 16 false | 15 => !l.getD 15 false && !l.getD 16 false | 16 => l.getD 8 false && l.getD 14 false && l.getD 15 false && !l.getD 16 false && !l.getD 17 false | 17 => l.getD 16 false | _ => false)
    (fun l => l.getD 16 false && l.getD 17 false) [0, 1, 2, 4, 5, 6, 9, 10, 11, 12] 8 (renA x w.heap.size v k l0 h0) (by kernel_rfl) (by kernel_rfl) HV.out.1.drew ?_ ?_ ?_
  · refine ⟨_, Value.pointer (some ⟨w.heap.size, 0, none⟩), rfl, Or.inl ⟨by rfl, fun W hW => by go_simp⟩, ?_⟩
    simp only [Act.put, List.getElem_toArray, List.getElem_cons_zero, List.getElem_cons_succ, List.setIfInBounds_toArray, List.set_cons_zero, List.set_cons_succ]
    refine ⟨_, Value.int .i64 (k : Int), rfl, Or.inl ⟨by rfl, fun W hW => by have hW1 : W.cell? ⟨w.heap.size, 0, none⟩ = some (.int .i64 (k : Int)) := (ino_c0 hW).trans (congrArg some hX0); go_simp⟩, ?_⟩
    simp only [Act.put, List.getElem_toArray, List.getElem_cons_zero, List.getElem_cons_succ, List.setIfInBounds_toArray, List.set_cons_zero, List.set_cons_succ]
    refine ⟨_, Value.int .u64 (k : Int), rfl, Or.inl ⟨by rfl, fun W hW => by go_simp⟩, ?_⟩
    simp only [Act.put, List.getElem_toArray, List.getElem_cons_zero, List.getElem_cons_succ, List.setIfInBounds_toArray, List.set_cons_zero, List.set_cons_succ]
    refine ⟨_, Value.pointer (some ⟨w.heap.size, 1, none⟩), rfl, Or.inl ⟨by rfl, fun W hW => by go_simp⟩, ?_⟩
    simp only [Act.put, List.getElem_toArray, List.getElem_cons_zero, List.getElem_cons_succ, List.setIfInBounds_toArray, List.set_cons_zero, List.set_cons_succ]
    refine ⟨_, Value.int .i64 (l0 : Int), rfl, Or.inl ⟨by rfl, fun W hW => by have hW1 : W.cell? ⟨w.heap.size, 1, none⟩ = some (.int .i64 (l0 : Int)) := (ino_c1 hW).trans (congrArg some hX1); go_simp⟩, ?_⟩
    simp only [Act.put, List.getElem_toArray, List.getElem_cons_zero, List.getElem_cons_succ, List.setIfInBounds_toArray, List.set_cons_zero, List.set_cons_succ]
    refine ⟨_, Value.int .u64 (l0 : Int), rfl, Or.inl ⟨by rfl, fun W hW => by go_simp⟩, ?_⟩
    simp only [Act.put, List.getElem_toArray, List.getElem_cons_zero, List.getElem_cons_succ, List.setIfInBounds_toArray, List.set_cons_zero, List.set_cons_succ]
    refine ⟨_, Value.pointer (some ⟨w.heap.size, 4, none⟩), rfl, Or.inl ⟨by rfl, fun W hW => by go_simp⟩, ?_⟩
    simp only [Act.put, List.getElem_toArray, List.getElem_cons_zero, List.getElem_cons_succ, List.setIfInBounds_toArray, List.set_cons_zero, List.set_cons_succ]
    refine ⟨_, Value.pointer (some ⟨w.heap.size, 4, none⟩), rfl, Or.inl ⟨by rfl, fun W hW => by go_simp⟩, ?_⟩
    simp only [Act.put, List.getElem_toArray, List.getElem_cons_zero, List.getElem_cons_succ, List.setIfInBounds_toArray, List.set_cons_zero, List.set_cons_succ]
    refine ⟨_, Value.int .i64 (h0 : Int), rfl, Or.inl ⟨by rfl, fun W hW => by have hW1 : W.cell? ⟨w.heap.size, 4, none⟩ = some (.int .i64 (h0 : Int)) := (ino_c4 hW).trans (congrArg some hX4); go_simp⟩, ?_⟩
    simp only [Act.put, List.getElem_toArray, List.getElem_cons_zero, List.getElem_cons_succ, List.setIfInBounds_toArray, List.set_cons_zero, List.set_cons_succ]
    refine ⟨_, Value.int .u64 (h0 : Int), rfl, Or.inl ⟨by rfl, fun W hW => by go_simp⟩, ?_⟩
    simp only [Act.put, List.getElem_toArray, List.getElem_cons_zero, List.getElem_cons_succ, List.setIfInBounds_toArray, List.set_cons_zero, List.set_cons_succ]
    exact ⟨undef, undef, undef, undef, undef, undef, undef, undef, 0, rfl, rfl, HV.out.1.drew, HV.out.2.1.drew, fun h => absurd (show false = true from h) (by decide), fun h => absurd (show false = true from h) (by decide), fun h => absurd (show false = true from h) (by decide), fun h => absurd (show false = true from h) (by decide), fun h => absurd (show false = true from h) (by decide), fun h => absurd (show false = true from h) (by decide), fun h => absurd (show false = true from h) (by decide), fun h => absurd (show false = true from h) (by decide)⟩
  · intro j l a W hp hR
    obtain ⟨x4, x12, x16, x17, x22, x23, x24, x25, gz, rfl, H⟩ := hR
    have hj : j = 3 ∨ j = 7 ∨ j = 8 ∨ j = 13 ∨ j = 14 ∨ j = 15 ∨ j = 16 ∨ j = 17 := by
      split at hp <;> simp_all
    obtain ⟨hsz, hbox, hbel, f3, f7, f8, f13, f14, f15, f16, f17⟩ := H.out
    have hBv : w.heap.size < v.heap.size := HV.out.2.2
    have hvW : v.heap.size ≤ W.heap.size := hbel.size
    clear H
    rcases hj with rfl | rfl | rfl | rfl | rfl | rfl | rfl | rfl
    · simp only [Bool.and_eq_true, Bool.not_eq_true'] at hp
      simp only [sgLHCmLay]
      go_wp2_with fail
      refine (number2 k hk2 _).mono ?_
      intro e w3 hw3
      obtain ⟨vv, he3, ho3, hb3⟩ := hw3
      subst he3
      have HX : Hid (Blk w3 w.heap.size 116 (inC x)) := hbox.below hb3 hbox.lt
      have HR : Hid (_ ∧ _ ∧ _ ∧ _ ∧ _ ∧ _ ∧ _ ∧ _ ∧ _ ∧ _ ∧ _ ∧ _ ∧ _) := ⟨hsz, hbel.trans (hb3.mono hbel.size), f3, f7, f8, f13, f14, f15, f16, f17, hb3, ho3, hp⟩
      clear hsz hbox hbel f3 f7 f8 f13 f14 f15 f16 f17 hb3 ho3 hp
      go_wp2_with fail
      obtain ⟨hsz, hbel, f3, f7, f8, f13, f14, f15, f16, f17, hb3, ho3, hp⟩ := HR.out
      skip
      refine ⟨rfl, HX.out, x4, _, x16, x17, x22, x23, x24, x25, gz, rfl, ?_⟩
      exact ⟨by simpa using hsz, HX.out, hbel, fun _ p1 => ⟨kown_mono ho3 hvW, fun p2 => by rw [gs_ne (by decide)] at p2; rw [gs_ne (by decide)] at p1; intro e; have h1 := (ho3.lt gz e).1; have h2 := (f15 p2 hp.2).2.lt; omega⟩, fun p0 p1 => by rw [gs_ne (by decide)] at p0; rw [gs_ne (by decide)] at p1; exact kown_below (f7 p0 p1) hb3, fun p0 p1 => by rw [gs_ne (by decide)] at p0; rw [gs_ne (by decide)] at p1; exact kown_below (f8 p0 p1) hb3, fun p0 p1 => by rw [gs_ne (by decide)] at p0; rw [gs_ne (by decide)] at p1; exact kown_below (f13 p0 p1) hb3, fun p0 p1 => by rw [gs_ne (by decide)] at p0; rw [gs_ne (by decide)] at p1; exact kown_below (f14 p0 p1) hb3, fun p0 p1 => by rw [gs_ne (by decide)] at p0; rw [gs_ne (by decide)] at p1; exact ⟨(f15 p0 p1).1, (f15 p0 p1).2.below hb3 (f15 p0 p1).2.lt⟩, fun p0 => by rw [gs_ne (by decide)] at p0; exact kown_below (f16 p0) hb3, fun p0 => by rw [gs_ne (by decide)] at p0; exact f17 p0⟩
    · simp only [Bool.and_eq_true, Bool.not_eq_true'] at hp
      simp only [sgLHCmLay]
      go_wp2_with fail
      refine (number2 l0 hl2 _).mono ?_
      intro e w3 hw3
      obtain ⟨vv, he3, ho3, hb3⟩ := hw3
      subst he3
      have HX : Hid (Blk w3 w.heap.size 116 (inC x)) := hbox.below hb3 hbox.lt
      have HR : Hid (_ ∧ _ ∧ _ ∧ _ ∧ _ ∧ _ ∧ _ ∧ _ ∧ _ ∧ _ ∧ _ ∧ _ ∧ _) := ⟨hsz, hbel.trans (hb3.mono hbel.size), f3, f7, f8, f13, f14, f15, f16, f17, hb3, ho3, hp⟩
      clear hsz hbox hbel f3 f7 f8 f13 f14 f15 f16 f17 hb3 ho3 hp
      go_wp2_with fail
      obtain ⟨hsz, hbel, f3, f7, f8, f13, f14, f15, f16, f17, hb3, ho3, hp⟩ := HR.out
      skip
      refine ⟨rfl, HX.out, x4, x12, _, x17, x22, x23, x24, x25, gz, rfl, ?_⟩
      exact ⟨by simpa using hsz, HX.out, hbel, fun p0 p1 => by rw [gs_ne (by decide)] at p0; rw [gs_ne (by decide)] at p1; exact ⟨kown_below (f3 p0 p1).1 hb3, fun p2 => by rw [gs_ne (by decide)] at p2; exact (f3 p0 p1).2 p2⟩, fun _ p1 => kown_mono ho3 hvW, fun p0 p1 => by rw [gs_ne (by decide)] at p0; rw [gs_ne (by decide)] at p1; exact kown_below (f8 p0 p1) hb3, fun p0 p1 => by rw [gs_ne (by decide)] at p0; rw [gs_ne (by decide)] at p1; exact kown_below (f13 p0 p1) hb3, fun p0 p1 => by rw [gs_ne (by decide)] at p0; rw [gs_ne (by decide)] at p1; exact kown_below (f14 p0 p1) hb3, fun p0 p1 => by rw [gs_ne (by decide)] at p0; rw [gs_ne (by decide)] at p1; exact ⟨(f15 p0 p1).1, (f15 p0 p1).2.below hb3 (f15 p0 p1).2.lt⟩, fun p0 => by rw [gs_ne (by decide)] at p0; exact kown_below (f16 p0) hb3, fun p0 => by rw [gs_ne (by decide)] at p0; exact f17 p0⟩
    · simp only [Bool.and_eq_true, Bool.not_eq_true'] at hp
      have hown := (f3 hp.1.1.1.1.1 hp.1.1.1.2).1
      have hnz := (f3 hp.1.1.1.1.1 hp.1.1.1.2).2
      obtain ⟨gs, cs, rfl, hsc⟩ := own_src (f7 hp.1.1.1.1.2 hp.1.1.1.2) (by decide)
      have hsl : (bD l0 2).length = 2 * 1 := (f7 hp.1.1.1.1.2 hp.1.1.1.2).1
      have hs1 : ∀ u ∈ bD l0 2, u.oneCell' = true := bD_one l0 2
      have HR : Hid (_ ∧ _ ∧ _ ∧ _ ∧ _ ∧ _ ∧ _ ∧ _ ∧ _ ∧ _ ∧ _ ∧ _) := ⟨hsz, hbox, hbel, f3, f7, f8, f13, f14, f15, f16, f17, hp⟩
      clear hsz hbox hbel f3 f7 f8 f13 f14 f15 f16 f17 hp
      simp only [sgLHCmLay]
      refine wpList_append_own _ rfl _ _ 206 rfl v.heap.size 5 i0 (.int .u8 0) 1 1 Tryz.underlying206 hi hz0 hz1 hz2 rfl (by decide) x12 2 _ rfl hown ⟨gs, 0, none⟩ 2 cs _ rfl hsl hsc hs1 (by decide) (by decide) hvW ?_
      intro vv w3 ho hgr _
      have hlt := hown.lt
      simp only [Act.put, sgPHCmLay]
      go_wp2_with fail
      obtain ⟨hsz, hbox, hbel, f3, f7, f8, f13, f14, f15, f16, f17, hp⟩ := HR.out
      have HX : Hid (Blk w3 w.heap.size 116 (inC x)) := (hgr.block w.heap.size hbox.lt (fun e => by have := (hlt w.heap.size e.symm).1; omega)).trans hbox
      refine ⟨rfl, HX.out, x4, x12, _, _, x22, x23, x24, x25, gz, rfl, ?_⟩
      exact ⟨by simpa using hsz, HX.out, hbel.grown hgr (by omega) (fun b hb => (hlt b hb).1), fun p0 p1 => (by rw [gs_eq hsz (by decide)] at p1; cases p1), fun p0 p1 => (by rw [gs_eq hsz (by decide)] at p1; cases p1), fun _ _ => ho, fun p0 p1 => (by rw [gs_ne (by decide)] at p0; rw [hp.1.1.2] at p0; cases p0), fun p0 p1 => (by rw [gs_ne (by decide)] at p0; rw [hp.1.2] at p0; cases p0), fun p0 p1 => by rw [gs_ne (by decide)] at p0; rw [gs_ne (by decide)] at p1; exact ⟨(f15 p0 p1).1, (hgr.block gz (f15 p0 p1).2.lt (fun e => (hnz p0) e.symm)).trans (f15 p0 p1).2⟩, fun p0 => (by rw [gs_ne (by decide)] at p0; rw [hp.2] at p0; cases p0), fun p0 => by rw [gs_ne (by decide)] at p0; exact f17 p0⟩
    · simp only [Bool.and_eq_true, Bool.not_eq_true'] at hp
      simp only [sgLHCmLay]
      go_wp2_with fail
      refine (number2 h0 hh2 _).mono ?_
      intro e w3 hw3
      obtain ⟨vv, he3, ho3, hb3⟩ := hw3
      subst he3
      have HX : Hid (Blk w3 w.heap.size 116 (inC x)) := hbox.below hb3 hbox.lt
      have HR : Hid (_ ∧ _ ∧ _ ∧ _ ∧ _ ∧ _ ∧ _ ∧ _ ∧ _ ∧ _ ∧ _ ∧ _ ∧ _) := ⟨hsz, hbel.trans (hb3.mono hbel.size), f3, f7, f8, f13, f14, f15, f16, f17, hb3, ho3, hp⟩
      clear hsz hbox hbel f3 f7 f8 f13 f14 f15 f16 f17 hb3 ho3 hp
      go_wp2_with fail
      obtain ⟨hsz, hbel, f3, f7, f8, f13, f14, f15, f16, f17, hb3, ho3, hp⟩ := HR.out
      skip
      refine ⟨rfl, HX.out, x4, x12, x16, x17, _, x23, x24, x25, gz, rfl, ?_⟩
      exact ⟨by simpa using hsz, HX.out, hbel, fun p0 p1 => by rw [gs_ne (by decide)] at p0; rw [gs_ne (by decide)] at p1; exact ⟨kown_below (f3 p0 p1).1 hb3, fun p2 => by rw [gs_ne (by decide)] at p2; exact (f3 p0 p1).2 p2⟩, fun p0 p1 => by rw [gs_ne (by decide)] at p0; rw [gs_ne (by decide)] at p1; exact kown_below (f7 p0 p1) hb3, fun p0 p1 => by rw [gs_ne (by decide)] at p0; rw [gs_ne (by decide)] at p1; exact kown_below (f8 p0 p1) hb3, fun _ p1 => kown_mono ho3 hvW, fun p0 p1 => by rw [gs_ne (by decide)] at p0; rw [gs_ne (by decide)] at p1; exact kown_below (f14 p0 p1) hb3, fun p0 p1 => by rw [gs_ne (by decide)] at p0; rw [gs_ne (by decide)] at p1; exact ⟨(f15 p0 p1).1, (f15 p0 p1).2.below hb3 (f15 p0 p1).2.lt⟩, fun p0 => by rw [gs_ne (by decide)] at p0; exact kown_below (f16 p0) hb3, fun p0 => by rw [gs_ne (by decide)] at p0; exact f17 p0⟩
    · simp only [Bool.and_eq_true, Bool.not_eq_true'] at hp
      have hown := f8 hp.1.1.1 hp.1.2
      obtain ⟨gs, cs, rfl, hsc⟩ := own_src (f13 hp.1.1.2 hp.1.2) (by decide)
      have hsl : (bD h0 2).length = 2 * 1 := (f13 hp.1.1.2 hp.1.2).1
      have hs1 : ∀ u ∈ bD h0 2, u.oneCell' = true := bD_one h0 2
      have HR : Hid (_ ∧ _ ∧ _ ∧ _ ∧ _ ∧ _ ∧ _ ∧ _ ∧ _ ∧ _ ∧ _ ∧ _) := ⟨hsz, hbox, hbel, f3, f7, f8, f13, f14, f15, f16, f17, hp⟩
      clear hsz hbox hbel f3 f7 f8 f13 f14 f15 f16 f17 hp
      simp only [sgLHCmLay]
      refine wpList_append_own _ rfl _ _ 206 rfl v.heap.size 5 i0 (.int .u8 0) 1 1 Tryz.underlying206 hi hz0 hz1 hz2 rfl (by decide) x17 4 _ rfl hown ⟨gs, 0, none⟩ 2 cs _ rfl hsl hsc hs1 (by decide) (by decide) hvW ?_
      intro vv w3 ho hgr _
      have hlt := hown.lt
      simp only [Act.put, sgPHCmLay]
      go_wp2_with fail
      obtain ⟨hsz, hbox, hbel, f3, f7, f8, f13, f14, f15, f16, f17, hp⟩ := HR.out
      have HX : Hid (Blk w3 w.heap.size 116 (inC x)) := (hgr.block w.heap.size hbox.lt (fun e => by have := (hlt w.heap.size e.symm).1; omega)).trans hbox
      refine ⟨rfl, HX.out, x4, x12, x16, x17, _, _, x24, x25, gz, rfl, ?_⟩
      exact ⟨by simpa using hsz, HX.out, hbel.grown hgr (by omega) (fun b hb => (hlt b hb).1), fun p0 p1 => (by rw [gs_ne (by decide)] at p1; rw [hp.1.1.1] at p1; cases p1), fun p0 p1 => (by rw [gs_ne (by decide)] at p1; rw [hp.1.1.1] at p1; cases p1), fun p0 p1 => (by rw [gs_eq hsz (by decide)] at p1; cases p1), fun p0 p1 => (by rw [gs_eq hsz (by decide)] at p1; cases p1), fun _ _ => ho, fun p0 p1 => by rw [gs_ne (by decide)] at p0; rw [gs_ne (by decide)] at p1; exact ⟨(f15 p0 p1).1, (hgr.block gz (f15 p0 p1).2.lt (fun e => (qown_ne hown (f15 p0 p1).2 (by decide)) e.symm)).trans (f15 p0 p1).2⟩, fun p0 => (by rw [gs_ne (by decide)] at p0; rw [hp.2] at p0; cases p0), fun p0 => by rw [gs_ne (by decide)] at p0; exact f17 p0⟩
    · simp only [sgLHCmLay]
      have HR : Hid (_ ∧ _ ∧ _ ∧ _ ∧ _ ∧ _ ∧ _ ∧ _ ∧ _ ∧ _ ∧ _) := ⟨hsz, hbox, hbel, f3, f7, f8, f13, f14, f15, f16, f17⟩
      clear hsz hbox hbel f3 f7 f8 f13 f14 f15 f16 f17
      go_wp2_with fail
      obtain ⟨hsz, hbox, hbel, f3, f7, f8, f13, f14, f15, f16, f17⟩ := HR.out
      refine ⟨rfl, hbox.alloc _, x4, x12, x16, x17, x22, x23, _, x25, W.heap.size, rfl, ?_⟩
      exact ⟨by simpa using hsz, hbox.alloc _, hbel.alloc hbel.size _, fun p0 p1 => by rw [gs_ne (by decide)] at p0; rw [gs_ne (by decide)] at p1; exact ⟨(f3 p0 p1).1.alloc _, fun _ e => by have := ((f3 p0 p1).1.lt _ e).2; omega⟩, fun p0 p1 => by rw [gs_ne (by decide)] at p0; rw [gs_ne (by decide)] at p1; exact (f7 p0 p1).alloc _, fun p0 p1 => by rw [gs_ne (by decide)] at p0; rw [gs_ne (by decide)] at p1; exact (f8 p0 p1).alloc _, fun p0 p1 => by rw [gs_ne (by decide)] at p0; rw [gs_ne (by decide)] at p1; exact (f13 p0 p1).alloc _, fun p0 p1 => by rw [gs_ne (by decide)] at p0; rw [gs_ne (by decide)] at p1; exact (f14 p0 p1).alloc _, fun _ _ => ⟨rfl, Blk.new _ _ _⟩, fun p0 => by rw [gs_ne (by decide)] at p0; exact (f16 p0).alloc _, fun p0 => by rw [gs_ne (by decide)] at p0; exact f17 p0⟩
    · simp only [Bool.and_eq_true, Bool.not_eq_true'] at hp
      have hown := f14 hp.1.1.1.2 hp.1.2
      obtain ⟨rfl, hzb⟩ := f15 hp.1.1.2 hp.1.2
      have hnz := qown_ne hown hzb (by decide)
      have hsc : ∀ j u, ([.int .u8 0, .int .u8 0] : List Value)[j]? = some u → W.cell? ((⟨gz, 0, none⟩ : Addr).add j) = some u := zz_cells hzb
      have hsl : ([.int .u8 0, .int .u8 0] : List Value).length = 2 * 1 := rfl
      have hs1 : ∀ u ∈ ([.int .u8 0, .int .u8 0] : List Value), u.oneCell' = true := by decide
      have HR : Hid (_ ∧ _ ∧ _ ∧ _ ∧ _ ∧ _ ∧ _ ∧ _ ∧ _ ∧ _ ∧ _ ∧ _) := ⟨hsz, hbox, hbel, f3, f7, f8, f13, f14, f15, f16, f17, hp⟩
      clear hsz hbox hbel f3 f7 f8 f13 f14 f15 f16 f17 hp
      simp only [sgLHCmLay]
      refine wpList_append_own _ rfl _ _ 206 rfl v.heap.size 5 i0 (.int .u8 0) 1 1 Tryz.underlying206 hi hz0 hz1 hz2 rfl (by decide) x23 6 _ rfl hown ⟨gz, 0, none⟩ 2 2 _ rfl hsl hsc hs1 (by decide) (by decide) hvW ?_
      intro vv w3 ho hgr _
      have hlt := hown.lt
      simp only [Act.put, sgPHCmLay]
      go_wp2_with fail
      obtain ⟨hsz, hbox, hbel, f3, f7, f8, f13, f14, f15, f16, f17, hp⟩ := HR.out
      have HX : Hid (Blk w3 w.heap.size 116 (inC x)) := (hgr.block w.heap.size hbox.lt (fun e => by have := (hlt w.heap.size e.symm).1; omega)).trans hbox
      refine ⟨rfl, HX.out, x4, x12, x16, x17, x22, x23, _, _, gz, rfl, ?_⟩
      exact ⟨by simpa using hsz, HX.out, hbel.grown hgr (by omega) (fun b hb => (hlt b hb).1), fun p0 p1 => (by rw [gs_ne (by decide)] at p1; rw [hp.1.1.1.1] at p1; cases p1), fun p0 p1 => (by rw [gs_ne (by decide)] at p1; rw [hp.1.1.1.1] at p1; cases p1), fun p0 p1 => (by rw [gs_ne (by decide)] at p1; rw [hp.1.1.1.2] at p1; cases p1), fun p0 p1 => (by rw [gs_ne (by decide)] at p1; rw [hp.1.1.1.2] at p1; cases p1), fun p0 p1 => (by rw [gs_eq hsz (by decide)] at p1; cases p1), fun p0 p1 => (by rw [gs_eq hsz (by decide)] at p1; cases p1), fun _ => ho, fun p0 => (by rw [gs_ne (by decide)] at p0; rw [hp.2] at p0; cases p0)⟩
    · simp only [sgLHCmLay]
      have HR : Hid (_ ∧ _ ∧ _ ∧ _ ∧ _ ∧ _ ∧ _ ∧ _ ∧ _ ∧ _ ∧ _) := ⟨hsz, hbox, hbel, f3, f7, f8, f13, f14, f15, f16, f17⟩
      clear hsz hbox hbel f3 f7 f8 f13 f14 f15 f16 f17
      go_wp2_with fail
      obtain ⟨hsz, hbox, hbel, f3, f7, f8, f13, f14, f15, f16, f17⟩ := HR.out
      refine ⟨rfl, hbox, _, x12, x16, x17, x22, x23, x24, x25, gz, rfl, ?_⟩
      exact ⟨by simpa using hsz, hbox, hbel, fun p0 p1 => by rw [gs_ne (by decide)] at p0; rw [gs_ne (by decide)] at p1; exact ⟨(f3 p0 p1).1, fun p2 => by rw [gs_ne (by decide)] at p2; exact (f3 p0 p1).2 p2⟩, fun p0 p1 => by rw [gs_ne (by decide)] at p0; rw [gs_ne (by decide)] at p1; exact f7 p0 p1, fun p0 p1 => by rw [gs_ne (by decide)] at p0; rw [gs_ne (by decide)] at p1; exact f8 p0 p1, fun p0 p1 => by rw [gs_ne (by decide)] at p0; rw [gs_ne (by decide)] at p1; exact f13 p0 p1, fun p0 p1 => by rw [gs_ne (by decide)] at p0; rw [gs_ne (by decide)] at p1; exact f14 p0 p1, fun p0 p1 => by rw [gs_ne (by decide)] at p0; rw [gs_ne (by decide)] at p1; exact f15 p0 p1, fun p0 => by rw [gs_ne (by decide)] at p0; exact f16 p0, fun _ => rfl⟩
  · intro l a W hp hR
    obtain ⟨x4, x12, x16, x17, x22, x23, x24, x25, gz, rfl, H⟩ := hR
    simp only [Bool.and_eq_true] at hp
    obtain ⟨hsz, hbox, hbel, f3, f7, f8, f13, f14, f15, f16, f17⟩ := H.out
    clear H
    obtain rfl := f17 hp.2
    have HZ : Hid (_ ∧ _ ∧ _) := ⟨hbox, hbel, f16 hp.1⟩
    clear hbox hbel f3 f7 f8 f13 f14 f15 f16 f17 hsz hp l
    refine ⟨rfl, ?_⟩
    have HBV2 : Hid (Below w.heap.size w W ∧ w.heap.size < v.heap.size) := ⟨HBV.out.trans (HZ.out.2.1.mono (by have := HV.out.2.2; omega)), HV.out.2.2⟩
    have hvW : v.heap.size ≤ W.heap.size := HZ.out.2.1.size
    have own0 : W.ownsRow v.heap.size 5 1 x4 8 (byL (inB x) 8) := by
      have h := HZ.out.2.2
      rw [show bD k 2 ++ bD l0 2 ++ bD h0 2 ++ [Value.int .u8 0, Value.int .u8 0] = byL (inB x) 8 from HL8.out] at h
      exact h
    have box0 : Blk W w.heap.size 116 (inC x) := HZ.out.1
    clear HZ HV HBV HL8
    have hw5 : IntKind.u64.wrap ((x.r.1 : Nat) : Int) = ((x.r.1 : Nat) : Int) := wrap_u64 _ HD.out.2
    go_wp2_with fail
    have box_Wd : Blk W.drew w.heap.size 116 (inC x) := box0.drew
    have own_Wd : W.drew.ownsRow v.heap.size 5 1 x4 8 (byL (inB x) 8) := own0
    have hv_Wd : v.heap.size ≤ W.drew.heap.size := hvW
    have HB_Wd : Hid (Below w.heap.size w W.drew) := HBV2.out.1.drew
    clear box0 own0 hvW
    refine wp_region_partsS (fun W => Blk W w.heap.size 116 (inC x)) [([0], 1, true), ([], 2, true), ([], 3, true), ([], 6, true), ([], 7, true), ([], 10, true), ([], 11, true), ([], 12, true), ([], 13, true), ([], 14, true), ([], 4, false), ([], 5, false), ([], 8, false), ([], 9, false), ([], 15, false), ([], 16, false)] [17] [] (by kernel_rfl) (by kernel_rfl) box_Wd (partsI_yield ?_)
    simp only [sgLHCmLay]
    go_wp2_with fail
    refine ⟨rfl, _, .pointer (some ⟨w.heap.size, 2, none⟩), rfl, Or.inl ⟨by rfl, fun W hW => by go_simp⟩, partsI_yield ?_⟩
    simp only [Act.put, sgPHCmLay]
    simp only [sgLHCmLay]
    go_wp2_with fail
    refine ⟨rfl, _, .int .i64 (s0 : Int), rfl, Or.inl ⟨by rfl, fun W hW => by have hW1 : W.cell? ⟨w.heap.size, 2, none⟩ = some (.int .i64 (s0 : Int)) := (ino_c2 hW).trans (congrArg some hX2); go_simp⟩, partsI_yield ?_⟩
    simp only [Act.put, sgPHCmLay]
    simp only [sgLHCmLay]
    go_wp2_with fail
    refine ⟨rfl, _, .int .u64 (s0 : Int), rfl, Or.inl ⟨by rfl, fun W hW => by go_simp⟩, partsI_yield ?_⟩
    simp only [Act.put, sgPHCmLay]
    simp only [sgLHCmLay]
    go_wp2_with fail
    refine ⟨rfl, _, .pointer (some ⟨w.heap.size, 3, none⟩), rfl, Or.inl ⟨by rfl, fun W hW => by go_simp⟩, partsI_yield ?_⟩
    simp only [Act.put, sgPHCmLay]
    simp only [sgLHCmLay]
    go_wp2_with fail
    refine ⟨rfl, _, .int .u64 (t0 : Int), rfl, Or.inl ⟨by rfl, fun W hW => by have hW1 : W.cell? ⟨w.heap.size, 3, none⟩ = some (.int .u64 (t0 : Int)) := (ino_c3 hW).trans (congrArg some hX3); go_simp⟩, partsI_yield ?_⟩
    simp only [Act.put, sgPHCmLay]
    simp only [sgLHCmLay]
    go_wp2_with fail
    refine ⟨rfl, _, .pointer (some ⟨w.heap.size, 4, none⟩), rfl, Or.inl ⟨by rfl, fun W hW => by go_simp⟩, partsI_yield ?_⟩
    simp only [Act.put, sgPHCmLay]
    simp only [sgLHCmLay]
    go_wp2_with fail
    refine ⟨rfl, _, .pointer (some ⟨w.heap.size, 5, none⟩), rfl, Or.inl ⟨by rfl, fun W hW => by go_simp⟩, partsI_yield ?_⟩
    simp only [Act.put, sgPHCmLay]
    simp only [sgLHCmLay]
    go_wp2_with fail
    refine ⟨rfl, _, .pointer (some ⟨w.heap.size, 5, none⟩), rfl, Or.inl ⟨by rfl, fun W hW => by go_simp⟩, partsI_yield ?_⟩
    simp only [Act.put, sgPHCmLay]
    simp only [sgLHCmLay]
    go_wp2_with fail
    refine ⟨rfl, _, .int .u32 ((x.r.1 : Nat) : Int), rfl, Or.inl ⟨by rfl, fun W hW => by have hW1 : W.cell? ⟨w.heap.size, 5, none⟩ = some (.int .u32 ((x.r.1 : Nat) : Int)) := ino_c5 hW; go_simp⟩, partsI_yield ?_⟩
    simp only [Act.put, sgPHCmLay]
    simp only [sgLHCmLay]
    go_wp2_with fail
    refine ⟨rfl, _, .int .u64 ((x.r.1 : Nat) : Int), rfl, Or.inl ⟨by rfl, fun W hW => by go_simp⟩, partsI_force ?_⟩
    simp only [Act.put, sgPHCmLay]
    simp only [sgLHCmLay]
    go_wp2_with fail
    refine (number8 s0 hs2 _).mono ?_
    intro e w3 hw_w3
    obtain ⟨v8, he_w3, ho_w3, hb_w3⟩ := hw_w3
    subst he_w3
    have box_w3 : Blk w3 w.heap.size 116 (inC x) := Blk.below (w := W.drew) box_Wd hb_w3 (Blk.lt (w := W.drew) box_Wd)
    have own_w3 : w3.ownsRow v.heap.size 5 1 x4 8 (byL (inB x) 8) := kown_below (w := W.drew) own_Wd hb_w3
    have hv_w3 : v.heap.size ≤ w3.heap.size := Nat.le_trans hv_Wd hb_w3.size
    have HB_w3 : Hid (Below w.heap.size w w3) := HB_Wd.out.trans (hb_w3.mono (by have := HBV2.out.2; omega))
    obtain ⟨gs_w3, cs_w3, hq_w3, hsc_w3⟩ := own_src ho_w3 (by decide)
    subst hq_w3
    have hsl_w3 := ho_w3.1
    clear hb_w3 ho_w3 own_Wd HB_Wd
    go_wp2_with fail
    refine ⟨rfl, box_w3, partsI_force ?_⟩
    simp only [sgLHCmLay]
    refine wpList_append_own _ rfl _ _ 206 rfl v.heap.size 5 i0 (.int .u8 0) 1 1 Tryz.underlying206 hi hz0 hz1 hz2 rfl (by decide) x4 8 _ rfl own_w3 ⟨gs_w3, 0, none⟩ 8 cs_w3 _ rfl hsl_w3 hsc_w3 (bD_one s0 8) (by decide) (by decide) hv_w3 ?_
    intro a1 w4 ho_w4 hgr_w4 _
    have hlt_w4 := own_w3.lt
    have box_w4 : Blk w4 w.heap.size 116 (inC x) := (hgr_w4.block w.heap.size box_w3.lt (fun e => by have := (hlt_w4 w.heap.size e.symm).1; have := HBV2.out.2; omega)).trans box_w3
    have HB_w4 : Hid (Below w.heap.size w w4) := HB_w3.out.grown hgr_w4 (by have := HBV2.out.2; omega) (fun b hb => by have := (hlt_w4 b hb).1; have := HBV2.out.2; omega)
    have hv_w4 : v.heap.size ≤ w4.heap.size := Nat.le_trans hv_w3 hgr_w4.size
    have own_w4 : w4.ownsRow v.heap.size 5 1 a1 16 (byL (inB x) 16) := by rw [← HL16.out]; exact ho_w4
    clear hlt_w4 ho_w4 hgr_w4 own_w3 box_w3 hsl_w3 hsc_w3 HB_w3
    simp only [Act.put, sgPHCmLay]
    go_wp2_with fail
    refine ⟨rfl, box_w4, partsI_force ?_⟩
    simp only [sgLHCmLay]
    go_wp2_with fail
    refine (number8 t0 ht2 _).mono ?_
    intro e w5 hw_w5
    obtain ⟨v9, he_w5, ho_w5, hb_w5⟩ := hw_w5
    subst he_w5
    have box_w5 : Blk w5 w.heap.size 116 (inC x) := Blk.below (w := w4) box_w4 hb_w5 (Blk.lt (w := w4) box_w4)
    have own_w5 : w5.ownsRow v.heap.size 5 1 a1 16 (byL (inB x) 16) := kown_below (w := w4) own_w4 hb_w5
    have hv_w5 : v.heap.size ≤ w5.heap.size := Nat.le_trans hv_w4 hb_w5.size
    have HB_w5 : Hid (Below w.heap.size w w5) := HB_w4.out.trans (hb_w5.mono (by have := HBV2.out.2; omega))
    obtain ⟨gs_w5, cs_w5, hq_w5, hsc_w5⟩ := own_src ho_w5 (by decide)
    subst hq_w5
    have hsl_w5 := ho_w5.1
    clear hb_w5 ho_w5 own_w4 HB_w4
    go_wp2_with fail
    refine ⟨rfl, box_w5, partsI_force ?_⟩
    simp only [sgLHCmLay]
    refine wpList_append_own _ rfl _ _ 206 rfl v.heap.size 5 i0 (.int .u8 0) 1 1 Tryz.underlying206 hi hz0 hz1 hz2 rfl (by decide) a1 16 _ rfl own_w5 ⟨gs_w5, 0, none⟩ 8 cs_w5 _ rfl hsl_w5 hsc_w5 (bD_one t0 8) (by decide) (by decide) hv_w5 ?_
    intro a2 w6 ho_w6 hgr_w6 _
    have hlt_w6 := own_w5.lt
    have box_w6 : Blk w6 w.heap.size 116 (inC x) := (hgr_w6.block w.heap.size box_w5.lt (fun e => by have := (hlt_w6 w.heap.size e.symm).1; have := HBV2.out.2; omega)).trans box_w5
    have HB_w6 : Hid (Below w.heap.size w w6) := HB_w5.out.grown hgr_w6 (by have := HBV2.out.2; omega) (fun b hb => by have := (hlt_w6 b hb).1; have := HBV2.out.2; omega)
    have hv_w6 : v.heap.size ≤ w6.heap.size := Nat.le_trans hv_w5 hgr_w6.size
    have own_w6 : w6.ownsRow v.heap.size 5 1 a2 24 (byL (inB x) 24) := by rw [← HL24.out]; exact ho_w6
    clear hlt_w6 ho_w6 hgr_w6 own_w5 box_w5 hsl_w5 hsc_w5 HB_w5
    simp only [Act.put, sgPHCmLay]
    go_wp2_with fail
    refine ⟨rfl, box_w6, partsI_force ?_⟩
    simp only [sgLHCmLay]
    go_wp2_with fail
    refine (number4 x.r.1 HD.out.2 _).mono ?_
    intro e w7 hw_w7
    obtain ⟨v10, he_w7, ho_w7, hb_w7⟩ := hw_w7
    subst he_w7
    have box_w7 : Blk w7 w.heap.size 116 (inC x) := Blk.below (w := w6) box_w6 hb_w7 (Blk.lt (w := w6) box_w6)
    have own_w7 : w7.ownsRow v.heap.size 5 1 a2 24 (byL (inB x) 24) := kown_below (w := w6) own_w6 hb_w7
    have hv_w7 : v.heap.size ≤ w7.heap.size := Nat.le_trans hv_w6 hb_w7.size
    have HB_w7 : Hid (Below w.heap.size w w7) := HB_w6.out.trans (hb_w7.mono (by have := HBV2.out.2; omega))
    obtain ⟨gs_w7, cs_w7, hq_w7, hsc_w7⟩ := own_src ho_w7 (by decide)
    subst hq_w7
    have hsl_w7 := ho_w7.1
    clear hb_w7 ho_w7 own_w6 HB_w6
    go_wp2_with fail
    refine ⟨rfl, box_w7, partsI_force ?_⟩
    simp only [sgLHCmLay]
    refine wpList_append_own _ rfl _ _ 206 rfl v.heap.size 5 i0 (.int .u8 0) 1 1 Tryz.underlying206 hi hz0 hz1 hz2 rfl (by decide) a2 24 _ rfl own_w7 ⟨gs_w7, 0, none⟩ 4 cs_w7 _ rfl hsl_w7 hsc_w7 (bD_one x.r.1 4) (by decide) (by decide) hv_w7 ?_
    intro a3 w8 ho_w8 hgr_w8 _
    have hlt_w8 := own_w7.lt
    have box_w8 : Blk w8 w.heap.size 116 (inC x) := (hgr_w8.block w.heap.size box_w7.lt (fun e => by have := (hlt_w8 w.heap.size e.symm).1; have := HBV2.out.2; omega)).trans box_w7
    have HB_w8 : Hid (Below w.heap.size w w8) := HB_w7.out.grown hgr_w8 (by have := HBV2.out.2; omega) (fun b hb => by have := (hlt_w8 b hb).1; have := HBV2.out.2; omega)
    have hv_w8 : v.heap.size ≤ w8.heap.size := Nat.le_trans hv_w7 hgr_w8.size
    have own_w8 : w8.ownsRow v.heap.size 5 1 a3 28 (byL (inB x) 28) := by rw [← HL28.out]; exact ho_w8
    clear hlt_w8 ho_w8 hgr_w8 own_w7 box_w7 hsl_w7 hsc_w7 HB_w7
    simp only [Act.put, sgPHCmLay]
    go_wp2_with fail
    refine ⟨rfl, box_w8, partsI_last ?_⟩
    simp only [sgLHCmLay]
    go_wp2_with fail
    refine ⟨rfl, ?_⟩
    go_wp2_with fail
    clear hw0 hw1 hw2 hw3 hw5 hX0 hX1 hX2 hX3 hX4 HL16 HL24 HL28 hk2 hl2 hh2 hs2 ht2
    go_loopw [4, 5] (fun vv i wr => Hid (∃ j : Nat, j ≤ 32 ∧ i = .int .i64 (j : Int) ∧ wr.ownsRow v.heap.size 5 1 vv (28 + j) (byL (inB x) (28 + j)) ∧ Blk wr w.heap.size 116 (inC x) ∧ Below w.heap.size w wr ∧ v.heap.size ≤ wr.heap.size)) (fun _ i _ => 32 - (intOf i).toNat)
    case atStart => exact ⟨0, by omega, rfl, own_w8, box_w8, HB_w8.out, hv_w8⟩
    case round =>
      obtain ⟨j, hj, rfl, hown, hbox, hbel, hvr⟩ := Hid.out hrel
      clear hrel own_w8 box_w8 HB_w8 hv_w8
      by_cases hlt : j < 32
      · have j1 : (j : Int) < 32 := by omega
        have hb1 : wr.cell? ⟨w.heap.size, 6 + j, none⟩ = some (.int .u8 ((dF x.r.2 j : Nat) : Int)) := by
          rw [hbox.cell]
          unfold inC
          rw [va_at (inF x) (show 6 + j < 38 by omega)]
          unfold inF tiF rfF
          rw [if_neg (by omega), if_neg (by omega), if_neg (by omega), if_neg (by omega), if_neg (by omega), if_neg (by omega), show 6 + j - 4 - 1 - 1 = j by omega]
        have HS : Hid (byL (inB x) (28 + (j + 1)) = byL (inB x) (28 + j) ++ [.int .u8 ((dF x.r.2 j : Nat) : Int)]) := by
          show byL (inB x) (28 + j + 1) = _
          rw [byL_succ]
          congr 3
          unfold inB encR
          rw [if_neg (by omega), if_neg (by omega), if_neg (by omega), if_neg (by omega), if_neg (by omega), if_neg (by omega), if_pos (by omega), if_neg (by omega), show 28 + j - 24 - 4 = j by omega]
        generalize dF x.r.2 j = bb at *
        go_wp2_with (first
          | (at_builtin; refine wpList_append_own _ rfl _ _ 206 rfl v.heap.size 5 i0 (.int .u8 0) 1 1 Tryz.underlying206 hi hz0 hz1 hz2 rfl (by decide) u4 (28 + j) _ rfl (hown.alloc _) ⟨wr.heap.size, 0, none⟩ 1 1 [.int .u8 (bb : Int)] rfl rfl (cell_one_new _ _ _) (fun x hx => by simp at hx; subst hx; rfl) (by unfold maxLen; omega) (by omega) (by simp; omega) ?_)
          | fail)
        intro v' w1 ho hgr _
        have hlt2 := (hown.alloc (.cells #[.int .u8 (bb : Int)] 5)).lt
        have hv0 := HBV2.out.2
        have hbox2 : Blk w1 w.heap.size 116 (inC x) := (hgr.block w.heap.size (hbox.alloc _).lt (fun e => by have := (hlt2 w.heap.size e.symm).1; omega)).trans (hbox.alloc _)
        have hbel2 : Below w.heap.size w w1 := (hbel.alloc (by omega) _).grown hgr (by simp; omega) (fun b hb => by have := (hlt2 b hb).1; omega)
        have hsz2 : wr.heap.size + 1 ≤ w1.heap.size := by have := hgr.size; simpa using this
        clear hown hlt2 hgr hbox hbel hb1
        go_wp2_with fail
        go_roundw
        case rel => exact ⟨j + 1, by omega, by simp, by rw [HS.out]; exact ho, hbox2, hbel2, by omega⟩
        case measure => simp [intOf]; omega
      · have e : j = 32 := by omega
        subst e
        have hv0 := HBV2.out.2
        have HS : Hid (byL (inB x) 64 = byL (inB x) (28 + 32) ++ [.int .u8 0, .int .u8 0, .int .u8 0, .int .u8 0]) := by
          show byL (inB x) (60 + 4) = _
          rw [byL_add]
          congr 1
        go_wp2_with (first
          | (at_builtin; refine wpList_append_own _ rfl _ _ 206 rfl v.heap.size 5 i0 (.int .u8 0) 1 1 Tryz.underlying206 hi hz0 hz1 hz2 rfl (by decide) u4 (28 + 32) _ rfl (hown.alloc _) ⟨wr.heap.size, 0, none⟩ 4 4 [.int .u8 0, .int .u8 0, .int .u8 0, .int .u8 0] rfl rfl (qfour_new _ _) (by decide) (by decide) (by decide) (by simp; omega) ?_)
          | fail)
        intro v' w1 ho hgr _
        have hlt2 := (hown.alloc (.cells #[.int .u8 0, .int .u8 0, .int .u8 0, .int .u8 0] 5)).lt
        have HB9 : Hid (Below w.heap.size w w1) := (hbel.alloc (by omega) _).grown hgr (by simp; omega) (fun b hb => by have := (hlt2 b hb).1; omega)
        rw [← HS.out] at ho
        obtain ⟨g9, c9, hv9, _⟩ := own_src ho (by decide)
        subst hv9
        have hcv := run_own_text (P := Tryz.prog) w1 206 5 9 Tryz.underlying206 Tryz.underlying5 Tryz.underlying9 ho
        clear ho hlt2 hgr hown hbox hbel HS
        go_wp2_with fail
        go_ret2
        exact ⟨rfl, HB9.out⟩
end Go.Proofs.YtppagdmlfgialaaGreatDoor

namespace Go.Proofs.YtppagdmlfgialaaGreatDoor
open Go Go.RowKit
set_option linter.unusedSimpArgs false
set_option linter.unusedVariables false

theorem lvOk_one {f : Nat → Nat} (hf : ∀ j, f j < 256) : LvOk [((0 : Int), f)] := ⟨fun a ha => by
  obtain rfl : a = (0, f) := by simpa using ha
  exact ⟨Int.le_refl 0, (by decide : (0 : Int) ≤ 9223372036854775807)⟩, fun a ha => by
  obtain rfl : a = (0, f) := by simpa using ha
  exact hf⟩
theorem gJ_one (f : Nat → Nat) : gJ [((0 : Int), f)] 0 = f := by
  unfold gJ findIn
  rw [if_pos rfl]
  rfl
set_option maxRecDepth 100000 in
set_option maxHeartbeats 4000000 in
theorem lay0_one {B n m : Nat} {v : Value} {X : Nat → Nat} (f : Nat → Nat) (hf : ∀ j, f j < 256) (hnz : ¬ bkSame f fun _ => 0) (hdiff : ∀ a, 1 ≤ a → a < n → ¬ bkSame (blkAt X a) f) (hn : 1 ≤ n ∧ n ≤ 8000) (w : World) (hB : B ≤ w.heap.size) (hm : JM lfV w m [((0 : Int), f)]) (hI : Img w B v n X) : Calls Tryz.prog 42 #[v, .int .i64 0, .map (some m)] w fun e w' => ∃ v' X' r, e = .returned (.tuple #[v', .agg (trC 0 r)]) ∧ Img w' B v' (n + 1) X' ∧ (∀ x, x < n * 256 → X' x = X x) ∧ r.1 = n ∧ bkSame (blkAt X' n) f ∧ okD r.2 ∧ Below w.heap.size w w' := by
  refine (lay9_top (c := 1) (L := [((0 : Int), f)]) 0 0 w hI fun W hW => ?_).mono ?_
  · have := lay9_zero (lvOk_one hf) 0 (by omega) W (Nat.le_trans hB hW.size) (hm.below hW hm.lt) (hI.below hW)
    exact this
  · rintro e w' ⟨v', n', X', r, rfl, hI', ⟨h1, h2, h3⟩, ⟨hr, hd⟩, hh, hb⟩
    have hg0 : gJ [((0 : Int), f)] ((0 * 4 ^ 0 + 0 : Nat) : Int) = f := gJ_one f
    rcases hh with ⟨e, hz⟩ | ⟨e, hg, hl⟩
    · refine absurd (fun j hj => ?_) hnz
      have := hz j hj
      simp only [hg0] at this
      exact this
    · have hl2 : bkSame (blkAt X' r.1) f := fun j hj => by
        have := hl j hj
        simp only [hg0] at this
        exact this
      have hrn : n ≤ r.1 := by
        rcases Nat.lt_or_ge r.1 n with h | h
        · refine absurd (fun j hj => ?_) (hdiff r.1 (Nat.pos_of_ne_zero hg.1) h)
          rw [← hl2 j hj]
          exact (h3 _ (by omega)).symm
        · exact h
      have h4 := hg.2.1
      obtain rfl : n' = n + 1 := by omega
      have hrn' : r.1 = n := by omega
      exact ⟨v', X', r, rfl, hI', h3, hrn', hrn' ▸ hl2, hd, hb⟩
/-- the root directory of a fresh tree -/
def iroot : Ino := ⟨2, 1, 0, 1, 0, rf0⟩
theorem iroot_w : InW iroot := ⟨by decide, by decide, by decide, by decide, by decide, by decide, okD_zero⟩
theorem iroot_chk : chk iroot = true := by decide
theorem built_iroot : Tryz.prog.built 116 [(0, .int .i64 2), (1, .int .i64 1), (3, .int .u64 1)] = some (inC iroot) := by kernel_rfl
/-- its leaf of the table -/
def fIr : Nat → Nat := bkT 64 (inB iroot)
theorem fIr_zero : fIr 0 = 2 := by decide
/-- the used blocks of a fresh tree: 1, 2 and 3 -/
def us3 (p : Nat) : Bool := decide (1 ≤ p ∧ p < 4)
theorem fMp_zero (n : Nat) : rlA us3 n 0 = 98 := rfl
end Go.Proofs.YtppagdmlfgialaaGreatDoor
