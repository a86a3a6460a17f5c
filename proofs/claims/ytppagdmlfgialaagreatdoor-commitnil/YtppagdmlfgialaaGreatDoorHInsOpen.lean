/- Inodes as they change: Open. -/
import Derived.Test.YtppagdmlfgialaaGreatDoorHSuSize
import Derived.BigQuiet
import Derived.Deep.QuietTactic
import Derived.Handy
import Derived.Test.YtppagdmlfgialaaGreatDoorHNdKit
import Derived.Test.YtppagdmlfgialaaGreatDoorHDigSum
import Derived.Deep.RegionLaw
import Derived.Laws.CopyOwn
import Derived.Test.YtppagdmlfgialaaGreatDoorHBlkGrp
import Derived.Test.YtppagdmlfgialaaGreatDoorHSegsP
import Derived.Deep.DeepCutAuto
import Derived.Deep.Cut
import Derived.Test.YtppagdmlfgialaaGreatDoorHDigRow
import Derived.Test.YtppagdmlfgialaaGreatDoorHIoNum
import Derived.Deep.MidRow
import Derived.Test.YtppagdmlfgialaaGreatDoorHGrNone

namespace Go.Proofs.YtppagdmlfgialaaGreatDoor
open Go Go.RowKit
set_option linter.unusedSimpArgs false
set_option linter.unusedVariables false
set_option maxRecDepth 20000
theorem su_wrap (i : Nat) (h : i < 18446744073709551616) : IntKind.u64.wrap (i : Int) = (i : Int) := by
  rw [IntKind.wrap_u64]
  omega
theorem su_dN {B : Nat} {w0 w : World} (h : Below B w0 w) (n : Nat) : Below B w0 (w.drewN n) := ⟨h.1, h.2, h.3, h.4, h.5⟩
def rBl (b : Int) : Bool := decide (16 ≤ b) && decide (b ≤ 8192)
def onD (a : Nat) (b : Int) : Bool := decide (a ≠ 0) && decide ((a : Int) < b)
def sDisk (x : Sup) : Bool := rBl x.b && (decide (3 ≤ x.u) && decide (x.u < x.b))
def sHgt (x : Sup) : Bool := (decide (1 ≤ x.n) && decide (x.n ≤ 4096)) && (decide (x.th = hL 4 x.n) && decide (x.mh = hL 1024 x.b))
def sPl (x : Sup) : Bool := onD x.tr.1 x.b && (onD x.mr.1 x.b && decide (x.tr.1 ≠ x.mr.1))
def sck (x : Sup) : Bool := sDisk x && (sHgt x && sPl x)
def scE (x : Sup) : Int := if sck x = true then 0 else 200
theorem rBl_iff (b : Int) : rBl b = true ↔ 16 ≤ b ∧ b ≤ 8192 := by unfold rBl; simp
theorem sDisk_b (x : Sup) (h : sDisk x = true) : 16 ≤ x.b ∧ x.b ≤ 8192 := by
  unfold sDisk at h
  rw [Bool.and_eq_true] at h
  exact (rBl_iff _).1 h.1
set_option maxHeartbeats 4000000 in
theorem rightBlocks_any (b : Int) (w : World) : Calls Tryz.prog 88 #[.int .i64 b] w fun e w' => e = .returned (.bool (rBl b)) ∧ w' = w := by
  have HO : Hid (rBl b = (decide (16 ≤ b) && decide (b ≤ 8192))) := rfl
  generalize rBl b = B at *
  by_cases h : 16 ≤ b
  · go_enter Tryz.func88, Tryz.ntmps88
    go_wp2_with fail
    go_ret
    exact ⟨by rw [HO.out]; simp [h], rfl⟩
  · go_enter Tryz.func88, Tryz.ntmps88
    go_wp2_with fail
    go_ret
    exact ⟨by rw [HO.out]; simp [h]; omega, rfl⟩
set_option maxHeartbeats 4000000 in
theorem onDisk_any (a : Nat) (b : Int) (ha : a < 4294967296) (hb : 0 ≤ b) (hb2 : b ≤ 9223372036854775807) (w : World) : Calls Tryz.prog 108 #[.int .u32 (a : Int), .int .i64 b] w fun e w' => e = .returned (.bool (onD a b)) ∧ w' = w := by
  have HO : Hid (onD a b = (decide (a ≠ 0) && decide ((a : Int) < b))) := rfl
  generalize onD a b = B at *
  have h1 : IntKind.u64.wrap (a : Int) = (a : Int) := su_wrap a (by omega)
  have h2 : IntKind.u64.wrap b = b := by
    have := su_wrap b.toNat (by omega)
    rwa [show ((b.toNat : Nat) : Int) = b by omega] at this
  by_cases h : (a : Int) = 0
  · have h' : a = 0 := by omega
    go_enter Tryz.func108, Tryz.ntmps108
    go_wp2_with fail
    go_ret
    exact ⟨by rw [HO.out]; simp [h'], rfl⟩
  · have h' : ¬ a = 0 := by omega
    go_enter Tryz.func108, Tryz.ntmps108
    go_wp2_with fail
    go_ret
    exact ⟨by rw [HO.out]; simp [h'], rfl⟩
set_option maxHeartbeats 4000000 in
theorem rightDisk_any (x : Sup) (w : World) : Calls Tryz.prog 157 #[.agg (suC x)] w fun e w' => e = .returned (.bool (sDisk x)) ∧ Below w.heap.size w w' := by
  have r0 : Blk (w.alloc (.cells (suC x) 48)) w.heap.size 48 (suC x) := Blk.new _ _ _
  have HB : Hid (Below w.heap.size w (w.alloc (.cells (suC x) 48))) := below_new1 _ _
  have c0 := sup_c0 r0
  have c5 := sup_c71 r0
  have HR : Hid (∀ w : World, Calls Tryz.prog 88 #[.int .i64 x.b] w fun e w' => e = .returned (.bool (rBl x.b)) ∧ w' = w) := rightBlocks_any x.b
  have HO : Hid (sDisk x = (rBl x.b && (decide (3 ≤ x.u) && decide (x.u < x.b)))) := rfl
  generalize rBl x.b = R at *
  generalize sDisk x = B at *
  generalize x.b = b at *
  generalize x.u = u at *
  clear r0
  cases R
  · go_enter Tryz.func157, Tryz.ntmps157
    go_wp2_with fail
    refine (HR.out _).mono ?_
    rintro e w2 ⟨rfl, rfl⟩
    go_wp2_with fail
    go_ret
    exact ⟨by rw [HO.out]; simp, HB.out⟩
  · by_cases hu : 3 ≤ u
    · go_enter Tryz.func157, Tryz.ntmps157
      go_wp2_with fail
      refine (HR.out _).mono ?_
      rintro e w2 ⟨rfl, rfl⟩
      go_wp2_with fail
      go_ret
      exact ⟨by rw [HO.out]; simp [hu], HB.out⟩
    · go_enter Tryz.func157, Tryz.ntmps157
      go_wp2_with fail
      refine (HR.out _).mono ?_
      rintro e w2 ⟨rfl, rfl⟩
      go_wp2_with fail
      go_ret
      exact ⟨by rw [HO.out]; simp [hu]; omega, HB.out⟩
set_option maxHeartbeats 4000000 in
theorem rightHeights_any (x : Sup) (hx : SuW x) (hb : x.b ≤ 8192) (w : World) : Calls Tryz.prog 158 #[.agg (suC x)] w fun e w' => e = .returned (.bool (sHgt x)) ∧ Below w.heap.size w w' := by
  have r0 : Blk (w.alloc (.cells (suC x) 48)) w.heap.size 48 (suC x) := Blk.new _ _ _
  have HB : Hid (Below w.heap.size w (w.alloc (.cells (suC x) 48))) := below_new1 _ _
  have c0 := sup_c0 r0
  have c2 := sup_c2 r0
  have c36 := sup_c36 r0
  have c37 := sup_c37 r0
  have H4 : Hid (x.n ≤ 4096 → ∀ w : World, Calls Tryz.prog 218 #[.int .i64 4, .int .i64 x.n] w fun e w' => e = .returned (.int .i64 (hL 4 x.n)) ∧ w' = w) := fun h => sleast4 x.n hx.n.1 (by omega)
  have HK : Hid (∀ w : World, Calls Tryz.prog 218 #[.int .i64 1024, .int .i64 x.b] w fun e w' => e = .returned (.int .i64 (hL 1024 x.b)) ∧ w' = w) := sleast1k x.b hx.b.1 (by omega)
  have HO : Hid (sHgt x = ((decide (1 ≤ x.n) && decide (x.n ≤ 4096)) && (decide (x.th = hL 4 x.n) && decide (x.mh = hL 1024 x.b)))) := rfl
  generalize sHgt x = B at *
  clear r0 hb hx
  generalize hL 4 x.n = H1 at *
  generalize hL 1024 x.b = H2 at *
  generalize x.b = b at *
  generalize x.n = n at *
  generalize x.th = th at *
  generalize x.mh = mh at *
  by_cases h1 : 1 ≤ n
  · have h1' : ¬ n < 1 := by omega
    by_cases h2 : n ≤ 4096
    · have h2' : ¬ 4096 < n := by omega
      have H4' : Hid (∀ w : World, Calls Tryz.prog 218 #[.int .i64 4, .int .i64 n] w fun e w' => e = .returned (.int .i64 H1) ∧ w' = w) := H4.out h2
      clear H4
      by_cases ht : th = H1
      · subst ht
        go_enter Tryz.func158, Tryz.ntmps158
        go_wp2_with fail
        generalize (w.alloc (.cells (suC x) 48)) = w0 at *
        go_quiet (first | (go_at_call_of 218 (Value.int IntKind.i64 4); refine Calls.quiet_of_same (H4'.out _)) | (go_at_call_of 218 (Value.int IntKind.i64 1024); refine Calls.quiet_of_same (HK.out _)))
        go_wp2_with fail
        go_ret
        exact ⟨by rw [HO.out]; by_cases hm : mh = H2 <;> simp [h1, h2, hm], su_dN HB.out _⟩
      · go_enter Tryz.func158, Tryz.ntmps158
        go_wp2_with fail
        generalize (w.alloc (.cells (suC x) 48)) = w0 at *
        go_quiet (first | (go_at_call_of 218 (Value.int IntKind.i64 4); refine Calls.quiet_of_same (H4'.out _)) | (go_at_call_of 218 (Value.int IntKind.i64 1024); refine Calls.quiet_of_same (HK.out _)))
        go_wp2_with fail
        go_ret
        exact ⟨by rw [HO.out]; simp [h1, h2, ht], su_dN HB.out _⟩
    · have h2' : 4096 < n := by omega
      go_enter Tryz.func158, Tryz.ntmps158
      go_wp2_with fail
      go_ret
      exact ⟨by rw [HO.out]; simp [h2]; omega, HB.out⟩
  · have h1' : n < 1 := by omega
    go_enter Tryz.func158, Tryz.ntmps158
    go_wp2_with fail
    go_ret
    exact ⟨by rw [HO.out]; simp [h1]; omega, HB.out⟩
set_option maxHeartbeats 4000000 in
theorem rightPlaces_any (x : Sup) (hx : SuW x) (hb : 0 ≤ x.b) (w : World) : Calls Tryz.prog 159 #[.agg (suC x)] w fun e w' => e = .returned (.bool (sPl x)) ∧ Below w.heap.size w w' := by
  have r0 : Blk (w.alloc (.cells (suC x) 48)) w.heap.size 48 (suC x) := Blk.new _ _ _
  have HB : Hid (Below w.heap.size w (w.alloc (.cells (suC x) 48))) := below_new1 _ _
  have c0 := sup_c0 r0
  have c3 := sup_c3 r0
  have c38 := sup_c38 r0
  have H1 : Hid (∀ w : World, Calls Tryz.prog 108 #[.int .u32 (x.tr.1 : Int), .int .i64 x.b] w fun e w' => e = .returned (.bool (onD x.tr.1 x.b)) ∧ w' = w) := onDisk_any _ _ hx.ta hb hx.b.2
  have H2 : Hid (∀ w : World, Calls Tryz.prog 108 #[.int .u32 (x.mr.1 : Int), .int .i64 x.b] w fun e w' => e = .returned (.bool (onD x.mr.1 x.b)) ∧ w' = w) := onDisk_any _ _ hx.ma hb hx.b.2
  have HO : Hid (sPl x = (onD x.tr.1 x.b && (onD x.mr.1 x.b && decide (x.tr.1 ≠ x.mr.1)))) := rfl
  generalize sPl x = B at *
  clear r0 hb hx
  generalize onD x.tr.1 x.b = P1 at *
  generalize onD x.mr.1 x.b = P2 at *
  generalize x.b = b at *
  generalize x.tr.1 = n1 at *
  generalize x.mr.1 = n2 at *
  go_enter Tryz.func159, Tryz.ntmps159
  go_wp2_with fail
  have c0' := c0
  generalize (w.alloc (.cells (suC x) 48)) = w0 at *
  go_quiet (fail)
  cases P1
  · go_wp2_with fail
    refine (H1.out _).mono ?_
    rintro e w2 ⟨rfl, rfl⟩
    go_wp2_with fail
    go_ret
    exact ⟨by rw [HO.out]; simp, su_dN HB.out _⟩
  · cases P2
    · go_wp2_with fail
      refine (H1.out _).mono ?_
      rintro e w2 ⟨rfl, rfl⟩
      go_wp2_with fail
      refine (H2.out _).mono ?_
      rintro e w2 ⟨rfl, rfl⟩
      go_wp2_with fail
      go_ret
      exact ⟨by rw [HO.out]; simp, su_dN HB.out _⟩
    · by_cases hq : n1 = n2
      · subst hq
        go_wp2_with fail
        refine (H1.out _).mono ?_
        rintro e w2 ⟨rfl, rfl⟩
        go_wp2_with fail
        refine (H2.out _).mono ?_
        rintro e w2 ⟨rfl, rfl⟩
        go_wp2_with fail
        go_ret
        exact ⟨by rw [HO.out]; simp, su_dN HB.out _⟩
      · have hq' : ¬ (n1 : Int) = (n2 : Int) := by omega
        go_wp2_with fail
        refine (H1.out _).mono ?_
        rintro e w2 ⟨rfl, rfl⟩
        go_wp2_with fail
        refine (H2.out _).mono ?_
        rintro e w2 ⟨rfl, rfl⟩
        go_wp2_with fail
        go_ret
        exact ⟨by rw [HO.out]; simp [hq]; omega, su_dN HB.out _⟩
set_option maxHeartbeats 4000000 in
theorem scheck_any (x : Sup) (hx : SuW x) (w : World) : Calls Tryz.prog 107 #[.agg (suC x)] w fun e w' => e = .returned (.int .i64 (scE x)) ∧ Below w.heap.size w w' := by
  have r0 : Blk (w.alloc (.cells (suC x) 48)) w.heap.size 48 (suC x) := Blk.new _ _ _
  have HB0 : Hid (Below w.heap.size w (w.alloc (.cells (suC x) 48)) ∧ w.heap.size < (w.alloc (.cells (suC x) 48)).heap.size) := ⟨below_new1 _ _, by simp⟩
  have HL : Hid (∀ w, Calls Tryz.prog 157 #[.agg (suC x)] w fun e w' => e = .returned (.bool (sDisk x)) ∧ Below w.heap.size w w') := rightDisk_any x
  have HS : Hid (sDisk x = true → ∀ w, Calls Tryz.prog 158 #[.agg (suC x)] w fun e w' => e = .returned (.bool (sHgt x)) ∧ Below w.heap.size w w') := fun h => rightHeights_any x hx (sDisk_b x h).2
  have HT : Hid (sDisk x = true → ∀ w, Calls Tryz.prog 159 #[.agg (suC x)] w fun e w' => e = .returned (.bool (sPl x)) ∧ Below w.heap.size w w') := fun h => rightPlaces_any x hx (by have := (sDisk_b x h).1; omega)
  have HO : Hid (scE x = if (sDisk x && (sHgt x && sPl x)) = true then 0 else 200) := rfl
  generalize scE x = B at *
  generalize sDisk x = bl at *
  generalize sHgt x = bs at *
  generalize sPl x = bt at *
  go_enter Tryz.func107, Tryz.ntmps107
  go_wp2_with (first | (refine wpList_load_rowg (by rfl) 48 _ (by rfl) (w.heap.size) (by rfl) 48 (suC x) (0, 0) _ (by exact r0) Tryz.underlying48 (by rfl) (sizeSup.trans (by rw [suC_size])) ?_; simp only [Act.put, List.setIfInBounds_toArray, List.set_cons_zero, List.set_cons_succ]) | fail)
  generalize (w.alloc (.cells (suC x) 48)) = w0 at *
  refine (HL.out _).mono ?_
  intro e w1 hw1
  obtain ⟨he1, hb1⟩ := hw1
  subst he1
  have HB1 : Hid (Below w.heap.size w w1 ∧ w.heap.size < w1.heap.size) := ⟨HB0.out.1.trans (hb1.mono (by have := HB0.out.2; omega)), by have := HB0.out.2; have := hb1.size; omega⟩
  have r1 : Blk w1 w.heap.size 48 (suC x) := r0.below hb1 (HB0.out.2)
  clear hb1 HB0 r0
  cases bl
  · go_wp2_with fail
    go_ret
    exact ⟨by rw [HO.out]; rfl, HB1.out.1⟩
  · have HS' : Hid (∀ w, Calls Tryz.prog 158 #[.agg (suC x)] w fun e w' => e = .returned (.bool bs) ∧ Below w.heap.size w w') := HS.out rfl
    have HT' : Hid (∀ w, Calls Tryz.prog 159 #[.agg (suC x)] w fun e w' => e = .returned (.bool bt) ∧ Below w.heap.size w w') := HT.out rfl
    clear HS HT
    go_wp2_with (first | (refine wpList_load_rowg (by rfl) 48 _ (by rfl) (w.heap.size) (by rfl) 48 (suC x) (0, 0) _ (by exact r1) Tryz.underlying48 (by rfl) (sizeSup.trans (by rw [suC_size])) ?_; simp only [Act.put, List.setIfInBounds_toArray, List.set_cons_zero, List.set_cons_succ]) | fail)
    refine (HS'.out _).mono ?_
    intro e w2 hw2
    obtain ⟨he2, hb2⟩ := hw2
    subst he2
    have HB2 : Hid (Below w.heap.size w w2 ∧ w.heap.size < w2.heap.size) := ⟨HB1.out.1.trans (hb2.mono (by have := HB1.out.2; omega)), by have := HB1.out.2; have := hb2.size; omega⟩
    have r2 : Blk w2 w.heap.size 48 (suC x) := r1.below hb2 (HB1.out.2)
    clear hb2 HB1 r1
    cases bs
    · go_wp2_with fail
      go_ret
      exact ⟨by rw [HO.out]; rfl, HB2.out.1⟩
    · go_wp2_with (first | (refine wpList_load_rowg (by rfl) 48 _ (by rfl) (w.heap.size) (by rfl) 48 (suC x) (0, 0) _ (by exact r2) Tryz.underlying48 (by rfl) (sizeSup.trans (by rw [suC_size])) ?_; simp only [Act.put, List.setIfInBounds_toArray, List.set_cons_zero, List.set_cons_succ]) | fail)
      refine (HT'.out _).mono ?_
      intro e w3 hw3
      obtain ⟨he3, hb3⟩ := hw3
      subst he3
      have HB3 : Hid (Below w.heap.size w w3 ∧ w.heap.size < w3.heap.size) := ⟨HB2.out.1.trans (hb3.mono (by have := HB2.out.2; omega)), by have := HB2.out.2; have := hb3.size; omega⟩
      clear hb3 HB2 r2
      cases bt
      · go_wp2_with fail
        go_ret
        exact ⟨by rw [HO.out]; rfl, HB3.out.1⟩
      · go_wp2_with fail
        go_ret
        exact ⟨by rw [HO.out]; rfl, HB3.out.1⟩
end Go.Proofs.YtppagdmlfgialaaGreatDoor

namespace Go.Proofs.YtppagdmlfgialaaGreatDoor
open Go Go.RowKit
set_option linter.unusedSimpArgs false
set_option linter.unusedVariables false
set_option maxRecDepth 20000
/-- the eight bytes that a root block begins with -/
def markB : ByteArray := { data := #[115, 105, 103, 110, 101, 116, 48, 49] }
/-- a root's bytes -/
def suB (x : Sup) : Nat → Nat := fun j => if j < 8 then tbyte markB j else if j < 12 then dig x.b.toNat (j - 8) else if j < 16 then 0 else if j < 24 then dig x.c (j - 16) else if j < 28 then dig x.th.toNat (j - 24) else if j < 32 then dig x.n.toNat (j - 28) else if j < 68 then encR x.tr (j - 32) else if j < 72 then dig x.mh.toNat (j - 68) else if j < 108 then encR x.mr (j - 72) else if j < 112 then dig x.u.toNat (j - 108) else 0
theorem su_dig (n i : Nat) : dig n i < 256 := by unfold dig; omega
theorem suB_lt (x : Sup) (hx : SuW x) (j : Nat) : suB x j < 256 := by
  unfold suB
  repeat' split
  all_goals first | exact su_dig _ _ | exact tbyte_lt _ _ | (exact encR_lt _ hx.td _ (by omega)) | (exact encR_lt _ hx.md _ (by omega)) | omega
theorem sck_all (x : Sup) (h : sck x = true) : (16 ≤ x.b ∧ x.b ≤ 8192) ∧ (3 ≤ x.u ∧ x.u < x.b) ∧ (1 ≤ x.n ∧ x.n ≤ 4096) ∧ (x.th = hL 4 x.n ∧ x.mh = hL 1024 x.b) ∧ (0 ≤ x.th ∧ x.th ≤ 6) ∧ (0 ≤ x.mh ∧ x.mh ≤ 6) ∧ (x.tr.1 ≠ 0 ∧ (x.tr.1 : Int) < x.b) ∧ (x.mr.1 ≠ 0 ∧ (x.mr.1 : Int) < x.b) ∧ x.tr.1 ≠ x.mr.1 := by
  unfold sck sDisk sHgt sPl rBl onD at h
  simp only [Bool.and_eq_true, decide_eq_true_eq] at h
  obtain ⟨⟨⟨a1, a2⟩, a3, a4⟩, ⟨⟨b1, b2⟩, b3, b4⟩, ⟨c1, c2⟩, ⟨c3, c4⟩, c5⟩ := h
  have q1 := hL_lt 4 x.n
  have q2 := hL_lt 1024 x.b
  exact ⟨⟨a1, a2⟩, ⟨a3, a4⟩, ⟨b1, b2⟩, ⟨b3, b4⟩, ⟨by omega, by omega⟩, ⟨by omega, by omega⟩, ⟨c1, c2⟩, ⟨c3, c4⟩, c5⟩
/-- what lies in the memory while Encode works: the root, the result, the block that grows -/
structure ES (w0 w : World) (x : Sup) (h : Nat) (F : Nat → Nat) : Prop where
  b : Below w0.heap.size w0 w
  x : Blk w w0.heap.size 48 (suC x)
  r : Blk w (w0.heap.size + 1) 141 (va 256 (iv .u8 fun _ => 0))
  f : Blk w h 141 (va 256 (iv .u8 F))
  lt : w0.heap.size + 1 < h
theorem ES.below {w0 w w' : World} {x : Sup} {h : Nat} {F : Nat → Nat} (e : ES w0 w x h F) (b : Below w.heap.size w w') : ES w0 w' x h F :=
  ⟨e.b.trans (b.mono e.b.size), e.x.below b e.x.lt, e.r.below b e.r.lt, e.f.below b e.f.lt, e.lt⟩
theorem ES.drew {w0 w : World} {x : Sup} {h : Nat} {F : Nat → Nat} (e : ES w0 w x h F) : ES w0 w.drew x h F := ⟨e.b.drew, e.x.drew, e.r.drew, e.f.drew, e.lt⟩
theorem ES.set {w0 w : World} {x : Sup} {h : Nat} {F : Nat → Nat} (e : ES w0 w x h F) (G : Nat → Nat) : ES w0 (w.setRow h (va 256 (iv .u8 G))) x h G :=
  ⟨below_setRow e.b (by have := e.lt; omega) _, e.x.other _ (by have := e.lt; omega), e.r.other _ (by have := e.lt; omega), e.f.set _, e.lt⟩
end Go.Proofs.YtppagdmlfgialaaGreatDoor

namespace Go.Proofs.YtppagdmlfgialaaGreatDoor
open Go Go.RowKit
set_option linter.unusedSimpArgs false
set_option linter.unusedVariables false
set_option maxRecDepth 20000
theorem su_build6 {P : Program} {ops : Array Oper} {rest : List Oper} {o : Oper} {a : Act} {w : World} {Q : Exit → Act → World → Prop} (hg : o.guard = none) (t : TypeId) (x0 x1 x2 x3 x4 x5 : Operand) (ho : o.op = .build t #[(0, x0), (1, x1), (2, x2), (3, x3), (4, x4), (5, x5)]) (v0 v1 v2 v3 v4 v5 : Value) (h0 : a.eval x0 = v0) (h1 : a.eval x1 = v1) (h2 : a.eval x2 = v2) (h3 : a.eval x3 = v3) (h4 : a.eval x4 = v4) (h5 : a.eval x5 = v5)
    (cells : Array Value) (hf : P.built t [(0, v0), (1, v1), (2, v2), (3, v3), (4, v4), (5, v5)] = some cells) (h : wpList P ops Q rest (a.put o.dst (.agg cells)) w) : wpList P ops Q (o :: rest) a w := by
  refine wpList_buildTo hg t _ ho o.dst rfl cells ?_ h
  have e : (Array.map (fun (x : Nat × Operand) => match x with | (i, x) => (i, a.eval x)) #[(0, x0), (1, x1), (2, x2), (3, x3), (4, x4), (5, x5)]).toList = [(0, v0), (1, v1), (2, v2), (3, v3), (4, v4), (5, v5)] := by simp [h0, h1, h2, h3, h4, h5]
  rw [e]
  exact hf
theorem sbuilt_sup (x : Sup) : Tryz.prog.built 48 [(0, .int .i64 x.b), (1, .int .u64 ((x.c : Nat) : Int)), (2, .agg (tiC x.th x.tr)), (3, .int .i64 x.n), (4, .agg (tiC x.mh x.mr)), (5, .int .i64 x.u)] = some (suC x) := by kernel_rfl
theorem results_cell1 {P : Program} {fn : Func} {p : Tmp} {ty : TypeId} (h : fn.results = #[.cell p ty]) (tmps : Array Value) (w : World) (g : Nat) (t : TypeId) (cs : Array Value) (fr : Nat × Nat) (d : TypeDesc)
    (hp : tmps.getD p undef = .pointer (some ⟨g, 0, none⟩)) (hg : w.heap[g]? = some (.cells cs t fr))
    (hu : P.underlying ty = some d) (hd : (match d with | .struct _ | .array _ _ => true | _ => false) = true) (hi : (P.info? ty).map (·.size) = some cs.size) :
    (results fn tmps).run P w = .ok (.agg cs) w := results_cell_row h tmps w g t cs fr d hp hg hu hd hi
end Go.Proofs.YtppagdmlfgialaaGreatDoor

namespace Go.Proofs.YtppagdmlfgialaaGreatDoor
open Go Go.RowKit
set_option linter.unusedSimpArgs false
set_option linter.unusedVariables false
set_option maxRecDepth 20000
/-- does a root fit a slot (of the counter c, its root at a) on so many blocks? -/
def fitS (x : Sup) (c a : Nat) (b : Int) : Bool := sck x && (decide (x.b = b) && (decide (x.c = c) && (onD a b && (decide (a ≠ x.tr.1) && decide (a ≠ x.mr.1)))))
set_option maxRecDepth 100000 in
set_option maxHeartbeats 4000000 in
theorem sfits_any (x : Sup) (hx : SuW x) (c a : Nat) (d : Vector Nat 32) (ha : a < 4294967296) (b : Int) (hb1 : -9223372036854775808 ≤ b ∧ b ≤ 9223372036854775807) (w : World) : Calls Tryz.prog 65 #[.agg (suC x), .agg (slC (c, a, d)), .int .i64 b] w fun e w' => e = .returned (.bool (fitS x c a b)) ∧ Below w.heap.size w w' := by
  have HC : Hid (∀ w, Calls Tryz.prog 107 #[.agg (suC x)] w fun e w' => e = .returned (.int .i64 (scE x)) ∧ Below w.heap.size w w') := scheck_any x hx
  have HO : Hid (sck x = true → x.b = b → ∀ w : World, Calls Tryz.prog 108 #[.int .u32 (a : Int), .int .i64 b] w fun e w' => e = .returned (.bool (onD a b)) ∧ w' = w) := fun h1 h2 => onDisk_any a b ha (by have := (sck_all x h1).1.1; omega) hb1.2
  have HR : Hid (fitS x c a b = (sck x && (decide (x.b = b) && (decide (x.c = c) && (onD a b && (decide (a ≠ x.tr.1) && decide (a ≠ x.mr.1))))))) := rfl
  have HX : Hid (scE x = if sck x = true then 0 else 200) := rfl
  generalize scE x = EX at *
  generalize fitS x c a b = B at *
  generalize onD a b = OD at *
  generalize sck x = CK at *
  clear hx hb1
  have r0 : Blk ((w.alloc (.cells (suC x) 48)).alloc (.cells (slC (c, a, d)) 43)) w.heap.size 48 (suC x) := (Blk.new _ _ _).alloc _
  have r1 : Blk ((w.alloc (.cells (suC x) 48)).alloc (.cells (slC (c, a, d)) 43)) (w.heap.size + 1) 43 (slC (c, a, d)) := Blk.new1 _ _ _ _
  have hb : Below w.heap.size w ((w.alloc (.cells (suC x) 48)).alloc (.cells (slC (c, a, d)) 43)) := below_new2 _ _ _
  go_enter Tryz.func65, Tryz.ntmps65
  go_wp2_with (first | (refine wpList_load_rowg (by rfl) 48 _ (by rfl) (w.heap.size) (by rfl) 48 (suC (x)) (0, 0) _ (by exact r0) Tryz.underlying48 (by rfl) (sizeSup.trans (by rw [suC_size])) ?_; simp only [Act.put, List.setIfInBounds_toArray, List.set_cons_zero, List.set_cons_succ]) | fail)
  generalize ((w.alloc (.cells (suC x) 48)).alloc (.cells (slC (c, a, d)) 43)) = W at *
  refine (HC.out _).mono ?_
  rintro e w1 ⟨rfl, hb1⟩
  have q0 := r0.below hb1 r0.lt
  have q1 := r1.below hb1 r1.lt
  have HB : Hid (Below w.heap.size w w1) := hb.trans (hb1.mono hb.size)
  clear r0 r1 hb hb1 HC
  have c0 := sup_c0 q0
  have c1 := sup_c1 q0
  have c3 := sup_c3 q0
  have c38 := sup_c38 q0
  have s0 : w1.cell? ⟨w.heap.size + 1, 0, none⟩ = some (.int .u64 ((c : Nat) : Int)) := by rw [q1.cell]; rfl
  have s1 : w1.cell? ⟨w.heap.size + 1, 1, none⟩ = some (.int .u32 ((a : Nat) : Int)) := by rw [q1.cell]; rfl
  clear q0 q1
  generalize x.b = xb at *
  generalize x.c = xc at *
  generalize x.tr.1 = n1 at *
  generalize x.mr.1 = n2 at *
  cases CK
  · have e : EX = 200 := HX.out
    subst e
    go_wp2_with fail
    go_ret
    exact ⟨by rw [HR.out]; simp, HB.out⟩
  · have e : EX = 0 := HX.out
    subst e
    by_cases h1 : xb = b
    · subst h1
      have HO' : Hid (∀ w : World, Calls Tryz.prog 108 #[.int .u32 (a : Int), .int .i64 xb] w fun e w' => e = .returned (.bool OD) ∧ w' = w) := HO.out rfl rfl
      clear HO
      by_cases h2 : xc = c
      · subst h2
        go_wp2_with fail
        refine (HO'.out _).mono ?_
        rintro e w2 ⟨rfl, rfl⟩
        cases OD
        · go_wp2_with fail
          go_ret
          exact ⟨by rw [HR.out]; simp, HB.out⟩
        · by_cases h3 : a = n1
          · subst h3
            go_wp2_with fail
            go_ret
            exact ⟨by rw [HR.out]; simp, HB.out⟩
          · have h3' : ¬ (a : Int) = (n1 : Int) := by omega
            by_cases h4 : a = n2
            · subst h4
              go_wp2_with fail
              go_ret
              exact ⟨by rw [HR.out]; simp, HB.out⟩
            · have h4' : ¬ (a : Int) = (n2 : Int) := by omega
              go_wp2_with fail
              go_ret
              exact ⟨by rw [HR.out]; simp [h3, h4]; try omega, HB.out⟩
      · have h2' : ¬ (xc : Int) = (c : Int) := by omega
        go_wp2_with fail
        go_ret
        exact ⟨by rw [HR.out]; simp [h2], HB.out⟩
    · go_wp2_with fail
      go_ret
      exact ⟨by rw [HR.out]; simp [h1], HB.out⟩
end Go.Proofs.YtppagdmlfgialaaGreatDoor

namespace Go.Proofs.YtppagdmlfgialaaGreatDoor
open Go Go.RowKit
set_option linter.unusedSimpArgs false
set_option linter.unusedVariables false

theorem wpList_load_blkI {P : Program} {ops : Array Oper} {rest : List Oper} {op : Oper} {a : Act} {w : World} {Q : Exit → Act → World → Prop} (hw : Region.wanted op (yielded ops a.tmps) = true) (ty : TypeId) (x : Operand) (ho : op.op = .load ty x)
    (b o n : Nat) (f : Nat → Value) (hx : a.eval x = .pointer (some ⟨b, o, none⟩)) (d : TypeDesc) (hc : w.rangeAt b o ((List.range n).map f))
    (hu : P.underlying ty = some d) (hd : d.isRow = true) (hi : (P.info? ty).map (·.size) = some n)
    (h : wpList P ops Q rest (a.put op.dst (.agg (va n f))) w) : wpList P ops Q (op :: rest) a w :=
  wpList_step fun K hK => by
    rw [if_pos hw]
    exact wp_load_mid ty x ho b o hx _ d hc hu hd (hi.trans (by simp)) (hK _ _ h)
/-- an inode as it is committed, and as it is now -/
structure Hd where
  o : Ino
  n : Int
  k : Int
  l : Int
  s : Int
  t : Nat
  left : Int
  set : Bool
def nwF (x : Hd) : Nat → Value := fun i => if i = 0 then .int .i64 x.n else if i = 1 then .int .i64 x.k else if i = 2 then .int .i64 x.l else if i = 3 then .int .i64 x.s else .int .u64 ((x.t : Nat) : Int)
def hdF (x : Hd) : Nat → Value := fun i => if i < 38 then inF x.o i else if i < 43 then nwF x (i - 38) else if i = 43 then .int .i64 x.left else .bool x.set
/-- four of them -/
def ftF (q : Nat → Hd) : Nat → Value := fun i => hdF (q (i / 45)) (i % 45)
def ftC (q : Nat → Hd) : Array Value := va 180 (ftF q)
/-- Inodes in the memory -/
def ixF (cp : Option Addr) (h : Int) (R : Rf) (high top : Int) (mf ml mc : Nat) : Nat → Value := fun i => if i = 0 then .pointer cp else if i < 35 then tiF h R (i - 1) else if i = 35 then .int .i64 high else if i = 36 then .int .i64 top else if i = 37 then .map (some mf) else if i = 38 then .map (some ml) else .map (some mc)
def ixC (cp : Option Addr) (h : Int) (R : Rf) (high top : Int) (mf ml mc : Nat) : Array Value := va 40 (ixF cp h R high top mf ml mc)
theorem built_ix (cp : Option Addr) (h : Int) (R : Rf) (a b : Int) (mf ml mc : Nat) : Tryz.prog.built 166 [(0, .pointer cp), (1, .agg (tiC h R)), (2, .int .i64 a), (3, .int .i64 b), (4, .map (some mf)), (5, .map (some ml)), (6, .map (some mc))] = some (ixC cp h R a b mf ml mc) := by kernel_rfl
section
variable {w : World} {x : Nat} {cp : Option Addr} {h : Int} {R : Rf} {high top : Int} {mf ml mc : Nat}
end
/-- positions as keys -/
def pkV (p : Int × Int × Int) : Value := .agg #[.int .i64 p.1, .int .i64 p.2.1, .int .i64 p.2.2]
def ftV (q : Nat → Hd) : Value := .agg (ftC q)
end Go.Proofs.YtppagdmlfgialaaGreatDoor

namespace Go.Proofs.YtppagdmlfgialaaGreatDoor
open Go Go.RowKit
set_option linter.unusedSimpArgs false
set_option linter.unusedVariables false
/-- a table that may be opened -/
def mayOpen (h : Int) (R : Rf) (high : Int) : Prop := (0 ≤ high ∧ high ≤ 4096) ∧ h = hL 4 high ∧ (decide (R = rf0) = decide (high = 0)) ∧ rOk R = true
theorem ti_c0 {w : World} {b t : Nat} {h : Int} {R : Rf} (H : Blk w b t (trC h R)) : w.cell? ⟨b, 0, none⟩ = some (.int .i64 h) := H.cv (n := 34) (by decide)
theorem wpList_build7 {P : Program} {ops : Array Oper} {rest : List Oper} {o : Oper} {a : Act} {w : World} {Q : Exit → Act → World → Prop} (hg : o.guard = none) (t : TypeId) (x0 x1 x2 x3 x4 x5 x6 : Operand) (ho : o.op = .build t #[(0, x0), (1, x1), (2, x2), (3, x3), (4, x4), (5, x5), (6, x6)]) (v0 v1 v2 v3 v4 v5 v6 : Value) (h0 : a.eval x0 = v0) (h1 : a.eval x1 = v1) (h2 : a.eval x2 = v2) (h3 : a.eval x3 = v3) (h4 : a.eval x4 = v4) (h5 : a.eval x5 = v5) (h6 : a.eval x6 = v6)
    (cells : Array Value) (hf : P.built t [(0, v0), (1, v1), (2, v2), (3, v3), (4, v4), (5, v5), (6, v6)] = some cells) (h : wpList P ops Q rest (a.put o.dst (.agg cells)) w) : wpList P ops Q (o :: rest) a w := by
  refine wpList_buildTo hg t _ ho o.dst rfl cells ?_ h
  have e : (Array.map (fun (x : Nat × Operand) => match x with | (i, x) => (i, a.eval x)) #[(0, x0), (1, x1), (2, x2), (3, x3), (4, x4), (5, x5), (6, x6)]).toList = [(0, v0), (1, v1), (2, v2), (3, v3), (4, v4), (5, v5), (6, v6)] := by simp [h0, h1, h2, h3, h4, h5, h6]
  rw [e]
  exact hf
section
variable {cp : Option Addr} {h : Int} {R : Rf} {high : Int}
set_option maxRecDepth 100000 in
set_option maxHeartbeats 4000000 in
theorem open_full (hR : R.1 < 4294967296) (hD : okD R.2) (hh : -9223372036854775808 ≤ high ∧ high ≤ 9223372036854775807) (hm : mayOpen h R high) (w : World) : Calls Tryz.prog 27 #[.pointer cp, .agg (trC h R), .int .i64 high] w fun e w' => ∃ x mf ml mc, e = .returned (.tuple #[.pointer (some ⟨x, 0, none⟩), .int .i64 0]) ∧ (w.heap.size ≤ x ∧ w.heap.size ≤ mf ∧ w.heap.size ≤ ml ∧ w.heap.size ≤ mc ∧ x ≠ mf) ∧ Blk w' x 166 (ixC cp h R high high mf ml mc) ∧ MapIs pkV ftV w' mf [] ∧ (mf < ml ∧ ml < mc ∧ mc < x ∧ w'.heap[mf]? = some (.map #[] 0) ∧ w'.heap[ml]? = some (.map #[] 0) ∧ w'.heap[mc]? = some (.map #[] 0)) ∧ Below w.heap.size w w' := by
  have HT := table_any high hh
  have hb1 : Below w.heap.size w (w.alloc (.cells (trC h R) 46)) := below_new1 _ _
  have t1 : Blk (w.alloc (.cells (trC h R) 46)) w.heap.size 46 (trC h R) := Blk.new _ _ _
  have c0 := ti_c0 t1
  have HR1 : Hid ((w.alloc (.cells (trC h R) 46)).rangeAt w.heap.size 1 ((List.range 33).map (rfF R.1 R.2))) := tr_range t1
  have HNo : Hid (∀ w, Calls Tryz.prog 59 #[.agg (rfC R)] w fun e w' => e = .returned (.bool (decide (R = rf0))) ∧ Below w.heap.size w w') := none_any R
  obtain ⟨hg, he, hz, hr⟩ := hm
  have HTT : Hid (∀ w : World, Calls Tryz.prog 58 #[.int .i64 high] w fun e w' => e = .returned (.tuple #[.int .i64 (hL 4 high), .int .i64 0]) ∧ w' = w) := fun w => by
    have := HT w
    rw [if_pos hg] at this
    exact this
  clear HT
  rw [← he] at HTT
  have hok : trOk h R := ⟨hr, by rw [he]; exact hL_lt 4 high⟩
  obtain ⟨nh, hnh⟩ : ∃ nh : Nat, h = (nh : Int) := ⟨h.toNat, by have := hok.2.1; omega⟩
  have HG : Hid (∀ w, Calls Tryz.prog 60 #[.pointer cp, .agg (trC h R)] w fun x w' => ∃ g, x = .returned (.tuple #[.pointer (some ⟨g, 0, none⟩), .int .i64 0]) ∧ Below w.heap.size w w') := fun w => (new_ok nh (4 ^ nh) rfl h hnh R hR hD hok cp w).mono fun e w' ⟨g, m, h1, _, _, _, _, h2⟩ => ⟨g, h1, h2⟩
  obtain ⟨bz, hbz⟩ : ∃ bz, decide (R = rf0) = bz := ⟨_, rfl⟩
  rw [hbz] at HNo hz
  clear hok hR hD he hg hh hbz hnh hr
  by_cases h0 : high = 0
  · subst h0
    rw [decide_eq_true rfl] at hz
    subst hz
    go_enter Tryz.func27, Tryz.ntmps27
    go_wp2_with fail
    generalize (w.alloc (.cells (trC h R) 46)) = w1 at *
    refine (HTT.out _).mono ?_
    rintro e w2 ⟨rfl, hw2⟩
    subst hw2
    go_wp2_with (first
      | (refine wpList_load_blkI (by rfl) 41 _ (by rfl) (w.heap.size) (1) 33 (rfF R.1 R.2) (by rfl) _ (by exact HR1.out) Tryz.underlying41 rfl tsizeRef ?_; simp only [Act.put, List.setIfInBounds_toArray, List.set_cons_zero, List.set_cons_succ])
      | fail)
    refine (HNo.out _).mono ?_
    rintro e w3 ⟨rfl, hb3⟩
    have t3 := t1.below hb3 t1.lt
    have hb13 := hb1.trans (hb3.mono hb1.size)
    clear hb3 t1 hb1 HNo HTT HR1 c0
    go_wp2_with (first
      | (refine wpList_load_rowg (by rfl) 46 _ (by rfl) (w.heap.size) (by rfl) 46 (trC h R) (0, 0) _ (by exact t3) Tryz.underlying46 (by rfl) (sizeTr.trans (by rw [trC_size])) ?_; simp only [Act.put, List.setIfInBounds_toArray, List.set_cons_zero, List.set_cons_succ])
      | fail)
    refine (HG.out _).mono ?_
    rintro e w4 ⟨g4, rfl, hb4⟩
    have hb14 := hb13.trans (hb4.mono hb13.size)
    have t4 := t3.below hb4 t3.lt
    clear hb4 hb13 t3 HG
    have hmm := @run_makeMap Tryz.prog
    have hbt := built_ix cp h R 0 0 w4.heap.size (w4.heap.size + 1) (w4.heap.size + 1 + 1)
    go_wp2_with (first
      | (refine wpList_load_rowg (by rfl) 46 _ (by rfl) (w.heap.size) (by rfl) 46 (trC h R) (0, 0) _ (by exact t4) Tryz.underlying46 (by rfl) (sizeTr.trans (by rw [trC_size])) ?_; simp only [Act.put, List.setIfInBounds_toArray, List.set_cons_zero, List.set_cons_succ])
      | (refine wpList_build7 (by rfl) 166 _ _ _ _ _ _ _ (by rfl) _ _ _ _ _ _ _ (by rfl) (by rfl) (by rfl) (by rfl) (by rfl) (by rfl) (by rfl) (ixC cp h R 0 0 w4.heap.size (w4.heap.size + 1) (w4.heap.size + 1 + 1)) (by exact hbt) ?_; simp only [Act.put, List.setIfInBounds_toArray, List.set_cons_zero, List.set_cons_succ])
      | fail)
    refine bodyPost_ret (results_tmp2 Tryz.results27 _ _ _) rfl ?_
    have hx5 := Blk.new (((w4.alloc (.map #[] 0)).alloc (.map #[] 0)).alloc (.map #[] 0)) 166 (ixC cp h R 0 0 w4.heap.size (w4.heap.size + 1) (w4.heap.size + 1 + 1))
    rw [show (((w4.alloc (.map #[] 0)).alloc (.map #[] 0)).alloc (.map #[] 0)).heap.size = w4.heap.size + 1 + 1 + 1 by simp] at hx5
    have hs := hb14.size
    have hb1 : Below (w4.heap.size + 1) (w4.alloc (.map #[] 0)) (w4.alloc (.map #[] 0)) := Below.refl _ _
    have hb5 : Below (w4.heap.size + 1) (w4.alloc (.map #[] 0)) ((((w4.alloc (.map #[] 0)).alloc (.map #[] 0)).alloc (.map #[] 0)).alloc (.cells (ixC cp h R 0 0 w4.heap.size (w4.heap.size + 1) (w4.heap.size + 1 + 1)) 166)) := ((hb1.alloc (by simp) _).alloc (by simp) _).alloc (by simp) _
    have hm0 : MapIs pkV ftV (w4.alloc (.map #[] 0)) w4.heap.size [] := ⟨#[], 0, heap_alloc_new _ _, rfl⟩
    have hm1 : ((w4.alloc (.map #[] 0)).alloc (.map #[] 0)).heap[w4.heap.size + 1]? = some (.map #[] 0) := by
      have := heap_alloc_new (w4.alloc (.map #[] 0)) (.map #[] 0)
      rw [show (w4.alloc (.map #[] 0)).heap.size = w4.heap.size + 1 by simp] at this
      exact this
    have hm2 : (((w4.alloc (.map #[] 0)).alloc (.map #[] 0)).alloc (.map #[] 0)).heap[w4.heap.size + 1 + 1]? = some (.map #[] 0) := by
      have := heap_alloc_new ((w4.alloc (.map #[] 0)).alloc (.map #[] 0)) (.map #[] 0)
      rw [show ((w4.alloc (.map #[] 0)).alloc (.map #[] 0)).heap.size = w4.heap.size + 1 + 1 by simp] at this
      exact this
    have hb6 : Below (w4.heap.size + 1 + 1) ((w4.alloc (.map #[] 0)).alloc (.map #[] 0)) ((((w4.alloc (.map #[] 0)).alloc (.map #[] 0)).alloc (.map #[] 0)).alloc (.cells (ixC cp h R 0 0 w4.heap.size (w4.heap.size + 1) (w4.heap.size + 1 + 1)) 166)) := ((Below.refl _ _).alloc (by simp) _).alloc (by simp) _
    have hb7 : Below (w4.heap.size + 1 + 1 + 1) (((w4.alloc (.map #[] 0)).alloc (.map #[] 0)).alloc (.map #[] 0)) ((((w4.alloc (.map #[] 0)).alloc (.map #[] 0)).alloc (.map #[] 0)).alloc (.cells (ixC cp h R 0 0 w4.heap.size (w4.heap.size + 1) (w4.heap.size + 1 + 1)) 166)) := (Below.refl _ _).alloc (by simp) _
    exact ⟨_, _, _, _, rfl, ⟨by omega, by omega, by omega, by omega, by omega⟩, hx5, hm0.below hb5 (by omega), ⟨by omega, by omega, by omega, (hb5.block _ (by omega)).trans (heap_alloc_new _ _), (hb6.block _ (by omega)).trans hm1, (hb7.block _ (by omega)).trans hm2⟩, hb14.trans ((((((Below.refl _ _).alloc hs _).alloc (by simp; omega) _).alloc (by simp; omega) _).alloc (by simp; omega) _))⟩
  · have hq0 : (high == 0) = false := by simp [h0]
    rw [decide_eq_false h0] at hz
    subst hz
    go_enter Tryz.func27, Tryz.ntmps27
    go_wp2_with fail
    generalize (w.alloc (.cells (trC h R) 46)) = w1 at *
    refine (HTT.out _).mono ?_
    rintro e w2 ⟨rfl, hw2⟩
    subst hw2
    go_wp2_with (first
      | (refine wpList_load_blkI (by rfl) 41 _ (by rfl) (w.heap.size) (1) 33 (rfF R.1 R.2) (by rfl) _ (by exact HR1.out) Tryz.underlying41 rfl tsizeRef ?_; simp only [Act.put, List.setIfInBounds_toArray, List.set_cons_zero, List.set_cons_succ])
      | fail)
    refine (HNo.out _).mono ?_
    rintro e w3 ⟨rfl, hb3⟩
    have t3 := t1.below hb3 t1.lt
    have hb13 := hb1.trans (hb3.mono hb1.size)
    clear hb3 t1 hb1 HNo HTT HR1 c0
    go_wp2_with (first
      | (refine wpList_load_rowg (by rfl) 46 _ (by rfl) (w.heap.size) (by rfl) 46 (trC h R) (0, 0) _ (by exact t3) Tryz.underlying46 (by rfl) (sizeTr.trans (by rw [trC_size])) ?_; simp only [Act.put, List.setIfInBounds_toArray, List.set_cons_zero, List.set_cons_succ])
      | fail)
    refine (HG.out _).mono ?_
    rintro e w4 ⟨g4, rfl, hb4⟩
    have hb14 := hb13.trans (hb4.mono hb13.size)
    have t4 := t3.below hb4 t3.lt
    clear hb4 hb13 t3 HG
    have hmm := @run_makeMap Tryz.prog
    have hbt := built_ix cp h R high high w4.heap.size (w4.heap.size + 1) (w4.heap.size + 1 + 1)
    go_wp2_with (first
      | (refine wpList_load_rowg (by rfl) 46 _ (by rfl) (w.heap.size) (by rfl) 46 (trC h R) (0, 0) _ (by exact t4) Tryz.underlying46 (by rfl) (sizeTr.trans (by rw [trC_size])) ?_; simp only [Act.put, List.setIfInBounds_toArray, List.set_cons_zero, List.set_cons_succ])
      | (refine wpList_build7 (by rfl) 166 _ _ _ _ _ _ _ (by rfl) _ _ _ _ _ _ _ (by rfl) (by rfl) (by rfl) (by rfl) (by rfl) (by rfl) (by rfl) (ixC cp h R high high w4.heap.size (w4.heap.size + 1) (w4.heap.size + 1 + 1)) (by exact hbt) ?_; simp only [Act.put, List.setIfInBounds_toArray, List.set_cons_zero, List.set_cons_succ])
      | fail)
    refine bodyPost_ret (results_tmp2 Tryz.results27 _ _ _) rfl ?_
    have hx5 := Blk.new (((w4.alloc (.map #[] 0)).alloc (.map #[] 0)).alloc (.map #[] 0)) 166 (ixC cp h R high high w4.heap.size (w4.heap.size + 1) (w4.heap.size + 1 + 1))
    rw [show (((w4.alloc (.map #[] 0)).alloc (.map #[] 0)).alloc (.map #[] 0)).heap.size = w4.heap.size + 1 + 1 + 1 by simp] at hx5
    have hs := hb14.size
    have hb1 : Below (w4.heap.size + 1) (w4.alloc (.map #[] 0)) (w4.alloc (.map #[] 0)) := Below.refl _ _
    have hb5 : Below (w4.heap.size + 1) (w4.alloc (.map #[] 0)) ((((w4.alloc (.map #[] 0)).alloc (.map #[] 0)).alloc (.map #[] 0)).alloc (.cells (ixC cp h R high high w4.heap.size (w4.heap.size + 1) (w4.heap.size + 1 + 1)) 166)) := ((hb1.alloc (by simp) _).alloc (by simp) _).alloc (by simp) _
    have hm0 : MapIs pkV ftV (w4.alloc (.map #[] 0)) w4.heap.size [] := ⟨#[], 0, heap_alloc_new _ _, rfl⟩
    have hm1 : ((w4.alloc (.map #[] 0)).alloc (.map #[] 0)).heap[w4.heap.size + 1]? = some (.map #[] 0) := by
      have := heap_alloc_new (w4.alloc (.map #[] 0)) (.map #[] 0)
      rw [show (w4.alloc (.map #[] 0)).heap.size = w4.heap.size + 1 by simp] at this
      exact this
    have hm2 : (((w4.alloc (.map #[] 0)).alloc (.map #[] 0)).alloc (.map #[] 0)).heap[w4.heap.size + 1 + 1]? = some (.map #[] 0) := by
      have := heap_alloc_new ((w4.alloc (.map #[] 0)).alloc (.map #[] 0)) (.map #[] 0)
      rw [show ((w4.alloc (.map #[] 0)).alloc (.map #[] 0)).heap.size = w4.heap.size + 1 + 1 by simp] at this
      exact this
    have hb6 : Below (w4.heap.size + 1 + 1) ((w4.alloc (.map #[] 0)).alloc (.map #[] 0)) ((((w4.alloc (.map #[] 0)).alloc (.map #[] 0)).alloc (.map #[] 0)).alloc (.cells (ixC cp h R high high w4.heap.size (w4.heap.size + 1) (w4.heap.size + 1 + 1)) 166)) := ((Below.refl _ _).alloc (by simp) _).alloc (by simp) _
    have hb7 : Below (w4.heap.size + 1 + 1 + 1) (((w4.alloc (.map #[] 0)).alloc (.map #[] 0)).alloc (.map #[] 0)) ((((w4.alloc (.map #[] 0)).alloc (.map #[] 0)).alloc (.map #[] 0)).alloc (.cells (ixC cp h R high high w4.heap.size (w4.heap.size + 1) (w4.heap.size + 1 + 1)) 166)) := (Below.refl _ _).alloc (by simp) _
    exact ⟨_, _, _, _, rfl, ⟨by omega, by omega, by omega, by omega, by omega⟩, hx5, hm0.below hb5 (by omega), ⟨by omega, by omega, by omega, (hb5.block _ (by omega)).trans (heap_alloc_new _ _), (hb6.block _ (by omega)).trans hm1, (hb7.block _ (by omega)).trans hm2⟩, hb14.trans ((((((Below.refl _ _).alloc hs _).alloc (by simp; omega) _).alloc (by simp; omega) _).alloc (by simp; omega) _))⟩
end
end Go.Proofs.YtppagdmlfgialaaGreatDoor
