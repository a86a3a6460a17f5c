/- Files: part, stands. -/
import Derived.Test.YtojbgggkfahkfaaGreatHFlOne
import Derived.Handy
import Derived.Test.YtojbgggkfahkfaaGreatHInsPut
import Derived.Test.YtojbgggkfahkfaaGreatHInsMem
import Derived.Test.YtojbgggkfahkfaaGreatHInsCalls
import Derived.Test.YtojbgggkfahkfaaGreatHCaKit
import Derived.Test.YtojbgggkfahkfaaGreatHCaGet2
import Derived.Test.YtojbgggkfahkfaaGreatHIoKit

namespace Go.Proofs.YtojbgggkfahkfaaGreat
open Go Go.RowKit
set_option linter.unusedSimpArgs false
set_option linter.unusedVariables false
/-- one tells an error -/
def OneErr (w : World) (xp : Value) (n er : Int) : Prop := ∀ V, Below w.heap.size w V → Calls Tryz.prog 37 #[xp, .int .i64 n] V fun e w' => e = .returned (.tuple #[.agg if0, .int .i64 er]) ∧ Below V.heap.size V w'
/-- two tells an error -/
def TwoErr (w : World) (xp : Value) (a b er : Int) : Prop := ∀ V, Below w.heap.size w V → Calls Tryz.prog 34 #[xp, .int .i64 a, .int .i64 b] V fun e w' => e = .returned (.tuple #[.agg if0, .agg if0, .int .i64 er]) ∧ Below V.heap.size V w'
theorem one_err {w : World} {xp : Value} {n er : Int} (h : TwoErr w xp n n er) : OneErr w xp n er := fun V hV => one_gen 0 0 0 0 0 0 0 0 0 0 er fun U hU => h U (hV.trans (hU.mono hV.size))
theorem two_ea {w : World} {xp : Value} {a b er : Int} (her : er ≠ 0) (HA : ∀ V, Below w.heap.size w V → Calls Tryz.prog 32 #[xp, .int .i64 a] V fun e w' => e = .returned (.tuple #[.agg if0, .int .i64 er]) ∧ Below V.heap.size V w') : TwoErr w xp a b er := fun V hV => two_err1 er her fun U hU => HA U (hV.trans (hU.mono hV.size))
theorem two_eb {w : World} {xp : Value} {a b er n1 k1 l1 s1 : Int} {t1 : Nat} (her : er ≠ 0) (HA : ∀ V, Below w.heap.size w V → Calls Tryz.prog 32 #[xp, .int .i64 a] V fun e w' => e = .returned (.tuple #[.agg (ifC n1 k1 l1 s1 t1), .int .i64 0]) ∧ Below V.heap.size V w') (HB : ∀ V, Below w.heap.size w V → Calls Tryz.prog 32 #[xp, .int .i64 b] V fun e w' => e = .returned (.tuple #[.agg if0, .int .i64 er]) ∧ Below V.heap.size V w') : TwoErr w xp a b er := fun V hV => two_err2 n1 k1 l1 s1 t1 er her (fun U hU => HA U (hV.trans (hU.mono hV.size))) fun U hU => HB U (hV.trans (hU.mono hV.size))
theorem two_ed {w : World} {xp : Value} {a b n1 k1 l1 s1 n2 k2 l2 s2 : Int} {t1 t2 : Nat} (hk : k1 = 2 ∨ k2 = 2) (HA : ∀ V, Below w.heap.size w V → Calls Tryz.prog 32 #[xp, .int .i64 a] V fun e w' => e = .returned (.tuple #[.agg (ifC n1 k1 l1 s1 t1), .int .i64 0]) ∧ Below V.heap.size V w') (HB : ∀ V, Below w.heap.size w V → Calls Tryz.prog 32 #[xp, .int .i64 b] V fun e w' => e = .returned (.tuple #[.agg (ifC n2 k2 l2 s2 t2), .int .i64 0]) ∧ Below V.heap.size V w') : TwoErr w xp a b 161 := fun V hV => two_dir n1 k1 l1 s1 n2 k2 l2 s2 t1 t2 hk (fun U hU => HA U (hV.trans (hU.mono hV.size))) fun U hU => HB U (hV.trans (hU.mono hV.size))
section
variable {w : World} {xp : Value} {n er : Int}
set_option maxRecDepth 100000 in
theorem read_err (her : er ≠ 0) (HO : OneErr w xp n er) (a m : Int) : Calls Tryz.prog 15 #[xp, .int .i64 n, .int .i64 a, .int .i64 m] w fun e w' => e = .returned (.tuple #[.string ⟨#[]⟩, .int .i64 er]) ∧ Below w.heap.size w w' := by
  have H1 := HO w (Below.refl _ _)
  have hzi : ∀ w, (zeroValue 77).run Tryz.prog w = .ok (.agg if0) w := zero_info
  clear HO
  go_enter Tryz.func15, Tryz.ntmps15
  go_wp2_with fail
  refine H1.mono ?_
  rintro e w2 ⟨rfl, hb2⟩
  have u1 : Blk (w2.alloc (.cells if0 77)) w2.heap.size 77 if0 := Blk.new _ _ _
  have u2 := u1.set if0
  have c3 : ((w2.alloc (.cells if0 77)).setRow w2.heap.size if0).cell? ⟨w2.heap.size, 3, none⟩ = some (.int .i64 0) := (u2.cell 3).trans rfl
  have HE : Hid (Below w.heap.size w w2 ∧ Below w.heap.size w ((w2.alloc (.cells if0 77)).setRow w2.heap.size if0)) := ⟨hb2, below_setRow (hb2.alloc hb2.size _) hb2.size _⟩
  clear hb2 u2
  go_wp2_with (first
    | (refine wpList_store_row (by rfl) 77 _ _ (by rfl) (w2.heap.size) if0 (by rfl) (by rfl) 77 if0 (by exact u1) (sizeInfo.trans (by rfl)) (by rfl) (if_all _ _ _ _ _) ?_; simp only [Act.put, List.setIfInBounds_toArray, List.set_cons_zero, List.set_cons_succ])
    | fail)
  go_ret2
  exact ⟨rfl, HE.out.2⟩
set_option maxRecDepth 100000 in
theorem writeM_err (her : er ≠ 0) (HO : OneErr w xp n er) (a : Int) (s : ByteArray) (st : Nat) : Calls Tryz.prog 16 #[xp, .int .i64 n, .int .i64 a, .string s, .int .u64 ((st : Nat) : Int)] w fun e w' => e = .returned (.tuple #[.int .i64 0, .int .i64 er]) ∧ Below w.heap.size w w' := by
  have H1 := HO w (Below.refl _ _)
  have hzi : ∀ w, (zeroValue 77).run Tryz.prog w = .ok (.agg if0) w := zero_info
  clear HO
  go_enter Tryz.func16, Tryz.ntmps16
  go_wp2_with fail
  refine H1.mono ?_
  rintro e w2 ⟨rfl, hb2⟩
  have u1 : Blk (w2.alloc (.cells if0 77)) w2.heap.size 77 if0 := Blk.new _ _ _
  have u2 := u1.set if0
  have c3 : ((w2.alloc (.cells if0 77)).setRow w2.heap.size if0).cell? ⟨w2.heap.size, 3, none⟩ = some (.int .i64 0) := (u2.cell 3).trans rfl
  have HE : Hid (Below w.heap.size w w2 ∧ Below w.heap.size w ((w2.alloc (.cells if0 77)).setRow w2.heap.size if0)) := ⟨hb2, below_setRow (hb2.alloc hb2.size _) hb2.size _⟩
  clear hb2 u2
  go_wp2_with (first
    | (refine wpList_store_row (by rfl) 77 _ _ (by rfl) (w2.heap.size) if0 (by rfl) (by rfl) 77 if0 (by exact u1) (sizeInfo.trans (by rfl)) (by rfl) (if_all _ _ _ _ _) ?_; simp only [Act.put, List.setIfInBounds_toArray, List.set_cons_zero, List.set_cons_succ])
    | fail)
  go_ret2
  exact ⟨rfl, HE.out.2⟩
set_option maxRecDepth 100000 in
theorem append_err (her : er ≠ 0) (HO : OneErr w xp n er) (s : ByteArray) (st : Nat) : Calls Tryz.prog 17 #[xp, .int .i64 n, .string s, .int .u64 ((st : Nat) : Int)] w fun e w' => e = .returned (.tuple #[.int .i64 0, .int .i64 er]) ∧ Below w.heap.size w w' := by
  have H1 := HO w (Below.refl _ _)
  have hzi : ∀ w, (zeroValue 77).run Tryz.prog w = .ok (.agg if0) w := zero_info
  clear HO
  go_enter Tryz.func17, Tryz.ntmps17
  go_wp2_with fail
  refine H1.mono ?_
  rintro e w2 ⟨rfl, hb2⟩
  have u1 : Blk (w2.alloc (.cells if0 77)) w2.heap.size 77 if0 := Blk.new _ _ _
  have u2 := u1.set if0
  have c3 : ((w2.alloc (.cells if0 77)).setRow w2.heap.size if0).cell? ⟨w2.heap.size, 3, none⟩ = some (.int .i64 0) := (u2.cell 3).trans rfl
  have HE : Hid (Below w.heap.size w w2 ∧ Below w.heap.size w ((w2.alloc (.cells if0 77)).setRow w2.heap.size if0)) := ⟨hb2, below_setRow (hb2.alloc hb2.size _) hb2.size _⟩
  clear hb2 u2
  go_wp2_with (first
    | (refine wpList_store_row (by rfl) 77 _ _ (by rfl) (w2.heap.size) if0 (by rfl) (by rfl) 77 if0 (by exact u1) (sizeInfo.trans (by rfl)) (by rfl) (if_all _ _ _ _ _) ?_; simp only [Act.put, List.setIfInBounds_toArray, List.set_cons_zero, List.set_cons_succ])
    | fail)
  go_ret2
  exact ⟨rfl, HE.out.2⟩
set_option maxRecDepth 100000 in
theorem size_err (her : er ≠ 0) (HO : OneErr w xp n er) : Calls Tryz.prog 18 #[xp, .int .i64 n] w fun e w' => e = .returned (.tuple #[.int .i64 0, .int .i64 er]) ∧ Below w.heap.size w w' := by
  have H1 := HO w (Below.refl _ _)
  have hzi : ∀ w, (zeroValue 77).run Tryz.prog w = .ok (.agg if0) w := zero_info
  clear HO
  go_enter Tryz.func18, Tryz.ntmps18
  go_wp2_with fail
  refine H1.mono ?_
  rintro e w2 ⟨rfl, hb2⟩
  have u1 : Blk (w2.alloc (.cells if0 77)) w2.heap.size 77 if0 := Blk.new _ _ _
  have u2 := u1.set if0
  have c3 : ((w2.alloc (.cells if0 77)).setRow w2.heap.size if0).cell? ⟨w2.heap.size, 3, none⟩ = some (.int .i64 0) := (u2.cell 3).trans rfl
  have HE : Hid (Below w.heap.size w w2 ∧ Below w.heap.size w ((w2.alloc (.cells if0 77)).setRow w2.heap.size if0)) := ⟨hb2, below_setRow (hb2.alloc hb2.size _) hb2.size _⟩
  clear hb2 u2
  go_wp2_with (first
    | (refine wpList_store_row (by rfl) 77 _ _ (by rfl) (w2.heap.size) if0 (by rfl) (by rfl) 77 if0 (by exact u1) (sizeInfo.trans (by rfl)) (by rfl) (if_all _ _ _ _ _) ?_; simp only [Act.put, List.setIfInBounds_toArray, List.set_cons_zero, List.set_cons_succ])
    | fail)
  go_ret2
  exact ⟨rfl, HE.out.2⟩
set_option maxRecDepth 100000 in
theorem truncate_err (her : er ≠ 0) (HO : OneErr w xp n er) (z : Int) (st : Nat) : Calls Tryz.prog 19 #[xp, .int .i64 n, .int .i64 z, .int .u64 ((st : Nat) : Int)] w fun e w' => e = .returned (.int .i64 er) ∧ Below w.heap.size w w' := by
  have H1 := HO w (Below.refl _ _)
  have hzi : ∀ w, (zeroValue 77).run Tryz.prog w = .ok (.agg if0) w := zero_info
  clear HO
  go_enter Tryz.func19, Tryz.ntmps19
  go_wp2_with fail
  refine H1.mono ?_
  rintro e w2 ⟨rfl, hb2⟩
  have u1 : Blk (w2.alloc (.cells if0 77)) w2.heap.size 77 if0 := Blk.new _ _ _
  have u2 := u1.set if0
  have c3 : ((w2.alloc (.cells if0 77)).setRow w2.heap.size if0).cell? ⟨w2.heap.size, 3, none⟩ = some (.int .i64 0) := (u2.cell 3).trans rfl
  have HE : Hid (Below w.heap.size w w2 ∧ Below w.heap.size w ((w2.alloc (.cells if0 77)).setRow w2.heap.size if0)) := ⟨hb2, below_setRow (hb2.alloc hb2.size _) hb2.size _⟩
  clear hb2 u2
  go_wp2_with (first
    | (refine wpList_store_row (by rfl) 77 _ _ (by rfl) (w2.heap.size) if0 (by rfl) (by rfl) 77 if0 (by exact u1) (sizeInfo.trans (by rfl)) (by rfl) (if_all _ _ _ _ _) ?_; simp only [Act.put, List.setIfInBounds_toArray, List.set_cons_zero, List.set_cons_succ])
    | fail)
  go_ret
  exact ⟨rfl, HE.out.2⟩
set_option maxRecDepth 100000 in
theorem zero_err (her : er ≠ 0) (HO : OneErr w xp n er) (a m : Int) (st : Nat) : Calls Tryz.prog 20 #[xp, .int .i64 n, .int .i64 a, .int .i64 m, .int .u64 ((st : Nat) : Int)] w fun e w' => e = .returned (.int .i64 er) ∧ Below w.heap.size w w' := by
  have H1 := HO w (Below.refl _ _)
  have hzi : ∀ w, (zeroValue 77).run Tryz.prog w = .ok (.agg if0) w := zero_info
  clear HO
  go_enter Tryz.func20, Tryz.ntmps20
  go_wp2_with fail
  refine H1.mono ?_
  rintro e w2 ⟨rfl, hb2⟩
  have u1 : Blk (w2.alloc (.cells if0 77)) w2.heap.size 77 if0 := Blk.new _ _ _
  have u2 := u1.set if0
  have c3 : ((w2.alloc (.cells if0 77)).setRow w2.heap.size if0).cell? ⟨w2.heap.size, 3, none⟩ = some (.int .i64 0) := (u2.cell 3).trans rfl
  have HE : Hid (Below w.heap.size w w2 ∧ Below w.heap.size w ((w2.alloc (.cells if0 77)).setRow w2.heap.size if0)) := ⟨hb2, below_setRow (hb2.alloc hb2.size _) hb2.size _⟩
  clear hb2 u2
  go_wp2_with (first
    | (refine wpList_store_row (by rfl) 77 _ _ (by rfl) (w2.heap.size) if0 (by rfl) (by rfl) 77 if0 (by exact u1) (sizeInfo.trans (by rfl)) (by rfl) (if_all _ _ _ _ _) ?_; simp only [Act.put, List.setIfInBounds_toArray, List.set_cons_zero, List.set_cons_succ])
    | fail)
  go_ret
  exact ⟨rfl, HE.out.2⟩
end
end Go.Proofs.YtojbgggkfahkfaaGreat

namespace Go.Proofs.YtojbgggkfahkfaaGreat
open Go Go.RowKit
set_option linter.unusedSimpArgs false
set_option linter.unusedVariables false
theorem fi_all (n sz st : Nat) : (fiC n sz st).all (·.oneCell') = true := by simp [fiC, Value.oneCell']
theorem fi_cs {w : World} {b t n sz st : Nat} (H : Blk w b t (fiC n sz st)) : w.cell? ⟨b, 0, none⟩ = some (.int .i64 (n : Int)) ∧ w.cell? ⟨b, 1, none⟩ = some (.int .i64 1) ∧ w.cell? ⟨b, 2, none⟩ = some (.int .i64 1) ∧ w.cell? ⟨b, 3, none⟩ = some (.int .i64 (sz : Int)) ∧ w.cell? ⟨b, 4, none⟩ = some (.int .u64 ((st : Nat) : Int)) := ⟨(H.cell 0).trans rfl, (H.cell 1).trans rfl, (H.cell 2).trans rfl, (H.cell 3).trans rfl, (H.cell 4).trans rfl⟩
section
variable {w : World} {x mf ml mc : Nat} {cp : Option Addr} {top : Int} {H : Nat → Hd} {D : Nat → Nat → Nat → Nat} {n sz st n' sz' st' : Nat} {F F' : Nat → Nat}
theorem IM.twoF (h : IM w x mf ml mc cp top H D) (hf : Fi H D n sz st F) (hg : Fi H D n' sz' st' F') : Calls Tryz.prog 34 #[.pointer (some ⟨x, 0, none⟩), .int .i64 (n : Int), .int .i64 (n' : Int)] w fun e w' => e = .returned (.tuple #[.agg (fiC n sz st), .agg (fiC n' sz' st'), .int .i64 0]) ∧ Below w.heap.size w w' :=
  two_ok (n : Int) 1 1 (sz : Int) (n' : Int) 1 1 (sz' : Int) st st' (by decide) (by decide) (fun V hV => (h.below hV).getF hf) (fun V hV => (h.below hV).getF hg)
theorem IM.oneF (h : IM w x mf ml mc cp top H D) (hf : Fi H D n sz st F) : Calls Tryz.prog 37 #[.pointer (some ⟨x, 0, none⟩), .int .i64 (n : Int)] w fun e w' => e = .returned (.tuple #[.agg (fiC n sz st), .int .i64 0]) ∧ Below w.heap.size w w' :=
  one_gen (n : Int) 1 1 (sz : Int) (n : Int) 1 1 (sz : Int) st st 0 fun V hV => (h.below hV).twoF hf hf
set_option maxRecDepth 100000 in
theorem IM.sizeF (h : IM w x mf ml mc cp top H D) (hf : Fi H D n sz st F) : Calls Tryz.prog 18 #[.pointer (some ⟨x, 0, none⟩), .int .i64 (n : Int)] w fun e w' => e = .returned (.tuple #[.int .i64 (sz : Int), .int .i64 0]) ∧ Below w.heap.size w w' := by
  have H1 := h.oneF hf
  have hzi : ∀ w, (zeroValue 77).run Tryz.prog w = .ok (.agg if0) w := zero_info
  clear h hf
  go_enter Tryz.func18, Tryz.ntmps18
  go_wp2_with fail
  refine H1.mono ?_
  rintro e w2 ⟨rfl, hb2⟩
  have u1 : Blk (w2.alloc (.cells if0 77)) w2.heap.size 77 if0 := Blk.new _ _ _
  have u2 := u1.set (fiC n sz st)
  have c3 : ((w2.alloc (.cells if0 77)).setRow w2.heap.size (fiC n sz st)).cell? ⟨w2.heap.size, 3, none⟩ = some (.int .i64 (sz : Int)) := (u2.cell 3).trans rfl
  have HE : Hid (Below w.heap.size w ((w2.alloc (.cells if0 77)).setRow w2.heap.size (fiC n sz st))) := below_setRow (hb2.alloc hb2.size _) hb2.size _
  clear hb2 H1
  go_wp2_with (first
    | (refine wpList_store_row (by rfl) 77 _ _ (by rfl) (w2.heap.size) (fiC n sz st) (by rfl) (by rfl) 77 if0 (by exact u1) (sizeInfo.trans (by rfl)) (by rfl) (fi_all _ _ _) ?_; simp only [Act.put, List.setIfInBounds_toArray, List.set_cons_zero, List.set_cons_succ])
    | fail)
  go_ret2
  exact ⟨rfl, HE.out⟩
set_option maxRecDepth 100000 in
theorem IM.readBad (h : IM w x mf ml mc cp top H D) (hf : Fi H D n sz st F) (a m : Int) (hb : a < 0 ∨ m < 0) : Calls Tryz.prog 15 #[.pointer (some ⟨x, 0, none⟩), .int .i64 (n : Int), .int .i64 a, .int .i64 m] w fun e w' => e = .returned (.tuple #[.string ⟨#[]⟩, .int .i64 1]) ∧ Below w.heap.size w w' := by
  have H1 := h.oneF hf
  have hzi : ∀ w, (zeroValue 77).run Tryz.prog w = .ok (.agg if0) w := zero_info
  clear h hf
  go_enter Tryz.func15, Tryz.ntmps15
  go_wp2_with fail
  refine H1.mono ?_
  rintro e w2 ⟨rfl, hb2⟩
  have u1 : Blk (w2.alloc (.cells if0 77)) w2.heap.size 77 if0 := Blk.new _ _ _
  have u2 := u1.set (fiC n sz st)
  have c3 : ((w2.alloc (.cells if0 77)).setRow w2.heap.size (fiC n sz st)).cell? ⟨w2.heap.size, 3, none⟩ = some (.int .i64 (sz : Int)) := (u2.cell 3).trans rfl
  have HE : Hid (Below w.heap.size w ((w2.alloc (.cells if0 77)).setRow w2.heap.size (fiC n sz st))) := below_setRow (hb2.alloc hb2.size _) hb2.size _
  clear hb2 H1
  by_cases ha : a < 0
  · clear hb
    go_wp2_with (first
    | (refine wpList_store_row (by rfl) 77 _ _ (by rfl) (w2.heap.size) (fiC n sz st) (by rfl) (by rfl) 77 if0 (by exact u1) (sizeInfo.trans (by rfl)) (by rfl) (fi_all _ _ _) ?_; simp only [Act.put, List.setIfInBounds_toArray, List.set_cons_zero, List.set_cons_succ])
      | fail)
    go_ret2
    exact ⟨rfl, HE.out⟩
  · have hm : m < 0 := by omega
    clear hb
    go_wp2_with (first
    | (refine wpList_store_row (by rfl) 77 _ _ (by rfl) (w2.heap.size) (fiC n sz st) (by rfl) (by rfl) 77 if0 (by exact u1) (sizeInfo.trans (by rfl)) (by rfl) (fi_all _ _ _) ?_; simp only [Act.put, List.setIfInBounds_toArray, List.set_cons_zero, List.set_cons_succ])
      | fail)
    go_ret2
    exact ⟨rfl, HE.out⟩
set_option maxRecDepth 100000 in
set_option maxHeartbeats 4000000 in
theorem IM.readF (h : IM w x mf ml mc cp top H D) (hf : Fi H D n sz st F) (hF : ∀ p, p < sz → F p < 256) (a m : Nat) (ha : a ≤ 9223372036854775807) (hm : m ≤ 9223372036854775807) : Calls Tryz.prog 15 #[.pointer (some ⟨x, 0, none⟩), .int .i64 (n : Int), .int .i64 (a : Int), .int .i64 (m : Int)] w fun e w' => e = .returned (.tuple #[.string (strN (fun j => F (a + j)) (thN sz a m)), .int .i64 0]) ∧ Below w.heap.size w w' := by
  have H1 := h.oneF hf
  have hzi : ∀ w, (zeroValue 77).run Tryz.prog w = .ok (.agg if0) w := zero_info
  have HTX : Hid (∀ V, Below w.heap.size w V → Calls Tryz.prog 38 #[.pointer (some ⟨x, 0, none⟩), .agg (fiC n sz st), .int .i64 (a : Int), .int .i64 (thN sz a m : Int)] V fun e w' => e = .returned (.tuple #[.string (strN (fun j => F (a + j)) (thN sz a m)), .int .i64 0]) ∧ Below V.heap.size V w') := fun V hV => text_any (L := D n) hf.le hF (fun q i hi hp => hf.leaf q i hi hp) (fun U hU q hq => ((h.below hV).below hU).leafF hf q hq) a (thN sz a m) ha (by unfold thN; omega)
  have HTH : Hid (∀ V : World, Calls Tryz.prog 39 #[.agg (fiC n sz st), .int .i64 (a : Int), .int .i64 (m : Int)] V fun e w' => e = .returned (.int .i64 (thN sz a m : Int)) ∧ Below V.heap.size V w') := there_any n sz st a m hf.le ha hm
  have a0 : ¬ ((a : Int) < 0) := by omega
  have m0 : ¬ ((m : Int) < 0) := by omega
  clear h hf hF
  go_enter Tryz.func15, Tryz.ntmps15
  go_wp2_with fail
  refine H1.mono ?_
  rintro e w2 ⟨rfl, hb2⟩
  have u1 : Blk (w2.alloc (.cells if0 77)) w2.heap.size 77 if0 := Blk.new _ _ _
  have u2 := u1.set (fiC n sz st)
  have c3 : ((w2.alloc (.cells if0 77)).setRow w2.heap.size (fiC n sz st)).cell? ⟨w2.heap.size, 3, none⟩ = some (.int .i64 (sz : Int)) := (u2.cell 3).trans rfl
  have HE : Hid (Below w.heap.size w ((w2.alloc (.cells if0 77)).setRow w2.heap.size (fiC n sz st))) := below_setRow (hb2.alloc hb2.size _) hb2.size _
  clear hb2 H1
  have hS0 : Blk ((w2.alloc (.cells if0 77)).setRow w2.heap.size (fiC n sz st)).drew w2.heap.size 77 (fiC n sz st) := u2.drew
  go_wp2_with (first
    | (refine wpList_store_row (by rfl) 77 _ _ (by rfl) (w2.heap.size) (fiC n sz st) (by rfl) (by rfl) 77 if0 (by exact u1) (sizeInfo.trans (by rfl)) (by rfl) (fi_all _ _ _) ?_; simp only [Act.put, List.setIfInBounds_toArray, List.set_cons_zero, List.set_cons_succ])
    | fail)
  refine wp_region_plan (fun W => Blk W w2.heap.size 77 (fiC n sz st)) (.yield [0, 2, 4, 5] 1 (.force [] 3 (.force [] 6 (.force [] 7 (.fin [8, 9, 10, 11]))))) (by kernel_rfl) (by kernel_rfl) hS0 (plan_yield ?_)
  simp only [List.cons_append, List.nil_append, List.append_nil, List.filterMap_cons, List.filterMap_nil, List.getElem?_toArray, List.getElem?_cons_zero, List.getElem?_cons_succ]
  go_wp2_with fail
  refine ⟨rfl, _, .agg (fiC n sz st), rfl, Or.inl ⟨by rfl, fun W hW => by obtain ⟨d0, d1, d2, d3, d4⟩ := fi_cs hW; go_simp; rfl⟩, plan_force ?_⟩
  simp only [Act.put, List.setIfInBounds_toArray, List.set_cons_zero, List.set_cons_succ]
  simp only [List.cons_append, List.nil_append, List.append_nil, List.filterMap_cons, List.filterMap_nil, List.getElem?_toArray, List.getElem?_cons_zero, List.getElem?_cons_succ]
  (refine wpList_load_row (by rfl) 77 _ (by rfl) (w2.heap.size) (by rfl) 77 (fiC n sz st) (0, 0) _ (by exact hS0) Tryz.underlying77 (by rfl) (sizeInfo.trans (by rfl)) ?_; simp only [Act.put, List.setIfInBounds_toArray, List.set_cons_zero, List.set_cons_succ])
  go_wp2_with fail
  refine ⟨rfl, hS0, plan_force ?_⟩
  have hE := HE.out.drew
  clear HE u1 u2 c3
  generalize ((w2.alloc (.cells if0 77)).setRow w2.heap.size (fiC n sz st)).drew = w3 at *
  simp only [List.cons_append, List.nil_append, List.append_nil, List.filterMap_cons, List.filterMap_nil, List.getElem?_toArray, List.getElem?_cons_zero, List.getElem?_cons_succ]
  go_wp2_with fail
  refine (HTH.out w3).mono ?_
  rintro e w4 ⟨rfl, hb4⟩
  have hS4 : Blk w4 w2.heap.size 77 (fiC n sz st) := hS0.below hb4 hS0.lt
  have hE4 : Below w.heap.size w w4 := hE.trans (hb4.mono hE.size)
  have HT4 := HTX.out w4 hE4
  go_wp2_with fail
  refine ⟨rfl, hS4, plan_force ?_⟩
  simp only [List.cons_append, List.nil_append, List.append_nil, List.filterMap_cons, List.filterMap_nil, List.getElem?_toArray, List.getElem?_cons_zero, List.getElem?_cons_succ]
  go_wp2_with fail
  refine HT4.mono ?_
  rintro e w5 ⟨rfl, hb5⟩
  have hS5 : Blk w5 w2.heap.size 77 (fiC n sz st) := hS4.below hb5 hS4.lt
  have hE5 : Below w.heap.size w w5 := hE4.trans (hb5.mono hE4.size)
  go_wp2_with fail
  refine ⟨rfl, hS5, plan_fin ?_⟩
  simp only [List.cons_append, List.nil_append, List.append_nil, List.filterMap_cons, List.filterMap_nil, List.getElem?_toArray, List.getElem?_cons_zero, List.getElem?_cons_succ]
  go_wp2_with fail
  refine ⟨rfl, ?_⟩
  go_wp2_with fail
  go_ret2
  exact ⟨rfl, hE5⟩
end
end Go.Proofs.YtojbgggkfahkfaaGreat

namespace Go.Proofs.YtojbgggkfahkfaaGreat
open Go Go.RowKit
set_option linter.unusedSimpArgs false
set_option linter.unusedVariables false
section
variable {w : World} {x mf ml mc : Nat} {cp : Option Addr} {top : Int} {H : Nat → Hd} {D : Nat → Nat → Nat → Nat} {n sz st : Nat} {F : Nat → Nat}
theorem empty_text {s : ByteArray} (h : s.size = 0) : s = ⟨#[]⟩ := by
  cases s with | mk d => simp [ByteArray.size] at h; simp [h]
theorem fl_full {t : ByteArray} (h : 0 < t.size) : t.toList.isEmpty = false := by
  rw [ByteArray.toList_eq]
  cases ht : t.data.toList with
  | nil =>
    have : t.data.toList.length = t.size := Array.length_toList
    rw [ht] at this
    simp at this
    omega
  | cons a l => rfl
set_option maxRecDepth 100000 in
theorem write_none (xp : Value) (n sz st a s' : Nat) (ha : a ≤ 1048576) (w : World) : Calls Tryz.prog 40 #[xp, .agg (fiC n sz st), .int .i64 (a : Int), .string ⟨#[]⟩, .int .u64 ((s' : Nat) : Int)] w fun e w' => e = .returned (.int .i64 0) ∧ Below w.heap.size w w' := by
  have HB := tooBig_any (a : Int) 0 (by omega) (by omega) (w.alloc (.cells (fiC n sz st) 77))
  rw [decide_eq_false (by omega)] at HB
  have hb1 : Below w.heap.size w (w.alloc (.cells (fiC n sz st) 77)) := below_new1 _ _
  go_enter Tryz.func40, Tryz.ntmps40
  go_wp2_with fail
  refine HB.mono ?_
  rintro e w1 ⟨rfl, hw⟩
  rw [hw]
  clear hw w1
  go_wp2_with fail
  go_ret
  exact ⟨rfl, hb1⟩
set_option maxRecDepth 100000 in
set_option maxHeartbeats 4000000 in
theorem IM.write (h : IM w x mf ml mc cp top H D) (hf : Fi H D n sz st F) (s : ByteArray) (a s' : Nat) (hs : 0 < s.size) (ha : a + s.size ≤ 1048576) : Calls Tryz.prog 40 #[.pointer (some ⟨x, 0, none⟩), .agg (fiC n sz st), .int .i64 (a : Int), .string s, .int .u64 ((s' : Nat) : Int)] w fun e w' => e = .returned (.int .i64 0) ∧ Now w' x mf ml mc cp top H D n (max sz (a + s.size)) s' (wrF F sz s a) ∧ Turns (fun z => z = ml ∨ z = mf) w w' := by
  have HB := tooBig_any (a : Int) s.size (by omega) (by omega) (w.alloc (.cells (fiC n sz st) 77))
  rw [decide_eq_false (by omega)] at HB
  have hb1 : Below w.heap.size w (w.alloc (.cells (fiC n sz st) 77)) := below_new1 _ _
  have u2 : Blk (w.alloc (.cells (fiC n sz st) 77)) w.heap.size 77 (fiC n sz st) := Blk.new _ _ _
  have c3 := fi_c3 u2
  have HL := (h.below hb1).lay hf s a (max sz (a + s.size)) s' hs (by omega) (by have := hf.le; omega) (by omega)
  obtain ⟨S, hS⟩ : ∃ S : Nat, s.size = S := ⟨_, rfl⟩
  obtain ⟨en, hen⟩ : ∃ en : Nat, a + S = en := ⟨_, rfl⟩
  obtain ⟨z, hz⟩ : ∃ z : Nat, max sz en = z := ⟨_, rfl⟩
  rw [hS, hen, hz] at HL
  rw [hS, hen, hz]
  rw [hS] at HB
  have hne : s.toList.isEmpty = false := fl_full hs
  have e1 : (a : Int) + (S : Int) = (en : Int) := by omega
  have e2 : max (sz : Int) (en : Int) = (z : Int) := by omega
  have b1 : en ≤ 1048576 := by omega
  clear h hf hs ha hen hz
  go_enter Tryz.func40, Tryz.ntmps40
  go_wp2_with fail
  refine HB.mono ?_
  rintro e w1 ⟨rfl, hw⟩
  rw [hw]
  clear hw w1 HB
  go_wp2_with (first
    | (refine wpList_load_row (by rfl) 77 _ (by rfl) (w.heap.size) (by rfl) 77 (fiC n sz st) (0, 0) _ (by exact u2) Tryz.underlying77 (by rfl) (sizeInfo.trans (by rfl)) ?_; simp only [Act.put, List.setIfInBounds_toArray, List.set_cons_zero, List.set_cons_succ])
    | fail)
  refine HL.mono ?_
  rintro e w2 ⟨rfl, hN, hT⟩
  have HE : Hid (Now w2 x mf ml mc cp top H D n z s' (wrF F sz s a) ∧ Turns (fun z => z = ml ∨ z = mf) w w2) := ⟨hN, (Turns.bel hb1).tr hT⟩
  clear HL hN hT
  go_wp2_with fail
  go_ret
  exact ⟨rfl, HE.out⟩
set_option maxRecDepth 100000 in
set_option maxHeartbeats 4000000 in
theorem IM.writeNone (h : IM w x mf ml mc cp top H D) (hf : Fi H D n sz st F) (a s' : Nat) (ha : a ≤ 1048576) : Calls Tryz.prog 16 #[.pointer (some ⟨x, 0, none⟩), .int .i64 (n : Int), .int .i64 (a : Int), .string ⟨#[]⟩, .int .u64 ((s' : Nat) : Int)] w fun e w' => e = .returned (.tuple #[.int .i64 (a : Int), .int .i64 0]) ∧ Below w.heap.size w w' := by
  have H1 := h.oneF hf
  have hzi : ∀ w, (zeroValue 77).run Tryz.prog w = .ok (.agg if0) w := zero_info
  have HW : Hid (∀ V : World, Calls Tryz.prog 40 #[.pointer (some ⟨x, 0, none⟩), .agg (fiC n sz st), .int .i64 (a : Int), .string ⟨#[]⟩, .int .u64 ((s' : Nat) : Int)] V fun e w' => e = .returned (.int .i64 0) ∧ Below V.heap.size V w') := fun V => write_none _ n sz st a s' ha V
  have a0 : ¬ ((a : Int) < 0) := by omega
  clear h hf
  go_enter Tryz.func16, Tryz.ntmps16
  go_wp2_with fail
  refine H1.mono ?_
  rintro e w2 ⟨rfl, hb2⟩
  have u1 : Blk (w2.alloc (.cells if0 77)) w2.heap.size 77 if0 := Blk.new _ _ _
  have u2 := u1.set (fiC n sz st)
  have c3 : ((w2.alloc (.cells if0 77)).setRow w2.heap.size (fiC n sz st)).cell? ⟨w2.heap.size, 3, none⟩ = some (.int .i64 (sz : Int)) := (u2.cell 3).trans rfl
  have HE : Hid (Below w.heap.size w ((w2.alloc (.cells if0 77)).setRow w2.heap.size (fiC n sz st))) := below_setRow (hb2.alloc hb2.size _) hb2.size _
  have HS2 : Hid (w.heap.size ≤ w2.heap.size) := hb2.size
  clear hb2 H1
  have H3 := HW.out ((w2.alloc (.cells if0 77)).setRow w2.heap.size (fiC n sz st))
  go_wp2_with (first
    | (refine wpList_store_row (by rfl) 77 _ _ (by rfl) (w2.heap.size) (fiC n sz st) (by rfl) (by rfl) 77 if0 (by exact u1) (sizeInfo.trans (by rfl)) (by rfl) (fi_all _ _ _) ?_; simp only [Act.put, List.setIfInBounds_toArray, List.set_cons_zero, List.set_cons_succ])
    | (refine wpList_load_row (by rfl) 77 _ (by rfl) (w2.heap.size) (by rfl) 77 (fiC n sz st) (0, 0) _ (by exact u2) Tryz.underlying77 (by rfl) (sizeInfo.trans (by rfl)) ?_; simp only [Act.put, List.setIfInBounds_toArray, List.set_cons_zero, List.set_cons_succ])
    | fail)
  refine H3.mono ?_
  rintro e w4 ⟨rfl, hb4⟩
  have hb5 : Below w.heap.size w w4 := HE.out.trans (hb4.mono HE.out.size)
  have c4 : w4.cell? ⟨w2.heap.size, 3, none⟩ = some (.int .i64 (sz : Int)) := fi_c3 (u2.below hb4 u2.lt)
  clear H3 c3 u1 u2 HE hb4
  go_wp2_with fail
  go_ret2
  exact ⟨rfl, hb5⟩
set_option maxRecDepth 100000 in
set_option maxHeartbeats 4000000 in
theorem IM.writeOk (h : IM w x mf ml mc cp top H D) (hf : Fi H D n sz st F) (a s' : Nat) (s : ByteArray) (hs : 0 < s.size) (ha : a + s.size ≤ 1048576) : Calls Tryz.prog 16 #[.pointer (some ⟨x, 0, none⟩), .int .i64 (n : Int), .int .i64 (a : Int), .string s, .int .u64 ((s' : Nat) : Int)] w fun e w' => e = .returned (.tuple #[.int .i64 ((a + s.size : Nat) : Int), .int .i64 0]) ∧ Now w' x mf ml mc cp top H D n (max sz (a + s.size)) s' (wrF F sz s a) ∧ Turns (fun z => z = ml ∨ z = mf) w w' := by
  have H1 := h.oneF hf
  have hzi : ∀ w, (zeroValue 77).run Tryz.prog w = .ok (.agg if0) w := zero_info
  have HW : Hid (∀ V, Below w.heap.size w V → Calls Tryz.prog 40 #[.pointer (some ⟨x, 0, none⟩), .agg (fiC n sz st), .int .i64 (a : Int), .string s, .int .u64 ((s' : Nat) : Int)] V fun e w' => e = .returned (.int .i64 0) ∧ Now w' x mf ml mc cp top H D n (max sz (a + s.size)) s' (wrF F sz s a) ∧ Turns (fun z => z = ml ∨ z = mf) V w') := fun V hV => (h.below hV).write hf s a s' hs ha
  have a0 : ¬ ((a : Int) < 0) := by omega
  obtain ⟨S, hS⟩ : ∃ S : Nat, s.size = S := ⟨_, rfl⟩
  obtain ⟨en, hen⟩ : ∃ en : Nat, a + S = en := ⟨_, rfl⟩
  rw [hS, hen] at HW
  rw [hS, hen]
  have e1 : (a : Int) + (S : Int) = (en : Int) := by omega
  have b1 : en ≤ 1048576 := by omega
  clear hf hs ha hen
  go_enter Tryz.func16, Tryz.ntmps16
  go_wp2_with fail
  refine H1.mono ?_
  rintro e w2 ⟨rfl, hb2⟩
  have u1 : Blk (w2.alloc (.cells if0 77)) w2.heap.size 77 if0 := Blk.new _ _ _
  have u2 := u1.set (fiC n sz st)
  have c3 : ((w2.alloc (.cells if0 77)).setRow w2.heap.size (fiC n sz st)).cell? ⟨w2.heap.size, 3, none⟩ = some (.int .i64 (sz : Int)) := (u2.cell 3).trans rfl
  have HE : Hid (Below w.heap.size w ((w2.alloc (.cells if0 77)).setRow w2.heap.size (fiC n sz st))) := below_setRow (hb2.alloc hb2.size _) hb2.size _
  have HS2 : Hid (w.heap.size ≤ w2.heap.size) := hb2.size
  clear hb2 H1
  have H3 := HW.out _ HE.out
  go_wp2_with (first
    | (refine wpList_store_row (by rfl) 77 _ _ (by rfl) (w2.heap.size) (fiC n sz st) (by rfl) (by rfl) 77 if0 (by exact u1) (sizeInfo.trans (by rfl)) (by rfl) (fi_all _ _ _) ?_; simp only [Act.put, List.setIfInBounds_toArray, List.set_cons_zero, List.set_cons_succ])
    | (refine wpList_load_row (by rfl) 77 _ (by rfl) (w2.heap.size) (by rfl) 77 (fiC n sz st) (0, 0) _ (by exact u2) Tryz.underlying77 (by rfl) (sizeInfo.trans (by rfl)) ?_; simp only [Act.put, List.setIfInBounds_toArray, List.set_cons_zero, List.set_cons_succ])
    | fail)
  refine H3.mono ?_
  rintro e w4 ⟨rfl, hN, hT⟩
  have hlx := h.lts
  have c4 : w4.cell? ⟨w2.heap.size, 3, none⟩ = some (.int .i64 (sz : Int)) := fi_c3 ((hT.block _ u2.lt (by have := HS2.out; omega)).trans u2)
  have HE5 : Hid (_ ∧ _) := ⟨hN, (Turns.bel HE.out).tr hT⟩
  clear H3 c3 u1 u2 HE hN hT
  go_wp2_with fail
  go_ret2
  exact ⟨rfl, HE5.out⟩
end
end Go.Proofs.YtojbgggkfahkfaaGreat

namespace Go.Proofs.YtojbgggkfahkfaaGreat
open Go Go.RowKit
set_option linter.unusedSimpArgs false
set_option linter.unusedVariables false
section
variable {w : World}
set_option maxRecDepth 100000 in
theorem same_err {xp : Value} {a b er : Int} (her : er ≠ 0) (HO : TwoErr w xp a b er) : Calls Tryz.prog 14 #[xp, .int .i64 a, .int .i64 b] w fun e w' => e = .returned (.tuple #[.bool false, .int .i64 er]) ∧ Below w.heap.size w w' := by
  have H1 := HO w (Below.refl _ _)
  have hzi : ∀ w, (zeroValue 77).run Tryz.prog w = .ok (.agg if0) w := zero_info
  clear HO
  go_enter Tryz.func14, Tryz.ntmps14
  go_wp2_with fail
  refine H1.mono ?_
  rintro e w2 ⟨rfl, hb2⟩
  have u1 : Blk ((w2.alloc (.cells if0 77)).alloc (.cells if0 77)) w2.heap.size 77 if0 := (Blk.new _ _ _).alloc _
  have v1 : Blk ((w2.alloc (.cells if0 77)).alloc (.cells if0 77)) (w2.heap.size + 1) 77 if0 := Blk.new1 _ _ _ _
  have v2 : Blk (((w2.alloc (.cells if0 77)).alloc (.cells if0 77)).setRow w2.heap.size if0) (w2.heap.size + 1) 77 if0 := v1.other _ (by omega)
  have u3 : Blk ((((w2.alloc (.cells if0 77)).alloc (.cells if0 77)).setRow w2.heap.size if0).setRow (w2.heap.size + 1) if0) w2.heap.size 77 if0 := (u1.set _).other _ (by omega)
  have v3 : Blk ((((w2.alloc (.cells if0 77)).alloc (.cells if0 77)).setRow w2.heap.size if0).setRow (w2.heap.size + 1) if0) (w2.heap.size + 1) 77 if0 := v2.set _
  have hb3 : Below w.heap.size w ((((w2.alloc (.cells if0 77)).alloc (.cells if0 77)).setRow w2.heap.size if0).setRow (w2.heap.size + 1) if0) := below_setRow (below_setRow ((hb2.alloc hb2.size _).alloc (by have := hb2.size; simp; omega) _) hb2.size _) (by have := hb2.size; omega) _
  clear v1 hb2 H1
  clear u3 v3
  go_wp2_with (first
    | (refine wpList_store_row (by rfl) 77 _ _ (by rfl) (w2.heap.size) (if0) (by rfl) (by rfl) 77 (if0) (by exact u1) (sizeInfo.trans (by rfl)) (by rfl) (if_all _ _ _ _ _) ?_; simp only [Act.put, List.setIfInBounds_toArray, List.set_cons_zero, List.set_cons_succ])
    | (refine wpList_store_row (by rfl) 77 _ _ (by rfl) (w2.heap.size + 1) (if0) (by rfl) (by rfl) 77 (if0) (by exact v2) (sizeInfo.trans (by rfl)) (by rfl) (if_all _ _ _ _ _) ?_; simp only [Act.put, List.setIfInBounds_toArray, List.set_cons_zero, List.set_cons_succ])
    | fail)
  go_ret2
  exact ⟨rfl, hb3⟩
variable {x mf ml mc : Nat} {cp : Option Addr} {top : Int} {H : Nat → Hd} {D : Nat → Nat → Nat → Nat} {n sz st n' sz' st' : Nat} {F F' : Nat → Nat}
end
end Go.Proofs.YtojbgggkfahkfaaGreat

namespace Go.Proofs.YtojbgggkfahkfaaGreat
open Go Go.RowKit
set_option linter.unusedSimpArgs false
set_option linter.unusedVariables false
theorem open_im (cp : Option Addr) (w : World) : Calls Tryz.prog 26 #[.pointer cp, .agg (trC 0 rf0), .int .i64 0] w fun e w' => ∃ x mf ml mc, e = .returned (.tuple #[.pointer (some ⟨x, 0, none⟩), .int .i64 0]) ∧ (w.heap.size ≤ x ∧ w.heap.size ≤ mf ∧ w.heap.size ≤ ml ∧ w.heap.size ≤ mc) ∧ IM w' x mf ml mc cp 0 (fun _ => hd00) (fun _ _ _ => 0) ∧ Below w.heap.size w w' := by
  refine (open_full (by decide) okD_zero (by decide) may00 w).mono ?_
  rintro e w' ⟨x, mf, ml, mc, h1, h2, h3, h4, h5, h6⟩
  refine ⟨x, mf, ml, mc, h1, ⟨h2.1, h2.2.1, h2.2.2.1, h2.2.2.2.1⟩, ⟨h3, ⟨fun _ => none, MapFn.new h5.2.2.2.1, fun i _ p _ => rfl⟩, ⟨fun _ => none, MapFn.new h5.2.2.2.2.1, fun n p j _ => rfl⟩, ⟨0, h5.2.2.2.2.2⟩, ?_⟩, h6⟩
  omega
end Go.Proofs.YtojbgggkfahkfaaGreat

namespace Go.Proofs.YtojbgggkfahkfaaGreat
open Go Go.RowKit
set_option linter.unusedSimpArgs false
set_option linter.unusedVariables false
/-- a directory and a file, as they are made -/
def bgH : Nat → Hd := hU (hU (fun _ => hd00) 1 (hdN hd00 1 2 1 0 1)) 2 (hdN hd00 2 1 1 0 1)
def bgD : Nat → Nat → Nat → Nat := fun _ _ _ => 0
theorem bg_file : Fi bgH bgD 2 0 1 (fun _ => 0) := ⟨by decide, by decide, rfl, rfl, rfl, rfl, rfl, rfl, by decide, fun q i hi => by rw [if_neg (by omega)]; rfl⟩
theorem bg_none (n : Nat) (h1 : n ≠ 1) (h2 : n ≠ 2) : bgH n = hd00 := by
  unfold bgH hU
  rw [if_neg h2, if_neg h1]
/-- inodes that were begun -/
def Beg (w w' : World) (x mf ml mc : Nat) (cp : Option Addr) : Prop := (w.heap.size ≤ x ∧ w.heap.size ≤ mf ∧ w.heap.size ≤ ml ∧ w.heap.size ≤ mc) ∧ IM w' x mf ml mc cp 2 bgH bgD ∧ Below w.heap.size w w'
set_option maxRecDepth 100000 in
set_option maxHeartbeats 4000000 in
theorem begun_any (w : World) : Calls Tryz.prog 6 #[] w fun e w' => ∃ x mf ml mc cp, e = .returned (.tuple #[.pointer (some ⟨x, 0, none⟩), .int .i64 2, .bool true]) ∧ Beg w w' x mf ml mc cp := by
  have hbt := built_tr0
  have HN : Hid (∀ w : World, Calls Tryz.prog 23 #[.int .i64 64] w fun e w' => ∃ g, e = .returned (.tuple #[.pointer (some ⟨g, 0, none⟩), .int .i64 0]) ∧ Below w.heap.size w w') := fun w => (diskNew_any 64 (by decide) (by decide) w).mono fun e w' ⟨g, q, h1, _, _, h2⟩ => ⟨g, h1, h2⟩
  have HG : Hid (∀ w : World, Calls Tryz.prog 25 #[] w fun e w' => ∃ g, e = .returned (.pointer (some ⟨g, 0, none⟩)) ∧ Below w.heap.size w w') := fun w => (newLog_any w).mono fun e w' ⟨g, r, h1, _, _, _, h2⟩ => ⟨g, h1, h2⟩
  have HC : Hid (∀ (g l : Nat) (w : World), Calls Tryz.prog 24 #[.pointer (some ⟨g, 0, none⟩), .pointer (some ⟨l, 0, none⟩), .int .i64 16] w fun e w' => ∃ c, e = .returned (.tuple #[.pointer (some ⟨c, 0, none⟩), .int .i64 0]) ∧ Below w.heap.size w w') := fun g l w => (caNew_ok g (some ⟨l, 0, none⟩) 16 (by decide) (by decide) w).mono fun e w' ⟨c, m, h1, _, _, _, h2⟩ => ⟨c, h1, h2⟩
  have HO : Hid (∀ (c : Nat) (w : World), Calls Tryz.prog 26 #[.pointer (some ⟨c, 0, none⟩), .agg (trC 0 rf0), .int .i64 0] w fun e w' => ∃ x mf ml mc, e = .returned (.tuple #[.pointer (some ⟨x, 0, none⟩), .int .i64 0]) ∧ (w.heap.size ≤ x ∧ w.heap.size ≤ mf ∧ w.heap.size ≤ ml ∧ w.heap.size ≤ mc) ∧ IM w' x mf ml mc (some ⟨c, 0, none⟩) 0 (fun _ => hd00) (fun _ _ _ => 0) ∧ Below w.heap.size w w') := fun c w => open_im (some ⟨c, 0, none⟩) w
  go_enter Tryz.func6, Tryz.ntmps6
  go_wp2_with fail
  refine (HN.out _).mono ?_
  rintro e w2 ⟨d, rfl, hb2⟩
  go_wp2_with fail
  refine (HG.out _).mono ?_
  rintro e w3 ⟨l, rfl, hb3⟩
  have hb13 := hb2.trans (hb3.mono hb2.size)
  clear hb2 hb3 HN HG
  go_wp2_with fail
  refine (HC.out _ _ _).mono ?_
  rintro e w4 ⟨c, rfl, hb4⟩
  have hb14 := hb13.trans (hb4.mono hb13.size)
  clear hb13 hb4 HC
  go_wp2_with (first
    | (refine wpList_buildTo (by rfl) 73 #[] (by rfl) _ rfl (trC 0 rf0) (by exact hbt) ?_; simp only [Act.put, List.setIfInBounds_toArray, List.set_cons_zero, List.set_cons_succ])
    | fail)
  refine (HO.out _ _).mono ?_
  rintro e w5 ⟨x, mf, ml, mc, rfl, hbs, hI5, hb5⟩
  have hb15 := hb14.trans (hb5.mono hb14.size)
  have hz := hb14.size
  have HX : Hid (w.heap.size ≤ x ∧ w.heap.size ≤ mf ∧ w.heap.size ≤ ml ∧ w.heap.size ≤ mc) := ⟨by omega, by omega, by omega, by omega⟩
  have HM1 := hI5.make 1 (by decide) (by decide) rfl (fun m h1 h2 => absurd h2 (by omega)) 2 (.inr rfl) 1 (by decide)
  have HB15 : Hid (Below w.heap.size w w5) := hb15
  clear hb14 hb5 hb15 HO hI5 hbt hbs
  go_wp2_with fail
  refine HM1.mono ?_
  rintro e w6 ⟨rfl, hI6, ht6⟩
  have HM2 := hI6.make 2 (by decide) (by decide) rfl (fun m h1 h2 => by
    have : m = 1 := by omega
    subst this
    decide) 1 (.inl rfl) 1 (by decide)
  have HT6 : Hid (Turns (fun z => z = x ∨ z = mf) w5 w6) := ht6
  clear HM1 hI6 ht6
  go_wp2_with fail
  refine HM2.mono ?_
  rintro e w7 ⟨rfl, hI7, ht7⟩
  have HE : Hid (Beg w w7 x mf ml mc (some ⟨c, 0, none⟩)) := by
    refine ⟨HX.out, hI7, ?_⟩
    have t7 := HT6.out.tr ht7
    have := HX.out
    exact HB15.out.trans (t7.below HB15.out.size (fun b hb => by rcases hb with rfl | rfl; exact this.1; exact this.2.1))
  clear HM2 hI7 ht7
  go_wp2_with fail
  go_ret3
  exact ⟨x, mf, ml, mc, _, rfl, HE.out⟩
end Go.Proofs.YtojbgggkfahkfaaGreat

namespace Go.Proofs.YtojbgggkfahkfaaGreat
open Go Go.RowKit
set_option linter.unusedSimpArgs false
set_option linter.unusedVariables false
theorem wrF_lt {F : Nat → Nat} {o : Nat} (hF : ∀ p, p < o → F p < 256) (s : ByteArray) (a p : Nat) : wrF F o s a p < 256 := by
  unfold wrF
  split
  · exact tbyte_lt _ _
  · split
    · rename_i h
      exact hF p h
    · decide
set_option maxRecDepth 100000 in
set_option maxHeartbeats 4000000 in
theorem awake16_any (w : World) : Calls Tryz.prog 7 #[] w fun e w' => e = .returned (.bool true) ∧ Below w.heap.size w w' := by
  have HB := begun_any w
  go_enter Tryz.func7, Tryz.ntmps7
  go_wp2_with fail
  refine HB.mono ?_
  rintro e w1 ⟨x, mf, ml, mc, cp, rfl, hx, hI, hb1⟩
  have HW := hI.writeOk bg_file 300 1 ⟨#[97, 98]⟩ (by decide) (by decide)
  have HX : Hid (w.heap.size ≤ x ∧ w.heap.size ≤ mf ∧ w.heap.size ≤ ml ∧ w.heap.size ≤ mc) := hx
  have HB1 : Hid (Below w.heap.size w w1) := hb1
  clear HB hI hb1 hx
  go_wp2_with fail
  refine HW.mono ?_
  rintro e w2 ⟨rfl, ⟨H', D', hI2, hf2, _⟩, hT2⟩
  have HR := hI2.readF hf2 (fun p _ => wrF_lt (fun p hp => absurd hp (by omega)) _ _ _) 299 9 (by decide) (by decide)
  have hs : strN (fun j => wrF (fun _ => 0) 0 ⟨#[97, 98]⟩ 300 (299 + j)) (thN (max 0 (300 + (⟨#[97, 98]⟩ : ByteArray).size)) 299 9) = ⟨#[0, 97, 98]⟩ := by decide
  rw [hs] at HR
  have HE : Hid (Below w.heap.size w w2) := by
    have := HX.out
    exact HB1.out.trans (hT2.below HB1.out.size (fun b hb => by rcases hb with rfl | rfl; exact this.2.2.1; exact this.2.1))
  clear HW hI2 hf2 hT2 hs
  go_wp2_with fail
  refine HR.mono ?_
  rintro e w3 ⟨rfl, hb3⟩
  have HE3 : Hid (Below w.heap.size w w3) := HE.out.trans (hb3.mono HE.out.size)
  clear HR hb3
  go_wp2_with fail
  go_ret
  exact ⟨rfl, HE3.out⟩
end Go.Proofs.YtojbgggkfahkfaaGreat

namespace Go.Proofs.YtojbgggkfahkfaaGreat
open Go Go.RowKit
set_option linter.unusedSimpArgs false
set_option linter.unusedVariables false
/-- the bytes of a range that are there -/
def prT (s : ByteArray) (a m : Nat) : ByteArray := strN (fun j => tbyte s (a + j)) (thN s.size a m)
theorem prT_out (s : ByteArray) (a m : Nat) (h : s.size ≤ a) : prT s a m = ⟨#[]⟩ := by
  have : thN s.size a m = 0 := by unfold thN; omega
  unfold prT
  rw [this]
  rfl
theorem prT_cut (s : ByteArray) (a m : Nat) (h : a < s.size) (hm : m < s.size - a) : (s.extract a s.size).extract 0 m = prT s a m := by
  have hz := extract_size s a s.size (Nat.le_refl _)
  have ht : thN s.size a m = m := by unfold thN; omega
  refine text_ext ?_ fun j hj => ?_
  · unfold prT
    rw [strN_size, extract_size _ _ _ (by omega), ht]
    rfl
  · rw [extract_size _ _ _ (by omega)] at hj
    unfold prT
    rw [tbyte_extract _ _ _ _ (by omega) (by omega), tbyte_extract _ _ _ _ (Nat.le_refl _) (by omega), strN_at (fun j => tbyte s (a + j)) _ j (by omega) (tbyte_lt _ _), Nat.zero_add]
theorem prT_all (s : ByteArray) (a m : Nat) (h : a < s.size) (hm : ¬ m < s.size - a) : s.extract a s.size = prT s a m := by
  have hz := extract_size s a s.size (Nat.le_refl _)
  have ht : thN s.size a m = s.size - a := by unfold thN; omega
  refine text_ext ?_ fun j hj => ?_
  · unfold prT
    rw [strN_size, hz, ht]
  · rw [hz] at hj
    unfold prT
    rw [tbyte_extract _ _ _ _ (Nat.le_refl _) (by omega), strN_at (fun j => tbyte s (a + j)) _ j (by omega) (tbyte_lt _ _)]
set_option maxRecDepth 100000 in
theorem part_any (s : ByteArray) (a m : Nat) (hs : s.size ≤ 140737488355328) (ha : a ≤ 9223372036854775807) (hm : m ≤ 9223372036854775807) (w : World) : Calls Tryz.prog 33 #[.string s, .int .i64 (a : Int), .int .i64 (m : Int)] w fun e w' => e = .returned (.string (prT s a m)) ∧ w' = w := by
  obtain ⟨S, hS⟩ : ∃ S : Nat, s.size = S := ⟨_, rfl⟩
  by_cases h1 : S ≤ a
  · have HP : Hid (prT s a m = ⟨#[]⟩) := prT_out s a m (by omega)
    have t1 : (S : Int) ≤ (a : Int) := by omega
    go_enter Tryz.func33, Tryz.ntmps33
    go_wp2_with fail
    go_ret
    exact ⟨by rw [HP.out]; rfl, rfl⟩
  · have t1 : ¬ ((S : Int) ≤ (a : Int)) := by omega
    have t2 : (0 : Int) ≤ (a : Int) := by omega
    have t3 : (a : Int) ≤ (S : Int) := by omega
    have hz := extract_size s a s.size (Nat.le_refl _)
    rw [hS] at hz
    obtain ⟨T, hT⟩ : ∃ T : Nat, S - a = T := ⟨_, rfl⟩
    rw [hT] at hz
    have t4 : (0 : Int) ≤ (m : Int) := by omega
    by_cases h2 : m < T
    · have HP : Hid ((s.extract a S).extract 0 m = prT s a m) := by rw [← hS]; exact prT_cut s a m (by omega) (by omega)
      have t5 : (m : Int) < (T : Int) := by omega
      have t6 : (m : Int) ≤ (T : Int) := by omega
      clear h1 h2 hT
      go_enter Tryz.func33, Tryz.ntmps33
      go_wp2_with fail
      go_ret
      exact ⟨by rw [← HP.out]; rfl, rfl⟩
    · have HP : Hid (s.extract a S = prT s a m) := by rw [← hS]; exact prT_all s a m (by omega) (by omega)
      have t5 : ¬ ((m : Int) < (T : Int)) := by omega
      clear h1 h2 hT
      go_enter Tryz.func33, Tryz.ntmps33
      go_wp2_with fail
      go_ret
      exact ⟨by rw [← HP.out]; rfl, rfl⟩
/-- a file's model -/
def mdC (s : ByteArray) (st : Nat) : Array Value := #[.string s, .int .u64 ((st : Nat) : Int)]
section
variable {w : World} {x mf ml mc : Nat} {cp : Option Addr} {top : Int} {H : Nat → Hd} {D : Nat → Nat → Nat → Nat} {n st : Nat}
theorem read_whole (s : ByteArray) (h : s.size ≤ 1048576) : strN (fun j => tbyte s (0 + j)) (thN s.size 0 1048577) = s := by
  have : thN s.size 0 1048577 = s.size := by unfold thN; omega
  rw [this, strN_congr (g := tbyte s) fun j _ => by rw [Nat.zero_add]]
  exact strN_text s
set_option maxRecDepth 100000 in
set_option maxHeartbeats 8000000 in
theorem IM.standsF (h : IM w x mf ml mc cp top H D) (s : ByteArray) (hf : Fi H D n s.size st (tbyte s)) (a m : Int) (ha : -9223372036854775808 ≤ a ∧ a ≤ 9223372036854775807) (hm : -9223372036854775808 ≤ m ∧ m ≤ 9223372036854775807) : Calls Tryz.prog 13 #[.pointer (some ⟨x, 0, none⟩), .int .i64 (n : Int), .agg (mdC s st), .int .i64 a, .int .i64 m] w fun e w' => e = .returned (.bool true) ∧ Below w.heap.size w w' := by
  have hsz := hf.le
  have hzi : ∀ w, (zeroValue 77).run Tryz.prog w = .ok (.agg if0) w := zero_info
  have k1 : Blk (w.alloc (.cells (mdC s st) 33)) w.heap.size 33 (mdC s st) := Blk.new _ _ _
  have hb1 : Below w.heap.size w (w.alloc (.cells (mdC s st) 33)) := below_new1 _ _
  have HG := (h.below hb1).getF hf
  have HSZ : Hid (∀ V, Below w.heap.size w V → Calls Tryz.prog 18 #[.pointer (some ⟨x, 0, none⟩), .int .i64 (n : Int)] V fun e w' => e = .returned (.tuple #[.int .i64 (s.size : Int), .int .i64 0]) ∧ Below V.heap.size V w') := fun V hV => (h.below hV).sizeF hf
  have HRB : Hid (∀ V, Below w.heap.size w V → (a < 0 ∨ m < 0) → Calls Tryz.prog 15 #[.pointer (some ⟨x, 0, none⟩), .int .i64 (n : Int), .int .i64 a, .int .i64 m] V fun e w' => e = .returned (.tuple #[.string ⟨#[]⟩, .int .i64 1]) ∧ Below V.heap.size V w') := fun V hV hb => (h.below hV).readBad hf a m hb
  have HRF : Hid (∀ V, Below w.heap.size w V → ∀ a m : Nat, a ≤ 9223372036854775807 → m ≤ 9223372036854775807 → Calls Tryz.prog 15 #[.pointer (some ⟨x, 0, none⟩), .int .i64 (n : Int), .int .i64 (a : Int), .int .i64 (m : Int)] V fun e w' => e = .returned (.tuple #[.string (prT s a m), .int .i64 0]) ∧ Below V.heap.size V w') := fun V hV a m ha hm => (h.below hV).readF hf (fun p _ => tbyte_lt _ _) a m ha hm
  have HRW : Hid (∀ V, Below w.heap.size w V → Calls Tryz.prog 15 #[.pointer (some ⟨x, 0, none⟩), .int .i64 (n : Int), .int .i64 0, .int .i64 1048577] V fun e w' => e = .returned (.tuple #[.string s, .int .i64 0]) ∧ Below V.heap.size V w') := fun V hV => by
    have := (h.below hV).readF hf (fun p _ => tbyte_lt _ _) 0 1048577 (by decide) (by decide)
    rw [read_whole s hsz] at this
    exact this
  obtain ⟨S, hS⟩ : ∃ S : Nat, s.size = S := ⟨_, rfl⟩
  have HZ : Hid (s.size = S ∧ S ≤ 1048576) := ⟨hS, by omega⟩
  rw [hS] at HG HSZ
  unfold fiV at HG
  clear h hf hsz
  go_enter Tryz.func13, Tryz.ntmps13
  go_wp2_with fail
  refine HG.mono ?_
  rintro e w2 ⟨rfl, hb2⟩
  have u1 : Blk (w2.alloc (.cells if0 77)) w2.heap.size 77 if0 := Blk.new _ _ _
  have u2 := u1.set (fiC n S st)
  have hb12 := hb1.trans (hb2.mono hb1.size)
  have hb3 : Below w.heap.size w ((w2.alloc (.cells if0 77)).setRow w2.heap.size (fiC n S st)) := below_setRow (hb12.alloc hb12.size _) hb12.size _
  have k2 := k1.below hb2 k1.lt
  have k3 : Blk ((w2.alloc (.cells if0 77)).setRow w2.heap.size (fiC n S st)) w.heap.size 33 (mdC s st) := (k2.alloc _).other _ (by have := k2.lt; omega)
  have H3 := HSZ.out _ hb3
  clear HG hb1 hb2 hb12 k1 k2
  go_wp2_with (first
    | (refine wpList_store_row (by rfl) 77 _ _ (by rfl) (w2.heap.size) (fiC n S st) (by rfl) (by rfl) 77 if0 (by exact u1) (sizeInfo.trans (by rfl)) (by rfl) (fi_all _ _ _) ?_; simp only [Act.put, List.setIfInBounds_toArray, List.set_cons_zero, List.set_cons_succ])
    | fail)
  clear u1
  obtain ⟨g, hg⟩ : ∃ g, w2.heap.size = g := ⟨_, rfl⟩
  rw [hg] at u2 hb3 k3 H3 ⊢
  generalize (w2.alloc (.cells if0 77)).setRow g (fiC n S st) = w3 at *
  refine H3.mono ?_
  rintro e w4 ⟨rfl, hb4⟩
  have hb14 := hb3.trans (hb4.mono hb3.size)
  obtain ⟨d0, d1, d2, d3, d4⟩ := fi_cs (u2.below hb4 u2.lt)
  have k4 := k3.below hb4 k3.lt
  have m0 : w4.cell? ⟨w.heap.size, 0, none⟩ = some (.string s) := (k4.cell 0).trans rfl
  have m1 : w4.cell? ⟨w.heap.size, 1, none⟩ = some (.int .u64 ((st : Nat) : Int)) := (k4.cell 1).trans rfl
  have HB4 : Hid (Below w.heap.size w w4) := hb14
  have hneS : ((S : Int) != (S : Int)) = false := by simp
  have hneT : ((st : Int) != (st : Int)) = false := by simp
  clear H3 hb3 hb4 k3 u2 hg hb14
  by_cases hbad : a < 0 ∨ m < 0
  · have HR1 := HRB.out w4 HB4.out hbad
    go_wp2_with fail
    refine HR1.mono ?_
    rintro e w5 ⟨rfl, hb5⟩
    have HB5 : Hid (Below w.heap.size w w5) := HB4.out.trans (hb5.mono HB4.out.size)
    have k5 := k4.below hb5 k4.lt
    have HR2 := HRW.out w5 HB5.out
    have m5 : w5.cell? ⟨w.heap.size, 0, none⟩ = some (.string s) := (k5.cell 0).trans rfl
    clear HR1 hb5 m0 m1 k4 d0 d1 d2 d3 d4
    by_cases ha0 : a < 0
    · clear hbad
      go_wp2_with fail
      refine HR2.mono ?_
      rintro e w6 ⟨rfl, hb6⟩
      have HB6 : Hid (Below w.heap.size w w6) := HB5.out.trans (hb6.mono HB5.out.size)
      have m6 : w6.cell? ⟨w.heap.size, 0, none⟩ = some (.string s) := ((k5.below hb6 k5.lt).cell 0).trans rfl
      clear HR2 hb6 m5
      go_wp2_with fail
      go_ret
      exact ⟨rfl, HB6.out⟩
    · have hm0 : m < 0 := by omega
      clear hbad
      go_wp2_with fail
      refine HR2.mono ?_
      rintro e w6 ⟨rfl, hb6⟩
      have HB6 : Hid (Below w.heap.size w w6) := HB5.out.trans (hb6.mono HB5.out.size)
      have m6 : w6.cell? ⟨w.heap.size, 0, none⟩ = some (.string s) := ((k5.below hb6 k5.lt).cell 0).trans rfl
      clear HR2 hb6 m5
      go_wp2_with fail
      go_ret
      exact ⟨rfl, HB6.out⟩
  · obtain ⟨a', rfl⟩ : ∃ a' : Nat, a = (a' : Int) := ⟨a.toNat, by omega⟩
    obtain ⟨m', rfl⟩ : ∃ m' : Nat, m = (m' : Int) := ⟨m.toNat, by omega⟩
    have a0 : ¬ ((a' : Int) < 0) := by omega
    have a1 : ¬ ((m' : Int) < 0) := by omega
    have HR1 := HRF.out w4 HB4.out a' m' (by omega) (by omega)
    have HP := part_any s a' m' (by have := HZ.out; omega) (by omega) (by omega)
    clear hbad ha hm
    go_wp2_with fail
    refine HR1.mono ?_
    rintro e w5 ⟨rfl, hb5⟩
    have HB5 : Hid (Below w.heap.size w w5) := HB4.out.trans (hb5.mono HB4.out.size)
    have k5 := k4.below hb5 k4.lt
    have HR2 := HRW.out w5 HB5.out
    have HP5 := HP w5
    have m5 : w5.cell? ⟨w.heap.size, 0, none⟩ = some (.string s) := (k5.cell 0).trans rfl
    clear HR1 hb5 m0 m1 k4 d0 d1 d2 d3 d4 HP
    go_wp2_with fail
    refine HP5.mono ?_
    rintro e w6 ⟨rfl, hw6⟩
    rw [hw6]
    clear hw6 w6 HP5
    go_wp2_with fail
    refine HR2.mono ?_
    rintro e w6 ⟨rfl, hb6⟩
    have HB6 : Hid (Below w.heap.size w w6) := HB5.out.trans (hb6.mono HB5.out.size)
    have m6 : w6.cell? ⟨w.heap.size, 0, none⟩ = some (.string s) := ((k5.below hb6 k5.lt).cell 0).trans rfl
    clear HR2 hb6 m5
    go_wp2_with fail
    go_ret
    exact ⟨rfl, HB6.out⟩
end
end Go.Proofs.YtojbgggkfahkfaaGreat
