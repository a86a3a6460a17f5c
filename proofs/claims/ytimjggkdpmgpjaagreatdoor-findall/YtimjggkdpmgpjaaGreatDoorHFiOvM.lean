/- All that there is, in plain lists: the order in which it is gone over. No program in it. -/
import Derived.Test.YtimjggkdpmgpjaaGreatDoorHPaParts
import Derived.Test.YtimjggkdpmgpjaaGreatDoorHNaGiven
import Derived.Test.YtimjggkdpmgpjaaGreatDoorHPaSplit
import Derived.Test.YtimjggkdpmgpjaaGreatDoorHMath
import Derived.Handy
import Derived.Test.YtimjggkdpmgpjaaGreatDoorHFiChain
import Derived.Test.YtimjggkdpmgpjaaGreatDoorHFiMath
import Derived.Test.YtimjggkdpmgpjaaGreatDoorHNaJoinB

namespace Go.Proofs.YtimjggkdpmgpjaaGreatDoor
open Go Go.RowKit
set_option linter.unusedSimpArgs false
set_option linter.unusedVariables false
set_option maxRecDepth 100000 in
set_option maxHeartbeats 4000000 in
theorem along_none (x : Nat) (a : Option Addr) (c : Nat) (fv : Value) (w : World) : Calls Tryz.prog 31 #[.pointer (some ⟨x, 0, none⟩), .slice a 0 c, fv] w fun e w' => e = .returned (.int .i64 0) ∧ w' = w := by
  go_enter Tryz.func31, Tryz.ntmps31
  go_wp2_with fail
  go_loopw [20] (fun v wr => v = .int .i64 0 ∧ w = wr) (fun _ _ => 0)
  case atStart => exact ⟨rfl, rfl⟩
  case round =>
    obtain ⟨rfl, rfl⟩ := hrel
    go_wp2_with fail
    go_loopw [32] (fun v wr => v = .int .i64 0 ∧ w = wr) (fun _ _ => 0)
    case atStart => exact ⟨rfl, rfl⟩
    case round =>
      obtain ⟨rfl, rfl⟩ := hrel
      go_wp2_with fail
      go_ret
      exact ⟨rfl, rfl⟩
set_option maxRecDepth 100000 in
set_option maxHeartbeats 4000000 in
theorem walk_none (x : Nat) (a : Option Addr) (c : Nat) (w : World) : Calls Tryz.prog 15 #[.pointer (some ⟨x, 0, none⟩), .slice a 0 c] w fun e w' => e = .returned (.tuple #[.int .i64 1, .int .i64 0]) ∧ Below w.heap.size w w' := by
  have HA : Hid (∀ (fv : Value) (w : World), Calls Tryz.prog 31 #[.pointer (some ⟨x, 0, none⟩), .slice a 0 c, fv] w fun e w' => e = .returned (.int .i64 0) ∧ w' = w) := fun fv w => along_none x a c fv w
  have b1 : Blk (w.alloc (.cells #[.int .i64 1] 3)) w.heap.size 3 #[.int .i64 1] := Blk.new _ _ _
  have HB : Hid (Below w.heap.size w (w.alloc (.cells #[.int .i64 1] 3))) := below_new1 _ _
  have c0 := (b1.cell 0).trans rfl
  clear b1
  go_enter Tryz.func15, Tryz.ntmps15
  go_wp2_with fail
  generalize (w.alloc (.cells #[.int .i64 1] 3)) = w1 at *
  refine (HA.out _ _).mono ?_
  rintro e w2 ⟨rfl, hw⟩
  subst w2
  go_wp2_with fail
  go_ret2
  exact ⟨rfl, HB.out⟩
end Go.Proofs.YtimjggkdpmgpjaaGreatDoor

namespace Go.Proofs.YtimjggkdpmgpjaaGreatDoor
open Go Go.RowKit
set_option linter.unusedSimpArgs false
set_option linter.unusedVariables false
set_option maxRecDepth 100000 in
set_option maxHeartbeats 4000000 in
theorem named_ok (x : Nat) (a : Option Addr) (n c : Nat) (b : Bool) (wn nn k l z : Int) (st : Nat) (hk : b = true → k = 2) (w : World) (HW0 : ∀ V, Below w.heap.size w V → Calls Tryz.prog 15 #[.pointer (some ⟨x, 0, none⟩), .slice a n c] V fun e w' => e = .returned (.tuple #[.int .i64 wn, .int .i64 0]) ∧ Below V.heap.size V w') (HG0 : ∀ V, Below w.heap.size w V → Calls Tryz.prog 34 #[.pointer (some ⟨x, 0, none⟩), .int .i64 wn] V fun e w' => e = .returned (.tuple #[.agg (nfC nn k l z st), .int .i64 0]) ∧ Below V.heap.size V w') :
    Calls Tryz.prog 29 #[.pointer (some ⟨x, 0, none⟩), .agg #[.slice a n c, .bool b]] w fun e w' => e = .returned (.tuple #[.agg (nfC nn k l z st), .int .i64 0]) ∧ Below w.heap.size w w' := by
  have HG : Hid (∀ V, Below w.heap.size w V → Calls Tryz.prog 34 #[.pointer (some ⟨x, 0, none⟩), .int .i64 wn] V fun e w' => e = .returned (.tuple #[.agg (nfC nn k l z st), .int .i64 0]) ∧ Below V.heap.size V w') := HG0
  have HW : Hid (∀ V, Below w.heap.size w V → Calls Tryz.prog 15 #[.pointer (some ⟨x, 0, none⟩), .slice a n c] V fun e w' => e = .returned (.tuple #[.int .i64 wn, .int .i64 0]) ∧ Below V.heap.size V w') := HW0
  have hz := zero_nf
  have hbt := built_nf0
  have b0 : Blk ((w.alloc (.cells #[.slice a n c, .bool b] 88)).alloc (.cells nf0 40)) w.heap.size 88 #[.slice a n c, .bool b] := Blk.alloc (Blk.new _ _ _) _
  have b1 : Blk ((w.alloc (.cells #[.slice a n c, .bool b] 88)).alloc (.cells nf0 40)) (w.heap.size + 1) 40 nf0 := Blk.new1 _ _ _ _
  have hb : Below w.heap.size w ((w.alloc (.cells #[.slice a n c, .bool b] 88)).alloc (.cells nf0 40)) := below_new2 _ _ _
  have c0 := (b0.cell 0).trans rfl
  clear HW0 HG0
  go_enter Tryz.func29, Tryz.ntmps29
  go_wp2_with fail
  generalize ((w.alloc (.cells #[.slice a n c, .bool b] 88)).alloc (.cells nf0 40)) = w1 at *
  refine (HW.out _ hb).mono ?_
  rintro e w2 ⟨rfl, hb2⟩
  have hb12 := hb.trans (hb2.mono hb.size)
  have d0 := b0.below hb2 b0.lt
  have d1 := b1.below hb2 b1.lt
  have H1 := HG.out w2 hb12
  clear b0 b1 c0 hb hb2 HW HG
  go_wp2_with fail
  refine H1.mono ?_
  rintro e w3 ⟨rfl, hb3⟩
  have hb13 := hb12.trans (hb3.mono hb12.size)
  have e0 := d0.below hb3 d0.lt
  have e1 := d1.below hb3 d1.lt
  have u1 : Blk (w3.alloc (.cells nf0 40)) w3.heap.size 40 nf0 := Blk.new _ _ _
  have u2 : Blk ((w3.alloc (.cells nf0 40)).setRow w3.heap.size (nfC nn k l z st)) w3.heap.size 40 (nfC nn k l z st) := u1.set _
  have hn : Below w3.heap.size w3 ((w3.alloc (.cells nf0 40)).setRow w3.heap.size (nfC nn k l z st)) := below_setRow (below_new1 _ _) (Nat.le_refl _) _
  have e0' := e0.below hn e0.lt
  have e1' := e1.below hn e1.lt
  have hb14 := hb13.trans (hn.mono hb13.size)
  obtain ⟨n0, n1, n2, n3, n4⟩ := nf_cs u2
  have k1 := (e0'.cell 1).trans rfl
  have r1 := e1'.set (nfC nn k l z st)
  have HB : Hid (Below w.heap.size w (((w3.alloc (.cells nf0 40)).setRow w3.heap.size (nfC nn k l z st)).setRow (w.heap.size + 1) (nfC nn k l z st))) := below_setRow hb14 (by omega) _
  clear d0 d1 hb12 hb3 hb13 e0 e1 hn hb14 H1 e0'
  cases b
  · clear hk
    go_wp2_with (first | (refine wpList_store_row (by rfl) 40 _ _ (by rfl) (w3.heap.size) (nfC nn k l z st) (by rfl) (by rfl) 40 (nf0) (by exact u1) (size_nf.trans (by rfl)) (by rfl) (nf_all _ _ _ _ _) ?_; simp only [Act.put, List.setIfInBounds_toArray, List.set_cons_zero, List.set_cons_succ]) | (refine wpList_load_row (by rfl) 40 _ (by rfl) (w3.heap.size) (by rfl) 40 (nfC nn k l z st) (0, 0) _ (by exact u2) Tryz.underlying40 (by rfl) (size_nf.trans (by rfl)) ?_; simp only [Act.put, List.setIfInBounds_toArray, List.set_cons_zero, List.set_cons_succ]) | (refine wpList_store_row (by rfl) 40 _ _ (by rfl) (w.heap.size + 1) (nfC nn k l z st) (by rfl) (by rfl) 40 (nf0) (by exact e1') (size_nf.trans (by rfl)) (by rfl) (nf_all _ _ _ _ _) ?_; simp only [Act.put, List.setIfInBounds_toArray, List.set_cons_zero, List.set_cons_succ]) | fail)
    try simp only [Exit.inBlock, Exit.then]
    refine bodyPost_ret (results_row2 Tryz.results29 _ _ (w.heap.size + 1) 40 (nfC nn k l z st) (0, 0) _ rfl r1 Tryz.underlying40 rfl (size_nf.trans (by rfl))) rfl ?_
    exact ⟨rfl, HB.out⟩
  · have hk2 := hk rfl
    subst hk2
    clear hk
    go_wp2_with (first | (refine wpList_store_row (by rfl) 40 _ _ (by rfl) (w3.heap.size) (nfC nn 2 l z st) (by rfl) (by rfl) 40 (nf0) (by exact u1) (size_nf.trans (by rfl)) (by rfl) (nf_all _ _ _ _ _) ?_; simp only [Act.put, List.setIfInBounds_toArray, List.set_cons_zero, List.set_cons_succ]) | (refine wpList_load_row (by rfl) 40 _ (by rfl) (w3.heap.size) (by rfl) 40 (nfC nn 2 l z st) (0, 0) _ (by exact u2) Tryz.underlying40 (by rfl) (size_nf.trans (by rfl)) ?_; simp only [Act.put, List.setIfInBounds_toArray, List.set_cons_zero, List.set_cons_succ]) | (refine wpList_store_row (by rfl) 40 _ _ (by rfl) (w.heap.size + 1) (nfC nn 2 l z st) (by rfl) (by rfl) 40 (nf0) (by exact e1') (size_nf.trans (by rfl)) (by rfl) (nf_all _ _ _ _ _) ?_; simp only [Act.put, List.setIfInBounds_toArray, List.set_cons_zero, List.set_cons_succ]) | fail)
    try simp only [Exit.inBlock, Exit.then]
    refine bodyPost_ret (results_row2 Tryz.results29 _ _ (w.heap.size + 1) 40 (nfC nn 2 l z st) (0, 0) _ rfl r1 Tryz.underlying40 rfl (size_nf.trans (by rfl))) rfl ?_
    exact ⟨rfl, HB.out⟩
set_option maxRecDepth 100000 in
set_option maxHeartbeats 4000000 in
theorem named_dir (x : Nat) (a : Option Addr) (n c : Nat) (b : Bool) (hbt0 : b = true) (wn nn k l z : Int) (st : Nat) (hk : k = 1) (w : World) (HW0 : ∀ V, Below w.heap.size w V → Calls Tryz.prog 15 #[.pointer (some ⟨x, 0, none⟩), .slice a n c] V fun e w' => e = .returned (.tuple #[.int .i64 wn, .int .i64 0]) ∧ Below V.heap.size V w') (HG0 : ∀ V, Below w.heap.size w V → Calls Tryz.prog 34 #[.pointer (some ⟨x, 0, none⟩), .int .i64 wn] V fun e w' => e = .returned (.tuple #[.agg (nfC nn k l z st), .int .i64 0]) ∧ Below V.heap.size V w') :
    Calls Tryz.prog 29 #[.pointer (some ⟨x, 0, none⟩), .agg #[.slice a n c, .bool b]] w fun e w' => e = .returned (.tuple #[.agg nf0, .int .i64 170]) ∧ Below w.heap.size w w' := by
  have HG : Hid (∀ V, Below w.heap.size w V → Calls Tryz.prog 34 #[.pointer (some ⟨x, 0, none⟩), .int .i64 wn] V fun e w' => e = .returned (.tuple #[.agg (nfC nn k l z st), .int .i64 0]) ∧ Below V.heap.size V w') := HG0
  have HW : Hid (∀ V, Below w.heap.size w V → Calls Tryz.prog 15 #[.pointer (some ⟨x, 0, none⟩), .slice a n c] V fun e w' => e = .returned (.tuple #[.int .i64 wn, .int .i64 0]) ∧ Below V.heap.size V w') := HW0
  have hz := zero_nf
  have hbt := built_nf0
  have b0 : Blk ((w.alloc (.cells #[.slice a n c, .bool b] 88)).alloc (.cells nf0 40)) w.heap.size 88 #[.slice a n c, .bool b] := Blk.alloc (Blk.new _ _ _) _
  have b1 : Blk ((w.alloc (.cells #[.slice a n c, .bool b] 88)).alloc (.cells nf0 40)) (w.heap.size + 1) 40 nf0 := Blk.new1 _ _ _ _
  have hb : Below w.heap.size w ((w.alloc (.cells #[.slice a n c, .bool b] 88)).alloc (.cells nf0 40)) := below_new2 _ _ _
  have c0 := (b0.cell 0).trans rfl
  clear HW0 HG0
  subst hbt0 hk
  go_enter Tryz.func29, Tryz.ntmps29
  go_wp2_with fail
  generalize ((w.alloc (.cells #[.slice a n c, .bool true] 88)).alloc (.cells nf0 40)) = w1 at *
  refine (HW.out _ hb).mono ?_
  rintro e w2 ⟨rfl, hb2⟩
  have hb12 := hb.trans (hb2.mono hb.size)
  have d0 := b0.below hb2 b0.lt
  have d1 := b1.below hb2 b1.lt
  have H1 := HG.out w2 hb12
  clear b0 b1 c0 hb hb2 HW HG
  go_wp2_with fail
  refine H1.mono ?_
  rintro e w3 ⟨rfl, hb3⟩
  have hb13 := hb12.trans (hb3.mono hb12.size)
  have e0 := d0.below hb3 d0.lt
  have e1 := d1.below hb3 d1.lt
  have u1 : Blk (w3.alloc (.cells nf0 40)) w3.heap.size 40 nf0 := Blk.new _ _ _
  have u2 : Blk ((w3.alloc (.cells nf0 40)).setRow w3.heap.size (nfC nn 1 l z st)) w3.heap.size 40 (nfC nn 1 l z st) := u1.set _
  have hn : Below w3.heap.size w3 ((w3.alloc (.cells nf0 40)).setRow w3.heap.size (nfC nn 1 l z st)) := below_setRow (below_new1 _ _) (Nat.le_refl _) _
  have e0' := e0.below hn e0.lt
  have e1' := e1.below hn e1.lt
  have hb14 := hb13.trans (hn.mono hb13.size)
  obtain ⟨n0, n1, n2, n3, n4⟩ := nf_cs u2
  have k1 := (e0'.cell 1).trans rfl
  have r1 := e1'.set nf0
  have HB : Hid (Below w.heap.size w (((w3.alloc (.cells nf0 40)).setRow w3.heap.size (nfC nn 1 l z st)).setRow (w.heap.size + 1) nf0)) := below_setRow hb14 (by omega) _
  clear d0 d1 hb12 hb3 hb13 e0 e1 hn hb14 H1 e0'
  · go_wp2_with (first | (refine wpList_buildTo (by rfl) 40 #[] (by rfl) _ rfl nf0 (by exact hbt) ?_; simp only [Act.put, List.setIfInBounds_toArray, List.set_cons_zero, List.set_cons_succ]) | (refine wpList_store_row (by rfl) 40 _ _ (by rfl) (w3.heap.size) (nfC nn 1 l z st) (by rfl) (by rfl) 40 (nf0) (by exact u1) (size_nf.trans (by rfl)) (by rfl) (nf_all _ _ _ _ _) ?_; simp only [Act.put, List.setIfInBounds_toArray, List.set_cons_zero, List.set_cons_succ]) | (refine wpList_store_row (by rfl) 40 _ _ (by rfl) (w.heap.size + 1) (nf0) (by rfl) (by rfl) 40 (nf0) (by exact e1') (size_nf.trans (by rfl)) (by rfl) (nf_all _ _ _ _ _) ?_; simp only [Act.put, List.setIfInBounds_toArray, List.set_cons_zero, List.set_cons_succ]) | fail)
    try simp only [Exit.inBlock, Exit.then]
    refine bodyPost_ret (results_row2 Tryz.results29 _ _ (w.heap.size + 1) 40 (nf0) (0, 0) _ rfl r1 Tryz.underlying40 rfl (size_nf.trans (by rfl))) rfl ?_
    exact ⟨rfl, HB.out⟩
set_option maxRecDepth 100000 in
set_option maxHeartbeats 4000000 in
theorem named_err (x : Nat) (a : Option Addr) (n c : Nat) (b : Bool) (wn we : Int) (hwe : ¬ we = 0) (w : World) (HW0 : ∀ V, Below w.heap.size w V → Calls Tryz.prog 15 #[.pointer (some ⟨x, 0, none⟩), .slice a n c] V fun e w' => e = .returned (.tuple #[.int .i64 wn, .int .i64 we]) ∧ Below V.heap.size V w') :
    Calls Tryz.prog 29 #[.pointer (some ⟨x, 0, none⟩), .agg #[.slice a n c, .bool b]] w fun e w' => e = .returned (.tuple #[.agg nf0, .int .i64 we]) ∧ Below w.heap.size w w' := by
  have HW : Hid (∀ V, Below w.heap.size w V → Calls Tryz.prog 15 #[.pointer (some ⟨x, 0, none⟩), .slice a n c] V fun e w' => e = .returned (.tuple #[.int .i64 wn, .int .i64 we]) ∧ Below V.heap.size V w') := HW0
  have hz := zero_nf
  have hbt := built_nf0
  have b0 : Blk ((w.alloc (.cells #[.slice a n c, .bool b] 88)).alloc (.cells nf0 40)) w.heap.size 88 #[.slice a n c, .bool b] := Blk.alloc (Blk.new _ _ _) _
  have b1 : Blk ((w.alloc (.cells #[.slice a n c, .bool b] 88)).alloc (.cells nf0 40)) (w.heap.size + 1) 40 nf0 := Blk.new1 _ _ _ _
  have hb : Below w.heap.size w ((w.alloc (.cells #[.slice a n c, .bool b] 88)).alloc (.cells nf0 40)) := below_new2 _ _ _
  have c0 := (b0.cell 0).trans rfl
  clear HW0
  go_enter Tryz.func29, Tryz.ntmps29
  go_wp2_with fail
  generalize ((w.alloc (.cells #[.slice a n c, .bool b] 88)).alloc (.cells nf0 40)) = w1 at *
  refine (HW.out _ hb).mono ?_
  rintro e w2 ⟨rfl, hb2⟩
  have hb12 := hb.trans (hb2.mono hb.size)
  have d0 := b0.below hb2 b0.lt
  have d1 := b1.below hb2 b1.lt
  have r1 := d1.set nf0
  have HB : Hid (Below w.heap.size w (w2.setRow (w.heap.size + 1) nf0)) := below_setRow hb12 (by omega) _
  clear b0 b1 c0 hb hb2 HW hb12 d0
  · go_wp2_with (first | (refine wpList_buildTo (by rfl) 40 #[] (by rfl) _ rfl nf0 (by exact hbt) ?_; simp only [Act.put, List.setIfInBounds_toArray, List.set_cons_zero, List.set_cons_succ]) | (refine wpList_store_row (by rfl) 40 _ _ (by rfl) (w.heap.size + 1) (nf0) (by rfl) (by rfl) 40 (nf0) (by exact d1) (size_nf.trans (by rfl)) (by rfl) (nf_all _ _ _ _ _) ?_; simp only [Act.put, List.setIfInBounds_toArray, List.set_cons_zero, List.set_cons_succ]) | fail)
    try simp only [Exit.inBlock, Exit.then]
    refine bodyPost_ret (results_row2 Tryz.results29 _ _ (w.heap.size + 1) 40 (nf0) (0, 0) _ rfl r1 Tryz.underlying40 rfl (size_nf.trans (by rfl))) rfl ?_
    exact ⟨rfl, HB.out⟩
theorem own_nm {w : World} {B n m c : Nat} {a : Option Addr} {N : List ByteArray} (h : w.ownsRow B 9 1 (.slice a m c) n (N.map Value.string)) : IsNm w a N.length (fun j => N.getD j ⟨#[]⟩) := fun j hj => by
  rcases own_isN h with h0 | ⟨g, o, rfl, hg, hc⟩
  · rw [h0] at hj
    exact absurd hj (Nat.not_lt_zero _)
  · refine ⟨g, o, rfl, hg, hc j _ ?_⟩
    simp [List.getD, List.getElem?_eq_getElem hj]
set_option maxRecDepth 100000 in
set_option maxHeartbeats 4000000 in
theorem lookup_ok (x : Nat) (s : ByteArray) (N : List ByteArray) (dd : Bool) (i : Nat) (hp : prs s.data.toList = (N, dd, i, 0)) (nn k l z er : Int) (st : Nat) (w : World) (HM0 : ∀ V a c, Below w.heap.size w V → IsNm V a N.length (fun j => N.getD j ⟨#[]⟩) → Calls Tryz.prog 29 #[.pointer (some ⟨x, 0, none⟩), .agg #[.slice a N.length c, .bool dd]] V fun e w' => e = .returned (.tuple #[.agg (nfC nn k l z st), .int .i64 er]) ∧ Below V.heap.size V w') :
    Calls Tryz.prog 12 #[.pointer (some ⟨x, 0, none⟩), .string s] w fun e w' => e = .returned (.tuple #[.agg (nfC nn k l z st), .int .i64 er]) ∧ Below w.heap.size w w' := by
  have HP : Hid (∀ V : World, Calls Tryz.prog 28 #[.string s] V fun e w' => ∃ (a : Option Addr) (c : Nat), e = .returned (.tuple #[.agg #[.slice a N.length c, .bool dd], .int .i64 (i : Int), .int .i64 0]) ∧ w'.ownsRow V.heap.size 9 1 (.slice a N.length c) N.length (N.map Value.string) ∧ Below V.heap.size V w') := fun V => parse_at s hp V
  have HM : Hid (∀ V a c, Below w.heap.size w V → IsNm V a N.length (fun j => N.getD j ⟨#[]⟩) → Calls Tryz.prog 29 #[.pointer (some ⟨x, 0, none⟩), .agg #[.slice a N.length c, .bool dd]] V fun e w' => e = .returned (.tuple #[.agg (nfC nn k l z st), .int .i64 er]) ∧ Below V.heap.size V w') := HM0
  have hz := zero_nf
  have hz2 := pt_zero
  have b1 : Blk (w.alloc (.cells nf0 40)) w.heap.size 40 nf0 := Blk.new _ _ _
  have hb : Below w.heap.size w (w.alloc (.cells nf0 40)) := below_new1 _ _
  clear HM0 hp
  go_enter Tryz.func12, Tryz.ntmps12
  go_wp2_with fail
  generalize (w.alloc (.cells nf0 40)) = w1 at *
  refine (HP.out _).mono ?_
  rintro e w2 ⟨a, c, rfl, ho, hb2⟩
  have hb12 := hb.trans (hb2.mono hb.size)
  have d1 := (b1.below hb2 b1.lt).alloc (.cells #[.slice a N.length c, .bool dd] 88)
  have hb13 : Below w.heap.size w (w2.alloc (.cells #[.slice a N.length c, .bool dd] 88)) := hb12.alloc hb12.size _
  have H1 := HM.out (w2.alloc (.cells #[.slice a N.length c, .bool dd] 88)) a c hb13 ((own_nm ho).below (below_new1 _ _))
  clear b1 hb hb2 hb12 HP HM ho
  go_wp2_with fail
  generalize (w2.alloc (.cells #[.slice a N.length c, .bool dd] 88)) = w3 at *
  refine H1.mono ?_
  rintro e w4 ⟨rfl, hb4⟩
  have e1 := d1.below hb4 d1.lt
  have r1 := e1.set (nfC nn k l z st)
  have HB : Hid (Below w.heap.size w (w4.setRow w.heap.size (nfC nn k l z st))) := below_setRow (hb13.trans (hb4.mono hb13.size)) (Nat.le_refl _) _
  clear d1 hb13 hb4 H1
  · go_wp2_with (first | (refine wpList_store_row (by rfl) 40 _ _ (by rfl) (w.heap.size) (nfC nn k l z st) (by rfl) (by rfl) 40 (nf0) (by exact e1) (size_nf.trans (by rfl)) (by rfl) (nf_all _ _ _ _ _) ?_; simp only [Act.put, List.setIfInBounds_toArray, List.set_cons_zero, List.set_cons_succ]) | fail)
    try simp only [Exit.inBlock, Exit.then]
    refine bodyPost_ret (results_row2 Tryz.results12 _ _ w.heap.size 40 (nfC nn k l z st) (0, 0) _ rfl r1 Tryz.underlying40 rfl (size_nf.trans (by rfl))) rfl ?_
    exact ⟨rfl, HB.out⟩
set_option maxRecDepth 100000 in
set_option maxHeartbeats 4000000 in
theorem lookup_err (x : Nat) (s : ByteArray) (N : List ByteArray) (dd : Bool) (i : Nat) (zz : Int) (hz0 : ¬ zz = 0) (hp : prs s.data.toList = (N, dd, i, zz)) (w : World) :
    Calls Tryz.prog 12 #[.pointer (some ⟨x, 0, none⟩), .string s] w fun e w' => e = .returned (.tuple #[.agg nf0, .int .i64 zz]) ∧ Below w.heap.size w w' := by
  have HP : Hid (∀ V : World, Calls Tryz.prog 28 #[.string s] V fun e w' => ∃ (a : Option Addr) (c : Nat), e = .returned (.tuple #[.agg #[.slice a N.length c, .bool dd], .int .i64 (i : Int), .int .i64 zz]) ∧ w'.ownsRow V.heap.size 9 1 (.slice a N.length c) N.length (N.map Value.string) ∧ Below V.heap.size V w') := fun V => parse_at s hp V
  have hz := zero_nf
  have hbt := built_nf0
  have hz2 := pt_zero
  have b1 : Blk (w.alloc (.cells nf0 40)) w.heap.size 40 nf0 := Blk.new _ _ _
  have hb : Below w.heap.size w (w.alloc (.cells nf0 40)) := below_new1 _ _
  clear hp
  go_enter Tryz.func12, Tryz.ntmps12
  go_wp2_with fail
  generalize (w.alloc (.cells nf0 40)) = w1 at *
  refine (HP.out _).mono ?_
  rintro e w2 ⟨a, c, rfl, ho, hb2⟩
  have hb12 := hb.trans (hb2.mono hb.size)
  have d1 := (b1.below hb2 b1.lt).alloc (.cells #[.slice a N.length c, .bool dd] 88)
  have r1 := d1.set nf0
  have HB : Hid (Below w.heap.size w ((w2.alloc (.cells #[.slice a N.length c, .bool dd] 88)).setRow w.heap.size nf0)) := below_setRow (hb12.alloc hb12.size _) (Nat.le_refl _) _
  clear b1 hb hb2 hb12 HP ho
  · go_wp2_with (first | (refine wpList_buildTo (by rfl) 40 #[] (by rfl) _ rfl nf0 (by exact hbt) ?_; simp only [Act.put, List.setIfInBounds_toArray, List.set_cons_zero, List.set_cons_succ]) | (refine wpList_store_row (by rfl) 40 _ _ (by rfl) (w.heap.size) (nf0) (by rfl) (by rfl) 40 (nf0) (by exact d1) (size_nf.trans (by rfl)) (by rfl) (nf_all _ _ _ _ _) ?_; simp only [Act.put, List.setIfInBounds_toArray, List.set_cons_zero, List.set_cons_succ]) | fail)
    try simp only [Exit.inBlock, Exit.then]
    refine bodyPost_ret (results_row2 Tryz.results12 _ _ w.heap.size 40 (nf0) (0, 0) _ rfl r1 Tryz.underlying40 rfl (size_nf.trans (by rfl))) rfl ?_
    exact ⟨rfl, HB.out⟩
end Go.Proofs.YtimjggkdpmgpjaaGreatDoor

namespace Go.Proofs.YtimjggkdpmgpjaaGreatDoor
open Go Go.RowKit
set_option linter.unusedSimpArgs false
set_option linter.unusedVariables false
set_option maxRecDepth 100000 in
set_option maxHeartbeats 4000000 in
theorem awake19_any (w : World) : Calls Tryz.prog 8 #[] w fun e w' => e = .returned (.bool true) ∧ Below w.heap.size w w' := by
  have HB := built19_any none 0 0 (by decide) (fun _ => ⟨false, false, 0, 0, ⟨#[]⟩⟩) (fun i hi => absurd hi (Nat.not_lt_zero _)) w (fun i hi => absurd hi (Nat.not_lt_zero _))
  have hz := zero_nf
  go_enter Tryz.func8, Tryz.ntmps8
  go_wp2_with fail
  refine HB.mono ?_
  rintro e w1 ⟨x, mf, ml, mc, cp, r, all, F, rfl, hT⟩
  obtain ⟨k, l, z, st, hk, _, hG⟩ := hT.bi.getN 1 ⟨Nat.le_refl _, hT.al1.1⟩
  have hk2 := hk hT.bi.d1
  subst hk2
  have HL := lookup_ok x ⟨#[47]⟩ [] true (prs [47]).2.2.1 (by decide) 1 2 l z 0 st w1 (fun V a c hV _ => named_ok x a 0 c true 1 1 2 l z st (fun _ => rfl) V (fun V' hV' => walk_none x a c V') (fun V' hV' => hG V' (hV.trans (hV'.mono hV.size))))
  have HB1 : Hid (Below w.heap.size w w1) := hT.bl
  clear HB hT hk hG
  go_wp2_with fail
  refine HL.mono ?_
  rintro e w2 ⟨rfl, hb2⟩
  have hb12 := HB1.out.trans (hb2.mono HB1.out.size)
  have u1 : Blk (w2.alloc (.cells nf0 40)) w2.heap.size 40 nf0 := Blk.new _ _ _
  have u2 : Blk ((w2.alloc (.cells nf0 40)).setRow w2.heap.size (nfC 1 2 l z st)) w2.heap.size 40 (nfC 1 2 l z st) := u1.set _
  have HB3 : Hid (Below w.heap.size w ((w2.alloc (.cells nf0 40)).setRow w2.heap.size (nfC 1 2 l z st))) := below_setRow (hb12.alloc hb12.size _) hb12.size _
  obtain ⟨n0, n1, n2, n3, n4⟩ := nf_cs u2
  clear hb2 hb12 HL
  go_wp2_with (first | (refine wpList_store_row (by rfl) 40 _ _ (by rfl) (w2.heap.size) (nfC 1 2 l z st) (by rfl) (by rfl) 40 (nf0) (by exact u1) (size_nf.trans (by rfl)) (by rfl) (nf_all _ _ _ _ _) ?_; simp only [Act.put, List.setIfInBounds_toArray, List.set_cons_zero, List.set_cons_succ]) | fail)
  go_ret
  exact ⟨rfl, HB3.out⟩
end Go.Proofs.YtimjggkdpmgpjaaGreatDoor

namespace Go.Proofs.YtimjggkdpmgpjaaGreatDoor
open Go Go.RowKit
set_option linter.unusedSimpArgs false
set_option linter.unusedVariables false
/-- the names of a list -/
def nmL (N : List ByteArray) : Nat → ByteArray := fun j => N.getD j ⟨#[]⟩
/-- what is wrong with a path that is looked up -/
noncomputable def lkE (F : Fo) (N : List ByteArray) (dd : Bool) (z : Int) : Int := if z ≠ 0 then z else if wkR F (nmL N) N.length ≠ 0 then wkR F (nmL N) N.length else if dd = true ∧ F.dr (wkA F (nmL N) N.length) = false then 170 else 0
noncomputable def lkN (F : Fo) (N : List ByteArray) (dd : Bool) (z : Int) : Int := if lkE F N dd z = 0 then ((wkA F (nmL N) N.length : Nat) : Int) else 0
section
variable {w W : World} {x mf ml mc r all : Nat} {cp : Option Addr} {F : Fo}
theorem BT19.walkN (h : BT19 w W x mf ml mc cp r all F) (N : List ByteArray) (hl : N.length ≤ 32) (V : World) (hV : Below W.heap.size W V) (a : Option Addr) (c : Nat) (hn : IsNm V a N.length (nmL N)) : Calls Tryz.prog 15 #[.pointer (some ⟨x, 0, none⟩), .slice a N.length c] V fun e w' => e = .returned (.tuple #[.int .i64 (wkW F (nmL N) N.length), .int .i64 (wkR F (nmL N) N.length)]) ∧ Below V.heap.size V w' :=
  (h.below hV).bi.fwalk a N.length c (by omega) (nmL N) hn
theorem wkW_ok {F : Fo} {nm : Nat → ByteArray} {n : Nat} (h : wkR F nm n = 0) : wkW F nm n = ((wkA F nm n : Nat) : Int) := by unfold wkW; rw [if_pos h]
theorem BT19.namedAll (h : BT19 w W x mf ml mc cp r all F) (N : List ByteArray) (hl : N.length ≤ 32) (dd : Bool) : ∃ (k l zz : Int) (st : Nat), ∀ V a c, Below W.heap.size W V → IsNm V a N.length (nmL N) → Calls Tryz.prog 29 #[.pointer (some ⟨x, 0, none⟩), .agg #[.slice a N.length c, .bool dd]] V fun e w' => e = .returned (.tuple #[.agg (nfC (lkN F N dd 0) k l zz st), .int .i64 (lkE F N dd 0)]) ∧ Below V.heap.size V w' := by
  by_cases hR : wkR F (nmL N) N.length = 0
  · have hin := h.bi.wkIn N.length (wkR_zero hR).2
    obtain ⟨k, l, zz, st, hk2, hk1, hG⟩ := h.bi.getN _ hin
    by_cases hd : dd = true ∧ F.dr (wkA F (nmL N) N.length) = false
    · have e1 : lkE F N dd 0 = 170 := by unfold lkE; rw [if_neg (by simp), if_neg (by simp [hR]), if_pos hd]
      have e2 : lkN F N dd 0 = 0 := by unfold lkN; rw [if_neg (by rw [e1]; decide)]
      rw [e1, e2]
      refine ⟨0, 0, 0, 0, fun V a c hV hn => ?_⟩
      exact named_dir x a N.length c dd hd.1 ((wkA F (nmL N) N.length : Nat) : Int) ((wkA F (nmL N) N.length : Nat) : Int) k l zz st (hk1 hd.2) V (fun V' hV' => by
        have := h.walkN N hl V' (hV.trans (hV'.mono hV.size)) a c (hn.below hV')
        rw [wkW_ok hR, hR] at this
        exact this) (fun V' hV' => hG V' (hV.trans (hV'.mono hV.size)))
    · have e1 : lkE F N dd 0 = 0 := by unfold lkE; rw [if_neg (by simp), if_neg (by simp [hR]), if_neg hd]
      have e2 : lkN F N dd 0 = ((wkA F (nmL N) N.length : Nat) : Int) := by unfold lkN; rw [if_pos e1]
      rw [e1, e2]
      refine ⟨k, l, zz, st, fun V a c hV hn => ?_⟩
      exact named_ok x a N.length c dd ((wkA F (nmL N) N.length : Nat) : Int) ((wkA F (nmL N) N.length : Nat) : Int) k l zz st (fun q => by
        cases hdr : F.dr (wkA F (nmL N) N.length) with
        | true => exact hk2 hdr
        | false => exact absurd ⟨q, hdr⟩ hd) V (fun V' hV' => by
        have := h.walkN N hl V' (hV.trans (hV'.mono hV.size)) a c (hn.below hV')
        rw [wkW_ok hR, hR] at this
        exact this) (fun V' hV' => hG V' (hV.trans (hV'.mono hV.size)))
  · have e1 : lkE F N dd 0 = wkR F (nmL N) N.length := by unfold lkE; rw [if_neg (by simp), if_pos hR]
    have e2 : lkN F N dd 0 = 0 := by unfold lkN; rw [if_neg (by rw [e1]; exact hR)]
    rw [e1, e2]
    refine ⟨0, 0, 0, 0, fun V a c hV hn => ?_⟩
    exact named_err x a N.length c dd (wkW F (nmL N) N.length) (wkR F (nmL N) N.length) hR V (fun V' hV' => h.walkN N hl V' (hV.trans (hV'.mono hV.size)) a c (hn.below hV'))
theorem lkE_err {F : Fo} {N : List ByteArray} {dd : Bool} {z : Int} (hz : z ≠ 0) : lkE F N dd z = z ∧ lkN F N dd z = 0 := by
  have e : lkE F N dd z = z := by unfold lkE; rw [if_pos hz]
  exact ⟨e, by unfold lkN; rw [e, if_neg hz]⟩
theorem BT19.lookup (h : BT19 w W x mf ml mc cp r all F) (s : ByteArray) (N : List ByteArray) (hl : N.length ≤ 32) (dd : Bool) (i : Nat) (z : Int) (hp : prs s.data.toList = (N, dd, i, z)) : Calls Tryz.prog 12 #[.pointer (some ⟨x, 0, none⟩), .string s] W fun e w' => ∃ (k l zz : Int) (st : Nat), e = .returned (.tuple #[.agg (nfC (lkN F N dd z) k l zz st), .int .i64 (lkE F N dd z)]) ∧ Below W.heap.size W w' := by
  by_cases hz : z = 0
  · subst hz
    obtain ⟨k, l, zz, st, hM⟩ := h.namedAll N hl dd
    exact (lookup_ok x s N dd i hp _ k l zz _ st W hM).mono fun e w' he => ⟨k, l, zz, st, he⟩
  · obtain ⟨e1, e2⟩ := lkE_err (F := F) (N := N) (dd := dd) hz
    rw [e1, e2]
    exact (lookup_err x s N dd i z hz hp W).mono fun e w' he => ⟨0, 0, 0, 0, he⟩
end
end Go.Proofs.YtimjggkdpmgpjaaGreatDoor

namespace Go.Proofs.YtimjggkdpmgpjaaGreatDoor
open Go Go.RowKit
set_option linter.unusedVariables false
set_option linter.unusedSimpArgs false
theorem name_bytes {l : List UInt8} (h : isName l = true) : ∀ b ∈ l, b ≠ 47 := by
  intro b hb e
  obtain ⟨i, hi, e2⟩ := List.getElem_of_mem hb
  have h2 : has2 l = true := has2_yes (b := b) (by rw [← e2]; exact List.getElem?_eq_getElem hi) (.inr e)
  unfold isName at h
  rw [h2] at h
  simp at h
theorem name_ne {l : List UInt8} (h : isName l = true) : l ≠ [] ∧ l ≠ [46] ∧ l ≠ [46, 46] := by
  refine ⟨?_, ?_, ?_⟩ <;> (intro e; rw [e] at h; revert h; simp [isName])
theorem take_name : ∀ {x : List UInt8} (r : List UInt8), (∀ b ∈ x, b ≠ 47) → (r = [] ∨ ∃ r', r = 47 :: r') → (x ++ r).takeWhile (fun b => b != 47) = x
  | [], r, _, hr => by
    rcases hr with rfl | ⟨r', rfl⟩
    · rfl
    · rfl
  | b :: x, r, h, hr => by
    rw [List.cons_append, List.takeWhile_cons, if_pos (by simpa using h b (by simp)), take_name r (fun c hc => h c (by simp [hc])) hr]
theorem acc_cons (x : ByteArray) (N : List ByteArray) : accN (x :: N) = 47 :: (x.data.toList ++ accN N) := by
  unfold accN
  simp [Lib.joinTail]
theorem acc_head (N : List ByteArray) : accN N = [] ∨ ∃ r, accN N = 47 :: r := by
  cases N with
  | nil => exact .inl rfl
  | cons x N => exact .inr ⟨_, acc_cons x N⟩
theorem run_acc : ∀ (N M : List ByteArray) (d : Bool) (A : List UInt8), (∀ x ∈ N, isName x.data.toList = true) → M.length + N.length ≤ 32 → runP M d (pts (A ++ accN N) A.length) = (M ++ N, (if N = [] then d else false), 0, 0)
  | [], M, d, A, _, _ => by
    rw [pts_end (by simp [accN, Lib.joinTail])]
    simp [runP]
  | x :: N, M, d, A, h, hl => by
    have hx := h x (by simp)
    have e0 : (A ++ accN (x :: N))[A.length]? = some 47 := by
      rw [List.getElem?_append_right (Nat.le_refl _), Nat.sub_self, acc_cons]
      rfl
    have e1 : segL (A ++ accN (x :: N)) (A.length + 1) = x.data.toList := by
      unfold segL
      have e9 : (A ++ accN (x :: N)).drop (A.length + 1) = x.data.toList ++ accN N := by
        rw [acc_cons, List.drop_append, List.drop_eq_nil_of_le (by omega), List.nil_append]
        simp
      rw [e9]
      exact take_name _ (name_bytes hx) (acc_head N)
    have hlt : A.length + 1 < (A ++ accN (x :: N)).length := by
      rw [acc_cons]
      have := (isName_len hx).1
      simp only [List.length_append, List.length_cons]
      omega
    rw [pts_slash e0, pts_part hlt (by rw [e1]; exact (name_ne hx).1), ← pts_behind]
    rw [e1, bsL_of]
    have hb : badE M x = 0 := by
      unfold badE
      rw [if_neg (name_ne hx).2.1, if_neg (name_ne hx).2.2, if_pos hx, if_neg (by simp at hl; omega)]
    rw [runP_good (x := (A.length + 1, x)) hb]
    have hn : nxtN M x = M ++ [x] := by
      unfold nxtN
      rw [if_neg (name_ne hx).2.1, if_neg (name_ne hx).2.2]
    have hd : dirP x = false := by
      unfold dirP
      rw [decide_eq_false (name_ne hx).2.1, decide_eq_false (name_ne hx).2.2]
      rfl
    show runP (nxtN M x) (dirP x) _ = _
    rw [hn, hd]
    have e2 : A ++ accN (x :: N) = (A ++ 47 :: x.data.toList) ++ accN N := by rw [acc_cons]; simp
    have e3 : A.length + 1 + x.data.toList.length = (A ++ 47 :: x.data.toList).length := by simp; omega
    rw [e2, e3, run_acc N (M ++ [x]) false (A ++ 47 :: x.data.toList) (fun y hy => h y (by simp [hy])) (by simp at hl ⊢; omega)]
    simp
theorem end_acc {N : List ByteArray} (h : ∀ x ∈ N, isName x.data.toList = true) (hN : N ≠ []) : endS (accN N) = false := by
  obtain ⟨M, y, rfl⟩ : ∃ M y, N = M ++ [y] := by
    rcases List.eq_nil_or_concat N with h0 | ⟨M, y, e⟩
    · exact absurd h0 hN
    · exact ⟨M, y, by rw [e, List.concat_eq_append]⟩
  have hy := h y (by simp)
  unfold endS
  rw [acc_snoc]
  refine decide_eq_false fun e => ?_
  have hne := (name_ne hy).1
  have hb := name_bytes hy
  rw [List.getLast?_append, List.getLast?_cons, List.getLast?_eq_some_getLast hne] at e
  clear h hN hy
  generalize y.data.toList = l at *
  simp at e
  exact hb _ (List.getLast_mem hne) e
theorem prs_frm {N : List ByteArray} (hG : GoodN N) (hl : (frmL N).length ≤ 1024) : prs (frmL N) = (N, decide (N = []), 0, 0) := by
  by_cases hN : N = []
  · subst hN
    rw [frm_nil, decide_eq_true rfl]
    kernel_rfl
  · rw [decide_eq_false hN]
    rw [frm_acc hN] at hl ⊢
    have hr := run_acc N [] false [] hG.2 (by simpa using hG.1)
    simp only [List.nil_append, List.length_nil, if_neg hN] at hr
    unfold prs
    rw [if_neg (by omega), if_pos (by
      cases N with
      | nil => exact absurd rfl hN
      | cons x N => rw [acc_cons]; rfl), hr]
    simp [end_acc hG.2 hN]
end Go.Proofs.YtimjggkdpmgpjaaGreatDoor

namespace Go.Proofs.YtimjggkdpmgpjaaGreatDoor
open Go Go.RowKit Go.Nam
set_option linter.unusedVariables false
/-- entries sorted -/
noncomputable def srt (N : Nat → Int) (S : Nat → ByteArray) (k : Nat) : List Lk := @dite _ (∃ R : List Lk, SoR R ∧ R.Perm (liR N S k)) (Classical.propDecidable _) (fun h => Classical.choose h) (fun _ => [])
theorem srt_eq {N : Nat → Int} {S : Nat → ByteArray} {k : Nat} {R : List Lk} (h1 : SoR R) (h2 : R.Perm (liR N S k)) : R = srt N S k := by
  have hex : ∃ R : List Lk, SoR R ∧ R.Perm (liR N S k) := ⟨R, h1, h2⟩
  unfold srt
  rw [dif_pos hex]
  obtain ⟨g1, g2⟩ := Classical.choose_spec hex
  exact soR_eq h1 g1 (h2.trans g2.symm)
/-- is there a path with this name behind? -/
def okN9 (N : List ByteArray) (x : ByteArray) : Prop := N.length + 1 ≤ 32 ∧ (accN (N ++ [x])).length ≤ 1024
/-- one thing that is found: its path's names, its inode -/
abbrev Fd := List ByteArray × Nat
/-- what hangs beneath, entry by entry -/
noncomputable def ovs (g : List ByteArray → Nat → List Nat → List Fd × List Nat) (N : List ByteArray) : List Lk → List Nat → List Fd × List Nat
  | [], I => ([], I)
  | e :: es, I => @ite _ (okN9 N e.2) (Classical.propDecidable _) ((g (N ++ [e.2]) e.1.toNat I).1 ++ (ovs g N es (g (N ++ [e.2]) e.1.toNat I).2).1, (ovs g N es (g (N ++ [e.2]) e.1.toNat I).2).2) (ovs g N es I)
/-- what hangs at an inode, with it; and the directories that were gone into -/
noncomputable def ov (F : Fo) : Nat → List ByteArray → Nat → List Nat → List Fd × List Nat
  | 0, N, n, I => ([(N, n)], I)
  | f + 1, N, n, I => if F.dr n = true ∧ n ∉ I then ((N, n) :: (ovs (ov F f) N (srt (F.N n) (F.S n) (F.K n)) (n :: I)).1, (ovs (ov F f) N (srt (F.N n) (F.S n) (F.K n)) (n :: I)).2) else ([(N, n)], I)
theorem ovs_nil (g : List ByteArray → Nat → List Nat → List Fd × List Nat) (N : List ByteArray) (I : List Nat) : ovs g N [] I = ([], I) := rfl
theorem ovs_yes {g : List ByteArray → Nat → List Nat → List Fd × List Nat} {N : List ByteArray} {e : Lk} (h : okN9 N e.2) (es : List Lk) (I : List Nat) : ovs g N (e :: es) I = ((g (N ++ [e.2]) e.1.toNat I).1 ++ (ovs g N es (g (N ++ [e.2]) e.1.toNat I).2).1, (ovs g N es (g (N ++ [e.2]) e.1.toNat I).2).2) := by
  rw [ovs, if_pos h]
theorem ovs_no {g : List ByteArray → Nat → List Nat → List Fd × List Nat} {N : List ByteArray} {e : Lk} (h : ¬ okN9 N e.2) (es : List Lk) (I : List Nat) : ovs g N (e :: es) I = ovs g N es I := by
  rw [ovs, if_neg h]
theorem ov_in {F : Fo} {n : Nat} {I : List Nat} (h : F.dr n = true ∧ n ∉ I) (f : Nat) (N : List ByteArray) : ov F (f + 1) N n I = ((N, n) :: (ovs (ov F f) N (srt (F.N n) (F.S n) (F.K n)) (n :: I)).1, (ovs (ov F f) N (srt (F.N n) (F.S n) (F.K n)) (n :: I)).2) := by
  rw [ov, if_pos h]
theorem ov_out {F : Fo} {n : Nat} {I : List Nat} (h : ¬ (F.dr n = true ∧ n ∉ I)) (f : Nat) (N : List ByteArray) : ov F f N n I = ([(N, n)], I) := by
  cases f with
  | zero => rfl
  | succ f => rw [ov, if_neg h]
theorem ov_head (F : Fo) (f : Nat) (N : List ByteArray) (n : Nat) (I : List Nat) : ∃ L, (ov F f N n I).1 = (N, n) :: L := by
  cases f with
  | zero => exact ⟨[], rfl⟩
  | succ f =>
    rw [ov]
    split
    · exact ⟨_, rfl⟩
    · exact ⟨[], rfl⟩
/-- how many directories of the first ones were not gone into -/
def lft (F : Fo) (all : Nat) (I : List Nat) : Nat := ((List.range (all + 1)).filter fun n => F.dr n && !(decide (n ∈ I))).length
theorem cnt_one (p q : Nat → Bool) (n : Nat) (h : ∀ k, k ≠ n → p k = q k) (hp : p n = false) (hq : q n = true) : ∀ m, ((List.range m).filter p).length + (if n < m then 1 else 0) = ((List.range m).filter q).length
  | 0 => by simp
  | m + 1 => by
    have ih := cnt_one p q n h hp hq m
    rw [List.range_succ, List.filter_append, List.filter_append, List.length_append, List.length_append]
    by_cases c : m = n
    · subst c
      rw [if_neg (Nat.lt_irrefl _)] at ih
      rw [if_pos (Nat.lt_succ_self _)]
      simp only [List.filter_cons, List.filter_nil, hp, hq]
      simp
      omega
    · have e := h m c
      simp only [List.filter_cons, List.filter_nil, e]
      by_cases c2 : n < m
      · rw [if_pos c2] at ih
        rw [if_pos (show n < m + 1 by omega)]
        omega
      · rw [if_neg c2] at ih
        rw [if_neg (show ¬ n < m + 1 by omega)]
        omega
theorem lft_cons {F : Fo} {all n : Nat} {I : List Nat} (h : F.dr n = true ∧ n ∉ I) (hn : n ≤ all) : lft F all (n :: I) + 1 = lft F all I := by
  unfold lft
  have := cnt_one (fun k => F.dr k && !(decide (k ∈ n :: I))) (fun k => F.dr k && !(decide (k ∈ I))) n (fun k hk => by simp [hk]) (by simp) (by simp [h.1, h.2]) (all + 1)
  rw [if_pos (show n < all + 1 by omega)] at this
  exact this
theorem lft_mono {F : Fo} {all : Nat} {I J : List Nat} (h : ∀ n, n ∈ I → n ∈ J) : lft F all J ≤ lft F all I := by
  unfold lft
  rw [← List.countP_eq_length_filter, ← List.countP_eq_length_filter]
  refine List.countP_mono_left fun k _ hk => ?_
  simp at hk ⊢
  exact ⟨hk.1, fun q => hk.2 (h k q)⟩
theorem ovs_sub {g : List ByteArray → Nat → List Nat → List Fd × List Nat} (hg : ∀ N n I m, m ∈ I → m ∈ (g N n I).2) (N : List ByteArray) : ∀ (es : List Lk) (I : List Nat) (m : Nat), m ∈ I → m ∈ (ovs g N es I).2
  | [], I, m, h => h
  | e :: es, I, m, h => by
    by_cases c : okN9 N e.2
    · rw [ovs_yes c]
      exact ovs_sub hg N es _ m (hg _ _ _ m h)
    · rw [ovs_no c]
      exact ovs_sub hg N es I m h
theorem ov_sub (F : Fo) : ∀ (f : Nat) (N : List ByteArray) (n : Nat) (I : List Nat) (m : Nat), m ∈ I → m ∈ (ov F f N n I).2
  | 0, N, n, I, m, h => h
  | f + 1, N, n, I, m, h => by
    by_cases c : F.dr n = true ∧ n ∉ I
    · rw [ov_in c]
      exact ovs_sub (ov_sub F f) N _ _ m (List.mem_cons_of_mem _ h)
    · rw [ov_out c]
      exact h
theorem srt_len (N : Nat → Int) (S : Nat → ByteArray) (k : Nat) : (srt N S k).length ≤ k := by
  by_cases hex : ∃ R : List Lk, SoR R ∧ R.Perm (liR N S k)
  · obtain ⟨R, h1, h2⟩ := hex
    rw [← srt_eq h1 h2, h2.length_eq, liR_len]
    exact Nat.le_refl _
  · unfold srt
    rw [dif_neg hex]
    simp
/-- how much there may be -/
theorem ovs_len {F : Fo} {all : Nat} {g : List ByteArray → Nat → List Nat → List Fd × List Nat} (hg : ∀ N n I, (g N n I).1.length + 16384 * lft F all (g N n I).2 ≤ 1 + 16384 * lft F all I) (N : List ByteArray) : ∀ (es : List Lk) (I : List Nat), (ovs g N es I).1.length + 16384 * lft F all (ovs g N es I).2 ≤ es.length + 16384 * lft F all I
  | [], I => by rw [ovs_nil]; simp
  | e :: es, I => by
    by_cases c : okN9 N e.2
    · rw [ovs_yes c]
      have h1 := hg (N ++ [e.2]) e.1.toNat I
      have h2 := ovs_len hg N es (g (N ++ [e.2]) e.1.toNat I).2
      simp only [List.length_append, List.length_cons]
      omega
    · rw [ovs_no c]
      have h2 := ovs_len hg N es I
      simp only [List.length_cons]
      omega
theorem ov_len {F : Fo} {all : Nat} (hK : ∀ d, F.dr d = true → F.K d ≤ 16384 ∧ d ≤ all) : ∀ (f : Nat) (N : List ByteArray) (n : Nat) (I : List Nat), (ov F f N n I).1.length + 16384 * lft F all (ov F f N n I).2 ≤ 1 + 16384 * lft F all I
  | 0, N, n, I => by show ([(N, n)] : List Fd).length + 16384 * lft F all I ≤ _; simp
  | f + 1, N, n, I => by
    by_cases c : F.dr n = true ∧ n ∉ I
    · rw [ov_in c]
      have h1 := ovs_len (F := F) (all := all) (ov_len hK f) N (srt (F.N n) (F.S n) (F.K n)) (n :: I)
      have h2 := srt_len (F.N n) (F.S n) (F.K n)
      have h3 := (hK n c.1).1
      have h4 := lft_cons c (hK n c.1).2
      simp only [List.length_cons]
      omega
    · rw [ov_out c]
      simp
theorem lft_top (F : Fo) (all : Nat) (I : List Nat) : lft F all I ≤ all + 1 := by
  unfold lft
  refine Nat.le_trans (List.length_filter_le _ _) ?_
  simp
/-- a stretch of a list -/
def Seg9 (L0 : List Fd) (p : Nat) (L : List Fd) : Prop := ∀ i, i < L.length → L0[p + i]? = L[i]?
theorem Seg9.tail {L0 : List Fd} {p : Nat} {x : Fd} {L : List Fd} (h : Seg9 L0 p (x :: L)) : L0[p]? = some x ∧ Seg9 L0 (p + 1) L := by
  refine ⟨by have := h 0 (by simp); simpa using this, fun i hi => ?_⟩
  have := h (i + 1) (by simp; omega)
  rw [show p + 1 + i = p + (i + 1) by omega, this]
  simp
theorem Seg9.left {L0 : List Fd} {p : Nat} {L M : List Fd} (h : Seg9 L0 p (L ++ M)) : Seg9 L0 p L := fun i hi => by
  rw [h i (by simp; omega), List.getElem?_append_left hi]
theorem Seg9.right {L0 : List Fd} {p : Nat} {L M : List Fd} (h : Seg9 L0 p (L ++ M)) : Seg9 L0 (p + L.length) M := fun i hi => by
  have := h (L.length + i) (by simp; omega)
  rw [show p + L.length + i = p + (L.length + i) by omega, this, List.getElem?_append_right (by omega)]
  congr 1
  omega
/-- reading a path of one name more -/
theorem run_deep : ∀ (N M : List ByteArray) (d : Bool) (A : List UInt8), (∀ x ∈ N, isName x.data.toList = true) → M.length ≤ 32 → 32 < M.length + N.length → (runP M d (pts (A ++ accN N) A.length)).2.2.2 = 182
  | [], M, d, A, _, h1, h2 => by simp at h2; omega
  | x :: N, M, d, A, h, h1, h2 => by
    have hx := h x (by simp)
    have e0 : (A ++ accN (x :: N))[A.length]? = some 47 := by
      rw [List.getElem?_append_right (Nat.le_refl _), Nat.sub_self, acc_cons]
      rfl
    have e1 : segL (A ++ accN (x :: N)) (A.length + 1) = x.data.toList := by
      unfold segL
      have e9 : (A ++ accN (x :: N)).drop (A.length + 1) = x.data.toList ++ accN N := by
        rw [acc_cons, List.drop_append, List.drop_eq_nil_of_le (by omega), List.nil_append]
        simp
      rw [e9]
      exact take_name _ (name_bytes hx) (acc_head N)
    have hlt : A.length + 1 < (A ++ accN (x :: N)).length := by
      rw [acc_cons]
      have := (isName_len hx).1
      simp only [List.length_append, List.length_cons]
      omega
    rw [pts_slash e0, pts_part hlt (by rw [e1]; exact (name_ne hx).1), ← pts_behind]
    rw [e1, bsL_of]
    by_cases hM : 32 ≤ M.length
    · have hb : badE M x = 182 := by
        unfold badE
        rw [if_neg (name_ne hx).2.1, if_neg (name_ne hx).2.2, if_pos hx, if_pos hM]
      rw [runP_bad (x := (A.length + 1, x)) (by rw [show ((A.length + 1, x) : Nat × ByteArray).2 = x from rfl, hb]; decide)]
      exact hb
    · have hb : badE M x = 0 := by
        unfold badE
        rw [if_neg (name_ne hx).2.1, if_neg (name_ne hx).2.2, if_pos hx, if_neg hM]
      rw [runP_good (x := (A.length + 1, x)) hb]
      have hn : nxtN M x = M ++ [x] := by
        unfold nxtN
        rw [if_neg (name_ne hx).2.1, if_neg (name_ne hx).2.2]
      have hd : dirP x = false := by
        unfold dirP
        rw [decide_eq_false (name_ne hx).2.1, decide_eq_false (name_ne hx).2.2]
        rfl
      show (runP (nxtN M x) (dirP x) _).2.2.2 = _
      rw [hn, hd]
      have e2 : A ++ accN (x :: N) = (A ++ 47 :: x.data.toList) ++ accN N := by rw [acc_cons]; simp
      have e3 : A.length + 1 + x.data.toList.length = (A ++ 47 :: x.data.toList).length := by simp; omega
      rw [e2, e3]
      exact run_deep N (M ++ [x]) false (A ++ 47 :: x.data.toList) (fun y hy => h y (by simp [hy])) (by simp; omega) (by simp at h2 ⊢; omega)
/-- the next path is one just if it is short and flat enough -/
theorem prs_next {N : List ByteArray} {x : ByteArray} (hN : ∀ y ∈ N, isName y.data.toList = true) (hl : N.length ≤ 32) (hx : isName x.data.toList = true) : (okN9 N x → prs (accN (N ++ [x])) = (N ++ [x], false, 0, 0)) ∧ (¬ okN9 N x → (prs (accN (N ++ [x]))).2.2.2 ≠ 0) := by
  have hall : ∀ y ∈ N ++ [x], isName y.data.toList = true := fun y hy => by
    rcases List.mem_append.1 hy with h | h
    · exact hN y h
    · rw [List.mem_singleton.1 h]
      exact hx
  have hne : N ++ [x] ≠ [] := by simp
  refine ⟨fun h => ?_, fun h => ?_⟩
  · have := prs_frm (N := N ++ [x]) ⟨by have := h.1; simp; omega, hall⟩ (by rw [frm_acc hne]; exact h.2)
    rw [frm_acc hne, decide_eq_false hne] at this
    exact this
  · unfold prs
    by_cases c1 : 1024 < (accN (N ++ [x])).length
    · rw [if_pos c1]
      decide
    · rw [if_neg c1]
      have c2 : 32 < (N ++ [x]).length := by
        apply Classical.byContradiction
        intro hc
        exact h ⟨by simp at hc; omega, by omega⟩
      have hr := run_deep (N ++ [x]) [] false [] hall (by simp) (by simpa using c2)
      simp only [List.nil_append, List.length_nil] at hr
      split
      · rw [if_neg (by rw [hr]; decide), hr]
        decide
      · decide
end Go.Proofs.YtimjggkdpmgpjaaGreatDoor
