/- Searches: lists of numbers, and the statements' ints. -/
import Derived.Test.YtojnlmfahgeidaaGreatDoorHPaParts
import Derived.Test.YtojnlmfahgeidaaGreatDoorHBrRoot
import Derived.Handy
import Derived.Test.YtojnlmfahgeidaaGreatDoorHFiChain
import Derived.Test.YtojnlmfahgeidaaGreatDoorHMathCount
import Derived.Test.YtojnlmfahgeidaaGreatDoorHFiMath
import Derived.Test.YtojnlmfahgeidaaGreatDoorHBlkOwn
import Derived.BigQuiet
import Derived.Deep.QuietTactic

namespace Go.Proofs.YtojnlmfahgeidaaGreatDoor
theorem sgLHFiInts : (∀ (α : Type) (a : α) (l r : List α), (a :: l) ++ r = a :: (l ++ r)) ∧ (∀ (α : Type) (l : List α), [] ++ l = l) ∧ (∀ (α : Type) (l : List α), l ++ [] = l) ∧ (∀ (α β : Type) (f : α → Option β) (a : α) (l : List α), (a :: l).filterMap f = match f a with | none => l.filterMap f | some b => b :: l.filterMap f) ∧ (∀ (α β : Type) (f : α → Option β), [].filterMap f = []) ∧ (∀ (α : Type) (l : List α) (i : Nat), l.toArray[i]? = l[i]?) ∧ (∀ (α : Type) (a : α) (l : List α), (a :: l)[0]? = some a) ∧ (∀ (α : Type) (a : α) (l : List α) (i : Nat), (a :: l)[i + 1]? = l[i]?) :=
  ⟨fun _ _ _ _ => List.cons_append, fun _ _ => List.nil_append _, fun _ _ => List.append_nil _, fun _ _ _ _ _ => List.filterMap_cons, fun _ _ _ => List.filterMap_nil, fun _ _ _ => List.getElem?_toArray, fun _ _ _ => List.getElem?_cons_zero, fun _ _ _ _ => List.getElem?_cons_succ⟩
theorem sgPHFiInts : (∀ (α : Type) (l : List α) (i : Nat) (a : α), l.toArray.setIfInBounds i a = (l.set i a).toArray) ∧ (∀ (α : Type) (a b : α) (l : List α), (a :: l).set 0 b = b :: l) ∧ (∀ (α : Type) (a b : α) (l : List α) (i : Nat), (a :: l).set (i + 1) b = a :: l.set i b) :=
  ⟨fun _ _ _ _ => List.setIfInBounds_toArray _ _ _, fun _ _ _ _ => List.set_cons_zero, fun _ _ _ _ _ => List.set_cons_succ⟩
end Go.Proofs.YtojnlmfahgeidaaGreatDoor
namespace Go.Proofs.YtojnlmfahgeidaaGreatDoor
open Go Go.RowKit
set_option linter.unusedSimpArgs false
set_option linter.unusedVariables false
set_option maxRecDepth 100000 in
set_option maxHeartbeats 4000000 in
theorem named_ok (x : Nat) (a : Option Addr) (n c : Nat) (b : Bool) (wn nn k l z : Int) (st : Nat) (hk : b = true → k = 2) (w : World) (HW0 : ∀ V, Below w.heap.size w V → Calls Tryz.prog 33 #[.pointer (some ⟨x, 0, none⟩), .slice a n c] V fun e w' => e = .returned (.tuple #[.int .i64 wn, .int .i64 0]) ∧ Below V.heap.size V w') (HG0 : ∀ V, Below w.heap.size w V → Calls Tryz.prog 56 #[.pointer (some ⟨x, 0, none⟩), .int .i64 wn] V fun e w' => e = .returned (.tuple #[.agg (nfC nn k l z st), .int .i64 0]) ∧ Below V.heap.size V w') :
    Calls Tryz.prog 74 #[.pointer (some ⟨x, 0, none⟩), .agg #[.slice a n c, .bool b]] w fun e w' => e = .returned (.tuple #[.agg (nfC nn k l z st), .int .i64 0]) ∧ Below w.heap.size w w' := by
  have HG : Hid (∀ V, Below w.heap.size w V → Calls Tryz.prog 56 #[.pointer (some ⟨x, 0, none⟩), .int .i64 wn] V fun e w' => e = .returned (.tuple #[.agg (nfC nn k l z st), .int .i64 0]) ∧ Below V.heap.size V w') := HG0
  have HW : Hid (∀ V, Below w.heap.size w V → Calls Tryz.prog 33 #[.pointer (some ⟨x, 0, none⟩), .slice a n c] V fun e w' => e = .returned (.tuple #[.int .i64 wn, .int .i64 0]) ∧ Below V.heap.size V w') := HW0
  have hz := zero_nf
  have hbt := built_nf0
  have b0 : Blk ((w.alloc (.cells #[.slice a n c, .bool b] 94)).alloc (.cells nf0 86)) w.heap.size 94 #[.slice a n c, .bool b] := Blk.alloc (Blk.new _ _ _) _
  have b1 : Blk ((w.alloc (.cells #[.slice a n c, .bool b] 94)).alloc (.cells nf0 86)) (w.heap.size + 1) 86 nf0 := Blk.new1 _ _ _ _
  have hb : Below w.heap.size w ((w.alloc (.cells #[.slice a n c, .bool b] 94)).alloc (.cells nf0 86)) := below_new2 _ _ _
  have c0 := (b0.cell 0).trans rfl
  clear HW0 HG0
  go_enter Tryz.func74, Tryz.ntmps74
  go_wp2_with fail
  generalize ((w.alloc (.cells #[.slice a n c, .bool b] 94)).alloc (.cells nf0 86)) = w1 at *
  refine (HW.out _ hb).mono ?_
  rintro e w2 ⟨rfl, hb2⟩
  have hb12 := hb.trans (hb2.mono hb.size)
  have d0 := b0.below hb2 b0.lt
  have d1 := b1.below hb2 b1.lt
  have H1 := HG.out w2 hb12
  clear b0 b1 c0 hb hb2 HW HG
  go_wp2_with fail
  refine H1.mono ?_
  rintro e w3 ⟨rfl, hb3⟩
  have hb13 := hb12.trans (hb3.mono hb12.size)
  have e0 := d0.below hb3 d0.lt
  have e1 := d1.below hb3 d1.lt
  have u1 : Blk (w3.alloc (.cells nf0 86)) w3.heap.size 86 nf0 := Blk.new _ _ _
  have u2 : Blk ((w3.alloc (.cells nf0 86)).setRow w3.heap.size (nfC nn k l z st)) w3.heap.size 86 (nfC nn k l z st) := u1.set _
  have hn : Below w3.heap.size w3 ((w3.alloc (.cells nf0 86)).setRow w3.heap.size (nfC nn k l z st)) := below_setRow (below_new1 _ _) (Nat.le_refl _) _
  have e0' := e0.below hn e0.lt
  have e1' := e1.below hn e1.lt
  have hb14 := hb13.trans (hn.mono hb13.size)
  obtain ⟨n0, n1, n2, n3, n4⟩ := nf_cs u2
  have k1 := (e0'.cell 1).trans rfl
  have r1 := e1'.set (nfC nn k l z st)
  have HB : Hid (Below w.heap.size w (((w3.alloc (.cells nf0 86)).setRow w3.heap.size (nfC nn k l z st)).setRow (w.heap.size + 1) (nfC nn k l z st))) := below_setRow hb14 (by omega) _
  clear d0 d1 hb12 hb3 hb13 e0 e1 hn hb14 H1 e0'
  cases b
  · clear hk
    go_wp2_with (first | (refine wpList_store_row (by rfl) 86 _ _ (by rfl) (w3.heap.size) (nfC nn k l z st) (by rfl) (by rfl) 86 (nf0) (by exact u1) (size_nf.trans (by rfl)) (by rfl) (nf_all _ _ _ _ _) ?_; simp only [Act.put, sgPHFiInts]) | (refine wpList_load_row (by rfl) 86 _ (by rfl) (w3.heap.size) (by rfl) 86 (nfC nn k l z st) (0, 0) _ (by exact u2) Tryz.underlying86 (by rfl) (size_nf.trans (by rfl)) ?_; simp only [Act.put, sgPHFiInts]) | (refine wpList_store_row (by rfl) 86 _ _ (by rfl) (w.heap.size + 1) (nfC nn k l z st) (by rfl) (by rfl) 86 (nf0) (by exact e1') (size_nf.trans (by rfl)) (by rfl) (nf_all _ _ _ _ _) ?_; simp only [Act.put, sgPHFiInts]) | fail)
    try simp only [Exit.inBlock, Exit.then]
    refine bodyPost_ret (results_row2 Tryz.results74 _ _ (w.heap.size + 1) 86 (nfC nn k l z st) (0, 0) _ rfl r1 Tryz.underlying86 rfl (size_nf.trans (by rfl))) rfl ?_
    exact ⟨rfl, HB.out⟩
  · have hk2 := hk rfl
    subst hk2
    clear hk
    go_wp2_with (first | (refine wpList_store_row (by rfl) 86 _ _ (by rfl) (w3.heap.size) (nfC nn 2 l z st) (by rfl) (by rfl) 86 (nf0) (by exact u1) (size_nf.trans (by rfl)) (by rfl) (nf_all _ _ _ _ _) ?_; simp only [Act.put, sgPHFiInts]) | (refine wpList_load_row (by rfl) 86 _ (by rfl) (w3.heap.size) (by rfl) 86 (nfC nn 2 l z st) (0, 0) _ (by exact u2) Tryz.underlying86 (by rfl) (size_nf.trans (by rfl)) ?_; simp only [Act.put, sgPHFiInts]) | (refine wpList_store_row (by rfl) 86 _ _ (by rfl) (w.heap.size + 1) (nfC nn 2 l z st) (by rfl) (by rfl) 86 (nf0) (by exact e1') (size_nf.trans (by rfl)) (by rfl) (nf_all _ _ _ _ _) ?_; simp only [Act.put, sgPHFiInts]) | fail)
    try simp only [Exit.inBlock, Exit.then]
    refine bodyPost_ret (results_row2 Tryz.results74 _ _ (w.heap.size + 1) 86 (nfC nn 2 l z st) (0, 0) _ rfl r1 Tryz.underlying86 rfl (size_nf.trans (by rfl))) rfl ?_
    exact ⟨rfl, HB.out⟩
set_option maxRecDepth 100000 in
set_option maxHeartbeats 4000000 in
theorem named_dir (x : Nat) (a : Option Addr) (n c : Nat) (b : Bool) (hbt0 : b = true) (wn nn k l z : Int) (st : Nat) (hk : k = 1) (w : World) (HW0 : ∀ V, Below w.heap.size w V → Calls Tryz.prog 33 #[.pointer (some ⟨x, 0, none⟩), .slice a n c] V fun e w' => e = .returned (.tuple #[.int .i64 wn, .int .i64 0]) ∧ Below V.heap.size V w') (HG0 : ∀ V, Below w.heap.size w V → Calls Tryz.prog 56 #[.pointer (some ⟨x, 0, none⟩), .int .i64 wn] V fun e w' => e = .returned (.tuple #[.agg (nfC nn k l z st), .int .i64 0]) ∧ Below V.heap.size V w') :
    Calls Tryz.prog 74 #[.pointer (some ⟨x, 0, none⟩), .agg #[.slice a n c, .bool b]] w fun e w' => e = .returned (.tuple #[.agg nf0, .int .i64 170]) ∧ Below w.heap.size w w' := by
  have HG : Hid (∀ V, Below w.heap.size w V → Calls Tryz.prog 56 #[.pointer (some ⟨x, 0, none⟩), .int .i64 wn] V fun e w' => e = .returned (.tuple #[.agg (nfC nn k l z st), .int .i64 0]) ∧ Below V.heap.size V w') := HG0
  have HW : Hid (∀ V, Below w.heap.size w V → Calls Tryz.prog 33 #[.pointer (some ⟨x, 0, none⟩), .slice a n c] V fun e w' => e = .returned (.tuple #[.int .i64 wn, .int .i64 0]) ∧ Below V.heap.size V w') := HW0
  have hz := zero_nf
  have hbt := built_nf0
  have b0 : Blk ((w.alloc (.cells #[.slice a n c, .bool b] 94)).alloc (.cells nf0 86)) w.heap.size 94 #[.slice a n c, .bool b] := Blk.alloc (Blk.new _ _ _) _
  have b1 : Blk ((w.alloc (.cells #[.slice a n c, .bool b] 94)).alloc (.cells nf0 86)) (w.heap.size + 1) 86 nf0 := Blk.new1 _ _ _ _
  have hb : Below w.heap.size w ((w.alloc (.cells #[.slice a n c, .bool b] 94)).alloc (.cells nf0 86)) := below_new2 _ _ _
  have c0 := (b0.cell 0).trans rfl
  clear HW0 HG0
  subst hbt0 hk
  go_enter Tryz.func74, Tryz.ntmps74
  go_wp2_with fail
  generalize ((w.alloc (.cells #[.slice a n c, .bool true] 94)).alloc (.cells nf0 86)) = w1 at *
  refine (HW.out _ hb).mono ?_
  rintro e w2 ⟨rfl, hb2⟩
  have hb12 := hb.trans (hb2.mono hb.size)
  have d0 := b0.below hb2 b0.lt
  have d1 := b1.below hb2 b1.lt
  have H1 := HG.out w2 hb12
  clear b0 b1 c0 hb hb2 HW HG
  go_wp2_with fail
  refine H1.mono ?_
  rintro e w3 ⟨rfl, hb3⟩
  have hb13 := hb12.trans (hb3.mono hb12.size)
  have e0 := d0.below hb3 d0.lt
  have e1 := d1.below hb3 d1.lt
  have u1 : Blk (w3.alloc (.cells nf0 86)) w3.heap.size 86 nf0 := Blk.new _ _ _
  have u2 : Blk ((w3.alloc (.cells nf0 86)).setRow w3.heap.size (nfC nn 1 l z st)) w3.heap.size 86 (nfC nn 1 l z st) := u1.set _
  have hn : Below w3.heap.size w3 ((w3.alloc (.cells nf0 86)).setRow w3.heap.size (nfC nn 1 l z st)) := below_setRow (below_new1 _ _) (Nat.le_refl _) _
  have e0' := e0.below hn e0.lt
  have e1' := e1.below hn e1.lt
  have hb14 := hb13.trans (hn.mono hb13.size)
  obtain ⟨n0, n1, n2, n3, n4⟩ := nf_cs u2
  have k1 := (e0'.cell 1).trans rfl
  have r1 := e1'.set nf0
  have HB : Hid (Below w.heap.size w (((w3.alloc (.cells nf0 86)).setRow w3.heap.size (nfC nn 1 l z st)).setRow (w.heap.size + 1) nf0)) := below_setRow hb14 (by omega) _
  clear d0 d1 hb12 hb3 hb13 e0 e1 hn hb14 H1 e0'
  · go_wp2_with (first | (refine wpList_buildTo (by rfl) 86 #[] (by rfl) _ rfl nf0 (by exact hbt) ?_; simp only [Act.put, sgPHFiInts]) | (refine wpList_store_row (by rfl) 86 _ _ (by rfl) (w3.heap.size) (nfC nn 1 l z st) (by rfl) (by rfl) 86 (nf0) (by exact u1) (size_nf.trans (by rfl)) (by rfl) (nf_all _ _ _ _ _) ?_; simp only [Act.put, sgPHFiInts]) | (refine wpList_store_row (by rfl) 86 _ _ (by rfl) (w.heap.size + 1) (nf0) (by rfl) (by rfl) 86 (nf0) (by exact e1') (size_nf.trans (by rfl)) (by rfl) (nf_all _ _ _ _ _) ?_; simp only [Act.put, sgPHFiInts]) | fail)
    try simp only [Exit.inBlock, Exit.then]
    refine bodyPost_ret (results_row2 Tryz.results74 _ _ (w.heap.size + 1) 86 (nf0) (0, 0) _ rfl r1 Tryz.underlying86 rfl (size_nf.trans (by rfl))) rfl ?_
    exact ⟨rfl, HB.out⟩
set_option maxRecDepth 100000 in
set_option maxHeartbeats 4000000 in
theorem named_err (x : Nat) (a : Option Addr) (n c : Nat) (b : Bool) (wn we : Int) (hwe : ¬ we = 0) (w : World) (HW0 : ∀ V, Below w.heap.size w V → Calls Tryz.prog 33 #[.pointer (some ⟨x, 0, none⟩), .slice a n c] V fun e w' => e = .returned (.tuple #[.int .i64 wn, .int .i64 we]) ∧ Below V.heap.size V w') :
    Calls Tryz.prog 74 #[.pointer (some ⟨x, 0, none⟩), .agg #[.slice a n c, .bool b]] w fun e w' => e = .returned (.tuple #[.agg nf0, .int .i64 we]) ∧ Below w.heap.size w w' := by
  have HW : Hid (∀ V, Below w.heap.size w V → Calls Tryz.prog 33 #[.pointer (some ⟨x, 0, none⟩), .slice a n c] V fun e w' => e = .returned (.tuple #[.int .i64 wn, .int .i64 we]) ∧ Below V.heap.size V w') := HW0
  have hz := zero_nf
  have hbt := built_nf0
  have b0 : Blk ((w.alloc (.cells #[.slice a n c, .bool b] 94)).alloc (.cells nf0 86)) w.heap.size 94 #[.slice a n c, .bool b] := Blk.alloc (Blk.new _ _ _) _
  have b1 : Blk ((w.alloc (.cells #[.slice a n c, .bool b] 94)).alloc (.cells nf0 86)) (w.heap.size + 1) 86 nf0 := Blk.new1 _ _ _ _
  have hb : Below w.heap.size w ((w.alloc (.cells #[.slice a n c, .bool b] 94)).alloc (.cells nf0 86)) := below_new2 _ _ _
  have c0 := (b0.cell 0).trans rfl
  clear HW0
  go_enter Tryz.func74, Tryz.ntmps74
  go_wp2_with fail
  generalize ((w.alloc (.cells #[.slice a n c, .bool b] 94)).alloc (.cells nf0 86)) = w1 at *
  refine (HW.out _ hb).mono ?_
  rintro e w2 ⟨rfl, hb2⟩
  have hb12 := hb.trans (hb2.mono hb.size)
  have d0 := b0.below hb2 b0.lt
  have d1 := b1.below hb2 b1.lt
  have r1 := d1.set nf0
  have HB : Hid (Below w.heap.size w (w2.setRow (w.heap.size + 1) nf0)) := below_setRow hb12 (by omega) _
  clear b0 b1 c0 hb hb2 HW hb12 d0
  · go_wp2_with (first | (refine wpList_buildTo (by rfl) 86 #[] (by rfl) _ rfl nf0 (by exact hbt) ?_; simp only [Act.put, sgPHFiInts]) | (refine wpList_store_row (by rfl) 86 _ _ (by rfl) (w.heap.size + 1) (nf0) (by rfl) (by rfl) 86 (nf0) (by exact d1) (size_nf.trans (by rfl)) (by rfl) (nf_all _ _ _ _ _) ?_; simp only [Act.put, sgPHFiInts]) | fail)
    try simp only [Exit.inBlock, Exit.then]
    refine bodyPost_ret (results_row2 Tryz.results74 _ _ (w.heap.size + 1) 86 (nf0) (0, 0) _ rfl r1 Tryz.underlying86 rfl (size_nf.trans (by rfl))) rfl ?_
    exact ⟨rfl, HB.out⟩
theorem own_nm {w : World} {B n m c : Nat} {a : Option Addr} {N : List ByteArray} (h : w.ownsRow B 9 1 (.slice a m c) n (N.map Value.string)) : IsNm w a N.length (fun j => N.getD j ⟨#[]⟩) := fun j hj => by
  rcases own_isN h with h0 | ⟨g, o, rfl, hg, hc⟩
  · rw [h0] at hj
    exact absurd hj (Nat.not_lt_zero _)
  · refine ⟨g, o, rfl, hg, hc j _ ?_⟩
    simp [List.getD, List.getElem?_eq_getElem hj]
set_option maxRecDepth 100000 in
set_option maxHeartbeats 4000000 in
theorem lookup_ok (x : Nat) (s : ByteArray) (N : List ByteArray) (dd : Bool) (i : Nat) (hp : prs s.data.toList = (N, dd, i, 0)) (nn k l z er : Int) (st : Nat) (w : World) (HM0 : ∀ V a c, Below w.heap.size w V → IsNm V a N.length (fun j => N.getD j ⟨#[]⟩) → Calls Tryz.prog 74 #[.pointer (some ⟨x, 0, none⟩), .agg #[.slice a N.length c, .bool dd]] V fun e w' => e = .returned (.tuple #[.agg (nfC nn k l z st), .int .i64 er]) ∧ Below V.heap.size V w') :
    Calls Tryz.prog 37 #[.pointer (some ⟨x, 0, none⟩), .string s] w fun e w' => e = .returned (.tuple #[.agg (nfC nn k l z st), .int .i64 er]) ∧ Below w.heap.size w w' := by
  have HP : Hid (∀ V : World, Calls Tryz.prog 73 #[.string s] V fun e w' => ∃ (a : Option Addr) (c : Nat), e = .returned (.tuple #[.agg #[.slice a N.length c, .bool dd], .int .i64 (i : Int), .int .i64 0]) ∧ w'.ownsRow V.heap.size 9 1 (.slice a N.length c) N.length (N.map Value.string) ∧ Below V.heap.size V w') := fun V => parse_at s hp V
  have HM : Hid (∀ V a c, Below w.heap.size w V → IsNm V a N.length (fun j => N.getD j ⟨#[]⟩) → Calls Tryz.prog 74 #[.pointer (some ⟨x, 0, none⟩), .agg #[.slice a N.length c, .bool dd]] V fun e w' => e = .returned (.tuple #[.agg (nfC nn k l z st), .int .i64 er]) ∧ Below V.heap.size V w') := HM0
  have hz := zero_nf
  have hz2 := pt_zero
  have b1 : Blk (w.alloc (.cells nf0 86)) w.heap.size 86 nf0 := Blk.new _ _ _
  have hb : Below w.heap.size w (w.alloc (.cells nf0 86)) := below_new1 _ _
  clear HM0 hp
  go_enter Tryz.func37, Tryz.ntmps37
  go_wp2_with fail
  generalize (w.alloc (.cells nf0 86)) = w1 at *
  refine (HP.out _).mono ?_
  rintro e w2 ⟨a, c, rfl, ho, hb2⟩
  have hb12 := hb.trans (hb2.mono hb.size)
  have d1 := (b1.below hb2 b1.lt).alloc (.cells #[.slice a N.length c, .bool dd] 94)
  have hb13 : Below w.heap.size w (w2.alloc (.cells #[.slice a N.length c, .bool dd] 94)) := hb12.alloc hb12.size _
  have H1 := HM.out (w2.alloc (.cells #[.slice a N.length c, .bool dd] 94)) a c hb13 ((own_nm ho).below (below_new1 _ _))
  clear b1 hb hb2 hb12 HP HM ho
  go_wp2_with fail
  generalize (w2.alloc (.cells #[.slice a N.length c, .bool dd] 94)) = w3 at *
  refine H1.mono ?_
  rintro e w4 ⟨rfl, hb4⟩
  have e1 := d1.below hb4 d1.lt
  have r1 := e1.set (nfC nn k l z st)
  have HB : Hid (Below w.heap.size w (w4.setRow w.heap.size (nfC nn k l z st))) := below_setRow (hb13.trans (hb4.mono hb13.size)) (Nat.le_refl _) _
  clear d1 hb13 hb4 H1
  · go_wp2_with (first | (refine wpList_store_row (by rfl) 86 _ _ (by rfl) (w.heap.size) (nfC nn k l z st) (by rfl) (by rfl) 86 (nf0) (by exact e1) (size_nf.trans (by rfl)) (by rfl) (nf_all _ _ _ _ _) ?_; simp only [Act.put, sgPHFiInts]) | fail)
    try simp only [Exit.inBlock, Exit.then]
    refine bodyPost_ret (results_row2 Tryz.results37 _ _ w.heap.size 86 (nfC nn k l z st) (0, 0) _ rfl r1 Tryz.underlying86 rfl (size_nf.trans (by rfl))) rfl ?_
    exact ⟨rfl, HB.out⟩
set_option maxRecDepth 100000 in
set_option maxHeartbeats 4000000 in
theorem lookup_err (x : Nat) (s : ByteArray) (N : List ByteArray) (dd : Bool) (i : Nat) (zz : Int) (hz0 : ¬ zz = 0) (hp : prs s.data.toList = (N, dd, i, zz)) (w : World) :
    Calls Tryz.prog 37 #[.pointer (some ⟨x, 0, none⟩), .string s] w fun e w' => e = .returned (.tuple #[.agg nf0, .int .i64 zz]) ∧ Below w.heap.size w w' := by
  have HP : Hid (∀ V : World, Calls Tryz.prog 73 #[.string s] V fun e w' => ∃ (a : Option Addr) (c : Nat), e = .returned (.tuple #[.agg #[.slice a N.length c, .bool dd], .int .i64 (i : Int), .int .i64 zz]) ∧ w'.ownsRow V.heap.size 9 1 (.slice a N.length c) N.length (N.map Value.string) ∧ Below V.heap.size V w') := fun V => parse_at s hp V
  have hz := zero_nf
  have hbt := built_nf0
  have hz2 := pt_zero
  have b1 : Blk (w.alloc (.cells nf0 86)) w.heap.size 86 nf0 := Blk.new _ _ _
  have hb : Below w.heap.size w (w.alloc (.cells nf0 86)) := below_new1 _ _
  clear hp
  go_enter Tryz.func37, Tryz.ntmps37
  go_wp2_with fail
  generalize (w.alloc (.cells nf0 86)) = w1 at *
  refine (HP.out _).mono ?_
  rintro e w2 ⟨a, c, rfl, ho, hb2⟩
  have hb12 := hb.trans (hb2.mono hb.size)
  have d1 := (b1.below hb2 b1.lt).alloc (.cells #[.slice a N.length c, .bool dd] 94)
  have r1 := d1.set nf0
  have HB : Hid (Below w.heap.size w ((w2.alloc (.cells #[.slice a N.length c, .bool dd] 94)).setRow w.heap.size nf0)) := below_setRow (hb12.alloc hb12.size _) (Nat.le_refl _) _
  clear b1 hb hb2 hb12 HP ho
  · go_wp2_with (first | (refine wpList_buildTo (by rfl) 86 #[] (by rfl) _ rfl nf0 (by exact hbt) ?_; simp only [Act.put, sgPHFiInts]) | (refine wpList_store_row (by rfl) 86 _ _ (by rfl) (w.heap.size) (nf0) (by rfl) (by rfl) 86 (nf0) (by exact d1) (size_nf.trans (by rfl)) (by rfl) (nf_all _ _ _ _ _) ?_; simp only [Act.put, sgPHFiInts]) | fail)
    try simp only [Exit.inBlock, Exit.then]
    refine bodyPost_ret (results_row2 Tryz.results37 _ _ w.heap.size 86 (nf0) (0, 0) _ rfl r1 Tryz.underlying86 rfl (size_nf.trans (by rfl))) rfl ?_
    exact ⟨rfl, HB.out⟩
end Go.Proofs.YtojnlmfahgeidaaGreatDoor

namespace Go.Proofs.YtojnlmfahgeidaaGreatDoor
open Go Go.RowKit
set_option linter.unusedSimpArgs false
set_option linter.unusedVariables false
set_option maxRecDepth 100000 in
set_option maxHeartbeats 4000000 in
theorem awake19_any (w : World) : Calls Tryz.prog 32 #[] w fun e w' => e = .returned (.bool true) ∧ Below w.heap.size w w' := by
  have HB := built19_any none 0 0 (by decide) (fun _ => ⟨false, false, 0, 0, ⟨#[]⟩⟩) (fun i hi => absurd hi (Nat.not_lt_zero _)) w (fun i hi => absurd hi (Nat.not_lt_zero _))
  have hz := zero_nf
  go_enter Tryz.func32, Tryz.ntmps32
  go_wp2_with fail
  refine HB.mono ?_
  rintro e w1 ⟨x, mf, ml, mc, cp, r, all, F, rfl, hT⟩
  obtain ⟨k, l, z, st, hk, _, hG⟩ := hT.bi.getN 1 ⟨Nat.le_refl _, hT.al1.1⟩
  have hk2 := hk hT.bi.d1
  subst hk2
  have HL := lookup_ok x ⟨#[47]⟩ [] true (prs [47]).2.2.1 (by decide) 1 2 l z 0 st w1 (fun V a c hV _ => named_ok x a 0 c true 1 1 2 l z st (fun _ => rfl) V (fun V' hV' => walk_none x a c V') (fun V' hV' => hG V' (hV.trans (hV'.mono hV.size))))
  have HB1 : Hid (Below w.heap.size w w1) := hT.bl
  clear HB hT hk hG
  go_wp2_with fail
  refine HL.mono ?_
  rintro e w2 ⟨rfl, hb2⟩
  have hb12 := HB1.out.trans (hb2.mono HB1.out.size)
  have u1 : Blk (w2.alloc (.cells nf0 86)) w2.heap.size 86 nf0 := Blk.new _ _ _
  have u2 : Blk ((w2.alloc (.cells nf0 86)).setRow w2.heap.size (nfC 1 2 l z st)) w2.heap.size 86 (nfC 1 2 l z st) := u1.set _
  have HB3 : Hid (Below w.heap.size w ((w2.alloc (.cells nf0 86)).setRow w2.heap.size (nfC 1 2 l z st))) := below_setRow (hb12.alloc hb12.size _) hb12.size _
  obtain ⟨n0, n1, n2, n3, n4⟩ := nf_cs u2
  clear hb2 hb12 HL
  go_wp2_with (first | (refine wpList_store_row (by rfl) 86 _ _ (by rfl) (w2.heap.size) (nfC 1 2 l z st) (by rfl) (by rfl) 86 (nf0) (by exact u1) (size_nf.trans (by rfl)) (by rfl) (nf_all _ _ _ _ _) ?_; simp only [Act.put, sgPHFiInts]) | fail)
  go_ret
  exact ⟨rfl, HB3.out⟩
end Go.Proofs.YtojnlmfahgeidaaGreatDoor

namespace Go.Proofs.YtojnlmfahgeidaaGreatDoor
open Go Go.RowKit
set_option linter.unusedSimpArgs false
set_option linter.unusedVariables false
theorem IsNm.far {w : World} {g : Nat} {a : Option Addr} {N : List ByteArray} (h : IsNm w a N.length (fun j => N.getD j ⟨#[]⟩)) (hb : Blk w g 94 #[.slice none 0 0, .bool false]) (u v : Value) : IsNm ((w.setCell ⟨g, 0, none⟩ u).setCell ⟨g, 1, none⟩ v) a N.length (fun j => N.getD j ⟨#[]⟩) := fun j hj => by
  obtain ⟨b, o, h1, h2, h3⟩ := h j hj
  have hne : b ≠ g := fun e => by
    subst e
    have c := hb.cell (o + j)
    rw [h3] at c
    match o + j, c with
    | 0, c => simp at c
    | 1, c => simp at c
    | q + 2, c => simp at c
  have e1 : ((w.setCell ⟨g, 0, none⟩ u).setCell ⟨g, 1, none⟩ v).heap[b]? = w.heap[b]? := (Below.heap_setCell _ _ _ _ hne).trans (Below.heap_setCell _ _ _ _ hne)
  exact ⟨b, o, h1, by simpa using h2, (World.cell?_of_block (w := w) e1).trans h3⟩
theorem fi_far {w : World} {g gi : Nat} {p0 : Array Value} {nn k l z : Int} {st : Nat} (h0 : Blk w g 94 p0) (h1 : Blk w gi 86 (nfC nn k l z st)) (u v : Value) : Blk ((w.setCell ⟨g, 0, none⟩ u).setCell ⟨g, 1, none⟩ v) gi 86 (nfC nn k l z st) := by
  have hne : gi ≠ g := fun e => by
    subst e
    have h := h0.symm.trans h1
    simp [nfC] at h
  exact (h1.put_other 0 u hne).put_other 1 v hne
set_option maxRecDepth 100000 in
set_option maxHeartbeats 4000000 in
theorem parent_ok (x : Nat) (s nm : ByteArray) (N N2 : List ByteArray) (dd : Bool) (i : Nat) (hp : prs s.data.toList = (N, dd, i, 0)) (hs : splR s.data.toList = (N2, true, nm, 0)) (nn k l z : Int) (st : Nat) (w : World) (HM0 : ∀ V a c, Below w.heap.size w V → IsNm V a N2.length (fun j => N2.getD j ⟨#[]⟩) → Calls Tryz.prog 74 #[.pointer (some ⟨x, 0, none⟩), .agg #[.slice a N2.length c, .bool true]] V fun e w' => e = .returned (.tuple #[.agg (nfC nn k l z st), .int .i64 0]) ∧ Below V.heap.size V w') :
    Calls Tryz.prog 39 #[.pointer (some ⟨x, 0, none⟩), .string s] w fun e w' => ∃ a2 c2, e = .returned (.tuple #[.int .i64 nn, .string nm, .agg #[.slice a2 N.length c2, .bool dd], .int .i64 0]) ∧ IsNm w' a2 N.length (fun j => N.getD j ⟨#[]⟩) ∧ Below w.heap.size w w' := by
  have HM : Hid (∀ V a c, Below w.heap.size w V → IsNm V a N2.length (fun j => N2.getD j ⟨#[]⟩) → Calls Tryz.prog 74 #[.pointer (some ⟨x, 0, none⟩), .agg #[.slice a N2.length c, .bool true]] V fun e w' => e = .returned (.tuple #[.agg (nfC nn k l z st), .int .i64 0]) ∧ Below V.heap.size V w') := HM0
  have HS : Hid (∀ V : World, Calls Tryz.prog 76 #[.string s] V fun e w' => ∃ a c, e = .returned (.tuple #[.agg #[.slice a N2.length c, .bool true], .string nm, .int .i64 0]) ∧ V.heap.size ≤ V.heap.size ∧ w'.ownsRow V.heap.size 9 1 (.slice a N2.length c) N2.length (N2.map Value.string) ∧ Below V.heap.size V w') := fun V => (split_any s V).mono fun e w' ⟨v, h1, h2, h3⟩ => by
    rw [hs] at h1 h2
    obtain ⟨a, c, rfl⟩ := kown_slice h2
    exact ⟨a, c, h1, Nat.le_refl _, h2, h3⟩
  have HP : Hid (∀ V : World, Calls Tryz.prog 73 #[.string s] V fun e w' => ∃ a2 c2, e = .returned (.tuple #[.agg #[.slice a2 N.length c2, .bool dd], .int .i64 (i : Int), .int .i64 0]) ∧ IsNm w' a2 N.length (fun j => N.getD j ⟨#[]⟩) ∧ Below V.heap.size V w') := fun V => (parse_at s hp V).mono fun e w' ⟨a, c, h1, h2, h3⟩ => ⟨a, c, h1, own_nm h2, h3⟩
  clear HM0 hp hs
  have hz := zero_nf
  have hz2 := pt_zero
  have b0 : Blk (w.alloc (.cells #[.slice none 0 0, .bool false] 94)) w.heap.size 94 #[.slice none 0 0, .bool false] := Blk.new _ _ _
  have hb : Below w.heap.size w (w.alloc (.cells #[.slice none 0 0, .bool false] 94)) := below_new1 _ _
  go_enter Tryz.func39, Tryz.ntmps39
  go_wp2_with fail
  generalize (w.alloc (.cells #[.slice none 0 0, .bool false] 94)) = w1 at *
  refine (HS.out _).mono ?_
  rintro e w2 ⟨a, c, rfl, _, ho2, hb2⟩
  have hb12 := hb.trans (hb2.mono hb.size)
  have d0 := (b0.below hb2 b0.lt).alloc (.cells #[.slice a N2.length c, .bool true] 94)
  have hb13 : Below w.heap.size w (w2.alloc (.cells #[.slice a N2.length c, .bool true] 94)) := hb12.alloc hb12.size _
  have H1 := HM.out (w2.alloc (.cells #[.slice a N2.length c, .bool true] 94)) a c hb13 ((own_nm ho2).below (below_new1 _ _))
  clear b0 hb hb2 hb12 HS HM ho2
  go_wp2_with fail
  generalize (w2.alloc (.cells #[.slice a N2.length c, .bool true] 94)) = w2' at *
  refine H1.mono ?_
  rintro e w3 ⟨rfl, hb3⟩
  have e0 := d0.below hb3 d0.lt
  have hb14 := hb13.trans (hb3.mono hb13.size)
  have u1 : Blk (w3.alloc (.cells nf0 86)) w3.heap.size 86 nf0 := Blk.new _ _ _
  have u2 : Blk ((w3.alloc (.cells nf0 86)).setRow w3.heap.size (nfC nn k l z st)) w3.heap.size 86 (nfC nn k l z st) := u1.set _
  have hn : Below w3.heap.size w3 ((w3.alloc (.cells nf0 86)).setRow w3.heap.size (nfC nn k l z st)) := below_setRow (below_new1 _ _) (Nat.le_refl _) _
  have e1 := e0.below hn e0.lt
  have hb15 := hb14.trans (hn.mono hb14.size)
  clear d0 hb13 hb3 hb14 hn H1 e0
  go_wp2_with (first | (refine wpList_store_row (by rfl) 86 _ _ (by rfl) (w3.heap.size) ((nfC nn k l z st)) (by rfl) (by rfl) 86 (nf0) (by exact u1) (size_nf.trans (by rfl)) (by rfl) (nf_all _ _ _ _ _) ?_; simp only [Act.put, sgPHFiInts]) | fail)
  generalize ((w3.alloc (.cells nf0 86)).setRow w3.heap.size (nfC nn k l z st)) = w4 at *
  generalize w3.heap.size = gi at *
  refine (HP.out _).mono ?_
  rintro e w5 ⟨a2, c2, rfl, hnm5, hb5⟩
  have HNM : Hid (∀ V, Below w5.heap.size w5 V → IsNm V a2 N.length (fun j => N.getD j ⟨#[]⟩)) := fun V hV => hnm5.below hV
  clear hnm5
  have f0 := (e1.below hb5 e1.lt).alloc (.cells #[.slice a2 N.length c2, .bool dd] 94)
  have f1 := (u2.below hb5 u2.lt).alloc (.cells #[.slice a2 N.length c2, .bool dd] 94)
  have f2 : Blk (w5.alloc (.cells #[.slice a2 N.length c2, .bool dd] 94)) w5.heap.size 94 #[.slice a2 N.length c2, .bool dd] := Blk.new _ _ _
  have hb16 := hb15.trans (hb5.mono hb15.size)
  have hb17 : Below w.heap.size w (w5.alloc (.cells #[.slice a2 N.length c2, .bool dd] 94)) := hb16.alloc hb16.size _
  have l0 := (e1.below hb5 e1.lt).lt
  clear e1 u1 u2 hb15 hb5 hb16 HP
  have F0 := f0.drew
  have F1 := f1.drew
  have F2 := f2.drew
  have HB6 : Hid (Below w.heap.size w (w5.alloc (.cells #[.slice a2 N.length c2, .bool dd] 94)).drew) := hb17.drew
  have lg : w5.heap.size < (w5.alloc (.cells #[.slice a2 N.length c2, .bool dd] 94)).drew.heap.size := F2.lt
  clear f0 f1 f2 hb17
  go_wp2_with fail
  refine wp_region_partsS (fun U => Blk U gi 86 (nfC nn k l z st)) [([2, 4], 0, true), ([], 1, true), ([5, 6], 3, false), ([], 7, false)] [8] [] (by kernel_rfl) (by kernel_rfl) F1 (partsI_yield ?_)
  have HN6 : Hid (IsNm (w5.alloc (.cells #[.slice a2 N.length c2, .bool dd] 94)).drew a2 N.length (fun j => N.getD j ⟨#[]⟩)) := HNM.out _ (below_new1 _ _).drew
  have HT0 : Hid (Blk (w5.alloc (.cells #[.slice a2 N.length c2, .bool dd] 94)).drew w.heap.size 94 #[.slice none 0 0, .bool false]) := F0
  clear HNM
  generalize (w5.alloc (.cells #[.slice a2 N.length c2, .bool dd] 94)).drew = w6 at *
  generalize w5.heap.size = g5 at *
  have k0 := (F2.cell 0).trans rfl
  have k1 := (F2.cell 1).trans rfl
  have t0 := (F0.cell 0).trans rfl
  have t1 := (F0.cell 1).trans rfl
  have z0 := F0.frozen 0
  have z1 := F0.frozen 1
  have R1 := (F0.put 0 (.slice a2 N.length c2)).put 1 (.bool dd)
  have F1' : Blk ((w6.setCell ⟨w.heap.size, 0, none⟩ (.slice a2 N.length c2)).setCell ⟨w.heap.size, 1, none⟩ (.bool dd)) gi 86 (nfC nn k l z st) := fi_far F0 F1 _ _
  have HNE : Hid (IsNm ((w6.setCell ⟨w.heap.size, 0, none⟩ (.slice a2 N.length c2)).setCell ⟨w.heap.size, 1, none⟩ (.bool dd)) a2 N.length (fun j => N.getD j ⟨#[]⟩)) := HN6.out.far (HT0.out) _ _
  have HBE : Hid (Below w.heap.size w ((w6.setCell ⟨w.heap.size, 0, none⟩ (.slice a2 N.length c2)).setCell ⟨w.heap.size, 1, none⟩ (.bool dd))) := (HB6.out.setCell (p := ⟨w.heap.size, 0, none⟩) (Nat.le_refl _) _).setCell (p := ⟨w.heap.size, 1, none⟩) (Nat.le_refl _) _
  simp only [sgLHFiInts]
  go_wp2_with fail
  refine ⟨rfl, _, .pointer (some ⟨gi, 0, none⟩), rfl, Or.inl ⟨by rfl, fun W hW => by go_simp⟩, partsI_yield ?_⟩
  simp only [Act.put, sgPHFiInts]
  simp only [sgLHFiInts]
  go_wp2_with fail
  refine ⟨rfl, _, .int .i64 nn, rfl, Or.inl ⟨by rfl, fun W hW => by obtain ⟨n0, n1, n2, n3, n4⟩ := nf_cs hW; go_simp⟩, partsI_force ?_⟩
  simp only [Act.put, sgPHFiInts]
  simp only [sgLHFiInts]
  go_wp2_with fail
  refine ⟨rfl, F1, partsI_force ?_⟩
  simp only [sgLHFiInts]
  go_wp2_with fail
  refine ⟨rfl, F1', partsI_last ?_⟩
  simp only [sgLHFiInts]
  go_wp2_with fail
  refine ⟨rfl, ?_⟩
  clear k0 k1 t0 t1 z0 z1 F0 F1 F2 F1'
  go_wp2_with fail
  try simp only [Exit.inBlock, Exit.then]
  refine bodyPost_ret (res_ttct Tryz.results39 _ _ w.heap.size 94 #[.slice a2 N.length c2, .bool dd] _ rfl R1 Tryz.underlying94 rfl (size_pt.trans rfl)) rfl ?_
  exact ⟨a2, c2, rfl, HNE.out, HBE.out⟩
set_option maxRecDepth 100000 in
set_option maxHeartbeats 4000000 in
theorem parent_err1 (x : Nat) (s nm : ByteArray) (N2 : List ByteArray) (d2 : Bool) (z2 : Int) (hz0 : ¬ z2 = 0) (hs : splR s.data.toList = (N2, d2, nm, z2)) (w : World) :
    Calls Tryz.prog 39 #[.pointer (some ⟨x, 0, none⟩), .string s] w fun e w' => e = .returned (.tuple #[.int .i64 0, .string ⟨#[]⟩, .agg #[.slice none 0 0, .bool false], .int .i64 z2]) ∧ Below w.heap.size w w' := by
  have HS : Hid (∀ V : World, Calls Tryz.prog 76 #[.string s] V fun e w' => ∃ a c, e = .returned (.tuple #[.agg #[.slice a N2.length c, .bool d2], .string nm, .int .i64 z2]) ∧ Below V.heap.size V w') := fun V => (split_any s V).mono fun e w' ⟨v, h1, h2, h3⟩ => by
    rw [hs] at h1 h2
    obtain ⟨a, c, rfl⟩ := kown_slice h2
    exact ⟨a, c, h1, h3⟩
  clear hs
  have hz := zero_nf
  have hz2 := pt_zero
  have b0 : Blk (w.alloc (.cells #[.slice none 0 0, .bool false] 94)) w.heap.size 94 #[.slice none 0 0, .bool false] := Blk.new _ _ _
  have hb : Below w.heap.size w (w.alloc (.cells #[.slice none 0 0, .bool false] 94)) := below_new1 _ _
  go_enter Tryz.func39, Tryz.ntmps39
  go_wp2_with fail
  generalize (w.alloc (.cells #[.slice none 0 0, .bool false] 94)) = w1 at *
  refine (HS.out _).mono ?_
  rintro e w2 ⟨a, c, rfl, hb2⟩
  have hb12 := hb.trans (hb2.mono hb.size)
  have d0 := (b0.below hb2 b0.lt).alloc (.cells #[.slice a N2.length c, .bool d2] 94)
  have d00 := b0.below hb2 b0.lt
  have t0 := (d0.cell 0).trans rfl
  have t1 := (d0.cell 1).trans rfl
  have f0 := d0.frozen 0
  have f1 := d0.frozen 1
  have tt0 := (d00.cell 0).trans rfl
  have tt1 := (d00.cell 1).trans rfl
  have ff0 := d00.frozen 0
  have ff1 := d00.frozen 1
  have R1 : Blk (((w2.setCell ⟨w.heap.size, 0, none⟩ (.slice none 0 0)).setCell ⟨w.heap.size, 1, none⟩ (.bool false)).alloc (.cells #[.slice a N2.length c, .bool d2] 94)) w.heap.size 94 #[.slice none 0 0, .bool false] := ((d00.put 0 (.slice none 0 0)).put 1 (.bool false)).alloc _
  have HBE : Hid (Below w.heap.size w (((w2.setCell ⟨w.heap.size, 0, none⟩ (.slice none 0 0)).setCell ⟨w.heap.size, 1, none⟩ (.bool false)).alloc (.cells #[.slice a N2.length c, .bool d2] 94))) := ((hb12.setCell (p := ⟨w.heap.size, 0, none⟩) (Nat.le_refl _) _).setCell (p := ⟨w.heap.size, 1, none⟩) (Nat.le_refl _) _).alloc (by have := hb12.size; simpa using this) _
  have hlt : w.heap.size < w2.heap.size := (b0.below hb2 b0.lt).lt
  clear b0 hb hb2 hb12 HS d0 d00
  go_wp2_with fail
  try simp only [Exit.inBlock, Exit.then]
  refine bodyPost_ret (res_ttct Tryz.results39 _ _ w.heap.size 94 #[.slice none 0 0, .bool false] _ rfl R1 Tryz.underlying94 rfl (size_pt.trans rfl)) rfl ?_
  exact ⟨rfl, HBE.out⟩
set_option maxRecDepth 100000 in
set_option maxHeartbeats 4000000 in
theorem parent_err2 (x : Nat) (s nm : ByteArray) (N2 : List ByteArray) (hs : splR s.data.toList = (N2, true, nm, 0)) (nn k l z er : Int) (hz0 : ¬ er = 0) (st : Nat) (w : World) (HM0 : ∀ V a c, Below w.heap.size w V → IsNm V a N2.length (fun j => N2.getD j ⟨#[]⟩) → Calls Tryz.prog 74 #[.pointer (some ⟨x, 0, none⟩), .agg #[.slice a N2.length c, .bool true]] V fun e w' => e = .returned (.tuple #[.agg (nfC nn k l z st), .int .i64 er]) ∧ Below V.heap.size V w') :
    Calls Tryz.prog 39 #[.pointer (some ⟨x, 0, none⟩), .string s] w fun e w' => e = .returned (.tuple #[.int .i64 0, .string ⟨#[]⟩, .agg #[.slice none 0 0, .bool false], .int .i64 er]) ∧ Below w.heap.size w w' := by
  have HM : Hid (∀ V a c, Below w.heap.size w V → IsNm V a N2.length (fun j => N2.getD j ⟨#[]⟩) → Calls Tryz.prog 74 #[.pointer (some ⟨x, 0, none⟩), .agg #[.slice a N2.length c, .bool true]] V fun e w' => e = .returned (.tuple #[.agg (nfC nn k l z st), .int .i64 er]) ∧ Below V.heap.size V w') := HM0
  have HS : Hid (∀ V : World, Calls Tryz.prog 76 #[.string s] V fun e w' => ∃ a c, e = .returned (.tuple #[.agg #[.slice a N2.length c, .bool true], .string nm, .int .i64 0]) ∧ V.heap.size ≤ V.heap.size ∧ w'.ownsRow V.heap.size 9 1 (.slice a N2.length c) N2.length (N2.map Value.string) ∧ Below V.heap.size V w') := fun V => (split_any s V).mono fun e w' ⟨v, h1, h2, h3⟩ => by
    rw [hs] at h1 h2
    obtain ⟨a, c, rfl⟩ := kown_slice h2
    exact ⟨a, c, h1, Nat.le_refl _, h2, h3⟩
  clear HM0 hs
  have hz := zero_nf
  have hz2 := pt_zero
  have b0 : Blk (w.alloc (.cells #[.slice none 0 0, .bool false] 94)) w.heap.size 94 #[.slice none 0 0, .bool false] := Blk.new _ _ _
  have hb : Below w.heap.size w (w.alloc (.cells #[.slice none 0 0, .bool false] 94)) := below_new1 _ _
  go_enter Tryz.func39, Tryz.ntmps39
  go_wp2_with fail
  generalize (w.alloc (.cells #[.slice none 0 0, .bool false] 94)) = w1 at *
  refine (HS.out _).mono ?_
  rintro e w2 ⟨a, c, rfl, _, ho2, hb2⟩
  have hb12 := hb.trans (hb2.mono hb.size)
  have d0 := (b0.below hb2 b0.lt).alloc (.cells #[.slice a N2.length c, .bool true] 94)
  have hb13 : Below w.heap.size w (w2.alloc (.cells #[.slice a N2.length c, .bool true] 94)) := hb12.alloc hb12.size _
  have H1 := HM.out (w2.alloc (.cells #[.slice a N2.length c, .bool true] 94)) a c hb13 ((own_nm ho2).below (below_new1 _ _))
  clear b0 hb hb2 hb12 HS HM ho2
  go_wp2_with fail
  generalize (w2.alloc (.cells #[.slice a N2.length c, .bool true] 94)) = w2' at *
  refine H1.mono ?_
  rintro e w3 ⟨rfl, hb3⟩
  have e0 := d0.below hb3 d0.lt
  have hb14 := hb13.trans (hb3.mono hb13.size)
  have u1 : Blk (w3.alloc (.cells nf0 86)) w3.heap.size 86 nf0 := Blk.new _ _ _
  have hn : Below w3.heap.size w3 ((w3.alloc (.cells nf0 86)).setRow w3.heap.size (nfC nn k l z st)) := below_setRow (below_new1 _ _) (Nat.le_refl _) _
  have e1 := e0.below hn e0.lt
  have hb15 := hb14.trans (hn.mono hb14.size)
  have t0 := (e1.cell 0).trans rfl
  have t1 := (e1.cell 1).trans rfl
  have f0 := e1.frozen 0
  have f1 := e1.frozen 1
  have R1 := (e1.put 0 (.slice none 0 0)).put 1 (.bool false)
  have HBE : Hid (Below w.heap.size w ((((w3.alloc (.cells nf0 86)).setRow w3.heap.size (nfC nn k l z st)).setCell ⟨w.heap.size, 0, none⟩ (.slice none 0 0)).setCell ⟨w.heap.size, 1, none⟩ (.bool false))) := (hb15.setCell (p := ⟨w.heap.size, 0, none⟩) (Nat.le_refl _) _).setCell (p := ⟨w.heap.size, 1, none⟩) (Nat.le_refl _) _
  clear d0 hb13 hb3 hb14 H1 e0 hn e1 hb15
  go_wp2_with (first | (refine wpList_store_row (by rfl) 86 _ _ (by rfl) (w3.heap.size) ((nfC nn k l z st)) (by rfl) (by rfl) 86 (nf0) (by exact u1) (size_nf.trans (by rfl)) (by rfl) (nf_all _ _ _ _ _) ?_; simp only [Act.put, sgPHFiInts]) | fail)
  try simp only [Exit.inBlock, Exit.then]
  refine bodyPost_ret (res_ttct Tryz.results39 _ _ w.heap.size 94 #[.slice none 0 0, .bool false] _ rfl R1 Tryz.underlying94 rfl (size_pt.trans rfl)) rfl ?_
  exact ⟨rfl, HBE.out⟩
end Go.Proofs.YtojnlmfahgeidaaGreatDoor

namespace Go.Proofs.YtojnlmfahgeidaaGreatDoor
open Go Go.RowKit
set_option linter.unusedSimpArgs false
set_option linter.unusedVariables false
/-- the names of a list -/
def nmL (N : List ByteArray) : Nat → ByteArray := fun j => N.getD j ⟨#[]⟩
/-- what is wrong with a path that is looked up -/
noncomputable def lkE (F : Fo) (N : List ByteArray) (dd : Bool) (z : Int) : Int := if z ≠ 0 then z else if wkR F (nmL N) N.length ≠ 0 then wkR F (nmL N) N.length else if dd = true ∧ F.dr (wkA F (nmL N) N.length) = false then 170 else 0
noncomputable def lkN (F : Fo) (N : List ByteArray) (dd : Bool) (z : Int) : Int := if lkE F N dd z = 0 then ((wkA F (nmL N) N.length : Nat) : Int) else 0
/-- what is wrong with a path's directory -/
noncomputable def pkE (F : Fo) (N2 : List ByteArray) (z2 : Int) : Int := if z2 ≠ 0 then z2 else if wkR F (nmL N2) N2.length ≠ 0 then wkR F (nmL N2) N2.length else if F.dr (wkA F (nmL N2) N2.length) = true then 0 else 170
section
variable {w W : World} {x mf ml mc r all : Nat} {cp : Option Addr} {F : Fo}
theorem BT19.walkN (h : BT19 w W x mf ml mc cp r all F) (N : List ByteArray) (hl : N.length ≤ 32) (V : World) (hV : Below W.heap.size W V) (a : Option Addr) (c : Nat) (hn : IsNm V a N.length (nmL N)) : Calls Tryz.prog 33 #[.pointer (some ⟨x, 0, none⟩), .slice a N.length c] V fun e w' => e = .returned (.tuple #[.int .i64 (wkW F (nmL N) N.length), .int .i64 (wkR F (nmL N) N.length)]) ∧ Below V.heap.size V w' :=
  (h.below hV).bi.fwalk a N.length c (by omega) (nmL N) hn
theorem wkW_ok {F : Fo} {nm : Nat → ByteArray} {n : Nat} (h : wkR F nm n = 0) : wkW F nm n = ((wkA F nm n : Nat) : Int) := by unfold wkW; rw [if_pos h]
theorem BT19.namedAll (h : BT19 w W x mf ml mc cp r all F) (N : List ByteArray) (hl : N.length ≤ 32) (dd : Bool) : ∃ (k l zz : Int) (st : Nat), ∀ V a c, Below W.heap.size W V → IsNm V a N.length (nmL N) → Calls Tryz.prog 74 #[.pointer (some ⟨x, 0, none⟩), .agg #[.slice a N.length c, .bool dd]] V fun e w' => e = .returned (.tuple #[.agg (nfC (lkN F N dd 0) k l zz st), .int .i64 (lkE F N dd 0)]) ∧ Below V.heap.size V w' := by
  by_cases hR : wkR F (nmL N) N.length = 0
  · have hin := h.bi.wkIn N.length (wkR_zero hR).2
    obtain ⟨k, l, zz, st, hk2, hk1, hG⟩ := h.bi.getN _ hin
    by_cases hd : dd = true ∧ F.dr (wkA F (nmL N) N.length) = false
    · have e1 : lkE F N dd 0 = 170 := by unfold lkE; rw [if_neg (by simp), if_neg (by simp [hR]), if_pos hd]
      have e2 : lkN F N dd 0 = 0 := by unfold lkN; rw [if_neg (by rw [e1]; decide)]
      rw [e1, e2]
      refine ⟨0, 0, 0, 0, fun V a c hV hn => ?_⟩
      exact named_dir x a N.length c dd hd.1 ((wkA F (nmL N) N.length : Nat) : Int) ((wkA F (nmL N) N.length : Nat) : Int) k l zz st (hk1 hd.2) V (fun V' hV' => by
        have := h.walkN N hl V' (hV.trans (hV'.mono hV.size)) a c (hn.below hV')
        rw [wkW_ok hR, hR] at this
        exact this) (fun V' hV' => hG V' (hV.trans (hV'.mono hV.size)))
    · have e1 : lkE F N dd 0 = 0 := by unfold lkE; rw [if_neg (by simp), if_neg (by simp [hR]), if_neg hd]
      have e2 : lkN F N dd 0 = ((wkA F (nmL N) N.length : Nat) : Int) := by unfold lkN; rw [if_pos e1]
      rw [e1, e2]
      refine ⟨k, l, zz, st, fun V a c hV hn => ?_⟩
      exact named_ok x a N.length c dd ((wkA F (nmL N) N.length : Nat) : Int) ((wkA F (nmL N) N.length : Nat) : Int) k l zz st (fun q => by
        cases hdr : F.dr (wkA F (nmL N) N.length) with
        | true => exact hk2 hdr
        | false => exact absurd ⟨q, hdr⟩ hd) V (fun V' hV' => by
        have := h.walkN N hl V' (hV.trans (hV'.mono hV.size)) a c (hn.below hV')
        rw [wkW_ok hR, hR] at this
        exact this) (fun V' hV' => hG V' (hV.trans (hV'.mono hV.size)))
  · have e1 : lkE F N dd 0 = wkR F (nmL N) N.length := by unfold lkE; rw [if_neg (by simp), if_pos hR]
    have e2 : lkN F N dd 0 = 0 := by unfold lkN; rw [if_neg (by rw [e1]; exact hR)]
    rw [e1, e2]
    refine ⟨0, 0, 0, 0, fun V a c hV hn => ?_⟩
    exact named_err x a N.length c dd (wkW F (nmL N) N.length) (wkR F (nmL N) N.length) hR V (fun V' hV' => h.walkN N hl V' (hV.trans (hV'.mono hV.size)) a c (hn.below hV'))
theorem lkE_err {F : Fo} {N : List ByteArray} {dd : Bool} {z : Int} (hz : z ≠ 0) : lkE F N dd z = z ∧ lkN F N dd z = 0 := by
  have e : lkE F N dd z = z := by unfold lkE; rw [if_pos hz]
  exact ⟨e, by unfold lkN; rw [e, if_neg hz]⟩
theorem BT19.lookup (h : BT19 w W x mf ml mc cp r all F) (s : ByteArray) (N : List ByteArray) (hl : N.length ≤ 32) (dd : Bool) (i : Nat) (z : Int) (hp : prs s.data.toList = (N, dd, i, z)) : Calls Tryz.prog 37 #[.pointer (some ⟨x, 0, none⟩), .string s] W fun e w' => ∃ (k l zz : Int) (st : Nat), e = .returned (.tuple #[.agg (nfC (lkN F N dd z) k l zz st), .int .i64 (lkE F N dd z)]) ∧ Below W.heap.size W w' := by
  by_cases hz : z = 0
  · subst hz
    obtain ⟨k, l, zz, st, hM⟩ := h.namedAll N hl dd
    exact (lookup_ok x s N dd i hp _ k l zz _ st W hM).mono fun e w' he => ⟨k, l, zz, st, he⟩
  · obtain ⟨e1, e2⟩ := lkE_err (F := F) (N := N) (dd := dd) hz
    rw [e1, e2]
    exact (lookup_err x s N dd i z hz hp W).mono fun e w' he => ⟨0, 0, 0, 0, he⟩
theorem pkE_lk (F : Fo) (N2 : List ByteArray) : pkE F N2 0 = lkE F N2 true 0 := by
  unfold pkE lkE
  rw [if_neg (show ¬ ((0 : Int) ≠ 0) by simp), if_neg (show ¬ ((0 : Int) ≠ 0) by simp)]
  by_cases hR : wkR F (nmL N2) N2.length ≠ 0
  · rw [if_pos hR, if_pos hR]
  · rw [if_neg hR, if_neg hR]
    cases hd : F.dr (wkA F (nmL N2) N2.length) <;> simp
/-- what splitting says of reading -/
theorem spl_prs {l : List UInt8} {N N2 : List ByteArray} {dd d2 : Bool} {i : Nat} {z z2 : Int} {last : ByteArray} (hp : prs l = (N, dd, i, z)) (hs : splR l = (N2, d2, last, z2)) : (z2 = 0 → z = 0 ∧ d2 = true) ∧ N2.length ≤ 32 := by
  have hG : N.length ≤ 32 := by have := (good_prs l).1; rwa [hp] at this
  unfold splR at hs
  rw [hp] at hs
  by_cases hz : z = 0
  · subst hz
    rw [if_pos rfl] at hs
    cases hl : N.getLast? with
    | none =>
      rw [show (N, dd, i, (0 : Int)).1.getLast? = none from hl] at hs
      injection hs with h1 h2
      injection h2 with h2 h3
      injection h3 with h3 h4
      subst h1 h2 h3 h4
      exact ⟨fun q => absurd q (by decide), by simp⟩
    | some y =>
      rw [show (N, dd, i, (0 : Int)).1.getLast? = some y from hl] at hs
      injection hs with h1 h2
      injection h2 with h2 h3
      injection h3 with h3 h4
      subst h1 h2 h3 h4
      refine ⟨fun _ => ⟨rfl, rfl⟩, ?_⟩
      simp
      omega
  · rw [if_neg hz] at hs
    injection hs with h1 h2
    injection h2 with h2 h3
    injection h3 with h3 h4
    subst h1 h2 h3 h4
    exact ⟨fun q => absurd q hz, by simp⟩
theorem BT19.parent (h : BT19 w W x mf ml mc cp r all F) (s : ByteArray) (N N2 : List ByteArray) (dd d2 : Bool) (i : Nat) (z z2 : Int) (last : ByteArray) (hp : prs s.data.toList = (N, dd, i, z)) (hs : splR s.data.toList = (N2, d2, last, z2)) : Calls Tryz.prog 39 #[.pointer (some ⟨x, 0, none⟩), .string s] W fun e w' => ∃ (a2 : Option Addr) (m2 c2 : Nat) (b2 : Bool) (pn : Int) (pl : ByteArray), e = .returned (.tuple #[.int .i64 pn, .string pl, .agg #[.slice a2 m2 c2, .bool b2], .int .i64 (pkE F N2 z2)]) ∧ (pkE F N2 z2 = 0 → pn = ((wkA F (nmL N2) N2.length : Nat) : Int) ∧ pl = last ∧ m2 = N.length ∧ b2 = dd ∧ IsNm w' a2 N.length (nmL N)) ∧ (pkE F N2 z2 ≠ 0 → pn = 0 ∧ pl = ⟨#[]⟩ ∧ m2 = 0 ∧ b2 = false) ∧ Below W.heap.size W w' := by
  obtain ⟨h0, hl2⟩ := spl_prs hp hs
  by_cases hz : z2 = 0
  · subst hz
    obtain ⟨rfl, rfl⟩ := h0 rfl
    obtain ⟨k, l, zz, st, hM⟩ := h.namedAll N2 hl2 true
    by_cases he : pkE F N2 0 = 0
    · have he' : lkE F N2 true 0 = 0 := by rw [← pkE_lk]; exact he
      have hn : lkN F N2 true 0 = ((wkA F (nmL N2) N2.length : Nat) : Int) := by unfold lkN; rw [if_pos he']
      rw [hn, he'] at hM
      rw [he]
      refine (parent_ok x s last N N2 dd i hp hs _ k l zz st W hM).mono ?_
      rintro e w' ⟨a2, c2, rfl, hnm, hb⟩
      exact ⟨a2, N.length, c2, dd, _, _, rfl, fun _ => ⟨rfl, rfl, rfl, rfl, hnm⟩, fun q => absurd rfl q, hb⟩
    · rw [← pkE_lk] at hM
      refine (parent_err2 x s last N2 hs _ k l zz _ he st W hM).mono ?_
      rintro e w' ⟨rfl, hb⟩
      exact ⟨none, 0, 0, false, 0, ⟨#[]⟩, rfl, fun q => absurd q he, fun _ => ⟨rfl, rfl, rfl, rfl⟩, hb⟩
  · have he : pkE F N2 z2 = z2 := by unfold pkE; rw [if_pos hz]
    rw [he]
    refine (parent_err1 x s last N2 d2 z2 hz hs W).mono ?_
    rintro e w' ⟨rfl, hb⟩
    exact ⟨none, 0, 0, false, 0, ⟨#[]⟩, rfl, fun q => absurd q hz, fun _ => ⟨rfl, rfl, rfl, rfl⟩, hb⟩
end
end Go.Proofs.YtojnlmfahgeidaaGreatDoor

namespace Go.Proofs.YtojnlmfahgeidaaGreatDoor
open Go Go.RowKit
set_option linter.unusedSimpArgs false
set_option linter.unusedVariables false
/-- a slice of numbers -/
def IsI (w : World) (a : Option Addr) (m : Nat) (f : Nat → Nat) : Prop := ∀ j, j < m → ∃ b o, a = some ⟨b, o, none⟩ ∧ b < w.heap.size ∧ w.cell? ⟨b, o + j, none⟩ = some (.int .i64 ((f j : Nat) : Int))
theorem IsI.below {w w' : World} {a : Option Addr} {m : Nat} {f : Nat → Nat} (h : IsI w a m f) (hb : Below w.heap.size w w') : IsI w' a m f := fun j hj => by
  obtain ⟨b, o, h1, h2, h3⟩ := h j hj
  exact ⟨b, o, h1, Nat.lt_of_lt_of_le h2 hb.size, (hb.cell (p := ⟨b, o + j, none⟩) h2).trans h3⟩
theorem own_isI {w : World} {B e m : Nat} {v : Value} {f : Nat → Nat} (h : w.ownsRow B e 1 v m ((List.range m).map fun j => .int .i64 ((f j : Nat) : Int))) : ∃ a c, v = .slice a m c ∧ IsI w a m f := by
  obtain ⟨a, c, rfl⟩ := kown_slice h
  refine ⟨a, c, rfl, fun j hj => ?_⟩
  obtain ⟨g, cap', hv, hg1, hg2⟩ := kown_form h (by omega)
  injection hv with hv1 hv2 hv3
  subst hv1
  refine ⟨g, 0, rfl, hg2, ?_⟩
  subst hv3
  rw [Nat.zero_add, h.cellAt j (by omega)]
  simp [hj]
end Go.Proofs.YtojnlmfahgeidaaGreatDoor
