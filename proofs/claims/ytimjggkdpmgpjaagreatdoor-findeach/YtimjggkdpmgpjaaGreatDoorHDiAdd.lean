/- Directories: Add. -/
import Derived.Test.YtimjggkdpmgpjaaGreatDoorHCaKit
import Derived.Test.YtimjggkdpmgpjaaGreatDoorHMathCount
import Derived.Test.YtimjggkdpmgpjaaGreatDoorHDkWrite
import Derived.Deep.DeepCutAuto
import Derived.Deep.Cut
import Derived.Handy
import Derived.Test.YtimjggkdpmgpjaaGreatDoorHIntMap
import Derived.Test.YtimjggkdpmgpjaaGreatDoorHNdKit

namespace Go.Proofs.YtimjggkdpmgpjaaGreatDoor
open Go Go.RowKit
set_option linter.unusedSimpArgs false
set_option linter.unusedVariables false

/-- a block's digest -/
def dgB (f : Nat → Nat) : Vector Nat 32 := sumD (sumOf (1, strN f 256))
set_option maxRecDepth 100000 in
set_option maxHeartbeats 4000000 in
theorem mayBeRoom_ok (x : Int) (h0 : 0 ≤ x) (h1 : x ≤ 4096) (w : World) : Calls Tryz.prog 39 #[.int .i64 x] w fun e w' => e = .returned (.bool true) ∧ w = w' := by
  go_enter Tryz.func39, Tryz.ntmps39
  go_wp2_with fail
  go_ret
  exact ⟨rfl, rfl⟩
/-- no entries: the cells of their holder -/
def esC (m : Nat) : Array Value := #[.map (some m), .pointer none, .pointer none]
theorem sizeEs : (Tryz.prog.info? 121).map (·.size) = some 3 := by kernel_rfl
set_option maxRecDepth 100000 in
set_option maxHeartbeats 4000000 in
theorem caNone_any (w : World) : Calls Tryz.prog 40 #[] w fun e w' => ∃ m, e = .returned (.agg (esC m)) ∧ w.heap.size ≤ m ∧ MapIs rfV ptV w' m [] ∧ Below w.heap.size w w' := by
  have hmm := @run_makeMap Tryz.prog
  go_enter Tryz.func40, Tryz.ntmps40
  go_wp2_with fail
  try simp only [Exit.inBlock, Exit.then]
  refine bodyPost_ret (results_cell_row Tryz.results40 _ _ w.heap.size 121 (esC (w.heap.size + 1)) (0, 0) _ rfl ((Blk.new _ _ _).alloc _) Tryz.underlying121 rfl (sizeEs.trans (by rfl))) rfl ?_
  refine ⟨_, rfl, Nat.le_succ _, ⟨#[], 0, ?_, rfl⟩, below_new2 _ _ _⟩
  have := heap_alloc_new (w.alloc (Obj.cells (esC (w.heap.size + 1)) 121)) (Obj.map #[] 0)
  rw [show (w.alloc (Obj.cells (esC (w.heap.size + 1)) 121)).heap.size = w.heap.size + 1 by simp] at this
  exact this
set_option maxRecDepth 100000 in
set_option maxHeartbeats 4000000 in
theorem caNew_ok (g : Nat) (lp : Option Addr) (room : Int) (h0 : 0 ≤ room) (h1 : room ≤ 4096) (w : World) : Calls Tryz.prog 20 #[.pointer (some ⟨g, 0, none⟩), .pointer lp, .int .i64 room] w fun e w' => ∃ c m, e = .returned (.tuple #[.pointer (some ⟨c, 0, none⟩), .int .i64 0]) ∧ (w.heap.size ≤ c ∧ w.heap.size ≤ m) ∧ Blk w' c 126 (caC (some ⟨g, 0, none⟩) lp room m none none 0 0 0 0) ∧ MapIs rfV ptV w' m [] ∧ Below w.heap.size w w' := by
  have hR : Hid (∀ w : World, Calls Tryz.prog 39 #[.int .i64 room] w fun e w' => e = .returned (.bool true) ∧ w = w') := mayBeRoom_ok room h0 h1
  have hN : Hid (∀ w : World, Calls Tryz.prog 40 #[] w fun e w' => ∃ m, e = .returned (.agg #[.map (some m), .pointer none, .pointer none]) ∧ w.heap.size ≤ m ∧ MapIs rfV ptV w' m [] ∧ Below w.heap.size w w') := caNone_any
  clear h0 h1
  go_enter Tryz.func20, Tryz.ntmps20
  go_wp2_with fail
  refine (hR.out _).mono ?_
  rintro e _ ⟨rfl, rfl⟩
  go_wp2_with fail
  refine (hN.out _).mono ?_
  rintro e w1 ⟨m, rfl, hm, hmap, hb1⟩
  have HM : Hid (MapIs rfV ptV w1 m []) := hmap
  clear hmap
  go_wp2_with fail
  try simp only [Exit.inBlock, Exit.then]
  refine bodyPost_ret (results_tmp2 Tryz.results20 _ _ _) rfl ?_
  have hb2 : Below w1.heap.size w1 (w1.alloc (.cells (caC (some ⟨g, 0, none⟩) lp room m none none 0 0 0 0) 126)) := below_new1 _ _
  exact ⟨w1.heap.size, m, rfl, ⟨hb1.size, hm⟩, Blk.new _ _ _, HM.out.below hb2 (by
    obtain ⟨es, cl, hg, _⟩ := HM.out
    exact (Array.getElem?_eq_some_iff.1 hg).1), hb1.trans (hb2.mono hb1.size)⟩
end Go.Proofs.YtimjggkdpmgpjaaGreatDoor

namespace Go.Proofs.YtimjggkdpmgpjaaGreatDoor
open Go Go.RowKit
set_option linter.unusedSimpArgs false
set_option linter.unusedVariables false

theorem MapIs.lt {α β : Type} {K : α → Value} {V : β → Value} {w : World} {r : Nat} {l : List (α × β)} (h : MapIs K V w r l) : r < w.heap.size := by
  obtain ⟨es, cl, hg, _⟩ := h
  exact (Array.getElem?_eq_some_iff.1 hg).1
theorem MapIs.of {α β : Type} {K : α → Value} {V : β → Value} {w w' : World} {r : Nat} {l : List (α × β)} (h : MapIs K V w r l) (hk : w'.heap[r]? = w.heap[r]?) : MapIs K V w' r l := by
  obtain ⟨es, cl, hg, he⟩ := h
  exact ⟨es, cl, hk.trans hg, he⟩
theorem MapIs.ne {α β : Type} {K : α → Value} {V : β → Value} {w : World} {r b t : Nat} {cs : Array Value} {l : List (α × β)} (h : MapIs K V w r l) (hb : Blk w b t cs) : r ≠ b := fun e => by
  obtain ⟨es, cl, hg, _⟩ := h
  subst e
  have := hg.symm.trans hb
  simp at this
theorem map_len {w : World} {m : Nat} {l : List (Rf × Nat)} (h : MapIs rfV ptV w m l) (ty : TypeId) : (Builtin.len_ #[118] ty #[.map (some m)]).run Tryz.prog w = .ok (.int .i64 (l.length : Int)) w := by
  obtain ⟨es, cl, hg, he⟩ := h
  have hgo : (getObj m).run Tryz.prog w = .ok (.map es cl) w := by simp [getObj, Sem.run, hg]
  have hl : es.size = l.length := by
    have := congrArg List.length he
    simpa using this
  simp [Builtin.len_, run_underlying Tryz.underlying118, hgo, goInt, hl]
section
variable {c m : Nat} {dp lp o n : Option Addr} {room h r bd cn : Int}
end
end Go.Proofs.YtimjggkdpmgpjaaGreatDoor

namespace Go.Proofs.YtimjggkdpmgpjaaGreatDoor
open Go Go.RowKit
set_option linter.unusedSimpArgs false
set_option linter.unusedVariables false
section
variable {w : World} {x mf ml mc : Nat} {cp : Option Addr} {top : Int} {H : Nat → Hd} {D : Nat → Nat → Nat → Nat} {n k st : Nat} {N : Nat → Int} {S : Nat → ByteArray}
set_option maxRecDepth 100000 in
set_option maxHeartbeats 4000000 in
theorem IM.addEnc (h : IM w x mf ml mc cp top H D) (hd : Di H D n k st N S) (i : Int) (s : ByteArray) (hi : encE i s ≠ 0) (t : Int) : Calls Tryz.prog 24 #[.pointer (some ⟨x, 0, none⟩), .int .i64 (n : Int), .agg #[.int .i64 i, .string s], .int .u64 t] w fun e w' => e = .returned (.int .i64 (encE i s)) ∧ Below w.heap.size w w' := by
  have HDR : Hid (∀ V, Below w.heap.size w V → Calls Tryz.prog 48 #[.pointer (some ⟨x, 0, none⟩), .int .i64 (n : Int)] V fun e w' => e = .returned (.tuple #[.agg (nfC (n : Int) 2 (H n).l ((64 * k : Nat) : Int) st), .int .i64 0]) ∧ Below V.heap.size V w') := fun V hV => (h.below hV).dirD hd
  have hzi : ∀ w, (zeroValue 40).run Tryz.prog w = .ok (.agg nf0) w := zero_nf
  have HEN : Hid (∀ V : World, Calls Tryz.prog 49 #[.agg #[.int .i64 i, .string s]] V fun e w' => e = .returned (.tuple #[.string (encT i s), .int .i64 (encE i s)]) ∧ Below V.heap.size V w') := fun V => encode_any i s V
  have b0 : (encE i s != 0) = true := bne_iff_ne.2 hi
  generalize encE i s = ee at *
  clear hi
  have HB1 : Hid (Below w.heap.size w (w.alloc (.cells #[.int .i64 i, .string s] 54)) ∧ Blk (w.alloc (.cells #[.int .i64 i, .string s] 54)) w.heap.size 54 #[.int .i64 i, .string s]) := ⟨below_new1 _ _, Blk.new _ _ _⟩
  clear h hd
  generalize (H n).l = l at *
  generalize ((64 * k : Nat) : Int) = z at *
  go_enter Tryz.func24, Tryz.ntmps24
  go_wp2_with fail
  generalize (w.alloc (.cells #[.int .i64 i, .string s] 54)) = w1 at *
  refine (HDR.out w1 HB1.out.1).mono ?_
  rintro e w2 ⟨rfl, hb2⟩
  have u1 : Blk (w2.alloc (.cells nf0 40)) w2.heap.size 40 nf0 := Blk.new _ _ _
  have u2 := u1.set (nfC (n : Int) 2 l z st)
  have p2 : Blk ((w2.alloc (.cells nf0 40)).setRow w2.heap.size (nfC (n : Int) 2 l z st)) w.heap.size 54 #[.int .i64 i, .string s] := ((HB1.out.2.below hb2 HB1.out.2.lt).alloc _).other _ (by have := (HB1.out.2.below hb2 HB1.out.2.lt).lt; omega)
  have hb12 := HB1.out.1.trans (hb2.mono HB1.out.1.size)
  have hb3 : Below w.heap.size w ((w2.alloc (.cells nf0 40)).setRow w2.heap.size (nfC (n : Int) 2 l z st)) := below_setRow (hb12.alloc hb12.size _) hb12.size _
  have l0 : ((w2.alloc (.cells nf0 40)).setRow w2.heap.size (nfC (n : Int) 2 l z st)).cell? ⟨w.heap.size, 0, none⟩ = some (.int .i64 i) := (p2.cell 0).trans rfl
  have l1 : ((w2.alloc (.cells nf0 40)).setRow w2.heap.size (nfC (n : Int) 2 l z st)).cell? ⟨w.heap.size, 1, none⟩ = some (.string s) := (p2.cell 1).trans rfl
  have HB3 : Hid (Below w.heap.size w ((w2.alloc (.cells nf0 40)).setRow w2.heap.size (nfC (n : Int) 2 l z st)) ∧ Blk ((w2.alloc (.cells nf0 40)).setRow w2.heap.size (nfC (n : Int) 2 l z st)) w.heap.size 54 #[.int .i64 i, .string s] ∧ Blk ((w2.alloc (.cells nf0 40)).setRow w2.heap.size (nfC (n : Int) 2 l z st)) w2.heap.size 40 (nfC (n : Int) 2 l z st)) := ⟨hb3, p2, u2⟩
  clear hb2 hb12 hb3 p2 u2 HB1 HDR
  go_wp2_with (first
    | (refine wpList_store_row (by rfl) 40 _ _ (by rfl) (w2.heap.size) (nfC (n : Int) 2 l z st) (by rfl) (by rfl) 40 (nf0) (by exact u1) (size_nf.trans (by rfl)) (by rfl) (nf_all _ _ _ _ _) ?_; simp only [Act.put, List.setIfInBounds_toArray, List.set_cons_zero, List.set_cons_succ])
    | fail)
  clear u1 l0 l1
  generalize ((w2.alloc (.cells nf0 40)).setRow w2.heap.size (nfC (n : Int) 2 l z st)) = w3 at *
  refine (HEN.out _).mono ?_
  rintro e w4 ⟨rfl, hb4⟩
  have HB4 : Hid (Below w.heap.size w w4 ∧ Blk w4 w.heap.size 54 #[.int .i64 i, .string s] ∧ Blk w4 w2.heap.size 40 (nfC (n : Int) 2 l z st)) := ⟨HB3.out.1.trans (hb4.mono HB3.out.1.size), HB3.out.2.1.below hb4 HB3.out.2.1.lt, HB3.out.2.2.below hb4 HB3.out.2.2.lt⟩
  have u4 := HB4.out.2.2
  have l1 : w4.cell? ⟨w.heap.size, 1, none⟩ = some (.string s) := (HB4.out.2.1.cell 1).trans rfl
  clear hb4 HB3 HEN
  go_wp2_with fail
  go_ret
  exact ⟨rfl, HB4.out.1⟩
set_option maxRecDepth 100000 in
set_option maxHeartbeats 4000000 in
theorem IM.addThere (h : IM w x mf ml mc cp top H D) (hd : Di H D n k st N S) (i : Int) (s : ByteArray) (hi : encE i s = 0) (p : Nat) (hp : FirstN S k p s) (hpk : p < k) (t : Int) : Calls Tryz.prog 24 #[.pointer (some ⟨x, 0, none⟩), .int .i64 (n : Int), .agg #[.int .i64 i, .string s], .int .u64 t] w fun e w' => e = .returned (.int .i64 172) ∧ Below w.heap.size w w' := by
  obtain ⟨r0, hr⟩ : ∃ r0 : Int, r0 = if p < k then (p : Int) else 0 := ⟨_, rfl⟩
  obtain ⟨er, her⟩ : ∃ er : Int, er = if p < k then 0 else 171 := ⟨_, rfl⟩
  have HDR : Hid (∀ V, Below w.heap.size w V → Calls Tryz.prog 48 #[.pointer (some ⟨x, 0, none⟩), .int .i64 (n : Int)] V fun e w' => e = .returned (.tuple #[.agg (nfC (n : Int) 2 (H n).l ((64 * k : Nat) : Int) st), .int .i64 0]) ∧ Below V.heap.size V w') := fun V hV => (h.below hV).dirD hd
  have hzi : ∀ w, (zeroValue 40).run Tryz.prog w = .ok (.agg nf0) w := zero_nf
  have HEN : Hid (∀ V : World, Calls Tryz.prog 49 #[.agg #[.int .i64 i, .string s]] V fun e w' => e = .returned (.tuple #[.string (encT i s), .int .i64 0]) ∧ Below V.heap.size V w') := fun V => by
    have := encode_any i s V
    rw [hi] at this
    exact this
  have HSE : Hid (∀ V, Below w.heap.size w V → Calls Tryz.prog 50 #[.pointer (some ⟨x, 0, none⟩), .agg (nfC (n : Int) 2 (H n).l ((64 * k : Nat) : Int) st), .string s] V fun e w' => ∃ v, e = .returned (.tuple #[.int .i64 r0, v, .int .i64 er]) ∧ w'.ownsRow V.heap.size 54 2 v (inLf k (lastQ k p)) (lkL (shN N (lastQ k p)) (shS S (lastQ k p)) (inLf k (lastQ k p))) ∧ Below V.heap.size V w') := fun V hV => (h.below hV).search hd (H n).l s p hp r0 er hr her
  rw [if_pos hpk] at her
  subst her
  clear hr
  have HB1 : Hid (Below w.heap.size w (w.alloc (.cells #[.int .i64 i, .string s] 54)) ∧ Blk (w.alloc (.cells #[.int .i64 i, .string s] 54)) w.heap.size 54 #[.int .i64 i, .string s]) := ⟨below_new1 _ _, Blk.new _ _ _⟩
  clear h hd
  generalize (H n).l = l at *
  generalize ((64 * k : Nat) : Int) = z at *
  go_enter Tryz.func24, Tryz.ntmps24
  go_wp2_with fail
  generalize (w.alloc (.cells #[.int .i64 i, .string s] 54)) = w1 at *
  refine (HDR.out w1 HB1.out.1).mono ?_
  rintro e w2 ⟨rfl, hb2⟩
  have u1 : Blk (w2.alloc (.cells nf0 40)) w2.heap.size 40 nf0 := Blk.new _ _ _
  have u2 := u1.set (nfC (n : Int) 2 l z st)
  have p2 : Blk ((w2.alloc (.cells nf0 40)).setRow w2.heap.size (nfC (n : Int) 2 l z st)) w.heap.size 54 #[.int .i64 i, .string s] := ((HB1.out.2.below hb2 HB1.out.2.lt).alloc _).other _ (by have := (HB1.out.2.below hb2 HB1.out.2.lt).lt; omega)
  have hb12 := HB1.out.1.trans (hb2.mono HB1.out.1.size)
  have hb3 : Below w.heap.size w ((w2.alloc (.cells nf0 40)).setRow w2.heap.size (nfC (n : Int) 2 l z st)) := below_setRow (hb12.alloc hb12.size _) hb12.size _
  have l0 : ((w2.alloc (.cells nf0 40)).setRow w2.heap.size (nfC (n : Int) 2 l z st)).cell? ⟨w.heap.size, 0, none⟩ = some (.int .i64 i) := (p2.cell 0).trans rfl
  have l1 : ((w2.alloc (.cells nf0 40)).setRow w2.heap.size (nfC (n : Int) 2 l z st)).cell? ⟨w.heap.size, 1, none⟩ = some (.string s) := (p2.cell 1).trans rfl
  have HB3 : Hid (Below w.heap.size w ((w2.alloc (.cells nf0 40)).setRow w2.heap.size (nfC (n : Int) 2 l z st)) ∧ Blk ((w2.alloc (.cells nf0 40)).setRow w2.heap.size (nfC (n : Int) 2 l z st)) w.heap.size 54 #[.int .i64 i, .string s] ∧ Blk ((w2.alloc (.cells nf0 40)).setRow w2.heap.size (nfC (n : Int) 2 l z st)) w2.heap.size 40 (nfC (n : Int) 2 l z st)) := ⟨hb3, p2, u2⟩
  clear hb2 hb12 hb3 p2 u2 HB1 HDR
  go_wp2_with (first
    | (refine wpList_store_row (by rfl) 40 _ _ (by rfl) (w2.heap.size) (nfC (n : Int) 2 l z st) (by rfl) (by rfl) 40 (nf0) (by exact u1) (size_nf.trans (by rfl)) (by rfl) (nf_all _ _ _ _ _) ?_; simp only [Act.put, List.setIfInBounds_toArray, List.set_cons_zero, List.set_cons_succ])
    | fail)
  clear u1 l0 l1
  generalize ((w2.alloc (.cells nf0 40)).setRow w2.heap.size (nfC (n : Int) 2 l z st)) = w3 at *
  refine (HEN.out _).mono ?_
  rintro e w4 ⟨rfl, hb4⟩
  have HB4 : Hid (Below w.heap.size w w4 ∧ Blk w4 w.heap.size 54 #[.int .i64 i, .string s] ∧ Blk w4 w2.heap.size 40 (nfC (n : Int) 2 l z st)) := ⟨HB3.out.1.trans (hb4.mono HB3.out.1.size), HB3.out.2.1.below hb4 HB3.out.2.1.lt, HB3.out.2.2.below hb4 HB3.out.2.2.lt⟩
  have u4 := HB4.out.2.2
  have l1 : w4.cell? ⟨w.heap.size, 1, none⟩ = some (.string s) := (HB4.out.2.1.cell 1).trans rfl
  clear hb4 HB3 HEN
  go_wp2_with (first
    | (refine wpList_load_row (by rfl) 40 _ (by rfl) (w2.heap.size) (by rfl) 40 (nfC (n : Int) 2 l z st) (0, 0) _ (by exact u4) Tryz.underlying40 (by rfl) (size_nf.trans (by rfl)) ?_; simp only [Act.put, List.setIfInBounds_toArray, List.set_cons_zero, List.set_cons_succ])
    | fail)
  refine (HSE.out w4 HB4.out.1).mono ?_
  rintro e w5 ⟨v, rfl, hv5, hb5⟩
  have HB5 : Hid (Below w.heap.size w w5 ∧ Blk w5 w.heap.size 54 #[.int .i64 i, .string s] ∧ Blk w5 w2.heap.size 40 (nfC (n : Int) 2 l z st) ∧ w5.ownsRow w.heap.size 54 2 v (inLf k (lastQ k p)) (lkL (shN N (lastQ k p)) (shS S (lastQ k p)) (inLf k (lastQ k p)))) := ⟨HB4.out.1.trans (hb5.mono HB4.out.1.size), HB4.out.2.1.below hb5 HB4.out.2.1.lt, HB4.out.2.2.below hb5 HB4.out.2.2.lt, kown_mono hv5 HB4.out.1.size⟩
  have u5 := HB5.out.2.2.1
  clear hb5 hv5 HB4 HSE u4 l1
  go_wp2_with fail
  go_ret
  exact ⟨rfl, HB5.out.1⟩
set_option maxRecDepth 100000 in
set_option maxHeartbeats 4000000 in
theorem IM.addFull (h : IM w x mf ml mc cp top H D) (hd : Di H D n k st N S) (i : Int) (s : ByteArray) (hi : encE i s = 0) (p : Nat) (hp : FirstN S k p s) (hpk : ¬ p < k) (hk : k = 16384) (t : Int) : Calls Tryz.prog 24 #[.pointer (some ⟨x, 0, none⟩), .int .i64 (n : Int), .agg #[.int .i64 i, .string s], .int .u64 t] w fun e w' => e = .returned (.int .i64 173) ∧ Below w.heap.size w w' := by
  obtain ⟨r0, hr⟩ : ∃ r0 : Int, r0 = if p < k then (p : Int) else 0 := ⟨_, rfl⟩
  obtain ⟨er, her⟩ : ∃ er : Int, er = if p < k then 0 else 171 := ⟨_, rfl⟩
  have HDR : Hid (∀ V, Below w.heap.size w V → Calls Tryz.prog 48 #[.pointer (some ⟨x, 0, none⟩), .int .i64 (n : Int)] V fun e w' => e = .returned (.tuple #[.agg (nfC (n : Int) 2 (H n).l ((64 * k : Nat) : Int) st), .int .i64 0]) ∧ Below V.heap.size V w') := fun V hV => (h.below hV).dirD hd
  have hzi : ∀ w, (zeroValue 40).run Tryz.prog w = .ok (.agg nf0) w := zero_nf
  have HEN : Hid (∀ V : World, Calls Tryz.prog 49 #[.agg #[.int .i64 i, .string s]] V fun e w' => e = .returned (.tuple #[.string (encT i s), .int .i64 0]) ∧ Below V.heap.size V w') := fun V => by
    have := encode_any i s V
    rw [hi] at this
    exact this
  have HSE : Hid (∀ V, Below w.heap.size w V → Calls Tryz.prog 50 #[.pointer (some ⟨x, 0, none⟩), .agg (nfC (n : Int) 2 (H n).l ((64 * k : Nat) : Int) st), .string s] V fun e w' => ∃ v, e = .returned (.tuple #[.int .i64 r0, v, .int .i64 er]) ∧ w'.ownsRow V.heap.size 54 2 v (inLf k (lastQ k p)) (lkL (shN N (lastQ k p)) (shS S (lastQ k p)) (inLf k (lastQ k p))) ∧ Below V.heap.size V w') := fun V hV => (h.below hV).search hd (H n).l s p hp r0 er hr her
  have HCT : Hid (∀ V : World, Calls Tryz.prog 51 #[.agg (nfC (n : Int) 2 (H n).l ((64 * k : Nat) : Int) st)] V fun e w' => e = .returned (.int .i64 (k : Int)) ∧ Below V.heap.size V w') := count_any (n : Int) 2 (H n).l k st hd.le
  have k1 : (16384 : Int) ≤ (k : Int) := by omega
  rw [if_neg hpk] at her
  subst her
  clear hr hk
  have HB1 : Hid (Below w.heap.size w (w.alloc (.cells #[.int .i64 i, .string s] 54)) ∧ Blk (w.alloc (.cells #[.int .i64 i, .string s] 54)) w.heap.size 54 #[.int .i64 i, .string s]) := ⟨below_new1 _ _, Blk.new _ _ _⟩
  clear h hd
  generalize (H n).l = l at *
  generalize ((64 * k : Nat) : Int) = z at *
  go_enter Tryz.func24, Tryz.ntmps24
  go_wp2_with fail
  generalize (w.alloc (.cells #[.int .i64 i, .string s] 54)) = w1 at *
  refine (HDR.out w1 HB1.out.1).mono ?_
  rintro e w2 ⟨rfl, hb2⟩
  have u1 : Blk (w2.alloc (.cells nf0 40)) w2.heap.size 40 nf0 := Blk.new _ _ _
  have u2 := u1.set (nfC (n : Int) 2 l z st)
  have p2 : Blk ((w2.alloc (.cells nf0 40)).setRow w2.heap.size (nfC (n : Int) 2 l z st)) w.heap.size 54 #[.int .i64 i, .string s] := ((HB1.out.2.below hb2 HB1.out.2.lt).alloc _).other _ (by have := (HB1.out.2.below hb2 HB1.out.2.lt).lt; omega)
  have hb12 := HB1.out.1.trans (hb2.mono HB1.out.1.size)
  have hb3 : Below w.heap.size w ((w2.alloc (.cells nf0 40)).setRow w2.heap.size (nfC (n : Int) 2 l z st)) := below_setRow (hb12.alloc hb12.size _) hb12.size _
  have l0 : ((w2.alloc (.cells nf0 40)).setRow w2.heap.size (nfC (n : Int) 2 l z st)).cell? ⟨w.heap.size, 0, none⟩ = some (.int .i64 i) := (p2.cell 0).trans rfl
  have l1 : ((w2.alloc (.cells nf0 40)).setRow w2.heap.size (nfC (n : Int) 2 l z st)).cell? ⟨w.heap.size, 1, none⟩ = some (.string s) := (p2.cell 1).trans rfl
  have HB3 : Hid (Below w.heap.size w ((w2.alloc (.cells nf0 40)).setRow w2.heap.size (nfC (n : Int) 2 l z st)) ∧ Blk ((w2.alloc (.cells nf0 40)).setRow w2.heap.size (nfC (n : Int) 2 l z st)) w.heap.size 54 #[.int .i64 i, .string s] ∧ Blk ((w2.alloc (.cells nf0 40)).setRow w2.heap.size (nfC (n : Int) 2 l z st)) w2.heap.size 40 (nfC (n : Int) 2 l z st)) := ⟨hb3, p2, u2⟩
  clear hb2 hb12 hb3 p2 u2 HB1 HDR
  go_wp2_with (first
    | (refine wpList_store_row (by rfl) 40 _ _ (by rfl) (w2.heap.size) (nfC (n : Int) 2 l z st) (by rfl) (by rfl) 40 (nf0) (by exact u1) (size_nf.trans (by rfl)) (by rfl) (nf_all _ _ _ _ _) ?_; simp only [Act.put, List.setIfInBounds_toArray, List.set_cons_zero, List.set_cons_succ])
    | fail)
  clear u1 l0 l1
  generalize ((w2.alloc (.cells nf0 40)).setRow w2.heap.size (nfC (n : Int) 2 l z st)) = w3 at *
  refine (HEN.out _).mono ?_
  rintro e w4 ⟨rfl, hb4⟩
  have HB4 : Hid (Below w.heap.size w w4 ∧ Blk w4 w.heap.size 54 #[.int .i64 i, .string s] ∧ Blk w4 w2.heap.size 40 (nfC (n : Int) 2 l z st)) := ⟨HB3.out.1.trans (hb4.mono HB3.out.1.size), HB3.out.2.1.below hb4 HB3.out.2.1.lt, HB3.out.2.2.below hb4 HB3.out.2.2.lt⟩
  have u4 := HB4.out.2.2
  have l1 : w4.cell? ⟨w.heap.size, 1, none⟩ = some (.string s) := (HB4.out.2.1.cell 1).trans rfl
  clear hb4 HB3 HEN
  go_wp2_with (first
    | (refine wpList_load_row (by rfl) 40 _ (by rfl) (w2.heap.size) (by rfl) 40 (nfC (n : Int) 2 l z st) (0, 0) _ (by exact u4) Tryz.underlying40 (by rfl) (size_nf.trans (by rfl)) ?_; simp only [Act.put, List.setIfInBounds_toArray, List.set_cons_zero, List.set_cons_succ])
    | fail)
  refine (HSE.out w4 HB4.out.1).mono ?_
  rintro e w5 ⟨v, rfl, hv5, hb5⟩
  have HB5 : Hid (Below w.heap.size w w5 ∧ Blk w5 w.heap.size 54 #[.int .i64 i, .string s] ∧ Blk w5 w2.heap.size 40 (nfC (n : Int) 2 l z st) ∧ w5.ownsRow w.heap.size 54 2 v (inLf k (lastQ k p)) (lkL (shN N (lastQ k p)) (shS S (lastQ k p)) (inLf k (lastQ k p)))) := ⟨HB4.out.1.trans (hb5.mono HB4.out.1.size), HB4.out.2.1.below hb5 HB4.out.2.1.lt, HB4.out.2.2.below hb5 HB4.out.2.2.lt, kown_mono hv5 HB4.out.1.size⟩
  have u5 := HB5.out.2.2.1
  clear hb5 hv5 HB4 HSE u4 l1
  go_wp2_with (first
    | (refine wpList_load_row (by rfl) 40 _ (by rfl) (w2.heap.size) (by rfl) 40 (nfC (n : Int) 2 l z st) (0, 0) _ (by exact u5) Tryz.underlying40 (by rfl) (size_nf.trans (by rfl)) ?_; simp only [Act.put, List.setIfInBounds_toArray, List.set_cons_zero, List.set_cons_succ])
    | fail)
  refine (HCT.out _).mono ?_
  rintro e w6 ⟨rfl, hb6⟩
  have HB6 : Hid (Below w.heap.size w w6) := HB5.out.1.trans (hb6.mono HB5.out.1.size)
  clear hb6 HB5 u5
  go_wp2_with fail
  go_ret
  exact ⟨rfl, HB6.out⟩
end
end Go.Proofs.YtimjggkdpmgpjaaGreatDoor

namespace Go.Proofs.YtimjggkdpmgpjaaGreatDoor
open Go Go.RowKit
set_option linter.unusedSimpArgs false
set_option linter.unusedVariables false
section
variable {w : World} {x mf ml mc : Nat} {cp : Option Addr} {top : Int} {H : Nat → Hd} {D : Nat → Nat → Nat → Nat} {n k st : Nat} {N : Nat → Int} {S : Nat → ByteArray}
set_option maxRecDepth 100000 in
set_option maxHeartbeats 4000000 in
theorem IM.layD (h : IM w x mf ml mc cp top H D) (n q : Nat) (h1 : 1 ≤ n) (h2 : n ≤ 4096) (hk : (H n).k ≠ 0) (hn : (H n).n = (n : Int)) (sz st : Nat) (hs : (H n).s = (sz : Int)) (hsz : sz ≤ 1048576) (hq : q < (sz + 255) / 256) (a : Option Addr) (m c : Nat) (hm : m ≤ 4) (hI : IsLks w a m N S) (hE : leE N S m = 0) : Calls Tryz.prog 53 #[.pointer (some ⟨x, 0, none⟩), .int .i64 (n : Int), .int .i64 (q : Int), .slice a m c, .int .u64 ((st : Nat) : Int)] w fun e w' => e = .returned (.int .i64 0) ∧ IM w' x mf ml mc cp top (hU H n (hdT (hdS (H n)) st)) (dU D n q (upF (leF N S m) (sz - q * 256))) ∧ Turns (fun z => z = ml ∨ z = mf) w w' := by
  have hz := zero_bk
  have HL := leaf_any a m c hm N S w hI
  rw [hE, if_pos rfl] at HL
  unfold bkV at HL
  have HS : Hid (∀ V, Below w.heap.size w V → Calls Tryz.prog 89 #[.pointer (some ⟨x, 0, none⟩), .int .i64 (n : Int), .int .i64 (q : Int), .agg (va 256 (iv .u8 (leF N S m))), .int .u64 ((st : Nat) : Int)] V fun e w' => e = .returned (.int .i64 0) ∧ IM w' x mf ml mc cp top (hU H n (hdT (hdS (H n)) st)) (dU D n q (upF (leF N S m) (sz - q * 256))) ∧ Turns (fun z => z = ml ∨ z = mf) V w') := fun V hV => (h.below hV).setM n q h1 h2 hk hn sz st (leF N S m) hs hsz hq
  clear h hI hE hs hn hk
  generalize leF N S m = F at *
  go_enter Tryz.func53, Tryz.ntmps53
  go_wp2_with fail
  refine HL.mono ?_
  rintro e w2 ⟨rfl, hb2⟩
  have u1 : Blk (w2.alloc (.cells (va 256 (iv .u8 fun _ => 0)) 207)) w2.heap.size 207 (va 256 (iv .u8 fun _ => 0)) := Blk.new _ _ _
  have u2 : Blk ((w2.alloc (.cells (va 256 (iv .u8 fun _ => 0)) 207)).setRow w2.heap.size (va 256 (iv .u8 F))) w2.heap.size 207 (va 256 (iv .u8 F)) := u1.set _
  have hb3 : Below w.heap.size w ((w2.alloc (.cells (va 256 (iv .u8 fun _ => 0)) 207)).setRow w2.heap.size (va 256 (iv .u8 F))) := below_setRow (hb2.alloc hb2.size _) hb2.size _
  have H3 := HS.out _ hb3
  have HB3 : Hid (_ ) := hb3
  clear hb2 hb3 HS HL
  go_wp2_with (first
    | (refine wpList_store_row (by rfl) 207 _ _ (by rfl) (w2.heap.size) (va 256 (iv .u8 F)) (by rfl) (by rfl) 207 _ u1 (sizeBk.trans (by rw [va_size])) (by simp only [va_size]) (iv_one _ _ _) ?_; simp only [Act.put, List.setIfInBounds_toArray, List.set_cons_zero, List.set_cons_succ])
    | (refine wpList_load_row (by rfl) 207 _ (by rfl) (w2.heap.size) (by rfl) 207 (va 256 (iv .u8 F)) (0, 0) _ u2 Tryz.underlying207 (by rfl) (sizeBk.trans (by rw [va_size])) ?_; simp only [Act.put, List.setIfInBounds_toArray, List.set_cons_zero, List.set_cons_succ])
    | fail)
  generalize ((w2.alloc (.cells (va 256 (iv .u8 fun _ => 0)) 207)).setRow w2.heap.size (va 256 (iv .u8 F))) = w3 at *
  refine H3.mono ?_
  rintro e w4 ⟨rfl, hI4, ht4⟩
  have HE : Hid (_ ∧ _) := ⟨hI4, (Turns.bel (S := fun z => z = ml ∨ z = mf) HB3.out).tr ht4⟩
  clear hI4 ht4 H3 u1 u2
  go_wp2_with fail
  go_ret
  exact ⟨rfl, HE.out.1, HE.out.2⟩
end
end Go.Proofs.YtimjggkdpmgpjaaGreatDoor

namespace Go.Proofs.YtimjggkdpmgpjaaGreatDoor
open Go Go.RowKit
set_option linter.unusedSimpArgs false
set_option linter.unusedVariables false
theorem kownTurn {w w' : World} {T : Nat → Prop} {B e size n : Nat} {v : Value} {xs : List Value} (h : w.ownsRow B e size v n xs) (ht : Turns T w w') (hT : ∀ b, T b → b < B) : w'.ownsRow B e size v n xs := by
  refine ⟨h.1, ?_⟩
  rcases h.2 with hn | ⟨g, cap, cur, rfl, hg, hgg, rest⟩
  · exact .inl hn
  · refine .inr ⟨g, cap, cur, rfl, hg, (ht.block g (Array.getElem?_eq_some_iff.1 hgg).1 fun h => ?_).trans hgg, rest⟩
    have := hT g h
    omega
theorem IM.belowB {w w' : World} {x mf ml mc : Nat} {cp : Option Addr} {top : Int} {H : Nat → Hd} {D : Nat → Nat → Nat → Nat} (h : IM w x mf ml mc cp top H D) {B : Nat} (hb : Below B w w') (hB : x < B ∧ mf < B ∧ ml < B ∧ mc < B) : IM w' x mf ml mc cp top H D :=
  h.keep (hb.block _ hB.1) (hb.block _ hB.2.1) (hb.block _ hB.2.2.1) (hb.block _ hB.2.2.2)
/-- all other inodes are as they were -/
def OthD (H H' : Nat → Hd) (D D' : Nat → Nat → Nat → Nat) (n : Nat) : Prop := ∀ m, m ≠ n → H' m = H m ∧ D' m = D m
section
variable {w : World} {x mf ml mc : Nat} {cp : Option Addr} {top : Int} {H : Nat → Hd} {D : Nat → Nat → Nat → Nat} {n k st : Nat} {N : Nat → Int} {S : Nat → ByteArray}
theorem lkL_add (N : Nat → Int) (S : Nat → ByteArray) (k : Nat) (i : Int) (s : ByteArray) : lkL (shN N (k / 4)) (shS S (k / 4)) (k % 4) ++ [.int .i64 i, .string s] = lkL (shN (upN N k i) (k / 4)) (shS (upS S k s) (k / 4)) (k % 4 + 1) := by
  show _ = lkL (shN (upN N k i) (k / 4)) (shS (upS S k s) (k / 4)) (k % 4) ++ [.int .i64 (shN (upN N k i) (k / 4) (k % 4)), .string (shS (upS S k s) (k / 4) (k % 4))]
  congr 1
  · refine lkL_same fun p hp => ?_
    unfold shN shS upN upS
    rw [if_neg (by omega), if_neg (by omega)]
    exact ⟨rfl, rfl⟩
  · unfold shN shS upN upS
    rw [if_pos (by omega), if_pos (by omega)]
theorem leE_add (hd : Di H D n k st N S) (i : Int) (s : ByteArray) (hi : encE i s = 0) : leE (shN (upN N k i) (k / 4)) (shS (upS S k s) (k / 4)) (k % 4 + 1) = 0 := leE_all fun p hp => by
  unfold shN shS upN upS
  by_cases c : 4 * (k / 4) + p = k
  · rw [if_pos c, if_pos c]; exact hi
  · rw [if_neg c, if_neg c]; exact hd.ok _ (by omega)
set_option maxRecDepth 100000 in
set_option maxHeartbeats 8000000 in
theorem IM.addOk (h : IM w x mf ml mc cp top H D) (hd : Di H D n k st N S) (hk : k < 16384) (i : Int) (s : ByteArray) (hi : encE i s = 0) (hs : ∀ r, r < k → S r ≠ s) (st' : Nat) : Calls Tryz.prog 24 #[.pointer (some ⟨x, 0, none⟩), .int .i64 (n : Int), .agg #[.int .i64 i, .string s], .int .u64 ((st' : Nat) : Int)] w fun e w' => e = .returned (.int .i64 0) ∧ (∃ H' D', IM w' x mf ml mc cp top H' D' ∧ Di H' D' n (k + 1) st' (upN N k i) (upS S k s) ∧ OthD H H' D D' n) ∧ Turns (fun z => z = ml ∨ z = mf) w w' := by
  have hle := hd.le
  have hlts := h.lts
  obtain ⟨i0, hi0, hz0, hz1, hz2⟩ := info_parts infoLk
  have hzi : ∀ w, (zeroValue 40).run Tryz.prog w = .ok (.agg nf0) w := zero_nf
  have HEN : Hid (∀ V : World, Calls Tryz.prog 49 #[.agg #[.int .i64 i, .string s]] V fun e w' => e = .returned (.tuple #[.string (encT i s), .int .i64 0]) ∧ Below V.heap.size V w') := fun V => by
    have := encode_any i s V
    rw [hi] at this
    exact this
  have HDR : Hid (∀ V, Below w.heap.size w V → Calls Tryz.prog 48 #[.pointer (some ⟨x, 0, none⟩), .int .i64 (n : Int)] V fun e w' => e = .returned (.tuple #[.agg (nfC (n : Int) 2 (H n).l ((64 * k : Nat) : Int) st), .int .i64 0]) ∧ Below V.heap.size V w') := fun V hV => (h.below hV).dirD hd
  have HSE : Hid (∀ V, Below w.heap.size w V → Calls Tryz.prog 50 #[.pointer (some ⟨x, 0, none⟩), .agg (nfC (n : Int) 2 (H n).l ((64 * k : Nat) : Int) st), .string s] V fun e w' => ∃ v, e = .returned (.tuple #[.int .i64 0, v, .int .i64 171]) ∧ w'.ownsRow V.heap.size 54 2 v (inLf k (lastQ k k)) (lkL (shN N (lastQ k k)) (shS S (lastQ k k)) (inLf k (lastQ k k))) ∧ Below V.heap.size V w') := fun V hV => (h.below hV).search hd (H n).l s k ⟨Nat.le_refl _, hs, fun h => absurd h (by omega)⟩ 0 171 (by rw [if_neg (by omega)]) (by rw [if_neg (by omega)])
  have HCT : Hid (∀ V : World, Calls Tryz.prog 51 #[.agg (nfC (n : Int) 2 (H n).l ((64 * k : Nat) : Int) st)] V fun e w' => e = .returned (.int .i64 (k : Int)) ∧ Below V.heap.size V w') := count_any (n : Int) 2 (H n).l k st hd.le
  obtain ⟨y, hy⟩ : ∃ y, y = rsH (hdT (H n) st') (64 * k) (64 * (k + 1)) := ⟨_, rfl⟩
  have HRS : Hid (∀ V, Below w.heap.size w V → Calls Tryz.prog 52 #[.pointer (some ⟨x, 0, none⟩), .int .i64 (n : Int), .int .i64 ((64 * (k + 1) : Nat) : Int), .int .u64 ((st' : Nat) : Int)] V fun e w' => e = .returned (.int .i64 0) ∧ IM w' x mf ml mc cp top (hU H n y) (rsD D n (64 * (k + 1))) ∧ Turns (fun z => z = ml ∨ z = mf) V w') := fun V hV => by
    rw [hy]
    exact (h.below hV).resizeM n hd.n1 hd.n2 (64 * k) (64 * (k + 1)) st' hd.no hd.left hd.s (.inr ⟨hd.kd, by omega⟩) (by omega) (by omega) fun q j hj hz => hd.zero q j hj hz
  have hyp := rsH_parts (H n) st' (64 * k) (64 * (k + 1))
  rw [← hy] at hyp
  have HLY : Hid (∀ V, IM V x mf ml mc cp top (hU H n y) (rsD D n (64 * (k + 1))) → ∀ (a : Option Addr) (c : Nat), IsLks V a (k % 4 + 1) (shN (upN N k i) (k / 4)) (shS (upS S k s) (k / 4)) → Calls Tryz.prog 53 #[.pointer (some ⟨x, 0, none⟩), .int .i64 (n : Int), .int .i64 ((k / 4 : Nat) : Int), .slice a (k % 4 + 1) c, .int .u64 ((st' : Nat) : Int)] V fun e w' => e = .returned (.int .i64 0) ∧ (∃ H' D', IM w' x mf ml mc cp top H' D' ∧ Di H' D' n (k + 1) st' (upN N k i) (upS S k s) ∧ OthD H H' D D' n) ∧ Turns (fun z => z = ml ∨ z = mf) V w') := fun V hV a c hI => by
    have e : hU H n y n = y := hUat _ _ _
    have := hV.layD n (k / 4) hd.n1 hd.n2 (by rw [e, hyp.1, hd.kd]; decide) (by rw [e, hyp.2.1, hd.no]) (64 * (k + 1)) st' (by rw [e, hyp.2.2.1]) (by omega) (by omega) a (k % 4 + 1) c (by omega) hI (leE_add hd i s hi)
    refine this.mono ?_
    rintro e' w' ⟨rfl, hI', ht⟩
    refine ⟨rfl, ⟨_, _, hI', ?_, ?_⟩, ht⟩
    · rw [e]
      exact hd.add hk i s hi st' st' (64 * k) y hy
    · intro m hm
      refine ⟨by rw [hUnot _ _ _ _ hm, hUnot _ _ _ _ hm], by rw [dUnot _ _ _ _ _ hm, rsDnot _ _ _ _ hm]⟩
  have HOW : Hid (∀ (V : World) (B : Nat) (v : Value), V.ownsRow B 54 2 v (inLf k (lastQ k k)) (lkL (shN N (lastQ k k)) (shS S (lastQ k k)) (inLf k (lastQ k k))) → ¬ k % 4 = 0 → V.ownsRow B 54 2 v (k % 4) (lkL (shN N (k / 4)) (shS S (k / 4)) (k % 4))) := fun V B v hv h4 => by
    have e1 : lastQ k k = k / 4 := by unfold lastQ; omega
    have e2 : inLf k (k / 4) = k % 4 := by unfold inLf; omega
    rw [e1, e2] at hv
    exact hv
  have HLA : Hid (lkL (shN N (k / 4)) (shS S (k / 4)) (k % 4) ++ [.int .i64 i, .string s] = lkL (shN (upN N k i) (k / 4)) (shS (upS S k s) (k / 4)) (k % 4 + 1)) := lkL_add N S k i s
  have HX : Hid ((x < w.heap.size ∧ mf < w.heap.size ∧ ml < w.heap.size ∧ mc < w.heap.size) ∧ k % 4 < 4) := ⟨hlts, by omega⟩
  have k1 : (k : Int) < 16384 := by omega
  have hb1 : Below w.heap.size w (w.alloc (.cells #[.int .i64 i, .string s] 54)) := below_new1 _ _
  have p1 : Blk (w.alloc (.cells #[.int .i64 i, .string s] 54)) w.heap.size 54 #[.int .i64 i, .string s] := Blk.new _ _ _
  have HB1 : Hid (_ ∧ _) := ⟨hb1, p1⟩
  have ez : ((64 * k : Nat) : Int) + 64 = ((64 * (k + 1) : Nat) : Int) := by omega
  have zb : ((64 * k : Nat) : Int) ≤ 1048576 := by omega
  have zb0 : (0 : Int) ≤ ((64 * k : Nat) : Int) := by omega
  have eq4 : (k : Int) / 4 = ((k / 4 : Nat) : Int) := by omega
  have er4 : (k : Int) % 4 = ((k % 4 : Nat) : Int) := by omega
  clear h hd hi hs hy hyp hlts hb1 p1
  generalize (H n).l = l at *
  generalize ((64 * k : Nat) : Int) = z at *
  generalize ((64 * (k + 1) : Nat) : Int) = z2 at *
  obtain ⟨q, hq⟩ : ∃ q, q = k / 4 := ⟨_, rfl⟩
  obtain ⟨r, hr⟩ : ∃ r, r = k % 4 := ⟨_, rfl⟩
  rw [← hq] at eq4 HLY HOW HLA
  rw [← hr] at er4 HLY HOW HLA HX
  have r4 : (r : Int) < 4 := by omega
  clear hq hr
  go_enter Tryz.func24, Tryz.ntmps24
  go_wp2_with fail
  generalize (w.alloc (.cells #[.int .i64 i, .string s] 54)) = w1 at *
  refine (HDR.out w1 HB1.out.1).mono ?_
  rintro e w2 ⟨rfl, hb2⟩
  have u1 : Blk (w2.alloc (.cells nf0 40)) w2.heap.size 40 nf0 := Blk.new _ _ _
  have u2 := u1.set (nfC (n : Int) 2 l z st)
  have p2 : Blk ((w2.alloc (.cells nf0 40)).setRow w2.heap.size (nfC (n : Int) 2 l z st)) w.heap.size 54 #[.int .i64 i, .string s] := ((HB1.out.2.below hb2 HB1.out.2.lt).alloc _).other _ (by have := (HB1.out.2.below hb2 HB1.out.2.lt).lt; omega)
  have hb12 := HB1.out.1.trans (hb2.mono HB1.out.1.size)
  have hb3 : Below w.heap.size w ((w2.alloc (.cells nf0 40)).setRow w2.heap.size (nfC (n : Int) 2 l z st)) := below_setRow (hb12.alloc hb12.size _) hb12.size _
  have l0 : ((w2.alloc (.cells nf0 40)).setRow w2.heap.size (nfC (n : Int) 2 l z st)).cell? ⟨w.heap.size, 0, none⟩ = some (.int .i64 i) := (p2.cell 0).trans rfl
  have l1 : ((w2.alloc (.cells nf0 40)).setRow w2.heap.size (nfC (n : Int) 2 l z st)).cell? ⟨w.heap.size, 1, none⟩ = some (.string s) := (p2.cell 1).trans rfl
  have HB3 : Hid (_ ∧ _ ∧ _) := ⟨hb3, p2, u2⟩
  clear hb2 hb12 hb3 p2 u2 HB1 HDR
  go_wp2_with (first
    | (refine wpList_store_row (by rfl) 40 _ _ (by rfl) (w2.heap.size) (nfC (n : Int) 2 l z st) (by rfl) (by rfl) 40 (nf0) (by exact u1) (size_nf.trans (by rfl)) (by rfl) (nf_all _ _ _ _ _) ?_; simp only [Act.put, List.setIfInBounds_toArray, List.set_cons_zero, List.set_cons_succ])
    | fail)
  clear u1 l0 l1
  generalize ((w2.alloc (.cells nf0 40)).setRow w2.heap.size (nfC (n : Int) 2 l z st)) = w3 at *
  refine (HEN.out _).mono ?_
  rintro e w4 ⟨rfl, hb4⟩
  have HB4 : Hid (Below w.heap.size w w4 ∧ Blk w4 w.heap.size 54 #[.int .i64 i, .string s] ∧ Blk w4 w2.heap.size 40 (nfC (n : Int) 2 l z st)) := ⟨HB3.out.1.trans (hb4.mono HB3.out.1.size), HB3.out.2.1.below hb4 HB3.out.2.1.lt, HB3.out.2.2.below hb4 HB3.out.2.2.lt⟩
  have u4 := HB4.out.2.2
  have l1 : w4.cell? ⟨w.heap.size, 1, none⟩ = some (.string s) := (HB4.out.2.1.cell 1).trans rfl
  clear hb4 HB3 HEN
  go_wp2_with (first
    | (refine wpList_load_row (by rfl) 40 _ (by rfl) (w2.heap.size) (by rfl) 40 (nfC (n : Int) 2 l z st) (0, 0) _ (by exact u4) Tryz.underlying40 (by rfl) (size_nf.trans (by rfl)) ?_; simp only [Act.put, List.setIfInBounds_toArray, List.set_cons_zero, List.set_cons_succ])
    | fail)
  refine (HSE.out w4 HB4.out.1).mono ?_
  rintro e w5 ⟨v, rfl, hv5, hb5⟩
  have HB5 : Hid (Below w.heap.size w w5 ∧ Blk w5 w.heap.size 54 #[.int .i64 i, .string s] ∧ Blk w5 w2.heap.size 40 (nfC (n : Int) 2 l z st) ∧ w5.ownsRow w.heap.size 54 2 v (inLf k (lastQ k k)) (lkL (shN N (lastQ k k)) (shS S (lastQ k k)) (inLf k (lastQ k k)))) := ⟨HB4.out.1.trans (hb5.mono HB4.out.1.size), HB4.out.2.1.below hb5 HB4.out.2.1.lt, HB4.out.2.2.below hb5 HB4.out.2.2.lt, kown_mono hv5 HB4.out.1.size⟩
  have u5 := HB5.out.2.2.1
  clear hb5 hv5 HB4 HSE u4 l1
  go_wp2_with (first
    | (refine wpList_load_row (by rfl) 40 _ (by rfl) (w2.heap.size) (by rfl) 40 (nfC (n : Int) 2 l z st) (0, 0) _ (by exact u5) Tryz.underlying40 (by rfl) (size_nf.trans (by rfl)) ?_; simp only [Act.put, List.setIfInBounds_toArray, List.set_cons_zero, List.set_cons_succ])
    | fail)
  refine (HCT.out _).mono ?_
  rintro e w6 ⟨rfl, hb6⟩
  have HB6 : Hid (Below w.heap.size w w6 ∧ Blk w6 w.heap.size 54 #[.int .i64 i, .string s] ∧ Blk w6 w2.heap.size 40 (nfC (n : Int) 2 l z st) ∧ w6.ownsRow w.heap.size 54 2 v (inLf k (lastQ k k)) (lkL (shN N (lastQ k k)) (shS S (lastQ k k)) (inLf k (lastQ k k)))) := ⟨HB5.out.1.trans (hb6.mono HB5.out.1.size), HB5.out.2.1.below hb6 HB5.out.2.1.lt, HB5.out.2.2.1.below hb6 HB5.out.2.2.1.lt, kownBel HB5.out.2.2.2 hb6⟩
  have u6 := (nf_cs HB6.out.2.2.1).2.2.2.1
  clear hb6 HB5 HCT u5
  by_cases hr0 : r = 0
  · subst hr0
    have HVV : Hid (w6.ownsRow w.heap.size 54 2 (.slice none 0 0) 0 (lkL (shN N q) (shS S q) 0)) := World.ownsRow_nil _ _ _ _
    go_wp2_with fail
    refine (HRS.out w6 HB6.out.1).mono ?_
    rintro e w7 ⟨rfl, hI7, ht7⟩
    have HB7 : Hid (Turns (fun z => z = ml ∨ z = mf) w w7 ∧ IM w7 x mf ml mc cp top (hU H n y) (rsD D n (64 * (k + 1))) ∧ w7.ownsRow w.heap.size 54 2 (.slice none 0 0) 0 (lkL (shN N q) (shS S q) 0)) := ⟨(Turns.bel HB6.out.1).tr ht7, hI7, kownTurn HVV.out ht7 (fun b hb => by have := HX.out.1; rcases hb with rfl | rfl <;> omega)⟩
    have p7 : Blk w7 w.heap.size 54 #[.int .i64 i, .string s] := (ht7.block _ HB6.out.2.1.lt (fun hb => by have := HX.out.1; rcases hb with hb | hb <;> omega)).trans HB6.out.2.1
    have l0 : w7.cell? ⟨w.heap.size, 0, none⟩ = some (.int .i64 i) := (p7.cell 0).trans rfl
    have l1 : w7.cell? ⟨w.heap.size, 1, none⟩ = some (.string s) := (p7.cell 1).trans rfl
    have hw7 := HB7.out.1.size
    have HOWN : Hid ((w7.alloc (.cells #[.int .i64 i, .string s] 54)).ownsRow w.heap.size 54 2 (.slice none 0 0) 0 (lkL (shN N q) (shS S q) 0)) := HB7.out.2.2.alloc _
    have HV2 := HOWN.out.lt
    have hbA : Below w.heap.size w7 (w7.alloc (.cells #[.int .i64 i, .string s] 54)) := (Below.refl _ _).alloc hw7 _
    have hsz : w.heap.size ≤ (w7.alloc (.cells #[.int .i64 i, .string s] 54)).heap.size := Nat.le_trans hw7 (by simp)
    have hml : 0 + 1 ≤ maxLen := Nat.le_trans (by omega : 0 + 1 ≤ 5) (by decide)
    clear ht7 hI7 p7 HB6 HRS
    go_wp2_with (first
      | (at_builtin; refine wpList_append_own _ rfl _ _ 151 rfl w.heap.size 54 i0 (.agg #[.int .i64 0, .string ⟨#[]⟩]) 2 24 Tryz.underlying151 hi0 hz0 hz1 hz2 rfl (by decide) _ _ _ rfl HOWN.out ⟨w7.heap.size, 0, none⟩ 1 1 [.int .i64 i, .string s] rfl rfl (cells_new2L w7 (.int .i64 i) (.string s) 54) (by simp [Value.oneCell']) hml (by omega) (by simpa using hsz) ?_)
      | fail)
    intro v' w8 hown' hgrow _
    have hb8 : Below w.heap.size w7 w8 := hbA.grown hgrow hsz (fun q hq => (HV2 q hq).1)
    rw [HLA.out] at hown'
    obtain ⟨a, cc, rfl, hI, hcc⟩ := own_lks hown'
    have hI8 := HB7.out.2.1.belowB hb8 HX.out.1
    have H8 := HLY.out w8 hI8 a cc
    have HE : Hid (Turns (fun z => z = ml ∨ z = mf) w w8) := ⟨hb8.os.trans HB7.out.1.os, hb8.tape.trans HB7.out.1.tape, hb8.output.trans HB7.out.1.output, Nat.le_trans HB7.out.1.size hb8.size, fun b hb hn => (hb8.block b hb).trans (HB7.out.1.block b hb hn)⟩
    have H9 := H8 hI
    clear HOWN HV2 hgrow hbA hown' hb8 hI8 H8 hI HLY HB7 l0 l1 hcc
    go_wp2_with fail
    refine H9.mono ?_
    rintro e w9 ⟨rfl, hI9, ht9⟩
    have HF : Hid (_ ∧ _) := ⟨hI9, HE.out.tr ht9⟩
    clear hI9 ht9 H9 HE
    go_wp2_with fail
    go_ret
    exact ⟨rfl, HF.out.1, HF.out.2⟩
  · have HVV : Hid (w6.ownsRow w.heap.size 54 2 v r (lkL (shN N q) (shS S q) r)) := HOW.out w6 w.heap.size v HB6.out.2.2.2 hr0
    have r0 : ((r : Int) == 0) = false := by simp; omega
    go_wp2_with fail
    refine (HRS.out w6 HB6.out.1).mono ?_
    rintro e w7 ⟨rfl, hI7, ht7⟩
    have HB7 : Hid (Turns (fun z => z = ml ∨ z = mf) w w7 ∧ IM w7 x mf ml mc cp top (hU H n y) (rsD D n (64 * (k + 1))) ∧ w7.ownsRow w.heap.size 54 2 v r (lkL (shN N q) (shS S q) r)) := ⟨(Turns.bel HB6.out.1).tr ht7, hI7, kownTurn HVV.out ht7 (fun b hb => by have := HX.out.1; rcases hb with rfl | rfl <;> omega)⟩
    have p7 : Blk w7 w.heap.size 54 #[.int .i64 i, .string s] := (ht7.block _ HB6.out.2.1.lt (fun hb => by have := HX.out.1; rcases hb with hb | hb <;> omega)).trans HB6.out.2.1
    have l0 : w7.cell? ⟨w.heap.size, 0, none⟩ = some (.int .i64 i) := (p7.cell 0).trans rfl
    have l1 : w7.cell? ⟨w.heap.size, 1, none⟩ = some (.string s) := (p7.cell 1).trans rfl
    have hw7 := HB7.out.1.size
    have HOWN : Hid ((w7.alloc (.cells #[.int .i64 i, .string s] 54)).ownsRow w.heap.size 54 2 v r (lkL (shN N q) (shS S q) r)) := HB7.out.2.2.alloc _
    have HV2 := HOWN.out.lt
    have hbA : Below w.heap.size w7 (w7.alloc (.cells #[.int .i64 i, .string s] 54)) := (Below.refl _ _).alloc hw7 _
    have hsz : w.heap.size ≤ (w7.alloc (.cells #[.int .i64 i, .string s] 54)).heap.size := Nat.le_trans hw7 (by simp)
    have hml : r + 1 ≤ maxLen := Nat.le_trans (by omega : r + 1 ≤ 5) (by decide)
    clear ht7 hI7 p7 HB6 HRS
    go_wp2_with (first
      | (at_builtin; refine wpList_append_own _ rfl _ _ 151 rfl w.heap.size 54 i0 (.agg #[.int .i64 0, .string ⟨#[]⟩]) 2 24 Tryz.underlying151 hi0 hz0 hz1 hz2 rfl (by decide) _ _ _ rfl HOWN.out ⟨w7.heap.size, 0, none⟩ 1 1 [.int .i64 i, .string s] rfl rfl (cells_new2L w7 (.int .i64 i) (.string s) 54) (by simp [Value.oneCell']) hml (by omega) (by simpa using hsz) ?_)
      | fail)
    intro v' w8 hown' hgrow _
    have hb8 : Below w.heap.size w7 w8 := hbA.grown hgrow hsz (fun q hq => (HV2 q hq).1)
    rw [HLA.out] at hown'
    obtain ⟨a, cc, rfl, hI, hcc⟩ := own_lks hown'
    have hI8 := HB7.out.2.1.belowB hb8 HX.out.1
    have H8 := HLY.out w8 hI8 a cc
    have HE : Hid (Turns (fun z => z = ml ∨ z = mf) w w8) := ⟨hb8.os.trans HB7.out.1.os, hb8.tape.trans HB7.out.1.tape, hb8.output.trans HB7.out.1.output, Nat.le_trans HB7.out.1.size hb8.size, fun b hb hn => (hb8.block b hb).trans (HB7.out.1.block b hb hn)⟩
    have H9 := H8 hI
    clear HOWN HV2 hgrow hbA hown' hb8 hI8 H8 hI HLY HB7 l0 l1 hcc
    go_wp2_with fail
    refine H9.mono ?_
    rintro e w9 ⟨rfl, hI9, ht9⟩
    have HF : Hid (_ ∧ _) := ⟨hI9, HE.out.tr ht9⟩
    clear hI9 ht9 H9 HE
    go_wp2_with fail
    go_ret
    exact ⟨rfl, HF.out.1, HF.out.2⟩
end
end Go.Proofs.YtimjggkdpmgpjaaGreatDoor
