/- Trees: trees and positions in the memory; root, beneath; a node that is read through a cache. -/
import Derived.Test.YtojnlmfahgeidaaGreatDoorHDiLay
import Derived.Test.YtojnlmfahgeidaaGreatDoorHInsMakeA
import Derived.Handy
import Derived.Test.YtojnlmfahgeidaaGreatDoorHCaKit
import Derived.Test.YtojnlmfahgeidaaGreatDoorHMathCount
import Derived.Test.YtojnlmfahgeidaaGreatDoorHBlkGroups
import Derived.Deep.DeepCutAuto
import Derived.Deep.Cut
import Derived.Test.YtojnlmfahgeidaaGreatDoorHInsMap
import Derived.Test.YtojnlmfahgeidaaGreatDoorChecked
import Derived.Test.YtojnlmfahgeidaaGreatDoorHNaDecode
import Derived.WalkKit
import Derived.Laws.MakeOwn
import Derived.Maps.AppendAt
import Derived.Test.YtojnlmfahgeidaaGreatDoorHInsFns
import Derived.Lib.SlBytesConst
import Derived.ArgAppend

namespace Go.Proofs.YtojnlmfahgeidaaGreatDoor
open Go Go.RowKit
set_option linter.unusedSimpArgs false
set_option linter.unusedVariables false
attribute [local go_sem] st_nil st_fun
section
variable {w : World} {x mf ml mc : Nat} {cp : Option Addr} {top : Int} {H : Nat → Hd} {D : Nat → Nat → Nat → Nat} {st0 : Nat} {N : Nat → Int} {S : Nat → ByteArray}
theorem IM.get1 (h : IM w x mf ml mc cp top H D) (hd : Di H D 1 0 st0 N S) : Calls Tryz.prog 56 #[.pointer (some ⟨x, 0, none⟩), .int .i64 1] w fun e w' => e = .returned (.tuple #[.agg (nfC 1 2 (H 1).l 0 st0), .int .i64 0]) ∧ Below w.heap.size w w' := h.getD hd
theorem IM.find1 (h : IM w x mf ml mc cp top H D) (hd : Di H D 1 0 st0 N S) (nm : ByteArray) (hn : isName nm.data.toList = true) : Calls Tryz.prog 14 #[.pointer (some ⟨x, 0, none⟩), .int .i64 1, .string nm] w fun e w' => e = .returned (.tuple #[.int .i64 0, .int .i64 0, .int .i64 171]) ∧ Below w.heap.size w w' :=
  h.findD hd nm hn 0 ⟨Nat.le_refl _, fun r hr => absurd hr (Nat.not_lt_zero _), fun hc => absurd hc (Nat.lt_irrefl _)⟩ 0 0 171 rfl rfl rfl
/-- the inode 2 as a new directory -/
def hU' (H : Nat → Hd) (st : Nat) : Nat → Hd := hU H 2 (hdN (H 2) ((2 : Nat) : Int) 2 1 0 st)
/-- make$1 on a copy -/
theorem IM.made1 {V : World} {g a b c : Nat} (h : IM V g a b c cp top H D) (hd : Di H D 1 0 st0 N S) (h2 : (H 2).k = 0) (ht : 0 ≤ top ∧ top ≤ 4096) (nm : ByteArray) (he : encE 2 nm = 0) (st gs gk : Nat) (fv : Value) (a2 : Option Addr) (k2 c2 : Nat) (dd : Bool) (hs : Blk V gs 163 #[.int .i64 1, .string nm, .slice a2 k2 c2, .bool dd]) (hk : V.cell? ⟨gk, 0, none⟩ = some (.int .i64 2)) (hgk : gk < V.heap.size) :
    Calls Tryz.prog 191 #[.agg #[.pointer (some ⟨g, 0, none⟩), .int .u64 ((st : Nat) : Int), fv], .pointer (some ⟨gs, 0, none⟩), .pointer (some ⟨gk, 0, none⟩)] V fun e w' => e = .returned (.tuple #[.int .i64 2, .int .i64 0]) ∧ (∃ H2 D2, IM w' g a b c cp (max top 2) H2 D2 ∧ True) ∧ Turns (fun z => z = g ∨ z = a ∨ z = b) V w' := by
  have hl := h.lts
  have hm : ∀ m, 1 ≤ m → m < 2 → (H m).k ≠ 0 := fun m h1 h2 => by
    obtain rfl : m = 1 := by omega
    rw [hd.kd]
    decide
  have hsm : hU' H st 1 = H 1 := rfl
  refine make1_at g st fv nm 2 2 gs gk a2 k2 c2 dd V (fun z => z = g ∨ z = a ∨ z = b) _ hs hk hgk fun U hBU => ?_
  have hU2 := hBU.size
  refine fresh_at g st fv nm 2 2 U _ (fun z hz => by rcases hz with rfl | rfl | rfl <;> omega) (fun W => IM W g a b c cp (max top 2) (hU' H st) D) _ (fun W hW => ?_) fun W hW => ?_
  · refine (((h.below hBU).below hW).make 2 (by decide) (by decide) h2 hm 2 (.inr rfl) st ht).mono ?_
    rintro e w' ⟨rfl, hI, hT⟩
    exact ⟨rfl, hI, hT.mono fun z hz => by rcases hz with rfl | rfl <;> simp⟩
  · refine (hW.addOk (hd.same hsm rfl) (by decide) 2 nm he (fun r hr => absurd hr (Nat.not_lt_zero _)) st).mono ?_
    rintro e w' ⟨rfl, ⟨H', D', hI, _⟩, hT⟩
    exact ⟨rfl, ⟨H', D', hI, trivial⟩, hT.mono fun z hz => by rcases hz with rfl | rfl <;> simp⟩
set_option maxRecDepth 100000 in
set_option maxHeartbeats 8000000 in
theorem IM.makeRoot (h : IM w x mf ml mc cp top H D) (hd : Di H D 1 0 st0 N S) (h2 : (H 2).k = 0) (ht : 0 ≤ top ∧ top ≤ 4096) (s nm : ByteArray) (Nl : List ByteArray) (i : Nat) (hp : prs s.data.toList = (Nl, false, i, 0)) (hs : splR s.data.toList = ([], true, nm, 0)) (hn : isName nm.data.toList = true) (he : encE 2 nm = 0) (st : Nat) :
    Calls Tryz.prog 131 #[.agg #[.pointer (some ⟨x, 0, none⟩), .int .u64 ((st : Nat) : Int), .nilFunc], .string s, .int .i64 2] w fun e w' => e = .returned (.tuple #[.int .i64 2, .int .i64 0]) ∧ Turns (fun z => z = x) w w' := by
  have hl := h.lts
  have hz := sp_zero
  have b0 : Blk ((w.alloc (.cells #[.pointer (some ⟨x, 0, none⟩), .int .u64 ((st : Nat) : Int), .nilFunc] 161)).alloc (.cells #[.int .i64 2] 3)) w.heap.size 161 #[.pointer (some ⟨x, 0, none⟩), .int .u64 ((st : Nat) : Int), .nilFunc] := Blk.alloc (Blk.new _ _ _) _
  have b1 : Blk ((w.alloc (.cells #[.pointer (some ⟨x, 0, none⟩), .int .u64 ((st : Nat) : Int), .nilFunc] 161)).alloc (.cells #[.int .i64 2] 3)) (w.heap.size + 1) 3 #[.int .i64 2] := Blk.new1 _ _ _ _
  have hb : Below w.heap.size w ((w.alloc (.cells #[.pointer (some ⟨x, 0, none⟩), .int .u64 ((st : Nat) : Int), .nilFunc] 161)).alloc (.cells #[.int .i64 2] 3)) := below_new2 _ _ _
  have HI : Hid (∀ V, Below w.heap.size w V → IM V x mf ml mc cp top H D) := fun V hV => h.below hV
  have HS : Hid (∀ V, Below w.heap.size w V → Calls Tryz.prog 86 #[.agg #[.pointer (some ⟨x, 0, none⟩), .int .u64 ((st : Nat) : Int), .nilFunc], .string s] V fun e w' => ∃ a2 c2, e = .returned (.tuple #[.agg #[.int .i64 1, .string nm, .slice a2 Nl.length c2, .bool false], .int .i64 0]) ∧ Below V.heap.size V w') := fun V hV => spot_at x st .nilFunc s nm Nl.length false V fun U hU => parent_root x s nm Nl false i hp hs (H 1).l 0 st0 U fun U' hU' => ((h.below hV).below hU |>.below hU').get1 hd
  have HV : Hid (∀ (V : World) (a2 : Option Addr) (c2 : Nat), Below w.heap.size w V → Calls Tryz.prog 88 #[.agg #[.pointer (some ⟨x, 0, none⟩), .int .u64 ((st : Nat) : Int), .nilFunc], .agg #[.int .i64 1, .string nm, .slice a2 Nl.length c2, .bool false]] V fun e w' => e = .returned (.int .i64 0) ∧ Below V.heap.size V w') := fun V a2 c2 hV => vacant_ok x st .nilFunc nm a2 Nl.length c2 false V fun U hU => ((h.below hV).below hU).find1 hd nm hn
  have HO : Hid (∀ (V : World) (gs : Nat) (a2 : Option Addr) (c2 : Nat), Below w.heap.size w V → Blk V gs 163 #[.int .i64 1, .string nm, .slice a2 Nl.length c2, .bool false] → Blk V (w.heap.size + 1) 3 #[.int .i64 2] → Calls Tryz.prog 90 #[.agg #[.pointer (some ⟨x, 0, none⟩), .int .u64 ((st : Nat) : Int), .nilFunc], .func (.func 191) #[] #[.pointer (some ⟨gs, 0, none⟩), .pointer (some ⟨w.heap.size + 1, 0, none⟩)]] V fun e w' => e = .returned (.tuple #[.int .i64 2, .int .i64 0]) ∧ Turns (fun z => z = x) V w') := fun V gs a2 c2 hV hgs hgk => by
    refine ((h.below hV).onCopyMake (top2 := max top 2) (fun _ _ => True) st 2 gs (w.heap.size + 1) .nilFunc (.inl rfl) fun U g a b c hI hU hg => ?_).mono fun e w' ⟨h1, _, h3⟩ => ⟨h1, h3⟩
    exact hI.made1 hd h2 ht nm he st gs (w.heap.size + 1) .nilFunc a2 Nl.length c2 false (hgs.below hU hgs.lt) (((hgk.below hU hgk.lt).cell 0).trans rfl) (hgk.below hU hgk.lt).lt
  have HK : Hid (∀ (a2 : Option Addr) (c2 : Nat) (V : World), Calls Tryz.prog 87 #[.agg #[.int .i64 1, .string nm, .slice a2 Nl.length c2, .bool false]] V fun e w' => e = .returned (.bool false) ∧ Below V.heap.size V w') := fun a2 c2 V => asks_any nm 1 a2 Nl.length c2 false V
  have H1 := HS.out _ hb
  clear h hd hp hs hn he ht h2 HS hl
  have m0 := (b0.cell 0).trans rfl
  have m1 := (b0.cell 1).trans rfl
  have m2 := (b0.cell 2).trans rfl
  go_enter Tryz.func131, Tryz.ntmps131
  go_wp2_with fail
  generalize ((w.alloc (.cells #[.pointer (some ⟨x, 0, none⟩), .int .u64 ((st : Nat) : Int), .nilFunc] 161)).alloc (.cells #[.int .i64 2] 3)) = w1 at *
  refine H1.mono ?_
  rintro e w2 ⟨a2, c2, rfl, hb2⟩
  have hb12 := hb.trans (hb2.mono hb.size)
  have d0 := (b0.below hb2 b0.lt).alloc (.cells #[.int .i64 1, .string nm, .slice a2 Nl.length c2, .bool false] 163)
  have d1 := (b1.below hb2 b1.lt).alloc (.cells #[.int .i64 1, .string nm, .slice a2 Nl.length c2, .bool false] 163)
  have d2 : Blk (w2.alloc (.cells #[.int .i64 1, .string nm, .slice a2 Nl.length c2, .bool false] 163)) w2.heap.size 163 #[.int .i64 1, .string nm, .slice a2 Nl.length c2, .bool false] := Blk.new _ _ _
  have hb3 : Below w.heap.size w (w2.alloc (.cells #[.int .i64 1, .string nm, .slice a2 Nl.length c2, .bool false] 163)) := hb12.alloc hb12.size _
  clear b0 b1 m0 m1 m2 hb hb2 hb12 H1
  have m0 := (d0.cell 0).trans rfl
  have m1 := (d0.cell 1).trans rfl
  have m2 := (d0.cell 2).trans rfl
  have s0 := (d2.cell 0).trans rfl
  have s1 := (d2.cell 1).trans rfl
  have s2 := (d2.cell 2).trans rfl
  have s3 := (d2.cell 3).trans rfl
  have q0 := (d1.cell 0).trans rfl
  go_wp2_with fail
  generalize (w2.alloc (.cells #[.int .i64 1, .string nm, .slice a2 Nl.length c2, .bool false] 163)) = w3 at *
  generalize w2.heap.size = gs at *
  refine (HK.out _ _ _).mono ?_
  rintro e w4 ⟨rfl, hb4⟩
  have e0 := d0.below hb4 d0.lt
  have e1 := d1.below hb4 d1.lt
  have e2 := d2.below hb4 d2.lt
  have hb5 := hb3.trans (hb4.mono hb3.size)
  have H5 := HV.out w4 a2 c2 hb5
  clear d0 d1 d2 m0 m1 m2 s0 s1 s2 s3 q0 hb3 hb4 HV HK
  have m0 := (e0.cell 0).trans rfl
  have m1 := (e0.cell 1).trans rfl
  have m2 := (e0.cell 2).trans rfl
  have s0 := (e2.cell 0).trans rfl
  have s1 := (e2.cell 1).trans rfl
  have s2 := (e2.cell 2).trans rfl
  have s3 := (e2.cell 3).trans rfl
  have q0 := (e1.cell 0).trans rfl
  go_wp2_with fail
  refine H5.mono ?_
  rintro e w6 ⟨rfl, hb6⟩
  have j0 := e0.below hb6 e0.lt
  have j1 := e1.below hb6 e1.lt
  have j2 := e2.below hb6 e2.lt
  have hb7 := hb5.trans (hb6.mono hb5.size)
  have H7 := HO.out w6 gs a2 c2 hb7 j2 j1
  have HB7 : Hid (Below w.heap.size w w6) := hb7
  clear e0 e1 e2 m0 m1 m2 s0 s1 s2 s3 q0 hb5 hb6 H5 HO hb7
  have m0 := (j0.cell 0).trans rfl
  have m1 := (j0.cell 1).trans rfl
  have m2 := (j0.cell 2).trans rfl
  clear j0 j1 j2
  go_wp2_with fail
  refine H7.mono ?_
  rintro e w8 ⟨rfl, hT⟩
  have HE : Hid (Turns (fun z => z = x) w w8) := (Turns.of_below HB7.out).trans hT fun b hb => .inl hb
  clear hT H7 HB7 m0 m1 m2
  go_wp2_with fail
  go_ret2
  exact ⟨rfl, HE.out⟩
set_option maxRecDepth 100000 in
set_option maxHeartbeats 4000000 in
theorem IM.mkdirRoot (h : IM w x mf ml mc cp top H D) (hd : Di H D 1 0 st0 N S) (h2 : (H 2).k = 0) (ht : 0 ≤ top ∧ top ≤ 4096) (s nm : ByteArray) (Nl : List ByteArray) (i : Nat) (hp : prs s.data.toList = (Nl, false, i, 0)) (hs : splR s.data.toList = ([], true, nm, 0)) (hn : isName nm.data.toList = true) (he : encE 2 nm = 0) (st : Nat) :
    Calls Tryz.prog 78 #[.pointer (some ⟨x, 0, none⟩), .string s, .int .u64 ((st : Nat) : Int)] w fun e w' => e = .returned (.tuple #[.int .i64 2, .int .i64 0]) ∧ Turns (fun z => z = x) w w' := by
  have HM := h.makeRoot hd h2 ht s nm Nl i hp hs hn he st
  clear h hd h2 ht hp hs hn he
  go_enter Tryz.func78, Tryz.ntmps78
  go_wp2_with fail
  refine HM.mono ?_
  rintro e w2 ⟨rfl, hT⟩
  have HE : Hid (Turns (fun z => z = x) w w2) := hT
  clear hT HM
  go_wp2_with fail
  go_ret2
  exact ⟨rfl, HE.out⟩
end
end Go.Proofs.YtojnlmfahgeidaaGreatDoor

namespace Go.Proofs.YtojnlmfahgeidaaGreatDoor
open Go Go.RowKit
set_option linter.unusedSimpArgs false
set_option linter.unusedVariables false

/-- a block's digest -/
def dgB (f : Nat → Nat) : Vector Nat 32 := sumD (sumOf (1, strN f 256))
set_option maxRecDepth 100000 in
set_option maxHeartbeats 4000000 in
theorem mayBeRoom_ok (x : Int) (h0 : 0 ≤ x) (h1 : x ≤ 4096) (w : World) : Calls Tryz.prog 102 #[.int .i64 x] w fun e w' => e = .returned (.bool true) ∧ w = w' := by
  go_enter Tryz.func102, Tryz.ntmps102
  go_wp2_with fail
  go_ret
  exact ⟨rfl, rfl⟩
/-- no entries: the cells of their holder -/
def esC (m : Nat) : Array Value := #[.map (some m), .pointer none, .pointer none]
theorem sizeEs : (Tryz.prog.info? 203).map (·.size) = some 3 := by kernel_rfl
set_option maxRecDepth 100000 in
set_option maxHeartbeats 4000000 in
theorem caNone_any (w : World) : Calls Tryz.prog 103 #[] w fun e w' => ∃ m, e = .returned (.agg (esC m)) ∧ w.heap.size ≤ m ∧ MapIs rfV ptV w' m [] ∧ Below w.heap.size w w' := by
  have hmm := @run_makeMap Tryz.prog
  go_enter Tryz.func103, Tryz.ntmps103
  go_wp2_with fail
  try simp only [Exit.inBlock, Exit.then]
  refine bodyPost_ret (results_cell_row Tryz.results103 _ _ w.heap.size 203 (esC (w.heap.size + 1)) (0, 0) _ rfl ((Blk.new _ _ _).alloc _) Tryz.underlying203 rfl (sizeEs.trans (by rfl))) rfl ?_
  refine ⟨_, rfl, Nat.le_succ _, ⟨#[], 0, ?_, rfl⟩, below_new2 _ _ _⟩
  have := heap_alloc_new (w.alloc (Obj.cells (esC (w.heap.size + 1)) 203)) (Obj.map #[] 0)
  rw [show (w.alloc (Obj.cells (esC (w.heap.size + 1)) 203)).heap.size = w.heap.size + 1 by simp] at this
  exact this
set_option maxRecDepth 100000 in
set_option maxHeartbeats 4000000 in
theorem caNew_ok (g : Nat) (lp : Option Addr) (room : Int) (h0 : 0 ≤ room) (h1 : room ≤ 4096) (w : World) : Calls Tryz.prog 47 #[.pointer (some ⟨g, 0, none⟩), .pointer lp, .int .i64 room] w fun e w' => ∃ c m, e = .returned (.tuple #[.pointer (some ⟨c, 0, none⟩), .int .i64 0]) ∧ (w.heap.size ≤ c ∧ w.heap.size ≤ m) ∧ Blk w' c 208 (caC (some ⟨g, 0, none⟩) lp room m none none 0 0 0 0) ∧ MapIs rfV ptV w' m [] ∧ Below w.heap.size w w' := by
  have hR : Hid (∀ w : World, Calls Tryz.prog 102 #[.int .i64 room] w fun e w' => e = .returned (.bool true) ∧ w = w') := mayBeRoom_ok room h0 h1
  have hN : Hid (∀ w : World, Calls Tryz.prog 103 #[] w fun e w' => ∃ m, e = .returned (.agg #[.map (some m), .pointer none, .pointer none]) ∧ w.heap.size ≤ m ∧ MapIs rfV ptV w' m [] ∧ Below w.heap.size w w') := caNone_any
  clear h0 h1
  go_enter Tryz.func47, Tryz.ntmps47
  go_wp2_with fail
  refine (hR.out _).mono ?_
  rintro e _ ⟨rfl, rfl⟩
  go_wp2_with fail
  refine (hN.out _).mono ?_
  rintro e w1 ⟨m, rfl, hm, hmap, hb1⟩
  have HM : Hid (MapIs rfV ptV w1 m []) := hmap
  clear hmap
  go_wp2_with fail
  try simp only [Exit.inBlock, Exit.then]
  refine bodyPost_ret (results_tmp2 Tryz.results47 _ _ _) rfl ?_
  have hb2 : Below w1.heap.size w1 (w1.alloc (.cells (caC (some ⟨g, 0, none⟩) lp room m none none 0 0 0 0) 208)) := below_new1 _ _
  exact ⟨w1.heap.size, m, rfl, ⟨hb1.size, hm⟩, Blk.new _ _ _, HM.out.below hb2 (by
    obtain ⟨es, cl, hg, _⟩ := HM.out
    exact (Array.getElem?_eq_some_iff.1 hg).1), hb1.trans (hb2.mono hb1.size)⟩
end Go.Proofs.YtojnlmfahgeidaaGreatDoor

namespace Go.Proofs.YtojnlmfahgeidaaGreatDoor
open Go Go.RowKit
set_option linter.unusedSimpArgs false
set_option linter.unusedVariables false

theorem MapIs.lt {α β : Type} {K : α → Value} {V : β → Value} {w : World} {r : Nat} {l : List (α × β)} (h : MapIs K V w r l) : r < w.heap.size := by
  obtain ⟨es, cl, hg, _⟩ := h
  exact (Array.getElem?_eq_some_iff.1 hg).1
theorem MapIs.of {α β : Type} {K : α → Value} {V : β → Value} {w w' : World} {r : Nat} {l : List (α × β)} (h : MapIs K V w r l) (hk : w'.heap[r]? = w.heap[r]?) : MapIs K V w' r l := by
  obtain ⟨es, cl, hg, he⟩ := h
  exact ⟨es, cl, hk.trans hg, he⟩
theorem MapIs.ne {α β : Type} {K : α → Value} {V : β → Value} {w : World} {r b t : Nat} {cs : Array Value} {l : List (α × β)} (h : MapIs K V w r l) (hb : Blk w b t cs) : r ≠ b := fun e => by
  obtain ⟨es, cl, hg, _⟩ := h
  subst e
  have := hg.symm.trans hb
  simp at this
theorem map_len {w : World} {m : Nat} {l : List (Rf × Nat)} (h : MapIs rfV ptV w m l) (ty : TypeId) : (Builtin.len_ #[200] ty #[.map (some m)]).run Tryz.prog w = .ok (.int .i64 (l.length : Int)) w := by
  obtain ⟨es, cl, hg, he⟩ := h
  have hgo : (getObj m).run Tryz.prog w = .ok (.map es cl) w := by simp [getObj, Sem.run, hg]
  have hl : es.size = l.length := by
    have := congrArg List.length he
    simpa using this
  simp [Builtin.len_, run_underlying Tryz.underlying200, hgo, goInt, hl]
section
variable {c m : Nat} {dp lp o n : Option Addr} {room h r bd cn : Int}
end
end Go.Proofs.YtojnlmfahgeidaaGreatDoor

namespace Go.Proofs.YtojnlmfahgeidaaGreatDoor
open Go Go.RowKit
set_option linter.unusedSimpArgs false
set_option linter.unusedVariables false

/-- a block in which nothing is turned -/
theorem Turns.blk {S : Nat → Prop} {w w' : World} (h : Turns S w w') {b t : Nat} {cs : Array Value} (hb : Blk w b t cs) (hn : ¬ S b) : Blk w' b t cs := (h.block b hb.lt hn).trans hb
section
variable {c m : Nat} {dp lp o n : Option Addr} {room h r bd cn : Int}
end
end Go.Proofs.YtojnlmfahgeidaaGreatDoor

namespace Go.Proofs.YtojnlmfahgeidaaGreatDoor
open Go Go.RowKit
set_option linter.unusedSimpArgs false
set_option linter.unusedVariables false

theorem Turns.laid {S : Nat → Prop} {w w' : World} (h : Turns S w w') {b : Nat} (hb : w.heap.size ≤ b) (cs : Array Value) : Turns S w (w'.setRow b cs) := by
  have k : Below w.heap.size w' (w'.setRow b cs) := below_setRow (Below.refl _ _) hb cs
  exact ⟨k.os.trans h.os, k.tape.trans h.tape, k.output.trans h.output, Nat.le_trans h.size k.size, fun x hx hf => (k.block x hx).trans (h.block x hx hf)⟩
theorem Turns.alloc {S : Nat → Prop} {w w' : World} (h : Turns S w w') (o : Obj) : Turns S w (w'.alloc o) := by
  have k : Below w'.heap.size w' (w'.alloc o) := below_new1 _ _
  exact ⟨k.os.trans h.os, k.tape.trans h.tape, k.output.trans h.output, Nat.le_trans h.size k.size, fun x hx hf => (k.block x (Nat.lt_of_lt_of_le hx h.size)).trans (h.block x hx hf)⟩
section
variable {c m b : Nat} {dp lp o n : Option Addr} {room h r bd cn : Int}
end
end Go.Proofs.YtojnlmfahgeidaaGreatDoor

namespace Go.Proofs.YtojnlmfahgeidaaGreatDoor
open Go Go.RowKit
set_option linter.unusedSimpArgs false
set_option linter.unusedVariables false

/-- an entry: its reference, its block in the memory, its bytes -/
structure En where
  k : Rf
  b : Nat
  f : Nat → Nat
def enA (e : En) : Addr := ⟨e.b, 0, none⟩
def prevOf (L : List En) (i : Nat) : Option Addr := if i = 0 then none else (L[i - 1]?).map enA
def nextOf (L : List En) (i : Nat) : Option Addr := (L[i + 1]?).map enA
def headOf (L : List En) : Option Addr := (L[0]?).map enA
def lastOf (L : List En) : Option Addr := prevOf L L.length
section
variable {c b : Nat} {m : Nat} {dp lp o n : Option Addr} {room h r bd cn : Int} {R : Rf} {f : Nat → Nat}
end
end Go.Proofs.YtojnlmfahgeidaaGreatDoor

namespace Go.Proofs.YtojnlmfahgeidaaGreatDoor
open Go Go.RowKit
set_option linter.unusedSimpArgs false
set_option linter.unusedVariables false

/-- the chain of entries in the memory -/
structure ChainAt (w : World) (c m : Nat) (dp lp : Option Addr) (room h r bd cn : Int) (L : List En) : Prop where
  blk : Blk w c 208 (caC dp lp room m (headOf L) (lastOf L) h r bd cn)
  ents : ∀ i e, L[i]? = some e → Blk w e.b 398 (enC e.k e.f (prevOf L i) (nextOf L i))
  nd : ∀ (i j : Nat) (e e' : En), L[i]? = some e → L[j]? = some e' → e.b = e'.b → i = j
/-- its blocks -/
def chfoot (c : Nat) (L : List En) (x : Nat) : Prop := x = c ∨ ∃ e ∈ L, x = e.b
section
variable {w w' : World} {c m : Nat} {dp lp : Option Addr} {room h r bd cn : Int} {L : List En} {i : Nat} {e : En}
theorem ChainAt.below (H : ChainAt w c m dp lp room h r bd cn L) (hb : Below w.heap.size w w') : ChainAt w' c m dp lp room h r bd cn L := ⟨H.blk.below hb H.blk.lt, fun i e he => (H.ents i e he).below hb (H.ents i e he).lt, H.nd⟩
theorem ChainAt.kept (H : ChainAt w c m dp lp room h r bd cn L) (hk : ∀ x, chfoot c L x → w'.heap[x]? = w.heap[x]?) : ChainAt w' c m dp lp room h r bd cn L := ⟨(hk c (.inl rfl)).trans H.blk, fun i e he => (hk e.b (.inr ⟨e, List.mem_of_getElem? he, rfl⟩)).trans (H.ents i e he), H.nd⟩
theorem ChainAt.lt (H : ChainAt w c m dp lp room h r bd cn L) (x : Nat) (hx : chfoot c L x) : x < w.heap.size := by
  rcases hx with rfl | ⟨e, he, rfl⟩
  · exact H.blk.lt
  · obtain ⟨i, hi⟩ := List.mem_iff_getElem?.1 he
    exact (H.ents i e hi).lt
end
end Go.Proofs.YtojnlmfahgeidaaGreatDoor

namespace Go.Proofs.YtojnlmfahgeidaaGreatDoor
open Go Go.RowKit
set_option linter.unusedSimpArgs false
set_option linter.unusedVariables false

/-- the map of the entries -/
def MapFor (w : World) (m : Nat) (L : List En) : Prop := ∃ es : List (Rf × Nat), MapIs rfV ptV w m es ∧ es.length = L.length ∧ (es.map Prod.fst).Nodup ∧ ∀ k b, findIn k es = some b ↔ ∃ e ∈ L, e.k = k ∧ e.b = b
/-- a cache's entries in the memory -/
structure CaAt (w : World) (c m : Nat) (dp lp : Option Addr) (room h r bd cn : Int) (L : List En) : Prop where
  ch : ChainAt w c m dp lp room h r bd cn L
  mp : MapFor w m L
/-- its blocks -/
def cafo (c m : Nat) (L : List En) (x : Nat) : Prop := chfoot c L x ∨ x = m
section
variable {w w' : World} {c m : Nat} {dp lp : Option Addr} {room h r bd cn : Int} {L : List En} {i : Nat} {e : En} {k : Rf}
theorem MapFor.of (H : MapFor w m L) (hk : w'.heap[m]? = w.heap[m]?) : MapFor w' m L := by
  obtain ⟨es, h1, h2⟩ := H
  exact ⟨es, h1.of hk, h2⟩
theorem MapFor.lt (H : MapFor w m L) : m < w.heap.size := by
  obtain ⟨es, h1, h2⟩ := H
  exact h1.lt
theorem MapFor.ne (H : MapFor w m L) {b t : Nat} {cs : Array Value} (hb : Blk w b t cs) : m ≠ b := by
  obtain ⟨es, h1, h2⟩ := H
  exact h1.ne hb
theorem MapFor.same (H : MapFor w m L) {L' : List En} (hl : L'.length = L.length) (he : ∀ x, x ∈ L' ↔ x ∈ L) : MapFor w m L' := by
  obtain ⟨es, h1, h2, h3, h4⟩ := H
  exact ⟨es, h1, h2.trans hl.symm, h3, fun k b => (h4 k b).trans ⟨fun ⟨e, a, b⟩ => ⟨e, (he e).2 a, b⟩, fun ⟨e, a, b⟩ => ⟨e, (he e).1 a, b⟩⟩⟩
theorem CaAt.below (H : CaAt w c m dp lp room h r bd cn L) (hb : Below w.heap.size w w') : CaAt w' c m dp lp room h r bd cn L := ⟨H.ch.below hb, H.mp.of (hb.block m H.mp.lt)⟩
theorem CaAt.drew (H : CaAt w c m dp lp room h r bd cn L) : CaAt w.drew c m dp lp room h r bd cn L := H.below (Below.refl _ _).drew
theorem CaAt.kept (H : CaAt w c m dp lp room h r bd cn L) (hk : ∀ x, cafo c m L x → w'.heap[x]? = w.heap[x]?) : CaAt w' c m dp lp room h r bd cn L := ⟨H.ch.kept fun x hx => hk x (.inl hx), H.mp.of (hk m (.inr rfl))⟩
theorem CaAt.lt (H : CaAt w c m dp lp room h r bd cn L) (x : Nat) (hx : cafo c m L x) : x < w.heap.size := by
  rcases hx with hx | rfl
  · exact H.ch.lt x hx
  · exact H.mp.lt
theorem CaAt.setRow (H : CaAt w c m dp lp room h r bd cn L) {b : Nat} (hb : ¬ cafo c m L b) (cs : Array Value) : CaAt (w.setRow b cs) c m dp lp room h r bd cn L := H.kept fun x hx => setRow_other w b x cs fun e => hb (e ▸ hx)
theorem CaAt.one (H : CaAt w c m dp lp room h r bd cn L) {e e' : En} (he : e ∈ L) (he' : e' ∈ L) (hk : e.k = e'.k) : e.b = e'.b := by
  obtain ⟨es, h1, h2, h3, h4⟩ := H.mp
  have h5 := (h4 e.k e.b).2 ⟨e, he, rfl, rfl⟩
  have h6 := (h4 e.k e'.b).2 ⟨e', he', hk.symm, rfl⟩
  rw [h5] at h6
  injection h6
theorem mem_erased {x : En} (hx : x ∈ L.eraseIdx i) : x ∈ L := by
  obtain ⟨j, _, hj⟩ := List.mem_eraseIdx_iff_getElem?.1 hx
  exact List.mem_of_getElem? hj
theorem ChainAt.other (H : ChainAt w c m dp lp room h r bd cn L) (hi : L[i]? = some e) (j : Nat) (e' : En) (hj : (L.eraseIdx i)[j]? = some e') : e'.b ≠ e.b := fun hb => by
  rw [List.getElem?_eraseIdx] at hj
  split at hj
  · have := H.nd _ _ _ _ hj hi hb
    omega
  · have := H.nd _ _ _ _ hj hi hb
    omega
end
end Go.Proofs.YtojnlmfahgeidaaGreatDoor

namespace Go.Proofs.YtojnlmfahgeidaaGreatDoor
open Go Go.RowKit
set_option linter.unusedSimpArgs false
set_option linter.unusedVariables false

/-- the entries but the one of a reference, if it is there -/
def PutL (L : List En) (k : Rf) (L1 : List En) : Prop := (∃ i e, L[i]? = some e ∧ e.k = k ∧ L1 = L.eraseIdx i) ∨ ((∀ e ∈ L, e.k ≠ k) ∧ L1 = L)
theorem PutL.sub {L L1 : List En} {k : Rf} (h : PutL L k L1) {x : En} (hx : x ∈ L1) : x ∈ L := by
  rcases h with ⟨i, e, _, _, rfl⟩ | ⟨_, rfl⟩
  · exact mem_erased hx
  · exact hx
theorem PutL.foot {L L1 : List En} {k : Rf} (h : PutL L k L1) {c m x : Nat} (hx : cafo c m L1 x) : cafo c m L x := by
  rcases hx with (hx | ⟨e, he, hx⟩) | hx
  · exact .inl (.inl hx)
  · exact .inl (.inr ⟨e, h.sub he, hx⟩)
  · exact .inr hx
section
variable {w w' : World} {c m : Nat} {dp lp : Option Addr} {room h r bd cn : Int} {L L1 : List En} {i : Nat} {e : En} {k : Rf}
theorem PutL.none (H : CaAt w c m dp lp room h r bd cn L) (hp : PutL L k L1) : ∀ e ∈ L1, e.k ≠ k := by
  rcases hp with ⟨i, e, hi, rfl, rfl⟩ | ⟨hn, rfl⟩
  · intro x hx hk
    obtain ⟨j, hj, hj2⟩ := List.mem_eraseIdx_iff_getElem?.1 hx
    exact hj (H.ch.nd _ _ _ _ hj2 hi (H.one (List.mem_of_getElem? hj2) (List.mem_of_getElem? hi) hk))
  · exact hn
/-- how many keys a map has -/
def mapSz (w : World) (m : Nat) : Nat := match w.heap[m]? with
  | some (.map es _) => es.size
  | _ => 0
theorem MapFor.sz (H : MapFor w m L) : mapSz w m = L.length := by
  obtain ⟨es, ⟨xs, cl, hg, he⟩, hl, _⟩ := H
  unfold mapSz
  rw [hg]
  have := congrArg List.length he
  simp at this
  show xs.size = _
  omega
theorem MapFor.len (H : MapFor w m L) (ty : TypeId) : (Builtin.len_ #[200] ty #[.map (some m)]).run Tryz.prog w = .ok (.int .i64 (L.length : Int)) w := by
  obtain ⟨es, h1, h2, _⟩ := H
  have := map_len h1 ty
  rw [h2] at this
  exact this
end
section
variable {w w' : World} {c m room : Nat} {dp lp : Option Addr} {h r bd cn : Int} {L L1 : List En} {i : Nat} {e : En} {k : Rf}
end
end Go.Proofs.YtojnlmfahgeidaaGreatDoor

namespace Go.Proofs.YtojnlmfahgeidaaGreatDoor
open Go Go.RowKit
set_option linter.unusedSimpArgs false
set_option linter.unusedVariables false

section
variable {w w' : World} {c m B g N kk lg room : Nat} {F : Nat → Nat} {q q' : QD} {dp lp : Option Addr} {h r bd cn h2 r2 bd2 cn2 : Int} {L L1 : List En} {i : Nat} {e : En} {k : Rf}
/-- a disk and a cache on it -/
structure CD (w : World) (B g N : Nat) (F : Nat → Nat) (kk lg : Nat) (q : QD) (c m room : Nat) (h r bd cn : Int) (L : List En) : Prop where
  d : DiskQ w B g N F kk lg q
  ca : CaAt w c m (some ⟨g, 0, none⟩) none (room : Int) h r bd cn L
  ap : ∀ x, cafo c m L x → ¬ foot g N q x
  lo : ∀ x, cafo c m L x → B ≤ x
/-- its blocks -/
def cdfo (g N : Nat) (q : QD) (c m : Nat) (L : List En) (x : Nat) : Prop := foot g N q x ∨ cafo c m L x
theorem CD.below (H : CD w B g N F kk lg q c m room h r bd cn L) (hb : Below w.heap.size w w') : CD w' B g N F kk lg q c m room h r bd cn L := ⟨H.d.below hb, H.ca.below hb, H.ap, H.lo⟩
theorem CD.kept (H : CD w B g N F kk lg q c m room h r bd cn L) (hk : ∀ x, cdfo g N q c m L x → w'.heap[x]? = w.heap[x]?) : CD w' B g N F kk lg q c m room h r bd cn L := ⟨H.d.kept fun x hx => hk x (.inl hx), H.ca.kept fun x hx => hk x (.inr hx), H.ap, H.lo⟩
theorem CD.lt (H : CD w B g N F kk lg q c m room h r bd cn L) (x : Nat) (hx : cdfo g N q c m L x) : B ≤ x ∧ x < w.heap.size := by
  rcases hx with hx | hx
  · exact H.d.foots x hx
  · exact ⟨H.lo x hx, H.ca.lt x hx⟩
end
section
variable {c m B g N kk lg room : Nat} {F : Nat → Nat} {q : QD} {dp lp : Option Addr} {h r bd cn : Int} {L L1 : List En} {i : Nat} {e : En} {k : Rf}
end
end Go.Proofs.YtojnlmfahgeidaaGreatDoor

namespace Go.Proofs.YtojnlmfahgeidaaGreatDoor
open Go Go.RowKit
set_option linter.unusedSimpArgs false
set_option linter.unusedVariables false

/-- a block of the disk -/
def blkAt (F : Nat → Nat) (a : Nat) : Nat → Nat := fun j => F (a * 256 + j)
/-- is what a reference says there? -/
def gotOk (F : Nat → Nat) (N : Nat) (k : Rf) : Prop := k.1 ≠ 0 ∧ k.1 < N ∧ dgB (blkAt F k.1) = k.2
instance (F : Nat → Nat) (N : Nat) (k : Rf) : Decidable (gotOk F N k) := by unfold gotOk; infer_instance
/-- entries that say what the disk says -/
def ValidL (F : Nat → Nat) (N : Nat) (L : List En) : Prop := ∀ e ∈ L, e.k ≠ rf0 ∧ gotOk F N e.k ∧ e.f = blkAt F e.k.1
/-- a disk and a cache, behind i calls at most; U: their blocks -/
structure TD (W : World) (B g N : Nat) (F : Nat → Nat) (c m room i : Nat) (U : Nat → Prop) : Prop where
  ex : ∃ q kk lg h r bd cn L, CD W B g N F kk lg q c m room h r bd cn L ∧ Quiet q kk ∧ kk ≤ i ∧ lg ≤ i ∧ (0 ≤ h ∧ h ≤ (i : Int)) ∧ (0 ≤ r ∧ r ≤ (i : Int)) ∧ (0 ≤ bd ∧ bd ≤ (i : Int)) ∧ ValidL F N L ∧ ∀ x, U x ↔ cdfo g N q c m L x
  nz : 0 < N
  nN : N ≤ 8192
  rm : room ≤ 4096
  hB : B ≤ W.heap.size
section
variable {W W' : World} {B g N c m room i : Nat} {F : Nat → Nat} {U : Nat → Prop}
theorem TD.below (H : TD W B g N F c m room i U) (hb : Below W.heap.size W W') : TD W' B g N F c m room i U := by
  obtain ⟨q, kk, lg, h, r, bd, cn, L, h1, h2⟩ := H.ex
  exact ⟨⟨q, kk, lg, h, r, bd, cn, L, h1.below hb, h2⟩, H.nz, H.nN, H.rm, Nat.le_trans H.hB hb.size⟩
theorem TD.kept (H : TD W B g N F c m room i U) (hs : W.heap.size ≤ W'.heap.size) (hk : ∀ x, U x → W'.heap[x]? = W.heap[x]?) : TD W' B g N F c m room i U := by
  obtain ⟨q, kk, lg, h, r, bd, cn, L, h1, h2, h3, h4, h5, h6, h7, h8, h9⟩ := H.ex
  exact ⟨⟨q, kk, lg, h, r, bd, cn, L, h1.kept fun x hx => hk x ((h9 x).2 hx), h2, h3, h4, h5, h6, h7, h8, h9⟩, H.nz, H.nN, H.rm, Nat.le_trans H.hB hs⟩
theorem TD.lt (H : TD W B g N F c m room i U) (x : Nat) (hx : U x) : B ≤ x ∧ x < W.heap.size := by
  obtain ⟨q, kk, lg, h, r, bd, cn, L, h1, h2, h3, h4, h5, h6, h7, h8, h9⟩ := H.ex
  exact h1.lt x ((h9 x).1 hx)
theorem TD.mono (H : TD W B g N F c m room i U) {j : Nat} (hj : i ≤ j) : TD W B g N F c m room j U := by
  obtain ⟨q, kk, lg, h, r, bd, cn, L, h1, h2, h3, h4, h5, h6, h7, h8, h9⟩ := H.ex
  exact ⟨⟨q, kk, lg, h, r, bd, cn, L, h1, h2, by omega, by omega, by omega, by omega, by omega, h8, h9⟩, H.nz, H.nN, H.rm, H.hB⟩
/-- what a call does to them -/
def TDStep (W W' : World) (B g N : Nat) (F : Nat → Nat) (c m room i : Nat) (U : Nat → Prop) : Prop := ∃ U', TD W' B g N F c m room i U' ∧ Turns U W W' ∧ ∀ x, U' x → U x ∨ W.heap.size ≤ x
theorem TDStep.of_below (H : TD W B g N F c m room i U) (hb : Below W.heap.size W W') : TDStep W W' B g N F c m room i U := ⟨U, H.below hb, .of_below hb, fun _ => .inl⟩
theorem TDStep.trans {W1 W2 W3 : World} {i j : Nat} {U V : Nat → Prop} (ht : Turns U W1 W2) (hv : ∀ x, V x → U x ∨ W1.heap.size ≤ x) (h : TDStep W2 W3 B g N F c m room j V) : TDStep W1 W3 B g N F c m room j U := by
  obtain ⟨V', h1, h2, h3⟩ := h
  refine ⟨V', h1, ht.trans h2 hv, fun x hx => ?_⟩
  rcases h3 x hx with h | h
  · exact hv x h
  · exact .inr (Nat.le_trans ht.size h)
end
end Go.Proofs.YtojnlmfahgeidaaGreatDoor

namespace Go.Proofs.YtojnlmfahgeidaaGreatDoor
open Go Go.RowKit
set_option linter.unusedSimpArgs false
set_option linter.unusedVariables false

theorem and3 (z : Nat) (hz : z < 9223372036854775808) : bits .and .i64 (z : Int) 3 = ((z % 4 : Nat) : Int) := by
  have h1 : (BitVec.ofInt 64 (z : Int)).toNat = z := by
    rw [BitVec.ofInt_natCast, BitVec.toNat_ofNat]; exact Nat.mod_eq_of_lt (by omega)
  have h2 : (BitVec.ofInt 64 (3 : Int)).toNat = 3 := by decide
  show IntKind.i64.wrap ((BitVec.ofInt 64 (z : Int) &&& BitVec.ofInt 64 (3 : Int)).toNat : Int) = _
  rw [BitVec.toNat_and, h1, h2, Nat.and_two_pow_sub_one_eq_mod z 2, IntKind.wrap_i64]
  omega
theorem pow4_le (h : Nat) (hh : h ≤ 6) : 4 ^ h ≤ 4096 := Nat.pow_le_pow_right (n := 4) (by decide) hh
theorem mayBe_yes (h : Nat) (hh : h ≤ 6) (w : World) : Calls Tryz.prog 251 #[.int .i64 (h : Int)] w fun e w' => e = .returned (.bool true) ∧ w = w' := by
  have hd : decide ((h : Int) ≤ 6) = true := decide_eq_true (by omega)
  go_enter Tryz.func251, Tryz.ntmps251
  go_wp2
  go_ret
  exact ⟨rfl, rfl⟩
theorem mayBe_no (h : Int) (hh : h < 0 ∨ 6 < h) (w : World) : Calls Tryz.prog 251 #[.int .i64 h] w fun e w' => e = .returned (.bool false) ∧ w = w' := by
  go_enter Tryz.func251, Tryz.ntmps251
  rcases hh with hh | hh
  · go_wp2
    go_ret
    exact ⟨rfl, rfl⟩
  · have h0 : 0 ≤ h := by omega
    have hd : decide (h ≤ 6) = false := decide_eq_false (by omega)
    go_wp2
    go_ret
    exact ⟨rfl, rfl⟩
theorem wrap_pow4 (p h : Nat) (hp : p * 4 ^ h < 9223372036854775808) : wrap64 ((p : Int) * 2 ^ (2 * h)) = ((p * 4 ^ h : Nat) : Int) := by
  have e : ((p : Int) * 2 ^ (2 * h)) = ((p * 4 ^ h : Nat) : Int) := by
    rw [show (4 : Nat) ^ h = 2 ^ (2 * h) by rw [Nat.pow_mul]]
    push_cast
    rfl
  rw [e, ← IntWalk.i64_left, IntKind.wrap_i64]
  omega
theorem firstLeaf_any (h p c : Nat) (hh : h ≤ 6) (hc : p * 4 ^ h = c) (hp : p < 1099511627776) (w : World) : Calls Tryz.prog 252 #[.int .i64 (h : Int), .int .i64 (p : Int)] w fun e w' => e = .returned (.int .i64 (c : Int)) ∧ w = w' := by
  have hq : p * 4 ^ h < 9223372036854775808 := by
    have h1 := pow4_le h hh
    have h2 := Nat.mul_le_mul (Nat.le_of_lt hp) h1
    omega
  have h1 : (h : Int) ≤ 6 := by omega
  go_enter Tryz.func252, Tryz.ntmps252
  go_wp2
  go_ret
  refine ⟨congrArg (fun x => Ending.returned (.int .i64 x)) ?_, rfl⟩
  rw [← hc]
  exact wrap_pow4 p h hq
theorem capacity_ok (h c : Nat) (hh : h ≤ 6) (hc : 4 ^ h = c) (w : World) : Calls Tryz.prog 231 #[.int .i64 (h : Int)] w fun e w' => e = .returned (.tuple #[.int .i64 (c : Int), .int .i64 0]) ∧ w = w' := by
  go_enter Tryz.func231, Tryz.ntmps231
  go_wp2_with fail
  refine (mayBe_yes h hh w).mono ?_
  rintro e _ ⟨rfl, rfl⟩
  go_wp2_with fail
  refine (firstLeaf_any h 1 c hh (by omega) (by decide) w).mono ?_
  rintro e _ ⟨rfl, rfl⟩
  go_wp2_with fail
  go_ret2
  exact ⟨rfl, rfl⟩
/-- the place at step i of a way -/
def wayN (h p : Nat) : Nat → Nat := fun i => p / 4 ^ (h - 1 - i) % 4
theorem tinfoInt : (Tryz.prog.info? 3).map (fun i => (i.zero, i.size, i.bytes)) = some (some (.int .i64 0), 1, 8) := by kernel_rfl
theorem tinfo_parts {t : TypeId} {z : Value} {n b : Nat} (h : (Tryz.prog.info? t).map (fun i => (i.zero, i.size, i.bytes)) = some (some z, n, b)) : ∃ i, Tryz.prog.info? t = some i ∧ i.zero = some z ∧ i.size = n ∧ i.bytes = b := by
  cases hq : Tryz.prog.info? t with
  | none => simp [hq] at h
  | some i =>
    simp [hq] at h
    exact ⟨i, rfl, h.1, h.2.1, h.2.2⟩
theorem tmade_one (v : Value) (n : Nat) : madeCells #[v] n = va n fun _ => v := by
  refine va_ext (size_madeCells _ _) fun i hi => ?_
  unfold madeCells
  simp [hi, Nat.mod_one]
theorem tmake_ints (n : Nat) (hn : n ≤ 8192) (w : World) : (Instr.makeSlice 78 (.int .i64 (n : Int)) (.int .i64 (n : Int))).run Tryz.prog w = .ok (.slice (some ⟨w.heap.size, 0, none⟩) n n) (w.alloc (.cells (va n (iv .i64 fun _ => 0)) 3)) := by
  obtain ⟨i0, hi, hz0, hz1, hz2⟩ := tinfo_parts tinfoInt
  have := run_make (P := Tryz.prog) w 78 3 i0 (.int .i64 0) Tryz.underlying78 hi hz0 .i64 .i64 (n : Int) (n : Int) (by omega) (Int.le_refl _) (by rw [hz2]; omega) (by omega)
  rw [hz1] at this
  simp only [Int.toNat_natCast, Value.cells, tmade_one, Nat.mul_one] at this
  exact this
theorem shr_way (p k : Nat) : (p : Int) / 2 ^ (2 * k) = ((p / 4 ^ k : Nat) : Int) := by
  rw [show (4 : Nat) ^ k = 2 ^ (2 * k) by rw [Nat.pow_mul]]
  push_cast
  rfl
set_option maxHeartbeats 1000000 in
theorem way_ok (h p : Nat) (hh : h ≤ 6) (hp : p < 4 ^ h) (w : World) : Calls Tryz.prog 247 #[.int .i64 (h : Int), .int .i64 (p : Int)] w fun e w' => e = .returned (.tuple #[.slice (some ⟨w.heap.size, 0, none⟩) h h, .int .i64 0]) ∧ Blk w' w.heap.size 3 (va h (iv .i64 (wayN h p))) ∧ Below w.heap.size w w' := by
  obtain ⟨c, hc⟩ : ∃ c, 4 ^ h = c := ⟨_, rfl⟩
  have hc4 : c ≤ 4096 := hc ▸ pow4_le h hh
  rw [hc] at hp
  have hmk := tmake_ints h (by omega)
  have h6 : (h : Int) ≤ 6 := by omega
  have hd1 : decide ((p : Int) < 0) = false := decide_eq_false (by omega)
  have hd2 : decide (c ≤ p) = false := decide_eq_false (by omega)
  have HC : Hid (4 ^ h = c) := hc
  clear hc
  go_enter Tryz.func247, Tryz.ntmps247
  go_wp2_with fail
  refine (capacity_ok h c hh HC.out w).mono ?_
  rintro e _ ⟨rfl, rfl⟩
  go_wp2_with fail
  have b0 := Blk.new w 3 (va h (iv .i64 fun _ => 0))
  have hb0 : Below w.heap.size w (w.alloc (.cells (va h (iv .i64 fun _ => 0)) 3)) := (Below.refl _ _).alloc (Nat.le_refl _) _
  generalize (w.alloc (.cells (va h (iv .i64 fun _ => 0)) 3)) = w1 at *
  go_loopw [29] (fun i wr => ∃ k : Nat, k ≤ h ∧ i = .int .i64 (k : Int) ∧ Blk wr w.heap.size 3 (va h (iv .i64 (fupN k (wayN h p) fun _ => 0))) ∧ Below w.heap.size w wr) (fun i _ => h - (intOf i).toNat)
  case atStart => exact ⟨0, Nat.zero_le _, rfl, by rw [fup_zero]; exact b0, hb0⟩
  case round =>
    clear b0 hb0
    obtain ⟨k, hk, rfl, bk, hb⟩ := hrel
    by_cases hlt : k < h
    · have hfz := bk.frozen k
      have hcv := bk.cv hlt
      obtain ⟨l, hl⟩ : ∃ l : Nat, l = h - 1 - k := ⟨_, rfl⟩
      have hl1 : (h : Int) - 1 - (k : Int) = (l : Int) := by omega
      have hl6 : (l : Int) ≤ 6 := by omega
      have hv : bits .and .i64 ((p : Int) / 2 ^ (2 * (h - 1 - k))) 3 = ((wayN h p k : Nat) : Int) := by
        rw [shr_way, and3 _ (Nat.lt_of_le_of_lt (Nat.div_le_self _ _) (by omega))]
        rfl
      have bk1 := bk.put k (.int .i64 (wayN h p k : Int))
      rw [va_set, fup_step] at bk1
      go_wp2_with fail
      refine ⟨⟨k + 1, hlt, rfl, bk1, hb.setCell (p := ⟨w.heap.size, k, none⟩) (Nat.le_refl _) _⟩, ?_⟩
      simp only [intOf]
      omega
    · have hkh : k = h := by omega
      subst hkh
      go_wp2_with fail
      go_ret2
      refine ⟨rfl, ?_, hb⟩
      rw [fup_all _ _ _ _ _ (Nat.le_refl _)] at bk
      exact bk
end Go.Proofs.YtojnlmfahgeidaaGreatDoor

namespace Go.Proofs.YtojnlmfahgeidaaGreatDoor
open Go Go.RowKit
set_option linter.unusedSimpArgs false
set_option linter.unusedVariables false

theorem le4_dig (n : Nat) (h : n < 4294967296) : le4 (dig n 0) (dig n 1) (dig n 2) (dig n 3) = n := by
  unfold le4 dig
  simp
  omega
/-- what Encode lays, Decode takes -/
theorem decR_of (s : ByteArray) (a : Nat) (r : Rf) (hr : r.1 < 4294967296) (h : ∀ j, j < 36 → tbyte s (a + j) = encR r j) : decR s a = r := by
  obtain ⟨n, d⟩ := r
  unfold decR at4
  have e : ∀ j, j < 4 → tbyte s (a + j) = dig n j := fun j hj => by
    rw [h j (by omega)]
    unfold encR
    rw [if_pos hj]
  have e0 : tbyte s a = dig n 0 := e 0 (by decide)
  rw [e0, e 1 (by decide), e 2 (by decide), e 3 (by decide), le4_dig n hr]
  have e2 : (sumD fun i => tbyte s (a + 4 + i)) = d := dF_inj fun i hi => by
    rw [dF_sumD _ i hi]
    have := h (4 + i) (by omega)
    rw [show a + (4 + i) = a + 4 + i by omega] at this
    rw [this]
    unfold encR
    rw [if_neg (by omega), show 4 + i - 4 = i by omega]
  rw [e2]
end Go.Proofs.YtojnlmfahgeidaaGreatDoor

namespace Go.Proofs.YtojnlmfahgeidaaGreatDoor
open Go Go.RowKit
set_option linter.unusedSimpArgs false
set_option linter.unusedVariables false

/-- a tree's cells -/
def trF (h : Int) (R : Rf) : Nat → Value := fun i => if i = 0 then .int .i64 h else rfF R.1 R.2 (i - 1)
def trC (h : Int) (R : Rf) : Array Value := va 34 (trF h R)
/-- a position's cells -/
def poF (l p : Int) (R : Rf) : Nat → Value := fun i => if i = 0 then .int .i64 l else if i = 1 then .int .i64 p else rfF R.1 R.2 (i - 2)
def poC (l p : Int) (R : Rf) : Array Value := va 35 (poF l p R)
theorem trC_size (h : Int) (R : Rf) : (trC h R).size = 34 := va_size _ _
theorem poC_size (l p : Int) (R : Rf) : (poC l p R).size = 35 := va_size _ _
theorem trC_all (h : Int) (R : Rf) : (trC h R).all (·.oneCell') = true := va_one fun i _ => by
  unfold trF
  split
  · rfl
  · exact rfF_one _ _ _
theorem poC_all (l p : Int) (R : Rf) : (poC l p R).all (·.oneCell') = true := va_one fun i _ => by
  unfold poF
  split
  · rfl
  · split
    · rfl
    · exact rfF_one _ _ _
theorem sizeTr : (Tryz.prog.info? 122).map (·.size) = some 34 := by kernel_rfl
theorem sizePo : (Tryz.prog.info? 370).map (·.size) = some 35 := by kernel_rfl
theorem tsizeRef : (Tryz.prog.info? 120).map (·.size) = some 33 := by kernel_rfl
theorem zero_po (w : World) : (zeroValue 370).run Tryz.prog w = .ok (.agg (poC 0 0 rf0)) w := zero_of (by kernel_rfl) w
theorem built_po2 (l : Int) (R : Rf) : Tryz.prog.built 370 [(0, .int .i64 l), (2, .agg (rfC R))] = some (poC l 0 R) := by kernel_rfl
theorem tr_range {w : World} {b t : Nat} {h : Int} {R : Rf} (H : Blk w b t (trC h R)) : w.rangeAt b 1 ((List.range 33).map (rfF R.1 R.2)) := by
  have := Blk.range (n := 34) (f := trF h R) H 1 33 (by decide)
  rw [show ((List.range 33).map fun j => trF h R (1 + j)) = (List.range 33).map (rfF R.1 R.2) from List.map_congr_left fun j hj => ?_] at this
  · exact this
  · unfold trF
    rw [if_neg (by omega), show 1 + j - 1 = j by omega]
theorem po_range {w : World} {b t : Nat} {l p : Int} {R : Rf} (H : Blk w b t (poC l p R)) : w.rangeAt b 2 ((List.range 33).map (rfF R.1 R.2)) := by
  have := Blk.range (n := 35) (f := poF l p R) H 2 33 (by decide)
  rw [show ((List.range 33).map fun j => poF l p R (2 + j)) = (List.range 33).map (rfF R.1 R.2) from List.map_congr_left fun j hj => ?_] at this
  · exact this
  · unfold poF
    rw [if_neg (by omega), if_neg (by omega), show 2 + j - 2 = j by omega]
theorem tr_build2 {P : Program} {ops : Array Oper} {rest : List Oper} {o : Oper} {a : Act} {w : World} {Q : Exit → Act → World → Prop} (hg : o.guard = none) (t : TypeId) (i j : Nat) (x y : Operand) (ho : o.op = .build t #[(i, x), (j, y)]) (vx vy : Value) (hx : a.eval x = vx) (hy : a.eval y = vy)
    (cells : Array Value) (hf : P.built t [(i, vx), (j, vy)] = some cells) (h : wpList P ops Q rest (a.put o.dst (.agg cells)) w) : wpList P ops Q (o :: rest) a w := by
  refine wpList_buildTo hg t _ ho o.dst rfl cells ?_ h
  have e : (Array.map (fun (x : Nat × Operand) => match x with | (i, x) => (i, a.eval x)) #[(i, x), (j, y)]).toList = [(i, vx), (j, vy)] := by simp [hx, hy]
  rw [e]
  exact hf
set_option maxRecDepth 100000 in
set_option maxHeartbeats 4000000 in
theorem root_any (h : Int) (R : Rf) (w : World) : Calls Tryz.prog 248 #[.agg (trC h R)] w fun x w' => x = .returned (.agg (poC h 0 R)) ∧ Below w.heap.size w w' := by
  have hz := zero_po
  have hb1 : Below w.heap.size w ((w.alloc (.cells (trC h R) 122)).alloc (.cells (poC 0 0 rf0) 370)) := below_new2 _ _ _
  have t1 : Blk ((w.alloc (.cells (trC h R) 122)).alloc (.cells (poC 0 0 rf0) 370)) w.heap.size 122 (trC h R) := (Blk.new _ _ _).alloc _
  have p1 : Blk ((w.alloc (.cells (trC h R) 122)).alloc (.cells (poC 0 0 rf0) 370)) (w.heap.size + 1) 370 (poC 0 0 rf0) := Blk.new1 _ _ _ _
  have z1 : ((w.alloc (.cells (trC h R) 122)).alloc (.cells (poC 0 0 rf0) 370)).cell? ⟨w.heap.size, 0, none⟩ = some (.int .i64 h) := (t1.cell 0).trans (va_at (trF h R) (by decide))
  have HR : Hid (((w.alloc (.cells (trC h R) 122)).alloc (.cells (poC 0 0 rf0) 370)).rangeAt w.heap.size 1 ((List.range 33).map (rfF R.1 R.2))) := tr_range t1
  have HB : Hid (Tryz.prog.built 370 [(0, .int .i64 h), (2, .agg (rfC R))] = some (poC h 0 R)) := built_po2 h R
  go_enter Tryz.func248, Tryz.ntmps248
  go_wp2_with (first
    | (refine wpList_load_blk (by rfl) 120 _ (by rfl) (w.heap.size) (1) 33 (rfF R.1 R.2) (by rfl) _ (by exact HR.out) Tryz.underlying120 rfl tsizeRef ?_; simp only [Act.put, List.setIfInBounds_toArray, List.set_cons_zero, List.set_cons_succ])
    | (refine tr_build2 (by rfl) 370 0 2 _ _ (by rfl) (.int .i64 h) (.agg (rfC R)) (by rfl) (by rfl) (poC h 0 R) (by exact HB.out) ?_; simp only [Act.put, List.setIfInBounds_toArray, List.set_cons_zero, List.set_cons_succ])
    | (refine wpList_store_row (by rfl) 370 _ _ (by rfl) (w.heap.size + 1) (poC h 0 R) (by rfl) (by rfl) 370 (_) (by exact p1) (sizePo.trans (by rw [poC_size])) (by simp only [poC_size]) (poC_all _ _ _) ?_; simp only [Act.put, List.setIfInBounds_toArray, List.set_cons_zero, List.set_cons_succ])
    | fail)
  try simp only [Exit.inBlock, Exit.then]
  refine bodyPost_ret (results_cell_row Tryz.results248 _ _ (w.heap.size + 1) 370 (poC h 0 R) (0, 0) _ rfl (p1.set _) Tryz.underlying370 rfl (sizePo.trans (by rw [poC_size]))) rfl ?_
  exact ⟨rfl, below_setRow hb1 (by omega) _⟩
end Go.Proofs.YtojnlmfahgeidaaGreatDoor
