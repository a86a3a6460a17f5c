/- Touched of a grown tree in which no leaf was set. -/
import Derived.Shelf.SlIterI.Nil
import Derived.Shelf.SortM.Plain
import Derived.Shelf.SortM.SortNone
import Derived.Test.YtppagdmlfgialaaGreatDoorProg
import Derived.WideKeyElems
import Derived.Handy
import Derived.Great.BuildSlice
import Derived.Test.YtppagdmlfgialaaGreatDoorHBlkGrp
import Derived.Test.YtppagdmlfgialaaGreatDoorHIntMap
import Derived.Deep.MidRow
import Derived.BigQuiet
import Derived.Deep.QuietTactic
import Derived.Deep.DeepCutAuto
import Derived.Deep.Cut
import Derived.Test.YtppagdmlfgialaaGreatDoorHTrRGet
import Derived.Test.YtppagdmlfgialaaGreatDoorHLvStep
import Derived.Test.YtppagdmlfgialaaGreatDoorHNdKit
import Derived.Lib.SlBytesConst
import Derived.ArgAppend
import Derived.Lib.AppendZerosOnto
import Derived.Lib.Walk
import Derived.Test.YtppagdmlfgialaaGreatDoorHSegsP

namespace Go.Proofs.YtppagdmlfgialaaGreatDoor
theorem sgLHGrNone : (∀ (α : Type) (a : α) (l r : List α), (a :: l) ++ r = a :: (l ++ r)) ∧ (∀ (α : Type) (l : List α), [] ++ l = l) ∧ (∀ (α : Type) (l : List α), l ++ [] = l) ∧ (∀ (α β : Type) (f : α → Option β) (a : α) (l : List α), (a :: l).filterMap f = match f a with | none => l.filterMap f | some b => b :: l.filterMap f) ∧ (∀ (α β : Type) (f : α → Option β), [].filterMap f = []) ∧ (∀ (α : Type) (l : List α) (i : Nat), l.toArray[i]? = l[i]?) ∧ (∀ (α : Type) (a : α) (l : List α), (a :: l)[0]? = some a) ∧ (∀ (α : Type) (a : α) (l : List α) (i : Nat), (a :: l)[i + 1]? = l[i]?) :=
  ⟨fun _ _ _ _ => List.cons_append, fun _ _ => List.nil_append _, fun _ _ => List.append_nil _, fun _ _ _ _ _ => List.filterMap_cons, fun _ _ _ => List.filterMap_nil, fun _ _ _ => List.getElem?_toArray, fun _ _ _ => List.getElem?_cons_zero, fun _ _ _ _ => List.getElem?_cons_succ⟩
theorem sgPHGrNone : (∀ (α : Type) (l : List α) (i : Nat) (a : α), l.toArray.setIfInBounds i a = (l.set i a).toArray) ∧ (∀ (α : Type) (a b : α) (l : List α), (a :: l).set 0 b = b :: l) ∧ (∀ (α : Type) (a b : α) (l : List α) (i : Nat), (a :: l).set (i + 1) b = a :: l.set i b) :=
  ⟨fun _ _ _ _ => List.setIfInBounds_toArray _ _ _, fun _ _ _ _ => List.set_cons_zero, fun _ _ _ _ _ => List.set_cons_succ⟩
end Go.Proofs.YtppagdmlfgialaaGreatDoor
namespace Go.Proofs
open Go.Shelf
def Tryz.keysA_ren : Go.Shelf.Ren := ⟨fun | 7 => 207 | 10 => 264 | n => n, fun | 23 => 220 | 26 => 3 | 3 => 141 | 28 => 334 | 0 => 0 | 27 => 333 | 33 => 59 | 4 => 4 | n => n, fun | n => n⟩
theorem Tryz.keysA : Go.Proofs.SlLaysZI.n7 Tryz.prog Tryz.keysA_ren := {
  mixed := by kernel_rfl
  f7 := ⟨Tryz.f207.name, by decide, Tryz.func207.trans (congrArg some (by kernel_rfl))⟩
  f10 := ⟨Tryz.f264.name, by decide, Tryz.func264.trans (congrArg some (by kernel_rfl))⟩
  t0 := Tryz.underlying0
  a0 := Tryz.isAgg0
  z0 := Tryz.sizeOf0
  v0 := Tryz.zeroValue0
  t4 := Tryz.underlying4
  a4 := Tryz.isAgg4
  z4 := Tryz.sizeOf4
  v4 := Tryz.zeroValue4
  t23 := Tryz.underlying220
  a23 := Tryz.isAgg220
  z23 := Tryz.sizeOf220
  v23 := Tryz.zeroValue220
  t26 := Tryz.underlying3
  a26 := Tryz.isAgg3
  z26 := Tryz.sizeOf3
  v26 := Tryz.zeroValue3
  t27 := Tryz.underlying333
  a27 := Tryz.isAgg333
  z27 := Tryz.sizeOf333
  v27 := Tryz.zeroValue333
  t28 := Tryz.underlying334
  a28 := Tryz.isAgg334
  z28 := Tryz.sizeOf334
  v28 := Tryz.zeroValue334
  t33 := Tryz.underlying59
  a33 := Tryz.isAgg59
  z33 := Tryz.sizeOf59
  v33 := Tryz.zeroValue59 }
def Tryz.sortedA_ren : Go.Shelf.Ren := ⟨fun | 6 => 206 | 8 => 263 | 9 => 129 | 11 => 308 | 13 => 196 | 12 => 195 | 23 => 254 | 24 => 255 | 14 => 245 | 15 => 246 | 16 => 247 | 17 => 248 | 18 => 249 | 19 => 250 | 20 => 251 | 21 => 252 | 22 => 253 | 25 => 300 | 26 => 301 | 27 => 302 | 28 => 303 | 29 => 304 | 30 => 305 | 31 => 326 | n => n, fun | 26 => 3 | 28 => 334 | 24 => 135 | 0 => 0 | 3 => 3 | 37 => 209 | 48 => 37 | 50 => 36 | 4 => 4 | 40 => 371 | 39 => 370 | 45 => 278 | 5 => 5 | 9 => 9 | 51 => 414 | 55 => 417 | 57 => 442 | 58 => 443 | 33 => 59 | n => n, fun | n => n⟩
theorem Tryz.sortedA : Go.Proofs.SlLaysZI.n6 Tryz.prog Tryz.sortedA_ren := {
  mixed := by kernel_rfl
  f6 := ⟨Tryz.f206.name, by decide, Tryz.func206.trans (congrArg some (by kernel_rfl))⟩
  f8 := ⟨Tryz.f263.name, by decide, Tryz.func263.trans (congrArg some (by kernel_rfl))⟩
  f11 := ⟨Tryz.f308.name, by decide, Tryz.func308.trans (congrArg some (by kernel_rfl))⟩
  t0 := Tryz.underlying0
  a0 := Tryz.isAgg0
  z0 := Tryz.sizeOf0
  v0 := Tryz.zeroValue0
  t24 := Tryz.underlying135
  a24 := Tryz.isAgg135
  z24 := Tryz.sizeOf135
  v24 := Tryz.zeroValue135
  t26 := Tryz.underlying3
  a26 := Tryz.isAgg3
  z26 := Tryz.sizeOf3
  v26 := Tryz.zeroValue3
  t28 := Tryz.underlying334
  a28 := Tryz.isAgg334
  z28 := Tryz.sizeOf334
  v28 := Tryz.zeroValue334
  i26 := by kernel_rfl }
def Tryz.sortA_ren : Go.Shelf.Ren := ⟨fun | 5 => 129 | 8 => 196 | 7 => 195 | 19 => 254 | 20 => 255 | 10 => 245 | 11 => 246 | 12 => 247 | 13 => 248 | 14 => 249 | 15 => 250 | 16 => 251 | 17 => 252 | 18 => 253 | 30 => 300 | 31 => 301 | 32 => 302 | 33 => 303 | 34 => 304 | 35 => 305 | 40 => 326 | n => n, fun | 23 => 135 | 25 => 3 | 3 => 3 | 32 => 209 | 22 => 135 | 0 => 0 | 44 => 37 | 46 => 36 | 4 => 4 | 36 => 371 | 35 => 370 | 41 => 278 | 5 => 5 | 9 => 9 | 53 => 414 | 57 => 417 | 63 => 442 | 64 => 443 | n => n, fun | n => n⟩
theorem Tryz.sortA : Go.Proofs.SlLaysM.n5 Tryz.prog Tryz.sortA_ren := {
  mixed := by kernel_rfl
  f5 := ⟨Tryz.f129.name, by decide, Tryz.func129.trans (congrArg some (by kernel_rfl))⟩
  f7 := ⟨Tryz.f195.name, by decide, Tryz.func195.trans (congrArg some (by kernel_rfl))⟩
  f8 := Tryz.func196.trans (congrArg some (by kernel_rfl))
  f10 := ⟨Tryz.f245.name, by decide, Tryz.func245.trans (congrArg some (by kernel_rfl))⟩
  f11 := ⟨Tryz.f246.name, by decide, Tryz.func246.trans (congrArg some (by kernel_rfl))⟩
  f12 := ⟨Tryz.f247.name, by decide, Tryz.func247.trans (congrArg some (by kernel_rfl))⟩
  f13 := ⟨Tryz.f248.name, by decide, Tryz.func248.trans (congrArg some (by kernel_rfl))⟩
  f14 := ⟨Tryz.f249.name, by decide, Tryz.func249.trans (congrArg some (by kernel_rfl))⟩
  f15 := ⟨Tryz.f250.name, by decide, Tryz.func250.trans (congrArg some (by kernel_rfl))⟩
  f16 := ⟨Tryz.f251.name, by decide, Tryz.func251.trans (congrArg some (by kernel_rfl))⟩
  f17 := ⟨Tryz.f252.name, by decide, Tryz.func252.trans (congrArg some (by kernel_rfl))⟩
  f18 := ⟨Tryz.f253.name, by decide, Tryz.func253.trans (congrArg some (by kernel_rfl))⟩
  f19 := Tryz.func254.trans (congrArg some (by kernel_rfl))
  f20 := Tryz.func255.trans (congrArg some (by kernel_rfl))
  f30 := ⟨Tryz.f300.name, by decide, Tryz.func300.trans (congrArg some (by kernel_rfl))⟩
  f31 := Tryz.func301.trans (congrArg some (by kernel_rfl))
  f32 := Tryz.func302.trans (congrArg some (by kernel_rfl))
  f33 := ⟨Tryz.f303.name, by decide, Tryz.func303.trans (congrArg some (by kernel_rfl))⟩
  f34 := ⟨Tryz.f304.name, by decide, Tryz.func304.trans (congrArg some (by kernel_rfl))⟩
  f35 := ⟨Tryz.f305.name, by decide, Tryz.func305.trans (congrArg some (by kernel_rfl))⟩
  f40 := ⟨Tryz.f326.name, by decide, Tryz.func326.trans (congrArg some (by kernel_rfl))⟩
  t0 := Tryz.underlying0
  a0 := Tryz.isAgg0
  z0 := Tryz.sizeOf0
  v0 := Tryz.zeroValue0
  t3 := Tryz.underlying3
  a3 := Tryz.isAgg3
  z3 := Tryz.sizeOf3
  v3 := Tryz.zeroValue3
  t4 := Tryz.underlying4
  a4 := Tryz.isAgg4
  z4 := Tryz.sizeOf4
  v4 := Tryz.zeroValue4
  t5 := Tryz.underlying5
  a5 := Tryz.isAgg5
  z5 := Tryz.sizeOf5
  v5 := Tryz.zeroValue5
  t9 := Tryz.underlying9
  a9 := Tryz.isAgg9
  z9 := Tryz.sizeOf9
  v9 := Tryz.zeroValue9
  t22 := Tryz.underlying135
  a22 := Tryz.isAgg135
  z22 := Tryz.sizeOf135
  v22 := Tryz.zeroValue135
  t23 := Tryz.underlying135
  a23 := Tryz.isAgg135
  z23 := Tryz.sizeOf135
  v23 := Tryz.zeroValue135
  t25 := Tryz.underlying3
  a25 := Tryz.isAgg3
  z25 := Tryz.sizeOf3
  v25 := Tryz.zeroValue3
  t32 := Tryz.underlying209
  a32 := Tryz.isAgg209
  z32 := Tryz.sizeOf209
  v32 := Tryz.zeroValue209
  t35 := Tryz.underlying370
  a35 := Tryz.isAgg370
  z35 := Tryz.sizeOf370
  v35 := Tryz.zeroValue370
  t36 := Tryz.underlying371
  a36 := Tryz.isAgg371
  z36 := Tryz.sizeOf371
  v36 := Tryz.zeroValue371
  t41 := Tryz.underlying278
  a41 := Tryz.isAgg278
  z41 := Tryz.sizeOf278
  v41 := Tryz.zeroValue278
  t44 := Tryz.underlying37
  a44 := Tryz.isAgg37
  z44 := Tryz.sizeOf37
  v44 := Tryz.zeroValue37
  t46 := Tryz.underlying36
  a46 := Tryz.isAgg36
  z46 := Tryz.sizeOf36
  v46 := Tryz.zeroValue36
  t53 := Tryz.underlying414
  a53 := Tryz.isAgg414
  z53 := Tryz.sizeOf414
  v53 := Tryz.zeroValue414
  t57 := Tryz.underlying417
  a57 := Tryz.isAgg417
  z57 := Tryz.sizeOf417
  v57 := Tryz.zeroValue417
  t63 := Tryz.underlying442
  a63 := Tryz.isAgg442
  z63 := Tryz.sizeOf442
  v63 := Tryz.zeroValue442
  t64 := Tryz.underlying443
  a64 := Tryz.isAgg443
  z64 := Tryz.sizeOf443
  v64 := Tryz.zeroValue443 }
end Go.Proofs

namespace Go.Proofs.YtppagdmlfgialaaGreatDoor
open Go Go.RowKit Go.Maps Go.Sort Go.Shelf Go.Proofs
set_option linter.unusedSimpArgs false
set_option linter.unusedVariables false

/-- a map with the key 0 alone -/
def OneM (w : World) (r : Nat) (v : Value) : Prop := ∃ c, w.heap[r]? = some (.map #[{ key := .int .i64 0, val := v, born := c }] (c + 1))
theorem OneM.lt {w : World} {r : Nat} {v : Value} (h : OneM w r v) : r < w.heap.size := by
  obtain ⟨c, h⟩ := h
  exact (Array.getElem?_eq_some_iff.1 h).1
theorem OneM.keep {w w' : World} {r : Nat} {v : Value} (h : OneM w r v) (hb : w'.heap[r]? = w.heap[r]?) : OneM w' r v := by
  obtain ⟨c, h⟩ := h
  exact ⟨c, hb.trans h⟩
theorem OneM.below {w w' : World} {r B : Nat} {v : Value} (h : OneM w r v) (hb : Below B w w') (hr : r < B) : OneM w' r v := h.keep (hb.block r hr)
def gR : Value → Option (DataW Nat × List MemPlace) := fun _ => some (.nil, [])
theorem gown_slice {w : World} {B e size n : Nat} {v : Value} {xs : List Value} (h : w.ownsRow B e size v n xs) : ∃ a cap, v = .slice a n cap := by
  rcases h.2 with ⟨rfl, rfl⟩ | ⟨g, cap, cur, rfl, hb, hg, _⟩
  · exact ⟨none, 0, rfl⟩
  · exact ⟨_, cap, rfl⟩
/-- slices.Sort's two contracts -/
theorem grSorts (m : Nat) : AnyZI.SortsIn Tryz.prog Tryz.sortedA_ren Fence.wide m := /- 206 -/
  ⟨fun blk off cap ss W hH hblk hsz => callsIn_wide.2 (AnyM.slices_Sort_int Tryz.sortA blk off cap ss W hH hblk hsz),
   fun p cap W => callsIn_wide.2 (AnyM.slices_Sort_int_none Tryz.sortA p cap W)⟩
end Go.Proofs.YtppagdmlfgialaaGreatDoor

namespace Go.Proofs.YtppagdmlfgialaaGreatDoor
open Go Go.RowKit
theorem gr_build1 {P : Program} {ops : Array Oper} {rest : List Oper} {o : Oper} {a : Act} {w : World} {Q : Exit → Act → World → Prop} (hg : o.guard = none) (t : TypeId) (i : Nat) (x : Operand) (ho : o.op = .build t #[(i, x)]) (vx : Value) (hx : a.eval x = vx)
    (cells : Array Value) (hf : P.built t [(i, vx)] = some cells) (h : wpList P ops Q rest (a.put o.dst (.agg cells)) w) : wpList P ops Q (o :: rest) a w := by
  refine wpList_buildTo hg t _ ho o.dst rfl cells ?_ h
  have e : (Array.map (fun (x : Nat × Operand) => match x with | (i, x) => (i, a.eval x)) #[(i, x)]).toList = [(i, vx)] := by simp [hx]
  rw [e]
  exact hf
end Go.Proofs.YtppagdmlfgialaaGreatDoor

namespace Go.Proofs.YtppagdmlfgialaaGreatDoor
open Go Go.RowKit
set_option linter.unusedSimpArgs false
set_option linter.unusedVariables false

theorem gbelow_drewN {B : Nat} {w0 w : World} (h : Below B w0 w) (n : Nat) : Below B w0 (w.drewN n) := ⟨h.1, h.2, h.3, h.4, h.5⟩
/-- a part's cells: the level 0, the place 0, none ahead; whether it is there, whether it is new, its bytes -/
def ptF (th fr : Bool) (f : Nat → Nat) : Nat → Value := fun i => if i < 2 then .int .i64 0 else if i < 35 then rfF rf0.1 rf0.2 (i - 2) else if i < 68 then rfF rf0.1 rf0.2 (i - 35) else if i = 68 then .bool th else if i = 69 then .bool fr else if i < 326 then .int .u8 ((f (i - 70) : Nat) : Int) else .slice none 0 0
def ptC (th fr : Bool) (f : Nat → Nat) : Array Value := va 327 (ptF th fr f)
theorem ptC_size (th fr : Bool) (f : Nat → Nat) : (ptC th fr f).size = 327 := va_size _ _
theorem built_pt : Tryz.prog.built 265 [(0, .int .i64 0)] = some (ptC false false fun _ => 0) := by kernel_rfl
theorem gsizeRef : (Tryz.prog.info? 41).map (·.size) = some 33 := by kernel_rfl
section
variable {w : World} {b t : Nat} {th fr : Bool} {f : Nat → Nat}
theorem pt_c0 (H : Blk w b t (ptC th fr f)) : w.cell? ⟨b, 0, none⟩ = some (.int .i64 0) := H.cv (n := 327) (by decide)
theorem pt_c1 (H : Blk w b t (ptC th fr f)) : w.cell? ⟨b, 1, none⟩ = some (.int .i64 0) := H.cv (n := 327) (by decide)
theorem pt_there (H : Blk w b t (ptC th fr f)) (o m : Nat) (hm : o + m ≤ 327) : w.there b o m := Blk.there H o m (by rw [ptC_size]; exact hm)
end
section
variable {w : World} {g t m : Nat} {cp : Option Addr}
end
set_option maxRecDepth 100000 in
set_option maxHeartbeats 4000000 in
theorem gCapacity_0 (w : World) : Calls Tryz.prog 155 #[.int .i64 0] w fun x w' => x = .returned (.int .i64 1) ∧ w = w' := by
  have hC : Hid (∀ w, Calls Tryz.prog 128 #[.int .i64 0] w fun e w' => e = .returned (.tuple #[.int .i64 1, .int .i64 0]) ∧ w = w') := capacity_ok 0 1 (by decide) rfl
  go_enter Tryz.func155, Tryz.ntmps155
  go_wp2_with fail
  refine (hC.out _).mono ?_
  rintro e _ ⟨rfl, rfl⟩
  go_wp2_with fail
  go_ret
  exact ⟨rfl, rfl⟩
end Go.Proofs.YtppagdmlfgialaaGreatDoor

namespace Go.Proofs.YtppagdmlfgialaaGreatDoor
open Go Go.RowKit
set_option linter.unusedSimpArgs false
set_option linter.unusedVariables false

/-- a grown tree's cells: the cache, the standing tree, the height, the map, the end -/
def grF (cp : Option Addr) (h : Int) (R : Rf) (hh : Int) (mv : Option Nat) (e : Int) : Nat → Value := fun i => if i = 0 then .pointer cp else if i < 35 then trF h R (i - 1) else if i = 35 then .int .i64 hh else if i = 36 then .map mv else .int .i64 e
def grC (cp : Option Addr) (h : Int) (R : Rf) (hh : Int) (mv : Option Nat) (e : Int) : Array Value := va 38 (grF cp h R hh mv e)
theorem grC_size (cp : Option Addr) (h : Int) (R : Rf) (hh : Int) (mv : Option Nat) (e : Int) : (grC cp h R hh mv e).size = 38 := va_size _ _
theorem built_gr1 (cp : Option Addr) : Tryz.prog.built 222 [(0, .pointer cp)] = some (grC cp 0 rf0 0 none 0) := by kernel_rfl
section
variable {w : World} {b t : Nat} {cp : Option Addr} {h hh e : Int} {R : Rf} {mv : Option Nat}
theorem gr_c0 (H : Blk w b t (grC cp h R hh mv e)) : w.cell? ⟨b, 0, none⟩ = some (.pointer cp) := H.cv (n := 38) (by decide)
theorem gr_c1 (H : Blk w b t (grC cp h R hh mv e)) : w.cell? ⟨b, 1, none⟩ = some (.int .i64 h) := H.cv (n := 38) (by decide)
theorem gr_c35 (H : Blk w b t (grC cp h R hh mv e)) : w.cell? ⟨b, 35, none⟩ = some (.int .i64 hh) := H.cv (n := 38) (by decide)
theorem gr_c36 (H : Blk w b t (grC cp h R hh mv e)) : w.cell? ⟨b, 36, none⟩ = some (.map mv) := H.cv (n := 38) (by decide)
theorem gr_c37 (H : Blk w b t (grC cp h R hh mv e)) : w.cell? ⟨b, 37, none⟩ = some (.int .i64 e) := H.cv (n := 38) (by decide)
theorem gr_root (H : Blk w b t (grC cp h R hh mv e)) : w.rangeAt b 2 ((List.range 33).map (rfF R.1 R.2)) := by
  have := Blk.range (n := 38) (f := grF cp h R hh mv e) H 2 33 (by decide)
  rw [show ((List.range 33).map fun j => grF cp h R hh mv e (2 + j)) = (List.range 33).map (rfF R.1 R.2) from List.map_congr_left fun j hj => ?_] at this
  · exact this
  · have hj := List.mem_range.1 hj
    unfold grF trF
    rw [if_neg (by omega), if_pos (by omega), if_neg (by omega), show 2 + j - 1 - 1 = j by omega]
theorem gr_putTree (H : Blk w b t (grC cp h R hh mv e)) (h' : Int) (R' : Rf) : Blk (w.setCells b 1 (trC h' R').toList) b t (grC cp h' R' hh mv e) := by
  have := Blk.cells_put (n := 38) (trC h' R').toList 1 w (grF cp h R hh mv e) H
  rw [show va 38 (over (grF cp h R hh mv e) 1 (trC h' R').toList) = grC cp h' R' hh mv e from va_congr fun i hi => ?_] at this
  · exact this
  · unfold over trC
    rw [va_toList]
    simp only [List.length_map, List.length_range]
    by_cases hj : 1 ≤ i ∧ i < 1 + 34
    · rw [if_pos hj, List.getD_eq_getElem?_getD, List.getElem?_map, List.getElem?_range (by omega)]
      unfold grF
      rw [if_neg (by omega), if_pos (by omega)]
      rfl
    · rw [if_neg hj]
      unfold grF
      by_cases h0 : i = 0
      · rw [if_pos h0, if_pos h0]
      · have h1 : ¬ i < 35 := by omega
        rw [if_neg h0, if_neg h0, if_neg h1, if_neg h1]
theorem gr_putHeight (H : Blk w b t (grC cp h R hh mv e)) (x : Int) : Blk (w.setCell ⟨b, 35, none⟩ (.int .i64 x)) b t (grC cp h R x mv e) := by
  have := H.put 35 (.int .i64 x)
  rw [show (grC cp h R hh mv e).setIfInBounds 35 (.int .i64 x) = grC cp h R x mv e from ?_] at this
  · exact this
  · unfold grC
    rw [va_set]
    refine va_congr fun i hi => ?_
    unfold upd grF
    by_cases hj : i = 35
    · subst hj
      rfl
    · rw [if_neg hj]
      by_cases h0 : i = 0
      · rw [if_pos h0, if_pos h0]
      · rw [if_neg h0, if_neg h0]
        by_cases h1 : i < 35
        · rw [if_pos h1, if_pos h1]
        · rw [if_neg h1, if_neg h1]
          by_cases h2 : i = 35
          · first | exact absurd h2 hj | rw [if_pos h2, if_pos h2]
          · rw [if_neg h2, if_neg h2]
            all_goals by_cases h3 : i = 36
            all_goals first | exact absurd h3 hj | rw [if_pos h3, if_pos h3] | exact absurd (show i = 37 by omega) hj | rw [if_neg h3, if_neg h3]
theorem gr_putMap (H : Blk w b t (grC cp h R hh mv e)) (x : Option Nat) : Blk (w.setCell ⟨b, 36, none⟩ (.map x)) b t (grC cp h R hh x e) := by
  have := H.put 36 (.map x)
  rw [show (grC cp h R hh mv e).setIfInBounds 36 (.map x) = grC cp h R hh x e from ?_] at this
  · exact this
  · unfold grC
    rw [va_set]
    refine va_congr fun i hi => ?_
    unfold upd grF
    by_cases hj : i = 36
    · subst hj
      rfl
    · rw [if_neg hj]
      by_cases h0 : i = 0
      · rw [if_pos h0, if_pos h0]
      · rw [if_neg h0, if_neg h0]
        by_cases h1 : i < 35
        · rw [if_pos h1, if_pos h1]
        · rw [if_neg h1, if_neg h1]
          by_cases h2 : i = 35
          · first | exact absurd h2 hj | rw [if_pos h2, if_pos h2]
          · rw [if_neg h2, if_neg h2]
            all_goals by_cases h3 : i = 36
            all_goals first | exact absurd h3 hj | rw [if_pos h3, if_pos h3] | exact absurd (show i = 37 by omega) hj | rw [if_neg h3, if_neg h3]
theorem gr_putEnd (H : Blk w b t (grC cp h R hh mv e)) (x : Int) : Blk (w.setCell ⟨b, 37, none⟩ (.int .i64 x)) b t (grC cp h R hh mv x) := by
  have := H.put 37 (.int .i64 x)
  rw [show (grC cp h R hh mv e).setIfInBounds 37 (.int .i64 x) = grC cp h R hh mv x from ?_] at this
  · exact this
  · unfold grC
    rw [va_set]
    refine va_congr fun i hi => ?_
    unfold upd grF
    by_cases hj : i = 37
    · subst hj
      rfl
    · rw [if_neg hj]
      by_cases h0 : i = 0
      · rw [if_pos h0, if_pos h0]
      · rw [if_neg h0, if_neg h0]
        by_cases h1 : i < 35
        · rw [if_pos h1, if_pos h1]
        · rw [if_neg h1, if_neg h1]
          by_cases h2 : i = 35
          · first | exact absurd h2 hj | rw [if_pos h2, if_pos h2]
          · rw [if_neg h2, if_neg h2]
            all_goals by_cases h3 : i = 36
            all_goals first | exact absurd h3 hj | rw [if_pos h3, if_pos h3] | exact absurd (show i = 37 by omega) hj | rw [if_neg h3, if_neg h3]
end
set_option maxRecDepth 100000 in
set_option maxHeartbeats 4000000 in
theorem grCapacity_ok (h c : Nat) (hh : h ≤ 6) (hc : 4 ^ h = c) (w : World) : Calls Tryz.prog 155 #[.int .i64 (h : Int)] w fun x w' => x = .returned (.int .i64 (c : Int)) ∧ w = w' := by
  have hC : Hid (∀ w, Calls Tryz.prog 128 #[.int .i64 (h : Int)] w fun e w' => e = .returned (.tuple #[.int .i64 (c : Int), .int .i64 0]) ∧ w = w') := capacity_ok h c hh hc
  clear hc hh
  go_enter Tryz.func155, Tryz.ntmps155
  go_wp2_with fail
  refine (hC.out _).mono ?_
  rintro e _ ⟨rfl, rfl⟩
  go_wp2_with fail
  go_ret
  exact ⟨rfl, rfl⟩
end Go.Proofs.YtppagdmlfgialaaGreatDoor

namespace Go.Proofs.YtppagdmlfgialaaGreatDoor
open Go Go.RowKit
set_option linter.unusedSimpArgs false
set_option linter.unusedVariables false

set_option maxRecDepth 100000 in
set_option maxHeartbeats 4000000 in
theorem follow_root (h : Int) (R : Rf) (cp sa : Option Addr) (cap : Nat) (fv : Value) (w : World) : Calls Tryz.prog 215 #[.pointer cp, .agg (trC h R), .slice sa 0 cap, fv] w fun x w' => x = .returned (.tuple #[.agg (rfC R), .int .i64 0]) ∧ Below w.heap.size w w' := by
  have hz := zero_ref
  have hzp := zero_po
  have hb1 : Below w.heap.size w ((w.alloc (.cells (trC h R) 46)).alloc (.cells (rfC rf0) 41)) := below_new2 _ _ _
  have t1 : Blk ((w.alloc (.cells (trC h R) 46)).alloc (.cells (rfC rf0) 41)) w.heap.size 46 (trC h R) := (Blk.new _ _ _).alloc _
  have r1 : Blk ((w.alloc (.cells (trC h R) 46)).alloc (.cells (rfC rf0) 41)) (w.heap.size + 1) 41 (rfC rf0) := Blk.new1 _ _ _ _
  go_enter Tryz.func215, Tryz.ntmps215
  go_wp2_with (first
    | (refine wpList_load_rowg (by rfl) 46 _ (by rfl) (w.heap.size) (by rfl) 46 (trC h R) (0, 0) _ (by exact t1) Tryz.underlying46 (by rfl) (sizeTr.trans (by rw [trC_size])) ?_; simp only [Act.put, sgPHGrNone])
    | fail)
  generalize ((w.alloc (.cells (trC h R) 46)).alloc (.cells (rfC rf0) 41)) = w1 at *
  refine (root_any h R w1).mono ?_
  rintro x w2 ⟨rfl, hb2⟩
  have q0 := Blk.new w2 353 (poC 0 0 rf0)
  have q3 := q0.set (poC h 0 R)
  have hb3 : Below w2.heap.size w2 ((w2.alloc (.cells (poC 0 0 rf0) 353)).setRow w2.heap.size (poC h 0 R)) := below_setRow (below_new1 _ _) (Nat.le_refl _) _
  have hb13 : Below w1.heap.size w1 ((w2.alloc (.cells (poC 0 0 rf0) 353)).setRow w2.heap.size (poC h 0 R)) := hb2.trans (hb3.mono hb2.size)
  have r3 := r1.below hb13 r1.lt
  have HB3 : Hid (Below w.heap.size w ((w2.alloc (.cells (poC 0 0 rf0) 353)).setRow w2.heap.size (poC h 0 R))) := hb1.trans (hb13.mono hb1.size)
  clear hb2 hb3 hb13 hb1 t1 r1
  go_wp2_with (first
    | (refine wpList_store_row (by rfl) 353 _ _ (by rfl) (w2.heap.size) (poC h 0 R) (by rfl) (by rfl) 353 (_) (by exact q0) (sizePo.trans (by rw [poC_size])) (by simp only [poC_size]) (poC_all _ _ _) ?_; simp only [Act.put, sgPHGrNone])
    | fail)
  clear q0
  generalize ((w2.alloc (.cells (poC 0 0 rf0) 353)).setRow w2.heap.size (poC h 0 R)) = w3 at *
  generalize w2.heap.size = pb at *
  have HR3 : Hid (w3.rangeAt pb 2 ((List.range 33).map (rfF R.1 R.2))) := po_range q3
  clear q3
  refine wp_loop_rounds 1 ?_
  rw [rounds_succ]
  go_wp2_with (first
    | (refine wpList_load_blk (by rfl) 41 _ (by rfl) (pb) (2) 33 (rfF R.1 R.2) (by rfl) _ (by exact HR3.out) Tryz.underlying41 rfl tsizeRef ?_; simp only [Act.put, sgPHGrNone])
    | (refine wpList_store_row (by rfl) 41 _ _ (by rfl) (w.heap.size + 1) (rfC R) (by rfl) (by rfl) 41 (_) (by exact r3) (tsizeRef.trans (by rw [rfC_size])) (by simp only [rfC_size]) (rfC_all _) ?_; simp only [Act.put, sgPHGrNone])
    | fail)
  try simp only [Exit.inBlock, Exit.then]
  refine bodyPost_ret (results_row2 Tryz.results215 _ _ (w.heap.size + 1) 41 (rfC R) (0, 0) _ rfl (r3.set _) Tryz.underlying41 rfl (tsizeRef.trans (by rw [rfC_size]))) rfl ?_
  exact ⟨rfl, below_setRow HB3.out (by omega) _⟩
set_option maxRecDepth 100000 in
set_option maxHeartbeats 4000000 in
theorem ref_root (h : Int) (R : Rf) (hR : R.1 < 4294967296) (hD : okD R.2) (hok : trOk h R) (cp : Option Addr) (w : World) : Calls Tryz.prog 154 #[.pointer cp, .agg (trC h R), .int .i64 h, .int .i64 0] w fun x w' => x = .returned (.tuple #[.agg (rfC R), .int .i64 0]) ∧ Below w.heap.size w w' := by
  have hz := zero_ref
  have hb1 : Below w.heap.size w ((w.alloc (.cells (trC h R) 46)).alloc (.cells (rfC rf0) 41)) := below_new2 _ _ _
  have t1 : Blk ((w.alloc (.cells (trC h R) 46)).alloc (.cells (rfC rf0) 41)) w.heap.size 46 (trC h R) := (Blk.new _ _ _).alloc _
  have r1 : Blk ((w.alloc (.cells (trC h R) 46)).alloc (.cells (rfC rf0) 41)) (w.heap.size + 1) 41 (rfC rf0) := Blk.new1 _ _ _ _
  have HW : Hid (∀ w, Calls Tryz.prog 214 #[.agg (trC h R), .int .i64 h, .int .i64 0] w fun x w' => ∃ b, x = .returned (.tuple #[.slice (some ⟨b, 0, none⟩) 0 0, .int .i64 0]) ∧ w.heap.size ≤ b ∧ Blk w' b 3 (va 0 (iv .i64 (wayN 0 0))) ∧ Below w.heap.size w w') := fun w => wayTo_ok h R hR hD hok h 0 0 rfl ⟨hok.2.1, Int.le_refl _⟩ 0 (by omega) (by decide) w
  clear hR hD hok
  go_enter Tryz.func154, Tryz.ntmps154
  go_wp2_with (first
    | (refine wpList_load_rowg (by rfl) 46 _ (by rfl) (w.heap.size) (by rfl) 46 (trC h R) (0, 0) _ (by exact t1) Tryz.underlying46 (by rfl) (sizeTr.trans (by rw [trC_size])) ?_; simp only [Act.put, sgPHGrNone])
    | fail)
  generalize ((w.alloc (.cells (trC h R) 46)).alloc (.cells (rfC rf0) 41)) = w1 at *
  refine (HW.out w1).mono ?_
  rintro x w2 ⟨b, rfl, hbb, kb, hb2⟩
  have r2 := r1.below hb2 r1.lt
  have t2 := t1.below hb2 t1.lt
  have HB2 : Hid (Below w.heap.size w w2) := hb1.trans (hb2.mono hb1.size)
  clear hb1 hb2 t1 r1 hbb kb
  go_wp2_with (first
    | (refine wpList_load_rowg (by rfl) 46 _ (by rfl) (w.heap.size) (by rfl) 46 (trC h R) (0, 0) _ (by exact t2) Tryz.underlying46 (by rfl) (sizeTr.trans (by rw [trC_size])) ?_; simp only [Act.put, sgPHGrNone])
    | fail)
  refine (follow_root h R cp _ 0 _ w2).mono ?_
  rintro x w3 ⟨rfl, hb3⟩
  have r4 := r2.below hb3 r2.lt
  have HB4 : Hid (Below w.heap.size w w3) := HB2.out.trans (hb3.mono HB2.out.size)
  clear hb3 r2 t2 HB2
  go_wp2_with (first
    | (refine wpList_store_row (by rfl) 41 _ _ (by rfl) (w.heap.size + 1) (rfC R) (by rfl) (by rfl) 41 (_) (by exact r4) (tsizeRef.trans (by rw [rfC_size])) (by simp only [rfC_size]) (rfC_all _) ?_; simp only [Act.put, sgPHGrNone])
    | fail)
  try simp only [Exit.inBlock, Exit.then]
  refine bodyPost_ret (results_row2 Tryz.results154 _ _ (w.heap.size + 1) 41 (rfC R) (0, 0) _ rfl (r4.set _) Tryz.underlying41 rfl (tsizeRef.trans (by rw [rfC_size]))) rfl ?_
  exact ⟨rfl, below_setRow HB4.out (by omega) _⟩
set_option maxRecDepth 100000 in
set_option maxHeartbeats 4000000 in
theorem stand_ok {cp : Option Addr} {h0 hh0 e0 : Int} {R0 : Rf} {mv0 : Option Nat} (n c : Nat) (hn : n ≤ 6) (hc : 4 ^ n = c) (R R1 : Rf) (g : Nat) (hrf : ∀ w, Calls Tryz.prog 154 #[.pointer cp, .agg (trC (n : Int) R), .int .i64 (n : Int), .int .i64 0] w fun x w' => x = .returned (.tuple #[.agg (rfC R1), .int .i64 0]) ∧ Below w.heap.size w w') (w : World) (hg : Blk w g 222 (grC cp h0 R0 hh0 mv0 e0)) :
    Calls Tryz.prog 104 #[.pointer (some ⟨g, 0, none⟩), .agg (trC (n : Int) R)] w fun x w' => x = .returned (.int .i64 0) ∧ ∃ m, w.heap.size ≤ m ∧ (∃ k, w'.heap[m]? = some (.map #[] k)) ∧ Blk w' g 222 (grC cp (n : Int) R (n : Int) (some m) (c : Int)) ∧ Below g w w' := by
  have HC : Hid (∀ w, Calls Tryz.prog 155 #[.int .i64 (n : Int)] w fun x w' => x = .returned (.int .i64 (c : Int)) ∧ w = w') := grCapacity_ok n c hn hc
  clear hn hc
  have hz := zero_ref
  have hRef : Hid (∀ w, Calls Tryz.prog 154 #[.pointer cp, .agg (trC (n : Int) R), .int .i64 (n : Int), .int .i64 0] w fun x w' => x = .returned (.tuple #[.agg (rfC R1), .int .i64 0]) ∧ Below w.heap.size w w') := hrf
  have HB1 : Hid (Below w.heap.size w (w.alloc (.cells (trC (n : Int) R) 46))) := below_new1 w _
  have t1 : Blk (w.alloc (.cells (trC (n : Int) R) 46)) w.heap.size 46 (trC (n : Int) R) := Blk.new w _ _
  have g1 : Blk (w.alloc (.cells (trC (n : Int) R) 46)) g 222 (grC cp h0 R0 hh0 mv0 e0) := hg.alloc _
  have HGL : Hid (g < w.heap.size) := hg.lt
  clear hg hrf
  go_enter Tryz.func104, Tryz.ntmps104
  go_wp2_with fail
  generalize (w.alloc (.cells (trC (n : Int) R) 46)) = w1 at *
  go_cut [6] (fun v6 wx => v6 = .int .i64 0 ∧ Blk wx g 222 (grC cp h0 R0 hh0 mv0 e0) ∧ Blk wx w.heap.size 46 (trC (n : Int) R) ∧ Below w1.heap.size w1 wx)
  case first =>
    have hS0 : Blk w1.drew g 222 (grC cp h0 R0 hh0 mv0 e0) ∧ Blk w1.drew w.heap.size 46 (trC (n : Int) R) := ⟨g1, t1⟩
    have hwd : Below w1.heap.size w1 w1.drew := (Below.refl _ _).drew
    have HWS : Hid (w1.drew.heap.size = w1.heap.size) := rfl
    refine wp_region_plan (fun W => Blk W g 222 (grC cp h0 R0 hh0 mv0 e0) ∧ Blk W w.heap.size 46 (trC (n : Int) R)) (.yield [0] 1 (.yield [] 2 (.yield [] 3 (.yield [] 4 (.yield [] 5 (.yield [] 6 (.fork 7 11 (.force [8, 9, 10] 11 (.force [] 12 (.fin [13]))) (.force [] 7 (.force [8, 10] 9 (.force [] 12 (.fin [13]))))))))))) (by kernel_rfl) (by kernel_rfl) hS0 (plan_yield ?_)
    generalize w1.drew = wd at *
    simp only [sgLHGrNone]
    go_wp2_with fail
    refine ⟨rfl, _, .pointer (some ⟨g, 0, none⟩), rfl, Or.inl ⟨by rfl, fun W hW => by go_simp⟩, plan_yield ?_⟩
    simp only [Act.put, sgPHGrNone]
    simp only [sgLHGrNone]
    go_wp2_with fail
    refine ⟨rfl, _, .pointer (some ⟨g, 0, none⟩), rfl, Or.inl ⟨by rfl, fun W hW => by go_simp⟩, plan_yield ?_⟩
    simp only [Act.put, sgPHGrNone]
    simp only [sgLHGrNone]
    go_wp2_with fail
    refine ⟨rfl, _, .pointer cp, rfl, Or.inl ⟨by rfl, fun W hW => by have hW1 := gr_c0 hW.1; go_simp⟩, plan_yield ?_⟩
    simp only [Act.put, sgPHGrNone]
    simp only [sgLHGrNone]
    go_wp2_with fail
    refine ⟨rfl, _, .agg (trC (n : Int) R), rfl, kyields_load (by rfl) 46 _ (by rfl) w.heap.size 34 (trF (n : Int) R) (by rfl) _ 46 (fun W hW => hW.2) Tryz.underlying46 rfl sizeTr, plan_yield ?_⟩
    simp only [Act.put, sgPHGrNone]
    simp only [sgLHGrNone]
    go_wp2_with fail
    refine ⟨rfl, _, .pointer (some ⟨w.heap.size, 0, none⟩), rfl, Or.inl ⟨by rfl, fun W hW => by go_simp⟩, plan_yield ?_⟩
    simp only [Act.put, sgPHGrNone]
    simp only [sgLHGrNone]
    go_wp2_with fail
    refine ⟨rfl, _, .int .i64 (n : Int), rfl, Or.inl ⟨by rfl, fun W hW => by have hW1 : W.cell? ⟨w.heap.size, 0, none⟩ = some (.int .i64 (n : Int)) := hW.2.cv (n := 34) (by decide); go_simp⟩, plan_fork ?_ ?_⟩
    simp only [Act.put, sgPHGrNone]
    · simp only [sgLHGrNone]
      go_wp2_with fail
      refine (hRef.out _).mono ?_
      rintro e w2 ⟨rfl, hb2⟩
      have s2g := hS0.1.below hb2 hS0.1.lt
      have s2t := hS0.2.below hb2 hS0.2.lt
      go_wp2_with fail
      refine ⟨rfl, ⟨s2g, s2t⟩, plan_force ?_⟩
      simp only [sgLHGrNone]
      have q0 := Blk.new w2 41 (rfC rf0)
      go_wp2_with fail
      refine ⟨rfl, ⟨s2g.alloc _, s2t.alloc _⟩, plan_force ?_⟩
      simp only [sgLHGrNone]
      refine wpList_store_row (by rfl) 41 _ _ (by rfl) (w2.heap.size) (rfC R1) (by rfl) (by rfl) 41 (rfC rf0) q0 (tsizeRef.trans (by rw [rfC_size])) (by simp only [rfC_size]) (rfC_all _) ?_
      simp only [Act.put, sgPHGrNone]
      go_wp2_with fail
      refine ⟨rfl, ⟨(s2g.alloc _).other _ (Nat.ne_of_lt s2g.lt), (s2t.alloc _).other _ (Nat.ne_of_lt s2t.lt)⟩, plan_fin ?_⟩
      simp only [sgLHGrNone]
      go_wp2_with fail
      refine ⟨rfl, ?_⟩
      go_wp2_with fail
      go_meet
      have hws := HWS.out
      have hbx := hwd.trans (hb2.mono (B' := w1.heap.size) (by omega))
      exact ⟨rfl, (s2g.alloc _).other _ (Nat.ne_of_lt s2g.lt), (s2t.alloc _).other _ (Nat.ne_of_lt s2t.lt), below_setRow (hbx.alloc hbx.size _) hbx.size _⟩
    · simp only [sgLHGrNone]
      have q0 := Blk.new wd 41 (rfC rf0)
      go_wp2_with fail
      refine ⟨rfl, ⟨hS0.1.alloc _, hS0.2.alloc _⟩, plan_force ?_⟩
      simp only [sgLHGrNone]
      go_wp2_with fail
      refine (hRef.out _).mono ?_
      rintro e w2 ⟨rfl, hb2⟩
      have s2g := (hS0.1.alloc _).below hb2 (hS0.1.alloc _).lt
      have s2t := (hS0.2.alloc _).below hb2 (hS0.2.alloc _).lt
      have q2 := q0.below hb2 q0.lt
      have hb3 : Below wd.heap.size wd w2 := (below_new1 wd _).trans (hb2.mono (by simp))
      go_wp2_with fail
      refine ⟨rfl, ⟨s2g, s2t⟩, plan_force ?_⟩
      simp only [sgLHGrNone]
      go_wp2_with fail
      refine ⟨rfl, ⟨s2g, s2t⟩, plan_force ?_⟩
      simp only [sgLHGrNone]
      refine wpList_store_row (by rfl) 41 _ _ (by rfl) (wd.heap.size) (rfC R1) (by rfl) (by rfl) 41 (rfC rf0) q2 (tsizeRef.trans (by rw [rfC_size])) (by simp only [rfC_size]) (rfC_all _) ?_
      simp only [Act.put, sgPHGrNone]
      go_wp2_with fail
      refine ⟨rfl, ⟨s2g.other _ (Nat.ne_of_lt hS0.1.lt), s2t.other _ (Nat.ne_of_lt hS0.2.lt)⟩, plan_fin ?_⟩
      simp only [sgLHGrNone]
      go_wp2_with fail
      refine ⟨rfl, ?_⟩
      go_wp2_with fail
      go_meet
      have hws := HWS.out
      have hbx := hwd.trans (hb3.mono (B' := w1.heap.size) (by omega))
      exact ⟨rfl, s2g.other _ (Nat.ne_of_lt hS0.1.lt), s2t.other _ (Nat.ne_of_lt hS0.2.lt), below_setRow hbx (by omega) _⟩
  case rest =>
    obtain ⟨rfl, g3, t3, hb3⟩ := hcut
    rename World => w3
    have HB3 : Hid (Below w.heap.size w w3) := HB1.out.trans (hb3.mono HB1.out.size)
    have HG3 : Hid (Blk w3.drew g 222 (grC cp h0 R0 hh0 mv0 e0)) := g3
    have HT3 : Hid (Blk w3.drew w.heap.size 46 (trC (n : Int) R)) := t3
    have HTH : Hid (w3.drew.there g 1 34) := Blk.there HG3.out 1 34 (by rw [grC_size]; decide)
    have HG4 : Hid (Blk (w3.drew.setCells g 1 (trC (n : Int) R).toList) g 222 (grC cp (n : Int) R hh0 mv0 e0)) := gr_putTree HG3.out _ _
    have HT4 : Hid (Blk (w3.drew.setCells g 1 (trC (n : Int) R).toList) w.heap.size 46 (trC (n : Int) R)) := Blk.cells_other (Nat.ne_of_gt HGL.out) _ _ _ HT3.out
    have c35 := gr_c35 HG4.out
    have f35 : (w3.drew.setCells g 1 (trC (n : Int) R).toList).frozen? ⟨g, 35, none⟩ = false := HG4.out.frozen 35
    clear g1 t1 hb3 g3 t3 HB1 hRef hz
    go_wp2_with fail
    refine wp_region_partsS (fun W => Blk W w.heap.size 46 (trC (n : Int) R)) [([0, 1], 2, true), ([], 3, true), ([], 4, true), ([], 5, false), ([], 6, false), ([], 7, false), ([], 8, false), ([], 9, false)] [] [10] (by kernel_rfl) (by kernel_rfl) HT3.out (partsI_yield ?_)
    simp only [sgLHGrNone]
    go_wp2_with fail
    refine ⟨rfl, _, .agg (trC (n : Int) R), rfl, kyields_load (by rfl) 46 _ (by rfl) w.heap.size 34 (trF (n : Int) R) (by rfl) _ 46 (fun W hW => hW) Tryz.underlying46 rfl sizeTr, partsI_yield ?_⟩
    simp only [Act.put, sgPHGrNone]
    simp only [sgLHGrNone]
    go_wp2_with fail
    refine ⟨rfl, _, .pointer (some ⟨w.heap.size, 0, none⟩), rfl, Or.inl ⟨by rfl, fun W hW => by go_simp⟩, partsI_yield ?_⟩
    simp only [Act.put, sgPHGrNone]
    simp only [sgLHGrNone]
    go_wp2_with fail
    refine ⟨rfl, _, .int .i64 (n : Int), rfl, Or.inl ⟨by rfl, fun W hW => by have hW1 : W.cell? ⟨w.heap.size, 0, none⟩ = some (.int .i64 (n : Int)) := hW.cv (n := 34) (by decide); go_simp⟩, partsI_force ?_⟩
    simp only [Act.put, sgPHGrNone]
    simp only [sgLHGrNone]
    go_wp2_with fail
    refine ⟨rfl, HT3.out, partsI_force ?_⟩
    simp only [sgLHGrNone]
    go_wp2_with fail
    refine ⟨rfl, HT3.out, partsI_force ?_⟩
    simp only [sgLHGrNone]
    refine wpList_store_mid (by rfl) 46 _ _ (by rfl) g 1 (trC (n : Int) R) (by rfl) (by rfl) (by rw [trC_size]; exact HTH.out) (by rw [trC_size]; exact sizeTr) (trC_all _ _) ?_
    simp only [Act.put, sgPHGrNone]
    go_wp2_with fail
    refine ⟨rfl, HT4.out, partsI_force ?_⟩
    simp only [sgLHGrNone]
    go_wp2_with fail
    refine ⟨rfl, HT4.out, partsI_force ?_⟩
    simp only [sgLHGrNone]
    go_wp2_with fail
    refine ⟨rfl, HT4.out, partsI_last ?_⟩
    simp only [sgLHGrNone]
    have HG5 : Hid (Blk ((w3.drew.setCells g 1 (trC (n : Int) R).toList).setCell ⟨g, 35, none⟩ (.int .i64 (n : Int))) g 222 (grC cp (n : Int) R (n : Int) mv0 e0)) := gr_putHeight HG4.out _
    have HT5 : Hid (Blk ((w3.drew.setCells g 1 (trC (n : Int) R).toList).setCell ⟨g, 35, none⟩ (.int .i64 (n : Int))) w.heap.size 46 (trC (n : Int) R)) := HT4.out.put_other _ _ (Nat.ne_of_gt HGL.out)
    have HB5 : Hid (Below g w ((w3.drew.setCells g 1 (trC (n : Int) R).toList).setCell ⟨g, 35, none⟩ (.int .i64 (n : Int)))) := (below_setCells (Nat.le_refl _) _ _ _ (HB3.out.mono (Nat.le_of_lt HGL.out)).drew).setCell (Nat.le_refl _) _
    go_wp2_with fail
    refine ⟨rfl, ?_⟩
    clear HB3 HG3 HT3 HTH HG4 HT4 c35 f35
    generalize ((w3.drew.setCells g 1 (trC (n : Int) R).toList).setCell ⟨g, 35, none⟩ (.int .i64 (n : Int))) = w4 at *
    have c36 : w4.cell? ⟨g, 36, none⟩ = some (.map mv0) := gr_c36 HG5.out
    have f36 : w4.frozen? ⟨g, 36, none⟩ = false := HG5.out.frozen 36
    have ct : w4.cell? ⟨w.heap.size, 0, none⟩ = some (.int .i64 (n : Int)) := HT5.out.cv (n := 34) (by decide)
    have HGL4 : Hid (g < w4.heap.size) := HG5.out.lt
    have HWL4 : Hid (w.heap.size < w4.heap.size) := HT5.out.lt
    have hgl4 := HGL4.out
    have hwl4 := HWL4.out
    have hmm := @run_makeMap Tryz.prog
    go_wp2_with fail
    have HG6 : Hid (Blk ((w4.setCell ⟨g, 36, none⟩ (.map (some w4.heap.size))).alloc (.map #[] 0)) g 222 (grC cp (n : Int) R (n : Int) (some w4.heap.size) e0)) := (gr_putMap HG5.out _).alloc _
    have HM6 : Hid (((w4.setCell ⟨g, 36, none⟩ (.map (some w4.heap.size))).alloc (.map #[] 0)).heap[w4.heap.size]? = some (.map #[] 0)) := by
      have := heap_alloc_new (w4.setCell ⟨g, 36, none⟩ (.map (some w4.heap.size))) (.map #[] 0)
      rw [World.size_setCell] at this
      exact this
    have HB6 : Hid (Below g w ((w4.setCell ⟨g, 36, none⟩ (.map (some w4.heap.size))).alloc (.map #[] 0))) := (HB5.out.setCell (Nat.le_refl _) _).alloc (by rw [World.size_setCell]; exact Nat.le_of_lt HGL4.out) _
    clear HB5 HG5 HT5 c36 f36 ct hgl4 hwl4 hmm
    generalize ((w4.setCell ⟨g, 36, none⟩ (.map (some w4.heap.size))).alloc (.map #[] 0)) = w6 at *
    generalize w4.heap.size = m at *
    refine (HC.out _).mono ?_
    rintro e _ ⟨rfl, rfl⟩
    have c37 : w6.cell? ⟨g, 37, none⟩ = some (.int .i64 e0) := gr_c37 HG6.out
    have f37 : w6.frozen? ⟨g, 37, none⟩ = false := HG6.out.frozen 37
    go_wp2_with fail
    go_ret
    exact ⟨rfl, m, Nat.le_of_lt HWL4.out, ⟨0, (Deep.blk_setCell_other w6 ⟨g, 37, none⟩ _ m (Nat.ne_of_gt HGL4.out)).trans HM6.out⟩, gr_putEnd HG6.out _, HB6.out.setCell (Nat.le_refl _) _⟩
set_option maxRecDepth 100000 in
set_option maxHeartbeats 4000000 in
theorem new_ok (n c : Nat) (hc : 4 ^ n = c) (h : Int) (hh : h = (n : Int)) (R : Rf) (hR : R.1 < 4294967296) (hD : okD R.2) (hok : trOk h R) (cp : Option Addr) (w : World) : Calls Tryz.prog 60 #[.pointer cp, .agg (trC h R)] w fun x w' => ∃ g m, x = .returned (.tuple #[.pointer (some ⟨g, 0, none⟩), .int .i64 0]) ∧ w.heap.size ≤ g ∧ g < m ∧ (∃ k, w'.heap[m]? = some (.map #[] k)) ∧ Blk w' g 222 (grC cp h R h (some m) (c : Int)) ∧ Below w.heap.size w w' := by
  have HSt : Hid (∀ w g, Blk w g 222 (grC cp 0 rf0 0 none 0) → Calls Tryz.prog 104 #[.pointer (some ⟨g, 0, none⟩), .agg (trC h R)] w fun x w' => x = .returned (.int .i64 0) ∧ ∃ m, w.heap.size ≤ m ∧ (∃ k, w'.heap[m]? = some (.map #[] k)) ∧ Blk w' g 222 (grC cp h R h (some m) (c : Int)) ∧ Below g w w') := fun w g h1 => by
    subst hh
    exact stand_ok n c (by have := hok.2; omega) hc R R g (fun w => ref_root (n : Int) R hR hD hok cp w) w h1
  clear hR hD hok hc hh
  have HBt : Hid (Tryz.prog.built 222 [(0, .pointer cp)] = some (grC cp 0 rf0 0 none 0)) := built_gr1 cp
  have HB1 : Hid (Below w.heap.size w ((w.alloc (.cells (trC h R) 46)).alloc (.cells (grC cp 0 rf0 0 none 0) 222))) := below_new2 w _ _
  have t1 : Blk ((w.alloc (.cells (trC h R) 46)).alloc (.cells (grC cp 0 rf0 0 none 0) 222)) w.heap.size 46 (trC h R) := (Blk.new w _ _).alloc _
  have HG1 : Hid (Blk ((w.alloc (.cells (trC h R) 46)).alloc (.cells (grC cp 0 rf0 0 none 0) 222)) (w.heap.size + 1) 222 (grC cp 0 rf0 0 none 0)) := Blk.new1 w _ _ _
  go_enter Tryz.func60, Tryz.ntmps60
  go_wp2_with (first
    | (refine gr_build1 (by rfl) 222 0 _ (by rfl) (.pointer cp) (by rfl) (grC cp 0 rf0 0 none 0) (by exact HBt.out) ?_; simp only [Act.put, sgPHGrNone])
    | (refine wpList_load_rowg (by rfl) 46 _ (by rfl) (w.heap.size) (by rfl) 46 (trC h R) (0, 0) _ (by exact t1) Tryz.underlying46 (by rfl) (sizeTr.trans (by rw [trC_size])) ?_; simp only [Act.put, sgPHGrNone])
    | fail)
  generalize ((w.alloc (.cells (trC h R) 46)).alloc (.cells (grC cp 0 rf0 0 none 0) 222)) = w1 at *
  refine (HSt.out _ _ HG1.out).mono ?_
  rintro e w2 ⟨rfl, m, hm, hk, hg2, hb2⟩
  have HB2 : Hid (Below w.heap.size w w2) := HB1.out.trans (hb2.mono (by omega))
  have HM : Hid (w.heap.size + 1 < m) := Nat.lt_of_lt_of_le HG1.out.lt hm
  have HK : Hid (∃ k, w2.heap[m]? = some (.map #[] k)) := hk
  have HG2 : Hid (Blk w2 (w.heap.size + 1) 222 (grC cp h R h (some m) (c : Int))) := hg2
  clear hb2 hm hk hg2
  go_wp2_with fail
  go_ret2
  exact ⟨_, m, rfl, by omega, HM.out, HK.out, HG2.out, HB2.out⟩
end Go.Proofs.YtppagdmlfgialaaGreatDoor

namespace Go.Proofs.YtppagdmlfgialaaGreatDoor
open Go Go.RowKit Go.Maps Go.Sort Go.Shelf Go.Proofs
set_option linter.unusedSimpArgs false
set_option linter.unusedVariables false

theorem noneM_owns {w : World} {r k : Nat} (h : w.heap[r]? = some (.map #[] k)) : w.ownsMap Tryz.prog 3 gR r 1 (.map [] : DataW Nat) := by
  refine ⟨_, _, h, ⟨by unfold maxLen; simp, ⟨by simp, by simp, by simp⟩, fun x hx => by simp at hx⟩, by simp, ?_⟩
  simp [WideElems.rg]
set_option maxHeartbeats 4000000 in
set_option maxRecDepth 100000 in
theorem touched_none (g b k : Nat) (w : World) (hg : w.cell? ⟨g, 36, none⟩ = some (.map (some b))) (hm : w.heap[b]? = some (.map #[] k)) :
    Calls Tryz.prog 143 #[.pointer (some ⟨g, 0, none⟩)] w fun e w' => ∃ a cap, e = .returned (.slice a 0 cap) ∧ Below w.heap.size w w' := by
  have hown := noneM_owns hm
  generalize hD : (.map [] : DataW Nat) = D0 at *
  have hmax : Maps.size D0 ≤ maxLen := by subst hD; unfold maxLen; decide
  have hbytes : Maps.size D0 * 8 ≤ 140737488355328 := by subst hD; decide
  have hkeys : intKeys D0 = [] := by subst hD; rfl
  refine (callsIn_wide (n := 6)).1 ?_
  have hbl := hown.lt
  have hseq : SeqGives Fence.wide 2 Tryz.prog 264 #[.pointer (some ⟨w.heap.size, 0, none⟩)] encZ (fun ss => ss.Perm (intKeys D0)) (Maps.size D0) (w.alloc (.cells #[.map (some b)] 220)) :=
    AnyZI.keys_gives (ρ := Tryz.keysA_ren) { Tryz.keysA with } Fence.wide _ trivial rfl (by omega) w.heap.size b 1 D0 _ (by simp) (by simp) (by
      obtain ⟨es, clock, hb, Ft, hs, hD⟩ := hown
      exact ⟨es, clock, (Below.heap_alloc _ _ b hbl).trans hb, Ft, hs, hD⟩)
  have cK : ∀ mb W, CallsIn Fence.wide 5 Tryz.prog 207 #[.map mb] W fun e w' => e = .returned (.func (.func 264) #[] #[.pointer (some ⟨W.heap.size, 0, none⟩)]) ∧ w' = W.alloc (.cells #[.map mb] 220) := fun mb W => AnyZI.keys_in Tryz.keysA Fence.wide 5 trivial rfl mb W
  have cS := AnyZI.sorted_in Tryz.sortedA Fence.wide 5 trivial trivial trivial trivial rfl (by omega) (grSorts _) (enters_of Tryz.func129 (by kernel_rfl) rfl) 264 #[.pointer (some ⟨w.heap.size, 0, none⟩)] trivial (enters_of Tryz.func264 (by kernel_rfl) rfl) _ _ hmax hbytes _ hseq
  change CallsIn _ _ Tryz.prog 206 _ _ _ at cS
  have hfK : Fence.wide.fn 207 := trivial
  have hfS : Fence.wide.fn 206 := trivial
  refine callsIn_of_wp Tryz.func143 rfl trivial ?_ rfl
  simp only [Tryz.ntmps143, List.size_toArray, List.length_cons, List.length_nil, Nat.reduceAdd, Nat.reduceSub, Array.replicate_succ, Array.replicate_zero, List.push_toArray, List.append_toArray, List.nil_append, List.cons_append]
  gi_wp2_with (first
    | (gi_at_call 207; refine (cK _ _).mono ?_; rintro e w' ⟨rfl, rfl⟩)
    | (gi_at_call 206; refine cS.mono ?_; rintro e w' ⟨v, ss, rfl, hS, hrow, hnil, hb⟩))
  go_ret
  rw [hkeys] at hS
  obtain rfl : ss = [] := List.perm_nil.1 hS
  have hb' : Below w.heap.size w w' := ((Below.refl _ w).alloc (Nat.le_refl _) _).trans (hb.mono (by simp))
  obtain ⟨a, cap, rfl⟩ := gown_slice hrow
  exact ⟨a, cap, rfl, hb'⟩
end Go.Proofs.YtppagdmlfgialaaGreatDoor
