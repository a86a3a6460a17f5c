/- Directories: entries laid into a leaf (lay). -/
import Derived.Test.YtimjggkdpmgpjaaGreatDoorHCaKit
import Derived.Test.YtimjggkdpmgpjaaGreatDoorHMath
import Derived.Test.YtimjggkdpmgpjaaGreatDoorHDkWrite
import Derived.Deep.DeepCutAuto
import Derived.Deep.Cut
import Derived.Handy
import Derived.Test.YtimjggkdpmgpjaaGreatDoorHFiMath
import Derived.Test.YtimjggkdpmgpjaaGreatDoorHCollKit

namespace Go.Proofs.YtimjggkdpmgpjaaGreatDoor
open Go Go.RowKit
set_option linter.unusedSimpArgs false
set_option linter.unusedVariables false

def jK (a : Int) : Value := .int .i64 a
section
variable {β : Type} {P : Program} {V : β → Value}
theorem findNow_intV (a : Int) : ∀ (l : List (Int × β)) (es : List MapEntry) (i : Nat), es.map (fun e => (e.key, e.val)) = l.map (fun p => (jK p.1, V p.2)) →
    (findIn a l = none → Instr.findNow (.int .i64) (jK a) es i = some none) ∧ (∀ v, findIn a l = some v → ∃ j, Instr.findNow (.int .i64) (jK a) es i = some (some (i + j, V v)) ∧ l[j]? = some (a, v) ∧ ∀ m, m < j → ∀ p, l[m]? = some p → p.1 ≠ a)
  | [], es, i, h => by
    have : es = [] := by cases es with
      | nil => rfl
      | cons e es => simp at h
    subst this
    exact ⟨fun _ => by simp [Instr.findNow], fun v hv => by cases hv⟩
  | p :: l, [], i, h => by simp at h
  | p :: l, e :: es, i, h => by
    simp only [List.map_cons, List.cons.injEq, Prod.mk.injEq] at h
    obtain ⟨⟨h1, h2⟩, h3⟩ := h
    obtain ⟨ih1, ih2⟩ := findNow_intV a l es (i + 1) h3
    have hs : Instr.sameNow (.int .i64) (jK a) e.key = some (a == p.1) := by
      rw [h1]
      simp [Instr.sameNow, jK]
    by_cases hq : a = p.1
    · refine ⟨fun hn => ?_, fun v hv => ⟨0, ?_, ?_, fun m hm => by omega⟩⟩
      · unfold findIn at hn
        rw [if_pos hq] at hn
        cases hn
      · unfold findIn at hv
        rw [if_pos hq] at hv
        cases hv
        have hb : (a == p.1) = true := by simpa using hq
        simp [Instr.findNow, hs, hb, h2]
      · unfold findIn at hv
        rw [if_pos hq] at hv
        cases hv
        simp [hq]
    · have hb : (a == p.1) = false := by simpa using hq
      refine ⟨fun hn => ?_, fun v hv => ?_⟩
      · unfold findIn at hn
        rw [if_neg hq] at hn
        simp [Instr.findNow, hs, hb, ih1 hn]
      · unfold findIn at hv
        rw [if_neg hq] at hv
        obtain ⟨j, g1, g2, g3⟩ := ih2 v hv
        refine ⟨j + 1, ?_, by simpa using g2, fun m hm q hq2 => ?_⟩
        · simp [Instr.findNow, hs, hb, g1]
          omega
        · cases m with
          | zero =>
            simp at hq2
            rw [← hq2]
            exact Ne.symm hq
          | succ m => exact g3 m (by omega) q (by simpa using hq2)
theorem find_setV (a b : Int) (v : β) : ∀ (l : List (Int × β)) (j : Nat) (u : β), l[j]? = some (a, u) → (∀ m, m < j → ∀ p, l[m]? = some p → p.1 ≠ a) → findIn b (l.set j (a, v)) = if b = a then some v else findIn b l
  | [], j, u, h, _ => by simp at h
  | p :: l, 0, u, h, _ => by
    simp at h
    subst h
    simp only [List.set_cons_zero, findIn]
    by_cases hb : b = a
    · simp [hb]
    · simp [hb]
  | p :: l, j + 1, u, h, h2 => by
    have hp : p.1 ≠ a := h2 0 (by omega) p (by simp)
    have ih := find_setV a b v l j u (by simpa using h) fun m hm q hq => h2 (m + 1) (by omega) q (by simpa using hq)
    simp only [List.set_cons_succ, findIn, ih]
    by_cases hb : b = p.1
    · rw [if_pos hb, if_pos hb, if_neg (by rw [hb]; exact hp)]
    · rw [if_neg hb, if_neg hb]
theorem chk_intP {kt : TypeId} (hk : P.underlying kt = some (.int .i64)) (e : Bool) (x : Int) (w : World) : (Instr.checkKey e 10000 kt (.int .i64 x)).run P w = .ok () w := by
  rw [show (10000 : Nat) = 9999 + 1 from rfl, Instr.checkKey]
  simp [run_underlying hk]
/-- a look-up -/
theorem intMap_look {mt kt et : TypeId} {z : Value} (hm : P.underlying mt = some (.map kt et)) (hk : P.underlying kt = some (.int .i64)) (hz : ∀ w, (zeroValue et).run P w = .ok z w) {w : World} {r : Nat} {l : List (Int × β)} (h : MapIs jK V w r l) (a : Int) (ok : Bool) :
    (Instr.lookup mt (.map (some r)) (.int .i64 a) ok).run P w = .ok (if ok then .tuple #[((findIn a l).map V).getD z, .bool (findIn a l).isSome] else ((findIn a l).map V).getD z) w := by
  obtain ⟨es, cl, hg, he⟩ := h
  obtain ⟨g1, g2⟩ := findNow_intV a l es.toList 0 he
  have hgo : (getObj r).run P w = .ok (.map es cl) w := by simp [getObj, Sem.run, hg]
  cases hf : findIn a l with
  | none =>
    have hq : (Instr.findKey kt (.int .i64 a) es.toList).run P w = .ok none w := by
      have := g1 hf
      unfold jK at this
      simp [Instr.findKey, run_underlying hk, this]
    cases ok <;> simp [Instr.lookup, run_underlying hm, hgo, chk_intP hk, hq, hz]
  | some v =>
    obtain ⟨j, g3, _⟩ := g2 v hf
    have hq : (Instr.findKey kt (.int .i64 a) es.toList).run P w = .ok (some (0 + j, V v)) w := by
      unfold jK at g3
      simp [Instr.findKey, run_underlying hk, g3]
    cases ok <;> simp [Instr.lookup, run_underlying hm, hgo, chk_intP hk, hq]
/-- a key stored -/
theorem intMap_put {mt kt et : TypeId} (hm : P.underlying mt = some (.map kt et)) (hk : P.underlying kt = some (.int .i64)) {w : World} {r : Nat} {l : List (Int × β)} (h : MapIs jK V w r l) (a : Int) (v : β) :
    ∃ w' l', (Instr.mapUpdate mt (.map (some r)) (.int .i64 a) (V v)).run P w = .ok () w' ∧ MapIs jK V w' r l' ∧ (∀ b, findIn b l' = if b = a then some v else findIn b l) ∧ (findIn a l = none → l' = l ++ [(a, v)]) ∧ l'.length ≤ l.length + 1 ∧ (∀ p ∈ l', p = (a, v) ∨ p ∈ l) ∧ Turns (fun z => z = r) w w' := by
  obtain ⟨es, cl, hg, he⟩ := h
  obtain ⟨g1, g2⟩ := findNow_intV a l es.toList 0 he
  have hgo : (getObj r).run P w = .ok (.map es cl) w := by simp [getObj, Sem.run, hg]
  have hso : ∀ o, (setObj r o).run P w = .ok () { w with heap := w.heap.setIfInBounds r o } := fun o => by simp [setObj, Sem.run, hg]
  have hr : r < w.heap.size := (Array.getElem?_eq_some_iff.1 hg).1
  have hT : ∀ o, Turns (fun z => z = r) w { w with heap := w.heap.setIfInBounds r o } := fun o => ⟨rfl, rfl, rfl, by simp, fun b hb hn => by simp [Array.getElem?_setIfInBounds, Ne.symm hn]⟩
  cases hf : findIn a l with
  | none =>
    have hq : (Instr.findKey kt (.int .i64 a) es.toList).run P w = .ok none w := by
      have := g1 hf
      unfold jK at this
      simp [Instr.findKey, run_underlying hk, this]
    refine ⟨{ w with heap := w.heap.setIfInBounds r (.map (es.push { key := jK a, val := V v, born := cl }) (cl + 1)) }, l ++ [(a, v)], ?_, ⟨es.push { key := jK a, val := V v, born := cl }, cl + 1, by simp [hr], by simp [he]⟩, fun b => ?_, fun _ => rfl, by simp, fun p hp => ?_, hT _⟩
    · simp [Instr.mapUpdate, run_underlying hm, hgo, chk_intP hk, hq, hso, jK]
    · show findIn b (l ++ [(a, v)]) = if b = a then some v else findIn b l
      rw [findIn_append]
      by_cases hb : b = a
      · subst hb
        simp [hf, findIn]
      · rw [if_neg hb]
        simp [findIn, hb]
    · rcases List.mem_append.1 hp with hp | hp
      · exact .inr hp
      · exact .inl (List.mem_singleton.1 hp)
  | some u =>
    obtain ⟨j, g3, g4, g5⟩ := g2 u hf
    have hq : (Instr.findKey kt (.int .i64 a) es.toList).run P w = .ok (some (j, V u)) w := by
      unfold jK at g3
      rw [Nat.zero_add] at g3
      simp [Instr.findKey, run_underlying hk, g3]
    have hel : es.size = l.length := by
      have := congrArg List.length he
      simpa using this
    have hjl : j < l.length := (List.getElem?_eq_some_iff.1 g4).1
    have hkey : ((Option.map (fun x => x.key) es[j]?).getD (Value.int .i64 a)) = .int .i64 a := by
      have h2 := congrArg (fun z => (z[j]?).map Prod.fst) he
      simp only [List.getElem?_map, g4, Option.map_some] at h2
      rw [Array.getElem?_toList] at h2
      cases hq : es[j]? with
      | none => rw [hq] at h2; simp at h2
      | some e =>
        rw [hq] at h2
        simp at h2
        simp [h2, jK]
    have hst : (Instr.keyThatStays (.int .i64 a) (.int .i64 a)).run P w = .ok (.int .i64 a) w := by
      have hb : Instr.sameBits 10000 (Value.int .i64 a) (Value.int .i64 a) = true := by
        rw [show (10000 : Nat) = 9999 + 1 from rfl, Instr.sameBits]
        simp
      simp [Instr.keyThatStays, hb]
    refine ⟨{ w with heap := w.heap.setIfInBounds r (.map (es.modify j fun e => { key := .int .i64 a, val := V v, born := e.born }) cl) }, l.set j (a, v), ?_, ⟨es.modify j fun e => { key := .int .i64 a, val := V v, born := e.born }, cl, by simp [hr], ?_⟩, fun b => find_setV a b v l j u g4 g5, fun hn => (by cases hn), by simp, fun p hp => ?_, hT _⟩
    · simp only [Instr.mapUpdate, run_underlying hm, Sem.run_bind, hgo, chk_intP hk, hq, Result.andThen_ok, hkey, hst, hso]
    · apply List.ext_getElem?
      intro i
      have h2 := congrArg (fun z => z[i]?) he
      simp only [List.getElem?_map, Array.getElem?_toList] at h2 ⊢
      rw [Array.getElem?_modify, List.getElem?_set]
      by_cases hij : j = i
      · subst hij
        rw [if_pos rfl, if_pos rfl, if_pos hjl]
        rw [Array.getElem?_eq_getElem (by omega)]
        simp [jK]
      · rw [if_neg hij, if_neg hij]
        exact h2
    · rcases List.mem_or_eq_of_mem_set hp with hp | hp
      · exact .inr hp
      · exact .inl hp
end
end Go.Proofs.YtimjggkdpmgpjaaGreatDoor

namespace Go.Proofs.YtimjggkdpmgpjaaGreatDoor
open Go Go.RowKit
set_option linter.unusedSimpArgs false
set_option linter.unusedVariables false

/-- a block's digest -/
def dgB (f : Nat → Nat) : Vector Nat 32 := sumD (sumOf (1, strN f 256))
set_option maxRecDepth 100000 in
set_option maxHeartbeats 4000000 in
theorem mayBeRoom_ok (x : Int) (h0 : 0 ≤ x) (h1 : x ≤ 4096) (w : World) : Calls Tryz.prog 39 #[.int .i64 x] w fun e w' => e = .returned (.bool true) ∧ w = w' := by
  go_enter Tryz.func39, Tryz.ntmps39
  go_wp2_with fail
  go_ret
  exact ⟨rfl, rfl⟩
/-- no entries: the cells of their holder -/
def esC (m : Nat) : Array Value := #[.map (some m), .pointer none, .pointer none]
theorem sizeEs : (Tryz.prog.info? 121).map (·.size) = some 3 := by kernel_rfl
set_option maxRecDepth 100000 in
set_option maxHeartbeats 4000000 in
theorem caNone_any (w : World) : Calls Tryz.prog 40 #[] w fun e w' => ∃ m, e = .returned (.agg (esC m)) ∧ w.heap.size ≤ m ∧ MapIs rfV ptV w' m [] ∧ Below w.heap.size w w' := by
  have hmm := @run_makeMap Tryz.prog
  go_enter Tryz.func40, Tryz.ntmps40
  go_wp2_with fail
  try simp only [Exit.inBlock, Exit.then]
  refine bodyPost_ret (results_cell_row Tryz.results40 _ _ w.heap.size 121 (esC (w.heap.size + 1)) (0, 0) _ rfl ((Blk.new _ _ _).alloc _) Tryz.underlying121 rfl (sizeEs.trans (by rfl))) rfl ?_
  refine ⟨_, rfl, Nat.le_succ _, ⟨#[], 0, ?_, rfl⟩, below_new2 _ _ _⟩
  have := heap_alloc_new (w.alloc (Obj.cells (esC (w.heap.size + 1)) 121)) (Obj.map #[] 0)
  rw [show (w.alloc (Obj.cells (esC (w.heap.size + 1)) 121)).heap.size = w.heap.size + 1 by simp] at this
  exact this
set_option maxRecDepth 100000 in
set_option maxHeartbeats 4000000 in
theorem caNew_ok (g : Nat) (lp : Option Addr) (room : Int) (h0 : 0 ≤ room) (h1 : room ≤ 4096) (w : World) : Calls Tryz.prog 20 #[.pointer (some ⟨g, 0, none⟩), .pointer lp, .int .i64 room] w fun e w' => ∃ c m, e = .returned (.tuple #[.pointer (some ⟨c, 0, none⟩), .int .i64 0]) ∧ (w.heap.size ≤ c ∧ w.heap.size ≤ m) ∧ Blk w' c 126 (caC (some ⟨g, 0, none⟩) lp room m none none 0 0 0 0) ∧ MapIs rfV ptV w' m [] ∧ Below w.heap.size w w' := by
  have hR : Hid (∀ w : World, Calls Tryz.prog 39 #[.int .i64 room] w fun e w' => e = .returned (.bool true) ∧ w = w') := mayBeRoom_ok room h0 h1
  have hN : Hid (∀ w : World, Calls Tryz.prog 40 #[] w fun e w' => ∃ m, e = .returned (.agg #[.map (some m), .pointer none, .pointer none]) ∧ w.heap.size ≤ m ∧ MapIs rfV ptV w' m [] ∧ Below w.heap.size w w') := caNone_any
  clear h0 h1
  go_enter Tryz.func20, Tryz.ntmps20
  go_wp2_with fail
  refine (hR.out _).mono ?_
  rintro e _ ⟨rfl, rfl⟩
  go_wp2_with fail
  refine (hN.out _).mono ?_
  rintro e w1 ⟨m, rfl, hm, hmap, hb1⟩
  have HM : Hid (MapIs rfV ptV w1 m []) := hmap
  clear hmap
  go_wp2_with fail
  try simp only [Exit.inBlock, Exit.then]
  refine bodyPost_ret (results_tmp2 Tryz.results20 _ _ _) rfl ?_
  have hb2 : Below w1.heap.size w1 (w1.alloc (.cells (caC (some ⟨g, 0, none⟩) lp room m none none 0 0 0 0) 126)) := below_new1 _ _
  exact ⟨w1.heap.size, m, rfl, ⟨hb1.size, hm⟩, Blk.new _ _ _, HM.out.below hb2 (by
    obtain ⟨es, cl, hg, _⟩ := HM.out
    exact (Array.getElem?_eq_some_iff.1 hg).1), hb1.trans (hb2.mono hb1.size)⟩
end Go.Proofs.YtimjggkdpmgpjaaGreatDoor

namespace Go.Proofs.YtimjggkdpmgpjaaGreatDoor
open Go Go.RowKit
set_option linter.unusedSimpArgs false
set_option linter.unusedVariables false

theorem MapIs.lt {α β : Type} {K : α → Value} {V : β → Value} {w : World} {r : Nat} {l : List (α × β)} (h : MapIs K V w r l) : r < w.heap.size := by
  obtain ⟨es, cl, hg, _⟩ := h
  exact (Array.getElem?_eq_some_iff.1 hg).1
theorem MapIs.of {α β : Type} {K : α → Value} {V : β → Value} {w w' : World} {r : Nat} {l : List (α × β)} (h : MapIs K V w r l) (hk : w'.heap[r]? = w.heap[r]?) : MapIs K V w' r l := by
  obtain ⟨es, cl, hg, he⟩ := h
  exact ⟨es, cl, hk.trans hg, he⟩
theorem MapIs.ne {α β : Type} {K : α → Value} {V : β → Value} {w : World} {r b t : Nat} {cs : Array Value} {l : List (α × β)} (h : MapIs K V w r l) (hb : Blk w b t cs) : r ≠ b := fun e => by
  obtain ⟨es, cl, hg, _⟩ := h
  subst e
  have := hg.symm.trans hb
  simp at this
theorem map_len {w : World} {m : Nat} {l : List (Rf × Nat)} (h : MapIs rfV ptV w m l) (ty : TypeId) : (Builtin.len_ #[118] ty #[.map (some m)]).run Tryz.prog w = .ok (.int .i64 (l.length : Int)) w := by
  obtain ⟨es, cl, hg, he⟩ := h
  have hgo : (getObj m).run Tryz.prog w = .ok (.map es cl) w := by simp [getObj, Sem.run, hg]
  have hl : es.size = l.length := by
    have := congrArg List.length he
    simpa using this
  simp [Builtin.len_, run_underlying Tryz.underlying118, hgo, goInt, hl]
section
variable {c m : Nat} {dp lp o n : Option Addr} {room h r bd cn : Int}
end
end Go.Proofs.YtimjggkdpmgpjaaGreatDoor

namespace Go.Proofs.YtimjggkdpmgpjaaGreatDoor
open Go Go.RowKit
set_option linter.unusedSimpArgs false
set_option linter.unusedVariables false
section
variable {w : World} {x mf ml mc : Nat} {cp : Option Addr} {top : Int} {H : Nat → Hd} {D : Nat → Nat → Nat → Nat} {n k st : Nat} {N : Nat → Int} {S : Nat → ByteArray}
set_option maxRecDepth 100000 in
set_option maxHeartbeats 4000000 in
theorem IM.addEnc (h : IM w x mf ml mc cp top H D) (hd : Di H D n k st N S) (i : Int) (s : ByteArray) (hi : encE i s ≠ 0) (t : Int) : Calls Tryz.prog 24 #[.pointer (some ⟨x, 0, none⟩), .int .i64 (n : Int), .agg #[.int .i64 i, .string s], .int .u64 t] w fun e w' => e = .returned (.int .i64 (encE i s)) ∧ Below w.heap.size w w' := by
  have HDR : Hid (∀ V, Below w.heap.size w V → Calls Tryz.prog 48 #[.pointer (some ⟨x, 0, none⟩), .int .i64 (n : Int)] V fun e w' => e = .returned (.tuple #[.agg (nfC (n : Int) 2 (H n).l ((64 * k : Nat) : Int) st), .int .i64 0]) ∧ Below V.heap.size V w') := fun V hV => (h.below hV).dirD hd
  have hzi : ∀ w, (zeroValue 40).run Tryz.prog w = .ok (.agg nf0) w := zero_nf
  have HEN : Hid (∀ V : World, Calls Tryz.prog 49 #[.agg #[.int .i64 i, .string s]] V fun e w' => e = .returned (.tuple #[.string (encT i s), .int .i64 (encE i s)]) ∧ Below V.heap.size V w') := fun V => encode_any i s V
  have b0 : (encE i s != 0) = true := bne_iff_ne.2 hi
  generalize encE i s = ee at *
  clear hi
  have HB1 : Hid (Below w.heap.size w (w.alloc (.cells #[.int .i64 i, .string s] 54)) ∧ Blk (w.alloc (.cells #[.int .i64 i, .string s] 54)) w.heap.size 54 #[.int .i64 i, .string s]) := ⟨below_new1 _ _, Blk.new _ _ _⟩
  clear h hd
  generalize (H n).l = l at *
  generalize ((64 * k : Nat) : Int) = z at *
  go_enter Tryz.func24, Tryz.ntmps24
  go_wp2_with fail
  generalize (w.alloc (.cells #[.int .i64 i, .string s] 54)) = w1 at *
  refine (HDR.out w1 HB1.out.1).mono ?_
  rintro e w2 ⟨rfl, hb2⟩
  have u1 : Blk (w2.alloc (.cells nf0 40)) w2.heap.size 40 nf0 := Blk.new _ _ _
  have u2 := u1.set (nfC (n : Int) 2 l z st)
  have p2 : Blk ((w2.alloc (.cells nf0 40)).setRow w2.heap.size (nfC (n : Int) 2 l z st)) w.heap.size 54 #[.int .i64 i, .string s] := ((HB1.out.2.below hb2 HB1.out.2.lt).alloc _).other _ (by have := (HB1.out.2.below hb2 HB1.out.2.lt).lt; omega)
  have hb12 := HB1.out.1.trans (hb2.mono HB1.out.1.size)
  have hb3 : Below w.heap.size w ((w2.alloc (.cells nf0 40)).setRow w2.heap.size (nfC (n : Int) 2 l z st)) := below_setRow (hb12.alloc hb12.size _) hb12.size _
  have l0 : ((w2.alloc (.cells nf0 40)).setRow w2.heap.size (nfC (n : Int) 2 l z st)).cell? ⟨w.heap.size, 0, none⟩ = some (.int .i64 i) := (p2.cell 0).trans rfl
  have l1 : ((w2.alloc (.cells nf0 40)).setRow w2.heap.size (nfC (n : Int) 2 l z st)).cell? ⟨w.heap.size, 1, none⟩ = some (.string s) := (p2.cell 1).trans rfl
  have HB3 : Hid (Below w.heap.size w ((w2.alloc (.cells nf0 40)).setRow w2.heap.size (nfC (n : Int) 2 l z st)) ∧ Blk ((w2.alloc (.cells nf0 40)).setRow w2.heap.size (nfC (n : Int) 2 l z st)) w.heap.size 54 #[.int .i64 i, .string s] ∧ Blk ((w2.alloc (.cells nf0 40)).setRow w2.heap.size (nfC (n : Int) 2 l z st)) w2.heap.size 40 (nfC (n : Int) 2 l z st)) := ⟨hb3, p2, u2⟩
  clear hb2 hb12 hb3 p2 u2 HB1 HDR
  go_wp2_with (first
    | (refine wpList_store_row (by rfl) 40 _ _ (by rfl) (w2.heap.size) (nfC (n : Int) 2 l z st) (by rfl) (by rfl) 40 (nf0) (by exact u1) (size_nf.trans (by rfl)) (by rfl) (nf_all _ _ _ _ _) ?_; simp only [Act.put, List.setIfInBounds_toArray, List.set_cons_zero, List.set_cons_succ])
    | fail)
  clear u1 l0 l1
  generalize ((w2.alloc (.cells nf0 40)).setRow w2.heap.size (nfC (n : Int) 2 l z st)) = w3 at *
  refine (HEN.out _).mono ?_
  rintro e w4 ⟨rfl, hb4⟩
  have HB4 : Hid (Below w.heap.size w w4 ∧ Blk w4 w.heap.size 54 #[.int .i64 i, .string s] ∧ Blk w4 w2.heap.size 40 (nfC (n : Int) 2 l z st)) := ⟨HB3.out.1.trans (hb4.mono HB3.out.1.size), HB3.out.2.1.below hb4 HB3.out.2.1.lt, HB3.out.2.2.below hb4 HB3.out.2.2.lt⟩
  have u4 := HB4.out.2.2
  have l1 : w4.cell? ⟨w.heap.size, 1, none⟩ = some (.string s) := (HB4.out.2.1.cell 1).trans rfl
  clear hb4 HB3 HEN
  go_wp2_with fail
  go_ret
  exact ⟨rfl, HB4.out.1⟩
set_option maxRecDepth 100000 in
set_option maxHeartbeats 4000000 in
theorem IM.addThere (h : IM w x mf ml mc cp top H D) (hd : Di H D n k st N S) (i : Int) (s : ByteArray) (hi : encE i s = 0) (p : Nat) (hp : FirstN S k p s) (hpk : p < k) (t : Int) : Calls Tryz.prog 24 #[.pointer (some ⟨x, 0, none⟩), .int .i64 (n : Int), .agg #[.int .i64 i, .string s], .int .u64 t] w fun e w' => e = .returned (.int .i64 172) ∧ Below w.heap.size w w' := by
  obtain ⟨r0, hr⟩ : ∃ r0 : Int, r0 = if p < k then (p : Int) else 0 := ⟨_, rfl⟩
  obtain ⟨er, her⟩ : ∃ er : Int, er = if p < k then 0 else 171 := ⟨_, rfl⟩
  have HDR : Hid (∀ V, Below w.heap.size w V → Calls Tryz.prog 48 #[.pointer (some ⟨x, 0, none⟩), .int .i64 (n : Int)] V fun e w' => e = .returned (.tuple #[.agg (nfC (n : Int) 2 (H n).l ((64 * k : Nat) : Int) st), .int .i64 0]) ∧ Below V.heap.size V w') := fun V hV => (h.below hV).dirD hd
  have hzi : ∀ w, (zeroValue 40).run Tryz.prog w = .ok (.agg nf0) w := zero_nf
  have HEN : Hid (∀ V : World, Calls Tryz.prog 49 #[.agg #[.int .i64 i, .string s]] V fun e w' => e = .returned (.tuple #[.string (encT i s), .int .i64 0]) ∧ Below V.heap.size V w') := fun V => by
    have := encode_any i s V
    rw [hi] at this
    exact this
  have HSE : Hid (∀ V, Below w.heap.size w V → Calls Tryz.prog 50 #[.pointer (some ⟨x, 0, none⟩), .agg (nfC (n : Int) 2 (H n).l ((64 * k : Nat) : Int) st), .string s] V fun e w' => ∃ v, e = .returned (.tuple #[.int .i64 r0, v, .int .i64 er]) ∧ w'.ownsRow V.heap.size 54 2 v (inLf k (lastQ k p)) (lkL (shN N (lastQ k p)) (shS S (lastQ k p)) (inLf k (lastQ k p))) ∧ Below V.heap.size V w') := fun V hV => (h.below hV).search hd (H n).l s p hp r0 er hr her
  rw [if_pos hpk] at her
  subst her
  clear hr
  have HB1 : Hid (Below w.heap.size w (w.alloc (.cells #[.int .i64 i, .string s] 54)) ∧ Blk (w.alloc (.cells #[.int .i64 i, .string s] 54)) w.heap.size 54 #[.int .i64 i, .string s]) := ⟨below_new1 _ _, Blk.new _ _ _⟩
  clear h hd
  generalize (H n).l = l at *
  generalize ((64 * k : Nat) : Int) = z at *
  go_enter Tryz.func24, Tryz.ntmps24
  go_wp2_with fail
  generalize (w.alloc (.cells #[.int .i64 i, .string s] 54)) = w1 at *
  refine (HDR.out w1 HB1.out.1).mono ?_
  rintro e w2 ⟨rfl, hb2⟩
  have u1 : Blk (w2.alloc (.cells nf0 40)) w2.heap.size 40 nf0 := Blk.new _ _ _
  have u2 := u1.set (nfC (n : Int) 2 l z st)
  have p2 : Blk ((w2.alloc (.cells nf0 40)).setRow w2.heap.size (nfC (n : Int) 2 l z st)) w.heap.size 54 #[.int .i64 i, .string s] := ((HB1.out.2.below hb2 HB1.out.2.lt).alloc _).other _ (by have := (HB1.out.2.below hb2 HB1.out.2.lt).lt; omega)
  have hb12 := HB1.out.1.trans (hb2.mono HB1.out.1.size)
  have hb3 : Below w.heap.size w ((w2.alloc (.cells nf0 40)).setRow w2.heap.size (nfC (n : Int) 2 l z st)) := below_setRow (hb12.alloc hb12.size _) hb12.size _
  have l0 : ((w2.alloc (.cells nf0 40)).setRow w2.heap.size (nfC (n : Int) 2 l z st)).cell? ⟨w.heap.size, 0, none⟩ = some (.int .i64 i) := (p2.cell 0).trans rfl
  have l1 : ((w2.alloc (.cells nf0 40)).setRow w2.heap.size (nfC (n : Int) 2 l z st)).cell? ⟨w.heap.size, 1, none⟩ = some (.string s) := (p2.cell 1).trans rfl
  have HB3 : Hid (Below w.heap.size w ((w2.alloc (.cells nf0 40)).setRow w2.heap.size (nfC (n : Int) 2 l z st)) ∧ Blk ((w2.alloc (.cells nf0 40)).setRow w2.heap.size (nfC (n : Int) 2 l z st)) w.heap.size 54 #[.int .i64 i, .string s] ∧ Blk ((w2.alloc (.cells nf0 40)).setRow w2.heap.size (nfC (n : Int) 2 l z st)) w2.heap.size 40 (nfC (n : Int) 2 l z st)) := ⟨hb3, p2, u2⟩
  clear hb2 hb12 hb3 p2 u2 HB1 HDR
  go_wp2_with (first
    | (refine wpList_store_row (by rfl) 40 _ _ (by rfl) (w2.heap.size) (nfC (n : Int) 2 l z st) (by rfl) (by rfl) 40 (nf0) (by exact u1) (size_nf.trans (by rfl)) (by rfl) (nf_all _ _ _ _ _) ?_; simp only [Act.put, List.setIfInBounds_toArray, List.set_cons_zero, List.set_cons_succ])
    | fail)
  clear u1 l0 l1
  generalize ((w2.alloc (.cells nf0 40)).setRow w2.heap.size (nfC (n : Int) 2 l z st)) = w3 at *
  refine (HEN.out _).mono ?_
  rintro e w4 ⟨rfl, hb4⟩
  have HB4 : Hid (Below w.heap.size w w4 ∧ Blk w4 w.heap.size 54 #[.int .i64 i, .string s] ∧ Blk w4 w2.heap.size 40 (nfC (n : Int) 2 l z st)) := ⟨HB3.out.1.trans (hb4.mono HB3.out.1.size), HB3.out.2.1.below hb4 HB3.out.2.1.lt, HB3.out.2.2.below hb4 HB3.out.2.2.lt⟩
  have u4 := HB4.out.2.2
  have l1 : w4.cell? ⟨w.heap.size, 1, none⟩ = some (.string s) := (HB4.out.2.1.cell 1).trans rfl
  clear hb4 HB3 HEN
  go_wp2_with (first
    | (refine wpList_load_row (by rfl) 40 _ (by rfl) (w2.heap.size) (by rfl) 40 (nfC (n : Int) 2 l z st) (0, 0) _ (by exact u4) Tryz.underlying40 (by rfl) (size_nf.trans (by rfl)) ?_; simp only [Act.put, List.setIfInBounds_toArray, List.set_cons_zero, List.set_cons_succ])
    | fail)
  refine (HSE.out w4 HB4.out.1).mono ?_
  rintro e w5 ⟨v, rfl, hv5, hb5⟩
  have HB5 : Hid (Below w.heap.size w w5 ∧ Blk w5 w.heap.size 54 #[.int .i64 i, .string s] ∧ Blk w5 w2.heap.size 40 (nfC (n : Int) 2 l z st) ∧ w5.ownsRow w.heap.size 54 2 v (inLf k (lastQ k p)) (lkL (shN N (lastQ k p)) (shS S (lastQ k p)) (inLf k (lastQ k p)))) := ⟨HB4.out.1.trans (hb5.mono HB4.out.1.size), HB4.out.2.1.below hb5 HB4.out.2.1.lt, HB4.out.2.2.below hb5 HB4.out.2.2.lt, kown_mono hv5 HB4.out.1.size⟩
  have u5 := HB5.out.2.2.1
  clear hb5 hv5 HB4 HSE u4 l1
  go_wp2_with fail
  go_ret
  exact ⟨rfl, HB5.out.1⟩
set_option maxRecDepth 100000 in
set_option maxHeartbeats 4000000 in
theorem IM.addFull (h : IM w x mf ml mc cp top H D) (hd : Di H D n k st N S) (i : Int) (s : ByteArray) (hi : encE i s = 0) (p : Nat) (hp : FirstN S k p s) (hpk : ¬ p < k) (hk : k = 16384) (t : Int) : Calls Tryz.prog 24 #[.pointer (some ⟨x, 0, none⟩), .int .i64 (n : Int), .agg #[.int .i64 i, .string s], .int .u64 t] w fun e w' => e = .returned (.int .i64 173) ∧ Below w.heap.size w w' := by
  obtain ⟨r0, hr⟩ : ∃ r0 : Int, r0 = if p < k then (p : Int) else 0 := ⟨_, rfl⟩
  obtain ⟨er, her⟩ : ∃ er : Int, er = if p < k then 0 else 171 := ⟨_, rfl⟩
  have HDR : Hid (∀ V, Below w.heap.size w V → Calls Tryz.prog 48 #[.pointer (some ⟨x, 0, none⟩), .int .i64 (n : Int)] V fun e w' => e = .returned (.tuple #[.agg (nfC (n : Int) 2 (H n).l ((64 * k : Nat) : Int) st), .int .i64 0]) ∧ Below V.heap.size V w') := fun V hV => (h.below hV).dirD hd
  have hzi : ∀ w, (zeroValue 40).run Tryz.prog w = .ok (.agg nf0) w := zero_nf
  have HEN : Hid (∀ V : World, Calls Tryz.prog 49 #[.agg #[.int .i64 i, .string s]] V fun e w' => e = .returned (.tuple #[.string (encT i s), .int .i64 0]) ∧ Below V.heap.size V w') := fun V => by
    have := encode_any i s V
    rw [hi] at this
    exact this
  have HSE : Hid (∀ V, Below w.heap.size w V → Calls Tryz.prog 50 #[.pointer (some ⟨x, 0, none⟩), .agg (nfC (n : Int) 2 (H n).l ((64 * k : Nat) : Int) st), .string s] V fun e w' => ∃ v, e = .returned (.tuple #[.int .i64 r0, v, .int .i64 er]) ∧ w'.ownsRow V.heap.size 54 2 v (inLf k (lastQ k p)) (lkL (shN N (lastQ k p)) (shS S (lastQ k p)) (inLf k (lastQ k p))) ∧ Below V.heap.size V w') := fun V hV => (h.below hV).search hd (H n).l s p hp r0 er hr her
  have HCT : Hid (∀ V : World, Calls Tryz.prog 51 #[.agg (nfC (n : Int) 2 (H n).l ((64 * k : Nat) : Int) st)] V fun e w' => e = .returned (.int .i64 (k : Int)) ∧ Below V.heap.size V w') := count_any (n : Int) 2 (H n).l k st hd.le
  have k1 : (16384 : Int) ≤ (k : Int) := by omega
  rw [if_neg hpk] at her
  subst her
  clear hr hk
  have HB1 : Hid (Below w.heap.size w (w.alloc (.cells #[.int .i64 i, .string s] 54)) ∧ Blk (w.alloc (.cells #[.int .i64 i, .string s] 54)) w.heap.size 54 #[.int .i64 i, .string s]) := ⟨below_new1 _ _, Blk.new _ _ _⟩
  clear h hd
  generalize (H n).l = l at *
  generalize ((64 * k : Nat) : Int) = z at *
  go_enter Tryz.func24, Tryz.ntmps24
  go_wp2_with fail
  generalize (w.alloc (.cells #[.int .i64 i, .string s] 54)) = w1 at *
  refine (HDR.out w1 HB1.out.1).mono ?_
  rintro e w2 ⟨rfl, hb2⟩
  have u1 : Blk (w2.alloc (.cells nf0 40)) w2.heap.size 40 nf0 := Blk.new _ _ _
  have u2 := u1.set (nfC (n : Int) 2 l z st)
  have p2 : Blk ((w2.alloc (.cells nf0 40)).setRow w2.heap.size (nfC (n : Int) 2 l z st)) w.heap.size 54 #[.int .i64 i, .string s] := ((HB1.out.2.below hb2 HB1.out.2.lt).alloc _).other _ (by have := (HB1.out.2.below hb2 HB1.out.2.lt).lt; omega)
  have hb12 := HB1.out.1.trans (hb2.mono HB1.out.1.size)
  have hb3 : Below w.heap.size w ((w2.alloc (.cells nf0 40)).setRow w2.heap.size (nfC (n : Int) 2 l z st)) := below_setRow (hb12.alloc hb12.size _) hb12.size _
  have l0 : ((w2.alloc (.cells nf0 40)).setRow w2.heap.size (nfC (n : Int) 2 l z st)).cell? ⟨w.heap.size, 0, none⟩ = some (.int .i64 i) := (p2.cell 0).trans rfl
  have l1 : ((w2.alloc (.cells nf0 40)).setRow w2.heap.size (nfC (n : Int) 2 l z st)).cell? ⟨w.heap.size, 1, none⟩ = some (.string s) := (p2.cell 1).trans rfl
  have HB3 : Hid (Below w.heap.size w ((w2.alloc (.cells nf0 40)).setRow w2.heap.size (nfC (n : Int) 2 l z st)) ∧ Blk ((w2.alloc (.cells nf0 40)).setRow w2.heap.size (nfC (n : Int) 2 l z st)) w.heap.size 54 #[.int .i64 i, .string s] ∧ Blk ((w2.alloc (.cells nf0 40)).setRow w2.heap.size (nfC (n : Int) 2 l z st)) w2.heap.size 40 (nfC (n : Int) 2 l z st)) := ⟨hb3, p2, u2⟩
  clear hb2 hb12 hb3 p2 u2 HB1 HDR
  go_wp2_with (first
    | (refine wpList_store_row (by rfl) 40 _ _ (by rfl) (w2.heap.size) (nfC (n : Int) 2 l z st) (by rfl) (by rfl) 40 (nf0) (by exact u1) (size_nf.trans (by rfl)) (by rfl) (nf_all _ _ _ _ _) ?_; simp only [Act.put, List.setIfInBounds_toArray, List.set_cons_zero, List.set_cons_succ])
    | fail)
  clear u1 l0 l1
  generalize ((w2.alloc (.cells nf0 40)).setRow w2.heap.size (nfC (n : Int) 2 l z st)) = w3 at *
  refine (HEN.out _).mono ?_
  rintro e w4 ⟨rfl, hb4⟩
  have HB4 : Hid (Below w.heap.size w w4 ∧ Blk w4 w.heap.size 54 #[.int .i64 i, .string s] ∧ Blk w4 w2.heap.size 40 (nfC (n : Int) 2 l z st)) := ⟨HB3.out.1.trans (hb4.mono HB3.out.1.size), HB3.out.2.1.below hb4 HB3.out.2.1.lt, HB3.out.2.2.below hb4 HB3.out.2.2.lt⟩
  have u4 := HB4.out.2.2
  have l1 : w4.cell? ⟨w.heap.size, 1, none⟩ = some (.string s) := (HB4.out.2.1.cell 1).trans rfl
  clear hb4 HB3 HEN
  go_wp2_with (first
    | (refine wpList_load_row (by rfl) 40 _ (by rfl) (w2.heap.size) (by rfl) 40 (nfC (n : Int) 2 l z st) (0, 0) _ (by exact u4) Tryz.underlying40 (by rfl) (size_nf.trans (by rfl)) ?_; simp only [Act.put, List.setIfInBounds_toArray, List.set_cons_zero, List.set_cons_succ])
    | fail)
  refine (HSE.out w4 HB4.out.1).mono ?_
  rintro e w5 ⟨v, rfl, hv5, hb5⟩
  have HB5 : Hid (Below w.heap.size w w5 ∧ Blk w5 w.heap.size 54 #[.int .i64 i, .string s] ∧ Blk w5 w2.heap.size 40 (nfC (n : Int) 2 l z st) ∧ w5.ownsRow w.heap.size 54 2 v (inLf k (lastQ k p)) (lkL (shN N (lastQ k p)) (shS S (lastQ k p)) (inLf k (lastQ k p)))) := ⟨HB4.out.1.trans (hb5.mono HB4.out.1.size), HB4.out.2.1.below hb5 HB4.out.2.1.lt, HB4.out.2.2.below hb5 HB4.out.2.2.lt, kown_mono hv5 HB4.out.1.size⟩
  have u5 := HB5.out.2.2.1
  clear hb5 hv5 HB4 HSE u4 l1
  go_wp2_with (first
    | (refine wpList_load_row (by rfl) 40 _ (by rfl) (w2.heap.size) (by rfl) 40 (nfC (n : Int) 2 l z st) (0, 0) _ (by exact u5) Tryz.underlying40 (by rfl) (size_nf.trans (by rfl)) ?_; simp only [Act.put, List.setIfInBounds_toArray, List.set_cons_zero, List.set_cons_succ])
    | fail)
  refine (HCT.out _).mono ?_
  rintro e w6 ⟨rfl, hb6⟩
  have HB6 : Hid (Below w.heap.size w w6) := HB5.out.1.trans (hb6.mono HB5.out.1.size)
  clear hb6 HB5 u5
  go_wp2_with fail
  go_ret
  exact ⟨rfl, HB6.out⟩
end
end Go.Proofs.YtimjggkdpmgpjaaGreatDoor

namespace Go.Proofs.YtimjggkdpmgpjaaGreatDoor
open Go Go.RowKit
set_option linter.unusedSimpArgs false
set_option linter.unusedVariables false
section
variable {w : World} {x mf ml mc : Nat} {cp : Option Addr} {top : Int} {H : Nat → Hd} {D : Nat → Nat → Nat → Nat} {n k st : Nat} {N : Nat → Int} {S : Nat → ByteArray}
set_option maxRecDepth 100000 in
set_option maxHeartbeats 4000000 in
theorem IM.layD (h : IM w x mf ml mc cp top H D) (n q : Nat) (h1 : 1 ≤ n) (h2 : n ≤ 4096) (hk : (H n).k ≠ 0) (hn : (H n).n = (n : Int)) (sz st : Nat) (hs : (H n).s = (sz : Int)) (hsz : sz ≤ 1048576) (hq : q < (sz + 255) / 256) (a : Option Addr) (m c : Nat) (hm : m ≤ 4) (hI : IsLks w a m N S) (hE : leE N S m = 0) : Calls Tryz.prog 53 #[.pointer (some ⟨x, 0, none⟩), .int .i64 (n : Int), .int .i64 (q : Int), .slice a m c, .int .u64 ((st : Nat) : Int)] w fun e w' => e = .returned (.int .i64 0) ∧ IM w' x mf ml mc cp top (hU H n (hdT (hdS (H n)) st)) (dU D n q (upF (leF N S m) (sz - q * 256))) ∧ Turns (fun z => z = ml ∨ z = mf) w w' := by
  have hz := zero_bk
  have HL := leaf_any a m c hm N S w hI
  rw [hE, if_pos rfl] at HL
  unfold bkV at HL
  have HS : Hid (∀ V, Below w.heap.size w V → Calls Tryz.prog 89 #[.pointer (some ⟨x, 0, none⟩), .int .i64 (n : Int), .int .i64 (q : Int), .agg (va 256 (iv .u8 (leF N S m))), .int .u64 ((st : Nat) : Int)] V fun e w' => e = .returned (.int .i64 0) ∧ IM w' x mf ml mc cp top (hU H n (hdT (hdS (H n)) st)) (dU D n q (upF (leF N S m) (sz - q * 256))) ∧ Turns (fun z => z = ml ∨ z = mf) V w') := fun V hV => (h.below hV).setM n q h1 h2 hk hn sz st (leF N S m) hs hsz hq
  clear h hI hE hs hn hk
  generalize leF N S m = F at *
  go_enter Tryz.func53, Tryz.ntmps53
  go_wp2_with fail
  refine HL.mono ?_
  rintro e w2 ⟨rfl, hb2⟩
  have u1 : Blk (w2.alloc (.cells (va 256 (iv .u8 fun _ => 0)) 207)) w2.heap.size 207 (va 256 (iv .u8 fun _ => 0)) := Blk.new _ _ _
  have u2 : Blk ((w2.alloc (.cells (va 256 (iv .u8 fun _ => 0)) 207)).setRow w2.heap.size (va 256 (iv .u8 F))) w2.heap.size 207 (va 256 (iv .u8 F)) := u1.set _
  have hb3 : Below w.heap.size w ((w2.alloc (.cells (va 256 (iv .u8 fun _ => 0)) 207)).setRow w2.heap.size (va 256 (iv .u8 F))) := below_setRow (hb2.alloc hb2.size _) hb2.size _
  have H3 := HS.out _ hb3
  have HB3 : Hid (_ ) := hb3
  clear hb2 hb3 HS HL
  go_wp2_with (first
    | (refine wpList_store_row (by rfl) 207 _ _ (by rfl) (w2.heap.size) (va 256 (iv .u8 F)) (by rfl) (by rfl) 207 _ u1 (sizeBk.trans (by rw [va_size])) (by simp only [va_size]) (iv_one _ _ _) ?_; simp only [Act.put, List.setIfInBounds_toArray, List.set_cons_zero, List.set_cons_succ])
    | (refine wpList_load_row (by rfl) 207 _ (by rfl) (w2.heap.size) (by rfl) 207 (va 256 (iv .u8 F)) (0, 0) _ u2 Tryz.underlying207 (by rfl) (sizeBk.trans (by rw [va_size])) ?_; simp only [Act.put, List.setIfInBounds_toArray, List.set_cons_zero, List.set_cons_succ])
    | fail)
  generalize ((w2.alloc (.cells (va 256 (iv .u8 fun _ => 0)) 207)).setRow w2.heap.size (va 256 (iv .u8 F))) = w3 at *
  refine H3.mono ?_
  rintro e w4 ⟨rfl, hI4, ht4⟩
  have HE : Hid (_ ∧ _) := ⟨hI4, (Turns.bel (S := fun z => z = ml ∨ z = mf) HB3.out).tr ht4⟩
  clear hI4 ht4 H3 u1 u2
  go_wp2_with fail
  go_ret
  exact ⟨rfl, HE.out.1, HE.out.2⟩
end
end Go.Proofs.YtimjggkdpmgpjaaGreatDoor
