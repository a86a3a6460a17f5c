/- The places of blocks in groups: the program's contract of Groups. -/
import Derived.Test.YtojnlmfahgeidaaGreatDoorHMathDigest
import Derived.Handy
import Derived.Test.YtojnlmfahgeidaaGreatDoorHOrders
import Derived.Test.YtojnlmfahgeidaaGreatDoorHBytes
import Derived.ArgAppend
import Derived.Deep.RegionHeld
import Derived.Deep.RegionLaw
import Derived.Deep.RegionWith
import Derived.Deep.DrawnRows
import Derived.Test.YtojnlmfahgeidaaGreatDoorHMathCount
import Derived.Deep.Heap
import Derived.MapKept
import Derived.Carry
import Derived.Lib.ConvBytes
import Derived.Test.YtojnlmfahgeidaaGreatDoorProg
import Derived.KernelRfl
import Derived.RowKit
import Derived.Laws.BytesArg
import Derived.Maps.AppendAt
import Derived.WalkSmall
import Derived.Shelf.SlMaps.Clone
import Derived.Test.YtojnlmfahgeidaaGreatDoorHNaDecode
import Derived.OpenShut
import Derived.Deep.MidRow
import Derived.Great.BuildSlice
import Derived.OwnWalk

namespace Go.Proofs.YtojnlmfahgeidaaGreatDoor
open Go.RowKit

set_option maxHeartbeats 1000000 in
theorem bytes32_any (x : Nat) (w : World) :
    Calls Tryz.prog 158 #[.int .u32 (x : Int)] w fun e w' => e = .returned (.agg #[.int .u8 ((x % 256 : Nat) : Int), .int .u8 ((x / 256 % 256 : Nat) : Int), .int .u8 ((x / 65536 % 256 : Nat) : Int), .int .u8 ((x / 16777216 % 256 : Nat) : Int)]) ∧ Below w.heap.size w w' := by
  go_enter Tryz.func158, Tryz.ntmps158
  go_wp2
  go_rounds 5
  go_returns
  refine ⟨by simp, ?_⟩
  go_grown

set_option maxHeartbeats 1000000 in
theorem of32_any (a0 a1 a2 a3 : Nat) (h0 : a0 < 256) (h1 : a1 < 256) (h2 : a2 < 256) (h3 : a3 < 256) (w : World) :
    Calls Tryz.prog 260 #[.agg #[.int .u8 (a0 : Int), .int .u8 (a1 : Int), .int .u8 (a2 : Int), .int .u8 (a3 : Int)]] w fun e w' => e = .returned (.int .u32 (le4 a0 a1 a2 a3 : Int)) ∧ Below w.heap.size w w' := by
  go_enter Tryz.func260, Tryz.ntmps260
  go_wp2
  go_rounds 5
  go_returns
  refine ⟨ret_int (of4_val a0 a1 a2 a3 h0 h1 h2 h3), ?_⟩
  go_grown

theorem va4 (f : Nat → Value) : va 4 f = #[f 0, f 1, f 2, f 3] := rfl
theorem bytes32_va (x : Nat) (w : World) :
    Calls Tryz.prog 158 #[.int .u32 (x : Int)] w fun e w' => e = .returned (.agg (va 4 (iv .u8 (dig x)))) ∧ Below w.heap.size w w' := by
  refine (bytes32_any x w).mono ?_
  rintro e w' ⟨rfl, hb⟩
  refine ⟨?_, hb⟩
  simp [va4, iv, dig]
end Go.Proofs.YtojnlmfahgeidaaGreatDoor

namespace Go.Proofs.YtojnlmfahgeidaaGreatDoor
open Go.RowKit
set_option linter.unusedSimpArgs false
set_option linter.unusedVariables false

/-- a hasher's cells -/
def hashV (c p : Nat → Nat) (m : Nat) : Nat → Value := fun i => if i < 8 then .int .u32 ((c i : Nat) : Int) else if i < 40 then .int .u8 ((p (i - 8) : Nat) : Int) else .int .i64 (m : Int)

end Go.Proofs.YtojnlmfahgeidaaGreatDoor

namespace Go.Proofs.YtojnlmfahgeidaaGreatDoor
open Go Go.RowKit

/-- the byte of a text at a place -/
def byteAt (s : ByteArray) (i : Nat) : Nat := (s.data.toList.getD i 0).toNat
section
variable {P : Program}
end
end Go.Proofs.YtojnlmfahgeidaaGreatDoor

namespace Go.Proofs.YtojnlmfahgeidaaGreatDoor
open Go.RowKit
set_option linter.unusedSimpArgs false
set_option linter.unusedVariables false

/-- no block but g is changed -/
def Keeps (g : Nat) (w w' : World) : Prop := Below g w w' ∧ ∀ k, k ≠ g → k < w.heap.size → w'.heap[k]? = w.heap[k]?
theorem Keeps.refl (g : Nat) (w : World) : Keeps g w w := ⟨Below.refl _ _, fun _ _ _ => rfl⟩
theorem Keeps.trans {g : Nat} {a b c : World} (h : Keeps g a b) (k : Keeps g b c) : Keeps g a c :=
  ⟨h.1.trans k.1, fun i hi hl => (k.2 i hi (Nat.lt_of_lt_of_le hl h.1.size)).trans (h.2 i hi hl)⟩
theorem Keeps.of {g : Nat} {w w' : World} (h : Below w.heap.size w w') (hg : g ≤ w.heap.size) : Keeps g w w' := ⟨h.mono hg, fun k _ hl => h.block k hl⟩
theorem Keeps.drew {g : Nat} {w w' : World} (h : Keeps g w w') : Keeps g w w'.drew := ⟨h.1.drew, h.2⟩
theorem Keeps.setRow {g : Nat} {w w' : World} (h : Keeps g w w') (cs : Array Value) : Keeps g w (w'.setRow g cs) :=
  ⟨below_setRow h.1 (Nat.le_refl _) cs, fun k hk hl => (setRow_other w' g k cs hk).trans (h.2 k hk hl)⟩
theorem Keeps.blk {g k t : Nat} {w w' : World} {cs : Array Value} (h : Keeps g w w') (hb : Blk w k t cs) (hk : k ≠ g) : Blk w' k t cs := (h.2 k hk hb.lt).trans hb
theorem Keeps.setCells {g : Nat} {w : World} : ∀ (vs : List Value) (o : Nat) (w' : World), Keeps g w w' → Keeps g w (w'.setCells g o vs)
  | [], _, _, h => h
  | v :: vs, o, w', h => by
    rw [World.setCells]
    refine Keeps.setCells vs (o + 1) _ ⟨h.1.setCell (p := ⟨g, o, none⟩) (Nat.le_refl _) v, fun k hk hl => ?_⟩
    rw [← h.2 k hk hl]
    exact Deep.blk_setCell_other w' ⟨g, o, none⟩ v k hk
/-- the hasher holds the first m bytes of the text t -/
def Holds (w : World) (g : Nat) (c0 t : Nat → Nat) (m : Nat) : Prop :=
  ∃ p, okP p ∧ (∀ j, j < m % 32 → p j = t (32 * (m / 32) + j)) ∧ Blk w g 444 (va 41 (hashV (runN c0 t (m / 32)) p m))
end Go.Proofs.YtojnlmfahgeidaaGreatDoor

namespace Go.Proofs.YtojnlmfahgeidaaGreatDoor
open Go Go.RowKit
set_option linter.unusedVariables false
set_option linter.unusedSimpArgs false

section
variable {α β : Type} [DecidableEq α] {P : Program}
/-- how keys are told: encoded, compared, and that each may be a key -/
structure KeyOf (P : Program) (kt : TypeId) (K : α → Value) : Prop where
  desc : ∃ d, P.underlying kt = some d ∧ (∀ k, d ≠ .int k) ∧ d ≠ .string ∧ d ≠ .bool
  eq : ∀ a b w, (Op.equal kt (K a) (K b)).run P w = .ok (decide (a = b)) w
  chk : ∀ e a w, (Instr.checkKey e 10000 kt (K a)).run P w = .ok () w
/-- the map in block r holds these keys and elements, in this order -/
def MapIs (K : α → Value) (V : β → Value) (w : World) (r : Nat) (l : List (α × β)) : Prop :=
  ∃ es clock, w.heap[r]? = some (.map es clock) ∧ es.toList.map (fun e => (e.key, e.val)) = l.map fun p => (K p.1, V p.2)
def findIn (a : α) : List (α × β) → Option β
  | [] => none
  | p :: l => if a = p.1 then some p.2 else findIn a l
theorem findNow_none {d : TypeDesc} (h1 : ∀ k, d ≠ .int k) (h2 : d ≠ .string) (h3 : d ≠ .bool) (k : Value) (e : MapEntry) (es : List MapEntry) (i : Nat) : Instr.findNow d k (e :: es) i = none := by
  have : Instr.sameNow d k e.key = none := by
    unfold Instr.sameNow
    split
    · exact absurd rfl (h1 _)
    · exact absurd rfl h2
    · exact absurd rfl h3
    · rfl
  simp [Instr.findNow, this]
theorem run_findAsking {kt : TypeId} {K : α → Value} {V : β → Value} (hk : KeyOf P kt K) (a : α) (w : World) : ∀ (l : List (α × β)) (es : List MapEntry) (i : Nat), es.map (fun e => (e.key, e.val)) = l.map (fun p => (K p.1, V p.2)) →
    ∃ r, (Instr.findAsking kt (K a) es i).run P w = .ok r w ∧ (∀ b, findIn a l = some b → ∃ j, r = some (j, V b)) ∧ (findIn a l = none → r = none)
  | [], es, i, h => by
    have : es = [] := by cases es with
      | nil => rfl
      | cons e es => simp at h
    subst this
    exact ⟨none, by simp [Instr.findAsking], (fun b hb => by cases hb), fun _ => rfl⟩
  | p :: l, [], i, h => by simp at h
  | p :: l, e :: es, i, h => by
    simp only [List.map_cons, List.cons.injEq, Prod.mk.injEq] at h
    obtain ⟨⟨h1, h2⟩, h3⟩ := h
    have he := hk.eq a p.1 w
    rw [← h1] at he
    by_cases hq : a = p.1
    · refine ⟨some (i, e.val), ?_, fun b hb => ?_, fun hn => ?_⟩
      · simp only [Instr.findAsking, Sem.run_bind, he, Result.andThen_ok, decide_eq_true hq, if_true, Sem.run_pure]
      · unfold findIn at hb
        rw [if_pos hq] at hb
        cases hb
        exact ⟨i, by rw [h2]⟩
      · unfold findIn at hn
        rw [if_pos hq] at hn
        cases hn
    · obtain ⟨r, h4, h5, h6⟩ := run_findAsking hk a w l es (i + 1) h3
      refine ⟨r, ?_, fun b hb => ?_, fun hn => ?_⟩
      · simp only [Instr.findAsking, Sem.run_bind, he, Result.andThen_ok, decide_eq_false hq, Bool.false_eq_true, if_false, h4]
      · unfold findIn at hb
        rw [if_neg hq] at hb
        exact h5 b hb
      · unfold findIn at hn
        rw [if_neg hq] at hn
        exact h6 hn
theorem run_findKey {kt : TypeId} {K : α → Value} {V : β → Value} (hk : KeyOf P kt K) (a : α) (w : World) (l : List (α × β)) (es : List MapEntry) (h : es.map (fun e => (e.key, e.val)) = l.map (fun p => (K p.1, V p.2))) :
    ∃ r, (Instr.findKey kt (K a) es).run P w = .ok r w ∧ (∀ b, findIn a l = some b → ∃ j, r = some (j, V b)) ∧ (findIn a l = none → r = none) := by
  obtain ⟨d, hd, n1, n2, n3⟩ := hk.desc
  cases es with
  | nil =>
    have : l = [] := by cases l with
      | nil => rfl
      | cons p l => simp at h
    subst this
    exact ⟨none, by simp [Instr.findKey, run_underlying hd, Instr.findNow], (fun b hb => by cases hb), fun _ => rfl⟩
  | cons e es =>
    obtain ⟨r, h4, h5, h6⟩ := run_findAsking hk a w l (e :: es) 0 h
    exact ⟨r, by simp [Instr.findKey, run_underlying hd, findNow_none n1 n2 n3, h4], h5, h6⟩
/-- a look-up -/
theorem run_lookup_is {mt kt et : TypeId} {K : α → Value} {V : β → Value} {z : Value} (hm : P.underlying mt = some (.map kt et)) (hk : KeyOf P kt K) (hz : ∀ w, (zeroValue et).run P w = .ok z w) {w : World} {r : Nat} {l : List (α × β)} (h : MapIs K V w r l) (a : α) (ok : Bool) :
    (Instr.lookup mt (.map (some r)) (K a) ok).run P w = .ok (if ok then .tuple #[((findIn a l).map V).getD z, .bool (findIn a l).isSome] else ((findIn a l).map V).getD z) w := by
  obtain ⟨es, clock, hg, he⟩ := h
  obtain ⟨x, h4, h5, h6⟩ := run_findKey hk a w l es.toList he
  have hc := hk.chk es.isEmpty a w
  have hgo : (getObj r).run P w = .ok (.map es clock) w := by simp [getObj, Sem.run, hg]
  cases hf : findIn a l with
  | none =>
    obtain rfl := h6 hf
    cases ok <;> simp [Instr.lookup, run_underlying hm, hgo, hc, h4, hz]
  | some b =>
    obtain ⟨j, rfl⟩ := h5 b hf
    cases ok <;> simp [Instr.lookup, run_underlying hm, hgo, hc, h4]
/-- a new key stored -/
theorem run_update_is {mt kt et : TypeId} {K : α → Value} {V : β → Value} (hm : P.underlying mt = some (.map kt et)) (hk : KeyOf P kt K) {w : World} {r : Nat} {l : List (α × β)} (h : MapIs K V w r l) (a : α) (b : β) (hn : findIn a l = none) :
    ∃ w', (Instr.mapUpdate mt (.map (some r)) (K a) (V b)).run P w = .ok () w' ∧ MapIs K V w' r (l ++ [(a, b)]) ∧ Keeps r w w' := by
  obtain ⟨es, clock, hg, he⟩ := h
  obtain ⟨x, h4, h5, h6⟩ := run_findKey hk a w l es.toList he
  obtain rfl := h6 hn
  have hc := hk.chk false a w
  have hgo : (getObj r).run P w = .ok (.map es clock) w := by simp [getObj, Sem.run, hg]
  have hso : ∀ o, (setObj r o).run P w = .ok () { w with heap := w.heap.setIfInBounds r o } := fun o => by simp [setObj, Sem.run, hg]
  have hr : r < w.heap.size := (Array.getElem?_eq_some_iff.1 hg).1
  refine ⟨{ w with heap := w.heap.setIfInBounds r (.map (es.push { key := K a, val := V b, born := clock }) (clock + 1)) }, ?_, ⟨es.push { key := K a, val := V b, born := clock }, clock + 1, ?_, ?_⟩, ⟨⟨rfl, rfl, rfl, by simp, fun k hk => ?_⟩, fun k hk _ => ?_⟩⟩
  · simp [Instr.mapUpdate, run_underlying hm, hgo, hc, h4, hso]
  · simp [hr]
  · simp [he]
  · simp [Array.getElem?_setIfInBounds, show r ≠ k by omega]
  · simp [Array.getElem?_setIfInBounds, Ne.symm hk]
theorem findIn_append (a : α) (l m : List (α × β)) : findIn a (l ++ m) = (findIn a l).or (findIn a m) := by
  induction l with
  | nil => rfl
  | cons p l ih =>
    simp only [List.cons_append, findIn]
    by_cases h : a = p.1
    · simp [h]
    · simp [h, ih]
end
theorem MapIs.keep {α β : Type} {K : α → Value} {V : β → Value} {w w' : World} {r g : Nat} {l : List (α × β)} (h : MapIs K V w r l) (hk : Keeps g w w') (hne : r ≠ g) : MapIs K V w' r l := by
  obtain ⟨es, clock, hg, he⟩ := h
  exact ⟨es, clock, (hk.2 r hne (Array.getElem?_eq_some_iff.1 hg).1).trans hg, he⟩
theorem MapIs.below {α β : Type} {K : α → Value} {V : β → Value} {w w' : World} {r B : Nat} {l : List (α × β)} (h : MapIs K V w r l) (hb : Below B w w') (hB : r < B) : MapIs K V w' r l := by
  obtain ⟨es, clock, hg, he⟩ := h
  exact ⟨es, clock, (hb.block r hB).trans hg, he⟩
end Go.Proofs.YtojnlmfahgeidaaGreatDoor

namespace Go.Proofs.YtojnlmfahgeidaaGreatDoor
open Go.RowKit
set_option linter.unusedSimpArgs false
set_option linter.unusedVariables false

/-- the digest of the text t, m bytes of it, out of a first chain -/
def ofC (c0 t : Nat → Nat) (m : Nat) : Nat → Nat := sumN (runN c0 (padN t m) ((m + 8) / 32 + 1))
theorem Holds.lt {w : World} {g m : Nat} {c0 t : Nat → Nat} (h : Holds w g c0 t m) : g < w.heap.size := by
  obtain ⟨p, _, _, hB⟩ := h
  exact hB.lt

end Go.Proofs.YtojnlmfahgeidaaGreatDoor

namespace Go.Proofs.YtojnlmfahgeidaaGreatDoor
open Go.RowKit
set_option linter.unusedSimpArgs false
set_option linter.unusedVariables false

/-- an entry as a value -/
def entV (e : Nat × ByteArray) : Value := .agg #[.int .u8 ((e.1 : Nat) : Int), .string e.2]
def sumV (y : Nat → Nat) : Value := .agg (va 32 (iv .u8 y))
/-- an entry's digest -/
def sumOf (e : Nat × ByteArray) : Nat → Nat := ofC (firstN e.1) (byteAt e.2) e.2.size

theorem beqB (a b : ByteArray) : (a == b) = decide (a = b) := by
  obtain ⟨x⟩ := a
  obtain ⟨y⟩ := b
  have e : ((⟨x⟩ : ByteArray) == ⟨y⟩) = (x == y) := rfl
  rw [e]
  by_cases h : x = y
  · subst h
    simp
  · have h2 : ¬ ((⟨x⟩ : ByteArray) = ⟨y⟩) := fun q => h (by injection q)
    rw [decide_eq_false h2]
    simpa using h
theorem eq_entry (d : Nat) (a b : Nat × ByteArray) (w : World) : (Op.equalIn (d + 1 + 1) 431 (entV a) (entV b)).run Tryz.prog w = .ok (decide (a = b)) w := by
  unfold entV
  have h1 : ∀ x y : Int, (Op.equalIn (d + 1) 5 (.int .u8 x) (.int .u8 y)).run Tryz.prog w = .ok (x == y) w := fun x y => by simp [Op.equalIn, run_underlying Tryz.underlying5]
  have h2 : ∀ x y : ByteArray, (Op.equalIn (d + 1) 9 (.string x) (.string y)).run Tryz.prog w = .ok (x == y) w := fun x y => by simp [Op.equalIn, run_underlying Tryz.underlying9]
  have p1 : ∀ (x : Int) (y : ByteArray), (part 5 #[.int .u8 x, .string y] 0).run Tryz.prog w = .ok (.int .u8 x) w := fun x y => by simp [part, isAgg, run_underlying Tryz.underlying5]
  have p2 : ∀ (x : Int) (y : ByteArray), (part 9 #[.int .u8 x, .string y] 1).run Tryz.prog w = .ok (.string y) w := fun x y => by simp [part, isAgg, run_underlying Tryz.underlying9]
  rw [Op.equalIn]
  simp only [Sem.run_bind, run_underlying Tryz.underlying431, Result.andThen_ok]
  simp [Op.eqFields, p1, p2, h1, h2]
  obtain ⟨a1, a2⟩ := a
  obtain ⟨b1, b2⟩ := b
  by_cases ha : a1 = b1
  · subst ha
    by_cases hb : a2 = b2
    · subst hb
      simp [beqB]
    · simp [beqB, hb]
  · have hc : ¬ ((a1 : Int) = (b1 : Int)) := by omega
    simp [ha, hc]
theorem chk_entry (d : Nat) (e : Bool) (a : Nat × ByteArray) (w : World) : (Instr.checkKey e (d + 1 + 1) 431 (entV a)).run Tryz.prog w = .ok () w := by
  unfold entV
  have h1 : ∀ x : Int, (Instr.checkKey e (d + 1) 5 (.int .u8 x)).run Tryz.prog w = .ok () w := fun x => by simp [Instr.checkKey, run_underlying Tryz.underlying5]
  have h2 : ∀ x : ByteArray, (Instr.checkKey e (d + 1) 9 (.string x)).run Tryz.prog w = .ok () w := fun x => by simp [Instr.checkKey, run_underlying Tryz.underlying9]
  have p1 : ∀ (x : Int) (y : ByteArray), (part 5 #[.int .u8 x, .string y] 0).run Tryz.prog w = .ok (.int .u8 x) w := fun x y => by simp [part, isAgg, run_underlying Tryz.underlying5]
  have p2 : ∀ (x : Int) (y : ByteArray), (part 9 #[.int .u8 x, .string y] 1).run Tryz.prog w = .ok (.string y) w := fun x y => by simp [part, isAgg, run_underlying Tryz.underlying9]
  rw [Instr.checkKey]
  simp only [Sem.run_bind, run_underlying Tryz.underlying431, Result.andThen_ok]
  simp [p1, p2, h1, h2]
theorem entry_key : KeyOf Tryz.prog 431 entV where
  desc := ⟨_, Tryz.underlying431, (fun k h => by cases h), (fun h => by cases h), (fun h => by cases h)⟩
  eq a b w := eq_entry 9998 a b w
  chk e a w := chk_entry 9998 e a w
theorem zero_sum (w : World) : (zeroValue 118).run Tryz.prog w = .ok (sumV fun _ => 0) w := by
  obtain ⟨i, hi⟩ : ∃ i, Tryz.prog.info? 118 = some i := Option.isSome_iff_exists.1 (by kernel_rfl)
  have hz : i.zero = some (sumV fun _ => 0) := by
    have : (Tryz.prog.info? 118).bind (·.zero) = some (sumV fun _ => 0) := by kernel_rfl
    rw [hi] at this
    exact this
  simp [zeroValue, typeInfo, hi, hz]
end Go.Proofs.YtojnlmfahgeidaaGreatDoor

namespace Go.Proofs.YtojnlmfahgeidaaGreatDoor
open Go.RowKit
set_option linter.unusedSimpArgs false
set_option linter.unusedVariables false

/-- the cells of a list of entries -/
def entCells (E : List (Nat × ByteArray)) : List Value := E.flatMap fun e => [.int .u8 ((e.1 : Nat) : Int), .string e.2]
/-- the log in block g, its map in block r, its entries in the slice v -/
def LogAt (w : World) (g r : Nat) (v : Value) (E : List (Nat × ByteArray)) : Prop :=
  Blk w g 312 #[v, .map (some r)] ∧ w.ownsRow 0 431 2 v E.length (entCells E) ∧ MapIs entV sumV w r (E.map fun e => (e, sumOf e))

set_option maxHeartbeats 1000000 in
theorem newLog_any (w : World) :
    Calls Tryz.prog 129 #[] w fun e w' => ∃ g r, e = .returned (.pointer (some ⟨g, 0, none⟩)) ∧ w.heap.size ≤ g ∧ w.heap.size ≤ r ∧ LogAt w' g r (.slice none 0 0) [] ∧ Below w.heap.size w w' := by
  have hmm := @run_makeMap Tryz.prog
  go_enter Tryz.func129, Tryz.ntmps129
  go_wp2_with fail
  go_returns
  have e : (w.alloc (Obj.map #[] 0)).heap.size = w.heap.size + 1 := by simp
  have b1 : Below w.heap.size w (w.alloc (Obj.map #[] 0)) := (Below.refl _ _).alloc (Nat.le_refl _) _
  refine ⟨w.heap.size + 1, w.heap.size, rfl, by omega, Nat.le_refl _, ⟨?_, ?_, ?_⟩, b1.alloc (by omega) _⟩
  · rw [← e]
    exact Blk.new _ _ _
  · exact World.ownsRow_nil _ _ _ _
  · refine ⟨#[], 0, ?_, rfl⟩
    rw [heap_alloc_old _ _ (by omega)]
    exact heap_alloc_new w _

/-- whether an entry is there, and the digest that is found -/
def isIn (e : Nat × ByteArray) (E : List (Nat × ByteArray)) : Bool := (findIn e (E.map fun e => (e, sumOf e))).isSome
def lookS (e : Nat × ByteArray) (E : List (Nat × ByteArray)) : Nat → Nat := (findIn e (E.map fun e => (e, sumOf e))).getD fun _ => 0
theorem LogAt.look {w : World} {g r : Nat} {v : Value} {E : List (Nat × ByteArray)} (h : LogAt w g r v E) (e : Nat × ByteArray) (ok : Bool) {w' : World} (hb : Below w.heap.size w w') :
    Sem.run Tryz.prog (Instr.lookup 309 (.map (some r)) (.agg #[.int .u8 ((e.1 : Nat) : Int), .string e.2]) ok) w' =
      .ok (if ok then .tuple #[.agg (va 32 (iv .u8 (lookS e E))), .bool (isIn e E)] else .agg (va 32 (iv .u8 (lookS e E)))) w' := by
  obtain ⟨es, clock, hg, he⟩ := h.2.2
  have := run_lookup_is Tryz.underlying309 entry_key zero_sum (MapIs.below h.2.2 hb (Array.getElem?_eq_some_iff.1 hg).1) e ok
  have e1 : ((findIn e (E.map fun e => (e, sumOf e))).map sumV).getD (sumV fun _ => 0) = .agg (va 32 (iv .u8 (lookS e E))) := by
    unfold lookS
    cases findIn e (E.map fun e => (e, sumOf e)) <;> rfl
  rw [e1] at this
  exact this
end Go.Proofs.YtojnlmfahgeidaaGreatDoor

namespace Go.Proofs.YtojnlmfahgeidaaGreatDoor
open Go Go.RowKit
set_option linter.unusedVariables false

/-- the slice v of m bytes, told by f, in a block from B on; all up to its capacity may be written -/
def RowC (w : World) (B : Nat) (v : Value) (m : Nat) (f : Nat → Nat) : Prop :=
  ∃ b cap, v = .slice (some ⟨b, 0, none⟩) m cap ∧ B ≤ b ∧ b < w.heap.size ∧ m ≤ cap ∧ (∀ j, j < m → w.cell? ⟨b, j, none⟩ = some (.int .u8 ((f j : Nat) : Int))) ∧
    (∀ j, j < cap → (w.cell? ⟨b, j, none⟩).isSome = true ∧ w.frozen? ⟨b, j, none⟩ = false)
theorem RowC.below {w w' : World} {B B' m : Nat} {v : Value} {f : Nat → Nat} (h : RowC w B v m f) (hb : Below B' w w') (hB : w.heap.size ≤ B') : RowC w' B v m f := by
  obtain ⟨b, cap, rfl, h1, h2, h3, h4, h5⟩ := h
  have hblk : w'.heap[b]? = w.heap[b]? := hb.block b (by omega)
  have e1 : ∀ j, w'.cell? ⟨b, j, none⟩ = w.cell? ⟨b, j, none⟩ := fun j => by simp [World.cell?, hblk]
  have e2 : ∀ j, w'.frozen? ⟨b, j, none⟩ = w.frozen? ⟨b, j, none⟩ := fun j => by simp [World.frozen?, hblk]
  exact ⟨b, cap, rfl, h1, Nat.lt_of_lt_of_le h2 hb.size, h3, fun j hj => by rw [e1]; exact h4 j hj, fun j hj => by rw [e1, e2]; exact h5 j hj⟩
theorem RowC.congr {w : World} {B m : Nat} {v : Value} {f g : Nat → Nat} (h : RowC w B v m f) (e : ∀ j, j < m → f j = g j) : RowC w B v m g := by
  obtain ⟨b, cap, rfl, h1, h2, h3, h4, h5⟩ := h
  exact ⟨b, cap, rfl, h1, h2, h3, fun j hj => by rw [h4 j hj, e j hj], h5⟩

end Go.Proofs.YtojnlmfahgeidaaGreatDoor

namespace Go.Proofs.YtojnlmfahgeidaaGreatDoor
open Go Go.RowKit
set_option linter.unusedSimpArgs false
set_option linter.unusedVariables false

/-- of the first n digests: k the least place with a like one ahead of it, i the first such; or none -/
def CollIs {α : Type} (D : Nat → α) (n i k : Nat) (b : Bool) : Prop :=
  (b = true ∧ i < k ∧ k < n ∧ D i = D k ∧ (∀ x, x < i → D x ≠ D k) ∧ ∀ y, y < k → ∀ x, x < y → D x ≠ D y) ∨
  (b = false ∧ i = 0 ∧ k = 0 ∧ ∀ y, y < n → ∀ x, x < y → D x ≠ D y)
theorem CollIs.same {α : Type} {D : Nat → α} {n i k i' k' : Nat} {b b' : Bool} (h : CollIs D n i k b) (h' : CollIs D n i' k' b') : i' = i ∧ k' = k ∧ b' = b := by
  rcases h with ⟨rfl, h1, h2, h3, h4, h5⟩ | ⟨rfl, rfl, rfl, h5⟩
  · rcases h' with ⟨rfl, g1, g2, g3, g4, g5⟩ | ⟨rfl, rfl, rfl, g5⟩
    · have hk : k' = k := by
        rcases Nat.lt_trichotomy k' k with q | q | q
        · exact absurd g3 (h5 k' q i' g1)
        · exact q
        · exact absurd h3 (g5 k q i h1)
      subst hk
      refine ⟨?_, rfl, rfl⟩
      rcases Nat.lt_trichotomy i' i with q | q | q
      · exact absurd g3 (h4 i' q)
      · exact q
      · exact absurd h3 (g4 i q)
    · exact absurd h3 (g5 k h2 i h1)
  · rcases h' with ⟨rfl, g1, g2, g3, g4, g5⟩ | ⟨rfl, rfl, rfl, g5⟩
    · exact absurd g3 (h5 k' g2 i' g1)
    · exact ⟨rfl, rfl, rfl⟩

def dF (d : Vector Nat 32) : Nat → Nat := fun i => (d[i]?).getD 0
def dK (d : Vector Nat 32) : Value := .agg (va 32 (iv .u8 (dF d)))
theorem dF_inj {a b : Vector Nat 32} (h : ∀ i, i < 32 → dF a i = dF b i) : a = b := by
  apply Vector.ext
  intro i hi
  have := h i hi
  unfold dF at this
  simpa [hi] using this

end Go.Proofs.YtojnlmfahgeidaaGreatDoor

namespace Go.Proofs.YtojnlmfahgeidaaGreatDoor
open Go Go.RowKit
set_option linter.unusedSimpArgs false
set_option linter.unusedVariables false

def vF (d : Vector Nat 256) : Nat → Nat := fun i => (d[i]?).getD 0
def bK (d : Vector Nat 256) : Value := .agg (va 256 (iv .u8 (vF d)))
end Go.Proofs.YtojnlmfahgeidaaGreatDoor

namespace Go.Proofs.YtojnlmfahgeidaaGreatDoor
open Go.RowKit
set_option linter.unusedSimpArgs false
set_option linter.unusedVariables false

/-- what a log may change: its own block, its map, its row -/
def LogKeeps (g r : Nat) (v : Value) (w w' : World) : Prop :=
  w'.os = w.os ∧ w'.tape = w.tape ∧ w'.output = w.output ∧ w.heap.size ≤ w'.heap.size ∧ ∀ k, k < w.heap.size → k ≠ g → k ≠ r → v.ownBlock ≠ some k → w'.heap[k]? = w.heap[k]?

theorem own_ne {w : World} {B e size n g t : Nat} {v : Value} {xs : List Value} {cs : Array Value} (h : w.ownsRow B e size v n xs) (hb : Blk w g t cs) (hne : e ≠ t) : v.ownBlock ≠ some g := fun hq => by
  rcases h.2 with ⟨rfl, _⟩ | ⟨b, cap, cur, rfl, _, hg, _⟩
  · simp [Value.ownBlock] at hq
  · simp [Value.ownBlock] at hq
    subst hq
    unfold Blk at hb
    rw [hb] at hg
    simp at hg
    exact hne hg.2.symm
theorem own_map {w : World} {B e size n r clock : Nat} {v : Value} {xs : List Value} {es : Array MapEntry} (h : w.ownsRow B e size v n xs) (hb : w.heap[r]? = some (.map es clock)) : v.ownBlock ≠ some r := fun hq => by
  rcases h.2 with ⟨rfl, _⟩ | ⟨b, cap, cur, rfl, _, hg, _⟩
  · simp [Value.ownBlock] at hq
  · simp [Value.ownBlock] at hq
    subst hq
    rw [hb] at hg
    cases hg
theorem own_block {w w' : World} {B e size n : Nat} {v : Value} {xs : List Value} (h : w.ownsRow B e size v n xs) (hk : ∀ k, v.ownBlock = some k → w'.heap[k]? = w.heap[k]?) : w'.ownsRow B e size v n xs := by
  refine ⟨h.1, ?_⟩
  rcases h.2 with hn | ⟨g, cap, cur, rfl, hg, hgg, rest⟩
  · exact .inl hn
  · exact .inr ⟨g, cap, cur, rfl, hg, (hk g rfl).trans hgg, rest⟩
end Go.Proofs.YtojnlmfahgeidaaGreatDoor

namespace Go.Proofs.YtojnlmfahgeidaaGreatDoor
open Go.RowKit
set_option linter.unusedSimpArgs false
set_option linter.unusedVariables false

theorem LogAt.below {w w' : World} {g r : Nat} {v : Value} {E : List (Nat × ByteArray)} (h : LogAt w g r v E) (hb : Below w.heap.size w w') : LogAt w' g r v E := by
  obtain ⟨hB, hown, hM⟩ := h
  refine ⟨hB.below hb hB.lt, own_block hown (fun k hk => hb.block k (hown.lt k hk).2), hM.below hb ?_⟩
  obtain ⟨es, cl, hg, _⟩ := hM
  exact (Array.getElem?_eq_some_iff.1 hg).1
end Go.Proofs.YtojnlmfahgeidaaGreatDoor

namespace Go.Proofs.YtojnlmfahgeidaaGreatDoor
open Go Go.RowKit

section
variable {ops : Array Oper}

/-- every order from here on has so many steps -/
def treeOk (ops : Array Oper) : Nat → Array Bool → Bool
  | 0, listed => (Region.ready .any ops listed).isEmpty
  | n + 1, listed => !(Region.ready .any ops listed).isEmpty && (Region.ready .any ops listed).all fun i => (ops[i]?).isSome && treeOk ops n (listed.setIfInBounds i true)
/-- the check of the whole region -/
def treeB (ops : Array Oper) (lows : List Tmp) (takes : List Nat) : Bool :=
  decide (takes.length ≤ ops.size) && Region.noSelect ops && (lows.all fun x => ops.all fun o => o.dst != some x) &&
    match takesB .any ops [] lows takes (Array.replicate ops.size false) with
    | some l => treeOk ops (ops.size - takes.length) l
    | none => false
def listedOf (n : Nat) (takes : List Nat) : Array Bool := takes.foldl (fun l i => l.setIfInBounds i true) (Array.replicate n false)
theorem takesB_listed {md : Region.Mode} {Wl : List Nat} {lows : List Tmp} : ∀ (ts : List Nat) (l l2 : Array Bool), takesB md ops Wl lows ts l = some l2 → l2 = ts.foldl (fun l i => l.setIfInBounds i true) l
  | [], l, l2, h => by simp only [takesB, Option.some.injEq] at h; exact h.symm
  | i :: ts, l, l2, h => by
    unfold takesB at h
    split at h
    · exact takesB_listed ts _ l2 h
    · cases h
end
section
variable {P : Program} {ops : Array Oper} {Q : Exit → Act → World → Prop} {B : Nat} {w0 : World} {lows : List Tmp}
/-- S is kept behind every step of the walk that is left -/
def wpTreeS (P : Program) (ops : Array Oper) (Q : Exit → Act → World → Prop) (S : World → Prop) : Nat → Array Bool → Act → World → Prop
  | 0, _, a, w => Strict Q .normal a w
  | n + 1, listed, a, w => ∀ i ∈ Region.ready .any ops listed, wpList P ops (Strict fun _ a' w' => S w' ∧ wpTreeS P ops Q S n (listed.setIfInBounds i true) a' w') ([i].filterMap fun i => ops[i]?) a w
theorem treeS_any {S : World → Prop} : ∀ (n : Nat) (listed : Array Bool) (a : Act) (w : World), treeOk ops n listed = true → wpTreeS P ops Q S n listed a w → wpAnyW P .any ops (Strict Q) S (([] : List Nat).contains ·) n listed a w
  | 0, listed, a, w, hb, h => ⟨by simpa [treeOk] using hb, h⟩
  | n + 1, listed, a, w, hb, h => by
    simp only [treeOk, Bool.and_eq_true, Bool.not_eq_true', List.all_eq_true] at hb
    refine ⟨fun h0 => (by rw [h0] at hb; exact absurd hb.1 (by simp)), fun i hi => ?_⟩
    obtain ⟨h1, h2⟩ := hb.2 i hi
    obtain ⟨o, ho⟩ := Option.isSome_iff_exists.1 h1
    refine wpOp_mono (fun a' w' h' => ?_) (wpOp_strict (wpList_one ho (h i hi)))
    exact ⟨fun _ => h'.2.1, treeS_any n _ a' w' h2 h'.2.2⟩
/-- THE LAW. -/
theorem wp_region_tree {id : Nat} {a : Act} {w : World} (lows : List Tmp) (takes : List Nat) (B : Nat) (hm : P.follows .mixedOrders = true) (hB : treeB ops lows takes = true)
    (hl : Lows lows B w a)
    (h : wpList P ops (Strict fun _ a' w' => wpTreeS P ops Q (Below B w) (ops.size - takes.length) (listedOf ops.size takes) a' w') ((takes ++ []).filterMap fun i => ops[i]?) a w.drew) :
    (Code.region id ops true).wp P Q a w := by
  unfold treeB at hB
  simp only [Bool.and_eq_true, decide_eq_true_eq] at hB
  obtain ⟨⟨⟨hlen, hs⟩, hlow⟩, hrest⟩ := hB
  have hd : ∀ x ∈ lows, ∀ (j : Nat) (o : Oper), ops[j]? = some o → o.dst ≠ some x := fun x hx j o ho => by
    have h1 := List.all_eq_true.1 hlow x hx
    have h2 := Array.all_eq_true_iff_forall_mem.1 h1 o (Array.mem_of_getElem? ho)
    simpa using h2
  split at hrest
  · rename_i l hl2
    have he := takesB_listed takes _ l hl2
    refine Code.wp_mono Strict.imp (wp_region_any hm ?_)
    have e : ops.size = takes.length + (ops.size - takes.length) := by omega
    rw [e]
    refine wpAny_of_W (S := Below B w) (W := (([] : List Nat).contains ·)) _ _ _ _ (takes_step hs hd [] _ _ takes _ l a _ (by rw [← e]; exact hl2) (fun a' w' hl' _ h' => ?_) hl (Below.refl B w).drew h)
    have h2 := h'.2
    unfold listedOf at h2
    rw [← he] at h2
    exact treeS_any _ l a' w' hrest h2
  · cases hrest
theorem treeS_step {S : World → Prop} {n : Nat} {listed : Array Bool} {a : Act} {w : World} (l : List Nat) (hr : (Region.ready .any ops listed == l) = true)
    (h : ∀ i ∈ l, wpList P ops (Strict fun _ a' w' => S w' ∧ wpTreeS P ops Q S n (listed.setIfInBounds i true) a' w') ([i].filterMap fun i => ops[i]?) a w) : wpTreeS P ops Q S (n + 1) listed a w := by
  unfold wpTreeS
  rw [eq_of_beq hr]
  exact h
theorem treeS_one {S : World → Prop} {n : Nat} {listed : Array Bool} {a : Act} {w : World} (i : Nat) (hr : (Region.ready .any ops listed == [i]) = true)
    (h : wpList P ops (Strict fun _ a' w' => S w' ∧ wpTreeS P ops Q S n (listed.setIfInBounds i true) a' w') ([i].filterMap fun i => ops[i]?) a w) : wpTreeS P ops Q S (n + 1) listed a w :=
  treeS_step [i] hr fun j hj => by
    have : j = i := by simpa using hj
    subst this
    exact h
theorem treeS_two {S : World → Prop} {n : Nat} {listed : Array Bool} {a : Act} {w : World} (i j : Nat) (hr : (Region.ready .any ops listed == [i, j]) = true)
    (h : wpList P ops (Strict fun _ a' w' => S w' ∧ wpTreeS P ops Q S n (listed.setIfInBounds i true) a' w') ([i].filterMap fun i => ops[i]?) a w)
    (h2 : wpList P ops (Strict fun _ a' w' => S w' ∧ wpTreeS P ops Q S n (listed.setIfInBounds j true) a' w') ([j].filterMap fun i => ops[i]?) a w) : wpTreeS P ops Q S (n + 1) listed a w :=
  treeS_step [i, j] hr fun k hk => by
    have : k = i ∨ k = j := by simpa using hk
    rcases this with rfl | rfl
    · exact h
    · exact h2
theorem treeS_last {S : World → Prop} {listed : Array Bool} {a : Act} {w : World} (h : Strict Q .normal a w) : wpTreeS P ops Q S 0 listed a w := h
end
end Go.Proofs.YtojnlmfahgeidaaGreatDoor

namespace Go.Proofs.YtojnlmfahgeidaaGreatDoor
open Go.RowKit
set_option linter.unusedSimpArgs false
set_option linter.unusedVariables false

theorem own_own {w : World} {B B' e e' size size' n n' k : Nat} {v v' : Value} {xs xs' : List Value} (h : w.ownsRow B e size v n xs) (h' : w.ownsRow B' e' size' v' n' xs') (hne : e ≠ e') (hk : v.ownBlock = some k) : v'.ownBlock ≠ some k := fun hk' => by
  rcases h.2 with ⟨rfl, _⟩ | ⟨b, cap, cur, rfl, _, hg, _⟩
  · simp [Value.ownBlock] at hk
  · rcases h'.2 with ⟨rfl, _⟩ | ⟨b', cap', cur', rfl, _, hg', _⟩
    · simp [Value.ownBlock] at hk'
    · simp [Value.ownBlock] at hk hk'
      subst hk
      subst hk'
      rw [hg] at hg'
      simp at hg'
      exact hne hg'.2
/-- two logs that share no memory -/
def Apart2 (g r : Nat) (v : Value) (g' r' : Nat) (v' : Value) : Prop := g' ≠ g ∧ r' ≠ r ∧ ∀ k, v'.ownBlock = some k → v.ownBlock ≠ some k
/-- all of a log lies from B on -/
def LogFrom (B g r : Nat) (v : Value) : Prop := B ≤ g ∧ B ≤ r ∧ ∀ k, v.ownBlock = some k → B ≤ k
theorem map_blk {w : World} {r g t : Nat} {cs : Array Value} {es : Array MapEntry} {cl : Nat} (hg : w.heap[r]? = some (.map es cl)) (hB : Blk w g t cs) : r ≠ g := fun q => by
  subst q
  unfold Blk at hB
  rw [hB] at hg
  cases hg
section
variable {w w' : World} {g r : Nat} {v : Value} {E : List (Nat × ByteArray)}
theorem LogKeeps.log {g' r' : Nat} {v' : Value} {F : List (Nat × ByteArray)} (hk : LogKeeps g r v w w') (h : LogAt w g r v E) (h' : LogAt w g' r' v' F) (ha : Apart2 g r v g' r' v') : LogAt w' g' r' v' F := by
  obtain ⟨hB, hown, es, cl, hg, _⟩ := h
  obtain ⟨hB', hown', es', cl', hg', he'⟩ := h'
  obtain ⟨a1, a2, a3⟩ := ha
  refine ⟨?_, own_block hown' fun k hkk => ?_, es', cl', ?_, he'⟩
  · unfold Blk
    rw [hk.2.2.2.2 g' hB'.lt a1 (fun q => map_blk hg hB' q.symm) (own_ne hown hB' (by decide))]
    exact hB'
  · refine hk.2.2.2.2 k (hown'.lt k hkk).2 (fun q => ?_) (fun q => ?_) (a3 k hkk)
    · subst q
      exact own_ne hown' hB (by decide) hkk
    · subst q
      exact own_map hown' hg hkk
  · rw [hk.2.2.2.2 r' (Array.getElem?_eq_some_iff.1 hg').1 (map_blk hg' hB) a2 (own_map hown hg')]
    exact hg'
theorem LogKeeps.blk {b t : Nat} {cs : Array Value} (hk : LogKeeps g r v w w') (h : LogAt w g r v E) (hb : Blk w b t cs) (h1 : t ≠ 312) (h2 : 431 ≠ t) : Blk w' b t cs := by
  obtain ⟨hB, hown, es, cl, hg, _⟩ := h
  unfold Blk
  rw [hk.2.2.2.2 b hb.lt (fun q => ?_) (fun q => map_blk hg hb q.symm) (own_ne hown hb h2)]
  · exact hb
  · subst q
    unfold Blk at hB hb
    rw [hB] at hb
    simp at hb
    exact h1 hb.2.symm
theorem LogKeeps.below {B : Nat} (hk : LogKeeps g r v w w') (hf : LogFrom B g r v) (hB : B ≤ w.heap.size) : Below B w w' :=
  ⟨hk.1, hk.2.1, hk.2.2.1, hk.2.2.2.1, fun k hkB => hk.2.2.2.2 k (by omega) (by have := hf.1; omega) (by have := hf.2.1; omega) (fun q => by have := hf.2.2 k q; omega)⟩
theorem LogKeeps.of_below (hb : Below w.heap.size w w') : LogKeeps g r v w w' := ⟨hb.os, hb.tape, hb.output, hb.size, fun k h1 _ _ _ => hb.block k h1⟩
end
theorem LogAt.lts {w : World} {g r : Nat} {v : Value} {E : List (Nat × ByteArray)} (h : LogAt w g r v E) : g < w.heap.size ∧ r < w.heap.size ∧ ∀ k, v.ownBlock = some k → k < w.heap.size := by
  obtain ⟨hB, hown, es, cl, hg, _⟩ := h
  exact ⟨hB.lt, (Array.getElem?_eq_some_iff.1 hg).1, fun k hk => (hown.lt k hk).2⟩
theorem Apart2.symm {g r : Nat} {v : Value} {g' r' : Nat} {v' : Value} (h : Apart2 g r v g' r' v') : Apart2 g' r' v' g r v := ⟨h.1.symm, h.2.1.symm, fun k h1 h2 => h.2.2 k h2 h1⟩
end Go.Proofs.YtojnlmfahgeidaaGreatDoor

namespace Go.Proofs.YtojnlmfahgeidaaGreatDoor
open Go Go.RowKit
set_option linter.unusedSimpArgs false
set_option linter.unusedVariables false

def intL (l : List Nat) : List Value := l.map fun (x : Nat) => Value.int .i64 (x : Int)
/-- the slice v of slices ss holds the groups G, all from block B on, no two in one block -/
structure GrpAt (w : World) (B : Nat) (v : Value) (G : List (List Nat)) (ss : List Value) : Prop where
  row : w.ownsRow B 78 1 v G.length ss
  each : ∀ j, j < G.length → w.ownsRow B 3 1 (ss.getD j undef) (G.getD j []).length (intL (G.getD j []))
  apart : ∀ i j, i ≠ j → i < G.length → j < G.length → ∀ b, (ss.getD i undef).ownBlock = some b → (ss.getD j undef).ownBlock ≠ some b
theorem GrpAt.len {w : World} {B : Nat} {v : Value} {G : List (List Nat)} {ss : List Value} (h : GrpAt w B v G ss) : ss.length = G.length := by
  have := h.row.1
  omega
theorem GrpAt.below {w w' : World} {B : Nat} {v : Value} {G : List (List Nat)} {ss : List Value} (h : GrpAt w B v G ss) (hb : Below w.heap.size w w') : GrpAt w' B v G ss :=
  ⟨kown_below h.row hb, fun j hj => kown_below (h.each j hj) hb, h.apart⟩
theorem GrpAt.nil (w : World) (B : Nat) : GrpAt w B (.slice none 0 0) [] [] := ⟨World.ownsRow_nil _ _ _ _, fun j hj => absurd hj (by simp), fun i j _ hi => absurd hi (by simp)⟩
/-- one more group, with nothing in it -/
theorem GrpAt.more {w w' : World} {B : Nat} {v v' : Value} {G : List (List Nat)} {ss : List Value} (h : GrpAt w B v G ss) (hrow : w'.ownsRow B 78 1 v' (G.length + 1) (ss ++ [.slice none 0 0])) (hg : w.grownBy w' v.ownBlock) : GrpAt w' B v' (G ++ [[]]) (ss ++ [.slice none 0 0]) := by
  have hl := h.len
  have e1 : ∀ j, j < G.length → (ss ++ [Value.slice none 0 0]).getD j undef = ss.getD j undef := fun j hj => by
    simp [List.getD, List.getElem?_append_left (show j < ss.length by omega)]
  have e2 : (ss ++ [Value.slice none 0 0]).getD G.length undef = .slice none 0 0 := by
    rw [← hl]
    simp [List.getD]
  refine ⟨by simpa using hrow, fun j hj => ?_, fun i j hij hi hj b hb => ?_⟩
  · by_cases hjl : j < G.length
    · rw [e1 j hjl, show (G ++ [([] : List Nat)]).getD j [] = G.getD j [] by simp [List.getD, List.getElem?_append_left hjl]]
      refine (h.each j hjl).kept hg ?_
      cases hq : (ss.getD j undef).ownBlock with
      | none => exact .inl rfl
      | some k => exact .inr fun q => own_own (h.each j hjl) h.row (by decide) hq q.symm
    · obtain rfl : j = G.length := by simp at hj; omega
      rw [e2, show (G ++ [([] : List Nat)]).getD G.length [] = [] by simp [List.getD]]
      exact World.ownsRow_nil _ _ _ _
  · have hil : i < G.length := by
      rcases Nat.lt_or_ge i G.length with q | q
      · exact q
      · obtain rfl : i = G.length := by simp at hi; omega
        rw [e2] at hb
        cases hb
    rw [e1 i hil] at hb
    by_cases hjl : j < G.length
    · rw [e1 j hjl]
      exact h.apart i j hij hil hjl b hb
    · obtain rfl : j = G.length := by simp at hj; omega
      rw [e2]
      exact fun q => by cases q
theorem own_setCell {w : World} {B e n g cap : Nat} {xs : List Value} (h : w.ownsRow B e 1 (.slice (some ⟨g, 0, none⟩) n cap) n xs) (j : Nat) (hj : j < n) (x : Value) : (w.setCell ⟨g, j, none⟩ x).ownsRow B e 1 (.slice (some ⟨g, 0, none⟩) n cap) n (xs.set j x) := by
  rcases h.2 with ⟨hn, _⟩ | ⟨g', cap', cur, hv, hb, hg, h1, h2, h3, h4⟩
  · cases hn
  · injection hv with hv1 hv2 hv3
    injection hv1 with hv1
    injection hv1 with hv1
    subst hv1 hv3
    have hB : Blk w g e cur := hg
    refine ⟨by simpa using h.1, .inr ⟨g, cap, cur.setIfInBounds j x, rfl, hb, hB.put j x, h1, h2, by simpa using h3, ?_⟩⟩
    rw [← h4]
    simp [List.take_set]
theorem own_setCell_other {w : World} {B e n g : Nat} {v : Value} {xs : List Value} (h : w.ownsRow B e 1 v n xs) (hne : v.ownBlock ≠ some g) (j : Nat) (x : Value) : (w.setCell ⟨g, j, none⟩ x).ownsRow B e 1 v n xs :=
  kown_kept h fun k _ hv => Below.heap_setCell w ⟨g, j, none⟩ x k fun q => hne (by rw [hv, q])
/-- one more number in a group -/
theorem GrpAt.push {w w' : World} {B g cap : Nat} {G : List (List Nat)} {ss : List Value} {j x : Nat} {s' : Value} (h : GrpAt w B (.slice (some ⟨g, 0, none⟩) G.length cap) G ss) (hj : j < G.length)
    (hrow : w'.ownsRow B 3 1 s' ((G.getD j []).length + 1) (intL (G.getD j []) ++ [.int .i64 (x : Int)])) (hg : w.grownBy w' (ss.getD j undef).ownBlock) (hs : s'.ownBlock = (ss.getD j undef).ownBlock ∨ ∃ k, s'.ownBlock = some k ∧ w.heap.size ≤ k) :
    GrpAt (w'.setCell ⟨g, j, none⟩ s') B (.slice (some ⟨g, 0, none⟩) G.length cap) (G.set j (G.getD j [] ++ [x])) (ss.set j s') := by
  have hl := h.len
  have hgs : (ss.getD j undef).ownBlock ≠ some g := fun q => own_own (h.each j hj) h.row (by decide) q rfl
  have hrow' : w'.ownsRow B 78 1 (.slice (some ⟨g, 0, none⟩) G.length cap) G.length ss := h.row.kept hg (.inr fun q => hgs q.symm)
  have ej : (ss.set j s').getD j undef = s' := by simp [List.getD, hl, hj]
  have en : ∀ i, i ≠ j → (ss.set j s').getD i undef = ss.getD i undef := fun i hi => by simp [List.getD, List.getElem?_set_ne (Ne.symm hi)]
  have Gj : (G.set j (G.getD j [] ++ [x])).getD j [] = G.getD j [] ++ [x] := by simp [List.getD, hj]
  have Gn : ∀ i, i ≠ j → (G.set j (G.getD j [] ++ [x])).getD i [] = G.getD i [] := fun i hi => by simp [List.getD, List.getElem?_set_ne (Ne.symm hi)]
  have hsg : s'.ownBlock ≠ some g := fun q => own_own hrow hrow' (by decide) q rfl
  refine ⟨by simpa using own_setCell hrow' j hj s', fun i hi => ?_, fun i k hik hi hk b hb => ?_⟩
  · rw [List.length_set] at hi
    by_cases hij : i = j
    · subst hij
      rw [ej, Gj]
      refine own_setCell_other ?_ hsg _ _
      simpa [intL] using hrow
    · rw [en i hij, Gn i hij]
      have hne : (ss.getD i undef).ownBlock ≠ some g := fun q => own_own (h.each i hi) h.row (by decide) q rfl
      refine own_setCell_other ((h.each i hi).kept hg ?_) hne _ _
      cases hq : (ss.getD i undef).ownBlock with
      | none => exact .inl rfl
      | some b => exact .inr fun q => h.apart i j hij hi hj b hq q.symm
  · rw [List.length_set] at hi hk
    by_cases hij : i = j
    · subst hij
      rw [ej] at hb
      rw [en k (Ne.symm hik)]
      intro q
      rcases hs with hs | ⟨z, hz, hzl⟩
      · exact h.apart i k hik hi hk b (by rw [← hs]; exact hb) q
      · rw [hz] at hb
        injection hb with hb
        have := ((h.each k hk).lt b q).2
        omega
    · rw [en i hij] at hb
      by_cases hkj : k = j
      · subst hkj
        rw [ej]
        intro q
        rcases hs with hs | ⟨z, hz, hzl⟩
        · exact h.apart i k hik hi hk b hb (by rw [← hs]; exact q)
        · rw [hz] at q
          injection q with q
          have := ((h.each i hi).lt b hb).2
          omega
      · rw [en k hkj]
        exact h.apart i k hik hi hk b hb
end Go.Proofs.YtojnlmfahgeidaaGreatDoor

namespace Go.Proofs.YtojnlmfahgeidaaGreatDoor
open Go Go.RowKit
set_option linter.unusedVariables false

theorem kblk_range {w : World} {g t n : Nat} {f : Nat → Value} (h : Blk w g t (va n f)) : w.rangeAt g 0 ((List.range n).map f) := fun j v hv => by
  refine h.range 0 n (by omega) j v ?_
  rw [← hv]
  simp
theorem kyields_load {P : Program} {ops : Array Oper} {S : World → Prop} {op : Oper} {a : Act} (hw : Region.wanted op (yielded ops a.tmps) = true) (ty : TypeId) (x : Operand) (ho : op.op = .load ty x)
    (b n : Nat) (f : Nat → Value) (hx : a.eval x = .pointer (some ⟨b, 0, none⟩)) (d : TypeDesc) (t : Nat) (hS : ∀ w, S w → Blk w b t (va n f))
    (hu : P.underlying ty = some d) (hd : d.isRow = true) (hi : (P.info? ty).map (·.size) = some n) : YieldsIf P ops S op (.agg (va n f)) a :=
  yieldsIf_load_mid hw ty x ho b 0 hx _ d (fun w h => kblk_range (hS w h)) hu hd (hi.trans (by simp))
end Go.Proofs.YtojnlmfahgeidaaGreatDoor

namespace Go.Proofs.YtojnlmfahgeidaaGreatDoor
open Go Go.RowKit
set_option linter.unusedVariables false

/-- the slice at a of n blocks, told by L -/
def IsBlks (w : World) (a : Option Addr) (n : Nat) (L : Nat → Nat → Nat) : Prop :=
  ∀ i, i < n → ∃ b o, a = some ⟨b, o, none⟩ ∧ b < w.heap.size ∧ w.rangeAt b (o + i * 256) ((List.range 256).map (iv .u8 (L i)))
theorem range_below {w w' : World} {B b o : Nat} {cs : List Value} (h : w.rangeAt b o cs) (hb : Below B w w') (hB : b < B) : w'.rangeAt b o cs := fun j v hv => by
  rw [← h j v hv]
  simp [World.cell?, hb.block b hB]
theorem IsBlks.below {w w' : World} {a : Option Addr} {n : Nat} {L : Nat → Nat → Nat} (h : IsBlks w a n L) (hb : Below w.heap.size w w') : IsBlks w' a n L := fun i hi => by
  obtain ⟨b, o, e, h1, h2⟩ := h i hi
  exact ⟨b, o, e, Nat.lt_of_lt_of_le h1 hb.size, range_below h2 hb h1⟩
end Go.Proofs.YtojnlmfahgeidaaGreatDoor

namespace Go.Proofs.YtojnlmfahgeidaaGreatDoor
open Go.RowKit
set_option linter.unusedSimpArgs false
set_option linter.unusedVariables false

theorem infoBk : (Tryz.prog.info? 237).map (fun i => (i.zero, i.size, i.bytes)) = some (some (.agg (va 256 (iv .u8 fun _ => 0))), 256, 256) := by kernel_rfl

/-- a block of a slice, loaded -/
theorem wpList_load_blk {P : Program} {ops : Array Oper} {rest : List Oper} {op : Oper} {a : Act} {w : World} {Q : Exit → Act → World → Prop} (hgd : op.guard = none) (ty : TypeId) (x : Operand) (ho : op.op = .load ty x)
    (b o n : Nat) (f : Nat → Value) (hx : a.eval x = .pointer (some ⟨b, o, none⟩)) (d : TypeDesc) (hc : w.rangeAt b o ((List.range n).map f))
    (hu : P.underlying ty = some d) (hd : d.isRow = true) (hi : (P.info? ty).map (·.size) = some n)
    (h : wpList P ops Q rest (a.put op.dst (.agg (va n f))) w) : wpList P ops Q (op :: rest) a w :=
  wpList_load_mid hgd ty x ho b o hx _ d hc hu hd (hi.trans (by simp)) h
end Go.Proofs.YtojnlmfahgeidaaGreatDoor

namespace Go.Proofs.YtojnlmfahgeidaaGreatDoor
open Go.RowKit
set_option linter.unusedSimpArgs false
set_option linter.unusedVariables false

theorem infoInt : (Tryz.prog.info? 3).map (fun i => (i.zero, i.size, i.bytes)) = some (some (.int .i64 0), 1, 8) := by kernel_rfl
theorem infoInts : (Tryz.prog.info? 78).map (fun i => (i.zero, i.size, i.bytes)) = some (some (.slice none 0 0), 1, 24) := by kernel_rfl
end Go.Proofs.YtojnlmfahgeidaaGreatDoor
