/- References and nodes: their cells, how two compare, their bytes. -/
import Derived.Test.YtimjggkdpmgpjaaGreatDoorHDiFns
import Derived.Test.YtimjggkdpmgpjaaGreatDoorHMathCount
import Derived.Handy
import Derived.Test.YtimjggkdpmgpjaaGreatDoorProg
import Derived.KernelRfl
import Derived.RowKit
import Derived.WalkKit
import Derived.ProofKit
import Derived.OpenShut
import Derived.WalkSpells
import Derived.Below
import Derived.Test.YtimjggkdpmgpjaaGreatDoorHBytes
import Derived.Test.YtimjggkdpmgpjaaGreatDoorHOrders
import Derived.ArgAppend
import Derived.Deep.RegionHeld
import Derived.Deep.RegionLaw
import Derived.Deep.RegionWith
import Derived.Deep.DrawnRows
import Derived.Deep.Heap
import Derived.MapKept
import Derived.Carry
import Derived.Lib.ConvBytes
import Derived.Laws.BytesArg
import Derived.Test.YtimjggkdpmgpjaaGreatDoorHBlkOwn
import Derived.Deep.MidRow
import Derived.Great.BuildSlice
import Derived.OwnWalk
import Derived.Maps.AppendAt

namespace Go.Proofs.YtimjggkdpmgpjaaGreatDoor
open Go Go.RowKit
set_option linter.unusedSimpArgs false
set_option linter.unusedVariables false
theorem dlk_at (N : Nat → Int) (S : Nat → ByteArray) : ∀ (n i : Nat), i < n → (lkL N S n)[i * 2]? = some (.int .i64 (N i)) ∧ (lkL N S n)[i * 2 + 1]? = some (.string (S i))
  | 0, i, h => absurd h (Nat.not_lt_zero _)
  | n + 1, i, h => by
    have hl := lkL_len N S n
    rw [lkL]
    by_cases e : i = n
    · subst e
      rw [List.getElem?_append_right (by omega), List.getElem?_append_right (by omega), hl]
      simp
    · rw [List.getElem?_append_left (by omega), List.getElem?_append_left (by omega)]
      exact dlk_at N S n i (by omega)
/-- an own slice of entries, told as a slice -/
theorem own_lks {w : World} {B t n : Nat} {v : Value} {N : Nat → Int} {S : Nat → ByteArray} (h : w.ownsRow B t 2 v n (lkL N S n)) : ∃ a c, v = .slice a n c ∧ IsLks w a n N S ∧ n ≤ c := by
  rcases h.2 with ⟨rfl, rfl⟩ | ⟨g, cap, cur, rfl, hg, hgg, h1, h2, h3, h4⟩
  · exact ⟨none, 0, rfl, fun h => absurd h (by omega), Nat.le_refl _⟩
  · refine ⟨some ⟨g, 0, none⟩, cap, rfl, fun _ => ⟨g, rfl, (Array.getElem?_eq_some_iff.1 hgg).1, fun i hi => ?_⟩, h1⟩
    rw [h.cellAt (i * 2) (by omega), h.cellAt (i * 2 + 1) (by omega)]
    exact dlk_at N S n i hi
theorem IsLks.below {w w' : World} {a : Option Addr} {n : Nat} {N : Nat → Int} {S : Nat → ByteArray} (h : IsLks w a n N S) (hb : Below w.heap.size w w') : IsLks w' a n N S := fun hn => by
  obtain ⟨g, h1, h2, h3⟩ := h hn
  have := hb.size
  exact ⟨g, h1, by omega, fun i hi => ⟨(hb.cell h2).trans (h3 i hi).1, (hb.cell h2).trans (h3 i hi).2⟩⟩
/-- what search hands to IndexFunc -/
theorem search1_any (i : Int) (s' s : ByteArray) (b : Nat) (w : World) (hb : w.cell? ⟨b, 0, none⟩ = some (.string s)) (hl : b < w.heap.size) : Calls Tryz.prog 82 #[.agg #[.int .i64 i, .string s'], .pointer (some ⟨b, 0, none⟩)] w fun e w' => e = .returned (.bool (s'.toList == s.toList)) ∧ Below w.heap.size w w' := by
  have hb1 : Below w.heap.size w (w.alloc (.cells #[.int .i64 i, .string s'] 54)) := below_new1 _ _
  have p1 : Blk (w.alloc (.cells #[.int .i64 i, .string s'] 54)) w.heap.size 54 #[.int .i64 i, .string s'] := Blk.new _ _ _
  have c1 : (w.alloc (.cells #[.int .i64 i, .string s'] 54)).cell? ⟨w.heap.size, 1, none⟩ = some (.string s') := (p1.cell 1).trans rfl
  have c2 : (w.alloc (.cells #[.int .i64 i, .string s'] 54)).cell? ⟨b, 0, none⟩ = some (.string s) := (hb1.cell hl).trans hb
  have HB : Hid (Below w.heap.size w (w.alloc (.cells #[.int .i64 i, .string s'] 54))) := hb1
  clear hb1 p1 hb
  go_enter Tryz.func82, Tryz.ntmps82
  go_wp2_with fail
  go_ret
  exact ⟨rfl, HB.out⟩
theorem eqT {a b : ByteArray} (h : a = b) : (a.toList == b.toList) = true := by subst h; exact beq_self_eq_true _
theorem toList_inj {a b : ByteArray} (h : a.toList = b.toList) : a = b := by
  have h1 : a.data.toList = b.data.toList := by
    rw [← Lib.toList_data a, ← Lib.toList_data b]; exact h
  have h2 : a.data = b.data := Array.toList_inj.1 h1
  cases a; cases b; simp at h2; rw [h2]
theorem neT {a b : ByteArray} (h : a ≠ b) : (a.toList == b.toList) = false := by
  rw [beq_eq_false_iff_ne]
  exact fun c => h (toList_inj c)
set_option maxRecDepth 100000 in
set_option maxHeartbeats 4000000 in
/-- IndexFunc: p is the first place with the name, or how many there are -/
theorem index_any (a : Option Addr) (n c b p : Nat) (hn : n ≤ 4) (N : Nat → Int) (S : Nat → ByteArray) (s : ByteArray) (hp : p ≤ n) (h1 : ∀ r, r < p → S r ≠ s) (h2 : p < n → S p = s) (w : World) (hI : IsLks w a n N S) (hb : w.cell? ⟨b, 0, none⟩ = some (.string s)) (hl : b < w.heap.size) (re : Int) (hre : re = if p < n then (p : Int) else -1) : Calls Tryz.prog 81 #[.slice a n c, .func (.func 82) #[] #[.pointer (some ⟨b, 0, none⟩)]] w fun e w' => e = .returned (.int .i64 re) ∧ Below w.heap.size w w' := by
  have HI : Hid (∀ p, p < n → ∃ g, a = some ⟨g, 0, none⟩ ∧ g < w.heap.size ∧ w.cell? ⟨g, p * 2, none⟩ = some (.int .i64 (N p)) ∧ w.cell? ⟨g, p * 2 + 1, none⟩ = some (.string (S p))) := fun p hp => by
    obtain ⟨g, h1, h2, h3⟩ := hI (by omega)
    exact ⟨g, h1, h2, (h3 p hp).1, (h3 p hp).2⟩
  have HC : Hid (∀ (i : Int) (s' : ByteArray) (V : World), Below w.heap.size w V → Calls Tryz.prog 82 #[.agg #[.int .i64 i, .string s'], .pointer (some ⟨b, 0, none⟩)] V fun e w' => e = .returned (.bool (s'.toList == s.toList)) ∧ Below V.heap.size V w') := fun i s' V hV => search1_any i s' s b V ((hV.cell hl).trans hb) (by have := hV.size; omega)
  have HP : Hid (p ≤ n ∧ (∀ r, r < p → S r ≠ s) ∧ (p < n → S p = s) ∧ re = if p < n then (p : Int) else -1) := ⟨hp, h1, h2, hre⟩
  clear hI hb hl h1 h2 hre hp
  go_enter Tryz.func81, Tryz.ntmps81
  go_wp2_with fail
  go_loopw [8] (fun v wr => Hid (∃ i : Nat, i ≤ p ∧ v = .int .i64 (i : Int) ∧ Below w.heap.size w wr)) (fun v _ => n - (intOf v).toNat)
  case atStart => exact ⟨0, Nat.zero_le _, rfl, Below.refl _ _⟩
  case round =>
    obtain ⟨i, hi, rfl, hbel⟩ := Hid.out hrel
    have HB : Hid (i ≤ p ∧ Below w.heap.size w wr) := ⟨hi, hbel⟩
    clear hrel
    by_cases hin : i < n
    · have i1 : (i : Int) < (n : Int) := by omega
      obtain ⟨g, rfl, hg, g0, g1⟩ := HI.out i hin
      have c0 : wr.cell? ⟨g, i * 2, none⟩ = some (.int .i64 (N i)) := (hbel.cell hg).trans g0
      have c1 : wr.cell? ⟨g, i * 2 + 1, none⟩ = some (.string (S i)) := (hbel.cell hg).trans g1
      have HCi := HC.out (N i) (S i) wr hbel
      clear g0 g1 hbel hi
      by_cases hip : i = p
      · have e1 : ((S i).toList == s.toList) = true := eqT (by rw [hip]; exact HP.out.2.2.1 (by omega))
        have HR : Hid (re = (i : Int)) := by show _ = _; rw [HP.out.2.2.2, if_pos (by omega), hip]
        rw [e1] at HCi
        clear hip e1
        go_wp2_with fail
        refine HCi.mono ?_
        rintro e w3 ⟨rfl, hb3⟩
        have HB3 : Hid (Below w.heap.size w w3) := HB.out.2.trans (hb3.mono HB.out.2.size)
        clear hb3 HCi c0 c1
        go_wp2_with fail
        go_ret
        exact ⟨by rw [HR.out]; rfl, HB3.out⟩
      · have e1 : ((S i).toList == s.toList) = false := neT (HP.out.2.1 i (by have := HB.out.1; omega))
        have HL : Hid (i + 1 ≤ p) := by show _ ≤ _; have := HB.out.1; omega
        rw [e1] at HCi
        clear hip e1
        go_wp2_with fail
        refine HCi.mono ?_
        rintro e w3 ⟨rfl, hb3⟩
        have HB3 : Hid (Below w.heap.size w w3) := HB.out.2.trans (hb3.mono HB.out.2.size)
        clear hb3 HCi c0 c1
        go_wp2_with fail
        go_roundw
        case rel => exact ⟨i + 1, HL.out, by first | rfl | go_num | simp, HB3.out⟩
        case measure => simp [intOf]; omega
    · have i1 : ¬ ((i : Int) < (n : Int)) := by omega
      have HR : Hid (re = -1) := by show _ = _; rw [HP.out.2.2.2, if_neg (by have := HB.out.1; omega)]
      clear hbel hi
      go_wp2_with fail
      go_ret
      exact ⟨by rw [HR.out]; rfl, HB.out.2⟩
end Go.Proofs.YtimjggkdpmgpjaaGreatDoor

namespace Go.Proofs.YtimjggkdpmgpjaaGreatDoor
open Go.RowKit

theorem ret_int {k : IntKind} {a b : Int} (h : a = b) : Ending.returned (.int k a) = .returned (.int k b) := by rw [h]

end Go.Proofs.YtimjggkdpmgpjaaGreatDoor

namespace Go.Proofs.YtimjggkdpmgpjaaGreatDoor

def dig (x i : Nat) : Nat := x / 256 ^ i % 256
theorem dig_lt (x i : Nat) : dig x i < 256 := Nat.mod_lt _ (by decide)
/-- four bytes from a place on, as a number -/
def le4f (f : Nat → Nat) (o : Nat) : Nat := le4 (f o) (f (o + 1)) (f (o + 2)) (f (o + 3))
def St.of (f : Nat → Nat) : St := ⟨f 0, f 1, f 2, f 3, f 4, f 5, f 6, f 7, f 8, f 9, f 10, f 11, f 12, f 13, f 14, f 15⟩
/-- the chain and the piece side by side -/
def sideN (c p : Nat → Nat) : Nat → Nat := fun i => if i < 8 then c i else le4f p (4 * (i - 8))
def mixedN (c p : Nat → Nat) : St := fwd (St.of (sideN c p)) 6
def pressN (c p : Nat → Nat) : Nat → Nat := fun i => c i ^^^ ((mixedN c p).at i ^^^ (mixedN c p).at (i + 8))
def okP (p : Nat → Nat) : Prop := ∀ i, i < 32 → p i < 256
/-- the first chain -/
def firstN (tag i : Nat) : Nat := 2654435769 * (i + 1) % 4294967296 ^^^ tag * 16777216
/-- n pieces of a text taken in turn; the text told by a function of the place -/
def runN (c : Nat → Nat) (t : Nat → Nat) : Nat → Nat → Nat
  | 0 => c
  | n + 1 => pressN (runN c t n) fun j => t (32 * n + j)
/-- a text with its end behind it: s tells its bytes, n its length -/
def padLen (n : Nat) : Nat := 32 * ((n + 8) / 32 + 1)
def padN (s : Nat → Nat) (n : Nat) : Nat → Nat := fun i =>
  if i < n then s i else if i = n then 128 else if i < padLen n - 8 then 0 else dig n (i - (padLen n - 8))
def sumN (c : Nat → Nat) : Nat → Nat := fun i => dig (c (i / 4)) (i % 4)
end Go.Proofs.YtimjggkdpmgpjaaGreatDoor

namespace Go.Proofs.YtimjggkdpmgpjaaGreatDoor
open Go.RowKit

set_option maxHeartbeats 1000000 in
theorem bytes32_any (x : Nat) (w : World) :
    Calls Tryz.prog 78 #[.int .u32 (x : Int)] w fun e w' => e = .returned (.agg #[.int .u8 ((x % 256 : Nat) : Int), .int .u8 ((x / 256 % 256 : Nat) : Int), .int .u8 ((x / 65536 % 256 : Nat) : Int), .int .u8 ((x / 16777216 % 256 : Nat) : Int)]) ∧ Below w.heap.size w w' := by
  go_enter Tryz.func78, Tryz.ntmps78
  go_wp2
  go_rounds 5
  go_returns
  refine ⟨by simp, ?_⟩
  go_grown

set_option maxHeartbeats 1000000 in
theorem of32_any (a0 a1 a2 a3 : Nat) (h0 : a0 < 256) (h1 : a1 < 256) (h2 : a2 < 256) (h3 : a3 < 256) (w : World) :
    Calls Tryz.prog 208 #[.agg #[.int .u8 (a0 : Int), .int .u8 (a1 : Int), .int .u8 (a2 : Int), .int .u8 (a3 : Int)]] w fun e w' => e = .returned (.int .u32 (le4 a0 a1 a2 a3 : Int)) ∧ Below w.heap.size w w' := by
  go_enter Tryz.func208, Tryz.ntmps208
  go_wp2
  go_rounds 5
  go_returns
  refine ⟨ret_int (of4_val a0 a1 a2 a3 h0 h1 h2 h3), ?_⟩
  go_grown

theorem va4 (f : Nat → Value) : va 4 f = #[f 0, f 1, f 2, f 3] := rfl
theorem bytes32_va (x : Nat) (w : World) :
    Calls Tryz.prog 78 #[.int .u32 (x : Int)] w fun e w' => e = .returned (.agg (va 4 (iv .u8 (dig x)))) ∧ Below w.heap.size w w' := by
  refine (bytes32_any x w).mono ?_
  rintro e w' ⟨rfl, hb⟩
  refine ⟨?_, hb⟩
  simp [va4, iv, dig]
end Go.Proofs.YtimjggkdpmgpjaaGreatDoor

namespace Go.Proofs.YtimjggkdpmgpjaaGreatDoor
open Go.RowKit
set_option linter.unusedSimpArgs false
set_option linter.unusedVariables false

/-- a hasher's cells -/
def hashV (c p : Nat → Nat) (m : Nat) : Nat → Value := fun i => if i < 8 then .int .u32 ((c i : Nat) : Int) else if i < 40 then .int .u8 ((p (i - 8) : Nat) : Int) else .int .i64 (m : Int)

end Go.Proofs.YtimjggkdpmgpjaaGreatDoor

namespace Go.Proofs.YtimjggkdpmgpjaaGreatDoor
open Go Go.RowKit

/-- the byte of a text at a place -/
def byteAt (s : ByteArray) (i : Nat) : Nat := (s.data.toList.getD i 0).toNat
section
variable {P : Program}
end
end Go.Proofs.YtimjggkdpmgpjaaGreatDoor

namespace Go.Proofs.YtimjggkdpmgpjaaGreatDoor
open Go.RowKit
set_option linter.unusedSimpArgs false
set_option linter.unusedVariables false

/-- no block but g is changed -/
def Keeps (g : Nat) (w w' : World) : Prop := Below g w w' ∧ ∀ k, k ≠ g → k < w.heap.size → w'.heap[k]? = w.heap[k]?
theorem Keeps.refl (g : Nat) (w : World) : Keeps g w w := ⟨Below.refl _ _, fun _ _ _ => rfl⟩
theorem Keeps.trans {g : Nat} {a b c : World} (h : Keeps g a b) (k : Keeps g b c) : Keeps g a c :=
  ⟨h.1.trans k.1, fun i hi hl => (k.2 i hi (Nat.lt_of_lt_of_le hl h.1.size)).trans (h.2 i hi hl)⟩
theorem Keeps.of {g : Nat} {w w' : World} (h : Below w.heap.size w w') (hg : g ≤ w.heap.size) : Keeps g w w' := ⟨h.mono hg, fun k _ hl => h.block k hl⟩
theorem Keeps.drew {g : Nat} {w w' : World} (h : Keeps g w w') : Keeps g w w'.drew := ⟨h.1.drew, h.2⟩
theorem Keeps.setRow {g : Nat} {w w' : World} (h : Keeps g w w') (cs : Array Value) : Keeps g w (w'.setRow g cs) :=
  ⟨below_setRow h.1 (Nat.le_refl _) cs, fun k hk hl => (setRow_other w' g k cs hk).trans (h.2 k hk hl)⟩
theorem Keeps.blk {g k t : Nat} {w w' : World} {cs : Array Value} (h : Keeps g w w') (hb : Blk w k t cs) (hk : k ≠ g) : Blk w' k t cs := (h.2 k hk hb.lt).trans hb
theorem Keeps.setCells {g : Nat} {w : World} : ∀ (vs : List Value) (o : Nat) (w' : World), Keeps g w w' → Keeps g w (w'.setCells g o vs)
  | [], _, _, h => h
  | v :: vs, o, w', h => by
    rw [World.setCells]
    refine Keeps.setCells vs (o + 1) _ ⟨h.1.setCell (p := ⟨g, o, none⟩) (Nat.le_refl _) v, fun k hk hl => ?_⟩
    rw [← h.2 k hk hl]
    exact Deep.blk_setCell_other w' ⟨g, o, none⟩ v k hk
/-- the hasher holds the first m bytes of the text t -/
def Holds (w : World) (g : Nat) (c0 t : Nat → Nat) (m : Nat) : Prop :=
  ∃ p, okP p ∧ (∀ j, j < m % 32 → p j = t (32 * (m / 32) + j)) ∧ Blk w g 355 (va 41 (hashV (runN c0 t (m / 32)) p m))
end Go.Proofs.YtimjggkdpmgpjaaGreatDoor

namespace Go.Proofs.YtimjggkdpmgpjaaGreatDoor
open Go Go.RowKit
set_option linter.unusedVariables false
set_option linter.unusedSimpArgs false

section
variable {α β : Type} [DecidableEq α] {P : Program}
/-- how keys are told: encoded, compared, and that each may be a key -/
structure KeyOf (P : Program) (kt : TypeId) (K : α → Value) : Prop where
  desc : ∃ d, P.underlying kt = some d ∧ (∀ k, d ≠ .int k) ∧ d ≠ .string ∧ d ≠ .bool
  eq : ∀ a b w, (Op.equal kt (K a) (K b)).run P w = .ok (decide (a = b)) w
  chk : ∀ e a w, (Instr.checkKey e 10000 kt (K a)).run P w = .ok () w
/-- the map in block r holds these keys and elements, in this order -/
def MapIs (K : α → Value) (V : β → Value) (w : World) (r : Nat) (l : List (α × β)) : Prop :=
  ∃ es clock, w.heap[r]? = some (.map es clock) ∧ es.toList.map (fun e => (e.key, e.val)) = l.map fun p => (K p.1, V p.2)
def findIn (a : α) : List (α × β) → Option β
  | [] => none
  | p :: l => if a = p.1 then some p.2 else findIn a l
theorem findNow_none {d : TypeDesc} (h1 : ∀ k, d ≠ .int k) (h2 : d ≠ .string) (h3 : d ≠ .bool) (k : Value) (e : MapEntry) (es : List MapEntry) (i : Nat) : Instr.findNow d k (e :: es) i = none := by
  have : Instr.sameNow d k e.key = none := by
    unfold Instr.sameNow
    split
    · exact absurd rfl (h1 _)
    · exact absurd rfl h2
    · exact absurd rfl h3
    · rfl
  simp [Instr.findNow, this]
theorem run_findAsking {kt : TypeId} {K : α → Value} {V : β → Value} (hk : KeyOf P kt K) (a : α) (w : World) : ∀ (l : List (α × β)) (es : List MapEntry) (i : Nat), es.map (fun e => (e.key, e.val)) = l.map (fun p => (K p.1, V p.2)) →
    ∃ r, (Instr.findAsking kt (K a) es i).run P w = .ok r w ∧ (∀ b, findIn a l = some b → ∃ j, r = some (j, V b)) ∧ (findIn a l = none → r = none)
  | [], es, i, h => by
    have : es = [] := by cases es with
      | nil => rfl
      | cons e es => simp at h
    subst this
    exact ⟨none, by simp [Instr.findAsking], (fun b hb => by cases hb), fun _ => rfl⟩
  | p :: l, [], i, h => by simp at h
  | p :: l, e :: es, i, h => by
    simp only [List.map_cons, List.cons.injEq, Prod.mk.injEq] at h
    obtain ⟨⟨h1, h2⟩, h3⟩ := h
    have he := hk.eq a p.1 w
    rw [← h1] at he
    by_cases hq : a = p.1
    · refine ⟨some (i, e.val), ?_, fun b hb => ?_, fun hn => ?_⟩
      · simp only [Instr.findAsking, Sem.run_bind, he, Result.andThen_ok, decide_eq_true hq, if_true, Sem.run_pure]
      · unfold findIn at hb
        rw [if_pos hq] at hb
        cases hb
        exact ⟨i, by rw [h2]⟩
      · unfold findIn at hn
        rw [if_pos hq] at hn
        cases hn
    · obtain ⟨r, h4, h5, h6⟩ := run_findAsking hk a w l es (i + 1) h3
      refine ⟨r, ?_, fun b hb => ?_, fun hn => ?_⟩
      · simp only [Instr.findAsking, Sem.run_bind, he, Result.andThen_ok, decide_eq_false hq, Bool.false_eq_true, if_false, h4]
      · unfold findIn at hb
        rw [if_neg hq] at hb
        exact h5 b hb
      · unfold findIn at hn
        rw [if_neg hq] at hn
        exact h6 hn
theorem run_findKey {kt : TypeId} {K : α → Value} {V : β → Value} (hk : KeyOf P kt K) (a : α) (w : World) (l : List (α × β)) (es : List MapEntry) (h : es.map (fun e => (e.key, e.val)) = l.map (fun p => (K p.1, V p.2))) :
    ∃ r, (Instr.findKey kt (K a) es).run P w = .ok r w ∧ (∀ b, findIn a l = some b → ∃ j, r = some (j, V b)) ∧ (findIn a l = none → r = none) := by
  obtain ⟨d, hd, n1, n2, n3⟩ := hk.desc
  cases es with
  | nil =>
    have : l = [] := by cases l with
      | nil => rfl
      | cons p l => simp at h
    subst this
    exact ⟨none, by simp [Instr.findKey, run_underlying hd, Instr.findNow], (fun b hb => by cases hb), fun _ => rfl⟩
  | cons e es =>
    obtain ⟨r, h4, h5, h6⟩ := run_findAsking hk a w l (e :: es) 0 h
    exact ⟨r, by simp [Instr.findKey, run_underlying hd, findNow_none n1 n2 n3, h4], h5, h6⟩
/-- a look-up -/
theorem run_lookup_is {mt kt et : TypeId} {K : α → Value} {V : β → Value} {z : Value} (hm : P.underlying mt = some (.map kt et)) (hk : KeyOf P kt K) (hz : ∀ w, (zeroValue et).run P w = .ok z w) {w : World} {r : Nat} {l : List (α × β)} (h : MapIs K V w r l) (a : α) (ok : Bool) :
    (Instr.lookup mt (.map (some r)) (K a) ok).run P w = .ok (if ok then .tuple #[((findIn a l).map V).getD z, .bool (findIn a l).isSome] else ((findIn a l).map V).getD z) w := by
  obtain ⟨es, clock, hg, he⟩ := h
  obtain ⟨x, h4, h5, h6⟩ := run_findKey hk a w l es.toList he
  have hc := hk.chk es.isEmpty a w
  have hgo : (getObj r).run P w = .ok (.map es clock) w := by simp [getObj, Sem.run, hg]
  cases hf : findIn a l with
  | none =>
    obtain rfl := h6 hf
    cases ok <;> simp [Instr.lookup, run_underlying hm, hgo, hc, h4, hz]
  | some b =>
    obtain ⟨j, rfl⟩ := h5 b hf
    cases ok <;> simp [Instr.lookup, run_underlying hm, hgo, hc, h4]
/-- a new key stored -/
theorem run_update_is {mt kt et : TypeId} {K : α → Value} {V : β → Value} (hm : P.underlying mt = some (.map kt et)) (hk : KeyOf P kt K) {w : World} {r : Nat} {l : List (α × β)} (h : MapIs K V w r l) (a : α) (b : β) (hn : findIn a l = none) :
    ∃ w', (Instr.mapUpdate mt (.map (some r)) (K a) (V b)).run P w = .ok () w' ∧ MapIs K V w' r (l ++ [(a, b)]) ∧ Keeps r w w' := by
  obtain ⟨es, clock, hg, he⟩ := h
  obtain ⟨x, h4, h5, h6⟩ := run_findKey hk a w l es.toList he
  obtain rfl := h6 hn
  have hc := hk.chk false a w
  have hgo : (getObj r).run P w = .ok (.map es clock) w := by simp [getObj, Sem.run, hg]
  have hso : ∀ o, (setObj r o).run P w = .ok () { w with heap := w.heap.setIfInBounds r o } := fun o => by simp [setObj, Sem.run, hg]
  have hr : r < w.heap.size := (Array.getElem?_eq_some_iff.1 hg).1
  refine ⟨{ w with heap := w.heap.setIfInBounds r (.map (es.push { key := K a, val := V b, born := clock }) (clock + 1)) }, ?_, ⟨es.push { key := K a, val := V b, born := clock }, clock + 1, ?_, ?_⟩, ⟨⟨rfl, rfl, rfl, by simp, fun k hk => ?_⟩, fun k hk _ => ?_⟩⟩
  · simp [Instr.mapUpdate, run_underlying hm, hgo, hc, h4, hso]
  · simp [hr]
  · simp [he]
  · simp [Array.getElem?_setIfInBounds, show r ≠ k by omega]
  · simp [Array.getElem?_setIfInBounds, Ne.symm hk]
theorem findIn_append (a : α) (l m : List (α × β)) : findIn a (l ++ m) = (findIn a l).or (findIn a m) := by
  induction l with
  | nil => rfl
  | cons p l ih =>
    simp only [List.cons_append, findIn]
    by_cases h : a = p.1
    · simp [h]
    · simp [h, ih]
end
theorem MapIs.keep {α β : Type} {K : α → Value} {V : β → Value} {w w' : World} {r g : Nat} {l : List (α × β)} (h : MapIs K V w r l) (hk : Keeps g w w') (hne : r ≠ g) : MapIs K V w' r l := by
  obtain ⟨es, clock, hg, he⟩ := h
  exact ⟨es, clock, (hk.2 r hne (Array.getElem?_eq_some_iff.1 hg).1).trans hg, he⟩
theorem MapIs.below {α β : Type} {K : α → Value} {V : β → Value} {w w' : World} {r B : Nat} {l : List (α × β)} (h : MapIs K V w r l) (hb : Below B w w') (hB : r < B) : MapIs K V w' r l := by
  obtain ⟨es, clock, hg, he⟩ := h
  exact ⟨es, clock, (hb.block r hB).trans hg, he⟩
end Go.Proofs.YtimjggkdpmgpjaaGreatDoor

namespace Go.Proofs.YtimjggkdpmgpjaaGreatDoor
open Go.RowKit
set_option linter.unusedSimpArgs false
set_option linter.unusedVariables false

/-- the digest of the text t, m bytes of it, out of a first chain -/
def ofC (c0 t : Nat → Nat) (m : Nat) : Nat → Nat := sumN (runN c0 (padN t m) ((m + 8) / 32 + 1))
theorem Holds.lt {w : World} {g m : Nat} {c0 t : Nat → Nat} (h : Holds w g c0 t m) : g < w.heap.size := by
  obtain ⟨p, _, _, hB⟩ := h
  exact hB.lt

end Go.Proofs.YtimjggkdpmgpjaaGreatDoor

namespace Go.Proofs.YtimjggkdpmgpjaaGreatDoor
open Go.RowKit
set_option linter.unusedSimpArgs false
set_option linter.unusedVariables false

/-- an entry as a value -/
def entV (e : Nat × ByteArray) : Value := .agg #[.int .u8 ((e.1 : Nat) : Int), .string e.2]
def sumV (y : Nat → Nat) : Value := .agg (va 32 (iv .u8 y))
/-- an entry's digest -/
def sumOf (e : Nat × ByteArray) : Nat → Nat := ofC (firstN e.1) (byteAt e.2) e.2.size

theorem beqB (a b : ByteArray) : (a == b) = decide (a = b) := by
  obtain ⟨x⟩ := a
  obtain ⟨y⟩ := b
  have e : ((⟨x⟩ : ByteArray) == ⟨y⟩) = (x == y) := rfl
  rw [e]
  by_cases h : x = y
  · subst h
    simp
  · have h2 : ¬ ((⟨x⟩ : ByteArray) = ⟨y⟩) := fun q => h (by injection q)
    rw [decide_eq_false h2]
    simpa using h
theorem eq_entry (d : Nat) (a b : Nat × ByteArray) (w : World) : (Op.equalIn (d + 1 + 1) 338 (entV a) (entV b)).run Tryz.prog w = .ok (decide (a = b)) w := by
  unfold entV
  have h1 : ∀ x y : Int, (Op.equalIn (d + 1) 5 (.int .u8 x) (.int .u8 y)).run Tryz.prog w = .ok (x == y) w := fun x y => by simp [Op.equalIn, run_underlying Tryz.underlying5]
  have h2 : ∀ x y : ByteArray, (Op.equalIn (d + 1) 9 (.string x) (.string y)).run Tryz.prog w = .ok (x == y) w := fun x y => by simp [Op.equalIn, run_underlying Tryz.underlying9]
  have p1 : ∀ (x : Int) (y : ByteArray), (part 5 #[.int .u8 x, .string y] 0).run Tryz.prog w = .ok (.int .u8 x) w := fun x y => by simp [part, isAgg, run_underlying Tryz.underlying5]
  have p2 : ∀ (x : Int) (y : ByteArray), (part 9 #[.int .u8 x, .string y] 1).run Tryz.prog w = .ok (.string y) w := fun x y => by simp [part, isAgg, run_underlying Tryz.underlying9]
  rw [Op.equalIn]
  simp only [Sem.run_bind, run_underlying Tryz.underlying338, Result.andThen_ok]
  simp [Op.eqFields, p1, p2, h1, h2]
  obtain ⟨a1, a2⟩ := a
  obtain ⟨b1, b2⟩ := b
  by_cases ha : a1 = b1
  · subst ha
    by_cases hb : a2 = b2
    · subst hb
      simp [beqB]
    · simp [beqB, hb]
  · have hc : ¬ ((a1 : Int) = (b1 : Int)) := by omega
    simp [ha, hc]
theorem chk_entry (d : Nat) (e : Bool) (a : Nat × ByteArray) (w : World) : (Instr.checkKey e (d + 1 + 1) 338 (entV a)).run Tryz.prog w = .ok () w := by
  unfold entV
  have h1 : ∀ x : Int, (Instr.checkKey e (d + 1) 5 (.int .u8 x)).run Tryz.prog w = .ok () w := fun x => by simp [Instr.checkKey, run_underlying Tryz.underlying5]
  have h2 : ∀ x : ByteArray, (Instr.checkKey e (d + 1) 9 (.string x)).run Tryz.prog w = .ok () w := fun x => by simp [Instr.checkKey, run_underlying Tryz.underlying9]
  have p1 : ∀ (x : Int) (y : ByteArray), (part 5 #[.int .u8 x, .string y] 0).run Tryz.prog w = .ok (.int .u8 x) w := fun x y => by simp [part, isAgg, run_underlying Tryz.underlying5]
  have p2 : ∀ (x : Int) (y : ByteArray), (part 9 #[.int .u8 x, .string y] 1).run Tryz.prog w = .ok (.string y) w := fun x y => by simp [part, isAgg, run_underlying Tryz.underlying9]
  rw [Instr.checkKey]
  simp only [Sem.run_bind, run_underlying Tryz.underlying338, Result.andThen_ok]
  simp [p1, p2, h1, h2]
theorem entry_key : KeyOf Tryz.prog 338 entV where
  desc := ⟨_, Tryz.underlying338, (fun k h => by cases h), (fun h => by cases h), (fun h => by cases h)⟩
  eq a b w := eq_entry 9998 a b w
  chk e a w := chk_entry 9998 e a w
theorem zero_sum (w : World) : (zeroValue 72).run Tryz.prog w = .ok (sumV fun _ => 0) w := by
  obtain ⟨i, hi⟩ : ∃ i, Tryz.prog.info? 72 = some i := Option.isSome_iff_exists.1 (by kernel_rfl)
  have hz : i.zero = some (sumV fun _ => 0) := by
    have : (Tryz.prog.info? 72).bind (·.zero) = some (sumV fun _ => 0) := by kernel_rfl
    rw [hi] at this
    exact this
  simp [zeroValue, typeInfo, hi, hz]
end Go.Proofs.YtimjggkdpmgpjaaGreatDoor

namespace Go.Proofs.YtimjggkdpmgpjaaGreatDoor
open Go.RowKit
set_option linter.unusedSimpArgs false
set_option linter.unusedVariables false

/-- the cells of a list of entries -/
def entCells (E : List (Nat × ByteArray)) : List Value := E.flatMap fun e => [.int .u8 ((e.1 : Nat) : Int), .string e.2]
/-- the log in block g, its map in block r, its entries in the slice v -/
def LogAt (w : World) (g r : Nat) (v : Value) (E : List (Nat × ByteArray)) : Prop :=
  Blk w g 343 #[v, .map (some r)] ∧ w.ownsRow 0 338 2 v E.length (entCells E) ∧ MapIs entV sumV w r (E.map fun e => (e, sumOf e))

/-- whether an entry is there, and the digest that is found -/
def isIn (e : Nat × ByteArray) (E : List (Nat × ByteArray)) : Bool := (findIn e (E.map fun e => (e, sumOf e))).isSome
def lookS (e : Nat × ByteArray) (E : List (Nat × ByteArray)) : Nat → Nat := (findIn e (E.map fun e => (e, sumOf e))).getD fun _ => 0
theorem LogAt.look {w : World} {g r : Nat} {v : Value} {E : List (Nat × ByteArray)} (h : LogAt w g r v E) (e : Nat × ByteArray) (ok : Bool) {w' : World} (hb : Below w.heap.size w w') :
    Sem.run Tryz.prog (Instr.lookup 341 (.map (some r)) (.agg #[.int .u8 ((e.1 : Nat) : Int), .string e.2]) ok) w' =
      .ok (if ok then .tuple #[.agg (va 32 (iv .u8 (lookS e E))), .bool (isIn e E)] else .agg (va 32 (iv .u8 (lookS e E)))) w' := by
  obtain ⟨es, clock, hg, he⟩ := h.2.2
  have := run_lookup_is Tryz.underlying341 entry_key zero_sum (MapIs.below h.2.2 hb (Array.getElem?_eq_some_iff.1 hg).1) e ok
  have e1 : ((findIn e (E.map fun e => (e, sumOf e))).map sumV).getD (sumV fun _ => 0) = .agg (va 32 (iv .u8 (lookS e E))) := by
    unfold lookS
    cases findIn e (E.map fun e => (e, sumOf e)) <;> rfl
  rw [e1] at this
  exact this
end Go.Proofs.YtimjggkdpmgpjaaGreatDoor

namespace Go.Proofs.YtimjggkdpmgpjaaGreatDoor
open Go Go.RowKit
set_option linter.unusedVariables false

/-- the slice v of m bytes, told by f, in a block from B on; all up to its capacity may be written -/
def RowC (w : World) (B : Nat) (v : Value) (m : Nat) (f : Nat → Nat) : Prop :=
  ∃ b cap, v = .slice (some ⟨b, 0, none⟩) m cap ∧ B ≤ b ∧ b < w.heap.size ∧ m ≤ cap ∧ (∀ j, j < m → w.cell? ⟨b, j, none⟩ = some (.int .u8 ((f j : Nat) : Int))) ∧
    (∀ j, j < cap → (w.cell? ⟨b, j, none⟩).isSome = true ∧ w.frozen? ⟨b, j, none⟩ = false)
theorem RowC.below {w w' : World} {B B' m : Nat} {v : Value} {f : Nat → Nat} (h : RowC w B v m f) (hb : Below B' w w') (hB : w.heap.size ≤ B') : RowC w' B v m f := by
  obtain ⟨b, cap, rfl, h1, h2, h3, h4, h5⟩ := h
  have hblk : w'.heap[b]? = w.heap[b]? := hb.block b (by omega)
  have e1 : ∀ j, w'.cell? ⟨b, j, none⟩ = w.cell? ⟨b, j, none⟩ := fun j => by simp [World.cell?, hblk]
  have e2 : ∀ j, w'.frozen? ⟨b, j, none⟩ = w.frozen? ⟨b, j, none⟩ := fun j => by simp [World.frozen?, hblk]
  exact ⟨b, cap, rfl, h1, Nat.lt_of_lt_of_le h2 hb.size, h3, fun j hj => by rw [e1]; exact h4 j hj, fun j hj => by rw [e1, e2]; exact h5 j hj⟩
theorem RowC.congr {w : World} {B m : Nat} {v : Value} {f g : Nat → Nat} (h : RowC w B v m f) (e : ∀ j, j < m → f j = g j) : RowC w B v m g := by
  obtain ⟨b, cap, rfl, h1, h2, h3, h4, h5⟩ := h
  exact ⟨b, cap, rfl, h1, h2, h3, fun j hj => by rw [h4 j hj, e j hj], h5⟩

end Go.Proofs.YtimjggkdpmgpjaaGreatDoor

namespace Go.Proofs.YtimjggkdpmgpjaaGreatDoor
open Go Go.RowKit
set_option linter.unusedSimpArgs false
set_option linter.unusedVariables false

/-- of the first n digests: k the least place with a like one ahead of it, i the first such; or none -/
def CollIs {α : Type} (D : Nat → α) (n i k : Nat) (b : Bool) : Prop :=
  (b = true ∧ i < k ∧ k < n ∧ D i = D k ∧ (∀ x, x < i → D x ≠ D k) ∧ ∀ y, y < k → ∀ x, x < y → D x ≠ D y) ∨
  (b = false ∧ i = 0 ∧ k = 0 ∧ ∀ y, y < n → ∀ x, x < y → D x ≠ D y)
theorem CollIs.same {α : Type} {D : Nat → α} {n i k i' k' : Nat} {b b' : Bool} (h : CollIs D n i k b) (h' : CollIs D n i' k' b') : i' = i ∧ k' = k ∧ b' = b := by
  rcases h with ⟨rfl, h1, h2, h3, h4, h5⟩ | ⟨rfl, rfl, rfl, h5⟩
  · rcases h' with ⟨rfl, g1, g2, g3, g4, g5⟩ | ⟨rfl, rfl, rfl, g5⟩
    · have hk : k' = k := by
        rcases Nat.lt_trichotomy k' k with q | q | q
        · exact absurd g3 (h5 k' q i' g1)
        · exact q
        · exact absurd h3 (g5 k q i h1)
      subst hk
      refine ⟨?_, rfl, rfl⟩
      rcases Nat.lt_trichotomy i' i with q | q | q
      · exact absurd g3 (h4 i' q)
      · exact q
      · exact absurd h3 (g4 i q)
    · exact absurd h3 (g5 k h2 i h1)
  · rcases h' with ⟨rfl, g1, g2, g3, g4, g5⟩ | ⟨rfl, rfl, rfl, g5⟩
    · exact absurd g3 (h5 k' g2 i' g1)
    · exact ⟨rfl, rfl, rfl⟩

def dF (d : Vector Nat 32) : Nat → Nat := fun i => (d[i]?).getD 0
def dK (d : Vector Nat 32) : Value := .agg (va 32 (iv .u8 (dF d)))
theorem dF_inj {a b : Vector Nat 32} (h : ∀ i, i < 32 → dF a i = dF b i) : a = b := by
  apply Vector.ext
  intro i hi
  have := h i hi
  unfold dF at this
  simpa [hi] using this

end Go.Proofs.YtimjggkdpmgpjaaGreatDoor

namespace Go.Proofs.YtimjggkdpmgpjaaGreatDoor
open Go Go.RowKit
set_option linter.unusedSimpArgs false
set_option linter.unusedVariables false

def sumD (f : Nat → Nat) : Vector Nat 32 := Vector.ofFn fun i : Fin 32 => f i.1
theorem dF_sumD (f : Nat → Nat) (i : Nat) (hi : i < 32) : dF (sumD f) i = f i := by
  unfold dF sumD
  simp [hi]
theorem va_extract (n o m : Nat) (f : Nat → Value) (h : o + m ≤ n) : (va n f).extract o (o + m) = va m fun i => f (o + i) := by
  refine va_ext (by rw [Array.size_extract, va_size]; omega) fun i hi => ?_
  rw [Array.getElem?_extract, va_size]
  rw [if_pos (by omega)]
  exact va_at f (by omega)
def rfF (a : Nat) (d : Vector Nat 32) : Nat → Value := fun i => if i = 0 then .int .u32 ((a : Nat) : Int) else .int .u8 ((dF d (i - 1) : Nat) : Int)
theorem rf_sum (a : Nat) (d : Vector Nat 32) : (va 32 fun i => rfF a d (1 + i)) = va 32 (iv .u8 (dF d)) := va_congr fun i _ => by
  unfold rfF iv
  rw [if_neg (by omega), show 1 + i - 1 = i by omega]
theorem size_at (t n : Nat) (h : (Tryz.prog.info? t).map (·.size) = some n) (w : World) : (sizeOf t).run Tryz.prog w = .ok n w := by
  cases hq : Tryz.prog.info? t with
  | none => simp [hq] at h
  | some i =>
    have hi : i.size = n := by simpa [hq] using h
    simp [sizeOf, typeInfo, hq, hi]
theorem slSizeRef : (Tryz.prog.info? 74).map (·.size) = some 33 := by kernel_rfl
theorem sizeSm : (Tryz.prog.info? 72).map (·.size) = some 32 := by kernel_rfl
theorem part_sum (a : Nat) (d : Vector Nat 32) (w : World) : (part 72 (va 33 (rfF a d)) 1).run Tryz.prog w = .ok (dK d) w := by
  have e : (va 33 (rfF a d)).extract 1 (1 + 32) = va 32 (iv .u8 (dF d)) := by
    rw [va_extract 33 1 32 _ (by decide), rf_sum]
  simp [part, isAgg, run_underlying Tryz.underlying72, size_at _ _ sizeSm]
  unfold dK
  rw [← e]
theorem part_int (t : TypeId) (k : IntKind) (h : Tryz.prog.underlying t = some (.int k)) (cs : Array Value) (o : Nat) (v : Value) (hv : cs[o]? = some v) (w : World) : (part t cs o).run Tryz.prog w = .ok v w := by
  simp [part, isAgg, run_underlying h, hv]
set_option maxRecDepth 100000 in
theorem eq_digAt (d : Nat) (t : TypeId) (ht : Tryz.prog.underlying t = some (.array 32 5)) (a b : Vector Nat 32) (w : World) : (Op.equalIn (d + 1 + 1) t (dK a) (dK b)).run Tryz.prog w = .ok (decide (a = b)) w := by
  obtain ⟨i, hi⟩ : ∃ i, Tryz.prog.info? 5 = some i := Option.isSome_iff_exists.1 (by kernel_rfl)
  have hc : Tryz.prog.cellsOf 5 = 1 := by kernel_rfl
  unfold dK
  rw [run_equalIn_array w (d + 1) (va 32 (iv .u8 (dF a))) (va 32 (iv .u8 (dF b))) ht hi, hc,
    run_items d Tryz.underlying5 (fun i => ((dF a i : Nat) : Int)) (fun i => ((dF b i : Nat) : Int)) (va 32 (iv .u8 (dF a))) (va 32 (iv .u8 (dF b))) _ (fun i hi => ⟨va_at (iv .u8 (dF a)) (by simpa using hi), va_at (iv .u8 (dF b)) (by simpa using hi)⟩)]
  congr 1
  rw [Bool.eq_iff_iff, List.all_eq_true, decide_eq_true_eq]
  constructor
  · intro h
    refine dF_inj fun i hi => ?_
    have := h i (by simpa using hi)
    simp only [beq_iff_eq] at this
    omega
  · rintro rfl i _
    simp
/-- two structs of two fields compared -/
theorem run_eq_two {P : Program} {w : World} {d : Nat} {t t1 t2 o1 o2 : Nat} {cs ds : Array Value} {x1 y1 x2 y2 : Value} {b1 b2 : Bool} (hu : P.underlying t = some (.struct (P.fieldsOf t))) (hp : P.stoodInHeld t = false)
    (hf : (P.fieldsOf t).toList.map (fun f => (f.name == "_", f.type, f.offset)) = [(false, t1, o1), (false, t2, o2)])
    (p1 : (part t1 cs o1).run P w = .ok x1 w) (q1 : (part t1 ds o1).run P w = .ok y1 w) (p2 : (part t2 cs o2).run P w = .ok x2 w) (q2 : (part t2 ds o2).run P w = .ok y2 w)
    (h1 : (Op.equalIn d t1 x1 y1).run P w = .ok b1 w) (h2 : (Op.equalIn d t2 x2 y2).run P w = .ok b2 w) : (Op.equalIn (d + 1) t (.agg cs) (.agg ds)).run P w = .ok (b1 && b2) w := by
  rw [run_equalIn_struct w d t cs ds hu hp]
  obtain ⟨f, l1, e1, hf1, hl1⟩ := List.map_eq_cons_iff.1 hf
  obtain ⟨g, l2, e2, hg1, hl2⟩ := List.map_eq_cons_iff.1 hl1
  have e3 := List.map_eq_nil_iff.1 hl2
  subst e3 e2
  rw [e1]
  simp only [Prod.mk.injEq] at hf1 hg1
  obtain ⟨n1, rfl, rfl⟩ := hf1
  obtain ⟨n2, rfl, rfl⟩ := hg1
  have n1' : f.name ≠ "_" := by simpa using n1
  have n2' : g.name ≠ "_" := by simpa using n2
  unfold Op.eqFields
  rw [if_pos n1']
  unfold Op.eqFields
  rw [if_pos n2']
  simp only [Sem.run_bind, p1, q1, Result.andThen_ok, h1]
  cases b1
  · simp
  · simp only [Bool.not_true, Bool.false_eq_true, if_false, Sem.run_bind, p2, q2, Result.andThen_ok, h2]
    cases b2
    · simp
    · simp [Op.eqFields]
theorem eq_root (d : Nat) (a b : Nat) (x y : Vector Nat 32) (w : World) : (Op.equalIn (d + 1 + 1 + 1) 74 (.agg (va 33 (rfF a x))) (.agg (va 33 (rfF b y)))).run Tryz.prog w = .ok (decide ((a, x) = (b, y))) w := by
  have h1 : (Op.equalIn (d + 1 + 1) 70 (.int .u32 (a : Int)) (.int .u32 (b : Int))).run Tryz.prog w = .ok ((a : Int) == (b : Int)) w := by simp [Op.equalIn, run_underlying Tryz.underlying70]
  have h2 := eq_digAt d 72 Tryz.underlying72 x y w
  have hd : decide ((a, x) = (b, y)) = (((a : Int) == (b : Int)) && decide (x = y)) := by
    rw [Bool.eq_iff_iff]
    simp only [decide_eq_true_eq, Bool.and_eq_true, beq_iff_eq, Prod.mk.injEq]
    constructor
    · rintro ⟨h, k⟩
      exact ⟨by omega, k⟩
    · rintro ⟨h, k⟩
      exact ⟨by omega, k⟩
  rw [hd]
  have p1 : (part 70 (va 33 (rfF a x)) 0).run Tryz.prog w = .ok (.int .u32 ((a : Nat) : Int)) w := part_int _ _ Tryz.underlying70 _ _ _ (va_at (rfF a x) (by decide)) w
  have q1 : (part 70 (va 33 (rfF b y)) 0).run Tryz.prog w = .ok (.int .u32 ((b : Nat) : Int)) w := part_int _ _ Tryz.underlying70 _ _ _ (va_at (rfF b y) (by decide)) w
  have p2 := part_sum a x w
  have q2 := part_sum b y w
  generalize va 33 (rfF a x) = cs at *
  generalize va 33 (rfF b y) = ds at *
  have hu : Tryz.prog.underlying 74 = some (.struct (Tryz.prog.fieldsOf 74)) := by kernel_rfl
  have hp : Tryz.prog.stoodInHeld 74 = false := by kernel_rfl
  have hf : (Tryz.prog.fieldsOf 74).toList.map (fun f => (f.name == "_", f.type, f.offset)) = [(false, 70, 0), (false, 72, 1)] := by kernel_rfl
  exact run_eq_two hu hp hf p1 q1 p2 q2 h1 h2
end Go.Proofs.YtimjggkdpmgpjaaGreatDoor

namespace Go.Proofs.YtimjggkdpmgpjaaGreatDoor
open Go Go.RowKit
set_option linter.unusedVariables false

theorem kblk_range {w : World} {g t n : Nat} {f : Nat → Value} (h : Blk w g t (va n f)) : w.rangeAt g 0 ((List.range n).map f) := fun j v hv => by
  refine h.range 0 n (by omega) j v ?_
  rw [← hv]
  simp
theorem kyields_load {P : Program} {ops : Array Oper} {S : World → Prop} {op : Oper} {a : Act} (hw : Region.wanted op (yielded ops a.tmps) = true) (ty : TypeId) (x : Operand) (ho : op.op = .load ty x)
    (b n : Nat) (f : Nat → Value) (hx : a.eval x = .pointer (some ⟨b, 0, none⟩)) (d : TypeDesc) (t : Nat) (hS : ∀ w, S w → Blk w b t (va n f))
    (hu : P.underlying ty = some d) (hd : d.isRow = true) (hi : (P.info? ty).map (·.size) = some n) : YieldsIf P ops S op (.agg (va n f)) a :=
  yieldsIf_load_mid hw ty x ho b 0 hx _ d (fun w h => kblk_range (hS w h)) hu hd (hi.trans (by simp))
end Go.Proofs.YtimjggkdpmgpjaaGreatDoor

namespace Go.Proofs.YtimjggkdpmgpjaaGreatDoor
open Go Go.RowKit
set_option linter.unusedVariables false

/-- the slice at a of n blocks, told by L -/
def IsBlks (w : World) (a : Option Addr) (n : Nat) (L : Nat → Nat → Nat) : Prop :=
  ∀ i, i < n → ∃ b o, a = some ⟨b, o, none⟩ ∧ b < w.heap.size ∧ w.rangeAt b (o + i * 256) ((List.range 256).map (iv .u8 (L i)))
theorem range_below {w w' : World} {B b o : Nat} {cs : List Value} (h : w.rangeAt b o cs) (hb : Below B w w') (hB : b < B) : w'.rangeAt b o cs := fun j v hv => by
  rw [← h j v hv]
  simp [World.cell?, hb.block b hB]
theorem IsBlks.below {w w' : World} {a : Option Addr} {n : Nat} {L : Nat → Nat → Nat} (h : IsBlks w a n L) (hb : Below w.heap.size w w') : IsBlks w' a n L := fun i hi => by
  obtain ⟨b, o, e, h1, h2⟩ := h i hi
  exact ⟨b, o, e, Nat.lt_of_lt_of_le h1 hb.size, range_below h2 hb h1⟩
end Go.Proofs.YtimjggkdpmgpjaaGreatDoor

namespace Go.Proofs.YtimjggkdpmgpjaaGreatDoor
open Go.RowKit
set_option linter.unusedSimpArgs false
set_option linter.unusedVariables false

theorem infoBk : (Tryz.prog.info? 207).map (fun i => (i.zero, i.size, i.bytes)) = some (some (.agg (va 256 (iv .u8 fun _ => 0))), 256, 256) := by kernel_rfl

/-- a block of a slice, loaded -/
theorem wpList_load_blk {P : Program} {ops : Array Oper} {rest : List Oper} {op : Oper} {a : Act} {w : World} {Q : Exit → Act → World → Prop} (hgd : op.guard = none) (ty : TypeId) (x : Operand) (ho : op.op = .load ty x)
    (b o n : Nat) (f : Nat → Value) (hx : a.eval x = .pointer (some ⟨b, o, none⟩)) (d : TypeDesc) (hc : w.rangeAt b o ((List.range n).map f))
    (hu : P.underlying ty = some d) (hd : d.isRow = true) (hi : (P.info? ty).map (·.size) = some n)
    (h : wpList P ops Q rest (a.put op.dst (.agg (va n f))) w) : wpList P ops Q (op :: rest) a w :=
  wpList_load_mid hgd ty x ho b o hx _ d hc hu hd (hi.trans (by simp)) h
end Go.Proofs.YtimjggkdpmgpjaaGreatDoor

namespace Go.Proofs.YtimjggkdpmgpjaaGreatDoor
open Go Go.RowKit
set_option linter.unusedSimpArgs false
set_option linter.unusedVariables false

theorem tbyte_get (s : ByteArray) (i : Nat) (h : i < s.size) : tbyte s i = s[i].toNat := by
  have h' : i < s.data.size := h
  simp [tbyte, List.getD]
  rw [Array.getElem?_eq_getElem h']; rfl
def at4 (s : ByteArray) (a : Nat) : Nat := le4 (tbyte s a) (tbyte s (a + 1)) (tbyte s (a + 2)) (tbyte s (a + 3))
set_option maxHeartbeats 400000 in
theorem there_yes (s : ByteArray) (a k : Nat) (hs : s.size ≤ maxLen) (hk : k ≤ 8) (h : a + k ≤ s.size) (w : World) :
    Calls Tryz.prog 202 #[.string s, .int .i64 (a : Int), .int .i64 (k : Int)] w fun e w' => e = .returned (.bool true) ∧ w' = w := by
  unfold maxLen at hs
  have e1 : decide ((a : Int) ≤ (s.size : Int) - (k : Int)) = true := by simp; omega
  go_enter Tryz.func202, Tryz.ntmps202
  go_wp2
  go_ret
  exact ⟨by simp, rfl⟩
set_option maxHeartbeats 1000000 in
theorem take32_yes (s : ByteArray) (a : Nat) (hs : s.size ≤ maxLen) (h : a + 4 ≤ s.size) (w : World) :
    Calls Tryz.prog 188 #[.string s, .int .i64 (a : Int)] w fun e w' => e = .returned (.tuple #[.int .u32 (at4 s a : Int), .bool true]) ∧ Below w.heap.size w w' := by
  have hs' := hs
  unfold maxLen at hs
  have HE : Hid (at4 s a = le4 s[a].toNat s[a + 1].toNat s[a + 2].toNat s[a + 3].toNat) := by
    show at4 s a = le4 s[a].toNat s[a + 1].toNat s[a + 2].toNat s[a + 3].toNat
    unfold at4; rw [tbyte_get s a (by omega), tbyte_get s (a + 1) (by omega), tbyte_get s (a + 2) (by omega), tbyte_get s (a + 3) (by omega)]
  go_enter Tryz.func188, Tryz.ntmps188
  go_wp2_with fail
  refine (there_yes s a 4 hs' (by decide) h _).mono ?_
  rintro e w' ⟨rfl, rfl⟩
  go_wp2
  refine wp_loop_rounds 5 ?_
  rw [rounds_succ]
  go_wp2
  rw [rounds_succ]
  go_wp2
  rw [rounds_succ]
  go_wp2
  rw [rounds_succ]
  go_wp2
  rw [rounds_succ]
  go_wp2_with fail
  refine (of32_any _ _ _ _ (UInt8.toNat_lt _) (UInt8.toNat_lt _) (UInt8.toNat_lt _) (UInt8.toNat_lt _) _).mono ?_
  rintro e w1 ⟨rfl, hb⟩
  go_wp2
  go_ret2
  rw [HE.out]
  refine ⟨rfl, ?_⟩
  exact ((Below.refl _ _).alloc (Nat.le_refl _) _).trans (hb.mono (by simp))
end Go.Proofs.YtimjggkdpmgpjaaGreatDoor

namespace Go.Proofs.YtimjggkdpmgpjaaGreatDoor
open Go Go.RowKit
set_option linter.unusedSimpArgs false
set_option linter.unusedVariables false

/-- a reference, as a plain thing -/
abbrev Rf := Nat × Vector Nat 32
def rfC (r : Rf) : Array Value := va 33 (rfF r.1 r.2)
def rf0 : Rf := (0, Vector.replicate 32 0)
theorem rfC_size (r : Rf) : (rfC r).size = 33 := va_size _ _
theorem rfF_one (a : Nat) (d : Vector Nat 32) (i : Nat) : (rfF a d i).oneCell' = true := by
  unfold rfF
  split <;> rfl
theorem rfC_all (r : Rf) : (rfC r).all (·.oneCell') = true := va_one fun i _ => rfF_one _ _ _
/-- is a reference right? -/
def rOk (r : Rf) : Bool := decide (r = rf0) || decide (r.1 ≠ 0)
theorem zero_of {t : TypeId} {v : Value} (h : (Tryz.prog.info? t).bind (·.zero) = some v) (w : World) : (zeroValue t).run Tryz.prog w = .ok v w := by
  cases hq : Tryz.prog.info? t with
  | none => simp [hq] at h
  | some i =>
    have hi : i.zero = some v := by simpa [hq] using h
    simp [zeroValue, typeInfo, hq, hi]
theorem zero_ref (w : World) : (zeroValue 74).run Tryz.prog w = .ok (.agg (rfC rf0)) w := zero_of (by kernel_rfl) w
theorem part_agg (t n : Nat) (u : TypeDesc) (hu : Tryz.prog.underlying t = some u) (hd : u.isRow = true) (hs : (Tryz.prog.info? t).map (·.size) = some n) (cs ds : Array Value) (o : Nat) (he : cs.extract o (o + n) = ds) (w : World) : (part t cs o).run Tryz.prog w = .ok (.agg ds) w := by
  cases u <;> simp [TypeDesc.isRow] at hd <;> simp [part, isAgg, run_underlying hu, size_at _ _ hs, he]
/-- two references compared -/
theorem eq_ref (d : Nat) (a b : Rf) (w : World) : (Op.equalIn (d + 1 + 1 + 1) 74 (.agg (rfC a)) (.agg (rfC b))).run Tryz.prog w = .ok (decide (a = b)) w := eq_root d a.1 b.1 a.2 b.2 w
/-- texts one behind the other -/
theorem tbyte_append (s t : ByteArray) (j : Nat) : tbyte (s ++ t) j = if j < s.size then tbyte s j else tbyte t (j - s.size) := by
  have hs : s.data.toList.length = s.size := Array.length_toList
  have e : (s ++ t).data.toList = s.data.toList ++ t.data.toList := by
    rw [ByteArray.data_append, Array.toList_append]
  unfold tbyte
  rw [e, List.getD_eq_getElem?_getD]
  by_cases h : j < s.size
  · rw [if_pos h, List.getElem?_append_left (by omega), List.getD_eq_getElem?_getD]
  · rw [if_neg h, List.getElem?_append_right (by omega), List.getD_eq_getElem?_getD, hs]
theorem strN_append (f : Nat → Nat) (a b : Nat) (hf : ∀ j, j < a + b → f j < 256) : strN f a ++ strN (fun j => f (a + j)) b = strN f (a + b) := by
  refine text_ext (by rw [ByteArray.size_append, strN_size, strN_size, strN_size]) fun j hj => ?_
  rw [ByteArray.size_append, strN_size, strN_size] at hj
  rw [tbyte_append, strN_size, strN_at f (a + b) j hj (hf j hj)]
  by_cases h : j < a
  · rw [if_pos h, strN_at f a j h (hf j (by omega))]
  · rw [if_neg h]
    have e : a + (j - a) = j := by omega
    rw [strN_at _ b (j - a) (by omega) (by rw [e]; exact hf j hj), e]
/-- a reference's bytes -/
def encR (r : Rf) : Nat → Nat := fun j => if j < 4 then dig r.1 j else dF r.2 (j - 4)
/-- a digest of bytes -/
def okD (d : Vector Nat 32) : Prop := ∀ i, i < 32 → dF d i < 256
theorem encR_lt (r : Rf) (hr : okD r.2) (j : Nat) (hj : j < 36) : encR r j < 256 := by
  unfold encR
  split
  · exact dig_lt _ _
  · exact hr _ (by omega)
theorem okD_zero : okD (Vector.replicate 32 0) := fun i hi => by
  unfold dF
  simp [hi]
end Go.Proofs.YtimjggkdpmgpjaaGreatDoor
