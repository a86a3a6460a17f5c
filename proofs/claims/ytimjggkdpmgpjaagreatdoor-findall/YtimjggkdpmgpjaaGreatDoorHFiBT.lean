/- The statements' trees of names, as they stand in the memory: inodes, and the map of the document's lists. -/
import Derived.Test.YtimjggkdpmgpjaaGreatDoorHDiSortM
import Derived.Test.YtimjggkdpmgpjaaGreatDoorHNaDecode
import Derived.Test.YtimjggkdpmgpjaaGreatDoorHNaJoinB
import Derived.Test.YtimjggkdpmgpjaaGreatDoorHMath
import Derived.Handy
import Derived.Test.YtimjggkdpmgpjaaGreatDoorHNaGiven
import Derived.BigQuiet
import Derived.Deep.QuietTactic
import Derived.Test.YtimjggkdpmgpjaaGreatDoorHOrders
import Derived.Deep.Cut
import Derived.Test.YtimjggkdpmgpjaaGreatDoorHFiMath
import Derived.Test.YtimjggkdpmgpjaaGreatDoorHDiLay
import Derived.Test.YtimjggkdpmgpjaaGreatDoorHInsCalls
import Derived.Deep.MidRow

namespace Go.Proofs.YtimjggkdpmgpjaaGreatDoor
theorem sgLHFiBT : (∀ (α : Type) (a : α) (l r : List α), (a :: l) ++ r = a :: (l ++ r)) ∧ (∀ (α : Type) (l : List α), [] ++ l = l) ∧ (∀ (α : Type) (l : List α), l ++ [] = l) ∧ (∀ (α β : Type) (f : α → Option β) (a : α) (l : List α), (a :: l).filterMap f = match f a with | none => l.filterMap f | some b => b :: l.filterMap f) ∧ (∀ (α β : Type) (f : α → Option β), [].filterMap f = []) ∧ (∀ (α : Type) (l : List α) (i : Nat), l.toArray[i]? = l[i]?) ∧ (∀ (α : Type) (a : α) (l : List α), (a :: l)[0]? = some a) ∧ (∀ (α : Type) (a : α) (l : List α) (i : Nat), (a :: l)[i + 1]? = l[i]?) :=
  ⟨fun _ _ _ _ => List.cons_append, fun _ _ => List.nil_append _, fun _ _ => List.append_nil _, fun _ _ _ _ _ => List.filterMap_cons, fun _ _ _ => List.filterMap_nil, fun _ _ _ => List.getElem?_toArray, fun _ _ _ => List.getElem?_cons_zero, fun _ _ _ _ => List.getElem?_cons_succ⟩
theorem sgPHFiBT : (∀ (α : Type) (l : List α) (i : Nat) (a : α), l.toArray.setIfInBounds i a = (l.set i a).toArray) ∧ (∀ (α : Type) (a b : α) (l : List α), (a :: l).set 0 b = b :: l) ∧ (∀ (α : Type) (a b : α) (l : List α) (i : Nat), (a :: l).set (i + 1) b = a :: l.set i b) :=
  ⟨fun _ _ _ _ => List.setIfInBounds_toArray _ _ _, fun _ _ _ _ => List.set_cons_zero, fun _ _ _ _ _ => List.set_cons_succ⟩
end Go.Proofs.YtimjggkdpmgpjaaGreatDoor
namespace Go.Proofs.YtimjggkdpmgpjaaGreatDoor
open Go Go.RowKit
set_option linter.unusedSimpArgs false
set_option linter.unusedVariables false
set_option maxRecDepth 100000 in
set_option maxHeartbeats 4000000 in
/-- Add that fails: the list itself, and why -/
theorem radd17_no (a : Option Addr) (n c : Nat) (hn : n ≤ 140737488351232) (N : Nat → Int) (S : Nat → ByteArray) (i : Int) (s : ByteArray) (p : Nat) (hp : FirstN S n p s) (r : Int) (hr : r = if encE i s ≠ 0 then encE i s else if p < n then 172 else 173) (hb : encE i s ≠ 0 ∨ p < n ∨ 16384 ≤ n) (w : World) (hI : IsLkC w a n N S) : Calls Tryz.prog 23 #[.slice a n c, lkV i s] w fun e w' => e = .returned (.tuple #[.slice a n c, .int .i64 r]) ∧ Below w.heap.size w w' := by
  have HE : Hid (∀ w : World, Calls Tryz.prog 46 #[lkV i s] w fun e w' => e = .returned (.tuple #[.string (encT i s), .int .i64 (encE i s)]) ∧ Below w.heap.size w w') := rencode_any i s
  have HF : Hid (∀ W, Below w.heap.size w W → Calls Tryz.prog 47 #[.slice a n c, .string s] W fun e w' => e = .returned (.tuple #[.int .i64 (if p < n then N p else 0), .int .i64 (if p < n then (p : Int) else -1)]) ∧ w' = W) := fun W hW => rfind17_any a n c p hn N S s hp _ _ rfl rfl W (hI.below hW)
  have HR : Hid (r = if encE i s ≠ 0 then encE i s else if p < n then 172 else 173) := hr
  clear hr hI hp
  generalize encT i s = ET at *
  generalize encE i s = EE at *
  unfold lkV at *
  have b0 : Blk (w.alloc (.cells #[.int .i64 i, .string s] 82)) w.heap.size 82 #[.int .i64 i, .string s] := Blk.new _ _ _
  have HB0 : Hid (Below w.heap.size w (w.alloc (.cells #[.int .i64 i, .string s] 82))) := below_new1 _ _
  have c0 : (w.alloc (.cells #[.int .i64 i, .string s] 82)).cell? ⟨w.heap.size, 0, none⟩ = some (.int .i64 i) := (b0.cell 0).trans rfl
  have c1 : (w.alloc (.cells #[.int .i64 i, .string s] 82)).cell? ⟨w.heap.size, 1, none⟩ = some (.string s) := (b0.cell 1).trans rfl
  go_enter Tryz.func23, Tryz.ntmps23
  go_wp2_with fail
  generalize (w.alloc (.cells #[.int .i64 i, .string s] 82)) = w0 at *
  refine (HE.out _).mono ?_
  rintro e w1 ⟨rfl, hb1⟩
  have HB1 : Hid (Below w.heap.size w w1) := HB0.out.trans (hb1.mono HB0.out.size)
  have b1 := b0.below hb1 b0.lt
  clear c0 c1 hb1 b0 HB0 HE
  have c1 : w1.cell? ⟨w.heap.size, 1, none⟩ = some (.string s) := (b1.cell 1).trans rfl
  by_cases h0 : EE = 0
  · subst h0
    have HF1 := HF.out w1 HB1.out
    clear HF
    by_cases hq : p < n
    · have HR2 : Hid (r = 172) := by show r = 172; rw [HR.out, if_neg (by simp), if_pos hq]
      rw [if_pos hq, if_pos hq] at HF1
      have p0 : (0 : Int) ≤ (p : Int) := by omega
      generalize N p = NP at *
      clear HR hb b1
      go_wp2_with fail
      refine HF1.mono ?_
      rintro e w2 ⟨rfl, hw2⟩
      subst w2
      go_wp2_with fail
      go_ret2
      exact ⟨by rw [HR2.out]; rfl, HB1.out⟩
    · have HR2 : Hid (r = 173) := by show r = 173; rw [HR.out, if_neg (by simp), if_neg hq]
      rw [if_neg hq, if_neg hq] at HF1
      have hl : (16384 : Int) ≤ (n : Int) := by
        rcases hb with hb | hb | hb
        · exact absurd rfl hb
        · exact absurd hb hq
        · omega
      clear HR hb b1
      go_wp2_with fail
      refine HF1.mono ?_
      rintro e w2 ⟨rfl, hw2⟩
      subst w2
      go_wp2_with fail
      go_ret2
      exact ⟨by rw [HR2.out]; rfl, HB1.out⟩
  · have HR2 : Hid (r = EE) := by show r = EE; rw [HR.out, if_pos h0]
    clear HR hb b1 HF
    go_wp2_with fail
    go_ret2
    exact ⟨by rw [HR2.out]; rfl, HB1.out⟩
end Go.Proofs.YtimjggkdpmgpjaaGreatDoor

namespace Go.Proofs.YtimjggkdpmgpjaaGreatDoor
open Go Go.RowKit
set_option linter.unusedSimpArgs false
set_option linter.unusedVariables false
theorem sc_same (W : World) (p : Addr) (v u : Value) (h : W.cell? p = some u) : (W.setCell p v).cell? p = some v := by
  first | exact World.cell?_setCell_same _ _ _ h | exact World.cell?_setCell_same h | exact World.cell?_setCell_same (h := h) ..
theorem sc_other (W : World) (p q : Addr) (v : Value) (h : p ≠ q) : (W.setCell p v).cell? q = W.cell? q := by
  first | exact World.cell?_setCell_other _ _ _ _ h | exact World.cell?_setCell_other _ _ _ h | exact World.cell?_setCell_other (h := h) ..
theorem ad_ne {g o g' o' : Nat} (h : g ≠ g' ∨ o ≠ o') : (⟨g, o, none⟩ : Addr) ≠ ⟨g', o', none⟩ := by
  intro e
  injection e with e1 e2
  rcases h with h | h
  · exact h e1
  · exact h e2
theorem IsLk.put {W : World} {g m : Nat} {N : Nat → Int} {S : Nat → ByteArray} (h : IsLk W g m N S) (r : Nat) (hr : r < m) (i : Int) (s : ByteArray) : IsLk ((W.setCell ⟨g, r * 2, none⟩ (.int .i64 i)).setCell ⟨g, r * 2 + 1, none⟩ (.string s)) g m (upN N r i) (upS S r s) := fun j hj => by
  have a0 := (h j hj).1
  have a1 := (h j hj).2
  unfold upN upS
  by_cases c : j = r
  · subst c
    rw [if_pos rfl, if_pos rfl]
    refine ⟨?_, ?_⟩
    · rw [sc_other _ _ _ _ (ad_ne (.inr (by omega)))]
      exact sc_same _ _ _ _ a0
    · refine sc_same _ _ _ (.string (S j)) ?_
      rw [sc_other _ _ _ _ (ad_ne (.inr (by omega)))]
      exact a1
  · rw [if_neg c, if_neg c, sc_other _ _ _ _ (ad_ne (.inr (by omega))), sc_other _ _ _ _ (ad_ne (.inr (by omega))), sc_other _ _ _ _ (ad_ne (.inr (by omega))), sc_other _ _ _ _ (ad_ne (.inr (by omega)))]
    exact ⟨a0, a1⟩
theorem IsLk.same {W : World} {g m m' : Nat} {N N' : Nat → Int} {S S' : Nat → ByteArray} (h : IsLk W g m N S) (hm : m' ≤ m) (hN : ∀ p, p < m' → N p = N' p ∧ S p = S' p) : IsLk W g m' N' S' := fun j hj => by
  rw [← (hN j hj).1, ← (hN j hj).2]
  exact h j (by omega)
theorem IsLk.turns {W W' : World} {T : Nat → Prop} {g m : Nat} {N : Nat → Int} {S : Nat → ByteArray} (h : IsLk W g m N S) (ht : Turns T W W') (hg : g < W.heap.size) (hT : ¬ T g) : IsLk W' g m N S := fun j hj => by
  have hb := ht.block g hg hT
  refine ⟨(World.cell?_of_block (w := W) (w' := W') (a := ⟨g, j * 2, none⟩) hb).trans (h j hj).1, (World.cell?_of_block (w := W) (w' := W') (a := ⟨g, j * 2 + 1, none⟩) hb).trans (h j hj).2⟩
section
variable {w : World} {x mf ml mc : Nat} {cp : Option Addr} {top : Int} {H : Nat → Hd} {D : Nat → Nat → Nat → Nat} {n k st : Nat} {N : Nat → Int} {S : Nat → ByteArray}
end
end Go.Proofs.YtimjggkdpmgpjaaGreatDoor

namespace Go.Proofs.YtimjggkdpmgpjaaGreatDoor
open Go Go.RowKit Go.Nam
set_option linter.unusedSimpArgs false
set_option linter.unusedVariables false
theorem wpList_append_links2 {P : Program} {ops : Array Oper} {rest : List Oper} {o : Oper} {a : Act} {w : World} {Q : Exit → Act → World → Prop} (hgd : o.guard = none) (s x : Operand) (t : TypeId)
    (ho : o.op = .call { callee := .builtin .append, args := #[s, x], argTypes := #[t, t] }) (B : Nat) (e : TypeId) (i : TypeInfo) (z : Value) (ht : P.underlying t = some (.slice e)) (hi : P.info? e = some i) (hz : i.zero = some z) (hsize : i.size = 2) (hby : i.bytes = 24) (hzs : z.cells.size = 2)
    (v : Value) (hs : a.eval s = v) (hown : w.ownsRow B e 2 v 0 []) (a1 : Option Addr) (n c : Nat) (N : Nat → Int) (S : Nat → ByteArray) (hx : a.eval x = .slice a1 n c) (hA : IsLkC w a1 n N S) (hN : a1 = none → n = 0 ∧ c = 0) (hn : n * 24 ≤ 140737488355328) (hbase : B ≤ w.heap.size)
    (h : ∀ v' w', w'.ownsRow B e 2 v' n (lkL N S n) → Below B w w' → w.grownBy w' v.ownBlock → wpList P ops Q rest (a.put o.dst v') w') : wpList P ops Q (o :: rest) a w := by
  cases a1 with
  | none =>
    obtain ⟨rfl, rfl⟩ := hN rfl
    exact wpList_append_own_none hgd s x t ho B e i 2 ht hi v 0 [] hs hown hx (h v w hown (Below.refl _ _) ⟨rfl, rfl, rfl, Nat.le_refl _, fun _ _ _ => rfl⟩)
  | some ad =>
    have hv := hown.lt
    refine wpList_append_own _ hgd s x t ho B e i z 2 24 ht hi hz hsize hby hzs (by decide) v 0 [] hs hown ad n c (lkL N S n) hx (lkL_len N S n) (fun j u hu => ?_) (lkL_mem N S n) (by unfold maxLen; omega) (by omega) hbase fun v' w' h1 h2 _ => ?_
    · obtain ⟨k, hk, hh⟩ := lkL_get N S n j u hu
      obtain ⟨b, o2, e1, _, c0, c1⟩ := hA k hk
      injection e1 with e2
      subst e2
      rcases hh with ⟨rfl, rfl⟩ | ⟨rfl, rfl⟩
      · rw [Addr.add_mid]; exact c0
      · rw [Addr.add_mid, ← Nat.add_assoc]; exact c1
    · rw [List.nil_append, Nat.zero_add] at h1
      exact h v' w' h1 ((Below.refl _ _).grown h2 hbase (fun k hk => (hv k hk).1)) h2

theorem va_lbR (N : Nat → Int) (S : Nat → ByteArray) (n : Nat) : (va (n * 2) (lbF N S)).toList = lkL N S n := by
  apply List.ext_getElem?
  intro q
  by_cases h : q < n * 2
  · rw [Array.getElem?_toList, va_at _ h]
    unfold lbF
    have := dlk_at N S n (q / 2) (by omega)
    by_cases e : q % 2 = 0
    · rw [if_pos e, ← this.1]
      congr 1
      omega
    · rw [if_neg e, ← this.2]
      congr 1
      omega
  · rw [List.getElem?_eq_none (by rw [Array.length_toList, va_size]; omega), List.getElem?_eq_none (by rw [lkL_len]; omega)]
theorem own_lbR {w : World} {B t n cap g : Nat} {N : Nat → Int} {S : Nat → ByteArray} (h : w.ownsRow B t 2 (.slice (some ⟨g, 0, none⟩) n cap) n (lkL N S n)) : ∃ tl : Array Value, Blk w g t (lbC tl n N S) ∧ tl.size = (cap - n) * 2 ∧ n ≤ cap ∧ cap ≤ maxLen ∧ B ≤ g := by
  rcases h.2 with ⟨hv, _⟩ | ⟨g', cap', cur, hv, hB, hg, hn, hm, hs, ht⟩
  · cases hv
  · cases hv
    refine ⟨(cur.toList.drop (n * 2)).toArray, ?_, ?_, hn, hm, hB⟩
    · have e : lbC (cur.toList.drop (n * 2)).toArray n N S = cur := by
        apply Array.ext'
        unfold lbC
        rw [Array.toList_append, va_lbR, ← ht]
        simp
      rw [e]
      exact hg
    · simp
      rw [hs]
      omega

theorem lb_lkC {w : World} {g t n m : Nat} {N : Nat → Int} {S : Nat → ByteArray} {tl : Array Value} (h : Blk w g t (lbC tl n N S)) (hm : m ≤ n) : IsLkC w (some ⟨g, 0, none⟩) m N S := fun i hi => ⟨g, 0, rfl, h.lt, by rw [Nat.zero_add]; exact lb_c0 h i (by omega), by rw [Nat.zero_add]; exact lb_c1 h i (by omega)⟩
theorem own_lkC {w : World} {B t n cap g : Nat} {N : Nat → Int} {S : Nat → ByteArray} (h : w.ownsRow B t 2 (.slice (some ⟨g, 0, none⟩) n cap) n (lkL N S n)) : IsLkC w (some ⟨g, 0, none⟩) n N S := by
  obtain ⟨tl, h1, _⟩ := own_lbR h
  exact lb_lkC h1 (Nat.le_refl _)
theorem lkL_snoc (N : Nat → Int) (S : Nat → ByteArray) (n : Nat) (i : Int) (s : ByteArray) : lkR (liR N S n ++ [(i, s)]) = lkL (upN N n i) (upS S n s) (n + 1) := by
  rw [← liR_cells]
  congr 1
  unfold liR
  rw [List.range_succ, List.map_append]
  congr 1
  · refine List.map_congr_left fun q hq => ?_
    have := List.mem_range.1 hq
    unfold upN upS
    rw [if_neg (by omega), if_neg (by omega)]
  · simp [upN, upS]
end Go.Proofs.YtimjggkdpmgpjaaGreatDoor

namespace Go.Proofs.YtimjggkdpmgpjaaGreatDoor
open Go Go.RowKit Go.Nam
set_option linter.unusedSimpArgs false
set_option linter.unusedVariables false
set_option maxRecDepth 100000 in
set_option maxHeartbeats 8000000 in
theorem radd17_ok (a : Option Addr) (n c : Nat) (hn : n < 16384) (hN : a = none → n = 0 ∧ c = 0) (N : Nat → Int) (S : Nat → ByteArray) (i : Int) (s : ByteArray) (p : Nat) (hp : FirstN S n p s) (hpn : ¬ p < n) (hi : encE i s = 0) (w : World) (hI : IsLkC w a n N S) :
    Calls Tryz.prog 23 #[.slice a n c, lkV i s] w fun e w' => ∃ g5 c5 : Nat, e = .returned (.tuple #[.slice (some ⟨g5, 0, none⟩) (n + 1) c5, .int .i64 0]) ∧ IsLkC w' (some ⟨g5, 0, none⟩) (n + 1) (upN N n i) (upS S n s) ∧ w.heap.size ≤ g5 ∧ Below w.heap.size w w' := by
  obtain ⟨i0, hi0, hz0, hz1, hz2⟩ := info_parts infoRLk
  have HE : Hid (∀ w : World, Calls Tryz.prog 46 #[lkV i s] w fun e w' => e = .returned (.tuple #[.string (encT i s), .int .i64 0]) ∧ Below w.heap.size w w') := fun w => by
    have := rencode_any i s w
    rw [hi] at this
    exact this
  have HF : Hid (∀ W, Below w.heap.size w W → Calls Tryz.prog 47 #[.slice a n c, .string s] W fun e w' => e = .returned (.tuple #[.int .i64 0, .int .i64 (-1)]) ∧ w' = W) := fun W hW => by
    have := rfind17_any a n c p (by omega) N S s hp _ _ rfl rfl W (hI.below hW)
    rw [if_neg hpn, if_neg hpn] at this
    exact this
  have HII : Hid (IsLkC w a n N S) := hI
  have HNN : Hid (a = none → n = 0 ∧ c = 0) := hN
  have HBD : Hid (((liR N S n).length + [((i, s) : Lk)].length) * 24 ≤ 140737488355328) := by show _ ≤ _; rw [liR_len]; simp; omega
  have hl : (n : Int) < 16384 := by omega
  clear hI hN hp hpn hi
  generalize encT i s = ET at *
  unfold lkV at *
  have b0 : Blk (w.alloc (.cells #[.int .i64 i, .string s] 82)) w.heap.size 82 #[.int .i64 i, .string s] := Blk.new _ _ _
  have HB0 : Hid (Below w.heap.size w (w.alloc (.cells #[.int .i64 i, .string s] 82))) := below_new1 _ _
  have c0 : (w.alloc (.cells #[.int .i64 i, .string s] 82)).cell? ⟨w.heap.size, 0, none⟩ = some (.int .i64 i) := (b0.cell 0).trans rfl
  have c1 : (w.alloc (.cells #[.int .i64 i, .string s] 82)).cell? ⟨w.heap.size, 1, none⟩ = some (.string s) := (b0.cell 1).trans rfl
  go_enter Tryz.func23, Tryz.ntmps23
  go_wp2_with fail
  generalize (w.alloc (.cells #[.int .i64 i, .string s] 82)) = w0 at *
  refine (HE.out _).mono ?_
  rintro e W0 ⟨rfl, hb1⟩
  have HB1 : Hid (Below w.heap.size w W0) := HB0.out.trans (hb1.mono HB0.out.size)
  have b1 := b0.below hb1 b0.lt
  clear c0 c1 hb1 b0 HB0 HE
  have c1 : W0.cell? ⟨w.heap.size, 1, none⟩ = some (.string s) := (b1.cell 1).trans rfl
  have HB0 : Hid (Below w.heap.size w W0 ∧ Blk W0 w.heap.size 82 #[.int .i64 i, .string s]) := ⟨HB1.out, b1⟩
  have HBD0 : Hid (Below w.heap.size w W0.drew ∧ Blk W0.drew w.heap.size 82 #[.int .i64 i, .string s]) := ⟨HB1.out.drew, b1⟩
  have HIA : Hid (∀ U : World, Below W0.heap.size W0 U → IsLkC U a n N S) := fun U hU => (HII.out.below HB1.out).below hU
  have HF1 := HF.out W0 HB1.out
  clear HF b1
  go_wp2_with fail
  refine HF1.mono ?_
  rintro e w2 ⟨rfl, hw2⟩
  subst w2
  clear HF1 c1
  go_wp2_with fail
  refine wp_region_plan (fun U => Below w.heap.size w U ∧ Blk U w.heap.size 82 #[.int .i64 i, .string s]) (.yield [1] 3 (.fork 0 4 (.fork 2 4 (.force [] 4 (.force [] 5 (.fin [6, 7]))) (.force [] 2 (.force [] 5 (.fin [6, 7])))) (.force [] 0 (.force [] 2 (.force [] 5 (.fin [6, 7])))))) (by kernel_rfl) (by kernel_rfl) HBD0.out (plan_yield ?_)
  simp only [sgLHFiBT]
  go_wp2_with fail
  first
    | refine ⟨rfl, _, .agg #[.int .i64 i, .string s], rfl, Or.inl ⟨by rfl, fun U hU => by have c8 := (hU.2.cell 0).trans rfl; have c9 := (hU.2.cell 1).trans rfl; go_simp⟩, plan_fork ?_ ?_⟩
    | refine ⟨rfl, .agg #[.int .i64 i, .string s], Or.inl ⟨by rfl, fun U hU => by have c8 := (hU.2.cell 0).trans rfl; have c9 := (hU.2.cell 1).trans rfl; go_simp⟩, plan_fork ?_ ?_⟩
  · simp only [Act.put, sgPHFiBT]
    simp only [sgLHFiBT]
    have HEA : Hid (((W0.alloc (.cells #[] 82)).drew).ownsRow W0.heap.size 82 2 (.slice (some ⟨W0.heap.size, 0, none⟩) 0 0) 0 []) := (kown_empty (Blk.new W0 82 #[]) (Nat.le_refl _)).drew
    have HSA : Hid (Below W0.heap.size W0 ((W0.alloc (.cells #[] 82)).drew)) := ((Below.refl _ W0).alloc (Nat.le_refl _) _).drew
    have HBA : Hid (Below w.heap.size w ((W0.alloc (.cells #[] 82)).drew) ∧ Blk ((W0.alloc (.cells #[] 82)).drew) w.heap.size 82 #[.int .i64 i, .string s]) := ⟨HB0.out.1.trans ((HSA.out).mono HB0.out.1.size), HB0.out.2.below (HSA.out) HB0.out.2.lt⟩
    go_wp2_with fail
    refine ⟨rfl, HBA.out, plan_fork ?_ ?_⟩
    · simp only [sgLHFiBT]
      have HE0 : Hid _ := HEA.out
      have HS1 : Hid _ := HSA.out
      refine wpList_append_links2 rfl _ _ 78 rfl W0.heap.size 82 i0 (.agg #[.int .i64 0, .string ⟨#[]⟩]) Tryz.underlying78 hi0 hz0 hz1 hz2 rfl (.slice (some ⟨W0.heap.size, 0, none⟩) 0 0) rfl HE0.out a n c N S rfl (HIA.out _ HS1.out) HNN.out (by omega) HS1.out.size ?_
      intro v2 U2 ho2 hb2 hg2
      obtain ⟨q2, c2, rfl⟩ := kown_slice ho2
      have HO2 : Hid (U2.ownsRow W0.heap.size 82 2 (.slice q2 n c2) n (lkR (liR N S n))) := by rw [liR_cells]; exact ho2
      have HS2 : Hid (Below W0.heap.size W0 U2) := HS1.out.trans (hb2.mono (Nat.le_refl _))
      have HB2 : Hid (Below w.heap.size w U2 ∧ Blk U2 w.heap.size 82 #[.int .i64 i, .string s]) := ⟨HB0.out.1.trans ((HS2.out).mono HB0.out.1.size), HB0.out.2.below (HS2.out) HB0.out.2.lt⟩
      clear ho2 hb2 hg2
      go_wp2_with fail
      refine ⟨rfl, HB2.out, plan_force ?_⟩
      simp only [sgLHFiBT]
      have HX4 : Hid (IsR (U2.alloc (.cells #[.int .i64 i, .string s] 82)) U2.heap.size 0 [(i, s)]) := fun j u hu => by
        have := cells_new2L U2 (.int .i64 i) (.string s) 82 j u hu
        rwa [Addr.add_mid] at this
      have HO2' : Hid ((U2.alloc (.cells #[.int .i64 i, .string s] 82)).ownsRow W0.heap.size 82 2 (.slice q2 n c2) n (lkR (liR N S n))) := HO2.out.alloc _
      have HS2' : Hid (Below W0.heap.size W0 (U2.alloc (.cells #[.int .i64 i, .string s] 82))) := HS2.out.alloc HS2.out.size _
      have HB2' : Hid (Below w.heap.size w (U2.alloc (.cells #[.int .i64 i, .string s] 82)) ∧ Blk (U2.alloc (.cells #[.int .i64 i, .string s] 82)) w.heap.size 82 #[.int .i64 i, .string s]) := ⟨HB0.out.1.trans ((HS2'.out).mono HB0.out.1.size), HB0.out.2.below (HS2'.out) HB0.out.2.lt⟩
      go_wp2_with fail
      refine ⟨rfl, HB2'.out, plan_force ?_⟩
      simp only [sgLHFiBT]
      clear HO2 HS2 HB2
      have HO2 : Hid _ := HO2'.out
      have HS2 : Hid _ := HS2'.out
      refine wpList_append_lks rfl _ _ 78 rfl W0.heap.size 82 i0 (.agg #[.int .i64 0, .string ⟨#[]⟩]) Tryz.underlying78 hi0 hz0 hz1 hz2 rfl (.slice q2 n c2) (liR N S n) n (liR_len N S n).symm rfl HO2.out U2.heap.size 0 1 1 [(i, s)] rfl rfl HX4.out HBD.out HS2.out.size ?_
      intro v5 U5 ho5 hb5 hg5
      have HS5 : Hid (Below W0.heap.size W0 U5) := HS2.out.trans (hb5.mono (Nat.le_refl _))
      have HB5 : Hid (Below w.heap.size w U5 ∧ Blk U5 w.heap.size 82 #[.int .i64 i, .string s]) := ⟨HB0.out.1.trans ((HS5.out).mono HB0.out.1.size), HB0.out.2.below (HS5.out) HB0.out.2.lt⟩
      obtain ⟨g5, c5, rfl, _⟩ := kown_form ho5 (by omega)
      rw [lkL_snoc] at ho5
      have HI5 : Hid (IsLkC U5 (some ⟨g5, 0, none⟩) (n + 1) (upN N n i) (upS S n s)) := own_lkC ho5
      have HGE : Hid (w.heap.size ≤ g5) := by
        obtain ⟨_, _, _, _, _, hBg⟩ := own_lbR ho5
        exact Nat.le_trans HB0.out.1.size hBg
      clear ho5 hb5 hg5
      go_wp2_with fail
      refine ⟨rfl, HB5.out, plan_fin ?_⟩
      simp only [sgLHFiBT]
      go_wp2_with fail
      refine ⟨rfl, ?_⟩
      go_wp2_with fail
      go_ret2
      exact ⟨g5, c5, rfl, HI5.out, HGE.out, HB5.out.1⟩
    · simp only [sgLHFiBT]
      have HX9 : Hid (IsR (((W0.alloc (.cells #[] 82)).alloc (.cells #[.int .i64 i, .string s] 82)).drew) (W0.heap.size + 1) 0 [(i, s)]) := fun j u hu => by
        have := cells_new2L (W0.alloc (.cells #[] 82)) (.int .i64 i) (.string s) 82 j u hu
        rw [Addr.add_mid] at this
        simpa using this
      have HE0 : Hid ((((W0.alloc (.cells #[] 82)).alloc (.cells #[.int .i64 i, .string s] 82)).drew).ownsRow W0.heap.size 82 2 (.slice (some ⟨W0.heap.size, 0, none⟩) 0 0) 0 []) := ((kown_empty (Blk.new W0 82 #[]) (Nat.le_refl _)).alloc _).drew
      have HS1 : Hid (Below W0.heap.size W0 (((W0.alloc (.cells #[] 82)).alloc (.cells #[.int .i64 i, .string s] 82)).drew)) := (((Below.refl _ W0).alloc (Nat.le_refl _) _).alloc (by simp) _).drew
      have HBS1 : Hid (Below w.heap.size w (((W0.alloc (.cells #[] 82)).alloc (.cells #[.int .i64 i, .string s] 82)).drew) ∧ Blk (((W0.alloc (.cells #[] 82)).alloc (.cells #[.int .i64 i, .string s] 82)).drew) w.heap.size 82 #[.int .i64 i, .string s]) := ⟨HB0.out.1.trans ((HS1.out).mono HB0.out.1.size), HB0.out.2.below (HS1.out) HB0.out.2.lt⟩
      go_wp2_with fail
      refine ⟨rfl, HBS1.out, plan_force ?_⟩
      simp only [sgLHFiBT]
      refine wpList_append_links2 rfl _ _ 78 rfl W0.heap.size 82 i0 (.agg #[.int .i64 0, .string ⟨#[]⟩]) Tryz.underlying78 hi0 hz0 hz1 hz2 rfl (.slice (some ⟨W0.heap.size, 0, none⟩) 0 0) rfl HE0.out a n c N S rfl (HIA.out _ HS1.out) HNN.out (by omega) HS1.out.size ?_
      intro v2 U2 ho2 hb2 hg2
      obtain ⟨q2, c2, rfl⟩ := kown_slice ho2
      have HO2 : Hid (U2.ownsRow W0.heap.size 82 2 (.slice q2 n c2) n (lkR (liR N S n))) := by rw [liR_cells]; exact ho2
      have HS2 : Hid (Below W0.heap.size W0 U2) := HS1.out.trans (hb2.mono (Nat.le_refl _))
      have HB2 : Hid (Below w.heap.size w U2 ∧ Blk U2 w.heap.size 82 #[.int .i64 i, .string s]) := ⟨HB0.out.1.trans ((HS2.out).mono HB0.out.1.size), HB0.out.2.below (HS2.out) HB0.out.2.lt⟩
      have HX4 : Hid (IsR U2 (W0.heap.size + 1) 0 [(i, s)]) := fun j u hu => hg2.cell (HX9.out j u hu) (by simp [Value.ownBlock])
      clear ho2 hb2 hg2
      go_wp2_with fail
      refine ⟨rfl, HB2.out, plan_force ?_⟩
      simp only [sgLHFiBT]
      refine wpList_append_lks rfl _ _ 78 rfl W0.heap.size 82 i0 (.agg #[.int .i64 0, .string ⟨#[]⟩]) Tryz.underlying78 hi0 hz0 hz1 hz2 rfl (.slice q2 n c2) (liR N S n) n (liR_len N S n).symm rfl HO2.out (W0.heap.size + 1) 0 1 1 [(i, s)] rfl rfl HX4.out HBD.out HS2.out.size ?_
      intro v5 U5 ho5 hb5 hg5
      have HS5 : Hid (Below W0.heap.size W0 U5) := HS2.out.trans (hb5.mono (Nat.le_refl _))
      have HB5 : Hid (Below w.heap.size w U5 ∧ Blk U5 w.heap.size 82 #[.int .i64 i, .string s]) := ⟨HB0.out.1.trans ((HS5.out).mono HB0.out.1.size), HB0.out.2.below (HS5.out) HB0.out.2.lt⟩
      obtain ⟨g5, c5, rfl, _⟩ := kown_form ho5 (by omega)
      rw [lkL_snoc] at ho5
      have HI5 : Hid (IsLkC U5 (some ⟨g5, 0, none⟩) (n + 1) (upN N n i) (upS S n s)) := own_lkC ho5
      have HGE : Hid (w.heap.size ≤ g5) := by
        obtain ⟨_, _, _, _, _, hBg⟩ := own_lbR ho5
        exact Nat.le_trans HB0.out.1.size hBg
      clear ho5 hb5 hg5
      go_wp2_with fail
      refine ⟨rfl, HB5.out, plan_fin ?_⟩
      simp only [sgLHFiBT]
      go_wp2_with fail
      refine ⟨rfl, ?_⟩
      go_wp2_with fail
      go_ret2
      exact ⟨g5, c5, rfl, HI5.out, HGE.out, HB5.out.1⟩
  · simp only [Act.put, sgPHFiBT]
    simp only [sgLHFiBT]
    have HSB : Hid (Below W0.heap.size W0 ((W0.alloc (.cells #[.int .i64 i, .string s] 82)).drew)) := ((Below.refl _ W0).alloc (Nat.le_refl _) _).drew
    have HBB : Hid (Below w.heap.size w ((W0.alloc (.cells #[.int .i64 i, .string s] 82)).drew) ∧ Blk ((W0.alloc (.cells #[.int .i64 i, .string s] 82)).drew) w.heap.size 82 #[.int .i64 i, .string s]) := ⟨HB0.out.1.trans ((HSB.out).mono HB0.out.1.size), HB0.out.2.below (HSB.out) HB0.out.2.lt⟩
    go_wp2_with fail
    refine ⟨rfl, HBB.out, plan_force ?_⟩
    simp only [sgLHFiBT]
    have HX9 : Hid (IsR (((W0.alloc (.cells #[.int .i64 i, .string s] 82)).alloc (.cells #[] 82)).drew) W0.heap.size 0 [(i, s)]) := fun j u hu => by
      have h1 := cells_new2L W0 (.int .i64 i) (.string s) 82 j u hu
      rw [Addr.add_mid] at h1
      exact (((Below.refl _ (W0.alloc (.cells #[.int .i64 i, .string s] 82))).alloc (Nat.le_refl _) (.cells #[] 82)).cell (p := ⟨W0.heap.size, 0 + j, none⟩) (by simp)).trans h1
    have HE0 : Hid ((((W0.alloc (.cells #[.int .i64 i, .string s] 82)).alloc (.cells #[] 82)).drew).ownsRow W0.heap.size 82 2 (.slice (some ⟨W0.heap.size + 1, 0, none⟩) 0 0) 0 []) := by
      have := (kown_empty (size := 2) (B := W0.heap.size) (Blk.new (W0.alloc (.cells #[.int .i64 i, .string s] 82)) 82 #[]) (by simp)).drew
      show World.ownsRow _ _ _ _ _ _ _
      simpa using this
    have HS1 : Hid (Below W0.heap.size W0 (((W0.alloc (.cells #[.int .i64 i, .string s] 82)).alloc (.cells #[] 82)).drew)) := (((Below.refl _ W0).alloc (Nat.le_refl _) _).alloc (by simp) _).drew
    have HBS1 : Hid (Below w.heap.size w (((W0.alloc (.cells #[.int .i64 i, .string s] 82)).alloc (.cells #[] 82)).drew) ∧ Blk (((W0.alloc (.cells #[.int .i64 i, .string s] 82)).alloc (.cells #[] 82)).drew) w.heap.size 82 #[.int .i64 i, .string s]) := ⟨HB0.out.1.trans ((HS1.out).mono HB0.out.1.size), HB0.out.2.below (HS1.out) HB0.out.2.lt⟩
    go_wp2_with fail
    refine ⟨rfl, HBS1.out, plan_force ?_⟩
    simp only [sgLHFiBT]
    refine wpList_append_links2 rfl _ _ 78 rfl W0.heap.size 82 i0 (.agg #[.int .i64 0, .string ⟨#[]⟩]) Tryz.underlying78 hi0 hz0 hz1 hz2 rfl (.slice (some ⟨(W0.heap.size + 1), 0, none⟩) 0 0) rfl HE0.out a n c N S rfl (HIA.out _ HS1.out) HNN.out (by omega) HS1.out.size ?_
    intro v2 U2 ho2 hb2 hg2
    obtain ⟨q2, c2, rfl⟩ := kown_slice ho2
    have HO2 : Hid (U2.ownsRow W0.heap.size 82 2 (.slice q2 n c2) n (lkR (liR N S n))) := by rw [liR_cells]; exact ho2
    have HS2 : Hid (Below W0.heap.size W0 U2) := HS1.out.trans (hb2.mono (Nat.le_refl _))
    have HB2 : Hid (Below w.heap.size w U2 ∧ Blk U2 w.heap.size 82 #[.int .i64 i, .string s]) := ⟨HB0.out.1.trans ((HS2.out).mono HB0.out.1.size), HB0.out.2.below (HS2.out) HB0.out.2.lt⟩
    have HX4 : Hid (IsR U2 W0.heap.size 0 [(i, s)]) := fun j u hu => hg2.cell (HX9.out j u hu) (by simp [Value.ownBlock])
    clear ho2 hb2 hg2
    go_wp2_with fail
    refine ⟨rfl, HB2.out, plan_force ?_⟩
    simp only [sgLHFiBT]
    refine wpList_append_lks rfl _ _ 78 rfl W0.heap.size 82 i0 (.agg #[.int .i64 0, .string ⟨#[]⟩]) Tryz.underlying78 hi0 hz0 hz1 hz2 rfl (.slice q2 n c2) (liR N S n) n (liR_len N S n).symm rfl HO2.out W0.heap.size 0 1 1 [(i, s)] rfl rfl HX4.out HBD.out HS2.out.size ?_
    intro v5 U5 ho5 hb5 hg5
    have HS5 : Hid (Below W0.heap.size W0 U5) := HS2.out.trans (hb5.mono (Nat.le_refl _))
    have HB5 : Hid (Below w.heap.size w U5 ∧ Blk U5 w.heap.size 82 #[.int .i64 i, .string s]) := ⟨HB0.out.1.trans ((HS5.out).mono HB0.out.1.size), HB0.out.2.below (HS5.out) HB0.out.2.lt⟩
    obtain ⟨g5, c5, rfl, _⟩ := kown_form ho5 (by omega)
    rw [lkL_snoc] at ho5
    have HI5 : Hid (IsLkC U5 (some ⟨g5, 0, none⟩) (n + 1) (upN N n i) (upS S n s)) := own_lkC ho5
    have HGE : Hid (w.heap.size ≤ g5) := by
      obtain ⟨_, _, _, _, _, hBg⟩ := own_lbR ho5
      exact Nat.le_trans HB0.out.1.size hBg
    clear ho5 hb5 hg5
    go_wp2_with fail
    refine ⟨rfl, HB5.out, plan_fin ?_⟩
    simp only [sgLHFiBT]
    go_wp2_with fail
    refine ⟨rfl, ?_⟩
    go_wp2_with fail
    go_ret2
    exact ⟨g5, c5, rfl, HI5.out, HGE.out, HB5.out.1⟩
end Go.Proofs.YtimjggkdpmgpjaaGreatDoor

namespace Go.Proofs.YtimjggkdpmgpjaaGreatDoor
open Go Go.RowKit Go.Nam
set_option linter.unusedSimpArgs false
set_option linter.unusedVariables false
set_option maxRecDepth 100000
theorem lkc_turn {T : Nat → Prop} {w w' : World} {a : Option Addr} {n : Nat} {N : Nat → Int} {S : Nat → ByteArray} (h : IsLkC w a n N S) (ht : Turns T w w') (hn : ∀ b o, a = some ⟨b, o, none⟩ → ¬ T b) : IsLkC w' a n N S := fun i hi => by
  obtain ⟨b, o, h1, h2, h3, h4⟩ := h i hi
  have e := ht.block b h2 (hn b o h1)
  have hz := ht.size
  exact ⟨b, o, h1, by omega, (World.cell?_of_block (w := w) e).trans h3, (World.cell?_of_block (w := w) e).trans h4⟩
/-- one more directory, empty -/
def Fo.dir (F : Fo) (n : Nat) : Fo := ⟨fun m => if m = n then true else F.dr m, fun m => if m = n then 0 else F.K m, F.N, F.S⟩
/-- one more entry -/
def Fo.more (F : Fo) (d : Nat) (i : Int) (s : ByteArray) : Fo := ⟨F.dr, fun m => if m = d then F.K d + 1 else F.K m, fun m => if m = d then upN (F.N d) (F.K d) i else F.N m, fun m => if m = d then upS (F.S d) (F.K d) s else F.S m⟩
/-- the inodes; e: a directory that the map has not yet -/
structure BI (w : World) (B0 x mf ml mc : Nat) (cp : Option Addr) (all : Nat) (F : Fo) (e : Nat) : Prop where
  im : ∃ H D, IM w x mf ml mc cp (all : Int) H D ∧ (∀ n, F.dr n = true → Di H D n (F.K n) 1 (F.N n) (F.S n)) ∧ (∀ n, 1 ≤ n → n ≤ all → F.dr n = false → n ≠ e → (H n).k = 1 ∧ (H n).n = (n : Int)) ∧ (∀ n, all < n → H n = hd00 ∧ ∀ q i, D n q i = 0) ∧ (e ≠ 0 → ∀ N S, Di H D e 0 1 N S)
  ee : e ≠ 0 → F.dr e = false ∧ 1 ≤ e ∧ e ≤ all
  lt : B0 ≤ x ∧ B0 ≤ mf ∧ B0 ≤ ml ∧ B0 ≤ mc
  d1 : F.dr 1 = true
  dm : ∀ n, F.dr n = true → 1 ≤ n ∧ n ≤ all
  en : ∀ n, F.dr n = true → ∀ p, p < F.K n → 1 ≤ F.N n p ∧ F.N n p ≤ (all : Int)
  al : 1 ≤ all ∧ all ≤ 31
def lkT (p : Option Addr × Nat × Nat) : Value := .slice p.1 p.2.1 p.2.2
/-- what the map has of a directory -/
def LkIs (w : World) (r : Nat) (F : Fo) (n : Nat) (t : Option Addr × Nat × Nat) : Prop := t.2.1 = F.K n ∧ IsLkC w t.1 (F.K n) (F.N n) (F.S n) ∧ (t.1 = none → F.K n = 0 ∧ t.2.2 = 0) ∧ ∀ b o k, t.1 = some ⟨b, o, k⟩ → r < b
/-- the map -/
def BM (w : World) (r : Nat) (F : Fo) : Prop := ∃ (l : List (Int × (Option Addr × Nat × Nat))) (L : Nat → Option Addr × Nat × Nat), MapIs jK lkT w r l ∧ (∀ m : Nat, findIn (m : Int) l = if F.dr m = true then some (L m) else none) ∧ ∀ n, F.dr n = true → LkIs w r F n (L n)
section
variable {w w' : World} {B0 x mf ml mc r all e : Nat} {cp : Option Addr} {F : Fo}
theorem BI.below (h : BI w B0 x mf ml mc cp all F e) (hb : Below w.heap.size w w') : BI w' B0 x mf ml mc cp all F e := by
  obtain ⟨H, D, h1, h2⟩ := h.im
  exact ⟨⟨H, D, h1.below hb, h2⟩, h.ee, h.lt, h.d1, h.dm, h.en, h.al⟩
theorem BI.turn {T : Nat → Prop} (h : BI w B0 x mf ml mc cp all F e) (ht : Turns T w w') (hT : ¬ T x ∧ ¬ T mf ∧ ¬ T ml ∧ ¬ T mc) : BI w' B0 x mf ml mc cp all F e := by
  obtain ⟨H, D, h1, h2⟩ := h.im
  have hl := h1.lts
  exact ⟨⟨H, D, h1.keep (ht.block _ hl.1 hT.1) (ht.block _ hl.2.1 hT.2.1) (ht.block _ hl.2.2.1 hT.2.2.1) (ht.block _ hl.2.2.2 hT.2.2.2), h2⟩, h.ee, h.lt, h.d1, h.dm, h.en, h.al⟩
theorem LkIs.turn {T : Nat → Prop} {n : Nat} {t : Option Addr × Nat × Nat} (h : LkIs w r F n t) (ht : Turns T w w') (hT : ∀ b, T b → b ≤ r) : LkIs w' r F n t :=
  ⟨h.1, lkc_turn h.2.1 ht (fun b o e hb => by have := h.2.2.2 b o none e; have := hT b hb; omega), h.2.2.1, h.2.2.2⟩
theorem BM.lt (h : BM w r F) : r < w.heap.size := by
  obtain ⟨l, L, h1, _⟩ := h
  exact h1.lt
theorem BM.turn {T : Nat → Prop} (h : BM w r F) (ht : Turns T w w') (hT : ∀ b, T b → b < r) : BM w' r F := by
  obtain ⟨l, L, h1, h2, h3⟩ := h
  exact ⟨l, L, h1.of (ht.block r h1.lt fun c => by have := hT r c; omega), h2, fun n hn => (h3 n hn).turn ht fun b hb => Nat.le_of_lt (hT b hb)⟩
theorem BM.below (h : BM w r F) (hb : Below w.heap.size w w') : BM w' r F := h.turn (T := fun _ => False) (Turns.of_below hb) (fun b hb => hb.elim)
/-- a new inode's number -/
theorem BI.makeAny (h : BI w B0 x mf ml mc cp all F 0) (ha : all ≤ 30) (kd : Int) (hkd : kd = 1 ∨ kd = 2) : Calls Tryz.prog 22 #[.pointer (some ⟨x, 0, none⟩), .int .i64 kd, .int .u64 1] w fun e w' => e = .returned (.tuple #[.int .i64 ((all + 1 : Nat) : Int), .int .i64 0]) ∧ BI w' B0 x mf ml mc cp (all + 1) F (if kd = 2 then all + 1 else 0) ∧ Turns (fun z => z = x ∨ z = mf) w w' := by
  obtain ⟨H, D, hI, hd, hf, hn, _⟩ := h.im
  have hal := h.al
  have hnew := hn (all + 1) (by omega)
  have hused : ∀ m, 1 ≤ m → m < all + 1 → (H m).k ≠ 0 := fun m h1 h2 => by
    cases hm : F.dr m with
    | true => rw [(hd m hm).kd]; decide
    | false => rw [(hf m h1 (by omega) hm (by omega)).1]; decide
  refine (hI.make (all + 1) (by omega) (by omega) (by rw [hnew.1]; rfl) hused kd hkd 1 ⟨by omega, by omega⟩).mono ?_
  rintro e w' ⟨rfl, hI', ht⟩
  rw [Int.max_eq_right (by omega)] at hI'
  have hAt : hU H (all + 1) (hdN (H (all + 1)) ((all + 1 : Nat) : Int) kd 1 0 1) (all + 1) = hdN hd00 ((all + 1 : Nat) : Int) kd 1 0 1 := by
    rw [hUat, hnew.1]
  have hfar : ∀ n, F.dr n = true → n ≠ all + 1 := fun n hn => by have := h.dm n hn; omega
  refine ⟨rfl, ⟨⟨_, D, hI', fun n hn' => (hd n hn').same (hUnot _ _ _ _ (hfar n hn')) rfl, fun n h1 h2 h3 h4 => ?_, fun n h1 => ⟨?_, (hn n (by omega)).2⟩, fun he N S => ?_⟩, fun he => ?_, h.lt, h.d1, fun n hn' => ?_, fun n hn' p hp => ?_, by omega, by omega⟩, ht⟩
  · by_cases c : n = all + 1
    · subst c
      rw [hAt]
      rcases hkd with rfl | rfl
      · exact ⟨rfl, rfl⟩
      · rw [if_pos rfl] at h4
        exact absurd rfl h4
    · rw [hUnot _ _ _ _ c]
      exact hf n h1 (by omega) h3 (by omega)
  · rw [hUnot _ _ _ _ (by omega)]
    exact (hn n (by omega)).1
  · rcases hkd with rfl | rfl
    · rw [if_neg (by decide)] at he
      exact absurd rfl he
    · rw [if_pos rfl]
      refine ⟨by omega, by omega, ?_, ?_, ?_, ?_, ?_, by decide, fun p hp => absurd hp (Nat.not_lt_zero _), fun q i hi => ?_⟩
      · rw [hAt]; rfl
      · rw [hAt]; rfl
      · rw [hAt]; rfl
      · rw [hAt]; rfl
      · rw [hAt]; rfl
      · rw [hnew.2, show inLf 0 q = 0 by unfold inLf; omega]
        rfl
  · rcases hkd with rfl | rfl
    · rw [if_neg (by decide)] at he
      exact absurd rfl he
    · rw [if_pos rfl]
      refine ⟨?_, by omega, by omega⟩
      cases hc : F.dr (all + 1) with
      | true => have := h.dm _ hc; omega
      | false => rfl
  · have := h.dm n hn'
    omega
  · have := h.en n hn' p hp
    omega
theorem lkT_zero (w : World) : (zeroValue 78).run Tryz.prog w = .ok (.slice none 0 0) w := di_zero (by kernel_rfl) w
/-- a look-up -/
theorem BM.look (h : BM w r F) (m : Nat) : ∃ t : Option Addr × Nat × Nat, (F.dr m = true → LkIs w r F m t) ∧ (Instr.lookup 25 (.map (some r)) (.int .i64 (m : Int)) true).run Tryz.prog w = .ok (.tuple #[.slice t.1 t.2.1 t.2.2, .bool (F.dr m)]) w := by
  obtain ⟨l, L, h1, h2, h3⟩ := h
  have := intMap_look (V := lkT) Tryz.underlying25 Tryz.underlying3 lkT_zero h1 (m : Int) true
  rw [if_pos rfl, h2 m] at this
  cases hm : F.dr m with
  | true =>
    rw [hm, if_pos rfl] at this
    exact ⟨L m, fun _ => h3 m hm, this⟩
  | false =>
    rw [hm, if_neg (by decide)] at this
    exact ⟨(none, 0, 0), fun hc => absurd hc (by decide), this⟩
/-- a list stored -/
theorem BM.put {F2 : Fo} (h : BM w r F) (n : Nat) (t : Option Addr × Nat × Nat) (ht : LkIs w r F2 n t) (hdr : ∀ m, F2.dr m = if m = n then true else F.dr m) (ho : ∀ m, m ≠ n → F2.K m = F.K m ∧ F2.N m = F.N m ∧ F2.S m = F.S m) : ∃ w', (Instr.mapUpdate 25 (.map (some r)) (.int .i64 (n : Int)) (.slice t.1 t.2.1 t.2.2)).run Tryz.prog w = .ok () w' ∧ BM w' r F2 ∧ Turns (fun z => z = r) w w' := by
  obtain ⟨l, L, h1, h2, h3⟩ := h
  obtain ⟨w', l', g1, g2, g3, _, _, _, g4⟩ := intMap_put (V := lkT) Tryz.underlying25 Tryz.underlying3 h1 (n : Int) t
  refine ⟨w', g1, ⟨l', fun m => if m = n then t else L m, g2, fun m => ?_, fun m hm => ?_⟩, g4⟩
  · rw [g3, hdr m]
    by_cases c : m = n
    · subst c
      simp
    · rw [if_neg (by omega), if_neg c, h2 m]
      show (if F.dr m = true then some (L m) else none) = (if F.dr m = true then some (if m = n then t else L m) else none)
      rw [if_neg c]
  · show LkIs w' r F2 m (if m = n then t else L m)
    by_cases c : m = n
    · subst c
      rw [if_pos rfl]
      exact ht.turn g4 fun b hb => by omega
    · rw [if_neg c]
      have hm' : F.dr m = true := by rw [hdr m, if_neg c] at hm; exact hm
      obtain ⟨k1, k2, k3, k4⟩ := (h3 m hm').turn g4 fun b hb => by omega
      obtain ⟨o1, o2, o3⟩ := ho m c
      unfold LkIs
      rw [o1, o2, o3]
      exact ⟨k1, k2, k3, k4⟩
/-- the new directory's empty list, in the map -/
theorem BI.dirNew (h : BI w B0 x mf ml mc cp all F e) (he : e ≠ 0) : BI w B0 x mf ml mc cp all (F.dir e) 0 := by
  obtain ⟨H, D, hI, hd, hf, hn, hE⟩ := h.im
  obtain ⟨e1, e2, e3⟩ := h.ee he
  have hne : ∀ n, n ≠ e → (F.dir e).dr n = F.dr n := fun n c => by simp [Fo.dir, c]
  refine ⟨⟨H, D, hI, fun n hn' => ?_, fun n h1 h2 h3 _ => ?_, hn, fun c => absurd rfl c⟩, fun c => absurd rfl c, h.lt, ?_, fun n hn' => ?_, fun n hn' p hp => ?_, h.al⟩
  · by_cases c : n = e
    · subst c
      have : (F.dir n).K n = 0 := by simp [Fo.dir]
      rw [this]
      exact hE he _ _
    · rw [hne n c] at hn'
      have : (F.dir e).K n = F.K n := by simp [Fo.dir, c]
      rw [this]
      exact hd n hn'
  · have c : n ≠ e := fun c => by subst c; simp [Fo.dir] at h3
    rw [hne n c] at h3
    exact hf n h1 h2 h3 c
  · rw [hne 1 (fun c => by rw [← c, h.d1] at e1; cases e1)]
    exact h.d1
  · by_cases c : n = e
    · omega
    · rw [hne n c] at hn'
      exact h.dm n hn'
  · by_cases c : n = e
    · subst c
      have : (F.dir n).K n = 0 := by simp [Fo.dir]
      omega
    · rw [hne n c] at hn'
      have : (F.dir e).K n = F.K n := by simp [Fo.dir, c]
      rw [this] at hp
      exact h.en n hn' p hp
theorem BM.dirNew (h : BM w r F) (n g : Nat) (hg : r < g) (c : Nat) : ∃ w', (Instr.mapUpdate 25 (.map (some r)) (.int .i64 (n : Int)) (.slice (some ⟨g, 0, none⟩) 0 c)).run Tryz.prog w = .ok () w' ∧ BM w' r (F.dir n) ∧ Turns (fun z => z = r) w w' := by
  refine h.put (F2 := F.dir n) n (some ⟨g, 0, none⟩, 0, c) ⟨by simp [Fo.dir], fun i hi => ?_, (fun q => by cases q), fun b o k q => ?_⟩ (fun m => rfl) (fun m hm => ⟨by simp [Fo.dir, hm], rfl, rfl⟩)
  · have : (F.dir n).K n = 0 := by simp [Fo.dir]
    omega
  · injection q with q
    injection q with q _ _
    omega
/-- what Add answers of a list -/
noncomputable def adE (F : Fo) (d : Nat) (i : Int) (s : ByteArray) : Int := if encE i s ≠ 0 then encE i s else if fiN (F.S d) (F.K d) s < F.K d then 172 else if 16384 ≤ F.K d then 173 else 0
noncomputable def adF (F : Fo) (d : Nat) (i : Int) (s : ByteArray) : Fo := if adE F d i s = 0 then F.more d i s else F
theorem adE_ne (F : Fo) (d : Nat) (i : Int) (s : ByteArray) : adE F d i s ≠ 0 ↔ (encE i s ≠ 0 ∨ fiN (F.S d) (F.K d) s < F.K d ∨ 16384 ≤ F.K d) := by
  unfold adE
  by_cases h1 : encE i s ≠ 0
  · rw [if_pos h1]; exact ⟨fun _ => .inl h1, fun _ => h1⟩
  · rw [if_neg h1]
    by_cases h2 : fiN (F.S d) (F.K d) s < F.K d
    · rw [if_pos h2]; exact ⟨fun _ => .inr (.inl h2), fun _ => by decide⟩
    · rw [if_neg h2]
      by_cases h3 : 16384 ≤ F.K d
      · rw [if_pos h3]; exact ⟨fun _ => .inr (.inr h3), fun _ => by decide⟩
      · rw [if_neg h3]
        exact ⟨fun c => absurd rfl c, fun c => by rcases c with c | c | c; exact absurd c h1; exact absurd c h2; exact absurd c h3⟩
theorem adF_dr (F : Fo) (d : Nat) (i : Int) (s : ByteArray) : (adF F d i s).dr = F.dr := by
  unfold adF
  split <;> rfl
/-- the document's Add -/
theorem LkIs.radd {d : Nat} {t : Option Addr × Nat × Nat} (h : LkIs w r F d t) (hr : r < w.heap.size) (hk : F.K d ≤ 16384) (i : Int) (s : ByteArray) : Calls Tryz.prog 23 #[.slice t.1 t.2.1 t.2.2, lkV i s] w fun e w' => ∃ t2 : Option Addr × Nat × Nat, e = .returned (.tuple #[.slice t2.1 t2.2.1 t2.2.2, .int .i64 (adE F d i s)]) ∧ LkIs w' r (adF F d i s) d t2 ∧ Below w.heap.size w w' := by
  obtain ⟨a, n, c⟩ := t
  obtain ⟨h1, h2, h3, h4⟩ := h
  have h1' : n = F.K d := h1
  subst h1'
  have hp := fiN_is (F.S d) (F.K d) s
  by_cases hc : encE i s ≠ 0 ∨ fiN (F.S d) (F.K d) s < F.K d ∨ 16384 ≤ F.K d
  · have hne := (adE_ne F d i s).2 hc
    refine (radd17_no a (F.K d) c (by omega) (F.N d) (F.S d) i s _ hp (adE F d i s) (by
      unfold adE
      by_cases e1 : encE i s ≠ 0
      · rw [if_pos e1, if_pos e1]
      · rw [if_neg e1, if_neg e1]
        by_cases e2 : fiN (F.S d) (F.K d) s < F.K d
        · rw [if_pos e2, if_pos e2]
        · rw [if_neg e2, if_neg e2, if_pos (by rcases hc with c | c | c; exact absurd c e1; exact absurd c e2; exact c)]) hc w h2).mono ?_
    rintro e w' ⟨rfl, hb⟩
    refine ⟨(a, F.K d, c), rfl, ?_, hb⟩
    unfold adF
    rw [if_neg hne]
    exact ⟨rfl, h2.below hb, h3, h4⟩
  · have h0 : adE F d i s = 0 := Classical.byContradiction fun q => hc ((adE_ne F d i s).1 q)
    have e1 : encE i s = 0 := Classical.byContradiction fun q => hc (.inl q)
    have e2 : ¬ fiN (F.S d) (F.K d) s < F.K d := fun q => hc (.inr (.inl q))
    have e3 : F.K d < 16384 := by
      have : ¬ 16384 ≤ F.K d := fun q => hc (.inr (.inr q))
      omega
    refine (radd17_ok a (F.K d) c e3 h3 (F.N d) (F.S d) i s _ hp e2 e1 w h2).mono ?_
    rintro e w' ⟨g5, c5, rfl, hL, hg, hb⟩
    rw [h0]
    refine ⟨(some ⟨g5, 0, none⟩, F.K d + 1, c5), rfl, ?_, hb⟩
    unfold adF
    rw [if_pos h0]
    refine ⟨by simp [Fo.more], ?_, fun q => (by cases q), fun b o k q => ?_⟩
    · simpa [Fo.more] using hL
    · injection q with q
      injection q with q _ _
      omega
/-- dir.Add -/
theorem BI.add (h : BI w B0 x mf ml mc cp all F 0) (d : Nat) (hd : F.dr d = true) (i : Int) (s : ByteArray) (hi : 1 ≤ i ∧ i ≤ (all : Int)) : Calls Tryz.prog 24 #[.pointer (some ⟨x, 0, none⟩), .int .i64 (d : Int), .agg #[.int .i64 i, .string s], .int .u64 1] w fun e w' => e = .returned (.int .i64 (adE F d i s)) ∧ BI w' B0 x mf ml mc cp all (adF F d i s) 0 ∧ Turns (fun z => z = ml ∨ z = mf) w w' := by
  obtain ⟨H, D, hI, hdd, hf, hn, hE⟩ := h.im
  have hD := hdd d hd
  have hle := hD.le
  have hp := fiN_is (F.S d) (F.K d) s
  by_cases hc : encE i s ≠ 0 ∨ fiN (F.S d) (F.K d) s < F.K d ∨ 16384 ≤ F.K d
  · have hne := (adE_ne F d i s).2 hc
    have hF : adF F d i s = F := by unfold adF; rw [if_neg hne]
    rw [hF]
    have HC : Calls Tryz.prog 24 #[.pointer (some ⟨x, 0, none⟩), .int .i64 (d : Int), .agg #[.int .i64 i, .string s], .int .u64 1] w fun e w' => e = .returned (.int .i64 (adE F d i s)) ∧ Below w.heap.size w w' := by
      by_cases h0 : encE i s = 0
      · by_cases hpk : fiN (F.S d) (F.K d) s < F.K d
        · have e : adE F d i s = 172 := by unfold adE; rw [if_neg (by simp [h0]), if_pos hpk]
          rw [e]
          exact hI.addThere hD i s h0 _ hp hpk _
        · have e4 : F.K d = 16384 := by
            rcases hc with q | q | q
            · exact absurd h0 q
            · exact absurd q hpk
            · omega
          have e : adE F d i s = 173 := by unfold adE; rw [if_neg (by simp [h0]), if_neg hpk, if_pos (by omega)]
          rw [e]
          exact hI.addFull hD i s h0 _ hp hpk e4 _
      · have e : adE F d i s = encE i s := by unfold adE; rw [if_pos h0]
        rw [e]
        exact hI.addEnc hD i s h0 _
    exact HC.mono fun e w' he => ⟨he.1, h.below he.2, Turns.of_below he.2⟩
  · have h0 : adE F d i s = 0 := Classical.byContradiction fun q => hc ((adE_ne F d i s).1 q)
    have e1 : encE i s = 0 := Classical.byContradiction fun q => hc (.inl q)
    have e2 : ¬ fiN (F.S d) (F.K d) s < F.K d := fun q => hc (.inr (.inl q))
    have e3 : F.K d < 16384 := by
      have : ¬ 16384 ≤ F.K d := fun q => hc (.inr (.inr q))
      omega
    have hF : adF F d i s = F.more d i s := by unfold adF; rw [if_pos h0]
    rw [hF, h0]
    refine (hI.addOk hD e3 i s e1 (fun r hr => hp.2.1 r (by have := hp.1; omega)) 1).mono ?_
    rintro e w' ⟨rfl, ⟨H', D', hI', hD', ho⟩, hT⟩
    refine ⟨rfl, ⟨⟨H', D', hI', fun n hn' => ?_, fun n h1 h2 h3 _ => ?_, fun n h1 => ?_, fun q => absurd rfl q⟩, fun q => absurd rfl q, h.lt, h.d1, h.dm, fun n hn' p hp' => ?_, h.al⟩, hT⟩
    · by_cases c : n = d
      · subst c
        simpa [Fo.more] using hD'
      · have e5 : (F.more d i s).K n = F.K n ∧ (F.more d i s).N n = F.N n ∧ (F.more d i s).S n = F.S n := ⟨by simp [Fo.more, c], by simp [Fo.more, c], by simp [Fo.more, c]⟩
        rw [e5.1, e5.2.1, e5.2.2]
        exact (hdd n hn').same (ho n c).1 (ho n c).2
    · have c : n ≠ d := fun c => by
        subst c
        rw [show (F.more n i s).dr n = F.dr n from rfl, hd] at h3
        cases h3
      rw [(ho n c).1]
      exact hf n h1 h2 h3 (by omega)
    · have c : n ≠ d := fun c => by have := h.dm d hd; omega
      rw [(ho n c).1, (ho n c).2]
      exact hn n h1
    · by_cases c : n = d
      · subst c
        have e5 : (F.more n i s).K n = F.K n + 1 := by simp [Fo.more]
        have e6 : (F.more n i s).N n = upN (F.N n) (F.K n) i := by simp [Fo.more]
        rw [e5] at hp'
        rw [e6]
        unfold upN
        by_cases c2 : p = F.K n
        · rw [if_pos c2]; exact hi
        · rw [if_neg c2]; exact h.en n hd p (by omega)
      · have e5 : (F.more d i s).K n = F.K n := by simp [Fo.more, c]
        have e6 : (F.more d i s).N n = F.N n := by simp [Fo.more, c]
        rw [e5] at hp'
        rw [e6]
        exact h.en n hn' p hp'
/-- Get of a directory, of a file -/
theorem BI.getN (h : BI w B0 x mf ml mc cp all F 0) (n : Nat) (hn : 1 ≤ n ∧ n ≤ all) : ∃ (k l z : Int) (st : Nat), (F.dr n = true → k = 2) ∧ (F.dr n = false → k = 1) ∧ ∀ V, Below w.heap.size w V → Calls Tryz.prog 34 #[.pointer (some ⟨x, 0, none⟩), .int .i64 (n : Int)] V fun e w' => e = .returned (.tuple #[.agg (nfC (n : Int) k l z st), .int .i64 0]) ∧ Below V.heap.size V w' := by
  obtain ⟨H, D, hI, hd, hf, hnn, _⟩ := h.im
  have hal := h.al
  refine ⟨(H n).k, (H n).l, (H n).s, (H n).t, fun q => (hd n q).kd, fun q => (hf n hn.1 hn.2 q (by omega)).1, fun V hV => ?_⟩
  have hno : (H n).n = (n : Int) := by
    cases q : F.dr n with
    | true => exact (hd n q).no
    | false => exact (hf n hn.1 hn.2 q (by omega)).2
  have hk : (H n).k ≠ 0 := by
    cases q : F.dr n with
    | true => rw [(hd n q).kd]; decide
    | false => rw [(hf n hn.1 hn.2 q (by omega)).1]; decide
  have := (hI.below hV).get n hn.1 (by omega) hk
  rw [hno] at this
  exact this
/-- dir.Find on the way -/
theorem BI.find (h : BI w B0 x mf ml mc cp all F 0) (a : Nat) (ha : 1 ≤ a ∧ a ≤ all) (s : ByteArray) (hs : isName s.data.toList = true) (r0 r1 er : Int) (hr0 : r0 = if F.dr a = true then (if fiN (F.S a) (F.K a) s < F.K a then F.N a (fiN (F.S a) (F.K a) s) else 0) else 0) (hr1 : r1 = if F.dr a = true then (if fiN (F.S a) (F.K a) s < F.K a then ((fiN (F.S a) (F.K a) s : Nat) : Int) else 0) else 0) (her : er = if F.dr a = true then (if fiN (F.S a) (F.K a) s < F.K a then 0 else 171) else 170) :
    Calls Tryz.prog 63 #[.pointer (some ⟨x, 0, none⟩), .int .i64 (a : Int), .string s] w fun e w' => e = .returned (.tuple #[.int .i64 r0, .int .i64 r1, .int .i64 er]) ∧ Below w.heap.size w w' := by
  obtain ⟨H, D, hI, hdd, hf, hn, hE⟩ := h.im
  have hal := h.al
  cases hd : F.dr a with
  | true =>
    rw [hd, if_pos rfl] at hr0 hr1 her
    exact hI.findD (hdd a hd) s hs _ (fiN_is _ _ _) r0 r1 er hr0 hr1 her
  | false =>
    rw [hd, if_neg (by decide)] at hr0 hr1 her
    subst hr0 hr1 her
    have hk := (hf a ha.1 ha.2 hd (by omega)).1
    refine find_err s 170 (by decide) fun V hV => directory_err (H a).n 1 (H a).l (H a).s 0 (H a).t (.inr (by decide)) 170 rfl fun V' hV' => ?_
    have := ((hI.below hV).below hV').get a ha.1 (by omega) (by rw [hk]; decide)
    rw [hk] at this
    exact this
end
end Go.Proofs.YtimjggkdpmgpjaaGreatDoor
