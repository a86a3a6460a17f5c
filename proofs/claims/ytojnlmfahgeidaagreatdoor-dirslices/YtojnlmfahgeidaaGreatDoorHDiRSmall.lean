/- The statements' refused and link of directories. -/
import Derived.Test.YtojnlmfahgeidaaGreatDoorHDiSortM
import Derived.Test.YtojnlmfahgeidaaGreatDoorHBlkTxt
import Derived.Test.YtojnlmfahgeidaaGreatDoorHNaJoinB
import Derived.Test.YtojnlmfahgeidaaGreatDoorHMath
import Derived.Handy
import Derived.Test.YtojnlmfahgeidaaGreatDoorHBytes
import Derived.Test.YtojnlmfahgeidaaGreatDoorHDiFillK
import Derived.Deep.Cut
import Derived.Test.YtojnlmfahgeidaaGreatDoorHDiIndex
import Derived.Test.YtojnlmfahgeidaaGreatDoorHDiLay

namespace Go.Proofs.YtojnlmfahgeidaaGreatDoor
theorem sgLHDiRSmall : (∀ (α : Type) (a : α) (l r : List α), (a :: l) ++ r = a :: (l ++ r)) ∧ (∀ (α : Type) (l : List α), [] ++ l = l) ∧ (∀ (α : Type) (l : List α), l ++ [] = l) ∧ (∀ (α β : Type) (f : α → Option β) (a : α) (l : List α), (a :: l).filterMap f = match f a with | none => l.filterMap f | some b => b :: l.filterMap f) ∧ (∀ (α β : Type) (f : α → Option β), [].filterMap f = []) ∧ (∀ (α : Type) (l : List α) (i : Nat), l.toArray[i]? = l[i]?) ∧ (∀ (α : Type) (a : α) (l : List α), (a :: l)[0]? = some a) ∧ (∀ (α : Type) (a : α) (l : List α) (i : Nat), (a :: l)[i + 1]? = l[i]?) :=
  ⟨fun _ _ _ _ => List.cons_append, fun _ _ => List.nil_append _, fun _ _ => List.append_nil _, fun _ _ _ _ _ => List.filterMap_cons, fun _ _ _ => List.filterMap_nil, fun _ _ _ => List.getElem?_toArray, fun _ _ _ => List.getElem?_cons_zero, fun _ _ _ _ => List.getElem?_cons_succ⟩
theorem sgPHDiRSmall : (∀ (α : Type) (l : List α) (i : Nat) (a : α), l.toArray.setIfInBounds i a = (l.set i a).toArray) ∧ (∀ (α : Type) (a b : α) (l : List α), (a :: l).set 0 b = b :: l) ∧ (∀ (α : Type) (a b : α) (l : List α) (i : Nat), (a :: l).set (i + 1) b = a :: l.set i b) :=
  ⟨fun _ _ _ _ => List.setIfInBounds_toArray _ _ _, fun _ _ _ _ => List.set_cons_zero, fun _ _ _ _ _ => List.set_cons_succ⟩
end Go.Proofs.YtojnlmfahgeidaaGreatDoor
namespace Go.Proofs.YtojnlmfahgeidaaGreatDoor
open Go Go.RowKit
set_option linter.unusedSimpArgs false
set_option linter.unusedVariables false
set_option maxRecDepth 100000 in
set_option maxHeartbeats 4000000 in
/-- Add that fails: the list itself, and why -/
theorem radd17_no (a : Option Addr) (n c : Nat) (hn : n ≤ 140737488351232) (N : Nat → Int) (S : Nat → ByteArray) (i : Int) (s : ByteArray) (p : Nat) (hp : FirstN S n p s) (r : Int) (hr : r = if encE i s ≠ 0 then encE i s else if p < n then 172 else 173) (hb : encE i s ≠ 0 ∨ p < n ∨ 16384 ≤ n) (w : World) (hI : IsLkC w a n N S) : Calls Tryz.prog 51 #[.slice a n c, lkV i s] w fun e w' => e = .returned (.tuple #[.slice a n c, .int .i64 r]) ∧ Below w.heap.size w w' := by
  have HE : Hid (∀ w : World, Calls Tryz.prog 112 #[lkV i s] w fun e w' => e = .returned (.tuple #[.string (encT i s), .int .i64 (encE i s)]) ∧ Below w.heap.size w w') := rencode_any i s
  have HF : Hid (∀ W, Below w.heap.size w W → Calls Tryz.prog 20 #[.slice a n c, .string s] W fun e w' => e = .returned (.tuple #[.int .i64 (if p < n then N p else 0), .int .i64 (if p < n then (p : Int) else -1)]) ∧ w' = W) := fun W hW => rfind17_any a n c p hn N S s hp _ _ rfl rfl W (hI.below hW)
  have HR : Hid (r = if encE i s ≠ 0 then encE i s else if p < n then 172 else 173) := hr
  clear hr hI hp
  generalize encT i s = ET at *
  generalize encE i s = EE at *
  unfold lkV at *
  have b0 : Blk (w.alloc (.cells #[.int .i64 i, .string s] 58)) w.heap.size 58 #[.int .i64 i, .string s] := Blk.new _ _ _
  have HB0 : Hid (Below w.heap.size w (w.alloc (.cells #[.int .i64 i, .string s] 58))) := below_new1 _ _
  have c0 : (w.alloc (.cells #[.int .i64 i, .string s] 58)).cell? ⟨w.heap.size, 0, none⟩ = some (.int .i64 i) := (b0.cell 0).trans rfl
  have c1 : (w.alloc (.cells #[.int .i64 i, .string s] 58)).cell? ⟨w.heap.size, 1, none⟩ = some (.string s) := (b0.cell 1).trans rfl
  go_enter Tryz.func51, Tryz.ntmps51
  go_wp2_with fail
  generalize (w.alloc (.cells #[.int .i64 i, .string s] 58)) = w0 at *
  refine (HE.out _).mono ?_
  rintro e w1 ⟨rfl, hb1⟩
  have HB1 : Hid (Below w.heap.size w w1) := HB0.out.trans (hb1.mono HB0.out.size)
  have b1 := b0.below hb1 b0.lt
  clear c0 c1 hb1 b0 HB0 HE
  have c1 : w1.cell? ⟨w.heap.size, 1, none⟩ = some (.string s) := (b1.cell 1).trans rfl
  by_cases h0 : EE = 0
  · subst h0
    have HF1 := HF.out w1 HB1.out
    clear HF
    by_cases hq : p < n
    · have HR2 : Hid (r = 172) := by show r = 172; rw [HR.out, if_neg (by simp), if_pos hq]
      rw [if_pos hq, if_pos hq] at HF1
      have p0 : (0 : Int) ≤ (p : Int) := by omega
      generalize N p = NP at *
      clear HR hb b1
      go_wp2_with fail
      refine HF1.mono ?_
      rintro e w2 ⟨rfl, hw2⟩
      subst w2
      go_wp2_with fail
      go_ret2
      exact ⟨by rw [HR2.out]; rfl, HB1.out⟩
    · have HR2 : Hid (r = 173) := by show r = 173; rw [HR.out, if_neg (by simp), if_neg hq]
      rw [if_neg hq, if_neg hq] at HF1
      have hl : (16384 : Int) ≤ (n : Int) := by
        rcases hb with hb | hb | hb
        · exact absurd rfl hb
        · exact absurd hb hq
        · omega
      clear HR hb b1
      go_wp2_with fail
      refine HF1.mono ?_
      rintro e w2 ⟨rfl, hw2⟩
      subst w2
      go_wp2_with fail
      go_ret2
      exact ⟨by rw [HR2.out]; rfl, HB1.out⟩
  · have HR2 : Hid (r = EE) := by show r = EE; rw [HR.out, if_pos h0]
    clear HR hb b1 HF
    go_wp2_with fail
    go_ret2
    exact ⟨by rw [HR2.out]; rfl, HB1.out⟩
end Go.Proofs.YtojnlmfahgeidaaGreatDoor

namespace Go.Proofs.YtojnlmfahgeidaaGreatDoor
open Go Go.RowKit Go.Nam
set_option linter.unusedSimpArgs false
set_option linter.unusedVariables false
theorem wpList_append_links2 {P : Program} {ops : Array Oper} {rest : List Oper} {o : Oper} {a : Act} {w : World} {Q : Exit → Act → World → Prop} (hgd : o.guard = none) (s x : Operand) (t : TypeId)
    (ho : o.op = .call { callee := .builtin .append, args := #[s, x], argTypes := #[t, t] }) (B : Nat) (e : TypeId) (i : TypeInfo) (z : Value) (ht : P.underlying t = some (.slice e)) (hi : P.info? e = some i) (hz : i.zero = some z) (hsize : i.size = 2) (hby : i.bytes = 24) (hzs : z.cells.size = 2)
    (v : Value) (hs : a.eval s = v) (hown : w.ownsRow B e 2 v 0 []) (a1 : Option Addr) (n c : Nat) (N : Nat → Int) (S : Nat → ByteArray) (hx : a.eval x = .slice a1 n c) (hA : IsLkC w a1 n N S) (hN : a1 = none → n = 0 ∧ c = 0) (hn : n * 24 ≤ 140737488355328) (hbase : B ≤ w.heap.size)
    (h : ∀ v' w', w'.ownsRow B e 2 v' n (lkL N S n) → Below B w w' → w.grownBy w' v.ownBlock → wpList P ops Q rest (a.put o.dst v') w') : wpList P ops Q (o :: rest) a w := by
  cases a1 with
  | none =>
    obtain ⟨rfl, rfl⟩ := hN rfl
    exact wpList_append_own_none hgd s x t ho B e i 2 ht hi v 0 [] hs hown hx (h v w hown (Below.refl _ _) ⟨rfl, rfl, rfl, Nat.le_refl _, fun _ _ _ => rfl⟩)
  | some ad =>
    have hv := hown.lt
    refine wpList_append_own _ hgd s x t ho B e i z 2 24 ht hi hz hsize hby hzs (by decide) v 0 [] hs hown ad n c (lkL N S n) hx (lkL_len N S n) (fun j u hu => ?_) (lkL_mem N S n) (by unfold maxLen; omega) (by omega) hbase fun v' w' h1 h2 _ => ?_
    · obtain ⟨k, hk, hh⟩ := lkL_get N S n j u hu
      obtain ⟨b, o2, e1, _, c0, c1⟩ := hA k hk
      injection e1 with e2
      subst e2
      rcases hh with ⟨rfl, rfl⟩ | ⟨rfl, rfl⟩
      · rw [Addr.add_mid]; exact c0
      · rw [Addr.add_mid, ← Nat.add_assoc]; exact c1
    · rw [List.nil_append, Nat.zero_add] at h1
      exact h v' w' h1 ((Below.refl _ _).grown h2 hbase (fun k hk => (hv k hk).1)) h2

theorem va_lbR (N : Nat → Int) (S : Nat → ByteArray) (n : Nat) : (va (n * 2) (lbF N S)).toList = lkL N S n := by
  apply List.ext_getElem?
  intro q
  by_cases h : q < n * 2
  · rw [Array.getElem?_toList, va_at _ h]
    unfold lbF
    have := dlk_at N S n (q / 2) (by omega)
    by_cases e : q % 2 = 0
    · rw [if_pos e, ← this.1]
      congr 1
      omega
    · rw [if_neg e, ← this.2]
      congr 1
      omega
  · rw [List.getElem?_eq_none (by rw [Array.length_toList, va_size]; omega), List.getElem?_eq_none (by rw [lkL_len]; omega)]
theorem own_lbR {w : World} {B t n cap g : Nat} {N : Nat → Int} {S : Nat → ByteArray} (h : w.ownsRow B t 2 (.slice (some ⟨g, 0, none⟩) n cap) n (lkL N S n)) : ∃ tl : Array Value, Blk w g t (lbC tl n N S) ∧ tl.size = (cap - n) * 2 ∧ n ≤ cap ∧ cap ≤ maxLen ∧ B ≤ g := by
  rcases h.2 with ⟨hv, _⟩ | ⟨g', cap', cur, hv, hB, hg, hn, hm, hs, ht⟩
  · cases hv
  · cases hv
    refine ⟨(cur.toList.drop (n * 2)).toArray, ?_, ?_, hn, hm, hB⟩
    · have e : lbC (cur.toList.drop (n * 2)).toArray n N S = cur := by
        apply Array.ext'
        unfold lbC
        rw [Array.toList_append, va_lbR, ← ht]
        simp
      rw [e]
      exact hg
    · simp
      rw [hs]
      omega

theorem lb_lkC {w : World} {g t n m : Nat} {N : Nat → Int} {S : Nat → ByteArray} {tl : Array Value} (h : Blk w g t (lbC tl n N S)) (hm : m ≤ n) : IsLkC w (some ⟨g, 0, none⟩) m N S := fun i hi => ⟨g, 0, rfl, h.lt, by rw [Nat.zero_add]; exact lb_c0 h i (by omega), by rw [Nat.zero_add]; exact lb_c1 h i (by omega)⟩
theorem own_lkC {w : World} {B t n cap g : Nat} {N : Nat → Int} {S : Nat → ByteArray} (h : w.ownsRow B t 2 (.slice (some ⟨g, 0, none⟩) n cap) n (lkL N S n)) : IsLkC w (some ⟨g, 0, none⟩) n N S := by
  obtain ⟨tl, h1, _⟩ := own_lbR h
  exact lb_lkC h1 (Nat.le_refl _)
theorem lkL_snoc (N : Nat → Int) (S : Nat → ByteArray) (n : Nat) (i : Int) (s : ByteArray) : lkR (liR N S n ++ [(i, s)]) = lkL (upN N n i) (upS S n s) (n + 1) := by
  rw [← liR_cells]
  congr 1
  unfold liR
  rw [List.range_succ, List.map_append]
  congr 1
  · refine List.map_congr_left fun q hq => ?_
    have := List.mem_range.1 hq
    unfold upN upS
    rw [if_neg (by omega), if_neg (by omega)]
  · simp [upN, upS]
end Go.Proofs.YtojnlmfahgeidaaGreatDoor

namespace Go.Proofs.YtojnlmfahgeidaaGreatDoor
open Go Go.RowKit Go.Nam
set_option linter.unusedSimpArgs false
set_option linter.unusedVariables false
set_option maxRecDepth 100000 in
set_option maxHeartbeats 8000000 in
theorem radd17_ok (a : Option Addr) (n c : Nat) (hn : n < 16384) (hN : a = none → n = 0 ∧ c = 0) (N : Nat → Int) (S : Nat → ByteArray) (i : Int) (s : ByteArray) (p : Nat) (hp : FirstN S n p s) (hpn : ¬ p < n) (hi : encE i s = 0) (w : World) (hI : IsLkC w a n N S) :
    Calls Tryz.prog 51 #[.slice a n c, lkV i s] w fun e w' => ∃ g5 c5 : Nat, e = .returned (.tuple #[.slice (some ⟨g5, 0, none⟩) (n + 1) c5, .int .i64 0]) ∧ IsLkC w' (some ⟨g5, 0, none⟩) (n + 1) (upN N n i) (upS S n s) ∧ w.heap.size ≤ g5 ∧ Below w.heap.size w w' := by
  obtain ⟨i0, hi0, hz0, hz1, hz2⟩ := info_parts infoRLk
  have HE : Hid (∀ w : World, Calls Tryz.prog 112 #[lkV i s] w fun e w' => e = .returned (.tuple #[.string (encT i s), .int .i64 0]) ∧ Below w.heap.size w w') := fun w => by
    have := rencode_any i s w
    rw [hi] at this
    exact this
  have HF : Hid (∀ W, Below w.heap.size w W → Calls Tryz.prog 20 #[.slice a n c, .string s] W fun e w' => e = .returned (.tuple #[.int .i64 0, .int .i64 (-1)]) ∧ w' = W) := fun W hW => by
    have := rfind17_any a n c p (by omega) N S s hp _ _ rfl rfl W (hI.below hW)
    rw [if_neg hpn, if_neg hpn] at this
    exact this
  have HII : Hid (IsLkC w a n N S) := hI
  have HNN : Hid (a = none → n = 0 ∧ c = 0) := hN
  have HBD : Hid (((liR N S n).length + [((i, s) : Lk)].length) * 24 ≤ 140737488355328) := by show _ ≤ _; rw [liR_len]; simp; omega
  have hl : (n : Int) < 16384 := by omega
  clear hI hN hp hpn hi
  generalize encT i s = ET at *
  unfold lkV at *
  have b0 : Blk (w.alloc (.cells #[.int .i64 i, .string s] 58)) w.heap.size 58 #[.int .i64 i, .string s] := Blk.new _ _ _
  have HB0 : Hid (Below w.heap.size w (w.alloc (.cells #[.int .i64 i, .string s] 58))) := below_new1 _ _
  have c0 : (w.alloc (.cells #[.int .i64 i, .string s] 58)).cell? ⟨w.heap.size, 0, none⟩ = some (.int .i64 i) := (b0.cell 0).trans rfl
  have c1 : (w.alloc (.cells #[.int .i64 i, .string s] 58)).cell? ⟨w.heap.size, 1, none⟩ = some (.string s) := (b0.cell 1).trans rfl
  go_enter Tryz.func51, Tryz.ntmps51
  go_wp2_with fail
  generalize (w.alloc (.cells #[.int .i64 i, .string s] 58)) = w0 at *
  refine (HE.out _).mono ?_
  rintro e W0 ⟨rfl, hb1⟩
  have HB1 : Hid (Below w.heap.size w W0) := HB0.out.trans (hb1.mono HB0.out.size)
  have b1 := b0.below hb1 b0.lt
  clear c0 c1 hb1 b0 HB0 HE
  have c1 : W0.cell? ⟨w.heap.size, 1, none⟩ = some (.string s) := (b1.cell 1).trans rfl
  have HB0 : Hid (Below w.heap.size w W0 ∧ Blk W0 w.heap.size 58 #[.int .i64 i, .string s]) := ⟨HB1.out, b1⟩
  have HBD0 : Hid (Below w.heap.size w W0.drew ∧ Blk W0.drew w.heap.size 58 #[.int .i64 i, .string s]) := ⟨HB1.out.drew, b1⟩
  have HIA : Hid (∀ U : World, Below W0.heap.size W0 U → IsLkC U a n N S) := fun U hU => (HII.out.below HB1.out).below hU
  have HF1 := HF.out W0 HB1.out
  clear HF b1
  go_wp2_with fail
  refine HF1.mono ?_
  rintro e w2 ⟨rfl, hw2⟩
  subst w2
  clear HF1 c1
  go_wp2_with fail
  refine wp_region_plan (fun U => Below w.heap.size w U ∧ Blk U w.heap.size 58 #[.int .i64 i, .string s]) (.yield [1] 3 (.fork 0 4 (.fork 2 4 (.force [] 4 (.force [] 5 (.fin [6, 7]))) (.force [] 2 (.force [] 5 (.fin [6, 7])))) (.force [] 0 (.force [] 2 (.force [] 5 (.fin [6, 7])))))) (by kernel_rfl) (by kernel_rfl) HBD0.out (plan_yield ?_)
  simp only [sgLHDiRSmall]
  go_wp2_with fail
  first
    | refine ⟨rfl, _, .agg #[.int .i64 i, .string s], rfl, Or.inl ⟨by rfl, fun U hU => by have c8 := (hU.2.cell 0).trans rfl; have c9 := (hU.2.cell 1).trans rfl; go_simp⟩, plan_fork ?_ ?_⟩
    | refine ⟨rfl, .agg #[.int .i64 i, .string s], Or.inl ⟨by rfl, fun U hU => by have c8 := (hU.2.cell 0).trans rfl; have c9 := (hU.2.cell 1).trans rfl; go_simp⟩, plan_fork ?_ ?_⟩
  · simp only [Act.put, sgPHDiRSmall]
    simp only [sgLHDiRSmall]
    have HEA : Hid (((W0.alloc (.cells #[] 58)).drew).ownsRow W0.heap.size 58 2 (.slice (some ⟨W0.heap.size, 0, none⟩) 0 0) 0 []) := (kown_empty (Blk.new W0 58 #[]) (Nat.le_refl _)).drew
    have HSA : Hid (Below W0.heap.size W0 ((W0.alloc (.cells #[] 58)).drew)) := ((Below.refl _ W0).alloc (Nat.le_refl _) _).drew
    have HBA : Hid (Below w.heap.size w ((W0.alloc (.cells #[] 58)).drew) ∧ Blk ((W0.alloc (.cells #[] 58)).drew) w.heap.size 58 #[.int .i64 i, .string s]) := ⟨HB0.out.1.trans ((HSA.out).mono HB0.out.1.size), HB0.out.2.below (HSA.out) HB0.out.2.lt⟩
    go_wp2_with fail
    refine ⟨rfl, HBA.out, plan_fork ?_ ?_⟩
    · simp only [sgLHDiRSmall]
      have HE0 : Hid _ := HEA.out
      have HS1 : Hid _ := HSA.out
      refine wpList_append_links2 rfl _ _ 28 rfl W0.heap.size 58 i0 (.agg #[.int .i64 0, .string ⟨#[]⟩]) Tryz.underlying28 hi0 hz0 hz1 hz2 rfl (.slice (some ⟨W0.heap.size, 0, none⟩) 0 0) rfl HE0.out a n c N S rfl (HIA.out _ HS1.out) HNN.out (by omega) HS1.out.size ?_
      intro v2 U2 ho2 hb2 hg2
      obtain ⟨q2, c2, rfl⟩ := kown_slice ho2
      have HO2 : Hid (U2.ownsRow W0.heap.size 58 2 (.slice q2 n c2) n (lkR (liR N S n))) := by rw [liR_cells]; exact ho2
      have HS2 : Hid (Below W0.heap.size W0 U2) := HS1.out.trans (hb2.mono (Nat.le_refl _))
      have HB2 : Hid (Below w.heap.size w U2 ∧ Blk U2 w.heap.size 58 #[.int .i64 i, .string s]) := ⟨HB0.out.1.trans ((HS2.out).mono HB0.out.1.size), HB0.out.2.below (HS2.out) HB0.out.2.lt⟩
      clear ho2 hb2 hg2
      go_wp2_with fail
      refine ⟨rfl, HB2.out, plan_force ?_⟩
      simp only [sgLHDiRSmall]
      have HX4 : Hid (IsR (U2.alloc (.cells #[.int .i64 i, .string s] 58)) U2.heap.size 0 [(i, s)]) := fun j u hu => by
        have := cells_new2L U2 (.int .i64 i) (.string s) 58 j u hu
        rwa [Addr.add_mid] at this
      have HO2' : Hid ((U2.alloc (.cells #[.int .i64 i, .string s] 58)).ownsRow W0.heap.size 58 2 (.slice q2 n c2) n (lkR (liR N S n))) := HO2.out.alloc _
      have HS2' : Hid (Below W0.heap.size W0 (U2.alloc (.cells #[.int .i64 i, .string s] 58))) := HS2.out.alloc HS2.out.size _
      have HB2' : Hid (Below w.heap.size w (U2.alloc (.cells #[.int .i64 i, .string s] 58)) ∧ Blk (U2.alloc (.cells #[.int .i64 i, .string s] 58)) w.heap.size 58 #[.int .i64 i, .string s]) := ⟨HB0.out.1.trans ((HS2'.out).mono HB0.out.1.size), HB0.out.2.below (HS2'.out) HB0.out.2.lt⟩
      go_wp2_with fail
      refine ⟨rfl, HB2'.out, plan_force ?_⟩
      simp only [sgLHDiRSmall]
      clear HO2 HS2 HB2
      have HO2 : Hid _ := HO2'.out
      have HS2 : Hid _ := HS2'.out
      refine wpList_append_lks rfl _ _ 28 rfl W0.heap.size 58 i0 (.agg #[.int .i64 0, .string ⟨#[]⟩]) Tryz.underlying28 hi0 hz0 hz1 hz2 rfl (.slice q2 n c2) (liR N S n) n (liR_len N S n).symm rfl HO2.out U2.heap.size 0 1 1 [(i, s)] rfl rfl HX4.out HBD.out HS2.out.size ?_
      intro v5 U5 ho5 hb5 hg5
      have HS5 : Hid (Below W0.heap.size W0 U5) := HS2.out.trans (hb5.mono (Nat.le_refl _))
      have HB5 : Hid (Below w.heap.size w U5 ∧ Blk U5 w.heap.size 58 #[.int .i64 i, .string s]) := ⟨HB0.out.1.trans ((HS5.out).mono HB0.out.1.size), HB0.out.2.below (HS5.out) HB0.out.2.lt⟩
      obtain ⟨g5, c5, rfl, _⟩ := kown_form ho5 (by omega)
      rw [lkL_snoc] at ho5
      have HI5 : Hid (IsLkC U5 (some ⟨g5, 0, none⟩) (n + 1) (upN N n i) (upS S n s)) := own_lkC ho5
      have HGE : Hid (w.heap.size ≤ g5) := by
        obtain ⟨_, _, _, _, _, hBg⟩ := own_lbR ho5
        exact Nat.le_trans HB0.out.1.size hBg
      clear ho5 hb5 hg5
      go_wp2_with fail
      refine ⟨rfl, HB5.out, plan_fin ?_⟩
      simp only [sgLHDiRSmall]
      go_wp2_with fail
      refine ⟨rfl, ?_⟩
      go_wp2_with fail
      go_ret2
      exact ⟨g5, c5, rfl, HI5.out, HGE.out, HB5.out.1⟩
    · simp only [sgLHDiRSmall]
      have HX9 : Hid (IsR (((W0.alloc (.cells #[] 58)).alloc (.cells #[.int .i64 i, .string s] 58)).drew) (W0.heap.size + 1) 0 [(i, s)]) := fun j u hu => by
        have := cells_new2L (W0.alloc (.cells #[] 58)) (.int .i64 i) (.string s) 58 j u hu
        rw [Addr.add_mid] at this
        simpa using this
      have HE0 : Hid ((((W0.alloc (.cells #[] 58)).alloc (.cells #[.int .i64 i, .string s] 58)).drew).ownsRow W0.heap.size 58 2 (.slice (some ⟨W0.heap.size, 0, none⟩) 0 0) 0 []) := ((kown_empty (Blk.new W0 58 #[]) (Nat.le_refl _)).alloc _).drew
      have HS1 : Hid (Below W0.heap.size W0 (((W0.alloc (.cells #[] 58)).alloc (.cells #[.int .i64 i, .string s] 58)).drew)) := (((Below.refl _ W0).alloc (Nat.le_refl _) _).alloc (by simp) _).drew
      have HBS1 : Hid (Below w.heap.size w (((W0.alloc (.cells #[] 58)).alloc (.cells #[.int .i64 i, .string s] 58)).drew) ∧ Blk (((W0.alloc (.cells #[] 58)).alloc (.cells #[.int .i64 i, .string s] 58)).drew) w.heap.size 58 #[.int .i64 i, .string s]) := ⟨HB0.out.1.trans ((HS1.out).mono HB0.out.1.size), HB0.out.2.below (HS1.out) HB0.out.2.lt⟩
      go_wp2_with fail
      refine ⟨rfl, HBS1.out, plan_force ?_⟩
      simp only [sgLHDiRSmall]
      refine wpList_append_links2 rfl _ _ 28 rfl W0.heap.size 58 i0 (.agg #[.int .i64 0, .string ⟨#[]⟩]) Tryz.underlying28 hi0 hz0 hz1 hz2 rfl (.slice (some ⟨W0.heap.size, 0, none⟩) 0 0) rfl HE0.out a n c N S rfl (HIA.out _ HS1.out) HNN.out (by omega) HS1.out.size ?_
      intro v2 U2 ho2 hb2 hg2
      obtain ⟨q2, c2, rfl⟩ := kown_slice ho2
      have HO2 : Hid (U2.ownsRow W0.heap.size 58 2 (.slice q2 n c2) n (lkR (liR N S n))) := by rw [liR_cells]; exact ho2
      have HS2 : Hid (Below W0.heap.size W0 U2) := HS1.out.trans (hb2.mono (Nat.le_refl _))
      have HB2 : Hid (Below w.heap.size w U2 ∧ Blk U2 w.heap.size 58 #[.int .i64 i, .string s]) := ⟨HB0.out.1.trans ((HS2.out).mono HB0.out.1.size), HB0.out.2.below (HS2.out) HB0.out.2.lt⟩
      have HX4 : Hid (IsR U2 (W0.heap.size + 1) 0 [(i, s)]) := fun j u hu => hg2.cell (HX9.out j u hu) (by simp [Value.ownBlock])
      clear ho2 hb2 hg2
      go_wp2_with fail
      refine ⟨rfl, HB2.out, plan_force ?_⟩
      simp only [sgLHDiRSmall]
      refine wpList_append_lks rfl _ _ 28 rfl W0.heap.size 58 i0 (.agg #[.int .i64 0, .string ⟨#[]⟩]) Tryz.underlying28 hi0 hz0 hz1 hz2 rfl (.slice q2 n c2) (liR N S n) n (liR_len N S n).symm rfl HO2.out (W0.heap.size + 1) 0 1 1 [(i, s)] rfl rfl HX4.out HBD.out HS2.out.size ?_
      intro v5 U5 ho5 hb5 hg5
      have HS5 : Hid (Below W0.heap.size W0 U5) := HS2.out.trans (hb5.mono (Nat.le_refl _))
      have HB5 : Hid (Below w.heap.size w U5 ∧ Blk U5 w.heap.size 58 #[.int .i64 i, .string s]) := ⟨HB0.out.1.trans ((HS5.out).mono HB0.out.1.size), HB0.out.2.below (HS5.out) HB0.out.2.lt⟩
      obtain ⟨g5, c5, rfl, _⟩ := kown_form ho5 (by omega)
      rw [lkL_snoc] at ho5
      have HI5 : Hid (IsLkC U5 (some ⟨g5, 0, none⟩) (n + 1) (upN N n i) (upS S n s)) := own_lkC ho5
      have HGE : Hid (w.heap.size ≤ g5) := by
        obtain ⟨_, _, _, _, _, hBg⟩ := own_lbR ho5
        exact Nat.le_trans HB0.out.1.size hBg
      clear ho5 hb5 hg5
      go_wp2_with fail
      refine ⟨rfl, HB5.out, plan_fin ?_⟩
      simp only [sgLHDiRSmall]
      go_wp2_with fail
      refine ⟨rfl, ?_⟩
      go_wp2_with fail
      go_ret2
      exact ⟨g5, c5, rfl, HI5.out, HGE.out, HB5.out.1⟩
  · simp only [Act.put, sgPHDiRSmall]
    simp only [sgLHDiRSmall]
    have HSB : Hid (Below W0.heap.size W0 ((W0.alloc (.cells #[.int .i64 i, .string s] 58)).drew)) := ((Below.refl _ W0).alloc (Nat.le_refl _) _).drew
    have HBB : Hid (Below w.heap.size w ((W0.alloc (.cells #[.int .i64 i, .string s] 58)).drew) ∧ Blk ((W0.alloc (.cells #[.int .i64 i, .string s] 58)).drew) w.heap.size 58 #[.int .i64 i, .string s]) := ⟨HB0.out.1.trans ((HSB.out).mono HB0.out.1.size), HB0.out.2.below (HSB.out) HB0.out.2.lt⟩
    go_wp2_with fail
    refine ⟨rfl, HBB.out, plan_force ?_⟩
    simp only [sgLHDiRSmall]
    have HX9 : Hid (IsR (((W0.alloc (.cells #[.int .i64 i, .string s] 58)).alloc (.cells #[] 58)).drew) W0.heap.size 0 [(i, s)]) := fun j u hu => by
      have h1 := cells_new2L W0 (.int .i64 i) (.string s) 58 j u hu
      rw [Addr.add_mid] at h1
      exact (((Below.refl _ (W0.alloc (.cells #[.int .i64 i, .string s] 58))).alloc (Nat.le_refl _) (.cells #[] 58)).cell (p := ⟨W0.heap.size, 0 + j, none⟩) (by simp)).trans h1
    have HE0 : Hid ((((W0.alloc (.cells #[.int .i64 i, .string s] 58)).alloc (.cells #[] 58)).drew).ownsRow W0.heap.size 58 2 (.slice (some ⟨W0.heap.size + 1, 0, none⟩) 0 0) 0 []) := by
      have := (kown_empty (size := 2) (B := W0.heap.size) (Blk.new (W0.alloc (.cells #[.int .i64 i, .string s] 58)) 58 #[]) (by simp)).drew
      show World.ownsRow _ _ _ _ _ _ _
      simpa using this
    have HS1 : Hid (Below W0.heap.size W0 (((W0.alloc (.cells #[.int .i64 i, .string s] 58)).alloc (.cells #[] 58)).drew)) := (((Below.refl _ W0).alloc (Nat.le_refl _) _).alloc (by simp) _).drew
    have HBS1 : Hid (Below w.heap.size w (((W0.alloc (.cells #[.int .i64 i, .string s] 58)).alloc (.cells #[] 58)).drew) ∧ Blk (((W0.alloc (.cells #[.int .i64 i, .string s] 58)).alloc (.cells #[] 58)).drew) w.heap.size 58 #[.int .i64 i, .string s]) := ⟨HB0.out.1.trans ((HS1.out).mono HB0.out.1.size), HB0.out.2.below (HS1.out) HB0.out.2.lt⟩
    go_wp2_with fail
    refine ⟨rfl, HBS1.out, plan_force ?_⟩
    simp only [sgLHDiRSmall]
    refine wpList_append_links2 rfl _ _ 28 rfl W0.heap.size 58 i0 (.agg #[.int .i64 0, .string ⟨#[]⟩]) Tryz.underlying28 hi0 hz0 hz1 hz2 rfl (.slice (some ⟨(W0.heap.size + 1), 0, none⟩) 0 0) rfl HE0.out a n c N S rfl (HIA.out _ HS1.out) HNN.out (by omega) HS1.out.size ?_
    intro v2 U2 ho2 hb2 hg2
    obtain ⟨q2, c2, rfl⟩ := kown_slice ho2
    have HO2 : Hid (U2.ownsRow W0.heap.size 58 2 (.slice q2 n c2) n (lkR (liR N S n))) := by rw [liR_cells]; exact ho2
    have HS2 : Hid (Below W0.heap.size W0 U2) := HS1.out.trans (hb2.mono (Nat.le_refl _))
    have HB2 : Hid (Below w.heap.size w U2 ∧ Blk U2 w.heap.size 58 #[.int .i64 i, .string s]) := ⟨HB0.out.1.trans ((HS2.out).mono HB0.out.1.size), HB0.out.2.below (HS2.out) HB0.out.2.lt⟩
    have HX4 : Hid (IsR U2 W0.heap.size 0 [(i, s)]) := fun j u hu => hg2.cell (HX9.out j u hu) (by simp [Value.ownBlock])
    clear ho2 hb2 hg2
    go_wp2_with fail
    refine ⟨rfl, HB2.out, plan_force ?_⟩
    simp only [sgLHDiRSmall]
    refine wpList_append_lks rfl _ _ 28 rfl W0.heap.size 58 i0 (.agg #[.int .i64 0, .string ⟨#[]⟩]) Tryz.underlying28 hi0 hz0 hz1 hz2 rfl (.slice q2 n c2) (liR N S n) n (liR_len N S n).symm rfl HO2.out W0.heap.size 0 1 1 [(i, s)] rfl rfl HX4.out HBD.out HS2.out.size ?_
    intro v5 U5 ho5 hb5 hg5
    have HS5 : Hid (Below W0.heap.size W0 U5) := HS2.out.trans (hb5.mono (Nat.le_refl _))
    have HB5 : Hid (Below w.heap.size w U5 ∧ Blk U5 w.heap.size 58 #[.int .i64 i, .string s]) := ⟨HB0.out.1.trans ((HS5.out).mono HB0.out.1.size), HB0.out.2.below (HS5.out) HB0.out.2.lt⟩
    obtain ⟨g5, c5, rfl, _⟩ := kown_form ho5 (by omega)
    rw [lkL_snoc] at ho5
    have HI5 : Hid (IsLkC U5 (some ⟨g5, 0, none⟩) (n + 1) (upN N n i) (upS S n s)) := own_lkC ho5
    have HGE : Hid (w.heap.size ≤ g5) := by
      obtain ⟨_, _, _, _, _, hBg⟩ := own_lbR ho5
      exact Nat.le_trans HB0.out.1.size hBg
    clear ho5 hb5 hg5
    go_wp2_with fail
    refine ⟨rfl, HB5.out, plan_fin ?_⟩
    simp only [sgLHDiRSmall]
    go_wp2_with fail
    refine ⟨rfl, ?_⟩
    go_wp2_with fail
    go_ret2
    exact ⟨g5, c5, rfl, HI5.out, HGE.out, HB5.out.1⟩
end Go.Proofs.YtojnlmfahgeidaaGreatDoor

namespace Go.Proofs.YtojnlmfahgeidaaGreatDoor
open Go Go.RowKit Go.Nam
set_option linter.unusedSimpArgs false
set_option linter.unusedVariables false
set_option maxRecDepth 100000 in
set_option maxHeartbeats 8000000 in
theorem rremove17_no (a : Option Addr) (n c : Nat) (hn : n ≤ 16384) (N : Nat → Int) (S : Nat → ByteArray) (s : ByteArray) (p : Nat) (hp : FirstN S n p s) (hpn : isName s.data.toList = true → ¬ p < n) (re : Int) (hre : re = if isName s.data.toList = true then 171 else 130) (w : World) (hI : IsLkC w a n N S) :
    Calls Tryz.prog 53 #[.slice a n c, .string s] w fun e w' => e = .returned (.tuple #[.slice a n c, .int .i64 0, .int .i64 re]) ∧ w' = w := by
  have HIS : Hid (∀ w : World, Calls Tryz.prog 21 #[.string s] w fun e w' => e = .returned (.bool (isName s.data.toList)) ∧ w' = w) := is_any s
  have HF : Hid (isName s.data.toList = true → Calls Tryz.prog 20 #[.slice a n c, .string s] w fun e w' => e = .returned (.tuple #[.int .i64 0, .int .i64 (-1)]) ∧ w' = w) := fun h => by
    have := rfind17_any a n c p (by omega) N S s hp _ _ rfl rfl w hI
    rw [if_neg (hpn h), if_neg (hpn h)] at this
    exact this
  clear hI hp hpn
  generalize isName s.data.toList = nm at *
  cases nm
  · have HR : Hid (re = 130) := by show _ = _; rw [hre]; rfl
    clear hre HF
    go_enter Tryz.func53, Tryz.ntmps53
    go_wp2_with fail
    refine (HIS.out _).mono ?_
    rintro e w1 ⟨rfl, rfl⟩
    go_wp2_with fail
    go_ret3
    exact ⟨by rw [HR.out] <;> rfl, rfl⟩
  · have HR : Hid (re = 171) := by show _ = _; rw [hre]; rfl
    have HF1 := HF.out rfl
    clear hre HF
    go_enter Tryz.func53, Tryz.ntmps53
    go_wp2_with fail
    refine (HIS.out _).mono ?_
    rintro e w1 ⟨rfl, rfl⟩
    go_wp2_with fail
    refine HF1.mono ?_
    rintro e w2 ⟨rfl, hw⟩
    subst w2
    go_wp2_with fail
    go_ret3
    exact ⟨by rw [HR.out] <;> rfl, rfl⟩
set_option maxRecDepth 100000 in
set_option maxHeartbeats 8000000 in
theorem rremove17_ok (a : Option Addr) (k c : Nat) (hk : k < 16384) (hN : a = none → k + 1 = 0 ∧ c = 0) (N : Nat → Int) (S : Nat → ByteArray) (s : ByteArray) (p : Nat) (hp : FirstN S (k + 1) p s) (hpk : p ≤ k) (hnm : isName s.data.toList = true) (w : World) (hI : IsLkC w a (k + 1) N S) :
    Calls Tryz.prog 53 #[.slice a (k + 1) c, .string s] w fun e w' => ∃ g5 c5 : Nat, e = .returned (.tuple #[.slice (some ⟨g5, 0, none⟩) k c5, .int .i64 (N p), .int .i64 0]) ∧ IsLkC w' (some ⟨g5, 0, none⟩) k (mvN N k p) (mvS S k p) ∧ w.heap.size ≤ g5 ∧ Below w.heap.size w w' := by
  obtain ⟨i0, hi0, hz0, hz1, hz2⟩ := info_parts infoRLk
  have HIS : Hid (∀ w : World, Calls Tryz.prog 21 #[.string s] w fun e w' => e = .returned (.bool true) ∧ w' = w) := fun w => by
    have := is_any s w
    rw [hnm] at this
    exact this
  have HF : Hid (Calls Tryz.prog 20 #[.slice a (k + 1) c, .string s] w fun e w' => e = .returned (.tuple #[.int .i64 (N p), .int .i64 (p : Int)]) ∧ w' = w) := by
    have := rfind17_any a (k + 1) c p (by omega) N S s hp _ _ rfl rfl w hI
    rw [if_pos (by omega), if_pos (by omega)] at this
    exact this
  obtain ⟨n, hn⟩ : ∃ n, n = k + 1 := ⟨_, rfl⟩
  rw [← hn] at hI hN HF ⊢
  have hp0 : (0 : Int) ≤ (p : Int) := by omega
  have hpn : (p : Int) < (n : Int) := by omega
  have HNN : Hid (a = none → n = 0 ∧ c = 0) := hN
  have HNK : Hid (n = k + 1) := hn
  have hnb : n ≤ 16384 := by omega
  have HE0 : Hid ((w.alloc (.cells #[] 58)).ownsRow w.heap.size 58 2 (.slice (some ⟨w.heap.size, 0, none⟩) 0 0) 0 []) := kown_empty (Blk.new w 58 #[]) (Nat.le_refl _)
  have HSA : Hid (Below w.heap.size w (w.alloc (.cells #[] 58))) := (Below.refl _ w).alloc (Nat.le_refl _) _
  have HSZ : Hid (w.heap.size ≤ (w.alloc (.cells #[] 58)).heap.size) := HSA.out.size
  have HIA : Hid (IsLkC (w.alloc (.cells #[] 58)) a n N S) := hI.below HSA.out
  have HPK : Hid (p ≤ k) := hpk
  clear hI hp hnm hN hn hpk
  generalize hNP : N p = NP at *
  go_enter Tryz.func53, Tryz.ntmps53
  go_wp2_with fail
  refine (HIS.out _).mono ?_
  rintro e w1 ⟨rfl, hw1⟩
  subst w1
  go_wp2_with fail
  refine HF.out.mono ?_
  rintro e w2 ⟨rfl, hw⟩
  subst w2
  go_upto_region 7 with (first | (refine wpList_append_links2 (by rfl) _ _ 28 (by rfl) w.heap.size 58 i0 (.agg #[.int .i64 0, .string ⟨#[]⟩]) Tryz.underlying28 hi0 hz0 hz1 hz2 rfl (.slice (some ⟨w.heap.size, 0, none⟩) 0 0) (by rfl) (by exact HE0.out) a n c N S (by rfl) (by exact HIA.out) HNN.out (by omega) (by exact HSZ.out) (fun v2 U2 ho2 hb2 hg2 => ?_); simp only [Act.put, sgPHDiRSmall]) | fail)
  have hn := HNK.out
  have hpk := HPK.out
  obtain ⟨g2, c2, rfl, _⟩ := kown_form ho2 (by omega)
  obtain ⟨tl, hB, htl, hnc, hcm, hBg⟩ := own_lbR ho2
  have HGE : Hid (w.heap.size ≤ g2) := hBg
  have c0 := lb_c0 hB k (by omega)
  have c1 := lb_c1 hB k (by omega)
  have d0 := lb_c0 hB p (by omega)
  have d1 := lb_c1 hB p (by omega)
  have f0 : U2.frozen? ⟨g2, p * 2, none⟩ = false := hB.frozen _
  have f1 : U2.frozen? ⟨g2, p * 2 + 1, none⟩ = false := hB.frozen _
  have HK : Hid (Blk ((U2.setCell ⟨g2, p * 2, none⟩ (.int .i64 (N k))).setCell ⟨g2, p * 2 + 1, none⟩ (.string (S k))) g2 58 (lbC tl n (mvN N k p) (mvS S k p))) := lb_put hB p (by omega) (N k) (S k)
  have HBE : Hid (Below w.heap.size w ((U2.setCell ⟨g2, p * 2, none⟩ (.int .i64 (N k))).setCell ⟨g2, p * 2 + 1, none⟩ (.string (S k)))) := ((HSA.out.trans hb2).setCell (p := ⟨g2, p * 2, none⟩) hBg _).setCell (p := ⟨g2, p * 2 + 1, none⟩) hBg _
  have e1 : IntKind.i64.wrap ((n : Int) - 1) = (k : Int) := by simp [IntKind.wrap, IntKind.signed, IntKind.bits]; omega
  have k0 : (0 : Int) ≤ (k : Int) := by omega
  have kn : (k : Int) < (n : Int) := by omega
  have kc : (k : Int) ≤ (c2 : Int) := by omega
  have HKN : Hid (k ≤ n) := by show _ ≤ _; omega
  clear hB htl hnc hcm hBg ho2 hb2 hg2 HE0 HSA HIA HSZ HNN HIS HF hn hpk
  go_wp2_with fail
  go_ret3
  exact ⟨g2, c2, rfl, lb_lkC HK.out HKN.out, HGE.out, HBE.out⟩
end Go.Proofs.YtojnlmfahgeidaaGreatDoor

namespace Go.Proofs.YtojnlmfahgeidaaGreatDoor
open Go Go.RowKit Go.Nam
set_option linter.unusedSimpArgs false
set_option linter.unusedVariables false
set_option maxRecDepth 100000 in
set_option maxHeartbeats 8000000 in
theorem rswap17_no (a : Option Addr) (n c : Nat) (hn : n ≤ 16384) (N : Nat → Int) (S : Nat → ByteArray) (i : Int) (s : ByteArray) (p : Nat) (hp : FirstN S n p s) (r : Int) (hr : r = if encE i s ≠ 0 then encE i s else 171) (hb : encE i s ≠ 0 ∨ ¬ p < n) (w : World) (hI : IsLkC w a n N S) :
    Calls Tryz.prog 55 #[.slice a n c, lkV i s] w fun e w' => e = .returned (.tuple #[.slice a n c, .int .i64 0, .int .i64 r]) ∧ Below w.heap.size w w' := by
  have HE : Hid (∀ w : World, Calls Tryz.prog 112 #[lkV i s] w fun e w' => e = .returned (.tuple #[.string (encT i s), .int .i64 (encE i s)]) ∧ Below w.heap.size w w') := rencode_any i s
  have HF : Hid (¬ p < n → ∀ W, Below w.heap.size w W → Calls Tryz.prog 20 #[.slice a n c, .string s] W fun e w' => e = .returned (.tuple #[.int .i64 0, .int .i64 (-1)]) ∧ w' = W) := fun h W hW => by
    have := rfind17_any a n c p (by omega) N S s hp _ _ rfl rfl W (hI.below hW)
    rw [if_neg h, if_neg h] at this
    exact this
  have HR : Hid (r = if encE i s ≠ 0 then encE i s else 171) := hr
  clear hr hI hp
  generalize encT i s = ET at *
  generalize encE i s = EE at *
  unfold lkV at *
  have b0 : Blk (w.alloc (.cells #[.int .i64 i, .string s] 58)) w.heap.size 58 #[.int .i64 i, .string s] := Blk.new _ _ _
  have HB0 : Hid (Below w.heap.size w (w.alloc (.cells #[.int .i64 i, .string s] 58))) := below_new1 _ _
  have c0 : (w.alloc (.cells #[.int .i64 i, .string s] 58)).cell? ⟨w.heap.size, 0, none⟩ = some (.int .i64 i) := (b0.cell 0).trans rfl
  have c1 : (w.alloc (.cells #[.int .i64 i, .string s] 58)).cell? ⟨w.heap.size, 1, none⟩ = some (.string s) := (b0.cell 1).trans rfl
  go_enter Tryz.func55, Tryz.ntmps55
  go_wp2_with fail
  generalize (w.alloc (.cells #[.int .i64 i, .string s] 58)) = w0 at *
  refine (HE.out _).mono ?_
  rintro e w1 ⟨rfl, hb1⟩
  have HB1 : Hid (Below w.heap.size w w1) := HB0.out.trans (hb1.mono HB0.out.size)
  have b1 := b0.below hb1 b0.lt
  clear c0 c1 hb1 b0 HB0 HE
  have c1 : w1.cell? ⟨w.heap.size, 1, none⟩ = some (.string s) := (b1.cell 1).trans rfl
  by_cases h0 : EE = 0
  · subst h0
    have hpn : ¬ p < n := by
      rcases hb with h | h
      · exact absurd rfl h
      · exact h
    have HF1 := HF.out hpn w1 HB1.out
    have HR2 : Hid (r = 171) := by show _ = _; rw [HR.out, if_neg (by simp)]
    clear HF HR hb b1
    go_wp2_with fail
    refine HF1.mono ?_
    rintro e w2 ⟨rfl, hw⟩
    subst w2
    go_wp2_with fail
    go_ret3
    exact ⟨by rw [HR2.out] <;> rfl, HB1.out⟩
  · have HR2 : Hid (r = EE) := by show _ = _; rw [HR.out, if_pos h0]
    clear HF HR hb b1
    go_wp2_with fail
    go_ret3
    exact ⟨by rw [HR2.out] <;> rfl, HB1.out⟩
theorem lb_put0 {w : World} {g t cap : Nat} {N : Nat → Int} {S : Nat → ByteArray} {tl : Array Value} (h : Blk w g t (lbC tl cap N S)) (j : Nat) (hj : j < cap) (i : Int) : Blk (w.setCell ⟨g, j * 2, none⟩ (.int .i64 i)) g t (lbC tl cap (upN N j i) S) := by
  have h1 := h.put (j * 2) (.int .i64 i)
  have e : (lbC tl cap N S).setIfInBounds (j * 2) (.int .i64 i) = lbC tl cap (upN N j i) S := by
    unfold lbC
    rw [Array.setIfInBounds_append_left (by rw [va_size]; omega), va_set]
    congr 1
    refine va_congr fun q hq => ?_
    unfold upd lbF upN
    by_cases hq2 : q = j * 2
    · rw [if_pos hq2, if_pos (by omega), if_pos (by omega)]
    · rw [if_neg hq2]
      by_cases hm : q % 2 = 0
      · rw [if_pos hm, if_pos hm, if_neg (by omega)]
      · rw [if_neg hm, if_neg hm]
  rw [e] at h1
  exact h1
set_option maxRecDepth 100000 in
set_option maxHeartbeats 8000000 in
theorem rswap17_ok (a : Option Addr) (n c : Nat) (hn : n ≤ 16384) (hN : a = none → n = 0 ∧ c = 0) (N : Nat → Int) (S : Nat → ByteArray) (i : Int) (s : ByteArray) (p : Nat) (hp : FirstN S n p s) (hpn : p < n) (hi : encE i s = 0) (w : World) (hI : IsLkC w a n N S) :
    Calls Tryz.prog 55 #[.slice a n c, lkV i s] w fun e w' => ∃ g5 c5 : Nat, e = .returned (.tuple #[.slice (some ⟨g5, 0, none⟩) n c5, .int .i64 (N p), .int .i64 0]) ∧ IsLkC w' (some ⟨g5, 0, none⟩) n (upN N p i) S ∧ w.heap.size ≤ g5 ∧ Below w.heap.size w w' := by
  obtain ⟨i0, hi0, hz0, hz1, hz2⟩ := info_parts infoRLk
  have HE : Hid (∀ w : World, Calls Tryz.prog 112 #[lkV i s] w fun e w' => e = .returned (.tuple #[.string (encT i s), .int .i64 0]) ∧ Below w.heap.size w w') := fun w => by
    have := rencode_any i s w
    rw [hi] at this
    exact this
  have HF : Hid (∀ W, Below w.heap.size w W → Calls Tryz.prog 20 #[.slice a n c, .string s] W fun e w' => e = .returned (.tuple #[.int .i64 (N p), .int .i64 (p : Int)]) ∧ w' = W) := fun W hW => by
    have := rfind17_any a n c p (by omega) N S s hp _ _ rfl rfl W (hI.below hW)
    rw [if_pos hpn, if_pos hpn] at this
    exact this
  have HII : Hid (IsLkC w a n N S) := hI
  have HNN : Hid (a = none → n = 0 ∧ c = 0) := hN
  have hp0 : (0 : Int) ≤ (p : Int) := by omega
  have hpz : (p : Int) < (n : Int) := by omega
  clear hI hN hp hi
  generalize encT i s = ET at *
  generalize hNP : N p = NP at *
  unfold lkV at *
  have b0 : Blk (w.alloc (.cells #[.int .i64 i, .string s] 58)) w.heap.size 58 #[.int .i64 i, .string s] := Blk.new _ _ _
  have HB0 : Hid (Below w.heap.size w (w.alloc (.cells #[.int .i64 i, .string s] 58))) := below_new1 _ _
  have c0 : (w.alloc (.cells #[.int .i64 i, .string s] 58)).cell? ⟨w.heap.size, 0, none⟩ = some (.int .i64 i) := (b0.cell 0).trans rfl
  have c1 : (w.alloc (.cells #[.int .i64 i, .string s] 58)).cell? ⟨w.heap.size, 1, none⟩ = some (.string s) := (b0.cell 1).trans rfl
  go_enter Tryz.func55, Tryz.ntmps55
  go_wp2_with fail
  generalize (w.alloc (.cells #[.int .i64 i, .string s] 58)) = w0 at *
  refine (HE.out _).mono ?_
  rintro e W0 ⟨rfl, hb1⟩
  have HB1 : Hid (Below w.heap.size w W0) := HB0.out.trans (hb1.mono HB0.out.size)
  have b1 := b0.below hb1 b0.lt
  have HBX : Hid (Blk W0 w.heap.size 58 #[.int .i64 i, .string s]) := b1
  clear c0 c1 hb1 b0 HB0 HE
  have c1 : W0.cell? ⟨w.heap.size, 1, none⟩ = some (.string s) := (b1.cell 1).trans rfl
  have HF1 := HF.out W0 HB1.out
  clear HF b1
  go_wp2_with fail
  refine HF1.mono ?_
  rintro e w2 ⟨rfl, hw⟩
  subst w2
  clear HF1 c1
  have HE0 : Hid ((W0.alloc (.cells #[] 58)).ownsRow W0.heap.size 58 2 (.slice (some ⟨W0.heap.size, 0, none⟩) 0 0) 0 []) := kown_empty (Blk.new W0 58 #[]) (Nat.le_refl _)
  have HSA : Hid (Below W0.heap.size W0 (W0.alloc (.cells #[] 58))) := (Below.refl _ W0).alloc (Nat.le_refl _) _
  have HSZ : Hid (W0.heap.size ≤ (W0.alloc (.cells #[] 58)).heap.size) := HSA.out.size
  have HIA : Hid (IsLkC (W0.alloc (.cells #[] 58)) a n N S) := (HII.out.below HB1.out).below HSA.out
  go_upto_region 8 with (first | (refine wpList_append_links2 (by rfl) _ _ 28 (by rfl) W0.heap.size 58 i0 (.agg #[.int .i64 0, .string ⟨#[]⟩]) Tryz.underlying28 hi0 hz0 hz1 hz2 rfl (.slice (some ⟨W0.heap.size, 0, none⟩) 0 0) (by rfl) (by exact HE0.out) a n c N S (by rfl) (by exact HIA.out) HNN.out (by omega) (by exact HSZ.out) (fun v2 U2 ho2 hb2 hg2 => ?_); simp only [Act.put, sgPHDiRSmall]) | fail)
  obtain ⟨g2, c2, rfl, _⟩ := kown_form ho2 (by omega)
  obtain ⟨tl, hB, htl, hnc, hcm, hBg⟩ := own_lbR ho2
  have HGE : Hid (w.heap.size ≤ g2) := Nat.le_trans HB1.out.size hBg
  have d0 := lb_c0 hB p (by omega)
  have f0 : U2.frozen? ⟨g2, p * 2, none⟩ = false := hB.frozen _
  have c0 : U2.cell? ⟨w.heap.size, 0, none⟩ = some (.int .i64 i) := ((HBX.out.below (HSA.out.trans hb2) HBX.out.lt).cell 0).trans rfl
  have HK : Hid (Blk (U2.setCell ⟨g2, p * 2, none⟩ (.int .i64 i)) g2 58 (lbC tl n (upN N p i) S)) := lb_put0 hB p hpn i
  have HBE : Hid (Below w.heap.size w (U2.setCell ⟨g2, p * 2, none⟩ (.int .i64 i))) := (HB1.out.trans ((HSA.out.trans hb2).mono HB1.out.size)).setCell (p := ⟨g2, p * 2, none⟩) (Nat.le_trans HB1.out.size hBg) _
  clear hB htl hnc hcm hBg ho2 hb2 hg2 HE0 HSA HIA HSZ HNN HII HBX
  go_wp2_with fail
  go_ret3
  exact ⟨g2, c2, rfl, lb_lkC HK.out (Nat.le_refl _), HGE.out, HBE.out⟩
end Go.Proofs.YtojnlmfahgeidaaGreatDoor

namespace Go.Proofs.YtojnlmfahgeidaaGreatDoor
open Go Go.RowKit
set_option linter.unusedSimpArgs false
set_option linter.unusedVariables false
section
variable {w : World} {xp : Value} {a : Int}
set_option maxRecDepth 100000 in
theorem add_err (i t : Int) (s : ByteArray) (er : Int) (her : er ≠ 0) (HD : ∀ V, Below w.heap.size w V → Calls Tryz.prog 57 #[xp, .int .i64 a] V fun e w' => e = .returned (.tuple #[.agg nf0, .int .i64 er]) ∧ Below V.heap.size V w') : Calls Tryz.prog 50 #[xp, .int .i64 a, .agg #[.int .i64 i, .string s], .int .u64 t] w fun e w' => e = .returned (.int .i64 er) ∧ Below w.heap.size w w' := by
  have hzi : ∀ w, (zeroValue 86).run Tryz.prog w = .ok (.agg nf0) w := zero_nf
  have b0 : (er != 0) = true := bne_iff_ne.2 her
  have hb1 : Below w.heap.size w (w.alloc (.cells #[.int .i64 i, .string s] 36)) := below_new1 _ _
  have H1 := HD _ hb1
  clear HD her
  go_enter Tryz.func50, Tryz.ntmps50
  go_wp2_with fail
  generalize (w.alloc (.cells #[.int .i64 i, .string s] 36)) = w1 at *
  refine H1.mono ?_
  rintro e w2 ⟨rfl, hb2⟩
  have u1 : Blk (w2.alloc (.cells nf0 86)) w2.heap.size 86 nf0 := Blk.new _ _ _
  have u2 := u1.set nf0
  have hb12 := hb1.trans (hb2.mono hb1.size)
  have HB : Hid (Below w.heap.size w ((w2.alloc (.cells nf0 86)).setRow w2.heap.size nf0)) := below_setRow (hb12.alloc hb12.size _) hb12.size _
  clear hb1 hb2 hb12 H1
  go_wp2_with (first
    | (refine wpList_store_row (by rfl) 86 _ _ (by rfl) (w2.heap.size) (nf0) (by rfl) (by rfl) 86 (nf0) (by exact u1) (size_nf.trans (by rfl)) (by rfl) (nf_all _ _ _ _ _) ?_; simp only [Act.put, sgPHDiRSmall])
    | fail)
  go_ret
  exact ⟨rfl, HB.out⟩
set_option maxRecDepth 100000 in
theorem remove_err (s : ByteArray) (t : Int) (er : Int) (her : er ≠ 0) (HD : ∀ V, Below w.heap.size w V → Calls Tryz.prog 57 #[xp, .int .i64 a] V fun e w' => e = .returned (.tuple #[.agg nf0, .int .i64 er]) ∧ Below V.heap.size V w') : Calls Tryz.prog 52 #[xp, .int .i64 a, .string s, .int .u64 t] w fun e w' => e = .returned (.tuple #[.int .i64 0, .int .i64 er]) ∧ Below w.heap.size w w' := by
  have hzi : ∀ w, (zeroValue 86).run Tryz.prog w = .ok (.agg nf0) w := zero_nf
  have b0 : (er != 0) = true := bne_iff_ne.2 her
  have hb1 : Below w.heap.size w w := Below.refl _ _
  have H1 := HD _ hb1
  clear HD her
  go_enter Tryz.func52, Tryz.ntmps52
  go_wp2_with fail
  refine H1.mono ?_
  rintro e w2 ⟨rfl, hb2⟩
  have u1 : Blk (w2.alloc (.cells nf0 86)) w2.heap.size 86 nf0 := Blk.new _ _ _
  have u2 := u1.set nf0
  have hb12 := hb1.trans (hb2.mono hb1.size)
  have HB : Hid (Below w.heap.size w ((w2.alloc (.cells nf0 86)).setRow w2.heap.size nf0)) := below_setRow (hb12.alloc hb12.size _) hb12.size _
  clear hb1 hb2 hb12 H1
  go_wp2_with (first
    | (refine wpList_store_row (by rfl) 86 _ _ (by rfl) (w2.heap.size) (nf0) (by rfl) (by rfl) 86 (nf0) (by exact u1) (size_nf.trans (by rfl)) (by rfl) (nf_all _ _ _ _ _) ?_; simp only [Act.put, sgPHDiRSmall])
    | fail)
  go_ret2
  exact ⟨rfl, HB.out⟩
set_option maxRecDepth 100000 in
theorem swap_err (i t : Int) (s : ByteArray) (er : Int) (her : er ≠ 0) (HD : ∀ V, Below w.heap.size w V → Calls Tryz.prog 57 #[xp, .int .i64 a] V fun e w' => e = .returned (.tuple #[.agg nf0, .int .i64 er]) ∧ Below V.heap.size V w') : Calls Tryz.prog 54 #[xp, .int .i64 a, .agg #[.int .i64 i, .string s], .int .u64 t] w fun e w' => e = .returned (.tuple #[.int .i64 0, .int .i64 er]) ∧ Below w.heap.size w w' := by
  have hzi : ∀ w, (zeroValue 86).run Tryz.prog w = .ok (.agg nf0) w := zero_nf
  have b0 : (er != 0) = true := bne_iff_ne.2 her
  have hb1 : Below w.heap.size w (w.alloc (.cells #[.int .i64 i, .string s] 36)) := below_new1 _ _
  have H1 := HD _ hb1
  clear HD her
  go_enter Tryz.func54, Tryz.ntmps54
  go_wp2_with fail
  generalize (w.alloc (.cells #[.int .i64 i, .string s] 36)) = w1 at *
  refine H1.mono ?_
  rintro e w2 ⟨rfl, hb2⟩
  have u1 : Blk (w2.alloc (.cells nf0 86)) w2.heap.size 86 nf0 := Blk.new _ _ _
  have u2 := u1.set nf0
  have hb12 := hb1.trans (hb2.mono hb1.size)
  have HB : Hid (Below w.heap.size w ((w2.alloc (.cells nf0 86)).setRow w2.heap.size nf0)) := below_setRow (hb12.alloc hb12.size _) hb12.size _
  clear hb1 hb2 hb12 H1
  go_wp2_with (first
    | (refine wpList_store_row (by rfl) 86 _ _ (by rfl) (w2.heap.size) (nf0) (by rfl) (by rfl) 86 (nf0) (by exact u1) (size_nf.trans (by rfl)) (by rfl) (nf_all _ _ _ _ _) ?_; simp only [Act.put, sgPHDiRSmall])
    | fail)
  go_ret2
  exact ⟨rfl, HB.out⟩
set_option maxRecDepth 100000 in
theorem begins_err (s : ByteArray) (er : Int) (her : er ≠ 0) (HD : ∀ V, Below w.heap.size w V → Calls Tryz.prog 57 #[xp, .int .i64 a] V fun e w' => e = .returned (.tuple #[.agg nf0, .int .i64 er]) ∧ Below V.heap.size V w') : Calls Tryz.prog 25 #[xp, .int .i64 a, .string s] w fun e w' => e = .returned (.tuple #[.slice none 0 0, .int .i64 er]) ∧ Below w.heap.size w w' := by
  have hzi : ∀ w, (zeroValue 86).run Tryz.prog w = .ok (.agg nf0) w := zero_nf
  have b0 : (er != 0) = true := bne_iff_ne.2 her
  have hb1 : Below w.heap.size w (w.alloc (.cells #[.string s] 9)) := below_new1 _ _
  have H1 := HD _ hb1
  clear HD her
  go_enter Tryz.func25, Tryz.ntmps25
  go_wp2_with fail
  generalize (w.alloc (.cells #[.string s] 9)) = w1 at *
  refine H1.mono ?_
  rintro e w2 ⟨rfl, hb2⟩
  have u1 : Blk (w2.alloc (.cells nf0 86)) w2.heap.size 86 nf0 := Blk.new _ _ _
  have u2 := u1.set nf0
  have hb12 := hb1.trans (hb2.mono hb1.size)
  have HB : Hid (Below w.heap.size w ((w2.alloc (.cells nf0 86)).setRow w2.heap.size nf0)) := below_setRow (hb12.alloc hb12.size _) hb12.size _
  clear hb1 hb2 hb12 H1
  go_wp2_with (first
    | (refine wpList_store_row (by rfl) 86 _ _ (by rfl) (w2.heap.size) (nf0) (by rfl) (by rfl) 86 (nf0) (by exact u1) (size_nf.trans (by rfl)) (by rfl) (nf_all _ _ _ _ _) ?_; simp only [Act.put, sgPHDiRSmall])
    | fail)
  go_ret2
  exact ⟨rfl, HB.out⟩
end
end Go.Proofs.YtojnlmfahgeidaaGreatDoor

namespace Go.Proofs.YtojnlmfahgeidaaGreatDoor
open Go Go.RowKit
set_option linter.unusedSimpArgs false
set_option linter.unusedVariables false
/-- what is wrong with a directory's number -/
def refD (n : Int) : Int := if n < 1 ∨ 4096 < n then 141 else if n = 3 then 170 else if 3 < n then 151 else 0
set_option maxRecDepth 100000 in
theorem refused_any (n : Int) (w : World) : Calls Tryz.prog 19 #[.int .i64 n] w fun e w' => e = .returned (.int .i64 (refD n)) ∧ w' = w := by
  have HR : Hid (refD n = if n < 1 ∨ 4096 < n then 141 else if n = 3 then 170 else if 3 < n then 151 else 0) := rfl
  generalize refD n = R at *
  by_cases h1 : n < 1
  · have e : Hid (R = 141) := by show R = 141; rw [HR.out, if_pos (.inl h1)]
    clear HR
    go_enter Tryz.func19, Tryz.ntmps19
    go_wp2_with fail
    go_ret
    exact ⟨by rw [e.out]; rfl, rfl⟩
  · by_cases h2 : 4096 < n
    · have e : Hid (R = 141) := by show R = 141; rw [HR.out, if_pos (.inr h2)]
      clear HR
      go_enter Tryz.func19, Tryz.ntmps19
      go_wp2_with fail
      go_ret
      exact ⟨by rw [e.out]; rfl, rfl⟩
    · by_cases h3 : n = 3
      · subst h3
        have e : Hid (R = 170) := by show R = 170; rw [HR.out, if_neg (by decide), if_pos rfl]
        clear HR
        go_enter Tryz.func19, Tryz.ntmps19
        go_wp2_with fail
        go_ret
        exact ⟨by rw [e.out]; rfl, rfl⟩
      · by_cases h4 : 3 < n
        · have e : Hid (R = 151) := by show R = 151; rw [HR.out, if_neg (by omega), if_neg h3, if_pos h4]
          clear HR
          go_enter Tryz.func19, Tryz.ntmps19
          go_wp2_with fail
          go_ret
          exact ⟨by rw [e.out]; rfl, rfl⟩
        · have e : Hid (R = 0) := by show R = 0; rw [HR.out, if_neg (by omega), if_neg h3, if_neg h4]
          clear HR
          go_enter Tryz.func19, Tryz.ntmps19
          go_wp2_with fail
          go_ret
          exact ⟨by rw [e.out]; rfl, rfl⟩
end Go.Proofs.YtojnlmfahgeidaaGreatDoor
