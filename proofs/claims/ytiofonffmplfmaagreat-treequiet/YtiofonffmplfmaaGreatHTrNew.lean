/- A new cache on a quiet disk, as the trees' texts take them. -/
import Derived.Test.YtiofonffmplfmaaGreatHTrRng
import Derived.Handy
import Derived.Test.YtiofonffmplfmaaGreatHLvFill
import Derived.Test.YtiofonffmplfmaaGreatHLvLay
import Derived.Test.YtiofonffmplfmaaGreatHTrRngM
import Derived.Test.YtiofonffmplfmaaGreatHSegsTree
import Derived.Test.YtiofonffmplfmaaGreatHNdBlock

namespace Go.Proofs.YtiofonffmplfmaaGreat
theorem sgLHTrNew : (∀ (α : Type) (a : α) (l r : List α), (a :: l) ++ r = a :: (l ++ r)) ∧ (∀ (α : Type) (l : List α), [] ++ l = l) ∧ (∀ (α : Type) (l : List α), l ++ [] = l) ∧ (∀ (α β : Type) (f : α → Option β) (a : α) (l : List α), (a :: l).filterMap f = match f a with | none => l.filterMap f | some b => b :: l.filterMap f) ∧ (∀ (α β : Type) (f : α → Option β), [].filterMap f = []) ∧ (∀ (α : Type) (l : List α) (i : Nat), l.toArray[i]? = l[i]?) ∧ (∀ (α : Type) (a : α) (l : List α), (a :: l)[0]? = some a) ∧ (∀ (α : Type) (a : α) (l : List α) (i : Nat), (a :: l)[i + 1]? = l[i]?) :=
  ⟨fun _ _ _ _ => List.cons_append, fun _ _ => List.nil_append _, fun _ _ => List.append_nil _, fun _ _ _ _ _ => List.filterMap_cons, fun _ _ _ => List.filterMap_nil, fun _ _ _ => List.getElem?_toArray, fun _ _ _ => List.getElem?_cons_zero, fun _ _ _ _ => List.getElem?_cons_succ⟩
theorem sgPHTrNew : (∀ (α : Type) (l : List α) (i : Nat) (a : α), l.toArray.setIfInBounds i a = (l.set i a).toArray) ∧ (∀ (α : Type) (a b : α) (l : List α), (a :: l).set 0 b = b :: l) ∧ (∀ (α : Type) (a b : α) (l : List α) (i : Nat), (a :: l).set (i + 1) b = a :: l.set i b) :=
  ⟨fun _ _ _ _ => List.setIfInBounds_toArray _ _ _, fun _ _ _ _ => List.set_cons_zero, fun _ _ _ _ _ => List.set_cons_succ⟩
end Go.Proofs.YtiofonffmplfmaaGreat
namespace Go.Proofs.YtiofonffmplfmaaGreat
open Go Go.RowKit
set_option linter.unusedSimpArgs false
set_option linter.unusedVariables false
/-- leaves as cells -/
def lvV (s : Nat → Nat → Nat) : Nat → Value := fun j => .int .u8 ((s (j / 256) (j % 256) : Nat) : Int)
theorem lvV_over (s : Nat → Nat → Nat) (x : Nat) (f : Nat → Nat) : over (lvV s) (x * 256) (va 256 (iv .u8 f)).toList = lvV (updS s x f) := by
  funext j
  unfold over lvV updS
  rw [va_toList]
  by_cases h : x * 256 ≤ j ∧ j < x * 256 + 256
  · have e : j / 256 = x := by omega
    have e2 : j % 256 = j - x * 256 := by omega
    rw [if_pos (by simpa using h), if_pos e, e2, List.getD_eq_getElem?_getD, List.getElem?_map, List.getElem?_range (by omega)]
    rfl
  · have e : ¬ j / 256 = x := by omega
    rw [if_neg (by simpa using h), if_neg e]
/-- Range's variables: from, how many, the cache, the leaves -/
def QR (fb nb cb vb lk c f m : Nat) (s : Nat → Nat → Nat) (_ : Unit) (V : World) : Prop := Blk V fb 3 #[.int .i64 (f : Int)] ∧ Blk V nb 3 #[.int .i64 (m : Int)] ∧ Blk V cb 26 #[.pointer (some ⟨c, 0, none⟩)] ∧ Blk V vb 37 #[.slice (some ⟨lk, 0, none⟩) m m] ∧ Blk V lk 52 (va (m * 256) (lvV s)) ∧ (fb ≠ lk ∧ nb ≠ lk ∧ cb ≠ lk ∧ vb ≠ lk)
def ftR (fb nb cb vb lk : Nat) (_ : Unit) (b : Nat) : Prop := b = fb ∨ b = nb ∨ b = cb ∨ b = vb ∨ b = lk
theorem QR.keep {fb nb cb vb lk c f m : Nat} {s : Nat → Nat → Nat} {V W : World} {T : Nat → Prop} (h : QR fb nb cb vb lk c f m s () V) (ht : Turns T V W) (hT : ∀ b, T b → ¬ ftR fb nb cb vb lk () b) : QR fb nb cb vb lk c f m s () W :=
  ⟨ht.blk h.1 fun q => hT _ q (.inl rfl), ht.blk h.2.1 fun q => hT _ q (.inr (.inl rfl)), ht.blk h.2.2.1 fun q => hT _ q (.inr (.inr (.inl rfl))), ht.blk h.2.2.2.1 fun q => hT _ q (.inr (.inr (.inr (.inl rfl)))), ht.blk h.2.2.2.2.1 fun q => hT _ q (.inr (.inr (.inr (.inr rfl)))), h.2.2.2.2.2⟩
theorem rg_cells {S : Nat → Prop} (b : Nat) (hS : S b) : ∀ (vs : List Value) (o : Nat) (v w : World), Turns S v w → Turns S v (w.setCells b o vs)
  | [], o, v, w, h => h
  | x :: vs, o, v, w, h => by
    rw [World.setCells]
    exact rg_cells b hS vs (o + 1) v _ (turns_set h hS)
theorem rg_store {P : Program} {w : World} {g o : Nat} {cs : Array Value} (ht : w.there g o cs.size) (h1 : ∀ v ∈ cs.toList, v.oneCell' = true) : (storeCells ⟨g, o, none⟩ cs.toList).run P w = .ok () (w.setCells g o cs.toList) := by
  have := run_storeCells_cells (P := P) g o cs.toList 0 w (fun j hj => by simpa using (ht j (by simpa using hj)).1) (fun j hj => by simpa using (ht j (by simpa using hj)).2) h1
  simpa using this
section
variable {B g N c m0 room i : Nat} {F : Nat → Nat} {U : Nat → Prop} {fb nb cb vb lk f m : Nat} {s : Nat → Nat → Nat}
set_option maxRecDepth 100000 in
set_option maxHeartbeats 8000000 in
/-- what is not asked for, or lies above the leaves -/
theorem range1_up (n pn : Nat) (R : Rf) (hn : n ≤ 6) (hp : (pn + 1) * 4 ^ n ≤ 4096) (hf : f + m ≤ 4096) (hno : ¬ (covR f m n (pn : Int) ∧ n = 0)) (V : World) (h1 : Blk V fb 3 #[.int .i64 (f : Int)]) (h2 : Blk V nb 3 #[.int .i64 (m : Int)]) : Calls Tryz.prog 30 #[.agg (poC (n : Int) (pn : Int) R), .pointer (some ⟨fb, 0, none⟩), .pointer (some ⟨nb, 0, none⟩), .pointer (some ⟨cb, 0, none⟩), .pointer (some ⟨vb, 0, none⟩)] V fun e w' => e = .returned (.tuple #[.bool (decide (covR f m n (pn : Int))), .int .i64 0]) ∧ Below V.heap.size V w' := by
  have hb1 : Below V.heap.size V (V.alloc (.cells (poC (n : Int) (pn : Int) R) 73)) := below_new1 _ _
  have t1 : Blk (V.alloc (.cells (poC (n : Int) (pn : Int) R) 73)) V.heap.size 73 (poC (n : Int) (pn : Int) R) := Blk.new _ _ _
  have c1 : (V.alloc (.cells (poC (n : Int) (pn : Int) R) 73)).cell? ⟨fb, 0, none⟩ = some (.int .i64 (f : Int)) := ((h1.alloc _).cell 0).trans rfl
  have c2 : (V.alloc (.cells (poC (n : Int) (pn : Int) R) 73)).cell? ⟨nb, 0, none⟩ = some (.int .i64 (m : Int)) := ((h2.alloc _).cell 0).trans rfl
  have HCo : Hid (∀ w, Calls Tryz.prog 31 #[.agg (poC (n : Int) (pn : Int) R), .int .i64 (f : Int), .int .i64 (m : Int)] w fun e w' => e = .returned (.bool (decide (covR f m n (pn : Int)))) ∧ Below w.heap.size w w') := fun w => covers_any n pn R f m hn hp hf w
  have HB1 : Hid (Below V.heap.size V (V.alloc (.cells (poC (n : Int) (pn : Int) R) 73))) := hb1
  clear hb1 h1 h2 hf hp
  go_enter Tryz.func30, Tryz.ntmps30
  go_wp2_with (first
    | (refine wpList_load_rowg (by rfl) 73 _ (by rfl) (V.heap.size) (by rfl) 73 (poC (n : Int) (pn : Int) R) (0, 0) _ (by exact t1) Tryz.underlying73 (by rfl) (sizePo.trans (by rw [poC_size])) ?_; simp only [Act.put, sgPHTrNew])
    | fail)
  generalize (V.alloc (.cells (poC (n : Int) (pn : Int) R) 73)) = w1 at *
  refine (HCo.out w1).mono ?_
  rintro e w2 ⟨rfl, hb2⟩
  have HB2 : Hid (Below V.heap.size V w2) := HB1.out.trans (hb2.mono HB1.out.size)
  have z2 : w2.cell? ⟨V.heap.size, 0, none⟩ = some (.int .i64 (n : Int)) := ((t1.below hb2 t1.lt).cell 0).trans (va_at (poF (n : Int) (pn : Int) R) (by decide))
  clear hb2 t1 c1 c2 HCo HB1
  by_cases hc : covR f m n (pn : Int)
  · have hnn : ¬ n = 0 := fun q => hno ⟨hc, q⟩
    have hn0 : (0 : Int) < (n : Int) := by omega
    have HD : Hid (decide (covR f m n (pn : Int)) = true) := decide_eq_true hc
    rw [HD.out]
    clear hno hc
    go_wp2_with fail
    go_ret2
    exact ⟨by rw [HD.out]; rfl, HB2.out⟩
  · have HD : Hid (decide (covR f m n (pn : Int)) = false) := decide_eq_false hc
    rw [HD.out]
    clear hno hc
    go_wp2_with fail
    go_ret2
    exact ⟨by rw [HD.out]; rfl, HB2.out⟩
set_option maxRecDepth 100000 in
set_option maxHeartbeats 8000000 in
/-- a leaf that is asked for -/
theorem range1_leaf (pn : Nat) (R : Rf) (hR : R.1 < 4294967296) (hp : pn + 1 ≤ 4096) (hf : f + m ≤ 4096) (hc : covR f m 0 (pn : Int)) (hi : i < 34359738000) (V : World) (HT : TD V B g N F c m0 room i U) (HQ : QR fb nb cb vb lk c f m s () V) (hap : ∀ b, ftR fb nb cb vb lk () b → ¬ U b) (hlt : ∀ b, ftR fb nb cb vb lk () b → b < V.heap.size) : Calls Tryz.prog 30 #[.agg (poC 0 (pn : Int) R), .pointer (some ⟨fb, 0, none⟩), .pointer (some ⟨nb, 0, none⟩), .pointer (some ⟨cb, 0, none⟩), .pointer (some ⟨vb, 0, none⟩)] V fun e w' => e = .returned (.tuple #[.bool false, .int .i64 (gotE F N R)]) ∧ ∃ U', TD w' B g N F c m0 room (i + 1) U' ∧ QR fb nb cb vb lk c f m (updS s (pn - f) (gotF F N R)) () w' ∧ Turns (fun b => U b ∨ ftR fb nb cb vb lk () b) V w' ∧ (∀ b, U' b → U b ∨ V.heap.size ≤ b) := by
  have hz := zero_bk
  have hin : f ≤ pn ∧ pn < f + m := by
    unfold covR at hc
    simp only [Nat.pow_zero, Int.ofNat_one, Int.mul_one] at hc
    omega
  have hb1 : Below V.heap.size V (V.alloc (.cells (poC 0 (pn : Int) R) 73)) := below_new1 _ _
  have t1 : Blk (V.alloc (.cells (poC 0 (pn : Int) R) 73)) V.heap.size 73 (poC 0 (pn : Int) R) := Blk.new _ _ _
  have c1 : (V.alloc (.cells (poC 0 (pn : Int) R) 73)).cell? ⟨fb, 0, none⟩ = some (.int .i64 (f : Int)) := ((HQ.1.alloc _).cell 0).trans rfl
  have c2 : (V.alloc (.cells (poC 0 (pn : Int) R) 73)).cell? ⟨nb, 0, none⟩ = some (.int .i64 (m : Int)) := ((HQ.2.1.alloc _).cell 0).trans rfl
  have HCo : Hid (∀ w, Calls Tryz.prog 31 #[.agg (poC 0 (pn : Int) R), .int .i64 (f : Int), .int .i64 (m : Int)] w fun e w' => e = .returned (.bool true) ∧ Below w.heap.size w w') := fun w => by
    have := covers_any 0 pn R f m (by omega) (by simpa using hp) hf w
    rw [decide_eq_true hc] at this
    exact this
  have HGt : Hid (∀ w, TD w B g N F c m0 room i U → Calls Tryz.prog 32 #[.pointer (some ⟨c, 0, none⟩), .agg (rfC R)] w fun x w' => x = .returned (.tuple #[.agg (va 256 (iv .u8 (gotF F N R))), .int .i64 (gotE F N R)]) ∧ TDStep w w' B g N F c m0 room (i + 1) U) := fun w h1 => get_td R hR (by omega) w h1
  have HB1 : Hid (Below V.heap.size V (V.alloc (.cells (poC 0 (pn : Int) R) 73))) := hb1
  have HT0 : Hid (TD V B g N F c m0 room i U) := HT
  have HQ0 : Hid (QR fb nb cb vb lk c f m s () V) := HQ
  have HAP : Hid ((∀ b, ftR fb nb cb vb lk () b → ¬ U b) ∧ ∀ b, ftR fb nb cb vb lk () b → b < V.heap.size) := ⟨hap, hlt⟩
  generalize gotF F N R = gf at *
  generalize gotE F N R = ge at *
  clear hb1 HT HQ hap hlt hc hR hi hp
  go_enter Tryz.func30, Tryz.ntmps30
  go_wp2_with (first
    | (refine wpList_load_rowg (by rfl) 73 _ (by rfl) (V.heap.size) (by rfl) 73 (poC 0 (pn : Int) R) (0, 0) _ (by exact t1) Tryz.underlying73 (by rfl) (sizePo.trans (by rw [poC_size])) ?_; simp only [Act.put, sgPHTrNew])
    | fail)
  generalize (V.alloc (.cells (poC 0 (pn : Int) R) 73)) = w1 at *
  refine (HCo.out w1).mono ?_
  rintro e w2 ⟨rfl, hb2⟩
  have HB2 : Hid (Below V.heap.size V w2) := HB1.out.trans (hb2.mono HB1.out.size)
  have t2 := t1.below hb2 t1.lt
  have HP2 : Hid (Blk w2 V.heap.size 73 (poC 0 (pn : Int) R)) := t2
  have z2 : w2.cell? ⟨V.heap.size, 0, none⟩ = some (.int .i64 0) := (t2.cell 0).trans (va_at (poF 0 (pn : Int) R) (by decide))
  have HRP : Hid (w2.rangeAt V.heap.size 2 ((List.range 33).map (rfF R.1 R.2))) := po_range t2
  have HT2 : Hid (TD w2 B g N F c m0 room i U) := HT0.out.below HB2.out
  have HQ2 : Hid (QR fb nb cb vb lk c f m s () w2) := HQ0.out.keep (T := fun _ => False) (.of_below HB2.out) fun _ q => q.elim
  have c3 : w2.cell? ⟨cb, 0, none⟩ = some (.pointer (some ⟨c, 0, none⟩)) := (HQ2.out.2.2.1.cell 0).trans rfl
  clear hb2 t1 t2 c1 c2 HCo HB1
  go_wp2_with (first
    | (refine wpList_load_blk (by rfl) 43 _ (by rfl) (V.heap.size) (2) 33 (rfF R.1 R.2) (by rfl) _ (by exact HRP.out) Tryz.underlying43 rfl tsizeRef ?_; simp only [Act.put, sgPHTrNew])
    | fail)
  refine (HGt.out w2 HT2.out).mono ?_
  rintro e w3 ⟨rfl, V3, ht3, hn3, hv3⟩
  have hq3 : QR fb nb cb vb lk c f m s () w3 := HQ2.out.keep hn3 fun b q q2 => HAP.out.1 b q2 q
  have hp3 : Blk w3 V.heap.size 73 (poC 0 (pn : Int) R) := hn3.blk HP2.out fun q => by have := (HT0.out.lt _ q).2; omega
  have q0 : Blk (w3.alloc (.cells (va 256 (iv .u8 fun _ => 0)) 52)) w3.heap.size 52 (va 256 (iv .u8 fun _ => 0)) := Blk.new _ _ _
  have k4 : Blk ((w3.alloc (.cells (va 256 (iv .u8 fun _ => 0)) 52)).setRow w3.heap.size (va 256 (iv .u8 gf))) w3.heap.size 52 (va 256 (iv .u8 gf)) := q0.set _
  have hb4 : Below w3.heap.size w3 ((w3.alloc (.cells (va 256 (iv .u8 fun _ => 0)) 52)).setRow w3.heap.size (va 256 (iv .u8 gf))) := below_setRow (below_new1 _ _) (Nat.le_refl _) _
  have HQ4 : Hid (QR fb nb cb vb lk c f m s () ((w3.alloc (.cells (va 256 (iv .u8 fun _ => 0)) 52)).setRow w3.heap.size (va 256 (iv .u8 gf)))) := hq3.keep (T := fun _ => False) (.of_below hb4) fun _ q => q.elim
  have hp4 := hp3.below hb4 hp3.lt
  have HT4 : Hid (TD ((w3.alloc (.cells (va 256 (iv .u8 fun _ => 0)) 52)).setRow w3.heap.size (va 256 (iv .u8 gf))) B g N F c m0 room (i + 1) V3) := ht3.below hb4
  have HN4 : Hid (Turns U V ((w3.alloc (.cells (va 256 (iv .u8 fun _ => 0)) 52)).setRow w3.heap.size (va 256 (iv .u8 gf)))) := ((Turns.of_below (S := U) HB2.out).trans hn3 fun b q => .inl q).trans (Turns.of_below (S := U) hb4) fun b q => .inl q
  have HV4 : Hid (∀ b, V3 b → U b ∨ V.heap.size ≤ b) := fun b q => (hv3 b q).imp id fun u => Nat.le_trans HB2.out.size u
  have d1 : ((w3.alloc (.cells (va 256 (iv .u8 fun _ => 0)) 52)).setRow w3.heap.size (va 256 (iv .u8 gf))).cell? ⟨vb, 0, none⟩ = some (.slice (some ⟨lk, 0, none⟩) m m) := (HQ4.out.2.2.2.1.cell 0).trans rfl
  have d2 : ((w3.alloc (.cells (va 256 (iv .u8 fun _ => 0)) 52)).setRow w3.heap.size (va 256 (iv .u8 gf))).cell? ⟨fb, 0, none⟩ = some (.int .i64 (f : Int)) := (HQ4.out.1.cell 0).trans rfl
  have d3 : ((w3.alloc (.cells (va 256 (iv .u8 fun _ => 0)) 52)).setRow w3.heap.size (va 256 (iv .u8 gf))).cell? ⟨V.heap.size, 1, none⟩ = some (.int .i64 (pn : Int)) := (hp4.cell 1).trans (va_at (poF 0 (pn : Int) R) (by decide))
  have HTH : Hid (((w3.alloc (.cells (va 256 (iv .u8 fun _ => 0)) 52)).setRow w3.heap.size (va 256 (iv .u8 gf))).there lk ((pn - f) * 256) (va 256 (iv .u8 gf)).size) := Blk.there HQ4.out.2.2.2.2.1 _ _ (by rw [va_size, va_size]; omega)
  clear ht3 hn3 hv3 hq3 hp3 hb4 hp4 z2 c3 HP2 HRP HT2 HQ2 HGt
  obtain ⟨x, hx⟩ : ∃ x : Nat, pn = f + x := ⟨pn - f, by omega⟩
  subst hx
  have hsb : wrap64 (((f + x : Nat) : Int) - (f : Int)) = (x : Int) := by
    rw [show ((f + x : Nat) : Int) - (f : Int) = (x : Int) by omega]
    exact wrap64_at _ (by omega)
  have hx0 : (0 : Int) ≤ (x : Int) := by omega
  have hx1 : (x : Int) < (m : Int) := by omega
  rw [show f + x - f = x by omega] at *
  have HST : Sem.run Tryz.prog (storeCells ⟨lk, x * 256, none⟩ (va 256 (iv .u8 gf)).toList) ((w3.alloc (.cells (va 256 (iv .u8 fun _ => 0)) 52)).setRow w3.heap.size (va 256 (iv .u8 gf))) = .ok () (((w3.alloc (.cells (va 256 (iv .u8 fun _ => 0)) 52)).setRow w3.heap.size (va 256 (iv .u8 gf))).setCells lk (x * 256) (va 256 (iv .u8 gf)).toList) := rg_store HTH.out (fun v hv => by
    have h1 := Array.all_eq_true_iff_forall_mem.1 (iv_one _ _ _) v (by simpa using hv)
    exact h1)
  have HQ5 : Hid (QR fb nb cb vb lk c f m (updS s x gf) () (((w3.alloc (.cells (va 256 (iv .u8 fun _ => 0)) 52)).setRow w3.heap.size (va 256 (iv .u8 gf))).setCells lk (x * 256) (va 256 (iv .u8 gf)).toList)) := by
    have h := HQ4.out
    refine ⟨Blk.cells_other h.2.2.2.2.2.1 _ _ _ h.1, Blk.cells_other h.2.2.2.2.2.2.1 _ _ _ h.2.1, Blk.cells_other h.2.2.2.2.2.2.2.1 _ _ _ h.2.2.1, Blk.cells_other h.2.2.2.2.2.2.2.2 _ _ _ h.2.2.2.1, ?_, h.2.2.2.2.2⟩
    have := Blk.cells_put (va 256 (iv .u8 gf)).toList (x * 256) _ _ h.2.2.2.2.1
    rw [lvV_over] at this
    exact this
  have hT5 : Turns (fun b => b = lk) ((w3.alloc (.cells (va 256 (iv .u8 fun _ => 0)) 52)).setRow w3.heap.size (va 256 (iv .u8 gf))) (((w3.alloc (.cells (va 256 (iv .u8 fun _ => 0)) 52)).setRow w3.heap.size (va 256 (iv .u8 gf))).setCells lk (x * 256) (va 256 (iv .u8 gf)).toList) := rg_cells (S := fun b => b = lk) lk rfl _ _ _ _ (turns_refl _)
  have HN5 : Hid (Turns (fun b => U b ∨ ftR fb nb cb vb lk () b) V (((w3.alloc (.cells (va 256 (iv .u8 fun _ => 0)) 52)).setRow w3.heap.size (va 256 (iv .u8 gf))).setCells lk (x * 256) (va 256 (iv .u8 gf)).toList)) := (HN4.out.mono fun b q => .inl q).trans hT5 fun b q => .inl (.inr (.inr (.inr (.inr (.inr q)))))
  have HT5 : Hid (TD (((w3.alloc (.cells (va 256 (iv .u8 fun _ => 0)) 52)).setRow w3.heap.size (va 256 (iv .u8 gf))).setCells lk (x * 256) (va 256 (iv .u8 gf)).toList) B g N F c m0 room (i + 1) V3) := HT4.out.kept hT5.size fun b q => hT5.block b (HT4.out.lt b q).2 fun e => by
    subst e
    rcases HV4.out _ q with h | h
    · exact HAP.out.1 _ (.inr (.inr (.inr (.inr rfl)))) h
    · have := HAP.out.2 _ (.inr (.inr (.inr (.inr rfl))))
      omega
  clear hT5 HT4 HN4 HQ4
  go_wp2_with (first
    | (refine wpList_store_row (by rfl) 52 _ _ (by rfl) (w3.heap.size) (va 256 (iv .u8 gf)) (by rfl) (by rfl) 52 _ q0 (sizeBk.trans (by rw [va_size])) (by simp only [va_size]) (iv_one _ _ _) ?_; simp only [Act.put, sgPHTrNew])
    | (refine wpList_load_row (by rfl) 52 _ (by rfl) (w3.heap.size) (by rfl) 52 (va 256 (iv .u8 gf)) (0, 0) _ k4 Tryz.underlying52 (by rfl) (sizeBk.trans (by rw [va_size])) ?_; simp only [Act.put, sgPHTrNew])
    | fail)
  go_ret2
  exact ⟨rfl, V3, HT5.out, by rw [show f + x - f = x by omega]; exact HQ5.out, HN5.out, HV4.out⟩
theorem stR_up {F : Nat → Nat} {N f m : Nat} {s : Nat → Nat → Nat} {l : Nat} {p : Int} {R : Rf} (hc : ¬ (covR f m l p ∧ l = 0)) : stR F N f m s l p R = (s, decide (covR f m l p), 0) := by
  unfold stR
  by_cases h : covR f m l p
  · rw [if_pos h, if_neg fun q => hc ⟨h, q⟩, decide_eq_true h]
  · rw [if_neg h, decide_eq_false h]
theorem range_keep : ∀ (s : Nat → Nat → Nat) (z : Unit) (V V' : World) (T : Nat → Prop), QR fb nb cb vb lk c f m s z V → Turns T V V' → (∀ b, T b → ¬ ftR fb nb cb vb lk z b) → QR fb nb cb vb lk c f m s z V' := fun s z V V' T h ht hT => QR.keep h ht hT
theorem range1_wk (hf : f + m ≤ 4096) : WK 30 #[.pointer (some ⟨fb, 0, none⟩), .pointer (some ⟨nb, 0, none⟩), .pointer (some ⟨cb, 0, none⟩), .pointer (some ⟨vb, 0, none⟩)] B g N F c m0 room (ftR fb nb cb vb lk) (QR fb nb cb vb lk c f m) (fun _ => 0) (stR F N f m) where
  call := fun s z V i U l p R hl h0 hp hR hRn hi h => by
    obtain ⟨pn, rfl⟩ : ∃ pn : Nat, p = (pn : Int) := ⟨p.toNat, by omega⟩
    have hp' : (pn + 1) * 4 ^ l ≤ 4096 := by
      have e : ((pn : Int) + 1) * ((4 ^ l : Nat) : Int) = (((pn + 1) * 4 ^ l : Nat) : Int) := by push_cast; rfl
      rw [e] at hp
      exact Int.ofNat_le.1 hp
    by_cases hc : covR f m l (pn : Int) ∧ l = 0
    · obtain ⟨hc, rfl⟩ := hc
      refine (range1_leaf (s := s) pn R hR (by rw [Nat.pow_zero, Nat.mul_one] at hp'; exact hp') hf hc hi V h.td h.q h.ap h.lt).mono ?_
      rintro e w' ⟨rfl, U', t1, t2, t3, t4⟩
      have e : stR F N f m s 0 (pn : Int) R = (updS s (pn - f) (gotF F N R), false, gotE F N R) := by
        unfold stR
        rw [if_pos hc, if_pos rfl, show ((pn : Int) - (f : Int)).toNat = pn - f by omega]
      rw [e]
      refine ⟨rfl, U', (), ⟨t1, t2, fun b q q2 => ?_, Nat.zero_le _, fun b q => Nat.lt_of_lt_of_le (h.lt b q) t3.size⟩, t3, fun b q => ?_⟩
      · rcases t4 b q2 with u | u
        · exact h.ap b q u
        · have := h.lt b q
          omega
      · rcases q with q | q
        · exact (t4 b q).imp .inl id
        · exact .inl (.inr q)
    · refine (range1_up l pn R hl hp' hf hc V h.q.1 h.q.2.1).mono ?_
      rintro e w' ⟨rfl, hb⟩
      rw [stR_up hc]
      have h2 := (WS.below range_keep h hb).mono (Nat.le_succ i)
      exact ⟨rfl, WSt.of h2 hb⟩
  keep := range_keep
end
end Go.Proofs.YtiofonffmplfmaaGreat

namespace Go.Proofs.YtiofonffmplfmaaGreat
open Go Go.RowKit
set_option linter.unusedSimpArgs false
set_option linter.unusedVariables false
set_option maxRecDepth 100000 in
theorem range1_ef : ∀ args w, (callFunc 30 args).run Tryz.prog w = .ok (.enter 30 args) w := fun args w => rfl
/-- may Range be asked so? -/
def rgOk (h fr n : Int) : Prop := 0 ≤ fr ∧ 0 ≤ n ∧ fr ≤ ((4 ^ h.toNat : Nat) : Int) - n
instance (h fr n : Int) : Decidable (rgOk h fr n) := by unfold rgOk; infer_instance
/-- what Range answers: leaves or none, and what is wrong -/
def rangeR (F : Nat → Nat) (N : Nat) (h : Int) (R : Rf) (fr n : Int) : Option (Nat → Nat → Nat) × Int :=
  if trOk h R then
    if rgOk h fr n then
      if (wlkR F N (stR F N fr.toNat n.toNat) h.toNat (fun _ _ => 0) 0 R).2 = 0 then (some (wlkR F N (stR F N fr.toNat n.toNat) h.toNat (fun _ _ => 0) 0 R).1, 0)
      else (none, (wlkR F N (stR F N fr.toNat n.toNat) h.toNat (fun _ _ => 0) 0 R).2)
    else (none, 90)
  else (none, 1)
/-- leaves at an address, or none -/
def LvAt (w0 : World) (n : Nat) (o : Option (Nat → Nat → Nat)) (v : Value) (U : Nat → Prop) (W : World) : Prop := match o with
  | none => v = .slice none 0 0
  | some s => ∃ lk, v = .slice (some ⟨lk, 0, none⟩) n n ∧ w0.heap.size ≤ lk ∧ ¬ U lk ∧ Blk W lk 52 (va (n * 256) (lvV s))
section
variable {B g N c m0 room i : Nat} {F : Nat → Nat} {U : Nat → Prop}
set_option maxRecDepth 100000 in
set_option maxHeartbeats 8000000 in
theorem range9_any (h : Int) (R : Rf) (fr n : Int) (hR : R.1 < 4294967296) (hD : okD R.2) (hF : ∀ a, F a < 256) (hfr : -9223372036854775808 ≤ fr ∧ fr < 9223372036854775808) (hn : -9223372036854775808 ≤ n ∧ n < 9223372036854775808) (hi : i < 34359700000) (w : World) (H : TD w B g N F c m0 room i U) : Calls Tryz.prog 8 #[.pointer (some ⟨c, 0, none⟩), .agg (trC h R), .int .i64 fr, .int .i64 n] w fun e w' => ∃ v, e = .returned (.tuple #[v, .int .i64 (rangeR F N h R fr n).2]) ∧ ∃ U', TD w' B g N F c m0 room (i + 10922) U' ∧ Turns U w w' ∧ (∀ b, U' b → U b ∨ w.heap.size ≤ b) ∧ LvAt w n.toNat (rangeR F N h R fr n).1 v U' w' := by
  have b1 : Below w.heap.size w ((((w.alloc (.cells #[.pointer (some ⟨c, 0, none⟩)] 26)).alloc (.cells (trC h R) 45)).alloc (.cells #[.int .i64 fr] 3)).alloc (.cells #[.int .i64 n] 3)) := ((below_new3 w _ _ _).alloc (by simp; omega) _)
  have k0 : Blk ((((w.alloc (.cells #[.pointer (some ⟨c, 0, none⟩)] 26)).alloc (.cells (trC h R) 45)).alloc (.cells #[.int .i64 fr] 3)).alloc (.cells #[.int .i64 n] 3)) w.heap.size 26 #[.pointer (some ⟨c, 0, none⟩)] := (((Blk.new _ _ _).alloc _).alloc _).alloc _
  have k1 : Blk ((((w.alloc (.cells #[.pointer (some ⟨c, 0, none⟩)] 26)).alloc (.cells (trC h R) 45)).alloc (.cells #[.int .i64 fr] 3)).alloc (.cells #[.int .i64 n] 3)) (w.heap.size + 1) 45 (trC h R) := ((Blk.new1 _ _ _ _).alloc _).alloc _
  have k2 : Blk ((((w.alloc (.cells #[.pointer (some ⟨c, 0, none⟩)] 26)).alloc (.cells (trC h R) 45)).alloc (.cells #[.int .i64 fr] 3)).alloc (.cells #[.int .i64 n] 3)) (w.heap.size + 2) 3 #[.int .i64 fr] := (Blk.new2 _ _ _ _ _).alloc _
  have k3 : Blk ((((w.alloc (.cells #[.pointer (some ⟨c, 0, none⟩)] 26)).alloc (.cells (trC h R) 45)).alloc (.cells #[.int .i64 fr] 3)).alloc (.cells #[.int .i64 n] 3)) (w.heap.size + 3) 3 #[.int .i64 n] := by
    have := Blk.new (((w.alloc (.cells #[.pointer (some ⟨c, 0, none⟩)] 26)).alloc (.cells (trC h R) 45)).alloc (.cells #[.int .i64 fr] 3)) 3 #[.int .i64 n]
    rw [show (((w.alloc (.cells #[.pointer (some ⟨c, 0, none⟩)] 26)).alloc (.cells (trC h R) 45)).alloc (.cells #[.int .i64 fr] 3)).heap.size = w.heap.size + 3 by simp] at this
    exact this
  have HB1 : Hid (Below w.heap.size w ((((w.alloc (.cells #[.pointer (some ⟨c, 0, none⟩)] 26)).alloc (.cells (trC h R) 45)).alloc (.cells #[.int .i64 fr] 3)).alloc (.cells #[.int .i64 n] 3))) := b1
  have HH : Hid (R.1 < 4294967296 ∧ okD R.2 ∧ (∀ a, F a < 256) ∧ i < 34359700000 ∧ TD w B g N F c m0 room i U) := ⟨hR, hD, hF, hi, H⟩
  have HNN : Hid ((-9223372036854775808 ≤ fr ∧ fr < 9223372036854775808) ∧ -9223372036854775808 ≤ n ∧ n < 9223372036854775808) := ⟨hfr, hn⟩
  clear b1 H hR hD hF hi hfr hn
  go_enter Tryz.func8, Tryz.ntmps8
  go_wp2_with (first
    | (refine wpList_load_rowg (by rfl) 45 _ (by rfl) (w.heap.size + 1) (by rfl) 45 (trC h R) (0, 0) _ (by exact k1) Tryz.underlying45 (by rfl) (sizeTr.trans (by rw [trC_size])) ?_; simp only [Act.put, sgPHTrNew])
    | fail)
  generalize ((((w.alloc (.cells #[.pointer (some ⟨c, 0, none⟩)] 26)).alloc (.cells (trC h R) 45)).alloc (.cells #[.int .i64 fr] 3)).alloc (.cells #[.int .i64 n] 3)) = w1 at *
  refine (tright_any h R HH.out.1 HH.out.2.1 w1).mono ?_
  rintro x w2 ⟨rfl, hb2⟩
  have HB2 : Hid (Below w.heap.size w w2) := HB1.out.trans (hb2.mono HB1.out.size)
  have q0 := k0.below hb2 k0.lt
  have q1 := k1.below hb2 k1.lt
  have q2 := k2.below hb2 k2.lt
  have q3 := k3.below hb2 k3.lt
  have c1 : w2.cell? ⟨w.heap.size + 1, 0, none⟩ = some (.int .i64 h) := (q1.cell 0).trans (va_at (trF h R) (by decide))
  have c2 : w2.cell? ⟨w.heap.size + 2, 0, none⟩ = some (.int .i64 fr) := (q2.cell 0).trans rfl
  have c3 : w2.cell? ⟨w.heap.size + 3, 0, none⟩ = some (.int .i64 n) := (q3.cell 0).trans rfl
  clear hb2 k0 k1 k2 k3 HB1
  by_cases hok : trOk h R
  · rw [decide_eq_true hok]
    have HR : Hid (trOk h R) := hok
    have HIN : Hid (0 ≤ h ∧ h ≤ 6) := ⟨hok.2.1, hok.2.2⟩
    obtain ⟨k, rfl⟩ := Int.eq_ofNat_of_zero_le HIN.out.1
    clear hok
    have HC : Hid (∀ w, Calls Tryz.prog 26 #[.int .i64 (k : Int)] w fun e w' => e = .returned (.tuple #[.int .i64 ((4 ^ k : Nat) : Int), .int .i64 0]) ∧ w = w') := fun w => capacity_ok k _ (by have := HIN.out.2; omega) rfl w
    have HK : Hid (1 ≤ 4 ^ k ∧ 4 ^ k ≤ 4096) := ⟨pow4_pos k, pow4_le k (by have := HIN.out.2; omega)⟩
    obtain ⟨mc, hmc⟩ : ∃ mc, 4 ^ k = mc := ⟨_, rfl⟩
    rw [hmc] at HC HK
    have HM : Hid (4 ^ k = mc) := hmc
    clear hmc
    go_wp2_with fail
    refine (HC.out w2).mono ?_
    rintro x w3 ⟨rfl, rfl⟩
    by_cases hg : rgOk (k : Int) fr n
    · have HG : Hid (0 ≤ fr ∧ 0 ≤ n ∧ fr + n ≤ (mc : Int)) := by
        have := hg
        unfold rgOk at this
        rw [Int.toNat_natCast, HM.out] at this
        exact ⟨this.1, this.2.1, by omega⟩
      obtain ⟨f, rfl⟩ := Int.eq_ofNat_of_zero_le HG.out.1
      obtain ⟨m, rfl⟩ := Int.eq_ofNat_of_zero_le HG.out.2.1
      have HGG : Hid (rgOk (k : Int) (f : Int) (m : Int)) := hg
      have hmk := make_bks m (by have := HG.out; have := HK.out; omega)
      have j0 : (0 : Int) ≤ (f : Int) := by omega
      have j1 : (0 : Int) ≤ (m : Int) := by omega
      have j2 : wrap64 ((mc : Int) - (m : Int)) = (mc : Int) - (m : Int) := wrap64_at _ (by have := HG.out; have := HK.out; omega)
      have j3 : (f : Int) ≤ (mc : Int) - (m : Int) := by have := HG.out; omega
      clear hg
      go_upto_region 7 with fail
      have HB5 : Hid (Below w.heap.size w ((w2.alloc (.cells (va (m * 256) (iv .u8 fun _ => 0)) 52)).alloc (.cells #[.slice (some ⟨w2.heap.size, 0, none⟩) m m] 37)).drew) := (HB2.out.trans ((below_new2 _ _ _).mono HB2.out.size)).drew
      have HLK : Hid (w.heap.size + 3 < w2.heap.size) := q3.lt
      have HQ5 : Hid (QR (w.heap.size + 1 + 1) (w.heap.size + 1 + 1 + 1) w.heap.size (w2.heap.size + 1) w2.heap.size c f m (fun _ _ => 0) () ((w2.alloc (.cells (va (m * 256) (iv .u8 fun _ => 0)) 52)).alloc (.cells #[.slice (some ⟨w2.heap.size, 0, none⟩) m m] 37)).drew) := ⟨(q2.alloc _).alloc _, (q3.alloc _).alloc _, (q0.alloc _).alloc _, Blk.new1 _ _ _ _, (Blk.new _ _ _).alloc _, by have := HLK.out; omega, by have := HLK.out; omega, by have := HLK.out; omega, by omega⟩
      have hS : Blk ((w2.alloc (.cells (va (m * 256) (iv .u8 fun _ => 0)) 52)).alloc (.cells #[.slice (some ⟨w2.heap.size, 0, none⟩) m m] 37)).drew w.heap.size 26 #[.pointer (some ⟨c, 0, none⟩)] ∧ Blk ((w2.alloc (.cells (va (m * 256) (iv .u8 fun _ => 0)) 52)).alloc (.cells #[.slice (some ⟨w2.heap.size, 0, none⟩) m m] 37)).drew (w.heap.size + 1) 45 (trC (k : Int) R) := ⟨(q0.alloc _).alloc _, (q1.alloc _).alloc _⟩
      obtain ⟨s9, er, hwk⟩ : ∃ s9 er, wlkR F N (stR F N f m) k (fun _ _ => 0) 0 R = (s9, er) := ⟨_, _, rfl⟩
      clear q0 q1 q2 q3 c1 c2 c3 hmk HB2
      generalize ((w2.alloc (.cells (va (m * 256) (iv .u8 fun _ => 0)) 52)).alloc (.cells #[.slice (some ⟨w2.heap.size, 0, none⟩) m m] 37)) = w5 at *
      generalize w2.heap.size = lk at *
      refine wp_region_partsS (fun W => Blk W w.heap.size 26 #[.pointer (some ⟨c, 0, none⟩)] ∧ Blk W (w.heap.size + 1) 45 (trC (k : Int) R)) [([], 0, true), ([], 1, true), ([], 3, true), ([], 2, false), ([], 4, false)] [5] [] (by kernel_rfl) (by kernel_rfl) hS (partsI_yield ?_)
      simp only [sgLHTrNew]
      go_wp2_with fail
      refine ⟨rfl, _, .pointer (some ⟨c, 0, none⟩), rfl, Or.inl ⟨by rfl, fun W hW => by have c0 : W.cell? ⟨w.heap.size, 0, none⟩ = some (.pointer (some ⟨c, 0, none⟩)) := (hW.1.cell 0).trans rfl; go_simp⟩, partsI_yield ?_⟩
      simp only [Act.put, sgPHTrNew]
      simp only [sgLHTrNew]
      go_wp2_with fail
      refine ⟨rfl, _, .agg (trC (k : Int) R), rfl, kyields_load (by rfl) 45 _ (by rfl) (w.heap.size + 1) 34 (trF (k : Int) R) (by rfl) _ 45 (fun W hW => hW.2) Tryz.underlying45 rfl sizeTr, partsI_yield ?_⟩
      simp only [Act.put, sgPHTrNew]
      simp only [sgLHTrNew]
      go_wp2_with fail
      refine ⟨rfl, _, .func (.func 30) #[] #[.pointer (some ⟨w.heap.size + 1 + 1, 0, none⟩), .pointer (some ⟨w.heap.size + 1 + 1 + 1, 0, none⟩), .pointer (some ⟨w.heap.size, 0, none⟩), .pointer (some ⟨lk + 1, 0, none⟩)], rfl, Or.inl ⟨by rfl, fun W hW => by go_simp⟩, partsI_force ?_⟩
      simp only [Act.put, sgPHTrNew]
      simp only [sgLHTrNew]
      go_wp2_with fail
      refine (root_any (k : Int) R _).mono ?_
      rintro e w6 ⟨rfl, hb6⟩
      have hS6 := (⟨hS.1.below hb6 hS.1.lt, hS.2.below hb6 hS.2.lt⟩ : Blk w6 w.heap.size 26 #[.pointer (some ⟨c, 0, none⟩)] ∧ Blk w6 (w.heap.size + 1) 45 (trC (k : Int) R))
      have HB6 : Hid (Below w.heap.size w w6) := HB5.out.trans (hb6.mono HB5.out.size)
      have hq6 : QR (w.heap.size + 1 + 1) (w.heap.size + 1 + 1 + 1) w.heap.size (lk + 1) lk c f m (fun _ _ => 0) () w6 := HQ5.out.keep (T := fun _ => False) (.of_below hb6) fun _ q => q.elim
      have HW6 : Hid (WS B g N F c m0 room (ftR (w.heap.size + 1 + 1) (w.heap.size + 1 + 1 + 1) w.heap.size (lk + 1) lk) (QR (w.heap.size + 1 + 1) (w.heap.size + 1 + 1 + 1) w.heap.size (lk + 1) lk c f m) (fun _ => 0) w6 i U (fun _ _ => 0) ()) := by
        have h0 := HH.out.2.2.2.2
        have hl := HLK.out
        refine ⟨h0.below HB6.out, hq6, fun b q u => ?_, Nat.zero_le _, fun b q => ?_⟩
        · have := (h0.lt b u).2
          rcases q with q | q | q | q | q <;> omega
        · rcases q with q | q | q | q | q
          · rw [q]; exact hq6.1.lt
          · rw [q]; exact hq6.2.1.lt
          · rw [q]; exact hq6.2.2.1.lt
          · rw [q]; exact hq6.2.2.2.1.lt
          · rw [q]; exact hq6.2.2.2.2.1.lt
      clear hb6 hS hq6
      go_wp2_with fail
      refine ⟨rfl, hS6, partsI_force ?_⟩
      simp only [sgLHTrNew]
      have HWK : Hid (Calls Tryz.prog 28 #[.pointer (some ⟨c, 0, none⟩), .agg (poC (k : Int) 0 R), .func (.func 30) #[] #[.pointer (some ⟨w.heap.size + 1 + 1, 0, none⟩), .pointer (some ⟨w.heap.size + 1 + 1 + 1, 0, none⟩), .pointer (some ⟨w.heap.size, 0, none⟩), .pointer (some ⟨lk + 1, 0, none⟩)]] w6 fun e w' => e = .returned (.int .i64 (wlkR F N (stR F N f m) k (fun _ _ => 0) 0 R).2) ∧ WSt B g N F c m0 room (ftR (w.heap.size + 1 + 1) (w.heap.size + 1 + 1 + 1) w.heap.size (lk + 1) lk) (QR (w.heap.size + 1 + 1) (w.heap.size + 1 + 1 + 1) w.heap.size (lk + 1) lk c f m) (fun _ => 0) w6 w' (i + pN k) U () (wlkR F N (stR F N f m) k (fun _ _ => 0) 0 R).1) := walk_any (B := B) (g := g) (N := N) (c := c) (m := m0) (room := room) range1_ef HH.out.2.2.1 (range1_wk (B := B) (g := g) (N := N) (F := F) (c := c) (m0 := m0) (room := room) (by have := HG.out; have := HK.out; omega)) k (by have := HIN.out.2; omega) (fun _ _ => 0) () 0 R i U w6 (Int.le_refl _) (by
        have h1 := HK.out.2
        have h2 := HM.out
        simp only [Int.zero_add, Int.one_mul]
        omega) HH.out.1 (by have := pN_le (n := k) (by have := HIN.out.2; omega); have := HH.out; omega) HW6.out
      rw [hwk] at HWK
      clear HW6
      go_wp2_with fail
      refine HWK.out.mono ?_
      rintro e w7 ⟨rfl, U7, z7, hs7, ht7, hf7⟩
      have hge : ∀ b, ftR (w.heap.size + 1 + 1) (w.heap.size + 1 + 1 + 1) w.heap.size (lk + 1) lk () b → w.heap.size ≤ b := fun b q => by
        have hl := HLK.out
        rcases q with q | q | q | q | q <;> omega
      have hS7 := (⟨hs7.q.2.2.1, ht7.blk hS6.2 fun q => by
        have hl := HLK.out
        rcases q with q | q | q | q | q | q
        · have := (HH.out.2.2.2.2.lt _ q).2
          omega
        all_goals omega⟩ : Blk w7 w.heap.size 26 #[.pointer (some ⟨c, 0, none⟩)] ∧ Blk w7 (w.heap.size + 1) 45 (trC (k : Int) R))
      clear hS6
      go_wp2_with fail
      refine ⟨rfl, hS7, partsI_last ?_⟩
      simp only [sgLHTrNew]
      go_wp2_with fail
      refine ⟨rfl, ?_⟩
      have HT7 : Hid (TD w7 B g N F c m0 room (i + 10922) U7 ∧ Turns U w w7 ∧ ∀ b, U7 b → U b ∨ w.heap.size ≤ b) := by
        have h9 := HB6.out.size
        have h8 := pN_le (n := k) (by have := HIN.out.2; omega)
        refine ⟨hs7.td.mono (by omega), (Turns.of_below (S := U) HB6.out).trans ht7 fun b q => q.imp id (hge b), fun b q => ?_⟩
        rcases hf7 b (.inl q) with (u | u) | u
        · exact .inl u
        · exact .inr (hge b u)
        · exact .inr (by omega)
      have HL7 : Hid (w.heap.size ≤ lk ∧ ¬ U7 lk ∧ Blk w7 lk 52 (va (m * 256) (lvV s9))) := ⟨by have := HLK.out; omega, hs7.ap _ (.inr (.inr (.inr (.inr rfl)))), hs7.q.2.2.2.2.1⟩
      have c7 : w7.cell? ⟨lk + 1, 0, none⟩ = some (.slice (some ⟨lk, 0, none⟩) m m) := (hs7.q.2.2.2.1.cell 0).trans rfl
      clear hs7 ht7 hf7 hS7 HQ5 hge HWK HB6
      by_cases he : er = 0
      · have HV : Hid (rangeR F N (k : Int) R (f : Int) (m : Int) = (some s9, 0)) := by
          show _ = _
          unfold rangeR
          rw [if_pos HR.out, if_pos HGG.out, Int.toNat_natCast, Int.toNat_natCast, Int.toNat_natCast, hwk]
          exact if_pos he
        subst he
        clear hwk
        go_wp2_with fail
        go_ret2
        rw [HV.out]
        exact ⟨.slice (some ⟨lk, 0, none⟩) m m, rfl, U7, HT7.out.1, HT7.out.2.1, HT7.out.2.2, lk, by rw [Int.toNat_natCast], HL7.out.1, HL7.out.2.1, by rw [Int.toNat_natCast]; exact HL7.out.2.2⟩
      · have HV : Hid (rangeR F N (k : Int) R (f : Int) (m : Int) = (none, er)) := by
          show _ = _
          unfold rangeR
          rw [if_pos HR.out, if_pos HGG.out, Int.toNat_natCast, Int.toNat_natCast, Int.toNat_natCast, hwk]
          exact if_neg he
        clear hwk
        go_wp2_with fail
        go_ret2
        rw [HV.out]
        exact ⟨_, rfl, U7, HT7.out.1, HT7.out.2.1, HT7.out.2.2, rfl⟩
    · have HV : Hid (rangeR F N (k : Int) R fr n = (none, 90)) := by
        show _ = _
        unfold rangeR
        rw [if_pos HR.out, if_neg hg]
      have HE : Hid (TD w2 B g N F c m0 room (i + 10922) U ∧ Turns U w w2) := ⟨(HH.out.2.2.2.2.below HB2.out).mono (by omega), .of_below HB2.out⟩
      unfold rgOk at hg
      rw [Int.toNat_natCast, HM.out] at hg
      by_cases j0 : fr < 0
      · clear hg
        go_wp2_with fail
        go_ret2
        rw [HV.out]
        exact ⟨_, rfl, U, HE.out.1, HE.out.2, fun b q => .inl q, rfl⟩
      · have j0' : 0 ≤ fr := by omega
        by_cases j1 : n < 0
        · clear hg j0
          go_wp2_with fail
          go_ret2
          rw [HV.out]
          exact ⟨_, rfl, U, HE.out.1, HE.out.2, fun b q => .inl q, rfl⟩
        · have j1' : 0 ≤ n := by omega
          have j2 : wrap64 ((mc : Int) - n) = (mc : Int) - n := wrap64_at _ (by have := HNN.out; have := HK.out; omega)
          have j3 : (mc : Int) - n < fr := by
            rcases Int.lt_or_le ((mc : Int) - n) fr with q | q
            · exact q
            · exact absurd ⟨j0', j1', q⟩ hg
          clear hg j0 j1
          go_wp2_with fail
          go_ret2
          rw [HV.out]
          exact ⟨_, rfl, U, HE.out.1, HE.out.2, fun b q => .inl q, rfl⟩
  · rw [decide_eq_false hok]
    have HR : Hid (rangeR F N h R fr n = (none, 1)) := if_neg hok
    clear hok
    go_wp2_with fail
    go_ret2
    rw [HR.out]
    exact ⟨_, rfl, U, (HH.out.2.2.2.2.below HB2.out).mono (by omega), .of_below HB2.out, fun b q => .inl q, rfl⟩
end
end Go.Proofs.YtiofonffmplfmaaGreat

namespace Go.Proofs.YtiofonffmplfmaaGreat
open Go Go.RowKit
set_option linter.unusedSimpArgs false
set_option linter.unusedVariables false

/-- its cells: height, leaves, places, turn, cached -/
def woC (h : Int) (a : Option Addr) (n c : Nat) (ab : Option Addr) (nb cb : Nat) (tu ca : Int) : Array Value := #[.int .i64 h, .slice a n c, .slice ab nb cb, .int .i64 tu, .int .i64 ca]
/-- a slice of fills -/
def IsFl (w : World) (a : Option Addr) (n : Nat) (A : Nat → Int) (Y : Nat → Nat) : Prop := ∀ i, i < n → ∃ b o, a = some ⟨b, o, none⟩ ∧ b < w.heap.size ∧ w.cell? ⟨b, o + i * 2, none⟩ = some (.int .i64 (A i)) ∧ w.cell? ⟨b, o + i * 2 + 1, none⟩ = some (.int .u8 ((Y i : Nat) : Int)) ∧ Y i < 256 ∧ (-9223372036854775808 ≤ A i ∧ A i ≤ 9223372036854775807)
/-- a slice of integers -/
def IsIn (w : World) (a : Option Addr) (n : Nat) (A : Nat → Int) : Prop := ∀ i, i < n → ∃ b o, a = some ⟨b, o, none⟩ ∧ b < w.heap.size ∧ w.cell? ⟨b, o + i, none⟩ = some (.int .i64 (A i)) ∧ (-9223372036854775808 ≤ A i ∧ A i ≤ 9223372036854775807)
theorem IsFl.below {w w' : World} {a : Option Addr} {n : Nat} {A : Nat → Int} {Y : Nat → Nat} (h : IsFl w a n A Y) (hb : Below w.heap.size w w') : IsFl w' a n A Y := fun i hi => by
  obtain ⟨b, o, h1, h2, h3, h4, h5⟩ := h i hi
  exact ⟨b, o, h1, Nat.lt_of_lt_of_le h2 hb.size, by rw [hb.cell (p := ⟨b, o + i * 2, none⟩) h2]; exact h3, by rw [hb.cell (p := ⟨b, o + i * 2 + 1, none⟩) h2]; exact h4, h5⟩
theorem IsIn.below {w w' : World} {a : Option Addr} {n : Nat} {A : Nat → Int} (h : IsIn w a n A) (hb : Below w.heap.size w w') : IsIn w' a n A := fun i hi => by
  obtain ⟨b, o, h1, h2, h3, h4⟩ := h i hi
  exact ⟨b, o, h1, Nat.lt_of_lt_of_le h2 hb.size, by rw [hb.cell (p := ⟨b, o + i, none⟩) h2]; exact h3, h4⟩
/-- what a caller's world is -/
structure Wo (w : World) (h : Int) (a : Option Addr) (n : Nat) (ab : Option Addr) (nb : Nat) (tu ca : Int) (A : Nat → Int) (Y : Nat → Nat) (Z : Nat → Int) : Prop where
  hn : n ≤ 9223372036854775807
  hnb : nb ≤ 9223372036854775807
  fl : IsFl w a n A Y
  bad : IsIn w ab nb Z
  ht : -9223372036854775808 ≤ h ∧ h ≤ 9223372036854775807
  htu : -9223372036854775808 ≤ tu ∧ tu ≤ 9223372036854775807
  hca : -9223372036854775808 ≤ ca ∧ ca ≤ 9223372036854775807
theorem Wo.below {w w' : World} {h : Int} {a : Option Addr} {n : Nat} {ab : Option Addr} {nb : Nat} {tu ca : Int} {A : Nat → Int} {Y : Nat → Nat} {Z : Nat → Int} (H : Wo w h a n ab nb tu ca A Y Z) (hb : Below w.heap.size w w') : Wo w' h a n ab nb tu ca A Y Z := ⟨H.hn, H.hnb, H.fl.below hb, H.bad.below hb, H.ht, H.htu, H.hca⟩
end Go.Proofs.YtiofonffmplfmaaGreat

namespace Go.Proofs.YtiofonffmplfmaaGreat
open Go Go.RowKit
set_option linter.unusedSimpArgs false
set_option linter.unusedVariables false

theorem tmod_in {c : Nat} (hc : 1 ≤ c) (a : Int) : -(c : Int) < a.tmod (c : Int) ∧ a.tmod (c : Int) < (c : Int) := by
  refine ⟨?_, Int.tmod_lt_of_pos _ (by omega)⟩
  by_cases h : 0 ≤ a
  · have := Int.tmod_nonneg (c : Int) h
    omega
  · have h1 := Int.tmod_lt_of_pos (-a) (b := (c : Int)) (by omega)
    rw [Int.neg_tmod] at h1
    omega
/-- a number brought below c -/
def kyN (c : Nat) (a : Int) : Int := (a.tmod (c : Int) + (c : Int)).tmod (c : Int)
theorem kyN_in {c : Nat} (hc : 1 ≤ c) (a : Int) : 0 ≤ kyN c a ∧ kyN c a < (c : Int) := by
  have h1 := (tmod_in hc a).1
  unfold kyN
  exact ⟨Int.tmod_nonneg _ (by omega), Int.tmod_lt_of_pos _ (by omega)⟩
/-- the byte of the last of the first i fills whose key is b -/
def fillG (c : Nat) (A : Nat → Int) (Y : Nat → Nat) : Nat → Int → Option Nat
  | 0, _ => none
  | i + 1, b => if b = kyN c (A i) then some (Y i) else fillG c A Y i b
theorem fillG_some {c : Nat} {A : Nat → Int} {Y : Nat → Nat} {b : Int} {x : Nat} : ∀ {i : Nat}, fillG c A Y i b = some x → ∃ j, j < i ∧ b = kyN c (A j) ∧ x = Y j
  | 0, h => by cases h
  | i + 1, h => by
    unfold fillG at h
    by_cases hb : b = kyN c (A i)
    · rw [if_pos hb] at h
      injection h with h
      exact ⟨i, Nat.lt_succ_self _, hb, h.symm⟩
    · rw [if_neg hb] at h
      obtain ⟨j, h1, h2⟩ := fillG_some h
      exact ⟨j, Nat.lt_succ_of_lt h1, h2⟩
/-- the list says the first i fills -/
def LvFs (c : Nat) (A : Nat → Int) (Y : Nat → Nat) (i : Nat) (L : List (Int × (Nat → Nat))) : Prop := ∀ b, findIn b L = (fillG c A Y i b).map fun x => (fun _ => x : Nat → Nat)
theorem LvFs.zero (c : Nat) (A : Nat → Int) (Y : Nat → Nat) : LvFs c A Y 0 [] := fun b => rfl
theorem LvFs.step {c : Nat} {A : Nat → Int} {Y : Nat → Nat} {i : Nat} {L L' : List (Int × (Nat → Nat))} (h : LvFs c A Y i L) (h' : ∀ b, findIn b L' = if b = kyN c (A i) then some (fun _ => Y i) else findIn b L) : LvFs c A Y (i + 1) L' := fun b => by
  rw [h' b, h b]
  show _ = Option.map _ (if _ then _ else _)
  split <;> rfl
theorem LvFs.ok {c : Nat} (hc : 1 ≤ c) (hc2 : c ≤ 4096) {A : Nat → Int} {Y : Nat → Nat} {i : Nat} {L : List (Int × (Nat → Nat))} (h : LvFs c A Y i L) (hn : (L.map (·.1)).Nodup) (hY : ∀ j, j < i → Y j < 256) : LvOk L := by
  have key : ∀ a ∈ L, ∃ x, fillG c A Y i a.1 = some x ∧ a.2 = fun _ => x := fun a ha => by
    have h1 := findJ_of (a := a.1) (v := a.2) hn ha
    rw [h a.1] at h1
    cases hf : fillG c A Y i a.1 with
    | none => rw [hf] at h1; cases h1
    | some x =>
      rw [hf] at h1
      injection h1 with h1
      exact ⟨x, rfl, h1.symm⟩
  constructor
  · intro a ha
    obtain ⟨x, h1, _⟩ := key a ha
    obtain ⟨j, _, h2, _⟩ := fillG_some h1
    rw [h2]
    have := kyN_in hc (A j)
    omega
  · intro a ha k
    obtain ⟨x, h1, h2⟩ := key a ha
    obtain ⟨j, h3, _, h4⟩ := fillG_some h1
    rw [h2, h4]
    exact hY j h3
theorem LvFs.leaf {c : Nat} {A : Nat → Int} {Y : Nat → Nat} {i : Nat} {L : List (Int × (Nat → Nat))} (h : LvFs c A Y i L) (b : Int) : gJ L b = fun _ => (fillG c A Y i b).getD 0 := by
  unfold gJ
  rw [h b]
  cases fillG c A Y i b <;> rfl
end Go.Proofs.YtiofonffmplfmaaGreat

namespace Go.Proofs.YtiofonffmplfmaaGreat
open Go Go.RowKit
set_option linter.unusedSimpArgs false
set_option linter.unusedVariables false

theorem img_setTree {w : World} {B n g : Nat} {v : Value} {xs : List Value} {cs old : Array Value} (h : w.ownsRow B 49 256 v n xs) (hg : Blk w g 33 old) : (w.setRow g cs).ownsRow B 49 256 v n xs := by
  refine ⟨h.1, ?_⟩
  rcases h.2 with hn | ⟨b, cap, cur, rfl, hb, hbb, rest⟩
  · exact .inl hn
  · refine .inr ⟨b, cap, cur, rfl, hb, (show Blk w b 49 cur from hbb).other cs (fun e => ?_), rest⟩
    subst e
    have h1 := hbb.symm.trans (show w.heap[b]? = _ from hg)
    injection h1 with h1
    injection h1 with h1 h2
    revert h2
    decide
theorem rtop_zero (w : World) : (zeroValue 33).run Tryz.prog w = .ok (.agg (trC 0 rf0)) w := zero_of (by kernel_rfl) w
theorem rtop_built (h : Int) (R : Rf) : Tryz.prog.built 33 [(0, .int .i64 h), (1, .agg (rfC R))] = some (trC h R) := by kernel_rfl
set_option maxRecDepth 100000 in
set_option maxHeartbeats 4000000 in
theorem lay9_top {B n c m : Nat} {v : Value} {X : Nat → Nat} {L : List (Int × (Nat → Nat))} (l : Nat) (h : Int) (w : World) (hI : Img w B v n X) (hlay : ∀ W, Below w.heap.size w W → Calls Tryz.prog 41 #[v, .int .i64 h, .int .i64 0, .map (some m)] W fun e w' => LayR W B n c X l 0 L e w') : Calls Tryz.prog 21 #[v, .int .i64 h, .map (some m)] w fun e w' => ∃ v' n' X' r, e = .returned (.tuple #[v', .agg (trC h r)]) ∧ Img w' B v' n' X' ∧ (n ≤ n' ∧ n' ≤ n + c ∧ ∀ x, x < n * 256 → X' x = X x) ∧ (r.1 < 4294967296 ∧ okD r.2) ∧ Has X' n' l r (fun q => gJ L ((0 * 4 ^ l + q : Nat) : Int)) ∧ Below w.heap.size w w' := by
  have hz := rtop_zero
  have hzr := zero_rref
  have hb1 : Below w.heap.size w (w.alloc (.cells (trC 0 rf0) 33)) := below_new1 w _
  have t1 : Blk (w.alloc (.cells (trC 0 rf0) 33)) w.heap.size 33 (trC 0 rf0) := Blk.new w _ _
  obtain ⟨ib, cap, rfl, _, _, _⟩ := own_some hI.1 hI.2.2
  have HL : Hid (∀ W, Below w.heap.size w W → Calls Tryz.prog 41 #[.slice (some ⟨ib, 0, none⟩) n cap, .int .i64 h, .int .i64 0, .map (some m)] W fun e w' => LayR W B n c X l 0 L e w') := hlay
  clear hI hlay
  go_enter Tryz.func21, Tryz.ntmps21
  go_wp2_with fail
  generalize (w.alloc (.cells (trC 0 rf0) 33)) = w1 at *
  refine (HL.out _ hb1).mono ?_
  rintro e w2 ⟨v', n', X', r, rfl, h1, h2, h3, h4, hb2⟩
  have HBt : Hid (Tryz.prog.built 33 [(0, .int .i64 h), (1, .agg (rfC r))] = some (trC h r)) := rtop_built h r
  have t2 := t1.below hb2 t1.lt
  have hb02 : Below w.heap.size w w2 := hb1.trans (hb2.mono hb1.size)
  obtain ⟨vb, vc, rfl, _, _, _⟩ := own_some h1.1 h1.2.2
  have q0 := Blk.new w2 31 (rfC rf0)
  have q3 := q0.set (rfC r)
  have hb3 : Below w2.heap.size w2 ((w2.alloc (.cells (rfC rf0) 31)).setRow w2.heap.size (rfC r)) := below_setRow (below_new1 _ _) (Nat.le_refl _) _
  have t3 := t2.below hb3 t2.lt
  have H1 : Hid (Img ((w2.alloc (.cells (rfC rf0) 31)).setRow w2.heap.size (rfC r)) B (.slice (some ⟨vb, 0, none⟩) n' vc) n' X') := h1.below hb3
  have H2 : Hid ((n ≤ n' ∧ n' ≤ n + c ∧ ∀ x, x < n * 256 → X' x = X x) ∧ (r.1 < 4294967296 ∧ okD r.2) ∧ Has X' n' l r (fun q => gJ L ((0 * 4 ^ l + q : Nat) : Int))) := ⟨h2, h3, h4⟩
  have HB3 : Hid (Below w.heap.size w ((w2.alloc (.cells (rfC rf0) 31)).setRow w2.heap.size (rfC r))) := hb02.trans (hb3.mono hb02.size)
  clear h1 h2 h3 h4 hb2 hb1 t1 t2 hb3 hb02 HL
  go_wp2_with (first
    | (refine wpList_store_row (by rfl) 31 _ _ (by rfl) (w2.heap.size) (rfC r) (by rfl) (by rfl) 31 (rfC rf0) (by exact q0) (rsizeRef.trans (by rw [rfC_size])) (by simp only [rfC_size]) (rfC_all _) ?_; simp only [Act.put, sgPHTrNew])
    | fail)
  clear q0
  generalize ((w2.alloc (.cells (rfC rf0) 31)).setRow w2.heap.size (rfC r)) = w3 at *
  generalize w2.heap.size = xb at *
  have x3 : Blk w3.drew xb 31 (rfC r) := q3
  have t3d : Blk w3.drew w.heap.size 33 (trC 0 rf0) := t3
  refine wp_region_partsS (fun W => Blk W xb 31 (rfC r)) [([0, 1, 4], 2, true), ([], 3, true)] [] [5] (by kernel_rfl) (by kernel_rfl) x3 (partsI_yield ?_)
  simp only [sgLHTrNew]
  go_wp2_with fail
  refine ⟨rfl, _, .agg (rfC r), rfl, kyields_load (by rfl) 31 _ (by rfl) xb 33 (rfF r.1 r.2) (by rfl) _ 31 (fun W hW => hW) Tryz.underlying31 rfl rsizeRef, partsI_yield ?_⟩
  simp only [Act.put, sgPHTrNew]
  simp only [sgLHTrNew]
  go_wp2_with fail
  refine ⟨rfl, _, .agg (trC h r), rfl, Or.inl ⟨by rfl, fun W hW => run_build_any (by rfl) (by rfl) (by rfl) HBt.out⟩, partsI_last ?_⟩
  simp only [Act.put, sgPHTrNew]
  simp only [sgLHTrNew]
  refine wpList_store_row (by rfl) 33 _ _ (by rfl) (w.heap.size) (trC h r) (by rfl) (by rfl) 33 (trC 0 rf0) t3d (rsizeTr.trans (by rw [trC_size])) (by simp only [trC_size]) (trC_all _ _) ?_
  simp only [Act.put, sgPHTrNew]
  go_wp2_with fail
  refine ⟨rfl, ?_⟩
  go_wp2_with fail
  try simp only [Exit.inBlock, Exit.then]
  refine bodyPost_ret (results_tmp_row Tryz.results21 _ _ (w.heap.size) 33 (trC h r) _ rfl (t3d.set _) Tryz.underlying33 rfl (rsizeTr.trans (by rw [trC_size]))) rfl ?_
  exact ⟨_, n', X', r, rfl, ⟨img_setTree (H1.out.below (Below.refl _ _).drew).1 t3d, H1.out.2⟩, H2.out.1, H2.out.2.1, H2.out.2.2, below_setRow HB3.out.drew (by omega) _⟩
end Go.Proofs.YtiofonffmplfmaaGreat

namespace Go.Proofs.YtiofonffmplfmaaGreat
open Go Go.RowKit
set_option linter.unusedSimpArgs false
set_option linter.unusedVariables false

theorem td_new {w : World} {B g N c m room : Nat} {F : Nat → Nat} {q : QD} (hq : DiskQ w B g N F 0 0 q) (hQ : Quiet q 0) (hc : Blk w c 133 (caC (some ⟨g, 0, none⟩) none (room : Int) m none none 0 0 0 0)) (hm : MapIs rfV ptV w m []) (hnz : 0 < N) (hN : N ≤ 8192) (hr : room ≤ 4096) (hB : B ≤ w.heap.size) (hcf : ¬ foot g N q c) (hmf : ¬ foot g N q m) (hcB : B ≤ c) (hmB : B ≤ m) : TD w B g N F c m room 0 (cdfo g N q c m []) := by
  have hfo : ∀ x, cafo c m [] x → x = c ∨ x = m := fun x hx => by
    rcases hx with (h | ⟨e, he, _⟩) | h
    · exact .inl h
    · simp at he
    · exact .inr h
  refine ⟨⟨q, 0, 0, 0, 0, 0, 0, [], ⟨hq, ⟨⟨hc, fun i e he => by simp at he, fun i j e e' he => by simp at he⟩, [], hm, rfl, by simp, fun k b => by simp [findIn]⟩, fun x hx => ?_, fun x hx => ?_⟩, hQ, Nat.le_refl _, Nat.le_refl _, ⟨by decide, by decide⟩, ⟨by decide, by decide⟩, ⟨by decide, by decide⟩, (fun e he => by simp at he), fun x => Iff.rfl⟩, hnz, hN, hr, hB⟩
  · rcases hfo x hx with rfl | rfl
    · exact hcf
    · exact hmf
  · rcases hfo x hx with rfl | rfl
    · exact hcB
    · exact hmB
end Go.Proofs.YtiofonffmplfmaaGreat
