/- Trees: what Range asks of walk, and the leaves that it finds; no program in it. -/
import Derived.Test.YtiofonffmplfmaaGreatHTrMeet
import Derived.Handy

namespace Go.Proofs.YtiofonffmplfmaaGreat
theorem sgLHTrRngM : (∀ (α : Type) (a : α) (l r : List α), (a :: l) ++ r = a :: (l ++ r)) ∧ (∀ (α : Type) (l : List α), [] ++ l = l) ∧ (∀ (α : Type) (l : List α), l ++ [] = l) ∧ (∀ (α β : Type) (f : α → Option β) (a : α) (l : List α), (a :: l).filterMap f = match f a with | none => l.filterMap f | some b => b :: l.filterMap f) ∧ (∀ (α β : Type) (f : α → Option β), [].filterMap f = []) ∧ (∀ (α : Type) (l : List α) (i : Nat), l.toArray[i]? = l[i]?) ∧ (∀ (α : Type) (a : α) (l : List α), (a :: l)[0]? = some a) ∧ (∀ (α : Type) (a : α) (l : List α) (i : Nat), (a :: l)[i + 1]? = l[i]?) :=
  ⟨fun _ _ _ _ => List.cons_append, fun _ _ => List.nil_append _, fun _ _ => List.append_nil _, fun _ _ _ _ _ => List.filterMap_cons, fun _ _ _ => List.filterMap_nil, fun _ _ _ => List.getElem?_toArray, fun _ _ _ => List.getElem?_cons_zero, fun _ _ _ _ => List.getElem?_cons_succ⟩
theorem sgPHTrRngM : (∀ (α : Type) (l : List α) (i : Nat) (a : α), l.toArray.setIfInBounds i a = (l.set i a).toArray) ∧ (∀ (α : Type) (a b : α) (l : List α), (a :: l).set 0 b = b :: l) ∧ (∀ (α : Type) (a b : α) (l : List α) (i : Nat), (a :: l).set (i + 1) b = a :: l.set i b) :=
  ⟨fun _ _ _ _ => List.setIfInBounds_toArray _ _ _, fun _ _ _ _ => List.set_cons_zero, fun _ _ _ _ _ => List.set_cons_succ⟩
end Go.Proofs.YtiofonffmplfmaaGreat
namespace Go.Proofs.YtiofonffmplfmaaGreat
open Go Go.RowKit
set_option linter.unusedSimpArgs false
set_option linter.unusedVariables false
/-- the blocks met so far, apart from the disk and from others (o) -/
structure FM (W : World) (bx Bm : Nat) (mv : Value) (n0 : Nat) (v : Value) (l : List (Nat → Nat)) (V o : Nat → Prop) : Prop where
  mb : MB W bx Bm v l
  ap : ∀ b, gft bx v b → ¬ V b ∧ ¬ o b
  sub : ∀ b, gft bx v b → gft bx mv b ∨ n0 ≤ b
  bm : Bm ≤ W.heap.size
section
variable {W W' : World} {bx Bm n0 : Nat} {mv v : Value} {l : List (Nat → Nat)} {V V' o : Nat → Prop}
theorem FM.step (h : FM W bx Bm mv n0 v l V o) (ht : Turns V W W') (hv : ∀ x, V' x → V x ∨ W.heap.size ≤ x) : FM W' bx Bm mv n0 v l V' o := by
  refine ⟨h.mb.keep ht fun b q q2 => (h.ap b q2).1 q, fun b q => ⟨fun q2 => ?_, (h.ap b q).2⟩, h.sub, Nat.le_trans h.bm ht.size⟩
  rcases hv b q2 with u | u
  · exact (h.ap b q).1 u
  · have := h.mb.lt b q
    omega
theorem FM.below (h : FM W bx Bm mv n0 v l V o) (hb : Below W.heap.size W W') : FM W' bx Bm mv n0 v l V o := h.step (.of_below hb) fun x hx => .inl hx
theorem FM.laid (h : FM W bx Bm mv n0 v l V o) {b : Nat} (hb : o b) (cs : Array Value) : FM (W.setRow b cs) bx Bm mv n0 v l V o := by
  have ht : Turns (fun x => x = b) W (W.setRow b cs) := ⟨by simp, by simp, by simp, by simp, fun z hz hn => setRow_other _ _ z _ hn⟩
  exact ⟨h.mb.keep ht fun z q q2 => (h.ap z q2).2 (q ▸ hb), h.ap, h.sub, by simpa using h.bm⟩
end
section
variable {B g N c m room i : Nat} {F : Nat → Nat} {U : Nat → Prop}
end
end Go.Proofs.YtiofonffmplfmaaGreat

namespace Go.Proofs.YtiofonffmplfmaaGreat
open Go Go.RowKit
set_option linter.unusedSimpArgs false
set_option linter.unusedVariables false
/-- what Leaf answers -/
def leafV (F : Nat → Nat) (N : Nat) (h : Int) (R : Rf) (p : Int) : (Nat → Nat) × Int := if (refV F N h R 0 p).2 = 0 then (gotF F N (refV F N h R 0 p).1, gotE F N (refV F N h R 0 p).1) else (fun _ => 0, (refV F N h R 0 p).2)
theorem folR_lt9 (F : Nat → Nat) (N : Nat) : ∀ (ps : List Nat) (h : Int) (R : Rf), R.1 < 4294967296 → (folR F N h R ps).1.1 < 4294967296
  | [], _, _, hR => hR
  | p :: ps, h, R, hR => by
    unfold folR
    split
    · exact (by decide : (0 : Nat) < 4294967296)
    · split
      · exact folR_lt9 F N ps _ _ (decK_lt _ _)
      · exact (by decide : (0 : Nat) < 4294967296)
theorem refV_lt (F : Nat → Nat) (N : Nat) (h : Int) (R : Rf) (hR : R.1 < 4294967296) (l p : Int) : (refV F N h R l p).1.1 < 4294967296 := by
  unfold refV
  split
  · split
    · exact (by decide : (0 : Nat) < 4294967296)
    · exact folR_lt9 F N _ _ _ hR
  · exact (by decide : (0 : Nat) < 4294967296)
section
variable {B g N c m room i : Nat} {F : Nat → Nat} {U : Nat → Prop}
theorem leaf9_any (h : Int) (R : Rf) (hR : R.1 < 4294967296) (hD : okD R.2) (hF : ∀ a, F a < 256) (p : Int) (hi : i < 34359738368) (w : World) (H : TD w B g N F c m room i U) : Calls Tryz.prog 14 #[.pointer (some ⟨c, 0, none⟩), .agg (trC h R), .int .i64 p] w fun x w' => x = .returned (.tuple #[.agg (va 256 (iv .u8 (leafV F N h R p).1)), .int .i64 (leafV F N h R p).2]) ∧ TDStep w w' B g N F c m room (i + 7) U := by
  have hRef := fun w H => ref9_any (B := B) (g := g) (N := N) (c := c) (m := m) (room := room) (i := i) (F := F) (U := U) h R hR hD hF 0 p hi w H
  have hlt := refV_lt F N h R hR 0 p
  unfold leafV
  generalize refV F N h R 0 p = rv at *
  obtain ⟨r, er⟩ := rv
  by_cases h0 : er = 0
  · simp only [if_pos h0]
    exact leaf_ok h R p er r hlt h0 (by omega) hRef w H
  · simp only [if_neg h0]
    exact (leaf_no h R p er r h0 hRef w H).mono fun x w' ⟨e, V, h1, h2⟩ => ⟨e, V, h1.mono (by omega), h2⟩
end
end Go.Proofs.YtiofonffmplfmaaGreat

namespace Go.Proofs.YtiofonffmplfmaaGreat
open Go Go.RowKit
set_option linter.unusedSimpArgs false
set_option linter.unusedVariables false

theorem zero_tr (w : World) : (zeroValue 45).run Tryz.prog w = .ok (.agg (trC 0 rf0)) w := zero_of (by kernel_rfl) w
theorem built_tr (h : Int) (R : Rf) : Tryz.prog.built 45 [(0, .int .i64 h), (1, .agg (rfC R))] = some (trC h R) := by kernel_rfl
set_option maxRecDepth 100000 in
set_option maxHeartbeats 4000000 in
theorem lref_any (r : Rf) (w : World) : Calls Tryz.prog 20 #[.agg (rfC r)] w fun x w' => x = .returned (.agg (rfC r)) ∧ Below w.heap.size w w' := by
  have hz := zero_ref
  have r0 : Blk ((w.alloc (.cells (rfC r) 31)).alloc (.cells (rfC rf0) 43)) w.heap.size 31 (rfC r) := (Blk.new _ _ _).alloc _
  have r1 : Blk ((w.alloc (.cells (rfC r) 31)).alloc (.cells (rfC rf0) 43)) (w.heap.size + 1) 43 (rfC rf0) := Blk.new1 _ _ _ _
  have hb : Below w.heap.size w ((w.alloc (.cells (rfC r) 31)).alloc (.cells (rfC rf0) 43)) := below_new2 _ _ _
  have x1 : ((w.alloc (.cells (rfC r) 31)).alloc (.cells (rfC rf0) 43)).cell? ⟨w.heap.size, 0, none⟩ = some (.int .u32 (r.1 : Int)) := (r0.cell 0).trans (va_at (rfF r.1 r.2) (by decide))
  have HR : Hid (((w.alloc (.cells (rfC r) 31)).alloc (.cells (rfC rf0) 43)).rangeAt w.heap.size 1 ((List.range 32).map (iv .u8 (dF r.2)))) := rref_range r0
  have HBT : Hid (Tryz.prog.built 43 [(0, .int .u32 (r.1 : Int)), (1, .agg (va 32 (iv .u8 (dF r.2))))] = some (rfC r)) := built_refC r.1 r.2
  go_enter Tryz.func20, Tryz.ntmps20
  go_wp2_with (first
    | (refine wpList_load_blk (by rfl) 29 _ (by rfl) (w.heap.size) (1) 32 (iv .u8 (dF r.2)) (by rfl) _ (by exact HR.out) Tryz.underlying29 rfl rsizeSum ?_; simp only [Act.put, sgPHTrRngM])
    | (refine tr_build2 (by rfl) 43 0 1 _ _ (by rfl) (.int .u32 (r.1 : Int)) (.agg (va 32 (iv .u8 (dF r.2)))) (by rfl) (by rfl) (rfC r) (by exact HBT.out) ?_; simp only [Act.put, sgPHTrRngM])
    | (refine wpList_store_row (by rfl) 43 _ _ (by rfl) (w.heap.size + 1) (rfC r) (by rfl) (by rfl) 43 (_) (by exact r1) (tsizeRef.trans (by rw [rfC_size])) (by simp only [rfC_size]) (rfC_all _) ?_; simp only [Act.put, sgPHTrRngM])
    | fail)
  try simp only [Exit.inBlock, Exit.then]
  refine bodyPost_ret (results_cell_row Tryz.results20 _ _ (w.heap.size + 1) 43 (rfC r) (0, 0) _ rfl (r1.set _) Tryz.underlying43 rfl (tsizeRef.trans (by rw [rfC_size]))) rfl ?_
  exact ⟨rfl, below_setRow hb (by omega) _⟩
set_option maxRecDepth 100000 in
set_option maxHeartbeats 4000000 in
theorem given_tree (h : Int) (R : Rf) (w : World) : Calls Tryz.prog 9 #[.agg (trC h R)] w fun x w' => x = .returned (.agg (trC h R)) ∧ Below w.heap.size w w' := by
  have hz := zero_tr
  have t1 : Blk ((w.alloc (.cells (trC h R) 33)).alloc (.cells (trC 0 rf0) 45)) w.heap.size 33 (trC h R) := (Blk.new _ _ _).alloc _
  have k1 : Blk ((w.alloc (.cells (trC h R) 33)).alloc (.cells (trC 0 rf0) 45)) (w.heap.size + 1) 45 (trC 0 rf0) := Blk.new1 _ _ _ _
  have hb1 : Below w.heap.size w ((w.alloc (.cells (trC h R) 33)).alloc (.cells (trC 0 rf0) 45)) := below_new2 _ _ _
  have hS : Blk ((w.alloc (.cells (trC h R) 33)).alloc (.cells (trC 0 rf0) 45)).drew w.heap.size 33 (trC h R) := t1
  have k2 : Blk ((w.alloc (.cells (trC h R) 33)).alloc (.cells (trC 0 rf0) 45)).drew (w.heap.size + 1) 45 (trC 0 rf0) := k1
  have hbd : Below w.heap.size w ((w.alloc (.cells (trC h R) 33)).alloc (.cells (trC 0 rf0) 45)).drew := hb1.drew
  have HBT : Hid (Tryz.prog.built 45 [(0, .int .i64 h), (1, .agg (rfC R))] = some (trC h R)) := built_tr h R
  clear t1 k1 hb1
  go_enter Tryz.func9, Tryz.ntmps9
  go_wp2_with fail
  generalize ((w.alloc (.cells (trC h R) 33)).alloc (.cells (trC 0 rf0) 45)) = w1 at *
  refine wp_region_plan (fun W => Blk W w.heap.size 33 (trC h R)) (.yield [] 0 (.yield [] 1 (.yield [] 2 (.yield [] 3 (.force [] 4 (.force [] 5 (.force [] 6 (.fin [])))))))) (by kernel_rfl) (by kernel_rfl) hS (plan_yield ?_)
  simp only [sgLHTrRngM]
  go_wp2_with fail
  first | (refine ⟨rfl, _, .pointer (some ⟨w.heap.size, 0, none⟩), rfl, Or.inl ⟨by rfl, fun W hW => by go_simp⟩, plan_yield ?_⟩) | (refine ⟨rfl, .pointer (some ⟨w.heap.size, 0, none⟩), Or.inl ⟨by rfl, fun W hW => by go_simp⟩, plan_yield ?_⟩)
  simp only [Act.put, sgPHTrRngM]
  simp only [sgLHTrRngM]
  go_wp2_with fail
  first | (refine ⟨rfl, _, .int .i64 h, rfl, Or.inl ⟨by rfl, fun W hW => by have hW1 : W.cell? ⟨w.heap.size, 0, none⟩ = some (.int .i64 h) := (hW.cell 0).trans (va_at (trF h R) (by decide)); go_simp⟩, plan_yield ?_⟩) | (refine ⟨rfl, .int .i64 h, Or.inl ⟨by rfl, fun W hW => by have hW1 : W.cell? ⟨w.heap.size, 0, none⟩ = some (.int .i64 h) := (hW.cell 0).trans (va_at (trF h R) (by decide)); go_simp⟩, plan_yield ?_⟩)
  simp only [Act.put, sgPHTrRngM]
  simp only [sgLHTrRngM]
  go_wp2_with fail
  first | (refine ⟨rfl, _, .pointer (some ⟨w.heap.size, 1, none⟩), rfl, Or.inl ⟨by rfl, fun W hW => by go_simp⟩, plan_yield ?_⟩) | (refine ⟨rfl, .pointer (some ⟨w.heap.size, 1, none⟩), Or.inl ⟨by rfl, fun W hW => by go_simp⟩, plan_yield ?_⟩)
  simp only [Act.put, sgPHTrRngM]
  simp only [sgLHTrRngM]
  go_wp2_with fail
  first | (refine ⟨rfl, _, .agg (rfC R), rfl, kyields_load_at (by rfl) 31 _ (by rfl) w.heap.size 1 33 (rfF R.1 R.2) (by rfl) _ (fun W hW => tr_range hW) Tryz.underlying31 rfl rsizeRef, plan_force ?_⟩) | (refine ⟨rfl, .agg (rfC R), kyields_load_at (by rfl) 31 _ (by rfl) w.heap.size 1 33 (rfF R.1 R.2) (by rfl) _ (fun W hW => tr_range hW) Tryz.underlying31 rfl rsizeRef, plan_force ?_⟩)
  simp only [Act.put, sgPHTrRngM]
  simp only [sgLHTrRngM]
  go_wp2_with fail
  refine (lref_any R _).mono ?_
  rintro x w3 ⟨rfl, hb3⟩
  have k3 := k2.below hb3 k2.lt
  go_wp2_with fail
  refine ⟨rfl, hS.below hb3 hS.lt, plan_force ?_⟩
  simp only [sgLHTrRngM]
  refine tr_build2 (by rfl) 45 0 1 _ _ (by rfl) (.int .i64 h) (.agg (rfC R)) (by rfl) (by rfl) (trC h R) (by exact HBT.out) ?_
  simp only [Act.put, sgPHTrRngM]
  go_wp2_with fail
  refine ⟨rfl, hS.below hb3 hS.lt, plan_force ?_⟩
  simp only [sgLHTrRngM]
  refine wpList_store_row (by rfl) 45 _ _ (by rfl) (w.heap.size + 1) (trC h R) (by rfl) (by rfl) 45 _ k3 (sizeTr.trans (by rw [trC_size])) (by simp only [trC_size]) (trC_all _ _) ?_
  simp only [Act.put, sgPHTrRngM]
  go_wp2_with fail
  refine ⟨rfl, (hS.below hb3 hS.lt).other _ (by omega), plan_fin ?_⟩
  simp only [sgLHTrRngM]
  go_wp2_with fail
  refine ⟨rfl, ?_⟩
  go_wp2_with fail
  try simp only [Exit.inBlock, Exit.then]
  refine bodyPost_ret (results_cell_row Tryz.results9 _ _ (w.heap.size + 1) 45 (trC h R) (0, 0) _ rfl (k3.set _) Tryz.underlying45 rfl (sizeTr.trans (by rw [trC_size]))) rfl ?_
  exact ⟨rfl, below_setRow (hbd.trans (hb3.mono hbd.size)) (by omega) _⟩
end Go.Proofs.YtiofonffmplfmaaGreat

namespace Go.Proofs.YtiofonffmplfmaaGreat
open Go Go.RowKit
set_option linter.unusedSimpArgs false
set_option linter.unusedVariables false
theorem gotE_none9 (F : Nat → Nat) (N : Nat) : gotE F N rf0 = 0 := if_pos (.inl rfl)
theorem gotF_none9 (F : Nat → Nat) (N : Nat) : gotF F N rf0 = fun _ => 0 := if_neg (by simp)
theorem way0 (h : Int) (q : Nat) : wayTo9 h 0 (q : Int) = (List.range h.toNat).map (wayN h.toNat q) := by
  unfold wayTo9
  rw [show h - 0 = h by omega, Int.toNat_natCast]
theorem leafV_in {F : Nat → Nat} {N : Nat} {h : Int} {R : Rf} {q : Nat} (hok : trOk h R) (hout : ¬ outP h 0 (q : Int)) : refV F N h R 0 (q : Int) = folR F N h R ((List.range h.toNat).map (wayN h.toNat q)) := by
  unfold refV
  rw [if_pos hok, if_neg hout, way0]
section
variable {F : Nat → Nat} {N : Nat}
end
end Go.Proofs.YtiofonffmplfmaaGreat

namespace Go.Proofs.YtiofonffmplfmaaGreat
open Go Go.RowKit
set_option linter.unusedSimpArgs false
set_option linter.unusedVariables false
/-- four of something, one behind the other, until one fails -/
def kidsR {σ : Type} (f : σ → Nat → σ × Int) : Nat → Nat → σ → σ × Int
  | 0, _, s => (s, 0)
  | m + 1, k, s => if (f s k).2 = 0 then kidsR f m (k + 1) (f s k).1 else f s k
/-- what walk does to a state: st tells what enter does at a position (level, place, reference): the state behind, whether what hangs beneath is asked for, the error -/
def wlkR {σ : Type} (F : Nat → Nat) (N : Nat) (st : σ → Nat → Int → Rf → σ × Bool × Int) : Nat → σ → Int → Rf → σ × Int
  | 0, s, p, R => if R = rf0 then (s, 0) else ((st s 0 p R).1, (st s 0 p R).2.2)
  | n + 1, s, p, R => if R = rf0 then (s, 0) else
      if (st s (n + 1) p R).2.2 = 0 ∧ (st s (n + 1) p R).2.1 = true then
        (if nodE F N ((n + 1 : Nat) : Int) R = 0 then kidsR (fun s k => wlkR F N st n s (p * 4 + (k : Int)) (decK (gotF F N R) k)) 4 0 (st s (n + 1) p R).1 else ((st s (n + 1) p R).1, nodE F N ((n + 1 : Nat) : Int) R))
      else ((st s (n + 1) p R).1, (st s (n + 1) p R).2.2)
/-- how many calls that takes at most -/
def pN : Nat → Nat
  | 0 => 2
  | n + 1 => 2 + 4 * pN n
theorem pN_le {n : Nat} (h : n ≤ 6) : pN n ≤ 10922 := by
  have : n = 0 ∨ n = 1 ∨ n = 2 ∨ n = 3 ∨ n = 4 ∨ n = 5 ∨ n = 6 := by omega
  rcases this with rfl | rfl | rfl | rfl | rfl | rfl | rfl <;> decide
/-- a disk and a cache, and a state s told by Q in blocks of its own (z), behind i calls at most -/
structure WS {σ α : Type} (B g N : Nat) (F : Nat → Nat) (c m room : Nat) (ft : α → Nat → Prop) (Q : σ → α → World → Prop) (cnt : σ → Nat) (V : World) (i : Nat) (U : Nat → Prop) (s : σ) (z : α) : Prop where
  td : TD V B g N F c m room i U
  q : Q s z V
  ap : ∀ b, ft z b → ¬ U b
  cn : cnt s ≤ i
  lt : ∀ b, ft z b → b < V.heap.size
/-- what a call does to them -/
def WSt {σ α : Type} (B g N : Nat) (F : Nat → Nat) (c m room : Nat) (ft : α → Nat → Prop) (Q : σ → α → World → Prop) (cnt : σ → Nat) (V w' : World) (i' : Nat) (U : Nat → Prop) (z : α) (s' : σ) : Prop :=
  ∃ U' z', WS B g N F c m room ft Q cnt w' i' U' s' z' ∧ Turns (fun b => U b ∨ ft z b) V w' ∧ ∀ b, (U' b ∨ ft z' b) → (U b ∨ ft z b) ∨ V.heap.size ≤ b
/-- what is asked of the function -/
structure WK {σ α : Type} (fn : Nat) (caps : Array Value) (B g N : Nat) (F : Nat → Nat) (c m room : Nat) (ft : α → Nat → Prop) (Q : σ → α → World → Prop) (cnt : σ → Nat) (st : σ → Nat → Int → Rf → σ × Bool × Int) : Prop where
  call : ∀ (s : σ) (z : α) (V : World) (i : Nat) (U : Nat → Prop) (l : Nat) (p : Int) (R : Rf), l ≤ 6 → 0 ≤ p → (p + 1) * ((4 ^ l : Nat) : Int) ≤ 4096 → R.1 < 4294967296 → R ≠ rf0 → i < 34359738000 → WS B g N F c m room ft Q cnt V i U s z → Calls Tryz.prog fn (#[.agg (poC (l : Int) p R)] ++ caps) V fun e w' => e = .returned (.tuple #[.bool (st s l p R).2.1, .int .i64 (st s l p R).2.2]) ∧ WSt B g N F c m room ft Q cnt V w' (i + 1) U z (st s l p R).1
  keep : ∀ s z V V' (T : Nat → Prop), Q s z V → Turns T V V' → (∀ b, T b → ¬ ft z b) → Q s z V'
section
variable {σ α : Type} {B g N c m room i : Nat} {F : Nat → Nat} {U : Nat → Prop} {ft : α → Nat → Prop} {Q : σ → α → World → Prop} {cnt : σ → Nat} {V W : World} {s : σ} {z : α}
theorem WS.keep {T : Nat → Prop} (hk : ∀ s z V V' (T : Nat → Prop), Q s z V → Turns T V V' → (∀ b, T b → ¬ ft z b) → Q s z V') (h : WS B g N F c m room ft Q cnt V i U s z) (ht : Turns T V W) (hT : ∀ b, T b → ¬ ft z b ∧ ¬ U b) : WS B g N F c m room ft Q cnt W i U s z :=
  ⟨h.td.kept ht.size fun x hx => ht.block x (h.td.lt x hx).2 fun q => (hT x q).2 hx, hk s z V W T h.q ht fun b q => (hT b q).1, h.ap, h.cn, fun b q => Nat.lt_of_lt_of_le (h.lt b q) ht.size⟩
theorem WS.below (hk : ∀ s z V V' (T : Nat → Prop), Q s z V → Turns T V V' → (∀ b, T b → ¬ ft z b) → Q s z V') (h : WS B g N F c m room ft Q cnt V i U s z) (hb : Below V.heap.size V W) : WS B g N F c m room ft Q cnt W i U s z := h.keep hk (T := fun _ => False) (.of_below hb) fun b q => q.elim
theorem WS.mono {j : Nat} (h : WS B g N F c m room ft Q cnt V i U s z) (hj : i ≤ j) : WS B g N F c m room ft Q cnt V j U s z := ⟨h.td.mono hj, h.q, h.ap, Nat.le_trans h.cn hj, h.lt⟩
/-- a call that turns the disk and the cache alone -/
theorem WS.step {j : Nat} (hk : ∀ s z V V' (T : Nat → Prop), Q s z V → Turns T V V' → (∀ b, T b → ¬ ft z b) → Q s z V') (h : WS B g N F c m room ft Q cnt V i U s z) (hs : TDStep V W B g N F c m room j U) (hj : i ≤ j) : ∃ U', WS B g N F c m room ft Q cnt W j U' s z ∧ Turns (fun b => U b ∨ ft z b) V W ∧ ∀ b, (U' b ∨ ft z b) → (U b ∨ ft z b) ∨ V.heap.size ≤ b := by
  obtain ⟨U', h1, h2, h3⟩ := hs
  refine ⟨U', ⟨h1, hk s z V W U h.q h2 fun b q q2 => h.ap b q2 q, fun b q q2 => ?_, Nat.le_trans h.cn hj, fun b q => Nat.lt_of_lt_of_le (h.lt b q) h2.size⟩, h2.mono fun b q => .inl q, fun b q => ?_⟩
  · rcases h3 b q2 with u | u
    · exact h.ap b q u
    · have := h.lt b q
      omega
  · rcases q with q | q
    · rcases h3 b q with u | u
      · exact .inl (.inl u)
      · exact .inr u
    · exact .inl (.inr q)
theorem WSt.of (h : WS B g N F c m room ft Q cnt W i U s z) (hb : Below V.heap.size V W) : WSt B g N F c m room ft Q cnt V W i U z s := ⟨U, z, h, .of_below hb, fun b q => .inl q⟩
end
end Go.Proofs.YtiofonffmplfmaaGreat

namespace Go.Proofs.YtiofonffmplfmaaGreat
open Go Go.RowKit
set_option linter.unusedSimpArgs false
set_option linter.unusedVariables false
/-- the ways beneath a position of a level -/
def wysN (n q : Nat) : List Nat := (List.range n).map (wayN n q)
theorem wysN_succ (n q : Nat) (hq : q < 4 ^ (n + 1)) : wysN (n + 1) q = (q / 4 ^ n) :: wysN n (q % 4 ^ n) := by
  unfold wysN
  rw [List.range_succ_eq_map, List.map_cons, List.map_map]
  have hp := pow4_pos n
  congr 1
  · unfold wayN
    rw [show n + 1 - 1 - 0 = n by omega]
    refine Nat.mod_eq_of_lt ?_
    rw [Nat.div_lt_iff_lt_mul hp, Nat.mul_comm, ← Nat.pow_succ]
    exact hq
  · refine List.map_congr_left fun j hj => ?_
    have hj := List.mem_range.1 hj
    show wayN (n + 1) q (j + 1) = wayN n (q % 4 ^ n) j
    unfold wayN
    rw [show n + 1 - 1 - (j + 1) = n - 1 - j by omega]
    have e : 4 ^ n = 4 ^ (n - 1 - j) * (4 ^ j * 4) := by
      rw [← Nat.pow_succ, ← Nat.pow_add]
      congr 1
      omega
    have h1 := Nat.div_add_mod q (4 ^ n)
    have h2 : q / 4 ^ (n - 1 - j) = (q % 4 ^ n) / 4 ^ (n - 1 - j) + (4 ^ j * 4) * (q / 4 ^ n) := by
      have hp2 := pow4_pos (n - 1 - j)
      conv => lhs; rw [← h1, e, Nat.mul_assoc]
      rw [Nat.add_comm, Nat.add_mul_div_left _ _ hp2]
      rw [← e]
    rw [h2, Nat.mul_assoc, Nat.mul_comm (4 ^ j), Nat.mul_assoc, Nat.add_mul_mod_self_left]
section
variable {F : Nat → Nat} {N : Nat}
/-- the leaf at a place beneath a position, or what is wrong on the way to it -/
def leafO (F : Nat → Nat) (N n : Nat) (R : Rf) (q : Nat) : (Nat → Nat) × Int := if (folR F N (n : Int) R (wysN n q)).2 = 0 then (gotF F N (folR F N (n : Int) R (wysN n q)).1, gotE F N (folR F N (n : Int) R (wysN n q)).1) else (fun _ => 0, (folR F N (n : Int) R (wysN n q)).2)
theorem leafO_none (n q : Nat) : leafO F N n rf0 q = (fun _ => 0, 0) := by
  unfold leafO
  rw [folR_none, if_pos rfl, gotF_none9, gotE_none9]
theorem leafO_zero (R : Rf) : leafO F N 0 R 0 = (gotF F N R, gotE F N R) := by
  unfold leafO wysN
  simp [folR]
theorem leafO_bad (n q : Nat) (hq : q < 4 ^ (n + 1)) (R : Rf) (hR : R ≠ rf0) (ne : Int) (hn : nodE F N ((n + 1 : Nat) : Int) R = ne) (h0 : ne ≠ 0) : leafO F N (n + 1) R q = (fun _ => 0, ne) := by
  unfold leafO
  rw [wysN_succ n q hq]
  have e : folR F N ((n + 1 : Nat) : Int) R (q / 4 ^ n :: wysN n (q % 4 ^ n)) = (rf0, ne) := by
    rw [folR, if_neg hR, if_neg (by rw [hn]; exact h0), hn]
  rw [e, if_neg h0]
theorem leafO_succ (n q : Nat) (hq : q < 4 ^ (n + 1)) (R : Rf) (hR : R ≠ rf0) (hn : nodE F N ((n + 1 : Nat) : Int) R = 0) : leafO F N (n + 1) R q = leafO F N n (decK (gotF F N R) (q / 4 ^ n)) (q % 4 ^ n) := by
  unfold leafO
  rw [wysN_succ n q hq]
  have e : folR F N ((n + 1 : Nat) : Int) R (q / 4 ^ n :: wysN n (q % 4 ^ n)) = folR F N (n : Int) (decK (gotF F N R) (q / 4 ^ n)) (wysN n (q % 4 ^ n)) := by
    rw [folR, if_neg hR, if_pos hn, show ((n + 1 : Nat) : Int) - 1 = (n : Int) by omega]
  rw [e]
/-- a state of leaves with one of them laid -/
def updS (s : Nat → Nat → Nat) (i : Nat) (f : Nat → Nat) : Nat → Nat → Nat := fun j => if j = i then f else s j
/-- is one of m leaves from f on beneath a position? -/
def covR (f m : Nat) (l : Nat) (p : Int) : Prop := max (p * ((4 ^ l : Nat) : Int)) (f : Int) < min ((p + 1) * ((4 ^ l : Nat) : Int)) ((f : Int) + (m : Int))
instance (f m l : Nat) (p : Int) : Decidable (covR f m l p) := by unfold covR; infer_instance
/-- what Range asks of walk -/
def stR (F : Nat → Nat) (N f m : Nat) (s : Nat → Nat → Nat) (l : Nat) (p : Int) (R : Rf) : (Nat → Nat → Nat) × Bool × Int := if covR f m l p then (if l = 0 then (updS s (p - (f : Int)).toNat (gotF F N R), false, gotE F N R) else (s, true, 0)) else (s, false, 0)
theorem kids_inv {σ : Type} {f : σ → Nat → σ × Int} (I : Nat → σ → Prop) (hs : ∀ k s, k < 4 → I k s → (f s k).2 = 0 → I (k + 1) (f s k).1) : ∀ (m k : Nat) (s : σ), k + m = 4 → I k s → ((kidsR f m k s).2 = 0 → I 4 (kidsR f m k s).1) ∧ ((kidsR f m k s).2 ≠ 0 → ∃ k' s', k' < 4 ∧ I k' s' ∧ kidsR f m k s = f s' k')
  | 0, k, s, hk, hi => by
    obtain rfl : k = 4 := by omega
    exact ⟨fun _ => hi, fun h => absurd rfl h⟩
  | m + 1, k, s, hk, hi => by
    unfold kidsR
    by_cases h0 : (f s k).2 = 0
    · rw [if_pos h0]
      exact kids_inv I hs m (k + 1) _ (by omega) (hs k s (by omega) hi h0)
    · rw [if_neg h0]
      exact ⟨fun h => absurd h h0, fun _ => ⟨k, s, by omega, hi, rfl⟩⟩
/-- is a place asked for? -/
def inR (f m x : Nat) : Prop := f ≤ x ∧ x < f + m
/-- what walk makes of a state, as Range asks it -/
def RngP (F : Nat → Nat) (N f m n : Nat) (pn : Nat) (R : Rf) (s : Nat → Nat → Nat) (r : (Nat → Nat → Nat) × Int) : Prop :=
  (r.2 = 0 → (∀ q, q < 4 ^ n → inR f m (pn * 4 ^ n + q) → (leafO F N n R q).2 = 0) ∧ (∀ q, q < 4 ^ n → inR f m (pn * 4 ^ n + q) → r.1 (pn * 4 ^ n + q - f) = (leafO F N n R q).1) ∧ ∀ i, (∀ q, q < 4 ^ n → pn * 4 ^ n + q ≠ f + i) → r.1 i = s i) ∧
  (r.2 ≠ 0 → ∃ q, q < 4 ^ n ∧ inR f m (pn * 4 ^ n + q) ∧ (leafO F N n R q).2 = r.2 ∧ ∀ q', q' < q → inR f m (pn * 4 ^ n + q') → (leafO F N n R q').2 = 0)
theorem rng_any (f m : Nat) : ∀ (n : Nat) (pn : Nat) (R : Rf) (s : Nat → Nat → Nat), (∀ q, q < 4 ^ n → inR f m (pn * 4 ^ n + q) → s (pn * 4 ^ n + q - f) = fun _ => 0) → RngP F N f m n pn R s (wlkR F N (stR F N f m) n s (pn : Int) R) := by
  intro n
  induction n with
  | zero =>
    intro pn R s hs
    unfold wlkR
    by_cases h0 : R = rf0
    · subst h0
      rw [if_pos rfl]
      refine ⟨fun _ => ⟨fun q _ _ => by rw [leafO_none], fun q hq hr => by rw [leafO_none]; exact hs q hq hr, fun i _ => rfl⟩, fun h => absurd rfl h⟩
    · rw [if_neg h0]
      have e0 : ∀ q, q < 4 ^ 0 → leafO F N 0 R q = (gotF F N R, gotE F N R) := fun q hq => by
        have : q = 0 := by simp at hq; exact hq
        rw [this, leafO_zero]
      by_cases hc : covR f m 0 (pn : Int)
      · have hin : f ≤ pn ∧ pn < f + m := by
          unfold covR at hc
          simp only [Nat.pow_zero, Int.ofNat_one, Int.mul_one] at hc
          omega
        have e : stR F N f m s 0 (pn : Int) R = (updS s (pn - f) (gotF F N R), false, gotE F N R) := by
          unfold stR
          rw [if_pos hc, if_pos rfl, show ((pn : Int) - (f : Int)).toNat = pn - f by omega]
        rw [e]
        refine ⟨fun h => ⟨fun q hq _ => by rw [e0 q hq]; exact h, fun q hq hr => ?_, fun i hi => ?_⟩, fun h => ⟨0, by simp, by unfold inR; simp; omega, by rw [e0 0 (by simp)], fun q' hq' => by omega⟩⟩
        · rw [e0 q hq]
          have : q = 0 := by simp at hq; exact hq
          subst this
          simp [updS]
        · have := hi 0 (by simp)
          simp only [Nat.pow_zero, Nat.mul_one, Nat.add_zero] at this
          show updS s (pn - f) _ i = s i
          unfold updS
          rw [if_neg (by omega)]
      · have e : stR F N f m s 0 (pn : Int) R = (s, false, 0) := by
          unfold stR
          rw [if_neg hc]
        rw [e]
        have hno : ∀ q, q < 4 ^ 0 → ¬ inR f m (pn * 4 ^ 0 + q) := fun q hq hr => hc (by
          have : q = 0 := by simp at hq; exact hq
          subst this
          unfold inR at hr
          unfold covR
          simp only [Nat.pow_zero, Int.ofNat_one, Int.mul_one, Nat.mul_one, Nat.add_zero] at hr ⊢
          omega)
        exact ⟨fun _ => ⟨fun q hq hr => absurd hr (hno q hq), fun q hq hr => absurd hr (hno q hq), fun i _ => rfl⟩, fun h => absurd rfl h⟩
  | succ n ih =>
    intro pn R s hs
    have hp := pow4_pos n
    have h4 : 4 ^ (n + 1) = 4 * 4 ^ n := by rw [Nat.pow_succ, Nat.mul_comm]
    unfold wlkR
    by_cases h0 : R = rf0
    · subst h0
      rw [if_pos rfl]
      refine ⟨fun _ => ⟨fun q _ _ => by rw [leafO_none], fun q hq hr => by rw [leafO_none]; exact hs q hq hr, fun i _ => rfl⟩, fun h => absurd rfl h⟩
    · rw [if_neg h0]
      by_cases hc : covR f m (n + 1) (pn : Int)
      · have e : stR F N f m s (n + 1) (pn : Int) R = (s, true, 0) := by
          unfold stR
          rw [if_pos hc, if_neg (by omega)]
        rw [e, if_pos ⟨rfl, rfl⟩]
        by_cases hn : nodE F N ((n + 1 : Nat) : Int) R = 0
        · rw [if_pos hn]
          have hk : ∀ (k : Nat) (s : Nat → Nat → Nat), (wlkR F N (stR F N f m) n s ((pn : Int) * 4 + (k : Int)) (decK (gotF F N R) k)) = wlkR F N (stR F N f m) n s ((pn * 4 + k : Nat) : Int) (decK (gotF F N R) k) := fun k s => by push_cast; rfl
          have hL : ∀ k q, k < 4 → q < 4 ^ n → leafO F N (n + 1) R (k * 4 ^ n + q) = leafO F N n (decK (gotF F N R) k) q := fun k q hk hq => by
            have hb : k * 4 ^ n ≤ 3 * 4 ^ n := Nat.mul_le_mul_right _ (by omega)
            rw [leafO_succ n (k * 4 ^ n + q) (by omega) R h0 hn]
            have d1 : (k * 4 ^ n + q) / 4 ^ n = k := by
              rw [Nat.mul_comm, Nat.mul_add_div hp, Nat.div_eq_of_lt hq, Nat.add_zero]
            have d2 : (k * 4 ^ n + q) % 4 ^ n = q := by
              rw [Nat.mul_comm, Nat.mul_add_mod, Nat.mod_eq_of_lt hq]
            rw [d1, d2]
          have hpl : ∀ k q, pn * 4 ^ (n + 1) + (k * 4 ^ n + q) = (pn * 4 + k) * 4 ^ n + q := fun k q => by
            rw [h4, Nat.add_mul, Nat.mul_assoc, Nat.add_assoc]
          let I : Nat → (Nat → Nat → Nat) → Prop := fun k s' => (∀ q, q < k * 4 ^ n → inR f m (pn * 4 ^ (n + 1) + q) → (leafO F N (n + 1) R q).2 = 0) ∧ (∀ q, q < k * 4 ^ n → inR f m (pn * 4 ^ (n + 1) + q) → s' (pn * 4 ^ (n + 1) + q - f) = (leafO F N (n + 1) R q).1) ∧ ∀ i, (∀ q, q < k * 4 ^ n → pn * 4 ^ (n + 1) + q ≠ f + i) → s' i = s i
          have hst : ∀ k s', k < 4 → I k s' → RngP F N f m n (pn * 4 + k) (decK (gotF F N R) k) s' (wlkR F N (stR F N f m) n s' ((pn : Int) * 4 + (k : Int)) (decK (gotF F N R) k)) := fun k s' hk4 hI => by
            rw [hk]
            refine ih (pn * 4 + k) _ s' fun q hq hr => ?_
            have hb : k * 4 ^ n ≤ 3 * 4 ^ n := Nat.mul_le_mul_right _ (by omega)
            rw [hI.2.2 _ fun q' hq' => ?_]
            · have := hs (k * 4 ^ n + q) (by omega)
              rw [hpl] at this
              exact this hr
            · have h1 := hpl k q
              unfold inR at hr
              omega
          have hstep : ∀ k s', k < 4 → I k s' → (wlkR F N (stR F N f m) n s' ((pn : Int) * 4 + (k : Int)) (decK (gotF F N R) k)).2 = 0 → I (k + 1) (wlkR F N (stR F N f m) n s' ((pn : Int) * 4 + (k : Int)) (decK (gotF F N R) k)).1 := fun k s' hk4 hI h9 => by
            obtain ⟨h1, h2, h3⟩ := (hst k s' hk4 hI).1 h9
            have h5 : (k + 1) * 4 ^ n = k * 4 ^ n + 4 ^ n := Nat.succ_mul _ _
            refine ⟨fun q hq hr => ?_, fun q hq hr => ?_, fun i hi => ?_⟩
            · by_cases hlt : q < k * 4 ^ n
              · exact hI.1 q hlt hr
              · obtain ⟨t, rfl⟩ : ∃ t, q = k * 4 ^ n + t := ⟨q - k * 4 ^ n, by omega⟩
                rw [hL k t hk4 (by omega)]
                rw [hpl] at hr
                exact h1 t (by omega) hr
            · by_cases hlt : q < k * 4 ^ n
              · rw [h3 _ fun q' hq' => ?_]
                · exact hI.2.1 q hlt hr
                · have h6 := hpl k q'
                  unfold inR at hr
                  omega
              · obtain ⟨t, rfl⟩ : ∃ t, q = k * 4 ^ n + t := ⟨q - k * 4 ^ n, by omega⟩
                rw [hL k t hk4 (by omega)]
                rw [hpl] at hr ⊢
                exact h2 t (by omega) hr
            · rw [h3 i fun q hq => ?_]
              · exact hI.2.2 i fun q hq => hi q (by omega)
              · rw [← hpl]
                exact hi (k * 4 ^ n + q) (by omega)
          have hinv := kids_inv I hstep 4 0 s (by omega) ⟨fun q hq => by omega, fun q hq => by omega, fun i _ => rfl⟩
          refine ⟨fun h => ?_, fun h => ?_⟩
          · obtain ⟨h1, h2, h3⟩ := hinv.1 h
            rw [← h4] at h1 h2 h3
            exact ⟨h1, h2, h3⟩
          · obtain ⟨k, s', hk4, hI, he⟩ := hinv.2 h
            have h9 := (hst k s' hk4 hI).2
            rw [he] at h ⊢
            obtain ⟨q, h1, h2, h3, h5⟩ := h9 h
            have hb : k * 4 ^ n ≤ 3 * 4 ^ n := Nat.mul_le_mul_right _ (by omega)
            refine ⟨k * 4 ^ n + q, by omega, by rw [hpl]; exact h2, by rw [hL k q hk4 h1]; exact h3, fun q' hq' hr => ?_⟩
            by_cases hlt : q' < k * 4 ^ n
            · exact hI.1 q' hlt hr
            · obtain ⟨t, rfl⟩ : ∃ t, q' = k * 4 ^ n + t := ⟨q' - k * 4 ^ n, by omega⟩
              rw [hL k t hk4 (by omega)]
              rw [hpl] at hr
              exact h5 t (by omega) hr
        · rw [if_neg hn]
          refine ⟨fun h => absurd h hn, fun _ => ?_⟩
          have hx : max (pn * 4 ^ (n + 1)) f < min ((pn + 1) * 4 ^ (n + 1)) (f + m) := by
            unfold covR at hc
            have e1 : (pn : Int) * ((4 ^ (n + 1) : Nat) : Int) = ((pn * 4 ^ (n + 1) : Nat) : Int) := by push_cast; rfl
            have e2 : ((pn : Int) + 1) * ((4 ^ (n + 1) : Nat) : Int) = (((pn + 1) * 4 ^ (n + 1) : Nat) : Int) := by push_cast; rfl
            rw [e1, e2] at hc
            omega
          have h5 : (pn + 1) * 4 ^ (n + 1) = pn * 4 ^ (n + 1) + 4 ^ (n + 1) := Nat.succ_mul _ _
          refine ⟨max (pn * 4 ^ (n + 1)) f - pn * 4 ^ (n + 1), by omega, by unfold inR; omega, ?_, fun q' hq' hr => ?_⟩
          · rw [leafO_bad n _ (by omega) R h0 _ rfl hn]
          · unfold inR at hr
            omega
      · have e : stR F N f m s (n + 1) (pn : Int) R = (s, false, 0) := by
          unfold stR
          rw [if_neg hc]
        rw [e, if_neg (by simp)]
        have hno : ∀ q, q < 4 ^ (n + 1) → ¬ inR f m (pn * 4 ^ (n + 1) + q) := fun q hq hr => hc (by
          unfold inR at hr
          unfold covR
          have e1 : (pn : Int) * ((4 ^ (n + 1) : Nat) : Int) = ((pn * 4 ^ (n + 1) : Nat) : Int) := by push_cast; rfl
          have e2 : ((pn : Int) + 1) * ((4 ^ (n + 1) : Nat) : Int) = (((pn + 1) * 4 ^ (n + 1) : Nat) : Int) := by push_cast; rfl
          have h5 : (pn + 1) * 4 ^ (n + 1) = pn * 4 ^ (n + 1) + 4 ^ (n + 1) := Nat.succ_mul _ _
          rw [e1, e2]
          omega)
        exact ⟨fun _ => ⟨fun q hq hr => absurd hr (hno q hq), fun q hq hr => absurd hr (hno q hq), fun i _ => rfl⟩, fun h => absurd rfl h⟩
end
end Go.Proofs.YtiofonffmplfmaaGreat
