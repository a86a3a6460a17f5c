/- Trees: walk itself. -/
import Derived.Test.YtjhabngibbmpbaaGreatHTrRef
import Derived.Handy
import Derived.Test.YtjhabngibbmpbaaGreatHNdBlock
import Derived.BigQuiet
import Derived.Deep.QuietTactic
import Derived.Test.YtjhabngibbmpbaaGreatHWoMade
import Derived.Test.YtjhabngibbmpbaaGreatHTrRDown
import Derived.Test.YtjhabngibbmpbaaGreatHDkFns

namespace Go.Proofs.YtjhabngibbmpbaaGreat
open Go Go.RowKit
set_option linter.unusedSimpArgs false
set_option linter.unusedVariables false

/-- is a position outside of a tree of that height? -/
def outP (h l p : Int) : Prop := l < 0 ∨ h < l ∨ p < 0 ∨ ((4 ^ (h - l).toNat : Nat) : Int) ≤ p
instance (h l p : Int) : Decidable (outP h l p) := by unfold outP; infer_instance
instance (h : Int) (R : Rf) : Decidable (trOk h R) := by unfold trOk; infer_instance
section
variable {B g N c m room i : Nat} {F : Nat → Nat} {U : Nat → Prop}
end
end Go.Proofs.YtjhabngibbmpbaaGreat

namespace Go.Proofs.YtjhabngibbmpbaaGreat
open Go Go.RowKit
set_option linter.unusedSimpArgs false
set_option linter.unusedVariables false

set_option maxRecDepth 100000 in
set_option maxHeartbeats 4000000 in
theorem awake9_any (w : World) : Calls Tryz.prog 12 #[] w fun e w' => e = .returned (.bool true) ∧ Below w.heap.size w w' := by
  have hW : Hid (Calls Tryz.prog 39 #[.int .i64 2, .int .i64 6] w fun e w' => e = .returned (.tuple #[.slice (some ⟨w.heap.size, 0, none⟩) 2 2, .int .i64 0]) ∧ Blk w' w.heap.size 3 (va 2 (iv .i64 (wayN 2 6))) ∧ Below w.heap.size w w') := way_ok 2 6 (by decide) (by decide) w
  have hC : Hid (∀ w : World, Calls Tryz.prog 40 #[.int .i64 3] w fun e w' => e = .returned (.tuple #[.int .i64 64, .int .i64 0]) ∧ w = w') := fun w => capacity_ok 3 64 (by decide) (by decide) w
  go_enter Tryz.func12, Tryz.ntmps12
  go_wp2_with fail
  refine hW.out.mono ?_
  rintro e w1 ⟨rfl, b1, hb1⟩
  have c0 : w1.cell? ⟨w.heap.size, 0, none⟩ = some (.int .i64 1) := b1.cv (by decide)
  have c1 : w1.cell? ⟨w.heap.size, 1, none⟩ = some (.int .i64 2) := b1.cv (by decide)
  go_wp2_with fail
  refine (hC.out w1).mono ?_
  rintro e _ ⟨rfl, rfl⟩
  go_wp2_with fail
  go_ret
  exact ⟨rfl, hb1⟩
end Go.Proofs.YtjhabngibbmpbaaGreat

namespace Go.Proofs.YtjhabngibbmpbaaGreat
open Go Go.RowKit
set_option linter.unusedSimpArgs false
set_option linter.unusedVariables false

theorem sizeWo : (Tryz.prog.info? 25).map (·.size) = some 5 := by kernel_rfl
theorem woC_size (h : Int) (a : Option Addr) (n c : Nat) (ab : Option Addr) (nb cb : Nat) (tu ca : Int) : (woC h a n c ab nb cb tu ca).size = 5 := rfl
theorem IsBlks.keptBy {w w' : World} {b o n : Nat} {L : Nat → Nat → Nat} (h : IsBlks w (some ⟨b, o, none⟩) n L) (hs : w.heap.size ≤ w'.heap.size) (hk : w'.heap[b]? = w.heap[b]?) : IsBlks w' (some ⟨b, o, none⟩) n L := fun i hi => by
  obtain ⟨b', o', e, h1, h2⟩ := h i hi
  injection e with e
  injection e with e1 e2
  subst e1 e2
  exact ⟨b, o, rfl, Nat.lt_of_lt_of_le h1 hs, fun j v hv => by
    rw [← h2 j v hv]
    simp only [World.cell?, hk]⟩
/-- what the statements have behind made: a cache on a quiet disk, the image, the tree in a block -/
structure TW (w : World) (B g N : Nat) (F : Nat → Nat) (c m room i : Nat) (U : Nat → Prop) (ib xt : Nat) (h : Int) (R : Rf) : Prop where
  td : TD w B g N F c m room i U
  img : IsBlks w (some ⟨ib, 0, none⟩) N fun i => blkAt F i
  tr : Blk w xt 33 (trC h R)
  hib : ¬ U ib
  hxt : ¬ U xt
  bib : ib < w.heap.size
theorem TW.below {w w' : World} {B g N c m room i ib xt : Nat} {F : Nat → Nat} {U : Nat → Prop} {h : Int} {R : Rf} (H : TW w B g N F c m room i U ib xt h R) (hb : Below w.heap.size w w') : TW w' B g N F c m room i U ib xt h R := ⟨H.td.below hb, H.img.below hb, H.tr.below hb H.tr.lt, H.hib, H.hxt, Nat.lt_of_lt_of_le H.bib hb.size⟩
theorem TW.step {w w' : World} {B g N c m room i j ib xt : Nat} {F : Nat → Nat} {U : Nat → Prop} {h : Int} {R : Rf} (H : TW w B g N F c m room i U ib xt h R) (hs : TDStep w w' B g N F c m room j U) : ∃ V, TW w' B g N F c m room j V ib xt h R ∧ Turns U w w' ∧ ∀ x, V x → U x ∨ w.heap.size ≤ x := by
  obtain ⟨V, h1, h2, h3⟩ := hs
  refine ⟨V, ⟨h1, H.img.keptBy h2.size (h2.block ib H.bib H.hib), h2.blk H.tr H.hxt, fun z => ?_, fun z => ?_, Nat.lt_of_lt_of_le H.bib h2.size⟩, h2, h3⟩
  · rcases h3 _ z with y | y
    · exact H.hib y
    · have := H.bib
      omega
  · rcases h3 _ z with y | y
    · exact H.hxt y
    · have := H.tr.lt
      omega
end Go.Proofs.YtjhabngibbmpbaaGreat

namespace Go.Proofs.YtjhabngibbmpbaaGreat
open Go Go.RowKit
set_option linter.unusedSimpArgs false
set_option linter.unusedVariables false
/-- the variable bx (of type ts) holds an own slice of n elements -/
def GS (V : World) (bx ts B e sz : Nat) (v : Value) (n : Nat) (xs : List Value) : Prop := Blk V bx ts #[v] ∧ V.ownsRow B e sz v n xs ∧ v.ownBlock ≠ some bx
/-- its blocks -/
def gft (bx : Nat) (v : Value) (b : Nat) : Prop := b = bx ∨ v.ownBlock = some b
section
variable {B bx ts e sz n : Nat} {v : Value} {xs : List Value} {V W : World}
theorem GS.keep {T : Nat → Prop} (h : GS V bx ts B e sz v n xs) (ht : Turns T V W) (hT : ∀ b, T b → ¬ gft bx v b) : GS W bx ts B e sz v n xs :=
  ⟨ht.blk h.1 (fun q => hT _ q (.inl rfl)), kown_kept h.2.1 fun k _ hk => ht.block k (h.2.1.lt k hk).2 fun q => hT k q (.inr hk), h.2.2⟩
theorem GS.below (h : GS V bx ts B e sz v n xs) (hb : Below V.heap.size V W) : GS W bx ts B e sz v n xs := h.keep (T := fun _ => False) (.of_below hb) fun _ q => q.elim
theorem GS.lt (h : GS V bx ts B e sz v n xs) (b : Nat) (hb : gft bx v b) : b < V.heap.size := by
  rcases hb with rfl | hb
  · exact h.1.lt
  · exact (h.2.1.lt b hb).2
end
theorem gs_cell {S : Nat → Prop} (w : World) (b i : Nat) (v : Value) (hS : S b) : Turns S w (w.setCell ⟨b, i, none⟩ v) := by
  have t : Below b w (w.setCell ⟨b, i, none⟩ v) := (Below.refl b w).setCell (p := ⟨b, i, none⟩) (Nat.le_refl _) _
  exact ⟨t.os, t.tape, t.output, t.size, fun k hk hn => Below.heap_setCell _ _ _ _ (fun e => hn (by rw [e]; exact hS))⟩
theorem gs_grown {w w' : World} {b e : Nat} {xs : Array Value} {r : Option Nat} (h : Blk w b e xs) (hg : w.grownBy w' r) (hr : r ≠ some b) : Blk w' b e xs := by
  obtain ⟨_, _, _, _, g5⟩ := hg
  exact (g5 b h.lt (fun q => hr q.symm)).trans h
theorem gs_setc {w : World} {b e : Nat} {u : Value} (h : Blk w b e #[u]) (v : Value) : Blk (w.setCell ⟨b, 0, none⟩ v) b e #[v] := h.put 0 v
/-- what an append to it and the store back leave -/
theorem GS.grown {bx ts B e sz n : Nat} {v v2 : Value} {xs ns : List Value} {V W U2 : World} (h : GS W bx ts B e sz v n xs) (hb : Below V.heap.size V W) (hbx : bx < V.heap.size) (ho2 : U2.ownsRow B e sz v2 (n + 1) (xs ++ ns)) (hg2 : W.grownBy U2 v.ownBlock) (ha2 : v2.ownBlock = v.ownBlock ∨ v2.ownBlock = some W.heap.size) :
    GS (U2.setCell ⟨bx, 0, none⟩ v2) bx ts B e sz v2 (n + 1) (xs ++ ns) ∧ Turns (gft bx v) V (U2.setCell ⟨bx, 0, none⟩ v2) ∧ ∀ b, gft bx v2 b → gft bx v b ∨ V.heap.size ≤ b := by
  have hbU : Blk U2 bx ts #[v] := gs_grown h.1 hg2 h.2.2
  have hne2 : v2.ownBlock ≠ some bx := by
    rcases ha2 with e | e
    · rw [e]; exact h.2.2
    · rw [e]
      intro q
      injection q with q
      have := hb.size
      omega
  have tg : Turns (gft bx v) W U2 := by
    obtain ⟨g1, g2, g3, g4, g5⟩ := hg2
    exact ⟨g1, g2, g3, g4, fun b hb hn => g5 b hb fun q => hn (.inr q.symm)⟩
  have tc : Turns (fun z => z = bx) U2 (U2.setCell ⟨bx, 0, none⟩ v2) := gs_cell _ _ _ _ rfl
  refine ⟨⟨gs_setc hbU _, kown_kept ho2 fun k _ hk => tc.block k (ho2.lt k hk).2 fun q => hne2 (by rw [hk, q]), hne2⟩, ((Turns.of_below hb).trans tg fun b q => .inl q).trans tc (fun b q => .inl (.inl q)), fun b q => ?_⟩
  rcases q with q | q
  · exact .inl (.inl q)
  · rcases ha2 with e | e
    · exact .inl (.inr (e.symm.trans q))
    · rw [e] at q
      injection q with q
      have := hb.size
      exact .inr (by omega)
end Go.Proofs.YtjhabngibbmpbaaGreat

namespace Go.Proofs.YtjhabngibbmpbaaGreat
open Go Go.RowKit
set_option linter.unusedSimpArgs false
set_option linter.unusedVariables false
/-- four of something, one behind the other, until one fails -/
def kidsR {σ : Type} (f : σ → Nat → σ × Int) : Nat → Nat → σ → σ × Int
  | 0, _, s => (s, 0)
  | m + 1, k, s => if (f s k).2 = 0 then kidsR f m (k + 1) (f s k).1 else f s k
/-- what walk does to a state: st tells what enter does at a position (level, place, reference): the state behind, whether what hangs beneath is asked for, the error -/
def wlkR {σ : Type} (F : Nat → Nat) (N : Nat) (st : σ → Nat → Int → Rf → σ × Bool × Int) : Nat → σ → Int → Rf → σ × Int
  | 0, s, p, R => if R = rf0 then (s, 0) else ((st s 0 p R).1, (st s 0 p R).2.2)
  | n + 1, s, p, R => if R = rf0 then (s, 0) else
      if (st s (n + 1) p R).2.2 = 0 ∧ (st s (n + 1) p R).2.1 = true then
        (if nodE F N ((n + 1 : Nat) : Int) R = 0 then kidsR (fun s k => wlkR F N st n s (p * 4 + (k : Int)) (decK (gotF F N R) k)) 4 0 (st s (n + 1) p R).1 else ((st s (n + 1) p R).1, nodE F N ((n + 1 : Nat) : Int) R))
      else ((st s (n + 1) p R).1, (st s (n + 1) p R).2.2)
/-- how many calls that takes at most -/
def pN : Nat → Nat
  | 0 => 2
  | n + 1 => 2 + 4 * pN n
theorem pN_le {n : Nat} (h : n ≤ 6) : pN n ≤ 10922 := by
  have : n = 0 ∨ n = 1 ∨ n = 2 ∨ n = 3 ∨ n = 4 ∨ n = 5 ∨ n = 6 := by omega
  rcases this with rfl | rfl | rfl | rfl | rfl | rfl | rfl <;> decide
/-- a disk and a cache, and a state s told by Q in blocks of its own (z), behind i calls at most -/
structure WS {σ α : Type} (B g N : Nat) (F : Nat → Nat) (c m room : Nat) (ft : α → Nat → Prop) (Q : σ → α → World → Prop) (cnt : σ → Nat) (V : World) (i : Nat) (U : Nat → Prop) (s : σ) (z : α) : Prop where
  td : TD V B g N F c m room i U
  q : Q s z V
  ap : ∀ b, ft z b → ¬ U b
  cn : cnt s ≤ i
  lt : ∀ b, ft z b → b < V.heap.size
/-- what a call does to them -/
def WSt {σ α : Type} (B g N : Nat) (F : Nat → Nat) (c m room : Nat) (ft : α → Nat → Prop) (Q : σ → α → World → Prop) (cnt : σ → Nat) (V w' : World) (i' : Nat) (U : Nat → Prop) (z : α) (s' : σ) : Prop :=
  ∃ U' z', WS B g N F c m room ft Q cnt w' i' U' s' z' ∧ Turns (fun b => U b ∨ ft z b) V w' ∧ ∀ b, (U' b ∨ ft z' b) → (U b ∨ ft z b) ∨ V.heap.size ≤ b
/-- what is asked of the function -/
structure WK {σ α : Type} (fn : Nat) (caps : Array Value) (B g N : Nat) (F : Nat → Nat) (c m room : Nat) (ft : α → Nat → Prop) (Q : σ → α → World → Prop) (cnt : σ → Nat) (st : σ → Nat → Int → Rf → σ × Bool × Int) : Prop where
  call : ∀ (s : σ) (z : α) (V : World) (i : Nat) (U : Nat → Prop) (l : Nat) (p : Int) (R : Rf), l ≤ 6 → 0 ≤ p → (p + 1) * ((4 ^ l : Nat) : Int) ≤ 4096 → R.1 < 4294967296 → R ≠ rf0 → i < 34359738000 → WS B g N F c m room ft Q cnt V i U s z → Calls Tryz.prog fn (#[.agg (poC (l : Int) p R)] ++ caps) V fun e w' => e = .returned (.tuple #[.bool (st s l p R).2.1, .int .i64 (st s l p R).2.2]) ∧ WSt B g N F c m room ft Q cnt V w' (i + 1) U z (st s l p R).1
  keep : ∀ s z V V' (T : Nat → Prop), Q s z V → Turns T V V' → (∀ b, T b → ¬ ft z b) → Q s z V'
section
variable {σ α : Type} {B g N c m room i : Nat} {F : Nat → Nat} {U : Nat → Prop} {ft : α → Nat → Prop} {Q : σ → α → World → Prop} {cnt : σ → Nat} {V W : World} {s : σ} {z : α}
theorem WS.keep {T : Nat → Prop} (hk : ∀ s z V V' (T : Nat → Prop), Q s z V → Turns T V V' → (∀ b, T b → ¬ ft z b) → Q s z V') (h : WS B g N F c m room ft Q cnt V i U s z) (ht : Turns T V W) (hT : ∀ b, T b → ¬ ft z b ∧ ¬ U b) : WS B g N F c m room ft Q cnt W i U s z :=
  ⟨h.td.kept ht.size fun x hx => ht.block x (h.td.lt x hx).2 fun q => (hT x q).2 hx, hk s z V W T h.q ht fun b q => (hT b q).1, h.ap, h.cn, fun b q => Nat.lt_of_lt_of_le (h.lt b q) ht.size⟩
theorem WS.below (hk : ∀ s z V V' (T : Nat → Prop), Q s z V → Turns T V V' → (∀ b, T b → ¬ ft z b) → Q s z V') (h : WS B g N F c m room ft Q cnt V i U s z) (hb : Below V.heap.size V W) : WS B g N F c m room ft Q cnt W i U s z := h.keep hk (T := fun _ => False) (.of_below hb) fun b q => q.elim
theorem WS.mono {j : Nat} (h : WS B g N F c m room ft Q cnt V i U s z) (hj : i ≤ j) : WS B g N F c m room ft Q cnt V j U s z := ⟨h.td.mono hj, h.q, h.ap, Nat.le_trans h.cn hj, h.lt⟩
/-- a call that turns the disk and the cache alone -/
theorem WS.step {j : Nat} (hk : ∀ s z V V' (T : Nat → Prop), Q s z V → Turns T V V' → (∀ b, T b → ¬ ft z b) → Q s z V') (h : WS B g N F c m room ft Q cnt V i U s z) (hs : TDStep V W B g N F c m room j U) (hj : i ≤ j) : ∃ U', WS B g N F c m room ft Q cnt W j U' s z ∧ Turns (fun b => U b ∨ ft z b) V W ∧ ∀ b, (U' b ∨ ft z b) → (U b ∨ ft z b) ∨ V.heap.size ≤ b := by
  obtain ⟨U', h1, h2, h3⟩ := hs
  refine ⟨U', ⟨h1, hk s z V W U h.q h2 fun b q q2 => h.ap b q2 q, fun b q q2 => ?_, Nat.le_trans h.cn hj, fun b q => Nat.lt_of_lt_of_le (h.lt b q) h2.size⟩, h2.mono fun b q => .inl q, fun b q => ?_⟩
  · rcases h3 b q2 with u | u
    · exact h.ap b q u
    · have := h.lt b q
      omega
  · rcases q with q | q
    · rcases h3 b q with u | u
      · exact .inl (.inl u)
      · exact .inr u
    · exact .inl (.inr q)
theorem WSt.of (h : WS B g N F c m room ft Q cnt W i U s z) (hb : Below V.heap.size V W) : WSt B g N F c m room ft Q cnt V W i U z s := ⟨U, z, h, .of_below hb, fun b q => .inl q⟩
end
end Go.Proofs.YtjhabngibbmpbaaGreat

namespace Go.Proofs.YtjhabngibbmpbaaGreat
open Go Go.RowKit
set_option linter.unusedSimpArgs false
set_option linter.unusedVariables false
section
variable {σ α : Type} {B g N c m room : Nat} {F : Nat → Nat} {ft : α → Nat → Prop} {Q : σ → α → World → Prop} {cnt : σ → Nat} {fn : Nat} {caps : Array Value} {st : σ → Nat → Int → Rf → σ × Bool × Int}
/-- what walk is asked to do at a level -/
def WalkP {σ α : Type} (B g N : Nat) (F : Nat → Nat) (c m room : Nat) (ft : α → Nat → Prop) (Q : σ → α → World → Prop) (cnt : σ → Nat) (fn : Nat) (caps : Array Value) (st : σ → Nat → Int → Rf → σ × Bool × Int) (n : Nat) : Prop := ∀ (s : σ) (z : α) (p : Int) (R : Rf) (i : Nat) (U : Nat → Prop) (w : World), 0 ≤ p → (p + 1) * ((4 ^ n : Nat) : Int) ≤ 4096 → R.1 < 4294967296 → i + pN n < 34359738000 → WS B g N F c m room ft Q cnt w i U s z → Calls Tryz.prog 52 #[.pointer (some ⟨c, 0, none⟩), .agg (poC (n : Int) p R), .func (.func fn) #[] caps] w fun e w' => e = .returned (.int .i64 (wlkR F N st n s p R).2) ∧ WSt B g N F c m room ft Q cnt w w' (i + pN n) U z (wlkR F N st n s p R).1
theorem walk_none (cp : Option Addr) (l p : Int) (w : World) : Calls Tryz.prog 52 #[.pointer cp, .agg (poC l p rf0), .func (.func fn) #[] caps] w fun e w' => e = .returned (.int .i64 0) ∧ Below w.heap.size w w' := by
  have t1 : Blk (w.alloc (.cells (poC l p rf0) 75)) w.heap.size 75 (poC l p rf0) := Blk.new _ _ _
  have HRP : Hid ((w.alloc (.cells (poC l p rf0) 75)).rangeAt w.heap.size 2 ((List.range 33).map (rfF rf0.1 rf0.2))) := po_range t1
  have hb1 : Below w.heap.size w (w.alloc (.cells (poC l p rf0) 75)) := below_new1 _ _
  have hNn : Hid (∀ w, Calls Tryz.prog 45 #[.agg (rfC rf0)] w fun e w' => e = .returned (.bool true) ∧ Below w.heap.size w w') := fun w => by
    have := none_any rf0 w
    rw [decide_eq_true rfl] at this
    exact this
  clear t1
  go_enter Tryz.func52, Tryz.ntmps52
  go_wp2_with (first
    | (refine wpList_load_blk (by rfl) 44 _ (by rfl) (w.heap.size) (2) 33 (rfF rf0.1 rf0.2) (by rfl) _ (by exact HRP.out) Tryz.underlying44 rfl tsizeRef ?_; simp only [Act.put, List.setIfInBounds_toArray, List.set_cons_zero, List.set_cons_succ])
    | fail)
  generalize (w.alloc (.cells (poC l p rf0) 75)) = w1 at *
  refine (hNn.out w1).mono ?_
  rintro x w2 ⟨rfl, hb2⟩
  have hb12 := hb1.trans (hb2.mono hb1.size)
  go_wp2_with fail
  go_ret
  exact ⟨rfl, hb12⟩
set_option maxRecDepth 100000 in
set_option maxHeartbeats 16000000 in
/-- walk, by what it does one level below -/
theorem walk_lvl (ef : ∀ args w, (callFunc fn args).run Tryz.prog w = .ok (.enter fn args) w) (hF : ∀ a, F a < 256) (HC : WK fn caps B g N F c m room ft Q cnt st) (n : Nat) (hn : n ≤ 6) (IH : ∀ n', n = n' + 1 → WalkP B g N F c m room ft Q cnt fn caps st n') : WalkP B g N F c m room ft Q cnt fn caps st n := by
  intro s z p R i U w hp0 hp1 hR hi H
  by_cases hR0 : R = rf0
  · subst hR0
    have e : wlkR F N st n s p rf0 = (s, 0) := by cases n <;> simp [wlkR]
    rw [e]
    exact (walk_none _ _ _ w).mono fun x w' ⟨e1, hb⟩ => ⟨e1, .of ((H.below HC.keep hb).mono (by omega)) hb⟩
  · obtain ⟨s1, asked, er, hst⟩ : ∃ s1 asked er, st s n p R = (s1, asked, er) := ⟨_, _, _, rfl⟩
    have hpn : 2 ≤ pN n := by cases n <;> simp [pN]
    have hz := zero_bk
    have hzn := zero_node
    have t1 : Blk (w.alloc (.cells (poC (n : Int) p R) 75)) w.heap.size 75 (poC (n : Int) p R) := Blk.new _ _ _
    have HRP : Hid ((w.alloc (.cells (poC (n : Int) p R) 75)).rangeAt w.heap.size 2 ((List.range 33).map (rfF R.1 R.2))) := po_range t1
    have hb1 : Below w.heap.size w (w.alloc (.cells (poC (n : Int) p R) 75)) := below_new1 _ _
    have hNn : Hid (∀ w, Calls Tryz.prog 45 #[.agg (rfC R)] w fun e w' => e = .returned (.bool false) ∧ Below w.heap.size w w') := fun w => by
      have := none_any R w
      rw [decide_eq_false hR0] at this
      exact this
    have HCl : Hid (∀ V, Below w.heap.size w V → Calls Tryz.prog fn (#[.agg (poC (n : Int) p R)] ++ caps) V fun e w' => e = .returned (.tuple #[.bool asked, .int .i64 er]) ∧ WSt B g N F c m room ft Q cnt V w' (i + 1) U z s1) := fun V hV => by
      have := HC.call s z V i U n p R hn hp0 hp1 hR hR0 (by omega) (H.below HC.keep hV)
      rw [hst] at this
      exact this
    have HKp : Hid (∀ s z V V' (T : Nat → Prop), Q s z V → Turns T V V' → (∀ b, T b → ¬ ft z b) → Q s z V') := HC.keep
    have HSU : Hid (∀ b, (U b ∨ ft z b) → b < w.heap.size) := fun b q => q.elim (fun u => (H.td.lt b u).2) (H.lt b)
    have HIH : Hid (∀ n', n = n' + 1 → WalkP B g N F c m room ft Q cnt fn caps st n') := IH
    have HP : Hid (n ≤ 6 ∧ 0 ≤ p ∧ (p + 1) * ((4 ^ n : Nat) : Int) ≤ 4096 ∧ R.1 < 4294967296 ∧ R ≠ rf0 ∧ i + pN n < 34359738000 ∧ 2 ≤ pN n ∧ (∀ a, F a < 256)) := ⟨hn, hp0, hp1, hR, hR0, hi, hpn, hF⟩
    have HST : Hid (st s n p R = (s1, asked, er)) := hst
    clear H HC hst IH hn hp0 hp1 hR hR0 hi hpn hF
    go_enter Tryz.func52, Tryz.ntmps52
    go_wp2_with (first
      | (refine wpList_load_blk (by rfl) 44 _ (by rfl) (w.heap.size) (2) 33 (rfF R.1 R.2) (by rfl) _ (by exact HRP.out) Tryz.underlying44 rfl tsizeRef ?_; simp only [Act.put, List.setIfInBounds_toArray, List.set_cons_zero, List.set_cons_succ])
      | fail)
    clear HRP
    generalize (w.alloc (.cells (poC (n : Int) p R) 75)) = w1 at *
    refine (hNn.out w1).mono ?_
    rintro x w2 ⟨rfl, hb2⟩
    have hb12 := hb1.trans (hb2.mono hb1.size)
    have HB2 : Hid (Below w.heap.size w w2) := hb12
    have t2 := t1.below hb2 t1.lt
    clear hb1 hb2 hb12 t1 hNn
    go_wp2_with (first
      | (refine wpList_load_rowg (by rfl) 75 _ (by rfl) (w.heap.size) (by rfl) 75 (poC (n : Int) p R) (0, 0) _ (by exact t2) Tryz.underlying75 (by rfl) (sizePo.trans (by rw [poC_size])) ?_; simp only [Act.put, List.setIfInBounds_toArray, List.set_cons_zero, List.set_cons_succ])
      | fail)
    refine (HCl.out w2 HB2.out).mono ?_
    rintro x w3 ⟨rfl, U3, z1, hs3, ht3, hf3⟩
    have HT3 : Hid (Turns (fun b => U b ∨ ft z b) w w3) := (Turns.of_below (S := fun b => U b ∨ ft z b) HB2.out).trans ht3 fun b q => .inl q
    have HF3 : Hid (∀ b, (U3 b ∨ ft z1 b) → (U b ∨ ft z b) ∨ w.heap.size + 1 ≤ b) := fun b q => (hf3 b q).imp id fun u => by have := t2.lt; omega
    have HS3 : Hid (WS B g N F c m room ft Q cnt w3 (i + 1) U3 s1 z1) := hs3
    have t3 : Blk w3 w.heap.size 75 (poC (n : Int) p R) := ht3.blk t2 fun q => by have := HSU.out _ q; omega
    have z3 : w3.cell? ⟨w.heap.size, 0, none⟩ = some (.int .i64 (n : Int)) := (t3.cell 0).trans (va_at (poF (n : Int) p R) (by decide))
    have HW3 : Hid (w.heap.size < w3.heap.size) := t3.lt
    clear hs3 ht3 hf3 t2 HB2 HCl
    by_cases he : er = 0
    · subst he
      cases asked with
      | false =>
        have HR : Hid (wlkR F N st n s p R = (s1, 0)) := by
          have h1 := HST.out
          have h2 := HP.out.2.2.2.2.1
          show _ = _
          cases n <;> simp [wlkR, h1, h2]
        go_wp2_with fail
        go_ret
        rw [HR.out]
        exact ⟨rfl, U3, z1, HS3.out.mono (by have := HP.out; omega), HT3.out, fun b q => (HF3.out b q).imp id (by omega)⟩
      | true =>
        cases n with
        | zero =>
          have HR : Hid (wlkR F N st 0 s p R = (s1, 0)) := by
            have h1 := HST.out
            have h2 := HP.out.2.2.2.2.1
            show _ = _
            simp [wlkR, h1, h2]
          go_wp2_with fail
          go_ret
          rw [HR.out]
          exact ⟨rfl, U3, z1, HS3.out.mono (by have := HP.out; omega), HT3.out, fun b q => (HF3.out b q).imp id (by omega)⟩
        | succ n =>
          have hnz : ¬ ((n + 1 : Nat) : Int) = 0 := by omega
          obtain ⟨ne, hne⟩ : ∃ ne, nodE F N ((n + 1 : Nat) : Int) R = ne := ⟨_, rfl⟩
          have HNE : Hid (nodE F N ((n + 1 : Nat) : Int) R = ne) := hne
          have HRN : Hid (∀ w : World, TD w B g N F c m room (i + 1) U3 → Calls Tryz.prog 73 #[.pointer (some ⟨c, 0, none⟩), .agg (poC ((n + 1 : Nat) : Int) p R)] w fun x w' => x = .returned (.tuple #[.agg (va 256 (iv .u8 (if ne = 0 then gotF F N R else fun _ => 0))), .agg (if ne = 0 then ndC ((n + 1 : Nat) : Int) (decK (gotF F N R)) else ndC 0 fun _ => rf0), .int .i64 ne]) ∧ TDStep w w' B g N F c m room (i + 1 + 1) U3) := fun w h1 => readNode_td _ _ _ HP.out.2.2.2.1 (by have := HP.out; omega) HP.out.2.2.2.2.2.2.2 ne hne w h1
          clear hne
          generalize hl : ((n + 1 : Nat) : Int) = l at *
          go_wp2_with (first
            | (refine wpList_load_rowg (by rfl) 75 _ (by rfl) (w.heap.size) (by rfl) 75 (poC l p R) (0, 0) _ (by exact t3) Tryz.underlying75 (by rfl) (sizePo.trans (by rw [poC_size])) ?_; simp only [Act.put, List.setIfInBounds_toArray, List.set_cons_zero, List.set_cons_succ])
            | fail)
          refine (HRN.out w3 HS3.out.td).mono ?_
          rintro x w4 ⟨rfl, hs4⟩
          obtain ⟨U4, hs4, ht4, hf4⟩ := HS3.out.step HKp.out hs4 (by omega)
          have t4 : Blk w4 w.heap.size 75 (poC l p R) := ht4.blk t3 fun q => by
            rcases HF3.out _ q with u | u
            · have := HSU.out _ u
              omega
            · omega
          have hT4 : Turns (fun b => U b ∨ ft z b) w w4 := HT3.out.trans ht4 fun b q => (HF3.out b q).imp id (by omega)
          have hF4 : ∀ b, (U4 b ∨ ft z1 b) → (U b ∨ ft z b) ∨ w.heap.size + 1 ≤ b := fun b q => by
            rcases hf4 b q with u | u
            · exact HF3.out b u
            · have := HW3.out
              exact .inr (by omega)
          clear ht4 hf4 t3 z3 HRN
          obtain ⟨f, hf⟩ : ∃ f, (if ne = 0 then gotF F N R else fun _ => 0) = f := ⟨_, rfl⟩
          obtain ⟨nl, hnl⟩ : ∃ nl, (if ne = 0 then l else 0) = nl := ⟨_, rfl⟩
          obtain ⟨K, hK⟩ : ∃ K, (if ne = 0 then decK (gotF F N R) else fun _ => rf0) = K := ⟨_, rfl⟩
          have hnd : (if ne = 0 then ndC l (decK (gotF F N R)) else ndC 0 fun _ => rf0) = ndC nl K := by
            rw [← hnl, ← hK]
            by_cases h0 : ne = 0
            · simp [h0]
            · simp [h0]
          rw [hf, hnd]
          have HKK : Hid (ne = 0 → decK (gotF F N R) = K) := fun h0 => by rw [← hK, if_pos h0]
          have q0 : Blk ((w4.alloc (.cells (va 256 (iv .u8 fun _ => 0)) 38)).alloc (.cells (ndC 0 fun _ => rf0) 157)) w4.heap.size 38 (va 256 (iv .u8 fun _ => 0)) := (Blk.new _ _ _).alloc _
          have y0 : Blk ((w4.alloc (.cells (va 256 (iv .u8 fun _ => 0)) 38)).alloc (.cells (ndC 0 fun _ => rf0) 157)) (w4.heap.size + 1) 157 (ndC 0 fun _ => rf0) := Blk.new1 _ _ _ _
          have y1 := y0.other (va 256 (iv .u8 f)) (show w4.heap.size + 1 ≠ w4.heap.size by omega)
          have y7 : Blk ((((w4.alloc (.cells (va 256 (iv .u8 fun _ => 0)) 38)).alloc (.cells (ndC 0 fun _ => rf0) 157)).setRow w4.heap.size (va 256 (iv .u8 f))).setRow (w4.heap.size + 1) (ndC nl K)) (w4.heap.size + 1) 157 (ndC nl K) := y1.set _
          have hb7 : Below w4.heap.size w4 ((((w4.alloc (.cells (va 256 (iv .u8 fun _ => 0)) 38)).alloc (.cells (ndC 0 fun _ => rf0) 157)).setRow w4.heap.size (va 256 (iv .u8 f))).setRow (w4.heap.size + 1) (ndC nl K)) := below_setRow (below_setRow (below_new2 _ _ _) (Nat.le_refl _) _) (by omega) _
          have t7 := t4.below hb7 t4.lt
          have HS7 : Hid (WS B g N F c m room ft Q cnt ((((w4.alloc (.cells (va 256 (iv .u8 fun _ => 0)) 38)).alloc (.cells (ndC 0 fun _ => rf0) 157)).setRow w4.heap.size (va 256 (iv .u8 f))).setRow (w4.heap.size + 1) (ndC nl K)) (i + 1 + 1) U4 s1 z1) := hs4.below HKp.out hb7
          have HT7 : Hid (Turns (fun b => U b ∨ ft z b) w ((((w4.alloc (.cells (va 256 (iv .u8 fun _ => 0)) 38)).alloc (.cells (ndC 0 fun _ => rf0) 157)).setRow w4.heap.size (va 256 (iv .u8 f))).setRow (w4.heap.size + 1) (ndC nl K))) := hT4.trans (Turns.of_below (S := fun b => U b ∨ ft z b) hb7) fun b q => .inl q
          have HYB : Hid (w.heap.size < w4.heap.size ∧ ∀ b, (U4 b ∨ ft z1 b) → b < w4.heap.size) := ⟨t4.lt, fun b q => q.elim (fun u => (hs4.td.lt b u).2) (hs4.lt b)⟩
          have HF7 : Hid (∀ b, (U4 b ∨ ft z1 b) → (U b ∨ ft z b) ∨ w.heap.size + 1 ≤ b) := hF4
          clear hs4 hT4 hF4 hb7 t4 HT3 HF3 HS3 hf hK hnl hnd HW3
          go_upto_region 7 with (first
            | (refine wpList_store_row (by rfl) 38 _ _ (by rfl) (w4.heap.size) (va 256 (iv .u8 f)) (by rfl) (by rfl) 38 _ q0 (sizeBk.trans (by rw [va_size])) (by simp only [va_size]) (iv_one _ _ _) ?_; simp only [Act.put, List.setIfInBounds_toArray, List.set_cons_zero, List.set_cons_succ])
            | (refine wpList_store_row (by rfl) 157 _ _ (by rfl) (w4.heap.size + 1) (ndC nl K) (by rfl) (by rfl) 157 (_) (by exact y1) (tsizeNd.trans (by rw [ndC_size])) (by simp only [ndC_size]) (ndC_all _ _) ?_; simp only [Act.put, List.setIfInBounds_toArray, List.set_cons_zero, List.set_cons_succ])
            | fail)
          clear q0 y0 y1
          generalize ((((w4.alloc (.cells (va 256 (iv .u8 fun _ => 0)) 38)).alloc (.cells (ndC 0 fun _ => rf0) 157)).setRow w4.heap.size (va 256 (iv .u8 f))).setRow (w4.heap.size + 1) (ndC nl K)) = w7 at *
          generalize hyb : w4.heap.size + 1 = yb at *
          have HY : Hid (w.heap.size + 1 < yb ∧ ∀ b, (U4 b ∨ ft z1 b) → b + 1 < yb) := ⟨by have := HYB.out.1; omega, fun b q => by have := HYB.out.2 b q; omega⟩
          clear hyb HYB
          by_cases hn0 : ne = 0
          · subst hn0
            have HW : Hid (wlkR F N st (n + 1) s p R = kidsR (fun s k => wlkR F N st n s (p * 4 + (k : Int)) (K k)) 4 0 s1) := by
              have h1 := HST.out
              have h2 := HP.out.2.2.2.2.1
              have h3 := HNE.out
              have h4 := HKK.out rfl
              rw [← hl] at h3
              show _ = _
              simp only [wlkR, h1, h2, h3, h4, if_true, if_false, and_self]
            have HKL : Hid (∀ k, (K k).1 < 4294967296) := fun k => by
              rw [← HKK.out rfl]
              exact decK_lt _ _
            have HWk : Hid (∀ (k : Nat) (s : σ) (z : α) (j : Nat) (U : Nat → Prop) (w : World), k < 4 → j ≤ i + 2 + k * pN n → WS B g N F c m room ft Q cnt w j U s z → Calls Tryz.prog 52 #[.pointer (some ⟨c, 0, none⟩), .agg (poC (l - 1) (p * 4 + (k : Int)) (K k)), .func (.func fn) #[] caps] w fun e w' => e = .returned (.int .i64 (wlkR F N st n s (p * 4 + (k : Int)) (K k)).2) ∧ WSt B g N F c m room ft Q cnt w w' (j + pN n) U z (wlkR F N st n s (p * 4 + (k : Int)) (K k)).1) := fun k s z j U w hk hj hw => by
              have h6 := HP.out
              have h7 : pN (n + 1) = 2 + 4 * pN n := rfl
              have h8 : k * pN n ≤ 3 * pN n := Nat.mul_le_mul_right _ (by omega)
              have h9 : (4 ^ (n + 1) : Nat) = 4 ^ n * 4 := Nat.pow_succ _ _
              have ha := h6.2.2.1
              rw [h9] at ha
              have hpos : (1 : Int) ≤ ((4 ^ n : Nat) : Int) := by
                have := pow4_pos n
                omega
              have hb : (p * 4 + (k : Int) + 1) * ((4 ^ n : Nat) : Int) ≤ 4096 := by
                push_cast at ha hpos ⊢
                generalize (4 : Int) ^ n = z at *
                have hc : (p * 4 + (k : Int) + 1) * z ≤ (p * 4 + 4) * z := Int.mul_le_mul_of_nonneg_right (by omega) (by omega)
                have hd : (p + 1) * (z * 4) = (p * 4 + 4) * z := by
                  rw [Int.mul_comm z 4, ← Int.mul_assoc, Int.add_mul, Int.one_mul]
                omega
              have := HIH.out n rfl s z (p * 4 + (k : Int)) (K k) j U w (by omega) hb (HKL.out k) (by omega) hw
              rw [show l - 1 = (n : Int) by omega]
              exact this
            have HBn : Hid (∀ (k : Nat) (w : World), k < 4 → Calls Tryz.prog 74 #[.agg (poC l p R), .agg (ndC nl K), .int .i64 (k : Int)] w fun x w' => x = .returned (.agg (poC (l - 1) (p * 4 + (k : Int)) (K k))) ∧ Below w.heap.size w w') := fun k w hk => beneath_any l p nl R K k hk (by have := HP.out; omega) (by
              have h6 := HP.out
              have hpos : (1 : Int) ≤ ((4 ^ (n + 1) : Nat) : Int) := by
                have := pow4_pos (n + 1)
                omega
              have := Int.mul_le_mul_of_nonneg_left hpos (show 0 ≤ p + 1 by omega)
              omega) w
            clear HIH HKK HNE HST
            go_wp2_with fail
            go_loopw [44] (fun t wr => Hid (∃ (k : Nat) (s' : σ) (z' : α) (U' : Nat → Prop), k ≤ 4 ∧ t = .int .i64 (k : Int) ∧ kidsR (fun s k => wlkR F N st n s (p * 4 + (k : Int)) (K k)) (4 - k) k s' = wlkR F N st (n + 1) s p R ∧ WS B g N F c m room ft Q cnt wr (i + 2 + k * pN n) U' s' z' ∧ Turns (fun b => U b ∨ ft z b) w wr ∧ (∀ b, (U' b ∨ ft z' b) → (U b ∨ ft z b) ∨ (w.heap.size + 1 ≤ b ∧ b ≠ yb)) ∧ Blk wr w.heap.size 75 (poC l p R) ∧ Blk wr yb 157 (ndC nl K))) (fun t _ => 4 - (intOf t).toNat)
            case atStart =>
              refine ⟨0, s1, z1, U4, by omega, rfl, HW.out.symm, by simpa using HS7.out, HT7.out, fun b q => ?_, t7, y7⟩
              rcases HF7.out b q with u | u
              · exact .inl u
              · have := HY.out.2 b q
                exact .inr (by omega)
            case round =>
              clear t7 y7 HS7 HT7 HF7
              obtain ⟨k, s', z', U', hk, rfl, hre, hws, htu, hfo, tr, yr⟩ := Hid.out hrel
              clear hrel
              have hpn : pN (n + 1) = 2 + 4 * pN n := rfl
              have HPN : Hid (pN (n + 1) = 2 + 4 * pN n) := hpn
              have HWS : Hid (WS B g N F c m room ft Q cnt wr (i + 2 + k * pN n) U' s' z') := hws
              have HTU : Hid (Turns (fun b => U b ∨ ft z b) w wr) := htu
              have HFO : Hid (∀ b, (U' b ∨ ft z' b) → (U b ∨ ft z b) ∨ (w.heap.size + 1 ≤ b ∧ b ≠ yb)) := hfo
              have HRE : Hid (kidsR (fun s k => wlkR F N st n s (p * 4 + (k : Int)) (K k)) (4 - k) k s' = wlkR F N st (n + 1) s p R) := hre
              clear hws htu hfo hre hpn
              by_cases hlt : k < 4
              · have hk4 : (k : Int) < 4 := by omega
                have hk0 : (0 : Int) ≤ (k : Int) := by omega
                have HLT : Hid (k < 4) := hlt
                go_wp2_with (first
                  | (refine wpList_load_rowg (by rfl) 75 _ (by rfl) (w.heap.size) (by rfl) 75 (poC l p R) (0, 0) _ (by exact tr) Tryz.underlying75 (by rfl) (sizePo.trans (by rw [poC_size])) ?_; simp only [Act.put, List.setIfInBounds_toArray, List.set_cons_zero, List.set_cons_succ])
                  | (refine wpList_load_rowg (by rfl) 157 _ (by rfl) (yb) (by rfl) 157 (ndC nl K) (0, 0) _ (by exact yr) Tryz.underlying157 (by rfl) (tsizeNd.trans (by rw [ndC_size])) ?_; simp only [Act.put, List.setIfInBounds_toArray, List.set_cons_zero, List.set_cons_succ])
                  | fail)
                refine (HBn.out k wr hlt).mono ?_
                rintro x w8 ⟨rfl, hb8⟩
                have t8 := tr.below hb8 tr.lt
                have y8 := yr.below hb8 yr.lt
                have HS8 : Hid (WS B g N F c m room ft Q cnt w8 (i + 2 + k * pN n) U' s' z') := HWS.out.below HKp.out hb8
                have HT8 : Hid (Turns (fun b => U b ∨ ft z b) w w8) := HTU.out.trans (Turns.of_below (S := fun b => U b ∨ ft z b) hb8) fun b q => .inl q
                have HY8 : Hid (yb < w8.heap.size) := y8.lt
                clear hb8 tr yr HWS HTU
                go_wp2_with fail
                refine (HWk.out k s' z' _ U' w8 hlt (Nat.le_refl _) HS8.out).mono ?_
                rintro x w9 ⟨rfl, U9, z9, hs9, ht9, hf9⟩
                have nt : ¬ (U' w.heap.size ∨ ft z' w.heap.size) := fun q => by
                  rcases HFO.out _ q with u | u
                  · have := HSU.out _ u
                    omega
                  · omega
                have ny : ¬ (U' yb ∨ ft z' yb) := fun q => by
                  rcases HFO.out _ q with u | u
                  · have := HSU.out _ u
                    have := HY.out.1
                    omega
                  · exact u.2 rfl
                have t9 := ht9.blk t8 nt
                have y9 := ht9.blk y8 ny
                have HT9 : Hid (Turns (fun b => U b ∨ ft z b) w w9) := HT8.out.trans ht9 fun b q => (HFO.out b q).imp id (by omega)
                have HF9 : Hid (∀ b, (U9 b ∨ ft z9 b) → (U b ∨ ft z b) ∨ (w.heap.size + 1 ≤ b ∧ b ≠ yb)) := fun b q => by
                  rcases hf9 b q with u | u
                  · exact HFO.out b u
                  · have h1 := HY8.out
                    have h2 := HY.out.1
                    exact .inr (by omega)
                have HS9 : Hid (WS B g N F c m room ft Q cnt w9 (i + 2 + k * pN n + pN n) U9 (wlkR F N st n s' (p * 4 + (k : Int)) (K k)).1 z9) := hs9
                have HRK : Hid ((if (wlkR F N st n s' (p * 4 + (k : Int)) (K k)).2 = 0 then kidsR (fun s k => wlkR F N st n s (p * 4 + (k : Int)) (K k)) (4 - (k + 1)) (k + 1) (wlkR F N st n s' (p * 4 + (k : Int)) (K k)).1 else wlkR F N st n s' (p * 4 + (k : Int)) (K k)) = wlkR F N st (n + 1) s p R) := by
                  have h1 := HRE.out
                  rw [show 4 - k = (4 - (k + 1)) + 1 by omega] at h1
                  exact h1
                clear hs9 ht9 hf9 t8 y8 HT8 HS8 HFO HRE nt ny
                generalize wlkR F N st n s' (p * 4 + (k : Int)) (K k) = rv at *
                obtain ⟨s9, e9⟩ := rv
                have h4k : k * pN n + pN n = (k + 1) * pN n := (Nat.succ_mul _ _).symm
                have H4K : Hid (k * pN n + pN n = (k + 1) * pN n) := h4k
                clear h4k
                by_cases h9 : e9 = 0
                · subst h9
                  have HRL : Hid (kidsR (fun s k => wlkR F N st n s (p * 4 + (k : Int)) (K k)) (4 - (k + 1)) (k + 1) s9 = wlkR F N st (n + 1) s p R) := by
                    show _ = _
                    have := HRK.out
                    simpa using this
                  clear HRK
                  go_wp2_with fail
                  go_roundw
                  case rel => exact ⟨k + 1, s9, z9, U9, HLT.out, by first | rfl | go_num | simp, HRL.out, by have := HS9.out; rw [Nat.add_assoc, H4K.out] at this; exact this, HT9.out, HF9.out, t9, y9⟩
                  case measure => simp [intOf]; have := HLT.out; omega
                · have HRL : Hid (wlkR F N st (n + 1) s p R = (s9, e9)) := by
                    show _ = _
                    have := HRK.out
                    simp only [if_neg h9] at this
                    exact this.symm
                  have hne2 : (e9 != 0) = true := by simp [h9]
                  have hne3 : decide (e9 = 0) = false := decide_eq_false h9
                  clear HRK
                  go_wp2_with fail
                  go_ret
                  rw [HRL.out]
                  refine ⟨rfl, U9, z9, HS9.out.mono ?_, HT9.out, fun b q => (HF9.out b q).imp id (by omega)⟩
                  have h1 := H4K.out
                  have h2 := HPN.out
                  have h3 := HLT.out
                  have : (k + 1) * pN n ≤ 4 * pN n := Nat.mul_le_mul_right _ (by omega)
                  omega
              · obtain rfl : k = 4 := by omega
                have HRL : Hid (wlkR F N st (n + 1) s p R = (s', 0)) := HRE.out.symm
                go_wp2_with fail
                go_ret
                rw [HRL.out]
                exact ⟨rfl, U', z', HWS.out.mono (by have h2 := HPN.out; omega), HTU.out, fun b q => (HFO.out b q).imp id (by omega)⟩
          · have HW : Hid (wlkR F N st (n + 1) s p R = (s1, ne)) := by
              have h1 := HST.out
              have h2 := HP.out.2.2.2.2.1
              have h3 := HNE.out
              rw [← hl] at h3
              show _ = _
              simp only [wlkR, h1, h2, h3, if_true, if_false, and_self, if_neg hn0]
            have hne2 : (ne != 0) = true := by simp [hn0]
            have hne3 : decide (ne = 0) = false := decide_eq_false hn0
            go_wp2_with fail
            go_ret
            rw [HW.out]
            exact ⟨rfl, U4, z1, HS7.out.mono (by have h1 : pN (n + 1) = 2 + 4 * pN n := rfl; omega), HT7.out, fun b q => (HF7.out b q).imp id (by omega)⟩
    · have HR : Hid (wlkR F N st n s p R = (s1, er)) := by
        have h1 := HST.out
        have h2 := HP.out.2.2.2.2.1
        show _ = _
        cases n <;> simp [wlkR, h1, h2, he]
      have hne2 : (er != 0) = true := by simp [he]
      have hne3 : decide (er = 0) = false := decide_eq_false he
      go_wp2_with fail
      go_ret
      rw [HR.out]
      exact ⟨rfl, U3, z1, HS3.out.mono (by have := HP.out; omega), HT3.out, fun b q => (HF3.out b q).imp id (by omega)⟩
theorem walk_any (ef : ∀ args w, (callFunc fn args).run Tryz.prog w = .ok (.enter fn args) w) (hF : ∀ a, F a < 256) (HC : WK fn caps B g N F c m room ft Q cnt st) : ∀ (n : Nat), n ≤ 6 → WalkP B g N F c m room ft Q cnt fn caps st n
  | 0, h => walk_lvl ef hF HC 0 h fun n' e => by omega
  | n + 1, h => walk_lvl ef hF HC (n + 1) h fun n' e => by
    obtain rfl : n = n' := by omega
    exact walk_any ef hF HC n (by omega)
end
end Go.Proofs.YtjhabngibbmpbaaGreat
