/- The document's All: all positions beneath one, in an image. -/
import Derived.Test.YtjhabngibbmpbaaGreatHTrRef
import Derived.Handy
import Derived.Test.YtjhabngibbmpbaaGreatHNdBlock
import Derived.BigQuiet
import Derived.Deep.QuietTactic
import Derived.Test.YtjhabngibbmpbaaGreatHWoMade
import Derived.Test.YtjhabngibbmpbaaGreatHTrRDown
import Derived.Test.YtjhabngibbmpbaaGreatHDkFns
import Derived.Test.YtjhabngibbmpbaaGreatHTrNew

namespace Go.Proofs.YtjhabngibbmpbaaGreat
theorem sgLHTrRAll : (∀ (α : Type) (a : α) (l r : List α), (a :: l) ++ r = a :: (l ++ r)) ∧ (∀ (α : Type) (l : List α), [] ++ l = l) ∧ (∀ (α : Type) (l : List α), l ++ [] = l) ∧ (∀ (α β : Type) (f : α → Option β) (a : α) (l : List α), (a :: l).filterMap f = match f a with | none => l.filterMap f | some b => b :: l.filterMap f) ∧ (∀ (α β : Type) (f : α → Option β), [].filterMap f = []) ∧ (∀ (α : Type) (l : List α) (i : Nat), l.toArray[i]? = l[i]?) ∧ (∀ (α : Type) (a : α) (l : List α), (a :: l)[0]? = some a) ∧ (∀ (α : Type) (a : α) (l : List α) (i : Nat), (a :: l)[i + 1]? = l[i]?) :=
  ⟨fun _ _ _ _ => List.cons_append, fun _ _ => List.nil_append _, fun _ _ => List.append_nil _, fun _ _ _ _ _ => List.filterMap_cons, fun _ _ _ => List.filterMap_nil, fun _ _ _ => List.getElem?_toArray, fun _ _ _ => List.getElem?_cons_zero, fun _ _ _ _ => List.getElem?_cons_succ⟩
theorem sgPHTrRAll : (∀ (α : Type) (l : List α) (i : Nat) (a : α), l.toArray.setIfInBounds i a = (l.set i a).toArray) ∧ (∀ (α : Type) (a b : α) (l : List α), (a :: l).set 0 b = b :: l) ∧ (∀ (α : Type) (a b : α) (l : List α) (i : Nat), (a :: l).set (i + 1) b = a :: l.set i b) :=
  ⟨fun _ _ _ _ => List.setIfInBounds_toArray _ _ _, fun _ _ _ _ => List.set_cons_zero, fun _ _ _ _ _ => List.set_cons_succ⟩
end Go.Proofs.YtjhabngibbmpbaaGreat
namespace Go.Proofs.YtjhabngibbmpbaaGreat
open Go Go.RowKit
set_option linter.unusedSimpArgs false
set_option linter.unusedVariables false

/-- is a position outside of a tree of that height? -/
def outP (h l p : Int) : Prop := l < 0 ∨ h < l ∨ p < 0 ∨ ((4 ^ (h - l).toNat : Nat) : Int) ≤ p
instance (h l p : Int) : Decidable (outP h l p) := by unfold outP; infer_instance
/-- the way to a position -/
def wayTo9 (h l p : Int) : List Nat := (List.range (h - l).toNat).map (wayN (h - l).toNat p.toNat)
instance (h : Int) (R : Rf) : Decidable (trOk h R) := by unfold trOk; infer_instance
/-- what Ref answers -/
def refV (F : Nat → Nat) (N : Nat) (h : Int) (R : Rf) (l p : Int) : Rf × Int := if trOk h R then (if outP h l p then (rf0, 90) else folR F N h R (wayTo9 h l p)) else (rf0, 1)
section
variable {B g N c m room i : Nat} {F : Nat → Nat} {U : Nat → Prop}
theorem ref9_any (h : Int) (R : Rf) (hR : R.1 < 4294967296) (hD : okD R.2) (hF : ∀ a, F a < 256) (l p : Int) (hi : i < 34359738368) (w : World) (H : TD w B g N F c m room i U) : Calls Tryz.prog 19 #[.pointer (some ⟨c, 0, none⟩), .agg (trC h R), .int .i64 l, .int .i64 p] w fun x w' => x = .returned (.tuple #[.agg (rfC (refV F N h R l p).1), .int .i64 (refV F N h R l p).2]) ∧ TDStep w w' B g N F c m room (i + 6) U := by
  have no : ∀ er : Int, er ≠ 0 → refV F N h R l p = (rf0, er) → (∀ w, Calls Tryz.prog 42 #[.agg (trC h R), .int .i64 l, .int .i64 p] w fun x w' => x = .returned (.tuple #[.slice none 0 0, .int .i64 er]) ∧ Below w.heap.size w w') → Calls Tryz.prog 19 #[.pointer (some ⟨c, 0, none⟩), .agg (trC h R), .int .i64 l, .int .i64 p] w fun x w' => x = .returned (.tuple #[.agg (rfC (refV F N h R l p).1), .int .i64 (refV F N h R l p).2]) ∧ TDStep w w' B g N F c m room (i + 6) U := fun er h1 h2 h3 => by
    rw [h2]
    exact (ref_no h R l p er h1 h3 _ w).mono fun x w' ⟨e, hb⟩ => ⟨e, .of_below (H.mono (by omega)) hb⟩
  by_cases hok : trOk h R
  · by_cases hout : outP h l p
    · refine no 90 (by decide) (by unfold refV; rw [if_pos hok, if_pos hout]) ?_
      rcases hout with h1 | h1 | h1
      · exact wayTo_lo h R hR hD hok l p h1
      · exact wayTo_hi h R hR hD hok l p h1
      · by_cases l0 : l < 0
        · exact wayTo_lo h R hR hD hok l p l0
        · by_cases l1 : h < l
          · exact wayTo_hi h R hR hD hok l p l1
          · exact wayTo_place h R hR hD hok l p ⟨by omega, by omega⟩ (h - l).toNat (by omega) h1
    · unfold outP at hout
      have hl : 0 ≤ l ∧ l ≤ h := ⟨by omega, by omega⟩
      have hp : 0 ≤ p := by omega
      have := ref_ok h R hR hD hF hok l p.toNat hl (h - l).toNat (by omega) (by omega) hi w H
      rw [Int.toNat_of_nonneg hp] at this
      have e : refV F N h R l p = folR F N h R ((List.range (h - l).toNat).map (wayN (h - l).toNat p.toNat)) := by
        unfold refV wayTo9
        rw [if_pos hok, if_neg (show ¬ outP h l p from hout)]
      rw [e]
      exact this
  · exact no 1 (by decide) (by unfold refV; rw [if_neg hok]) (wayTo_arg h R hR hD hok l p)
end
end Go.Proofs.YtjhabngibbmpbaaGreat

namespace Go.Proofs.YtjhabngibbmpbaaGreat
open Go Go.RowKit
set_option linter.unusedSimpArgs false
set_option linter.unusedVariables false

set_option maxRecDepth 100000 in
set_option maxHeartbeats 4000000 in
theorem awake9_any (w : World) : Calls Tryz.prog 12 #[] w fun e w' => e = .returned (.bool true) ∧ Below w.heap.size w w' := by
  have hW : Hid (Calls Tryz.prog 39 #[.int .i64 2, .int .i64 6] w fun e w' => e = .returned (.tuple #[.slice (some ⟨w.heap.size, 0, none⟩) 2 2, .int .i64 0]) ∧ Blk w' w.heap.size 3 (va 2 (iv .i64 (wayN 2 6))) ∧ Below w.heap.size w w') := way_ok 2 6 (by decide) (by decide) w
  have hC : Hid (∀ w : World, Calls Tryz.prog 40 #[.int .i64 3] w fun e w' => e = .returned (.tuple #[.int .i64 64, .int .i64 0]) ∧ w = w') := fun w => capacity_ok 3 64 (by decide) (by decide) w
  go_enter Tryz.func12, Tryz.ntmps12
  go_wp2_with fail
  refine hW.out.mono ?_
  rintro e w1 ⟨rfl, b1, hb1⟩
  have c0 : w1.cell? ⟨w.heap.size, 0, none⟩ = some (.int .i64 1) := b1.cv (by decide)
  have c1 : w1.cell? ⟨w.heap.size, 1, none⟩ = some (.int .i64 2) := b1.cv (by decide)
  go_wp2_with fail
  refine (hC.out w1).mono ?_
  rintro e _ ⟨rfl, rfl⟩
  go_wp2_with fail
  go_ret
  exact ⟨rfl, hb1⟩
end Go.Proofs.YtjhabngibbmpbaaGreat

namespace Go.Proofs.YtjhabngibbmpbaaGreat
open Go Go.RowKit
set_option linter.unusedSimpArgs false
set_option linter.unusedVariables false

theorem sizeWo : (Tryz.prog.info? 25).map (·.size) = some 5 := by kernel_rfl
theorem woC_size (h : Int) (a : Option Addr) (n c : Nat) (ab : Option Addr) (nb cb : Nat) (tu ca : Int) : (woC h a n c ab nb cb tu ca).size = 5 := rfl
theorem IsBlks.keptBy {w w' : World} {b o n : Nat} {L : Nat → Nat → Nat} (h : IsBlks w (some ⟨b, o, none⟩) n L) (hs : w.heap.size ≤ w'.heap.size) (hk : w'.heap[b]? = w.heap[b]?) : IsBlks w' (some ⟨b, o, none⟩) n L := fun i hi => by
  obtain ⟨b', o', e, h1, h2⟩ := h i hi
  injection e with e
  injection e with e1 e2
  subst e1 e2
  exact ⟨b, o, rfl, Nat.lt_of_lt_of_le h1 hs, fun j v hv => by
    rw [← h2 j v hv]
    simp only [World.cell?, hk]⟩
/-- what the statements have behind made: a cache on a quiet disk, the image, the tree in a block -/
structure TW (w : World) (B g N : Nat) (F : Nat → Nat) (c m room i : Nat) (U : Nat → Prop) (ib xt : Nat) (h : Int) (R : Rf) : Prop where
  td : TD w B g N F c m room i U
  img : IsBlks w (some ⟨ib, 0, none⟩) N fun i => blkAt F i
  tr : Blk w xt 33 (trC h R)
  hib : ¬ U ib
  hxt : ¬ U xt
  bib : ib < w.heap.size
theorem TW.below {w w' : World} {B g N c m room i ib xt : Nat} {F : Nat → Nat} {U : Nat → Prop} {h : Int} {R : Rf} (H : TW w B g N F c m room i U ib xt h R) (hb : Below w.heap.size w w') : TW w' B g N F c m room i U ib xt h R := ⟨H.td.below hb, H.img.below hb, H.tr.below hb H.tr.lt, H.hib, H.hxt, Nat.lt_of_lt_of_le H.bib hb.size⟩
theorem TW.step {w w' : World} {B g N c m room i j ib xt : Nat} {F : Nat → Nat} {U : Nat → Prop} {h : Int} {R : Rf} (H : TW w B g N F c m room i U ib xt h R) (hs : TDStep w w' B g N F c m room j U) : ∃ V, TW w' B g N F c m room j V ib xt h R ∧ Turns U w w' ∧ ∀ x, V x → U x ∨ w.heap.size ≤ x := by
  obtain ⟨V, h1, h2, h3⟩ := hs
  refine ⟨V, ⟨h1, H.img.keptBy h2.size (h2.block ib H.bib H.hib), h2.blk H.tr H.hxt, fun z => ?_, fun z => ?_, Nat.lt_of_lt_of_le H.bib h2.size⟩, h2, h3⟩
  · rcases h3 _ z with y | y
    · exact H.hib y
    · have := H.bib
      omega
  · rcases h3 _ z with y | y
    · exact H.hxt y
    · have := H.tr.lt
      omega
end Go.Proofs.YtjhabngibbmpbaaGreat

namespace Go.Proofs.YtjhabngibbmpbaaGreat
open Go Go.RowKit
set_option linter.unusedSimpArgs false
set_option linter.unusedVariables false
/-- the variable bx (of type ts) holds an own slice of n elements -/
def GS (V : World) (bx ts B e sz : Nat) (v : Value) (n : Nat) (xs : List Value) : Prop := Blk V bx ts #[v] ∧ V.ownsRow B e sz v n xs ∧ v.ownBlock ≠ some bx
/-- its blocks -/
def gft (bx : Nat) (v : Value) (b : Nat) : Prop := b = bx ∨ v.ownBlock = some b
section
variable {B bx ts e sz n : Nat} {v : Value} {xs : List Value} {V W : World}
theorem GS.keep {T : Nat → Prop} (h : GS V bx ts B e sz v n xs) (ht : Turns T V W) (hT : ∀ b, T b → ¬ gft bx v b) : GS W bx ts B e sz v n xs :=
  ⟨ht.blk h.1 (fun q => hT _ q (.inl rfl)), kown_kept h.2.1 fun k _ hk => ht.block k (h.2.1.lt k hk).2 fun q => hT k q (.inr hk), h.2.2⟩
theorem GS.below (h : GS V bx ts B e sz v n xs) (hb : Below V.heap.size V W) : GS W bx ts B e sz v n xs := h.keep (T := fun _ => False) (.of_below hb) fun _ q => q.elim
theorem GS.lt (h : GS V bx ts B e sz v n xs) (b : Nat) (hb : gft bx v b) : b < V.heap.size := by
  rcases hb with rfl | hb
  · exact h.1.lt
  · exact (h.2.1.lt b hb).2
end
theorem gs_cell {S : Nat → Prop} (w : World) (b i : Nat) (v : Value) (hS : S b) : Turns S w (w.setCell ⟨b, i, none⟩ v) := by
  have t : Below b w (w.setCell ⟨b, i, none⟩ v) := (Below.refl b w).setCell (p := ⟨b, i, none⟩) (Nat.le_refl _) _
  exact ⟨t.os, t.tape, t.output, t.size, fun k hk hn => Below.heap_setCell _ _ _ _ (fun e => hn (by rw [e]; exact hS))⟩
theorem gs_grown {w w' : World} {b e : Nat} {xs : Array Value} {r : Option Nat} (h : Blk w b e xs) (hg : w.grownBy w' r) (hr : r ≠ some b) : Blk w' b e xs := by
  obtain ⟨_, _, _, _, g5⟩ := hg
  exact (g5 b h.lt (fun q => hr q.symm)).trans h
theorem gs_setc {w : World} {b e : Nat} {u : Value} (h : Blk w b e #[u]) (v : Value) : Blk (w.setCell ⟨b, 0, none⟩ v) b e #[v] := h.put 0 v
/-- what an append to it and the store back leave -/
theorem GS.grown {bx ts B e sz n : Nat} {v v2 : Value} {xs ns : List Value} {V W U2 : World} (h : GS W bx ts B e sz v n xs) (hb : Below V.heap.size V W) (hbx : bx < V.heap.size) (ho2 : U2.ownsRow B e sz v2 (n + 1) (xs ++ ns)) (hg2 : W.grownBy U2 v.ownBlock) (ha2 : v2.ownBlock = v.ownBlock ∨ v2.ownBlock = some W.heap.size) :
    GS (U2.setCell ⟨bx, 0, none⟩ v2) bx ts B e sz v2 (n + 1) (xs ++ ns) ∧ Turns (gft bx v) V (U2.setCell ⟨bx, 0, none⟩ v2) ∧ ∀ b, gft bx v2 b → gft bx v b ∨ V.heap.size ≤ b := by
  have hbU : Blk U2 bx ts #[v] := gs_grown h.1 hg2 h.2.2
  have hne2 : v2.ownBlock ≠ some bx := by
    rcases ha2 with e | e
    · rw [e]; exact h.2.2
    · rw [e]
      intro q
      injection q with q
      have := hb.size
      omega
  have tg : Turns (gft bx v) W U2 := by
    obtain ⟨g1, g2, g3, g4, g5⟩ := hg2
    exact ⟨g1, g2, g3, g4, fun b hb hn => g5 b hb fun q => hn (.inr q.symm)⟩
  have tc : Turns (fun z => z = bx) U2 (U2.setCell ⟨bx, 0, none⟩ v2) := gs_cell _ _ _ _ rfl
  refine ⟨⟨gs_setc hbU _, kown_kept ho2 fun k _ hk => tc.block k (ho2.lt k hk).2 fun q => hne2 (by rw [hk, q]), hne2⟩, ((Turns.of_below hb).trans tg fun b q => .inl q).trans tc (fun b q => .inl (.inl q)), fun b q => ?_⟩
  rcases q with q | q
  · exact .inl (.inl q)
  · rcases ha2 with e | e
    · exact .inl (.inr (e.symm.trans q))
    · rw [e] at q
      injection q with q
      have := hb.size
      exact .inr (by omega)
end Go.Proofs.YtjhabngibbmpbaaGreat

namespace Go.Proofs.YtjhabngibbmpbaaGreat
open Go Go.RowKit
set_option linter.unusedSimpArgs false
set_option linter.unusedVariables false
/-- four of something, one behind the other, until one fails -/
def kidsR {σ : Type} (f : σ → Nat → σ × Int) : Nat → Nat → σ → σ × Int
  | 0, _, s => (s, 0)
  | m + 1, k, s => if (f s k).2 = 0 then kidsR f m (k + 1) (f s k).1 else f s k
/-- what walk does to a state: st tells what enter does at a position (level, place, reference): the state behind, whether what hangs beneath is asked for, the error -/
def wlkR {σ : Type} (F : Nat → Nat) (N : Nat) (st : σ → Nat → Int → Rf → σ × Bool × Int) : Nat → σ → Int → Rf → σ × Int
  | 0, s, p, R => if R = rf0 then (s, 0) else ((st s 0 p R).1, (st s 0 p R).2.2)
  | n + 1, s, p, R => if R = rf0 then (s, 0) else
      if (st s (n + 1) p R).2.2 = 0 ∧ (st s (n + 1) p R).2.1 = true then
        (if nodE F N ((n + 1 : Nat) : Int) R = 0 then kidsR (fun s k => wlkR F N st n s (p * 4 + (k : Int)) (decK (gotF F N R) k)) 4 0 (st s (n + 1) p R).1 else ((st s (n + 1) p R).1, nodE F N ((n + 1 : Nat) : Int) R))
      else ((st s (n + 1) p R).1, (st s (n + 1) p R).2.2)
/-- how many calls that takes at most -/
def pN : Nat → Nat
  | 0 => 2
  | n + 1 => 2 + 4 * pN n
theorem pN_le {n : Nat} (h : n ≤ 6) : pN n ≤ 10922 := by
  have : n = 0 ∨ n = 1 ∨ n = 2 ∨ n = 3 ∨ n = 4 ∨ n = 5 ∨ n = 6 := by omega
  rcases this with rfl | rfl | rfl | rfl | rfl | rfl | rfl <;> decide
/-- a disk and a cache, and a state s told by Q in blocks of its own (z), behind i calls at most -/
structure WS {σ α : Type} (B g N : Nat) (F : Nat → Nat) (c m room : Nat) (ft : α → Nat → Prop) (Q : σ → α → World → Prop) (cnt : σ → Nat) (V : World) (i : Nat) (U : Nat → Prop) (s : σ) (z : α) : Prop where
  td : TD V B g N F c m room i U
  q : Q s z V
  ap : ∀ b, ft z b → ¬ U b
  cn : cnt s ≤ i
  lt : ∀ b, ft z b → b < V.heap.size
/-- what a call does to them -/
def WSt {σ α : Type} (B g N : Nat) (F : Nat → Nat) (c m room : Nat) (ft : α → Nat → Prop) (Q : σ → α → World → Prop) (cnt : σ → Nat) (V w' : World) (i' : Nat) (U : Nat → Prop) (z : α) (s' : σ) : Prop :=
  ∃ U' z', WS B g N F c m room ft Q cnt w' i' U' s' z' ∧ Turns (fun b => U b ∨ ft z b) V w' ∧ ∀ b, (U' b ∨ ft z' b) → (U b ∨ ft z b) ∨ V.heap.size ≤ b
section
variable {σ α : Type} {B g N c m room i : Nat} {F : Nat → Nat} {U : Nat → Prop} {ft : α → Nat → Prop} {Q : σ → α → World → Prop} {cnt : σ → Nat} {V W : World} {s : σ} {z : α}
theorem WS.keep {T : Nat → Prop} (hk : ∀ s z V V' (T : Nat → Prop), Q s z V → Turns T V V' → (∀ b, T b → ¬ ft z b) → Q s z V') (h : WS B g N F c m room ft Q cnt V i U s z) (ht : Turns T V W) (hT : ∀ b, T b → ¬ ft z b ∧ ¬ U b) : WS B g N F c m room ft Q cnt W i U s z :=
  ⟨h.td.kept ht.size fun x hx => ht.block x (h.td.lt x hx).2 fun q => (hT x q).2 hx, hk s z V W T h.q ht fun b q => (hT b q).1, h.ap, h.cn, fun b q => Nat.lt_of_lt_of_le (h.lt b q) ht.size⟩
theorem WS.below (hk : ∀ s z V V' (T : Nat → Prop), Q s z V → Turns T V V' → (∀ b, T b → ¬ ft z b) → Q s z V') (h : WS B g N F c m room ft Q cnt V i U s z) (hb : Below V.heap.size V W) : WS B g N F c m room ft Q cnt W i U s z := h.keep hk (T := fun _ => False) (.of_below hb) fun b q => q.elim
theorem WS.mono {j : Nat} (h : WS B g N F c m room ft Q cnt V i U s z) (hj : i ≤ j) : WS B g N F c m room ft Q cnt V j U s z := ⟨h.td.mono hj, h.q, h.ap, Nat.le_trans h.cn hj, h.lt⟩
/-- a call that turns the disk and the cache alone -/
theorem WS.step {j : Nat} (hk : ∀ s z V V' (T : Nat → Prop), Q s z V → Turns T V V' → (∀ b, T b → ¬ ft z b) → Q s z V') (h : WS B g N F c m room ft Q cnt V i U s z) (hs : TDStep V W B g N F c m room j U) (hj : i ≤ j) : ∃ U', WS B g N F c m room ft Q cnt W j U' s z ∧ Turns (fun b => U b ∨ ft z b) V W ∧ ∀ b, (U' b ∨ ft z b) → (U b ∨ ft z b) ∨ V.heap.size ≤ b := by
  obtain ⟨U', h1, h2, h3⟩ := hs
  refine ⟨U', ⟨h1, hk s z V W U h.q h2 fun b q q2 => h.ap b q2 q, fun b q q2 => ?_, Nat.le_trans h.cn hj, fun b q => Nat.lt_of_lt_of_le (h.lt b q) h2.size⟩, h2.mono fun b q => .inl q, fun b q => ?_⟩
  · rcases h3 b q2 with u | u
    · exact h.ap b q u
    · have := h.lt b q
      omega
  · rcases q with q | q
    · rcases h3 b q with u | u
      · exact .inl (.inl u)
      · exact .inr u
    · exact .inl (.inr q)
theorem WSt.of (h : WS B g N F c m room ft Q cnt W i U s z) (hb : Below V.heap.size V W) : WSt B g N F c m room ft Q cnt V W i U z s := ⟨U, z, h, .of_below hb, fun b q => .inl q⟩
end
end Go.Proofs.YtjhabngibbmpbaaGreat

namespace Go.Proofs.YtjhabngibbmpbaaGreat
open Go Go.RowKit
set_option linter.unusedSimpArgs false
set_option linter.unusedVariables false
/-- Each's own state: is it still on? -/
def ftE {α : Type} (ft : α → Nat → Prop) (tb db : Nat) (z : α) (b : Nat) : Prop := b = tb ∨ b = db ∨ ft z b
def QE {σ α : Type} (fn : Nat) (caps : Array Value) (ft : α → Nat → Prop) (Q : σ → α → World → Prop) (tb db : Nat) (s : Bool × σ) (z : α) (V : World) : Prop := Blk V tb 4 #[.bool s.1] ∧ Blk V db 80 #[.func (.func fn) #[] caps] ∧ Q s.2 z V ∧ ¬ ft z tb ∧ ¬ ft z db ∧ tb ≠ db
section
variable {σ α : Type} {B g N c m room i : Nat} {F : Nat → Nat} {U : Nat → Prop} {ft : α → Nat → Prop} {Q : σ → α → World → Prop} {cnt : σ → Nat} {fn : Nat} {caps : Array Value} {dn : σ → Nat → Int → Rf → σ × Bool}
theorem QE.keep {s : Bool × σ} {z : α} {V W : World} {T : Nat → Prop} {tb db : Nat} (hk : ∀ s z V V' (T : Nat → Prop), Q s z V → Turns T V V' → (∀ b, T b → ¬ ft z b) → Q s z V') (h : QE fn caps ft Q tb db s z V) (ht : Turns T V W) (hT : ∀ b, T b → ¬ ftE ft tb db z b) : QE fn caps ft Q tb db s z W :=
  ⟨ht.blk h.1 (fun q => hT _ q (.inl rfl)), ht.blk h.2.1 (fun q => hT _ q (.inr (.inl rfl))), hk _ _ V W T h.2.2.1 ht fun b q q2 => hT b q (.inr (.inr q2)), h.2.2.2⟩
end
end Go.Proofs.YtjhabngibbmpbaaGreat

namespace Go.Proofs.YtjhabngibbmpbaaGreat
open Go Go.RowKit
set_option linter.unusedSimpArgs false
set_option linter.unusedVariables false
/-- a position -/
abbrev Ps := Nat × Int × Rf
/-- positions as cells -/
def posL (l : List Ps) : List Value := l.flatMap fun x => (poC (x.1 : Int) x.2.1 x.2.2).toList
theorem posL_snoc (l : List Ps) (x : Ps) : posL (l ++ [x]) = posL l ++ (poC (x.1 : Int) x.2.1 x.2.2).toList := by simp [posL]
theorem posL_app (l m : List Ps) : posL (l ++ m) = posL l ++ posL m := by simp [posL]
theorem poC_list (l p : Int) (R : Rf) : (poC l p R).toList.length = 35 := by rw [Array.length_toList, poC_size]
theorem posL_len : ∀ l : List Ps, (posL l).length = l.length * 35
  | [] => rfl
  | x :: l => by
    show ((poC (x.1 : Int) x.2.1 x.2.2).toList ++ posL l).length = _
    rw [List.length_append, posL_len l, poC_list]
    simp
    omega
theorem arr_memT {cs : Array Value} (h : cs.all (·.oneCell') = true) : ∀ v ∈ cs.toList, v.oneCell' = true := fun v hv => by
  rw [Array.all_eq_true] at h
  obtain ⟨i, hi, e⟩ := List.getElem_of_mem hv
  have := h i (by simpa using hi)
  rw [← e]
  simpa using this
theorem posL_one (l : List Ps) : ∀ u ∈ posL l, u.oneCell' = true := fun u hu => by
  obtain ⟨x, _, hx⟩ := List.mem_flatMap.1 hu
  exact arr_memT (poC_all _ _ _) u hx
/-- four lists, one behind the other, until one fails -/
def bnK (f : Nat → List Ps × Int) : Nat → Nat → List Ps → List Ps × Int
  | 0, _, acc => (acc, 0)
  | m + 1, k, acc => if (f k).2 = 0 then bnK f m (k + 1) (acc ++ (f k).1) else (acc ++ (f k).1, (f k).2)
/-- all positions from one on, and what is wrong -/
def bnR (F : Nat → Nat) (N : Nat) : Nat → Int → Rf → List Ps × Int
  | 0, p, R => if R = rf0 then ([], 0) else ([(0, p, R)], 0)
  | n + 1, p, R => if R = rf0 then ([], 0) else if nodE F N ((n + 1 : Nat) : Int) R = 0 then bnK (fun k => bnR F N n (4 * p + (k : Int)) (decK (gotF F N R) k)) 4 0 [(n + 1, p, R)] else ([(n + 1, p, R)], nodE F N ((n + 1 : Nat) : Int) R)
/-- how many there can be -/
def cN : Nat → Nat
  | 0 => 1
  | n + 1 => 1 + 4 * cN n
theorem cN_le {n : Nat} (h : n ≤ 6) : cN n ≤ 5461 := by
  have : n = 0 ∨ n = 1 ∨ n = 2 ∨ n = 3 ∨ n = 4 ∨ n = 5 ∨ n = 6 := by omega
  rcases this with rfl | rfl | rfl | rfl | rfl | rfl | rfl <;> decide
theorem bnK_len {f : Nat → List Ps × Int} {z : Nat} (hf : ∀ k, (f k).1.length ≤ z) : ∀ (m k : Nat) (acc : List Ps), (bnK f m k acc).1.length ≤ acc.length + m * z
  | 0, k, acc => by simp [bnK]
  | m + 1, k, acc => by
    have h1 := hf k
    have h2 : (m + 1) * z = m * z + z := Nat.succ_mul _ _
    unfold bnK
    split
    · have := bnK_len hf m (k + 1) (acc ++ (f k).1)
      rw [List.length_append] at this
      omega
    · simp only [List.length_append]
      omega
theorem bnR_len (F : Nat → Nat) (N : Nat) : ∀ (n : Nat) (p : Int) (R : Rf), (bnR F N n p R).1.length ≤ cN n
  | 0, p, R => by
    unfold bnR cN
    split <;> simp
  | n + 1, p, R => by
    unfold bnR cN
    split
    · simp
    · split
      · have := bnK_len (f := fun k => bnR F N n (4 * p + (k : Int)) (decK (gotF F N R) k)) (z := cN n) (fun k => bnR_len F N n _ _) 4 0 [(n + 1, p, R)]
        simp only [List.length_singleton] at this
        omega
      · simp
theorem rinfoPo : (Tryz.prog.info? 77).map (fun i => (i.zero, i.size, i.bytes)) = some (some (.agg (poC 0 0 rf0)), 35, 56) := by kernel_rfl
theorem rsizePo : (Tryz.prog.info? 77).map (·.size) = some 35 := by kernel_rfl
theorem rbuilt_po3 (l p : Int) (R : Rf) : Tryz.prog.built 77 [(0, .int .i64 l), (1, .int .i64 p), (2, .agg (rfC R))] = some (poC l p R) := by kernel_rfl
/-- a slice of one element -/
theorem own_one (w : World) (B e sz : Nat) (cs : Array Value) (hc : cs.size = sz) (hB : B ≤ w.heap.size) : (w.alloc (.cells cs e)).ownsRow B e sz (.slice (some ⟨w.heap.size, 0, none⟩) 1 1) 1 cs.toList := by
  refine ⟨by rw [Array.length_toList, hc, Nat.one_mul], .inr ⟨w.heap.size, 1, cs, rfl, hB, Blk.new _ _ _, Nat.le_refl _, by unfold maxLen; omega, by rw [hc, Nat.one_mul], ?_⟩⟩
  rw [Nat.one_mul, ← hc, ← Array.length_toList, List.take_length]
section
variable {F : Nat → Nat} {N : Nat}
/-- what beneath answers -/
def BnP (w : World) (L : List Ps) (er : Int) (e : Ending) (w' : World) : Prop := ∃ a c, e = .returned (.tuple #[.slice (some ⟨a, 0, none⟩) L.length c, .int .i64 er]) ∧ w'.ownsRow w.heap.size 77 35 (.slice (some ⟨a, 0, none⟩) L.length c) L.length (posL L) ∧ Below w.heap.size w w'
def BenP (F : Nat → Nat) (N : Nat) (a0 : Option Addr) (cap : Nat) (n : Nat) : Prop := ∀ (p : Int) (R : Rf) (w : World), 0 ≤ p → (p + 1) * ((4 ^ n : Nat) : Int) ≤ 4096 → R.1 < 4294967296 → (IsBlks w a0 N fun i => blkAt F i) → Calls Tryz.prog 59 #[.slice a0 N cap, .agg (poC (n : Int) p R)] w (BnP w (bnR F N n p R).1 (bnR F N n p R).2)
set_option maxRecDepth 100000 in
set_option maxHeartbeats 8000000 in
theorem rben_none (sl : Value) (l p : Int) (w : World) : Calls Tryz.prog 59 #[sl, .agg (poC l p rf0)] w (BnP w [] 0) := by
  obtain ⟨i0, hi, hz0, hz1, hz2⟩ := info_parts rinfoPo
  have t1 : Blk (w.alloc (.cells (poC l p rf0) 77)) w.heap.size 77 (poC l p rf0) := Blk.new _ _ _
  have HRP : Hid ((w.alloc (.cells (poC l p rf0) 77)).rangeAt w.heap.size 2 ((List.range 33).map (rfF rf0.1 rf0.2))) := po_range t1
  have hb1 : Below w.heap.size w (w.alloc (.cells (poC l p rf0) 77)) := below_new1 _ _
  have hNn : Hid (∀ w, Calls Tryz.prog 47 #[.agg (rfC rf0)] w fun e w' => e = .returned (.bool true) ∧ Below w.heap.size w w') := fun w => by
    have := rnone_any rf0 w
    rw [decide_eq_true rfl] at this
    exact this
  clear t1
  go_enter Tryz.func59, Tryz.ntmps59
  go_wp2_with (first
    | (refine wpList_load_blk (by rfl) 31 _ (by rfl) (w.heap.size) (2) 33 (rfF rf0.1 rf0.2) (by rfl) _ (by exact HRP.out) Tryz.underlying31 rfl rsizeRef ?_; simp only [Act.put, sgPHTrRAll])
    | fail)
  generalize (w.alloc (.cells (poC l p rf0) 77)) = w1 at *
  refine (hNn.out w1).mono ?_
  rintro x w2 ⟨rfl, hb2⟩
  have hb12 := hb1.trans (hb2.mono hb1.size)
  have HE : Hid (BnP w [] 0 (.returned (.tuple #[.slice (some ⟨w2.heap.size, 0, none⟩) 0 0, .int .i64 0])) (w2.alloc (.cells #[] 77))) := ⟨_, _, rfl, kown_empty (Blk.new _ _ _) hb12.size, hb12.trans ((below_new1 _ _).mono hb12.size)⟩
  clear hb1 hb2 hb12 hNn
  go_wp2_with fail
  go_ret2
  exact HE.out
set_option maxRecDepth 100000 in
set_option maxHeartbeats 16000000 in
theorem rben_lvl (hF : ∀ a, F a < 256) (hN : N ≤ 8192) (a0 : Option Addr) (cap : Nat) (n : Nat) (hn : n ≤ 6) (IH : ∀ n', n = n' + 1 → BenP F N a0 cap n') : BenP F N a0 cap n := by
  intro p R w hp0 hp1 hR H
  by_cases hR0 : R = rf0
  · subst hR0
    have e : bnR F N n p rf0 = ([], 0) := by cases n <;> simp [bnR]
    rw [e]
    exact rben_none _ _ _ w
  obtain ⟨i0, hi, hz0, hz1, hz2⟩ := info_parts rinfoPo
  have hz := rzero_bk
  have hzk := rzero_kd
  have t1 : Blk (w.alloc (.cells (poC (n : Int) p R) 77)) w.heap.size 77 (poC (n : Int) p R) := Blk.new _ _ _
  have HRP : Hid ((w.alloc (.cells (poC (n : Int) p R) 77)).rangeAt w.heap.size 2 ((List.range 33).map (rfF R.1 R.2))) := po_range t1
  have hb1 : Below w.heap.size w (w.alloc (.cells (poC (n : Int) p R) 77)) := below_new1 _ _
  have hNn : Hid (∀ w, Calls Tryz.prog 47 #[.agg (rfC R)] w fun e w' => e = .returned (.bool false) ∧ Below w.heap.size w w') := fun w => by
    have := rnone_any R w
    rw [decide_eq_false hR0] at this
    exact this
  have HIH : Hid (∀ n', n = n' + 1 → BenP F N a0 cap n') := IH
  have HP : Hid (n ≤ 6 ∧ 0 ≤ p ∧ (p + 1) * ((4 ^ n : Nat) : Int) ≤ 4096 ∧ R.1 < 4294967296 ∧ R ≠ rf0 ∧ N ≤ 8192 ∧ (∀ a, F a < 256) ∧ IsBlks w a0 N fun i => blkAt F i) := ⟨hn, hp0, hp1, hR, hR0, hN, hF, H⟩
  clear H IH hn hp0 hp1 hR hR0 hN hF
  go_enter Tryz.func59, Tryz.ntmps59
  go_wp2_with (first
    | (refine wpList_load_blk (by rfl) 31 _ (by rfl) (w.heap.size) (2) 33 (rfF R.1 R.2) (by rfl) _ (by exact HRP.out) Tryz.underlying31 rfl rsizeRef ?_; simp only [Act.put, sgPHTrRAll])
    | fail)
  clear HRP
  generalize (w.alloc (.cells (poC (n : Int) p R) 77)) = w1 at *
  refine (hNn.out w1).mono ?_
  rintro x w2 ⟨rfl, hb2⟩
  have hb12 := hb1.trans (hb2.mono hb1.size)
  have t2 := t1.below hb2 t1.lt
  have hb3 : Below w2.heap.size w2 (w2.alloc (.cells (poC (n : Int) p R) 77)) := below_new1 _ _
  have t3 := t2.below hb3 t2.lt
  have z3 : (w2.alloc (.cells (poC (n : Int) p R) 77)).cell? ⟨w.heap.size, 0, none⟩ = some (.int .i64 (n : Int)) := (t3.cell 0).trans (va_at (poF (n : Int) p R) (by decide))
  have HB3 : Hid (Below w.heap.size w (w2.alloc (.cells (poC (n : Int) p R) 77)) ∧ w.heap.size < w2.heap.size) := ⟨hb12.trans (hb3.mono hb12.size), t2.lt⟩
  have HO3 : Hid ((w2.alloc (.cells (poC (n : Int) p R) 77)).ownsRow w.heap.size 77 35 (.slice (some ⟨w2.heap.size, 0, none⟩) 1 1) 1 (poC (n : Int) p R).toList) := own_one w2 _ _ _ _ (poC_size _ _ _) hb12.size
  have HR3 : Hid ((w2.alloc (.cells (poC (n : Int) p R) 77)).rangeAt w.heap.size 2 ((List.range 33).map (rfF R.1 R.2))) := po_range t3
  clear hb1 hb2 hb12 hb3 t1 hNn
  go_upto_region 4 with (first
    | (refine wpList_load_rowg (by rfl) 77 _ (by rfl) (w.heap.size) (by rfl) 77 (poC (n : Int) p R) (0, 0) _ (by exact t2) Tryz.underlying77 (by rfl) (rsizePo.trans (by rw [poC_size])) ?_; simp only [Act.put, sgPHTrRAll])
    | (refine wpList_build1 (by rfl) 71 77 _ (by rfl) (poC (n : Int) p R) (by rfl) i0 _ 35 Tryz.underlying71 hi hz0 hz1 (poC_size _ _ _) (by decide) (by decide) ?_; simp only [Act.put, sgPHTrRAll])
    | fail)
  clear t2
  generalize (w2.alloc (.cells (poC (n : Int) p R) 77)) = w3 at *
  generalize w2.heap.size = ob at *
  cases n with
  | zero =>
    have HE : Hid (bnR F N 0 p R = ([(0, p, R)], 0)) := if_neg HP.out.2.2.2.2.1
    go_wp2_with fail
    go_ret2
    rw [HE.out]
    refine ⟨ob, 1, rfl, ?_, HB3.out.1⟩
    have := HO3.out
    simpa [posL] using this
  | succ n =>
    have hnz : ¬ ((n + 1 : Nat) : Int) = 0 := by omega
    obtain ⟨ne, hne⟩ : ∃ ne, nodE F N ((n + 1 : Nat) : Int) R = ne := ⟨_, rfl⟩
    have HNE : Hid (nodE F N ((n + 1 : Nat) : Int) R = ne) := hne
    have HKd : Hid (∀ w : World, (IsBlks w a0 N fun i => blkAt F i) → Calls Tryz.prog 50 #[.slice a0 N cap, .int .i64 ((n + 1 : Nat) : Int), .agg (rfC R)] w fun x w' => x = .returned (.tuple #[.agg (kdC (if ne = 0 then decK (gotF F N R) else fun _ => rf0)), .agg (va 256 (iv .u8 (gotF F N R))), .int .i64 ne]) ∧ Below w.heap.size w w') := fun w h1 => rkids_any _ R HP.out.2.2.2.1 HP.out.2.2.2.2.2.2.1 ne hne a0 cap HP.out.2.2.2.2.2.1 w h1
    clear hne
    generalize hl : ((n + 1 : Nat) : Int) = l at *
    go_wp2_with (first
      | (refine wpList_load_blk (by rfl) 31 _ (by rfl) (w.heap.size) (2) 33 (rfF R.1 R.2) (by rfl) _ (by exact HR3.out) Tryz.underlying31 rfl rsizeRef ?_; simp only [Act.put, sgPHTrRAll])
      | fail)
    refine (HKd.out w3 (HP.out.2.2.2.2.2.2.2.below HB3.out.1)).mono ?_
    rintro x w4 ⟨rfl, hb4⟩
    obtain ⟨f, hf⟩ : ∃ f, gotF F N R = f := ⟨_, rfl⟩
    obtain ⟨K, hK⟩ : ∃ K, (if ne = 0 then decK f else fun _ => rf0) = K := ⟨_, rfl⟩
    rw [hf, hK]
    have HKK : Hid (ne = 0 → decK (gotF F N R) = K) := fun h0 => by rw [hf, ← hK, if_pos h0]
    have q0 : Blk ((w4.alloc (.cells (kdC fun _ => rf0) 113)).alloc (.cells (va 256 (iv .u8 fun _ => 0)) 37)) w4.heap.size 113 (kdC fun _ => rf0) := (Blk.new _ _ _).alloc _
    have y0 : Blk ((w4.alloc (.cells (kdC fun _ => rf0) 113)).alloc (.cells (va 256 (iv .u8 fun _ => 0)) 37)) (w4.heap.size + 1) 37 (va 256 (iv .u8 fun _ => 0)) := Blk.new1 _ _ _ _
    have y1 := y0.other (kdC K) (show w4.heap.size + 1 ≠ w4.heap.size by omega)
    have x7 : Blk ((((w4.alloc (.cells (kdC fun _ => rf0) 113)).alloc (.cells (va 256 (iv .u8 fun _ => 0)) 37)).setRow w4.heap.size (kdC K)).setRow (w4.heap.size + 1) (va 256 (iv .u8 f))) w4.heap.size 113 (kdC K) := (q0.set _).other _ (by omega)
    have hb7 : Below w4.heap.size w4 ((((w4.alloc (.cells (kdC fun _ => rf0) 113)).alloc (.cells (va 256 (iv .u8 fun _ => 0)) 37)).setRow w4.heap.size (kdC K)).setRow (w4.heap.size + 1) (va 256 (iv .u8 f))) := below_setRow (below_setRow (below_new2 _ _ _) (Nat.le_refl _) _) (by omega) _
    have hb37 := hb4.trans (hb7.mono hb4.size)
    have t7 := t3.below hb37 t3.lt
    have HO7 : Hid (((((w4.alloc (.cells (kdC fun _ => rf0) 113)).alloc (.cells (va 256 (iv .u8 fun _ => 0)) 37)).setRow w4.heap.size (kdC K)).setRow (w4.heap.size + 1) (va 256 (iv .u8 f))).ownsRow w.heap.size 77 35 (.slice (some ⟨ob, 0, none⟩) 1 1) 1 (poC l p R).toList) := kown_below HO3.out hb37
    have HB7 : Hid (Below w.heap.size w ((((w4.alloc (.cells (kdC fun _ => rf0) 113)).alloc (.cells (va 256 (iv .u8 fun _ => 0)) 37)).setRow w4.heap.size (kdC K)).setRow (w4.heap.size + 1) (va 256 (iv .u8 f)))) := HB3.out.1.trans (hb37.mono HB3.out.1.size)
    have HOB : Hid (w.heap.size < ob ∧ ob < w4.heap.size) := ⟨HB3.out.2, Nat.lt_of_lt_of_le (HO3.out.lt ob rfl).2 hb4.size⟩
    clear hb4 hb7 hb37 t3 z3 HO3 HR3 HB3 HKd hK hf
    go_upto_region 7 with (first
      | (refine wpList_store_row (by rfl) 113 _ _ (by rfl) (w4.heap.size) (kdC K) (by rfl) (by rfl) 113 (_) (by exact q0) (rsizeKd.trans (by rw [kdC_size])) (by simp only [kdC_size]) (kdC_all _) ?_; simp only [Act.put, sgPHTrRAll])
      | (refine wpList_store_row (by rfl) 37 _ _ (by rfl) (w4.heap.size + 1) (va 256 (iv .u8 f)) (by rfl) (by rfl) 37 (_) (by exact y1) (rsizeBk.trans (by rw [va_size])) (by simp only [va_size]) (iv_one _ _ _) ?_; simp only [Act.put, sgPHTrRAll])
      | fail)
    clear q0 y0 y1
    generalize ((((w4.alloc (.cells (kdC fun _ => rf0) 113)).alloc (.cells (va 256 (iv .u8 fun _ => 0)) 37)).setRow w4.heap.size (kdC K)).setRow (w4.heap.size + 1) (va 256 (iv .u8 f))) = w7 at *
    generalize w4.heap.size = kb at *
    by_cases hn0 : ne = 0
    · subst hn0
      have HW : Hid (bnR F N (n + 1) p R = bnK (fun k : Nat => bnR F N n (4 * p + (k : Int)) (K k)) 4 0 [(n + 1, p, R)]) := by
        show _ = _
        have h2 := HP.out.2.2.2.2.1
        have h3 := HNE.out
        have h4 := HKK.out rfl
        rw [← hl] at h3
        rw [bnR, if_neg h2, if_pos h3, h4]
      have HKL : Hid (∀ k, (K k).1 < 4294967296) := fun k => by
        rw [← HKK.out rfl]
        exact decK_lt _ _
      have HBk : Hid (∀ (k : Nat) (w : World), k < 4 → (IsBlks w a0 N fun i => blkAt F i) → Calls Tryz.prog 59 #[.slice a0 N cap, .agg (poC (l - 1) (4 * p + (k : Int)) (K k))] w (BnP w (bnR F N n (4 * p + (k : Int)) (K k)).1 (bnR F N n (4 * p + (k : Int)) (K k)).2)) := fun k w hk hw => by
        have h6 := HP.out
        have h9 : (4 ^ (n + 1) : Nat) = 4 ^ n * 4 := Nat.pow_succ _ _
        have ha := h6.2.2.1
        rw [h9] at ha
        have hpos : (1 : Int) ≤ ((4 ^ n : Nat) : Int) := by
          have := pow4_pos n
          omega
        have hb : (4 * p + (k : Int) + 1) * ((4 ^ n : Nat) : Int) ≤ 4096 := by
          push_cast at ha hpos ⊢
          generalize (4 : Int) ^ n = z at *
          have hc : (4 * p + (k : Int) + 1) * z ≤ (p * 4 + 4) * z := Int.mul_le_mul_of_nonneg_right (by omega) (by omega)
          have hd : (p + 1) * (z * 4) = (p * 4 + 4) * z := by
            rw [Int.mul_comm z 4, ← Int.mul_assoc, Int.add_mul, Int.one_mul]
          omega
        have := HIH.out n rfl (4 * p + (k : Int)) (K k) w (by omega) hb (HKL.out k) hw
        rw [show l - 1 = (n : Int) by omega]
        exact this
      have HPB : Hid (0 ≤ p ∧ p ≤ 4096 ∧ 0 ≤ l ∧ l ≤ 7) := by
        have h6 := HP.out
        have hpos : (1 : Int) ≤ ((4 ^ (n + 1) : Nat) : Int) := by
          have := pow4_pos (n + 1)
          omega
        have := Int.mul_le_mul_of_nonneg_left hpos (show 0 ≤ p + 1 by omega)
        exact ⟨by omega, by omega, by omega, by omega⟩
      have HLN : Hid (∀ k : Nat, (bnR F N n (4 * p + (k : Int)) (K k)).1.length ≤ cN n) := fun k => bnR_len F N n _ _
      have HCN : Hid (cN n ≤ 5461) := cN_le (by have := HP.out.1; omega)
      clear HIH HKK HNE hnz
      generalize hf9 : (fun k : Nat => bnR F N n (4 * p + (k : Int)) (K k)) = f9 at HW
      have HF9 : Hid (∀ k : Nat, bnR F N n (4 * p + (k : Int)) (K k) = f9 k) := fun k => congrFun hf9 k
      clear hf9
      go_upto_region 10 with fail
      go_loopw [6, 10] (fun v t wr => Hid (∃ (k : Nat) (acc : List Ps) (a cc : Nat), 1 ≤ acc.length ∧ k ≤ 4 ∧ t = .int .i64 (k : Int) ∧ v = .slice (some ⟨a, 0, none⟩) acc.length cc ∧ acc.length ≤ 1 + k * cN n ∧ bnK f9 (4 - k) k acc = bnR F N (n + 1) p R ∧ wr.ownsRow w.heap.size 77 35 (.slice (some ⟨a, 0, none⟩) acc.length cc) acc.length (posL acc) ∧ a ≠ w.heap.size ∧ a ≠ kb ∧ Blk wr w.heap.size 77 (poC l p R) ∧ Blk wr kb 113 (kdC K) ∧ Below w.heap.size w wr)) (fun _ t _ => 4 - (intOf t).toNat)
      case atStart =>
        refine ⟨0, [(n + 1, p, R)], ob, 1, Nat.le_refl _, by omega, rfl, rfl, by simp, HW.out.symm, ?_, by have := HOB.out; omega, by have := HOB.out; omega, t7, x7, HB7.out⟩
        have := HO7.out
        rw [← hl] at this
        simpa [posL] using this
      case round =>
        clear t7 x7 HO7 HB7
        obtain ⟨k, acc, a, cc, ha1, hk, rfl, rfl, hal, hre, hown, hne1, hne2, tr, kr, hb⟩ := Hid.out hrel
        clear hrel
        have HAL : Hid (acc.length ≤ 1 + k * cN n ∧ k ≤ 4 ∧ 1 ≤ acc.length) := ⟨hal, hk, ha1⟩
        have HRE : Hid (bnK f9 (4 - k) k acc = bnR F N (n + 1) p R) := hre
        have HOW : Hid (wr.ownsRow w.heap.size 77 35 (.slice (some ⟨a, 0, none⟩) acc.length cc) acc.length (posL acc) ∧ a ≠ w.heap.size ∧ a ≠ kb) := ⟨hown, hne1, hne2⟩
        have HBW : Hid (Below w.heap.size w wr) := hb
        obtain ⟨an, han⟩ : ∃ an, acc.length = an := ⟨_, rfl⟩
        have HAN : Hid (acc.length = an) := han
        rw [han]
        clear ha1 hal hre hown hne1 hne2 hb han
        by_cases hlt : k < 4
        · have hk4 : (k : Int) < 4 := by omega
          have hk0 : (0 : Int) ≤ (k : Int) := by omega
          have HLT : Hid (k < 4) := hlt
          have HBT : Hid (Tryz.prog.built 77 [(0, .int .i64 (l - 1)), (1, .int .i64 (4 * p + (k : Int))), (2, .agg (rfC (K k)))] = some (poC (l - 1) (4 * p + (k : Int)) (K k))) := rbuilt_po3 _ _ _
          have hS : Blk wr.drew w.heap.size 77 (poC l p R) ∧ Blk wr.drew kb 113 (kdC K) := ⟨tr, kr⟩
          have HKR : Hid (wr.drew.rangeAt kb (k * 33) ((List.range 33).map (rfF (K k).1 (K k).2))) := kd_range hS.2 k hlt
          have HIM : Hid (IsBlks wr.drew a0 N fun i => blkAt F i) := HP.out.2.2.2.2.2.2.2.below HBW.out.drew
          obtain ⟨hp1, hp2, hl1, hl2⟩ := HPB.out
          go_wp2_with fail
          refine wp_region_partsS (fun W => Blk W w.heap.size 77 (poC l p R) ∧ Blk W kb 113 (kdC K)) [([0, 7, 9, 10], 1, true), ([], 2, true), ([], 3, true), ([], 4, true), ([], 5, true), ([], 6, true), ([], 8, true), ([], 11, false), ([], 12, false), ([], 13, false)] [14, 15, 16, 17, 18] [] (by kernel_rfl) (by kernel_rfl) hS (partsI_yield ?_)
          simp only [sgLHTrRAll]
          go_wp2_with fail
          refine ⟨rfl, _, .pointer (some ⟨w.heap.size, 0, none⟩), rfl, Or.inl ⟨by rfl, fun W hW => by go_simp⟩, partsI_yield ?_⟩
          simp only [Act.put, sgPHTrRAll]
          simp only [sgLHTrRAll]
          go_wp2_with fail
          refine ⟨rfl, _, .int .i64 l, rfl, Or.inl ⟨by rfl, fun W hW => by have hW1 : W.cell? ⟨w.heap.size, 0, none⟩ = some (.int .i64 l) := (hW.1.cell 0).trans (va_at _ (by decide)); go_simp⟩, partsI_yield ?_⟩
          simp only [Act.put, sgPHTrRAll]
          simp only [sgLHTrRAll]
          go_wp2_with fail
          refine ⟨rfl, _, .int .i64 (l - 1), rfl, Or.inl ⟨by rfl, fun W hW => by go_simp; rw [IntKind.wrap_i64]; omega⟩, partsI_yield ?_⟩
          simp only [Act.put, sgPHTrRAll]
          simp only [sgLHTrRAll]
          go_wp2_with fail
          refine ⟨rfl, _, .pointer (some ⟨w.heap.size, 1, none⟩), rfl, Or.inl ⟨by rfl, fun W hW => by go_simp⟩, partsI_yield ?_⟩
          simp only [Act.put, sgPHTrRAll]
          simp only [sgLHTrRAll]
          go_wp2_with fail
          refine ⟨rfl, _, .int .i64 p, rfl, Or.inl ⟨by rfl, fun W hW => by have hW1 : W.cell? ⟨w.heap.size, 1, none⟩ = some (.int .i64 p) := (hW.1.cell 1).trans (va_at _ (by decide)); go_simp⟩, partsI_yield ?_⟩
          simp only [Act.put, sgPHTrRAll]
          simp only [sgLHTrRAll]
          go_wp2_with fail
          refine ⟨rfl, _, .int .i64 (4 * p), rfl, Or.inl ⟨by rfl, fun W hW => by go_simp; rw [IntKind.wrap_i64]; omega⟩, partsI_yield ?_⟩
          simp only [Act.put, sgPHTrRAll]
          simp only [sgLHTrRAll]
          go_wp2_with fail
          refine ⟨rfl, _, .int .i64 (4 * p + (k : Int)), rfl, Or.inl ⟨by rfl, fun W hW => by go_simp; rw [IntKind.wrap_i64]; omega⟩, partsI_force ?_⟩
          simp only [Act.put, sgPHTrRAll]
          simp only [sgLHTrRAll]
          refine wpList_load_blk (by rfl) 31 _ (by rfl) (kb) (k * 33) 33 (rfF (K k).1 (K k).2) (by rfl) _ (by exact HKR.out) Tryz.underlying31 rfl rsizeRef ?_
          simp only [Act.put, sgPHTrRAll]
          go_wp2_with fail
          refine ⟨rfl, hS, partsI_force ?_⟩
          simp only [sgLHTrRAll]
          refine tr_build3 (by rfl) 77 0 1 2 _ _ _ (by rfl) (.int .i64 (l - 1)) (.int .i64 (4 * p + (k : Int))) (.agg (rfC (K k))) (by rfl) (by rfl) (by rfl) (poC (l - 1) (4 * p + (k : Int)) (K k)) (by exact HBT.out) ?_
          simp only [Act.put, sgPHTrRAll]
          go_wp2_with fail
          refine ⟨rfl, hS, partsI_force ?_⟩
          simp only [sgLHTrRAll]
          go_wp2_with fail
          refine (HBk.out k wr.drew hlt HIM.out).mono ?_
          rintro x w8 ⟨a8, c8, rfl, ho8, hb8⟩
          have HS8 := (⟨hS.1.below hb8 hS.1.lt, hS.2.below hb8 hS.2.lt⟩ : Blk w8 w.heap.size 77 (poC l p R) ∧ Blk w8 kb 113 (kdC K))
          go_wp2_with fail
          refine ⟨rfl, HS8, partsI_last ?_⟩
          simp only [sgLHTrRAll]
          go_wp2_with fail
          refine ⟨rfl, ?_⟩
          have HB8 : Hid (Below w.heap.size w w8) := HBW.out.drew.trans (hb8.mono HBW.out.drew.size)
          rw [HF9.out k] at ho8 ⊢
          have HL8 : Hid ((f9 k).1.length ≤ cN n) := by
            have := HLN.out k
            rw [HF9.out k] at this
            exact this
          obtain ⟨L8, e8, hfk⟩ : ∃ L8 e8, f9 k = (L8, e8) := ⟨_, _, rfl⟩
          have HFK : Hid (f9 k = (L8, e8)) := hfk
          rw [hfk] at ho8 ⊢ HL8
          obtain ⟨m8, hm8⟩ : ∃ m8, L8.length = m8 := ⟨_, rfl⟩
          have HM8 : Hid (L8.length = m8 ∧ m8 ≤ cN n) := ⟨hm8, hm8 ▸ HL8.out⟩
          simp only
          simp only [hm8] at ho8 ⊢
          have HO8 : Hid (w8.ownsRow wr.drew.heap.size 77 35 (.slice (some ⟨a8, 0, none⟩) m8 c8) m8 (posL L8)) := ho8
          have HOA : Hid (w8.ownsRow w.heap.size 77 35 (.slice (some ⟨a, 0, none⟩) an cc) an (posL acc)) := by
            have := kown_below (w := wr.drew) (w' := w8) (v := .slice (some ⟨a, 0, none⟩) acc.length cc) (kown_kept HOW.out.1 fun z _ _ => rfl) hb8
            rw [HAN.out] at this
            exact this
          have hmm := HM8.out.2
          have hcc := HCN.out
          have haa : an ≤ 1 + k * cN n := HAN.out ▸ HAL.out.1
          have hkc : k * cN n ≤ 3 * cN n := Nat.mul_le_mul_right _ (by omega)
          have HBS : Hid (w.heap.size ≤ w8.heap.size) := HB8.out.size
          have HNW : Hid (∀ j u, (posL L8)[j]? = some u → w8.cell? ((⟨a8, 0, none⟩ : Addr).add j) = some u) := fun j u hu => by
            have hj := (List.getElem?_eq_some_iff.1 hu).1
            rw [posL_len, HM8.out.1] at hj
            rw [Addr.add_mid, Nat.zero_add, HO8.out.cellAt j (by omega)]
            exact hu
          have HL35 : Hid ((posL L8).length = m8 * 35) := by
            show _ = _
            rw [posL_len, HM8.out.1]
          have HONE : Hid (∀ u ∈ posL L8, u.oneCell' = true) := posL_one L8
          have HS9 : Hid (Blk w8 w.heap.size 77 (poC l p R) ∧ Blk w8 kb 113 (kdC K)) := HS8
          clear hb8 ho8 HL8 hfk hm8 HS8 hS tr kr HKR HBT
          have h1n : 1 ≤ an := HAN.out ▸ HAL.out.2.2
          have HAK : Hid (a ≠ w.heap.size ∧ a ≠ kb) := HOW.out.2
          have HRK : Hid ((if e8 = 0 then bnK f9 (4 - (k + 1)) (k + 1) (acc ++ L8) else (acc ++ L8, e8)) = bnR F N (n + 1) p R) := by
            have h1 := HRE.out
            rw [show 4 - k = (4 - (k + 1)) + 1 by omega] at h1
            unfold bnK at h1
            rw [HFK.out] at h1
            exact h1
          clear HRE HOW HBW
          by_cases h8 : e8 = 0
          · subst h8
            go_wp2_with (first
              | (at_builtin; refine wpList_append_own_at (by rfl) _ _ 71 (by rfl) w.heap.size 77 i0 (.agg (poC 0 0 rf0)) 35 56 Tryz.underlying71 hi hz0 hz1 hz2 (poC_size _ _ _) (by decide) _ an _ (by rfl) (by exact HOA.out) ⟨a8, 0, none⟩ m8 c8 (posL L8) (by rfl) (by exact HL35.out) (by exact HNW.out) (by exact HONE.out) (by unfold maxLen; omega) (by omega) (by exact HBS.out) (fun v2 U2 ho2 hg2 ha2 => ?_); obtain ⟨g2, k2, rfl, hlo2, hhi2⟩ := kown_form ho2 (by omega); simp only [Act.put, sgPHTrRAll])
              | fail)
            have HN2 : Hid (an + m8 = (acc ++ L8).length) := by
              show _ = _
              rw [List.length_append, HAN.out, HM8.out.1]
            have hgb : Below w.heap.size w U2 := HB8.out.grown hg2 HBS.out (fun x hx => (HOA.out.lt x hx).1)
            have HO2 : Hid (U2.ownsRow w.heap.size 77 35 (.slice (some ⟨g2, 0, none⟩) (acc ++ L8).length k2) (acc ++ L8).length (posL (acc ++ L8))) := by
              rw [← HN2.out, posL_app]
              exact ho2
            have HK2 : Hid (g2 ≠ w.heap.size ∧ g2 ≠ kb) := by
              have h1 := HS9.out.1.lt
              have h2 := HS9.out.2.lt
              rcases ha2 with e | e
              · have e2 : some g2 = some a := e
                injection e2 with e2
                rw [e2]
                exact HAK.out
              · have e2 : some g2 = some w8.heap.size := e
                injection e2 with e2
                exact ⟨by omega, by omega⟩
            have HS2 : Hid (Blk U2 w.heap.size 77 (poC l p R) ∧ Blk U2 kb 113 (kdC K)) := ⟨gs_grown HS9.out.1 hg2 (fun q => HAK.out.1 (by injection q)), gs_grown HS9.out.2 hg2 (fun q => HAK.out.2 (by injection q))⟩
            have HGB : Hid (Below w.heap.size w U2) := hgb
            have HRL : Hid (bnK f9 (4 - (k + 1)) (k + 1) (acc ++ L8) = bnR F N (n + 1) p R) := by
              have := HRK.out
              rw [if_pos rfl] at this
              exact this
            have HLE : Hid (1 ≤ (acc ++ L8).length ∧ (acc ++ L8).length ≤ 1 + (k + 1) * cN n) := by
              have h1 := HN2.out
              have h2 : (k + 1) * cN n = k * cN n + cN n := Nat.succ_mul _ _
              exact ⟨by omega, by omega⟩
            clear hgb ho2 hg2 ha2 HRK HO8 HOA HS9
            go_roundw
            case rel => exact ⟨k + 1, acc ++ L8, g2, k2, HLE.out.1, HLT.out, by first | rfl | go_num | simp, by rw [HN2.out], HLE.out.2, HRL.out, HO2.out, HK2.out.1, HK2.out.2, HS2.out.1, HS2.out.2, HGB.out⟩
            case measure => simp [intOf]; have := HLT.out; omega
          · have HRL : Hid (bnR F N (n + 1) p R = (acc ++ L8, e8)) := by
              have := HRK.out
              rw [if_neg h8] at this
              exact this.symm
            have hne2 : (e8 != 0) = true := by simp [h8]
            have hne3 : decide (e8 = 0) = false := decide_eq_false h8
            clear HRK
            go_wp2_with (first
              | (at_builtin; refine wpList_append_own_at (by rfl) _ _ 71 (by rfl) w.heap.size 77 i0 (.agg (poC 0 0 rf0)) 35 56 Tryz.underlying71 hi hz0 hz1 hz2 (poC_size _ _ _) (by decide) _ an _ (by rfl) (by exact HOA.out) ⟨a8, 0, none⟩ m8 c8 (posL L8) (by rfl) (by exact HL35.out) (by exact HNW.out) (by exact HONE.out) (by unfold maxLen; omega) (by omega) (by exact HBS.out) (fun v2 U2 ho2 hg2 ha2 => ?_); obtain ⟨g2, k2, rfl, hlo2, hhi2⟩ := kown_form ho2 (by omega); simp only [Act.put, sgPHTrRAll])
              | fail)
            have HN2 : Hid (an + m8 = (acc ++ L8).length) := by
              show _ = _
              rw [List.length_append, HAN.out, HM8.out.1]
            have hgb : Below w.heap.size w U2 := HB8.out.grown hg2 HBS.out (fun x hx => (HOA.out.lt x hx).1)
            have HO2 : Hid (U2.ownsRow w.heap.size 77 35 (.slice (some ⟨g2, 0, none⟩) (acc ++ L8).length k2) (acc ++ L8).length (posL (acc ++ L8))) := by
              rw [← HN2.out, posL_app]
              exact ho2
            have HGB : Hid (Below w.heap.size w U2) := hgb
            clear hgb ho2 hg2 ha2
            go_ret2
            rw [HRL.out]
            refine ⟨g2, k2, ?_, HO2.out, HGB.out⟩
            show Ending.returned (.tuple #[.slice (some ⟨g2, 0, none⟩) (an + m8) k2, .int .i64 e8]) = _
            rw [HN2.out]
        · obtain rfl : k = 4 := by omega
          have HRL : Hid (bnR F N (n + 1) p R = (acc, 0)) := HRE.out.symm
          have HO2 : Hid (wr.ownsRow w.heap.size 77 35 (.slice (some ⟨a, 0, none⟩) acc.length cc) acc.length (posL acc)) := HOW.out.1
          go_wp2_with fail
          go_ret2
          rw [HRL.out]
          refine ⟨a, cc, ?_, HO2.out, HBW.out⟩
          show Ending.returned (.tuple #[.slice (some ⟨a, 0, none⟩) an cc, .int .i64 0]) = _
          rw [HAN.out]
    · have HW : Hid (bnR F N (n + 1) p R = ([(n + 1, p, R)], ne)) := by
        show _ = _
        have h3 := HNE.out
        rw [← hl] at h3
        rw [bnR, if_neg HP.out.2.2.2.2.1, h3, if_neg hn0]
      have hne2 : (ne != 0) = true := by simp [hn0]
      have hne3 : decide (ne = 0) = false := decide_eq_false hn0
      go_wp2_with fail
      go_ret2
      rw [HW.out]
      refine ⟨ob, 1, rfl, ?_, HB7.out⟩
      have := HO7.out
      rw [← hl] at this
      simpa [posL] using this
theorem rben_any (hF : ∀ a, F a < 256) (hN : N ≤ 8192) (a0 : Option Addr) (cap : Nat) : ∀ (n : Nat), n ≤ 6 → BenP F N a0 cap n
  | 0, h => rben_lvl hF hN a0 cap 0 h fun n' e => by omega
  | n + 1, h => rben_lvl hF hN a0 cap (n + 1) h fun n' e => by
    obtain rfl : n = n' := by omega
    exact rben_any hF hN a0 cap n (by omega)
end
end Go.Proofs.YtjhabngibbmpbaaGreat
