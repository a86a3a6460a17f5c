/- Trees: a way that is followed, the blocks on it kept (Blocks). -/
import Derived.Test.YtjhabngibbmpbaaGreatHTrRef
import Derived.Test.YtjhabngibbmpbaaGreatHTrLeaf
import Derived.Test.YtjhabngibbmpbaaGreatHNdBlock
import Derived.BigQuiet
import Derived.Deep.QuietTactic
import Derived.Test.YtjhabngibbmpbaaGreatHWoMade
import Derived.Test.YtjhabngibbmpbaaGreatHDkFns
import Derived.Handy

namespace Go.Proofs.YtjhabngibbmpbaaGreat
open Go Go.RowKit
set_option linter.unusedSimpArgs false
set_option linter.unusedVariables false

/-- is a position outside of a tree of that height? -/
def outP (h l p : Int) : Prop := l < 0 ∨ h < l ∨ p < 0 ∨ ((4 ^ (h - l).toNat : Nat) : Int) ≤ p
instance (h l p : Int) : Decidable (outP h l p) := by unfold outP; infer_instance
/-- the way to a position -/
def wayTo9 (h l p : Int) : List Nat := (List.range (h - l).toNat).map (wayN (h - l).toNat p.toNat)
instance (h : Int) (R : Rf) : Decidable (trOk h R) := by unfold trOk; infer_instance
/-- what Ref answers -/
def refV (F : Nat → Nat) (N : Nat) (h : Int) (R : Rf) (l p : Int) : Rf × Int := if trOk h R then (if outP h l p then (rf0, 90) else folR F N h R (wayTo9 h l p)) else (rf0, 1)
section
variable {B g N c m room i : Nat} {F : Nat → Nat} {U : Nat → Prop}
theorem ref9_any (h : Int) (R : Rf) (hR : R.1 < 4294967296) (hD : okD R.2) (hF : ∀ a, F a < 256) (l p : Int) (hi : i < 34359738368) (w : World) (H : TD w B g N F c m room i U) : Calls Tryz.prog 19 #[.pointer (some ⟨c, 0, none⟩), .agg (trC h R), .int .i64 l, .int .i64 p] w fun x w' => x = .returned (.tuple #[.agg (rfC (refV F N h R l p).1), .int .i64 (refV F N h R l p).2]) ∧ TDStep w w' B g N F c m room (i + 6) U := by
  have no : ∀ er : Int, er ≠ 0 → refV F N h R l p = (rf0, er) → (∀ w, Calls Tryz.prog 42 #[.agg (trC h R), .int .i64 l, .int .i64 p] w fun x w' => x = .returned (.tuple #[.slice none 0 0, .int .i64 er]) ∧ Below w.heap.size w w') → Calls Tryz.prog 19 #[.pointer (some ⟨c, 0, none⟩), .agg (trC h R), .int .i64 l, .int .i64 p] w fun x w' => x = .returned (.tuple #[.agg (rfC (refV F N h R l p).1), .int .i64 (refV F N h R l p).2]) ∧ TDStep w w' B g N F c m room (i + 6) U := fun er h1 h2 h3 => by
    rw [h2]
    exact (ref_no h R l p er h1 h3 _ w).mono fun x w' ⟨e, hb⟩ => ⟨e, .of_below (H.mono (by omega)) hb⟩
  by_cases hok : trOk h R
  · by_cases hout : outP h l p
    · refine no 90 (by decide) (by unfold refV; rw [if_pos hok, if_pos hout]) ?_
      rcases hout with h1 | h1 | h1
      · exact wayTo_lo h R hR hD hok l p h1
      · exact wayTo_hi h R hR hD hok l p h1
      · by_cases l0 : l < 0
        · exact wayTo_lo h R hR hD hok l p l0
        · by_cases l1 : h < l
          · exact wayTo_hi h R hR hD hok l p l1
          · exact wayTo_place h R hR hD hok l p ⟨by omega, by omega⟩ (h - l).toNat (by omega) h1
    · unfold outP at hout
      have hl : 0 ≤ l ∧ l ≤ h := ⟨by omega, by omega⟩
      have hp : 0 ≤ p := by omega
      have := ref_ok h R hR hD hF hok l p.toNat hl (h - l).toNat (by omega) (by omega) hi w H
      rw [Int.toNat_of_nonneg hp] at this
      have e : refV F N h R l p = folR F N h R ((List.range (h - l).toNat).map (wayN (h - l).toNat p.toNat)) := by
        unfold refV wayTo9
        rw [if_pos hok, if_neg (show ¬ outP h l p from hout)]
      rw [e]
      exact this
  · exact no 1 (by decide) (by unfold refV; rw [if_neg hok]) (wayTo_arg h R hR hD hok l p)
end
end Go.Proofs.YtjhabngibbmpbaaGreat

namespace Go.Proofs.YtjhabngibbmpbaaGreat
open Go Go.RowKit
set_option linter.unusedSimpArgs false
set_option linter.unusedVariables false

set_option maxRecDepth 100000 in
set_option maxHeartbeats 4000000 in
theorem awake9_any (w : World) : Calls Tryz.prog 12 #[] w fun e w' => e = .returned (.bool true) ∧ Below w.heap.size w w' := by
  have hW : Hid (Calls Tryz.prog 39 #[.int .i64 2, .int .i64 6] w fun e w' => e = .returned (.tuple #[.slice (some ⟨w.heap.size, 0, none⟩) 2 2, .int .i64 0]) ∧ Blk w' w.heap.size 3 (va 2 (iv .i64 (wayN 2 6))) ∧ Below w.heap.size w w') := way_ok 2 6 (by decide) (by decide) w
  have hC : Hid (∀ w : World, Calls Tryz.prog 40 #[.int .i64 3] w fun e w' => e = .returned (.tuple #[.int .i64 64, .int .i64 0]) ∧ w = w') := fun w => capacity_ok 3 64 (by decide) (by decide) w
  go_enter Tryz.func12, Tryz.ntmps12
  go_wp2_with fail
  refine hW.out.mono ?_
  rintro e w1 ⟨rfl, b1, hb1⟩
  have c0 : w1.cell? ⟨w.heap.size, 0, none⟩ = some (.int .i64 1) := b1.cv (by decide)
  have c1 : w1.cell? ⟨w.heap.size, 1, none⟩ = some (.int .i64 2) := b1.cv (by decide)
  go_wp2_with fail
  refine (hC.out w1).mono ?_
  rintro e _ ⟨rfl, rfl⟩
  go_wp2_with fail
  go_ret
  exact ⟨rfl, hb1⟩
end Go.Proofs.YtjhabngibbmpbaaGreat

namespace Go.Proofs.YtjhabngibbmpbaaGreat
open Go Go.RowKit
set_option linter.unusedSimpArgs false
set_option linter.unusedVariables false

theorem sizeWo : (Tryz.prog.info? 25).map (·.size) = some 5 := by kernel_rfl
theorem woC_size (h : Int) (a : Option Addr) (n c : Nat) (ab : Option Addr) (nb cb : Nat) (tu ca : Int) : (woC h a n c ab nb cb tu ca).size = 5 := rfl
theorem IsBlks.keptBy {w w' : World} {b o n : Nat} {L : Nat → Nat → Nat} (h : IsBlks w (some ⟨b, o, none⟩) n L) (hs : w.heap.size ≤ w'.heap.size) (hk : w'.heap[b]? = w.heap[b]?) : IsBlks w' (some ⟨b, o, none⟩) n L := fun i hi => by
  obtain ⟨b', o', e, h1, h2⟩ := h i hi
  injection e with e
  injection e with e1 e2
  subst e1 e2
  exact ⟨b, o, rfl, Nat.lt_of_lt_of_le h1 hs, fun j v hv => by
    rw [← h2 j v hv]
    simp only [World.cell?, hk]⟩
/-- what the statements have behind made: a cache on a quiet disk, the image, the tree in a block -/
structure TW (w : World) (B g N : Nat) (F : Nat → Nat) (c m room i : Nat) (U : Nat → Prop) (ib xt : Nat) (h : Int) (R : Rf) : Prop where
  td : TD w B g N F c m room i U
  img : IsBlks w (some ⟨ib, 0, none⟩) N fun i => blkAt F i
  tr : Blk w xt 33 (trC h R)
  hib : ¬ U ib
  hxt : ¬ U xt
  bib : ib < w.heap.size
theorem TW.below {w w' : World} {B g N c m room i ib xt : Nat} {F : Nat → Nat} {U : Nat → Prop} {h : Int} {R : Rf} (H : TW w B g N F c m room i U ib xt h R) (hb : Below w.heap.size w w') : TW w' B g N F c m room i U ib xt h R := ⟨H.td.below hb, H.img.below hb, H.tr.below hb H.tr.lt, H.hib, H.hxt, Nat.lt_of_lt_of_le H.bib hb.size⟩
theorem TW.step {w w' : World} {B g N c m room i j ib xt : Nat} {F : Nat → Nat} {U : Nat → Prop} {h : Int} {R : Rf} (H : TW w B g N F c m room i U ib xt h R) (hs : TDStep w w' B g N F c m room j U) : ∃ V, TW w' B g N F c m room j V ib xt h R ∧ Turns U w w' ∧ ∀ x, V x → U x ∨ w.heap.size ≤ x := by
  obtain ⟨V, h1, h2, h3⟩ := hs
  refine ⟨V, ⟨h1, H.img.keptBy h2.size (h2.block ib H.bib H.hib), h2.blk H.tr H.hxt, fun z => ?_, fun z => ?_, Nat.lt_of_lt_of_le H.bib h2.size⟩, h2, h3⟩
  · rcases h3 _ z with y | y
    · exact H.hib y
    · have := H.bib
      omega
  · rcases h3 _ z with y | y
    · exact H.hxt y
    · have := H.tr.lt
      omega
end Go.Proofs.YtjhabngibbmpbaaGreat

namespace Go.Proofs.YtjhabngibbmpbaaGreat
open Go Go.RowKit
set_option linter.unusedSimpArgs false
set_option linter.unusedVariables false
/-- the variable bx (of type ts) holds an own slice of n elements -/
def GS (V : World) (bx ts B e sz : Nat) (v : Value) (n : Nat) (xs : List Value) : Prop := Blk V bx ts #[v] ∧ V.ownsRow B e sz v n xs ∧ v.ownBlock ≠ some bx
/-- its blocks -/
def gft (bx : Nat) (v : Value) (b : Nat) : Prop := b = bx ∨ v.ownBlock = some b
section
variable {B bx ts e sz n : Nat} {v : Value} {xs : List Value} {V W : World}
theorem GS.keep {T : Nat → Prop} (h : GS V bx ts B e sz v n xs) (ht : Turns T V W) (hT : ∀ b, T b → ¬ gft bx v b) : GS W bx ts B e sz v n xs :=
  ⟨ht.blk h.1 (fun q => hT _ q (.inl rfl)), kown_kept h.2.1 fun k _ hk => ht.block k (h.2.1.lt k hk).2 fun q => hT k q (.inr hk), h.2.2⟩
theorem GS.below (h : GS V bx ts B e sz v n xs) (hb : Below V.heap.size V W) : GS W bx ts B e sz v n xs := h.keep (T := fun _ => False) (.of_below hb) fun _ q => q.elim
theorem GS.lt (h : GS V bx ts B e sz v n xs) (b : Nat) (hb : gft bx v b) : b < V.heap.size := by
  rcases hb with rfl | hb
  · exact h.1.lt
  · exact (h.2.1.lt b hb).2
end
theorem gs_cell {S : Nat → Prop} (w : World) (b i : Nat) (v : Value) (hS : S b) : Turns S w (w.setCell ⟨b, i, none⟩ v) := by
  have t : Below b w (w.setCell ⟨b, i, none⟩ v) := (Below.refl b w).setCell (p := ⟨b, i, none⟩) (Nat.le_refl _) _
  exact ⟨t.os, t.tape, t.output, t.size, fun k hk hn => Below.heap_setCell _ _ _ _ (fun e => hn (by rw [e]; exact hS))⟩
theorem gs_grown {w w' : World} {b e : Nat} {xs : Array Value} {r : Option Nat} (h : Blk w b e xs) (hg : w.grownBy w' r) (hr : r ≠ some b) : Blk w' b e xs := by
  obtain ⟨_, _, _, _, g5⟩ := hg
  exact (g5 b h.lt (fun q => hr q.symm)).trans h
theorem gs_setc {w : World} {b e : Nat} {u : Value} (h : Blk w b e #[u]) (v : Value) : Blk (w.setCell ⟨b, 0, none⟩ v) b e #[v] := h.put 0 v
/-- what an append to it and the store back leave -/
theorem GS.grown {bx ts B e sz n : Nat} {v v2 : Value} {xs ns : List Value} {V W U2 : World} (h : GS W bx ts B e sz v n xs) (hb : Below V.heap.size V W) (hbx : bx < V.heap.size) (ho2 : U2.ownsRow B e sz v2 (n + 1) (xs ++ ns)) (hg2 : W.grownBy U2 v.ownBlock) (ha2 : v2.ownBlock = v.ownBlock ∨ v2.ownBlock = some W.heap.size) :
    GS (U2.setCell ⟨bx, 0, none⟩ v2) bx ts B e sz v2 (n + 1) (xs ++ ns) ∧ Turns (gft bx v) V (U2.setCell ⟨bx, 0, none⟩ v2) ∧ ∀ b, gft bx v2 b → gft bx v b ∨ V.heap.size ≤ b := by
  have hbU : Blk U2 bx ts #[v] := gs_grown h.1 hg2 h.2.2
  have hne2 : v2.ownBlock ≠ some bx := by
    rcases ha2 with e | e
    · rw [e]; exact h.2.2
    · rw [e]
      intro q
      injection q with q
      have := hb.size
      omega
  have tg : Turns (gft bx v) W U2 := by
    obtain ⟨g1, g2, g3, g4, g5⟩ := hg2
    exact ⟨g1, g2, g3, g4, fun b hb hn => g5 b hb fun q => hn (.inr q.symm)⟩
  have tc : Turns (fun z => z = bx) U2 (U2.setCell ⟨bx, 0, none⟩ v2) := gs_cell _ _ _ _ rfl
  refine ⟨⟨gs_setc hbU _, kown_kept ho2 fun k _ hk => tc.block k (ho2.lt k hk).2 fun q => hne2 (by rw [hk, q]), hne2⟩, ((Turns.of_below hb).trans tg fun b q => .inl q).trans tc (fun b q => .inl (.inl q)), fun b q => ?_⟩
  rcases q with q | q
  · exact .inl (.inl q)
  · rcases ha2 with e | e
    · exact .inl (.inr (e.symm.trans q))
    · rw [e] at q
      injection q with q
      have := hb.size
      exact .inr (by omega)
end Go.Proofs.YtjhabngibbmpbaaGreat

namespace Go.Proofs.YtjhabngibbmpbaaGreat
open Go Go.RowKit
set_option linter.unusedSimpArgs false
set_option linter.unusedVariables false
theorem infoBkA : (Tryz.prog.info? 38).map (fun i => (i.zero, i.size, i.bytes)) = some (some (.agg (va 256 (iv .u8 fun _ => 0))), 256, 256) := by kernel_rfl
/-- the blocks that were met -/
def MB (V : World) (bx B : Nat) (v : Value) (l : List (Nat → Nat)) : Prop := GS V bx 48 B 38 256 v l.length (bkL l)
set_option maxRecDepth 100000 in
set_option maxHeartbeats 16000000 in
theorem meet_any (f : Nat → Nat) {bx B : Nat} {v : Value} {l : List (Nat → Nat)} (hl : l.length ≤ 100) (V : World) (hB : B ≤ V.heap.size) (H : MB V bx B v l) : Calls Tryz.prog 44 #[.agg (va 256 (iv .u8 f)), .pointer (some ⟨bx, 0, none⟩)] V fun e w' => e = .returned (.tuple #[]) ∧ ∃ v', MB w' bx B v' (l ++ [f]) ∧ Turns (gft bx v) V w' ∧ ∀ b, gft bx v' b → gft bx v b ∨ V.heap.size ≤ b := by
  obtain ⟨i0, hi0, hz0, hz1, hz2⟩ := info_parts infoBkA
  have HQ : Hid (MB V bx B v l ∧ B ≤ V.heap.size) := ⟨H, hB⟩
  have hll : l.length + 1 ≤ 101 := by omega
  generalize hn : l.length = n at hll
  have HN : Hid (l.length = n) := hn
  clear hl H hB hn
  go_enter Tryz.func44, Tryz.ntmps44
  obtain ⟨qa, ka, hv⟩ := kown_slice HQ.out.1.2.1
  rw [HN.out] at hv
  subst hv
  have b1 : Blk (V.alloc (.cells (va 256 (iv .u8 f)) 38)) V.heap.size 38 (va 256 (iv .u8 f)) := Blk.new _ _ _
  have hb1 : Below V.heap.size V (V.alloc (.cells (va 256 (iv .u8 f)) 38)) := below_new1 V _
  have hb2 : Below V.heap.size V ((V.alloc (.cells (va 256 (iv .u8 f)) 38)).alloc (.cells (va 256 (iv .u8 f)) 38)) := hb1.trans ((below_new1 _ _).mono hb1.size)
  have HA1 : Hid (MB (V.alloc (.cells (va 256 (iv .u8 f)) 38)) bx B (.slice qa n ka) l) := HQ.out.1.below hb1
  have HA2 : Hid (MB ((V.alloc (.cells (va 256 (iv .u8 f)) 38)).alloc (.cells (va 256 (iv .u8 f)) 38)) bx B (.slice qa n ka) l) := HQ.out.1.below hb2
  have HB2 : Hid (Below V.heap.size V ((V.alloc (.cells (va 256 (iv .u8 f)) 38)).alloc (.cells (va 256 (iv .u8 f)) 38))) := hb2
  have c1 : (V.alloc (.cells (va 256 (iv .u8 f)) 38)).cell? ⟨bx, 0, none⟩ = some (.slice qa n ka) := (HA1.out.1.cell 0).trans rfl
  have HO2 : Hid (((V.alloc (.cells (va 256 (iv .u8 f)) 38)).alloc (.cells (va 256 (iv .u8 f)) 38)).ownsRow B 38 256 (.slice qa n ka) n (bkL l)) := by
    have := HA2.out.2.1
    rw [HN.out] at this
    exact this
  have HNEW : Hid (∀ j u, (va 256 (iv .u8 f)).toList[j]? = some u → ((V.alloc (.cells (va 256 (iv .u8 f)) 38)).alloc (.cells (va 256 (iv .u8 f)) 38)).cell? ((⟨(V.alloc (.cells (va 256 (iv .u8 f)) 38)).heap.size, 0, none⟩ : Addr).add j) = some u) := cells_new _ _ _
  have HMEM : Hid (∀ u ∈ (va 256 (iv .u8 f)).toList, u.oneCell' = true) := kva_mem_one 256 f
  have HLEN : Hid ((va 256 (iv .u8 f)).toList.length = 1 * 256) := by
    show _ = _
    rw [va_toList]
    simp
  have HS2 : Hid (B ≤ ((V.alloc (.cells (va 256 (iv .u8 f)) 38)).alloc (.cells (va 256 (iv .u8 f)) 38)).heap.size) := Nat.le_trans HQ.out.2 hb2.size
  clear hb1 hb2
  go_wp2_with (first
    | (refine wpList_load_row (by rfl) 38 _ (by rfl) (V.heap.size) (by rfl) 38 (va 256 (iv .u8 f)) (0, 0) _ b1 Tryz.underlying38 (by rfl) (sizeBk.trans (by rw [va_size])) ?_; simp only [Act.put, List.setIfInBounds_toArray, List.set_cons_zero, List.set_cons_succ])
    | (refine wpList_build1 (by rfl) 48 38 _ (by rfl) (va 256 (iv .u8 f)) (by rfl) i0 _ 256 Tryz.underlying48 hi0 hz0 hz1 (va_size _ _) (by decide) (by decide) ?_; simp only [Act.put, List.setIfInBounds_toArray, List.set_cons_zero, List.set_cons_succ])
    | (at_builtin; refine wpList_append_own_at (by rfl) _ _ 48 (by rfl) B 38 i0 (.agg (va 256 (iv .u8 fun _ => 0))) 256 256 Tryz.underlying48 hi0 hz0 hz1 hz2 (va_size _ _) (by decide) _ n _ (by rfl) (by exact HO2.out) ⟨(V.alloc (.cells (va 256 (iv .u8 f)) 38)).heap.size, 0, none⟩ 1 1 (va 256 (iv .u8 f)).toList (by rfl) HLEN.out (by exact HNEW.out) (by exact HMEM.out) (by unfold maxLen; omega) (by omega) (by exact HS2.out) (fun v2 U2 ho2 hg2 ha2 => ?_); obtain ⟨q2, k2, rfl⟩ := kown_slice ho2; have hbU : Blk U2 bx 48 #[.slice qa n ka] := gs_grown HA2.out.1 hg2 HA2.out.2.2; have cU := (hbU.cell 0).trans rfl; have fU := hbU.frozen 0; simp only [Act.put, List.setIfInBounds_toArray, List.set_cons_zero, List.set_cons_succ])
    | fail)
  try simp only [Exit.inBlock, Exit.then]
  first
    | refine bodyPost_end (results_none Tryz.results44 _ _ _) rfl ?_
    | refine bodyPost_ret (results_none Tryz.results44 _ _ _) rfl ?_
  have hg : GS ((V.alloc (.cells (va 256 (iv .u8 f)) 38)).alloc (.cells (va 256 (iv .u8 f)) 38)) bx 48 B 38 256 (.slice qa n ka) n (bkL l) := ⟨HA2.out.1, HO2.out, HA2.out.2.2⟩
  obtain ⟨h1, h2, h3⟩ := hg.grown HB2.out HQ.out.1.1.lt ho2 hg2 ha2
  refine ⟨rfl, _, ?_, h2, h3⟩
  show GS _ _ _ _ _ _ _ _ _
  rw [List.length_append, HN.out, bkL_snoc]
  exact h1
end Go.Proofs.YtjhabngibbmpbaaGreat

namespace Go.Proofs.YtjhabngibbmpbaaGreat
open Go Go.RowKit
set_option linter.unusedSimpArgs false
set_option linter.unusedVariables false
/-- what may turn: the disk's and the cache's blocks, and those of what is kept -/
def UM (U : Nat → Prop) (bx : Nat) (mv : Value) (x : Nat) : Prop := U x ∨ gft bx mv x
/-- the blocks met so far, apart from the disk and from others (o) -/
structure FM (W : World) (bx Bm : Nat) (mv : Value) (n0 : Nat) (v : Value) (l : List (Nat → Nat)) (V o : Nat → Prop) : Prop where
  mb : MB W bx Bm v l
  ap : ∀ b, gft bx v b → ¬ V b ∧ ¬ o b
  sub : ∀ b, gft bx v b → gft bx mv b ∨ n0 ≤ b
  bm : Bm ≤ W.heap.size
section
variable {W W' : World} {bx Bm n0 : Nat} {mv v : Value} {l : List (Nat → Nat)} {V V' o : Nat → Prop}
theorem FM.step (h : FM W bx Bm mv n0 v l V o) (ht : Turns V W W') (hv : ∀ x, V' x → V x ∨ W.heap.size ≤ x) : FM W' bx Bm mv n0 v l V' o := by
  refine ⟨h.mb.keep ht fun b q q2 => (h.ap b q2).1 q, fun b q => ⟨fun q2 => ?_, (h.ap b q).2⟩, h.sub, Nat.le_trans h.bm ht.size⟩
  rcases hv b q2 with u | u
  · exact (h.ap b q).1 u
  · have := h.mb.lt b q
    omega
theorem FM.below (h : FM W bx Bm mv n0 v l V o) (hb : Below W.heap.size W W') : FM W' bx Bm mv n0 v l V o := h.step (.of_below hb) fun x hx => .inl hx
theorem FM.laid (h : FM W bx Bm mv n0 v l V o) {b : Nat} (hb : o b) (cs : Array Value) : FM (W.setRow b cs) bx Bm mv n0 v l V o := by
  have ht : Turns (fun x => x = b) W (W.setRow b cs) := ⟨by simp, by simp, by simp, by simp, fun z hz hn => setRow_other _ _ z _ hn⟩
  exact ⟨h.mb.keep ht fun z q q2 => (h.ap z q2).2 (q ▸ hb), h.ap, h.sub, by simpa using h.bm⟩
theorem FM.met {f : Nat → Nat} {v' : Value} (h : FM W bx Bm mv n0 v l V o) (h1 : MB W' bx Bm v' (l ++ [f])) (ht : Turns (gft bx v) W W') (h3 : ∀ b, gft bx v' b → gft bx v b ∨ W.heap.size ≤ b) (hV : ∀ b, V b → b < W.heap.size) (ho : ∀ b, o b → b < W.heap.size) (hn : n0 ≤ W.heap.size) : FM W' bx Bm mv n0 v' (l ++ [f]) V o := by
  refine ⟨h1, fun b q => ?_, fun b q => ?_, Nat.le_trans h.bm ht.size⟩
  · rcases h3 b q with u | u
    · exact h.ap b u
    · exact ⟨fun q2 => by have := hV b q2; omega, fun q2 => by have := ho b q2; omega⟩
  · rcases h3 b q with u | u
    · exact h.sub b u
    · exact .inr (by omega)
end
section
variable {B g N c m room i : Nat} {F : Nat → Nat} {U : Nat → Prop}
/-- what a walk along a way leaves -/
def FolM (w w' : World) (B g N : Nat) (F : Nat → Nat) (c m room i : Nat) (U : Nat → Prop) (bx Bm : Nat) (mv : Value) (l : List (Nat → Nat)) : Prop := ∃ V v, TD w' B g N F c m room i V ∧ MB w' bx Bm v l ∧ Turns (UM U bx mv) w w' ∧ (∀ x, V x → U x ∨ w.heap.size ≤ x) ∧ (∀ x, gft bx v x → gft bx mv x ∨ w.heap.size ≤ x) ∧ ∀ x, gft bx v x → ¬ V x
set_option maxRecDepth 100000 in
set_option maxHeartbeats 4000000 in
theorem follow_met {bx Bm : Nat} {mv : Value} (h : Int) (hh : 0 ≤ h ∧ h ≤ 6) (R : Rf) (hR : R.1 < 4294967296) (hF : ∀ a, F a < 256) (ps : List Nat) (hps : ∀ p ∈ ps, p < 4) (hn : ps.length ≤ 6) (hi : i < 34359738368) (wb cap : Nat) (w : World) (H : TD w B g N F c m room i U) (hw : w.rangeAt wb 0 (ps.map fun (p : Nat) => Value.int .i64 (p : Int))) (hwb : wb < w.heap.size) (hwU : ¬ U wb) (hM : MB w bx Bm mv []) (hMU : ∀ b, gft bx mv b → ¬ U b) (hMw : ¬ gft bx mv wb) (hBm : Bm ≤ w.heap.size) :
    Calls Tryz.prog 43 #[.pointer (some ⟨c, 0, none⟩), .agg (trC h R), .slice (some ⟨wb, 0, none⟩) ps.length cap, .func (.func 44) #[] #[.pointer (some ⟨bx, 0, none⟩)]] w fun x w' => x = .returned (.tuple #[.agg (rfC (folR F N h R ps).1), .int .i64 (folR F N h R ps).2]) ∧ FolM w w' B g N F c m room (i + 6) U bx Bm mv (folB F N h R ps) := by
  have hz := zero_ref
  have hzp := zero_po
  have hzb := zero_bk
  have hzn := zero_node
  have hb1 : Below w.heap.size w ((w.alloc (.cells (trC h R) 46)).alloc (.cells (rfC rf0) 44)) := below_new2 _ _ _
  have t1 : Blk ((w.alloc (.cells (trC h R) 46)).alloc (.cells (rfC rf0) 44)) w.heap.size 46 (trC h R) := (Blk.new _ _ _).alloc _
  have r1 : Blk ((w.alloc (.cells (trC h R) 46)).alloc (.cells (rfC rf0) 44)) (w.heap.size + 1) 44 (rfC rf0) := Blk.new1 _ _ _ _
  have HT1 : Hid (TD ((w.alloc (.cells (trC h R) 46)).alloc (.cells (rfC rf0) 44)) B g N F c m room i U) := H.below hb1
  have HUL : Hid (∀ x, U x → x < w.heap.size) := fun x hx => (H.lt x hx).2
  have HM1 : Hid (Turns (UM U bx mv) w ((w.alloc (.cells (trC h R) 46)).alloc (.cells (rfC rf0) 44))) := .of_below hb1
  have HWY : Hid (((w.alloc (.cells (trC h R) 46)).alloc (.cells (rfC rf0) 44)).rangeAt wb 0 (ps.map fun (p : Nat) => Value.int .i64 (p : Int))) := fun j v hv => by
    rw [← hw j v hv]
    simp only [World.cell?, hb1.block wb hwb]
  have HWB : Hid (wb < w.heap.size ∧ ¬ U wb) := ⟨hwb, hwU⟩
  have HF0 : Hid (MB w bx Bm mv [] ∧ (∀ b, gft bx mv b → ¬ U b) ∧ ¬ gft bx mv wb ∧ Bm ≤ w.heap.size) := ⟨hM, hMU, hMw, hBm⟩
  have HGL : Hid (∀ b, gft bx mv b → b < w.heap.size) := fun b q => hM.lt b q
  clear H hw hwb hwU hM hMU hMw hBm
  go_enter Tryz.func43, Tryz.ntmps43
  go_wp2_with (first
    | (refine wpList_load_rowg (by rfl) 46 _ (by rfl) (w.heap.size) (by rfl) 46 (trC h R) (0, 0) _ (by exact t1) Tryz.underlying46 (by rfl) (sizeTr.trans (by rw [trC_size])) ?_; simp only [Act.put, List.setIfInBounds_toArray, List.set_cons_zero, List.set_cons_succ])
    | fail)
  generalize ((w.alloc (.cells (trC h R) 46)).alloc (.cells (rfC rf0) 44)) = w1 at *
  refine (root_any h R w1).mono ?_
  rintro x w2 ⟨rfl, hb2⟩
  have q0 := Blk.new w2 75 (poC 0 0 rf0)
  have q3 := q0.set (poC h 0 R)
  have hb3 : Below w2.heap.size w2 ((w2.alloc (.cells (poC 0 0 rf0) 75)).setRow w2.heap.size (poC h 0 R)) := below_setRow (below_new1 _ _) (Nat.le_refl _) _
  have hb13 : Below w1.heap.size w1 ((w2.alloc (.cells (poC 0 0 rf0) 75)).setRow w2.heap.size (poC h 0 R)) := hb2.trans (hb3.mono hb2.size)
  have r3 := r1.below hb13 r1.lt
  have HT3 : Hid (TD ((w2.alloc (.cells (poC 0 0 rf0) 75)).setRow w2.heap.size (poC h 0 R)) B g N F c m room i U) := HT1.out.below hb13
  have HM3 : Hid (Turns (UM U bx mv) w ((w2.alloc (.cells (poC 0 0 rf0) 75)).setRow w2.heap.size (poC h 0 R))) := HM1.out.trans (Turns.of_below (S := UM U bx mv) hb13) fun x hx => .inl hx
  have HWY3 : Hid (((w2.alloc (.cells (poC 0 0 rf0) 75)).setRow w2.heap.size (poC h 0 R)).rangeAt wb 0 (ps.map fun (p : Nat) => Value.int .i64 (p : Int))) := fun j v hv => by
    rw [← HWY.out j v hv]
    simp only [World.cell?, hb13.block wb (Nat.lt_of_lt_of_le HWB.out.1 HM1.out.size)]
  have HPB : Hid (w.heap.size + 2 ≤ w2.heap.size) := Nat.le_trans r1.lt hb2.size
  have hbw3 := hb1.trans (hb13.mono hb1.size)
  have HF3 : Hid (FM ((w2.alloc (.cells (poC 0 0 rf0) 75)).setRow w2.heap.size (poC h 0 R)) bx Bm mv w.heap.size mv [] U (fun b => b = w2.heap.size ∨ b = wb ∨ b = w.heap.size + 1)) := by
    refine ⟨HF0.out.1.below hbw3, fun b q => ⟨HF0.out.2.1 b q, fun q2 => ?_⟩, fun b q => .inl q, Nat.le_trans HF0.out.2.2.2 hbw3.size⟩
    have h1 := HGL.out b q
    have h2 := HPB.out
    rcases q2 with q2 | q2 | q2
    · omega
    · exact HF0.out.2.2.1 (q2 ▸ q)
    · omega
  clear hb2 hb3 hb13 hb1 hbw3 t1 r1 HT1 HM1 HWY HF0
  go_wp2_with (first
    | (refine wpList_store_row (by rfl) 75 _ _ (by rfl) (w2.heap.size) (poC h 0 R) (by rfl) (by rfl) 75 (_) (by exact q0) (sizePo.trans (by rw [poC_size])) (by simp only [poC_size]) (poC_all _ _ _) ?_; simp only [Act.put, List.setIfInBounds_toArray, List.set_cons_zero, List.set_cons_succ])
    | fail)
  clear q0
  generalize ((w2.alloc (.cells (poC 0 0 rf0) 75)).setRow w2.heap.size (poC h 0 R)) = w3 at *
  generalize w2.heap.size = pb at *
  obtain ⟨n, hnl⟩ : ∃ n, ps.length = n := ⟨_, rfl⟩
  rw [hnl] at hn ⊢
  go_loopw [20] (fun t wr => ∃ (j : Nat) (pl : Int) (R' : Rf) (V : Nat → Prop) (v : Value) (l : List (Nat → Nat)), FM wr bx Bm mv w.heap.size v l V (fun b => b = pb ∨ b = wb ∨ b = w.heap.size + 1) ∧ l.length ≤ j ∧ l ++ folB F N (h - (j : Int)) R' (ps.drop j) = folB F N h R ps ∧ j ≤ n ∧ t = .int .i64 (j : Int) ∧ 0 ≤ pl ∧ pl + 1 ≤ ((4 ^ j : Nat) : Int) ∧ R'.1 < 4294967296 ∧ folR F N (h - (j : Int)) R' (ps.drop j) = folR F N h R ps ∧ Blk wr pb 75 (poC (h - (j : Int)) pl R') ∧ Blk wr (w.heap.size + 1) 44 (rfC rf0) ∧ TD wr B g N F c m room (i + j) V ∧ Turns (UM U bx mv) w wr ∧ (∀ x, V x → U x ∨ (w.heap.size + 2 ≤ x ∧ x ≠ pb)) ∧ wr.rangeAt wb 0 (ps.map fun (p : Nat) => Value.int .i64 (p : Int))) (fun t _ => n - (intOf t).toNat)
  case atStart =>
    exact ⟨0, 0, R, U, mv, [], HF3.out, Nat.le_refl _, by simp, Nat.zero_le _, rfl, by omega, by simp, hR, by simp, by simpa using q3, r3, HT3.out, HM3.out, fun x hx => .inl hx, HWY3.out⟩
  case round =>
    clear q3 r3 HT3 HM3 HWY3 HF3
    obtain ⟨j, pl, R', V, v, l, hfm, hlj, hfb, hj, rfl, hp0, hp1, hR', hfo, kp, kr, htd, htn, hV, hwy⟩ := hrel
    have HT : Hid (TD wr B g N F c m room (i + j) V) := htd
    have HN : Hid (Turns (UM U bx mv) w wr) := htn
    have HV : Hid (∀ x, V x → U x ∨ (w.heap.size + 2 ≤ x ∧ x ≠ pb)) := hV
    have HY : Hid (wr.rangeAt wb 0 (ps.map fun (p : Nat) => Value.int .i64 (p : Int))) := hwy
    have HRP : Hid (wr.rangeAt pb 2 ((List.range 33).map (rfF R'.1 R'.2))) := po_range kp
    have HFO : Hid (folR F N (h - (j : Int)) R' (ps.drop j) = folR F N h R ps) := hfo
    have HFB : Hid (l ++ folB F N (h - (j : Int)) R' (ps.drop j) = folB F N h R ps) := hfb
    have HFM : Hid (FM wr bx Bm mv w.heap.size v l V (fun b => b = pb ∨ b = wb ∨ b = w.heap.size + 1)) := hfm
    have hpw : pb < wr.heap.size := kp.lt
    have HPW : Hid (pb < wr.heap.size) := hpw
    have h4 : 4 ^ j ≤ 4096 := pow4_le j (by omega)
    clear htd htn hV hwy hfo hfb hfm hpw
    by_cases hlt : j < n
    · obtain ⟨p, hp⟩ : ∃ p, ps[j]? = some p := ⟨_, List.getElem?_eq_getElem (by omega)⟩
      have hp4 : p < 4 := hps p (List.mem_of_getElem? hp)
      have HDR : Hid (ps.drop j = p :: ps.drop (j + 1)) := (List.drop_eq_getElem?_toList_append).trans (by rw [hp]; rfl)
      have cw : wr.cell? ⟨wb, j, none⟩ = some (.int .i64 (p : Int)) := by
        have := HY.out j (.int .i64 (p : Int)) (by simp [hp])
        simpa using this
      have j0 : (0 : Int) ≤ (j : Int) := by omega
      have j1 : (j : Int) < (n : Int) := by omega
      have hlr : (w.heap.size + 1) ≠ pb := by
        have := HPB.out
        omega
      have HVL : Hid (∀ x, V x → x ≠ w.heap.size + 1 ∧ x ≠ pb ∧ x ≠ wb) := fun x hx => by
        have h1 := HPB.out
        have h2 := HWB.out
        rcases HV.out x hx with u | u
        · have h3 := HUL.out _ u
          refine ⟨by omega, by omega, fun e => h2.2 (e ▸ u)⟩
        · omega
      by_cases hR0 : R' = rf0
      · subst hR0
        have hNn : Hid (∀ w, Calls Tryz.prog 45 #[.agg (rfC rf0)] w fun e w' => e = .returned (.bool true) ∧ Below w.heap.size w w') := fun w => by
          have := none_any rf0 w
          rw [decide_eq_true rfl] at this
          exact this
        have HAN : Hid (folR F N h R ps = (rf0, 0)) := HFO.out.symm.trans (folR_none _ _ _ _)
        have HBN : Hid (folB F N h R ps = l) := HFB.out.symm.trans (by rw [folB_none, List.append_nil])
        go_wp2_with (first
          | (refine wpList_load_blk (by rfl) 44 _ (by rfl) (pb) (2) 33 (rfF rf0.1 rf0.2) (by rfl) _ (by exact HRP.out) Tryz.underlying44 rfl tsizeRef ?_; simp only [Act.put, List.setIfInBounds_toArray, List.set_cons_zero, List.set_cons_succ])
          | fail)
        refine (hNn.out wr).mono ?_
        rintro x w4 ⟨rfl, hb4⟩
        have kr4 := kr.below hb4 kr.lt
        have HT4 : Hid (TD w4 B g N F c m room (i + j) V) := HT.out.below hb4
        have HN4 : Hid (Turns (UM U bx mv) w w4) := HN.out.trans (Turns.of_below (S := UM U bx mv) hb4) fun x hx => .inl hx
        have HF4 := HFM.out.below hb4
        have hjn : i + j ≤ i + 6 := by omega
        have HJN : Hid (i + j ≤ i + 6) := hjn
        clear hb4 kr kp cw HT HN hjn
        go_wp2_with (first
          | (refine wpList_store_row (by rfl) 44 _ _ (by rfl) (w.heap.size + 1) (rfC rf0) (by rfl) (by rfl) 44 (_) (by exact kr4) (tsizeRef.trans (by rw [rfC_size])) (by simp only [rfC_size]) (rfC_all _) ?_; simp only [Act.put, List.setIfInBounds_toArray, List.set_cons_zero, List.set_cons_succ])
          | fail)
        try simp only [Exit.inBlock, Exit.then]
        refine bodyPost_ret (results_row2 Tryz.results43 _ _ (w.heap.size + 1) 44 (rfC rf0) (0, 0) _ rfl (kr4.set _) Tryz.underlying44 rfl (tsizeRef.trans (by rw [rfC_size]))) rfl ?_
        rw [HAN.out, HBN.out]
        have hf9 := HF4.laid (.inr (.inr rfl)) (rfC rf0)
        refine ⟨rfl, V, v, (HT4.out.mono HJN.out).kept (by simp) fun z hz => setRow_other _ _ z _ (HVL.out z hz).1, hf9.mb, HN4.out.laid (by omega) _, fun z hz => ?_, hf9.sub, fun z hz => (hf9.ap z hz).1⟩
        rcases HV.out z hz with u | u
        · exact .inl u
        · exact .inr (by omega)
      · have hNn : Hid (∀ w, Calls Tryz.prog 45 #[.agg (rfC R')] w fun e w' => e = .returned (.bool false) ∧ Below w.heap.size w w') := fun w => by
          have := none_any R' w
          rw [decide_eq_false hR0] at this
          exact this
        go_wp2_with (first
          | (refine wpList_load_blk (by rfl) 44 _ (by rfl) (pb) (2) 33 (rfF R'.1 R'.2) (by rfl) _ (by exact HRP.out) Tryz.underlying44 rfl tsizeRef ?_; simp only [Act.put, List.setIfInBounds_toArray, List.set_cons_zero, List.set_cons_succ])
          | fail)
        refine (hNn.out wr).mono ?_
        rintro x w4 ⟨rfl, hb4⟩
        have kr4 := kr.below hb4 kr.lt
        have kp4 := kp.below hb4 kp.lt
        have HT4 : Hid (TD w4 B g N F c m room (i + j) V) := HT.out.below hb4
        have HN4 : Hid (Turns (UM U bx mv) w w4) := HN.out.trans (Turns.of_below (S := UM U bx mv) hb4) fun x hx => .inl hx
        have HY4 : Hid (w4.rangeAt wb 0 (ps.map fun (p : Nat) => Value.int .i64 (p : Int))) := fun a b hab => by
          rw [← HY.out a b hab]
          simp only [World.cell?, hb4.block wb (Nat.lt_of_lt_of_le HWB.out.1 HN.out.size)]
        have HF4 : Hid (FM w4 bx Bm mv w.heap.size v l V (fun b => b = pb ∨ b = wb ∨ b = w.heap.size + 1)) := HFM.out.below hb4
        clear hb4 kr kp cw HT HN HY HRP hNn HFM
        obtain ⟨er, her⟩ : ∃ er, nodE F N (h - (j : Int)) R' = er := ⟨_, rfl⟩
        have HRN : Hid (∀ w : World, TD w B g N F c m room (i + j) V → Calls Tryz.prog 73 #[.pointer (some ⟨c, 0, none⟩), .agg (poC (h - (j : Int)) pl R')] w fun x w' => x = .returned (.tuple #[.agg (va 256 (iv .u8 (if er = 0 then gotF F N R' else fun _ => 0))), .agg (if er = 0 then ndC (h - (j : Int)) (decK (gotF F N R')) else ndC 0 fun _ => rf0), .int .i64 er]) ∧ TDStep w w' B g N F c m room (i + j + 1) V) := fun w h1 => readNode_td _ _ _ hR' (by omega) hF er her w h1
        go_wp2_with (first
          | (refine wpList_load_rowg (by rfl) 75 _ (by rfl) (pb) (by rfl) 75 (poC (h - (j : Int)) pl R') (0, 0) _ (by exact kp4) Tryz.underlying75 (by rfl) (sizePo.trans (by rw [poC_size])) ?_; simp only [Act.put, List.setIfInBounds_toArray, List.set_cons_zero, List.set_cons_succ])
          | fail)
        refine (HRN.out w4 HT4.out).mono ?_
        rintro x w5 ⟨rfl, V5, ht5, hm5, hv5⟩
        have kr5 := hm5.blk kr4 fun z => (HVL.out _ z).1 rfl
        have kp5 := hm5.blk kp4 fun z => (HVL.out _ z).2.1 rfl
        have HT5 : Hid (TD w5 B g N F c m room (i + j + 1) V5) := ht5
        have HN5 : Hid (Turns (UM U bx mv) w w5) := HN4.out.trans hm5 fun x hx => by
          rcases HV.out x hx with u | u
          · exact .inl (.inl u)
          · exact .inr (by omega)
        have HF5 : Hid (FM w5 bx Bm mv w.heap.size v l V5 (fun b => b = pb ∨ b = wb ∨ b = w.heap.size + 1)) := HF4.out.step hm5 hv5
        have HV5 : Hid (∀ x, V5 x → U x ∨ (w.heap.size + 2 ≤ x ∧ x ≠ pb)) := fun x hx => by
          rcases hv5 x hx with u | u
          · exact HV.out x u
          · have := kp4.lt
            have := HPB.out
            exact .inr (by omega)
        have HY5 : Hid (w5.rangeAt wb 0 (ps.map fun (p : Nat) => Value.int .i64 (p : Int))) := fun a b hab => by
          rw [← HY4.out a b hab]
          simp only [World.cell?, hm5.block wb (Nat.lt_of_lt_of_le HWB.out.1 HN4.out.size) fun z => (HVL.out _ z).2.2 rfl]
        clear ht5 hm5 hv5 kr4 kp4 HT4 HN4 HY4 HRN HVL HF4
        by_cases he0 : er = 0
        · subst he0
          have HFN : Hid (folR F N (h - (j : Int) - 1) (decK (gotF F N R') p) (ps.drop (j + 1)) = folR F N h R ps) := by
            show _ = _
            rw [← HFO.out, HDR.out]
            simp only [folR, if_neg hR0, if_pos her]
          have HFC : Hid ((l ++ [gotF F N R']) ++ folB F N (h - (j : Int) - 1) (decK (gotF F N R') p) (ps.drop (j + 1)) = folB F N h R ps) := by
            show _ = _
            rw [← HFB.out, HDR.out]
            simp only [folB, if_neg hR0, if_pos her, List.append_assoc, List.singleton_append]
          simp only [if_true]
          have HDL : Hid ((decK (gotF F N R') p).1 < 4294967296) := decK_lt _ _
          clear her HFO HFB
          generalize gotF F N R' = f at *
          have q0 : Blk ((w5.alloc (.cells (va 256 (iv .u8 fun _ => 0)) 38)).alloc (.cells (ndC 0 fun _ => rf0) 157)) w5.heap.size 38 (va 256 (iv .u8 fun _ => 0)) := (Blk.new _ _ _).alloc _
          have y0 : Blk ((w5.alloc (.cells (va 256 (iv .u8 fun _ => 0)) 38)).alloc (.cells (ndC 0 fun _ => rf0) 157)) (w5.heap.size + 1) 157 (ndC 0 fun _ => rf0) := Blk.new1 _ _ _ _
          have y1 := y0.other (va 256 (iv .u8 f)) (show w5.heap.size + 1 ≠ w5.heap.size by omega)
          have x7 : Blk ((((w5.alloc (.cells (va 256 (iv .u8 fun _ => 0)) 38)).alloc (.cells (ndC 0 fun _ => rf0) 157)).setRow w5.heap.size (va 256 (iv .u8 f))).setRow (w5.heap.size + 1) (ndC (h - (j : Int)) (decK f))) w5.heap.size 38 (va 256 (iv .u8 f)) := (q0.set _).other _ (by omega)
          have y7 : Blk ((((w5.alloc (.cells (va 256 (iv .u8 fun _ => 0)) 38)).alloc (.cells (ndC 0 fun _ => rf0) 157)).setRow w5.heap.size (va 256 (iv .u8 f))).setRow (w5.heap.size + 1) (ndC (h - (j : Int)) (decK f))) (w5.heap.size + 1) 157 (ndC (h - (j : Int)) (decK f)) := y1.set _
          have hb7 : Below w5.heap.size w5 ((((w5.alloc (.cells (va 256 (iv .u8 fun _ => 0)) 38)).alloc (.cells (ndC 0 fun _ => rf0) 157)).setRow w5.heap.size (va 256 (iv .u8 f))).setRow (w5.heap.size + 1) (ndC (h - (j : Int)) (decK f))) := below_setRow (below_setRow (below_new2 _ _ _) (Nat.le_refl _) _) (by omega) _
          have kr7 := kr5.below hb7 kr5.lt
          have kp7 := kp5.below hb7 kp5.lt
          have HT7 : Hid (TD ((((w5.alloc (.cells (va 256 (iv .u8 fun _ => 0)) 38)).alloc (.cells (ndC 0 fun _ => rf0) 157)).setRow w5.heap.size (va 256 (iv .u8 f))).setRow (w5.heap.size + 1) (ndC (h - (j : Int)) (decK f))) B g N F c m room (i + j + 1) V5) := HT5.out.below hb7
          have HN7 : Hid (Turns (UM U bx mv) w ((((w5.alloc (.cells (va 256 (iv .u8 fun _ => 0)) 38)).alloc (.cells (ndC 0 fun _ => rf0) 157)).setRow w5.heap.size (va 256 (iv .u8 f))).setRow (w5.heap.size + 1) (ndC (h - (j : Int)) (decK f)))) := HN5.out.trans (Turns.of_below (S := UM U bx mv) hb7) fun x hx => .inl hx
          have HY7 : Hid (((((w5.alloc (.cells (va 256 (iv .u8 fun _ => 0)) 38)).alloc (.cells (ndC 0 fun _ => rf0) 157)).setRow w5.heap.size (va 256 (iv .u8 f))).setRow (w5.heap.size + 1) (ndC (h - (j : Int)) (decK f))).rangeAt wb 0 (ps.map fun (p : Nat) => Value.int .i64 (p : Int))) := fun a b hab => by
            rw [← HY5.out a b hab]
            simp only [World.cell?, hb7.block wb (Nat.lt_of_lt_of_le HWB.out.1 HN5.out.size)]
          have HF7 : Hid (FM ((((w5.alloc (.cells (va 256 (iv .u8 fun _ => 0)) 38)).alloc (.cells (ndC 0 fun _ => rf0) 157)).setRow w5.heap.size (va 256 (iv .u8 f))).setRow (w5.heap.size + 1) (ndC (h - (j : Int)) (decK f))) bx Bm mv w.heap.size v l V5 (fun b => b = pb ∨ b = wb ∨ b = w.heap.size + 1)) := HF5.out.below hb7
          have HG5 : Hid ((∀ b, gft bx v b → b < w5.heap.size) ∧ (∀ b, V5 b → b < w5.heap.size) ∧ l.length ≤ 100) := ⟨fun b q => HF5.out.mb.lt b q, fun b q => (HT5.out.lt b q).2, by omega⟩
          clear hb7 kr5 kp5 HT5 HN5 HY5 HF5
          go_wp2_with (first
            | (refine wpList_store_row (by rfl) 38 _ _ (by rfl) (w5.heap.size) (va 256 (iv .u8 f)) (by rfl) (by rfl) 38 _ q0 (sizeBk.trans (by rw [va_size])) (by simp only [va_size]) (iv_one _ _ _) ?_; simp only [Act.put, List.setIfInBounds_toArray, List.set_cons_zero, List.set_cons_succ])
            | (refine wpList_store_row (by rfl) 157 _ _ (by rfl) (w5.heap.size + 1) (ndC (h - (j : Int)) (decK f)) (by rfl) (by rfl) 157 (_) (by exact y1) (tsizeNd.trans (by rw [ndC_size])) (by simp only [ndC_size]) (ndC_all _ _) ?_; simp only [Act.put, List.setIfInBounds_toArray, List.set_cons_zero, List.set_cons_succ])
            | (refine wpList_load_row (by rfl) 38 _ (by rfl) (w5.heap.size) (by rfl) 38 (va 256 (iv .u8 f)) (0, 0) _ x7 Tryz.underlying38 (by rfl) (sizeBk.trans (by rw [va_size])) ?_; simp only [Act.put, List.setIfInBounds_toArray, List.set_cons_zero, List.set_cons_succ])
            | fail)
          clear q0 y0 y1 x7
          generalize ((((w5.alloc (.cells (va 256 (iv .u8 fun _ => 0)) 38)).alloc (.cells (ndC 0 fun _ => rf0) 157)).setRow w5.heap.size (va 256 (iv .u8 f))).setRow (w5.heap.size + 1) (ndC (h - (j : Int)) (decK f))) = w7 at *
          have HYB : Hid (¬ gft bx v (w5.heap.size + 1)) := fun q => by
            have := HG5.out.1 _ q
            omega
          generalize w5.heap.size + 1 = yb at *
          refine (meet_any f HG5.out.2.2 w7 HF7.out.bm HF7.out.mb).mono ?_
          rintro x w8 ⟨rfl, v8, hm8, ht8, hg8⟩
          have hne1 : ¬ gft bx v (w.heap.size + 1) := fun q => (HF7.out.ap _ q).2 (.inr (.inr rfl))
          have hne2 : ¬ gft bx v pb := fun q => (HF7.out.ap _ q).2 (.inl rfl)
          have hne3 : ¬ gft bx v wb := fun q => (HF7.out.ap _ q).2 (.inr (.inl rfl))
          have hs7 := HN7.out.size
          have HF8 : Hid (FM w8 bx Bm mv w.heap.size v8 (l ++ [f]) V5 (fun b => b = pb ∨ b = wb ∨ b = w.heap.size + 1)) := HF7.out.met hm8 ht8 hg8 (fun b q => (HT7.out.lt b q).2) (fun b q => by
            rcases q with q | q | q
            · rw [q]; exact kp7.lt
            · rw [q]; exact Nat.lt_of_lt_of_le HWB.out.1 hs7
            · rw [q]; exact kr7.lt) hs7
          have kr8 := ht8.blk kr7 hne1
          have kp8 := ht8.blk kp7 hne2
          have y8 := ht8.blk y7 HYB.out
          have HT8 : Hid (TD w8 B g N F c m room (i + j + 1) V5) := HT7.out.kept ht8.size fun z hz => ht8.block z (HT7.out.lt z hz).2 fun q => (HF7.out.ap z q).1 hz
          have HN8 : Hid (Turns (UM U bx mv) w w8) := HN7.out.trans ht8 fun x hx => (HF7.out.sub x hx).imp .inr id
          have HY8 : Hid (w8.rangeAt wb 0 (ps.map fun (p : Nat) => Value.int .i64 (p : Int))) := fun a b hab => by
            rw [← HY7.out a b hab]
            simp only [World.cell?, ht8.block wb (Nat.lt_of_lt_of_le HWB.out.1 HN7.out.size) hne3]
          clear hm8 ht8 hg8 hne1 hne2 hne3 hs7 kr7 kp7 y7 HT7 HN7 HY7 HF7
          go_wp2_with (first
            | (refine wpList_load_rowg (by rfl) 75 _ (by rfl) (pb) (by rfl) 75 (poC (h - (j : Int)) pl R') (0, 0) _ (by exact kp8) Tryz.underlying75 (by rfl) (sizePo.trans (by rw [poC_size])) ?_; simp only [Act.put, List.setIfInBounds_toArray, List.set_cons_zero, List.set_cons_succ])
            | (refine wpList_load_rowg (by rfl) 157 _ (by rfl) (yb) (by rfl) 157 (ndC (h - (j : Int)) (decK f)) (0, 0) _ (by exact y8) Tryz.underlying157 (by rfl) (tsizeNd.trans (by rw [ndC_size])) ?_; simp only [Act.put, List.setIfInBounds_toArray, List.set_cons_zero, List.set_cons_succ])
            | fail)
          refine (beneath_any (h - (j : Int)) pl (h - (j : Int)) R' (decK f) p hp4 (by omega) (by omega) w8).mono ?_
          rintro x w9 ⟨rfl, hb9⟩
          have kr9 := kr8.below hb9 kr8.lt
          have kp9 := kp8.below hb9 kp8.lt
          have HT9 : Hid (TD w9 B g N F c m room (i + j + 1) V5) := HT8.out.below hb9
          have HN9 : Hid (Turns (UM U bx mv) w w9) := HN8.out.trans (Turns.of_below (S := UM U bx mv) hb9) fun x hx => .inl hx
          have HY9 : Hid (w9.rangeAt wb 0 (ps.map fun (p : Nat) => Value.int .i64 (p : Int))) := fun a b hab => by
            rw [← HY8.out a b hab]
            simp only [World.cell?, hb9.block wb (Nat.lt_of_lt_of_le HWB.out.1 HN8.out.size)]
          have HF9 : Hid (FM w9 bx Bm mv w.heap.size v8 (l ++ [f]) V5 (fun b => b = pb ∨ b = wb ∨ b = w.heap.size + 1)) := HF8.out.below hb9
          clear hb9 kr8 kp8 y8 HT8 HN8 HY8 HF8
          go_wp2_with (first
            | (refine wpList_store_row (by rfl) 75 _ _ (by rfl) (pb) (poC (h - (j : Int) - 1) (pl * 4 + (p : Int)) (decK f p)) (by rfl) (by rfl) 75 (_) (by exact kp9) (sizePo.trans (by rw [poC_size])) (by simp only [poC_size]) (poC_all _ _ _) ?_; simp only [Act.put, List.setIfInBounds_toArray, List.set_cons_zero, List.set_cons_succ])
            | fail)
          have hpw : pb ≠ wb := by
            have h1 := HPB.out
            have h2 := HWB.out
            omega
          refine ⟨⟨j + 1, pl * 4 + (p : Int), decK f p, V5, v8, l ++ [f], HF9.out.laid (.inl rfl) _, by simp; omega, by rw [← HFC.out, show h - ((j + 1 : Nat) : Int) = h - (j : Int) - 1 by omega], hlt, rfl, by omega, ?_, HDL.out, ?_, ?_, kr9.other _ hlr, ?_, HN9.out.laid (by have := HPB.out; omega) _, HV5.out, fun a b hab => ?_⟩, ?_⟩
          · rw [Nat.pow_succ]
            generalize 4 ^ j = z4 at *
            push_cast
            omega
          · rw [← HFN.out, show h - ((j + 1 : Nat) : Int) = h - (j : Int) - 1 by omega]
          · rw [show h - ((j + 1 : Nat) : Int) = h - (j : Int) - 1 by omega]
            exact kp9.set _
          · refine HT9.out.kept (by simp) fun z hz => setRow_other _ _ z _ ?_
            rcases HV5.out z hz with u | u
            · have h1 := HUL.out _ u
              have h2 := HPB.out
              omega
            · exact u.2
          · rw [← HY9.out a b hab]
            simp only [World.cell?, setRow_other w9 pb wb _ hpw.symm]
          · simp only [intOf]
            omega
        · have HAN : Hid (folR F N h R ps = (rf0, er)) := by
            show _ = _
            rw [← HFO.out, HDR.out]
            simp only [folR, if_neg hR0, her, if_neg he0]
          have HBN : Hid (folB F N h R ps = l) := by
            show _ = _
            rw [← HFB.out, HDR.out]
            simp only [folB, if_neg hR0, her, if_neg he0, List.append_nil]
          have hne : ¬ er = 0 := he0
          have hne2 : (er != 0) = true := by simp [he0]
          have hne3 : decide (er = 0) = false := decide_eq_false he0
          simp only [if_neg he0]
          clear her HFO HFB
          have q0 : Blk ((w5.alloc (.cells (va 256 (iv .u8 fun _ => 0)) 38)).alloc (.cells (ndC 0 fun _ => rf0) 157)) w5.heap.size 38 (va 256 (iv .u8 fun _ => 0)) := (Blk.new _ _ _).alloc _
          have y0 : Blk ((w5.alloc (.cells (va 256 (iv .u8 fun _ => 0)) 38)).alloc (.cells (ndC 0 fun _ => rf0) 157)) (w5.heap.size + 1) 157 (ndC 0 fun _ => rf0) := Blk.new1 _ _ _ _
          have y1 := y0.other (va 256 (iv .u8 fun _ => 0)) (show w5.heap.size + 1 ≠ w5.heap.size by omega)
          have x7 : Blk ((((w5.alloc (.cells (va 256 (iv .u8 fun _ => 0)) 38)).alloc (.cells (ndC 0 fun _ => rf0) 157)).setRow w5.heap.size (va 256 (iv .u8 fun _ => 0))).setRow (w5.heap.size + 1) (ndC 0 fun _ => rf0)) w5.heap.size 38 (va 256 (iv .u8 fun _ => 0)) := (q0.set _).other _ (by omega)
          have y7 : Blk ((((w5.alloc (.cells (va 256 (iv .u8 fun _ => 0)) 38)).alloc (.cells (ndC 0 fun _ => rf0) 157)).setRow w5.heap.size (va 256 (iv .u8 fun _ => 0))).setRow (w5.heap.size + 1) (ndC 0 fun _ => rf0)) (w5.heap.size + 1) 157 (ndC 0 fun _ => rf0) := y1.set _
          have hb7 : Below w5.heap.size w5 ((((w5.alloc (.cells (va 256 (iv .u8 fun _ => 0)) 38)).alloc (.cells (ndC 0 fun _ => rf0) 157)).setRow w5.heap.size (va 256 (iv .u8 fun _ => 0))).setRow (w5.heap.size + 1) (ndC 0 fun _ => rf0)) := below_setRow (below_setRow (below_new2 _ _ _) (Nat.le_refl _) _) (by omega) _
          have kr7 := kr5.below hb7 kr5.lt
          have kp7 := kp5.below hb7 kp5.lt
          have HT7 : Hid (TD ((((w5.alloc (.cells (va 256 (iv .u8 fun _ => 0)) 38)).alloc (.cells (ndC 0 fun _ => rf0) 157)).setRow w5.heap.size (va 256 (iv .u8 fun _ => 0))).setRow (w5.heap.size + 1) (ndC 0 fun _ => rf0)) B g N F c m room (i + j + 1) V5) := HT5.out.below hb7
          have HN7 : Hid (Turns (UM U bx mv) w ((((w5.alloc (.cells (va 256 (iv .u8 fun _ => 0)) 38)).alloc (.cells (ndC 0 fun _ => rf0) 157)).setRow w5.heap.size (va 256 (iv .u8 fun _ => 0))).setRow (w5.heap.size + 1) (ndC 0 fun _ => rf0))) := HN5.out.trans (Turns.of_below (S := UM U bx mv) hb7) fun x hx => .inl hx
          have HY7 : Hid (((((w5.alloc (.cells (va 256 (iv .u8 fun _ => 0)) 38)).alloc (.cells (ndC 0 fun _ => rf0) 157)).setRow w5.heap.size (va 256 (iv .u8 fun _ => 0))).setRow (w5.heap.size + 1) (ndC 0 fun _ => rf0)).rangeAt wb 0 (ps.map fun (p : Nat) => Value.int .i64 (p : Int))) := fun a b hab => by
            rw [← HY5.out a b hab]
            simp only [World.cell?, hb7.block wb (Nat.lt_of_lt_of_le HWB.out.1 HN5.out.size)]
          have HF7 := HF5.out.below hb7
          clear hb7 kr5 kp5 HT5 HN5 HY5 HF5
          go_wp2_with (first
            | (refine wpList_store_row (by rfl) 38 _ _ (by rfl) (w5.heap.size) (va 256 (iv .u8 (fun _ => 0))) (by rfl) (by rfl) 38 _ q0 (sizeBk.trans (by rw [va_size])) (by simp only [va_size]) (iv_one _ _ _) ?_; simp only [Act.put, List.setIfInBounds_toArray, List.set_cons_zero, List.set_cons_succ])
            | (refine wpList_store_row (by rfl) 157 _ _ (by rfl) (w5.heap.size + 1) (ndC 0 fun _ => rf0) (by rfl) (by rfl) 157 (_) (by exact y1) (tsizeNd.trans (by rw [ndC_size])) (by simp only [ndC_size]) (ndC_all _ _) ?_; simp only [Act.put, List.setIfInBounds_toArray, List.set_cons_zero, List.set_cons_succ])
            | (refine wpList_store_row (by rfl) 44 _ _ (by rfl) (w.heap.size + 1) (rfC rf0) (by rfl) (by rfl) 44 (_) (by exact kr7) (tsizeRef.trans (by rw [rfC_size])) (by simp only [rfC_size]) (rfC_all _) ?_; simp only [Act.put, List.setIfInBounds_toArray, List.set_cons_zero, List.set_cons_succ])
            | fail)
          try simp only [Exit.inBlock, Exit.then]
          refine bodyPost_ret (results_row2 Tryz.results43 _ _ (w.heap.size + 1) 44 (rfC rf0) (0, 0) _ rfl (kr7.set _) Tryz.underlying44 rfl (tsizeRef.trans (by rw [rfC_size]))) rfl ?_
          rw [HAN.out, HBN.out]
          have hf9 := HF7.laid (.inr (.inr rfl)) (rfC rf0)
          refine ⟨rfl, V5, v, (HT7.out.mono (by omega)).kept (by simp) fun z hz => setRow_other _ _ z _ ?_, hf9.mb, HN7.out.laid (by omega) _, fun z hz => ?_, hf9.sub, fun z hz => (hf9.ap z hz).1⟩
          · have h2 := HPB.out
            rcases HV5.out z hz with u | u
            · have h1 := HUL.out _ u
              omega
            · omega
          · rcases HV5.out z hz with u | u
            · exact .inl u
            · exact .inr (by omega)
    · have hjn : j = n := by omega
      subst hjn
      have HAN : Hid (folR F N h R ps = (R', 0)) := by
        show _ = _
        rw [← HFO.out, ← hnl, List.drop_length]
        rfl
      have HBN : Hid (folB F N h R ps = l) := by
        show _ = _
        rw [← HFB.out, ← hnl, List.drop_length]
        show l ++ [] = l
        simp
      go_wp2_with (first
        | (refine wpList_load_blk (by rfl) 44 _ (by rfl) (pb) (2) 33 (rfF R'.1 R'.2) (by rfl) _ (by exact HRP.out) Tryz.underlying44 rfl tsizeRef ?_; simp only [Act.put, List.setIfInBounds_toArray, List.set_cons_zero, List.set_cons_succ])
        | (refine wpList_store_row (by rfl) 44 _ _ (by rfl) (w.heap.size + 1) (rfC R') (by rfl) (by rfl) 44 (_) (by exact kr) (tsizeRef.trans (by rw [rfC_size])) (by simp only [rfC_size]) (rfC_all _) ?_; simp only [Act.put, List.setIfInBounds_toArray, List.set_cons_zero, List.set_cons_succ])
        | fail)
      try simp only [Exit.inBlock, Exit.then]
      refine bodyPost_ret (results_row2 Tryz.results43 _ _ (w.heap.size + 1) 44 (rfC R') (0, 0) _ rfl (kr.set _) Tryz.underlying44 rfl (tsizeRef.trans (by rw [rfC_size]))) rfl ?_
      rw [HAN.out, HBN.out]
      have hf9 := HFM.out.laid (.inr (.inr rfl)) (rfC R')
      refine ⟨rfl, V, v, (HT.out.mono (by omega)).kept (by simp) fun z hz => setRow_other _ _ z _ ?_, hf9.mb, HN.out.laid (by omega) _, fun z hz => ?_, hf9.sub, fun z hz => (hf9.ap z hz).1⟩
      · have h2 := HPB.out
        rcases HV.out z hz with u | u
        · have h1 := HUL.out _ u
          omega
        · omega
      · rcases HV.out z hz with u | u
        · exact .inl u
        · exact .inr (by omega)
end
end Go.Proofs.YtjhabngibbmpbaaGreat
