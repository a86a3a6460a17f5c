/- TreeQuiet: what its walk leans on, no walk in it. -/
import Derived.Test.YtiofonffmplfmaaGreatHNdBlock
import Derived.BigQuiet
import Derived.Deep.QuietTactic
import Derived.Test.YtiofonffmplfmaaGreatHWoMade
import Derived.Test.YtiofonffmplfmaaGreatHTrMeet
import Derived.Test.YtiofonffmplfmaaGreatHTrNew
import Derived.Test.YtiofonffmplfmaaGreatHSegsIf
import Derived.Handy
import Derived.Test.YtiofonffmplfmaaGreatHTrRngM
import Derived.KernelRfl

namespace Go.Proofs.YtiofonffmplfmaaGreat
open Go Go.RowKit
set_option linter.unusedSimpArgs false
set_option linter.unusedVariables false

set_option maxRecDepth 100000 in
set_option maxHeartbeats 4000000 in
theorem awake9_any (w : World) : Calls Tryz.prog 7 #[] w fun e w' => e = .returned (.bool true) ∧ Below w.heap.size w w' := by
  have hW : Hid (Calls Tryz.prog 25 #[.int .i64 2, .int .i64 6] w fun e w' => e = .returned (.tuple #[.slice (some ⟨w.heap.size, 0, none⟩) 2 2, .int .i64 0]) ∧ Blk w' w.heap.size 3 (va 2 (iv .i64 (wayN 2 6))) ∧ Below w.heap.size w w') := way_ok 2 6 (by decide) (by decide) w
  have hC : Hid (∀ w : World, Calls Tryz.prog 26 #[.int .i64 3] w fun e w' => e = .returned (.tuple #[.int .i64 64, .int .i64 0]) ∧ w = w') := fun w => capacity_ok 3 64 (by decide) (by decide) w
  go_enter Tryz.func7, Tryz.ntmps7
  go_wp2_with fail
  refine hW.out.mono ?_
  rintro e w1 ⟨rfl, b1, hb1⟩
  have c0 : w1.cell? ⟨w.heap.size, 0, none⟩ = some (.int .i64 1) := b1.cv (by decide)
  have c1 : w1.cell? ⟨w.heap.size, 1, none⟩ = some (.int .i64 2) := b1.cv (by decide)
  go_wp2_with fail
  refine (hC.out w1).mono ?_
  rintro e _ ⟨rfl, rfl⟩
  go_wp2_with fail
  go_ret
  exact ⟨rfl, hb1⟩
end Go.Proofs.YtiofonffmplfmaaGreat

namespace Go.Proofs.YtiofonffmplfmaaGreat
open Go Go.RowKit
set_option linter.unusedSimpArgs false
set_option linter.unusedVariables false

theorem sizeWo : (Tryz.prog.info? 25).map (·.size) = some 5 := by kernel_rfl
theorem woC_size (h : Int) (a : Option Addr) (n c : Nat) (ab : Option Addr) (nb cb : Nat) (tu ca : Int) : (woC h a n c ab nb cb tu ca).size = 5 := rfl
theorem IsBlks.keptBy {w w' : World} {b o n : Nat} {L : Nat → Nat → Nat} (h : IsBlks w (some ⟨b, o, none⟩) n L) (hs : w.heap.size ≤ w'.heap.size) (hk : w'.heap[b]? = w.heap[b]?) : IsBlks w' (some ⟨b, o, none⟩) n L := fun i hi => by
  obtain ⟨b', o', e, h1, h2⟩ := h i hi
  injection e with e
  injection e with e1 e2
  subst e1 e2
  exact ⟨b, o, rfl, Nat.lt_of_lt_of_le h1 hs, fun j v hv => by
    rw [← h2 j v hv]
    simp only [World.cell?, hk]⟩
/-- what the statements have behind made: a cache on a quiet disk, the image, the tree in a block -/
structure TW (w : World) (B g N : Nat) (F : Nat → Nat) (c m room i : Nat) (U : Nat → Prop) (ib xt : Nat) (h : Int) (R : Rf) : Prop where
  td : TD w B g N F c m room i U
  img : IsBlks w (some ⟨ib, 0, none⟩) N fun i => blkAt F i
  tr : Blk w xt 33 (trC h R)
  hib : ¬ U ib
  hxt : ¬ U xt
  bib : ib < w.heap.size
theorem TW.below {w w' : World} {B g N c m room i ib xt : Nat} {F : Nat → Nat} {U : Nat → Prop} {h : Int} {R : Rf} (H : TW w B g N F c m room i U ib xt h R) (hb : Below w.heap.size w w') : TW w' B g N F c m room i U ib xt h R := ⟨H.td.below hb, H.img.below hb, H.tr.below hb H.tr.lt, H.hib, H.hxt, Nat.lt_of_lt_of_le H.bib hb.size⟩
theorem TW.step {w w' : World} {B g N c m room i j ib xt : Nat} {F : Nat → Nat} {U : Nat → Prop} {h : Int} {R : Rf} (H : TW w B g N F c m room i U ib xt h R) (hs : TDStep w w' B g N F c m room j U) : ∃ V, TW w' B g N F c m room j V ib xt h R ∧ Turns U w w' ∧ ∀ x, V x → U x ∨ w.heap.size ≤ x := by
  obtain ⟨V, h1, h2, h3⟩ := hs
  refine ⟨V, ⟨h1, H.img.keptBy h2.size (h2.block ib H.bib H.hib), h2.blk H.tr H.hxt, fun z => ?_, fun z => ?_, Nat.lt_of_lt_of_le H.bib h2.size⟩, h2, h3⟩
  · rcases h3 _ z with y | y
    · exact H.hib y
    · have := H.bib
      omega
  · rcases h3 _ z with y | y
    · exact H.hxt y
    · have := H.tr.lt
      omega
end Go.Proofs.YtiofonffmplfmaaGreat

namespace Go.Proofs.YtiofonffmplfmaaGreat
open Go Go.RowKit
set_option linter.unusedSimpArgs false
set_option linter.unusedVariables false
section
variable {N : Nat} {F : Nat → Nat}
theorem outP_in {k q : Nat} (hq : q < 4 ^ k) : ¬ outP (k : Int) 0 (q : Int) := fun ho => by
  unfold outP at ho
  rw [show (k : Int) - 0 = (k : Int) by omega, Int.toNat_natCast] at ho
  omega
theorem leafO_leafV {k : Nat} {R : Rf} {q : Nat} (hok : trOk (k : Int) R) (hq : q < 4 ^ k) : leafO F N k R q = leafV F N (k : Int) R (q : Int) := by
  unfold leafV
  rw [leafV_in hok (outP_in hq)]
  unfold leafO wysN
  rw [Int.toNat_natCast]
/-- leaves, or the first error -/
theorem rangeR_in {k f m : Nat} {R : Rf} (hok : trOk (k : Int) R) (hg : f + m ≤ 4 ^ k) :
    (∃ s, rangeR F N (k : Int) R (f : Int) (m : Int) = (some s, 0) ∧ ∀ j, j < m → (leafV F N (k : Int) R ((f + j : Nat) : Int)).2 = 0 ∧ s j = (leafV F N (k : Int) R ((f + j : Nat) : Int)).1) ∨
    (∃ er j1, rangeR F N (k : Int) R (f : Int) (m : Int) = (none, er) ∧ er ≠ 0 ∧ j1 < m ∧ (leafV F N (k : Int) R ((f + j1 : Nat) : Int)).2 = er ∧ ∀ j, j < j1 → (leafV F N (k : Int) R ((f + j : Nat) : Int)).2 = 0) := by
  have hgg : rgOk (k : Int) (f : Int) (m : Int) := by
    unfold rgOk
    rw [Int.toNat_natCast]
    omega
  have hr := rng_any (F := F) (N := N) f m k 0 R (fun _ _ => 0) fun q _ _ => rfl
  unfold RngP at hr
  simp only [Nat.zero_mul, Nat.zero_add] at hr
  unfold rangeR
  rw [if_pos hok, if_pos hgg, Int.toNat_natCast, Int.toNat_natCast, Int.toNat_natCast]
  obtain ⟨s, er, hw⟩ : ∃ s er, wlkR F N (stR F N f m) k (fun _ _ => 0) ((0 : Nat) : Int) R = (s, er) := ⟨_, _, rfl⟩
  rw [hw] at hr
  have hw0 : wlkR F N (stR F N f m) k (fun _ _ => 0) 0 R = (s, er) := hw
  rw [hw0]
  by_cases h0 : er = 0
  · refine .inl ⟨s, if_pos h0, fun j hj => ?_⟩
    obtain ⟨h1, h2, _⟩ := hr.1 h0
    have hin : inR f m (f + j) := by unfold inR; omega
    have h3 := h1 (f + j) (by omega) hin
    have h4 := h2 (f + j) (by omega) hin
    rw [leafO_leafV hok (by omega)] at h3 h4
    rw [show f + j - f = j by omega] at h4
    exact ⟨h3, h4⟩
  · obtain ⟨q, h1, h2, h3, h4⟩ := hr.2 h0
    unfold inR at h2
    refine .inr ⟨er, q - f, if_neg h0, h0, by omega, ?_, fun j hj => ?_⟩
    · rw [show f + (q - f) = q by omega, ← leafO_leafV hok h1]
      exact h3
    · rw [← leafO_leafV hok (by omega)]
      exact h4 (f + j) (by omega) (by unfold inR; omega)
end
end Go.Proofs.YtiofonffmplfmaaGreat

namespace Go.Proofs.YtiofonffmplfmaaGreat
open Go Go.RowKit
set_option linter.unusedSimpArgs false
set_option linter.unusedVariables false
theorem qu_zero : Tryz.prog.built 52 [] = some (va 256 (iv .u8 fun _ => 0)) := by kernel_rfl
theorem qu_build0 {P : Program} {ops : Array Oper} {rest : List Oper} {o : Oper} {a : Act} {w : World} {Q : Exit → Act → World → Prop} (hw : Region.wanted o (yielded ops a.tmps) = true) (t : TypeId) (ho : o.op = .build t #[])
    (cells : Array Value) (hf : P.built t [] = some cells) (h : wpList P ops Q rest (a.put o.dst (.agg cells)) w) : wpList P ops Q (o :: rest) a w :=
  wpList_step fun K hK => by
    rw [if_pos hw]
    have e : (Array.map (fun (x : Nat × Operand) => match x with | (i, x) => (i, a.eval x)) #[]).toList = [] := by simp
    refine wp_build t _ ho (by rw [e, hf]; rfl) ?_
    rw [e, hf]
    exact hK _ _ h
/-- one operation, what comes behind it hidden -/
theorem wpList_hide {P : Program} {ops : Array Oper} {rest : List Oper} {o : Oper} {a : Act} {w : World} {Q : Exit → Act → World → Prop} (hw : Region.wanted o (yielded ops a.tmps) = true) (h : ∀ (K : Act → World → Prop) (Q' : Exit → Act → World → Prop), (∀ a' w', wpList P ops Q rest a' w' → K a' w') → o.wp P a w K Q') : wpList P ops Q (o :: rest) a w :=
  wpList_step fun K hK => by
    rw [if_pos hw]
    exact h K Q hK
/-- a byte as a map's element -/
def byV (x : Nat) : Value := .int .u8 ((x : Nat) : Int)
/-- the list says the bytes of the first i fills -/
def QFs (c : Nat) (A : Nat → Int) (Y : Nat → Nat) (i : Nat) (L : List (Int × Nat)) : Prop := ∀ b, findIn b L = fillG c A Y i b
theorem QFs.zero (c : Nat) (A : Nat → Int) (Y : Nat → Nat) : QFs c A Y 0 [] := fun b => rfl
theorem QFs.step {c : Nat} {A : Nat → Int} {Y : Nat → Nat} {i : Nat} {L L' : List (Int × Nat)} (h : QFs c A Y i L) (h' : ∀ b, findIn b L' = if b = kyN c (A i) then some (Y i) else findIn b L) : QFs c A Y (i + 1) L' := fun b => by
  rw [h' b, h b]
  rfl
/-- a key and its byte -/
theorem QFs.key {c : Nat} (hc : 1 ≤ c) {A : Nat → Int} {Y : Nat → Nat} {i : Nat} {L : List (Int × Nat)} (h : QFs c A Y i L) (hn : (L.map (·.1)).Nodup) {x : Int} {v : Nat} (hx : (x, v) ∈ L) : (0 ≤ x ∧ x < (c : Int)) ∧ fillG c A Y i x = some v ∧ ∃ j, j < i ∧ v = Y j := by
  have h1 := findJ_of hn hx
  rw [h x] at h1
  obtain ⟨j, h2, h3, h4⟩ := fillG_some h1
  exact ⟨h3 ▸ kyN_in hc (A j), h1, j, h2, h4⟩
/-- there are no more keys than places -/
theorem QFs.len {c : Nat} (hc : 1 ≤ c) {A : Nat → Int} {Y : Nat → Nat} {i : Nat} {L : List (Int × Nat)} (h : QFs c A Y i L) (hn : (L.map (·.1)).Nodup) : L.length ≤ c := by
  have := hn.length_le_of_subset (l₂ := (List.range c).map fun (j : Nat) => ((j : Nat) : Int)) fun x hx => by
    obtain ⟨p, hp, rfl⟩ := List.mem_map.1 hx
    have h1 := (h.key hc hn (x := p.1) (v := p.2) hp).1
    exact List.mem_map.2 ⟨p.1.toNat, List.mem_range.2 (by omega), Int.toNat_of_nonneg h1.1⟩
  simpa using this
section
variable {F : Nat → Nat} {N k : Nat} {R : Rf} {G : Nat → Nat → Nat}
theorem Has.trOk (h : Has F N k R G) (hk : k ≤ 6) : trOk (k : Int) R := ⟨h.ok, by omega, by omega⟩
/-- the leaf that is read is the one that is there -/
theorem Has.leafAt (h : Has F N k R G) (hk : k ≤ 6) {q : Nat} (hq : q < 4 ^ k) : (leafV F N (k : Int) R (q : Int)).2 = 0 ∧ bkSame (leafV F N (k : Int) R (q : Int)).1 (G q) := by
  obtain ⟨h1, h2⟩ := h.fol hq rfl
  unfold leafV
  rw [leafV_in (h.trOk hk) (outP_in hq), Int.toNat_natCast, if_pos h1]
  rcases h2 with ⟨e1, e2⟩ | ⟨e1, e2, e3⟩
  · rw [e1, gotF_none9, gotE_none9]
    exact ⟨rfl, fun j hj => (e2 j hj).symm⟩
  · refine ⟨if_pos (.inr e2), fun j hj => ?_⟩
    show gotF F N _ j = _
    rw [show gotF F N _ = blkAt F _ from if_pos ⟨e1, e2⟩]
    exact e3 j hj
end
theorem zero_u8q (w : World) : (zeroValue 5).run Tryz.prog w = .ok (.int .u8 0) w := zero_of (by kernel_rfl) w
theorem lv_range1 {W : World} {lk : Nat} {s : Nat → Nat → Nat} (h : Blk W lk 52 (va (1 * 256) (lvV s))) : W.rangeAt lk 0 ((List.range 256).map (iv .u8 (s 0))) := fun i v hv => by
  have hi : i < 256 := by
    have := (List.getElem?_eq_some_iff.1 hv).1
    simpa using this
  rw [h.cell (0 + i), va_at (lvV s) (by omega), ← hv, List.getElem?_map, List.getElem?_range hi]
  unfold lvV
  rw [show (0 + i) / 256 = 0 by omega, show (0 + i) % 256 = i by omega]
  rfl
theorem TW.one {w w' : World} {B g N c m room i ib xt s1 : Nat} {F : Nat → Nat} {V : Nat → Prop} {h : Int} {R : Rf} (H : TW w B g N F c m room i V ib xt h R) (ht : Turns (fun z => z = s1) w w') (hV : ¬ V s1) (hib : ib ≠ s1) (hxt : xt ≠ s1) : TW w' B g N F c m room i V ib xt h R :=
  ⟨H.td.kept ht.size fun x hx => ht.block x (H.td.lt x hx).2 fun e => hV (e ▸ hx), H.img.keptBy ht.size (ht.block ib H.bib hib), ht.blk H.tr hxt, H.hib, H.hxt, Nat.lt_of_lt_of_le H.bib ht.size⟩
end Go.Proofs.YtiofonffmplfmaaGreat
