/- Trees: which trees are right; the way to a position; the reference at a position, and a leaf. -/
import Derived.Test.YtjhabngibbmpbaaGreatHCaGet
import Derived.Test.YtjhabngibbmpbaaGreatHJMap
import Derived.Test.YtjhabngibbmpbaaGreatHNdAwake
import Derived.Test.YtjhabngibbmpbaaGreatHNdRefDec
import Derived.Test.YtjhabngibbmpbaaGreatHNdTake
import Derived.Test.YtjhabngibbmpbaaGreatHSegsTree
import Derived.Deep.DeepCutAuto
import Derived.Deep.Cut
import Derived.Handy

namespace Go.Proofs.YtjhabngibbmpbaaGreat
open Go Go.RowKit
set_option linter.unusedSimpArgs false
set_option linter.unusedVariables false

theorem strN_bk {f g : Nat → Nat} (h : bkSame f g) : strN f 256 = strN g 256 := strN_congr h
theorem dgB_bk {f g : Nat → Nat} (h : bkSame f g) : dgB f = dgB g := by
  unfold dgB
  rw [strN_bk h]
theorem decK_bk {f g : Nat → Nat} (h : bkSame f g) : decK f = decK g := by
  funext i
  unfold decK rawK
  rw [strN_bk h]
theorem rdOk_bk {f g : Nat → Nat} (h : bkSame f g) : rdOk f = rdOk g := by
  have h4 : f 4 = g 4 := h 4 (by decide)
  have e : bkSame (nodeB (g 4) (decK g)) f ↔ bkSame (nodeB (g 4) (decK g)) g := ⟨fun q i hi => (q i hi).trans (h i hi), fun q i hi => (q i hi).trans (h i hi).symm⟩
  unfold rdOk
  rw [decK_bk h, h4, decide_eq_decide.2 e]
theorem blkAt_bk {X X' : Nat → Nat} {n a : Nat} (hx : ∀ x, x < n * 256 → X' x = X x) (ha : a < n) : bkSame (blkAt X' a) (blkAt X a) := fun j hj => hx _ (by omega)
theorem gotOk_ext {X X' : Nat → Nat} {n n' : Nat} {k : Rf} (hx : ∀ x, x < n * 256 → X' x = X x) (hn : n ≤ n') (h : gotOk X n k) : gotOk X' n' k := by
  obtain ⟨h1, h2, h3⟩ := h
  exact ⟨h1, by omega, (dgB_bk (blkAt_bk hx h2)).trans h3⟩
/-- what hangs beneath a reference of a level, in an image of n blocks X: G p is the leaf of the place p there -/
def Has (X : Nat → Nat) (n : Nat) : Nat → Rf → (Nat → Nat → Nat) → Prop
  | 0, r, G => (r = rf0 ∧ ∀ j, j < 256 → G 0 j = 0) ∨ (r ≠ rf0 ∧ gotOk X n r ∧ ∀ j, j < 256 → blkAt X r.1 j = G 0 j)
  | l + 1, r, G => (r = rf0 ∧ ∀ p, p < 4 ^ (l + 1) → ∀ j, j < 256 → G p j = 0) ∨ (r ≠ rf0 ∧ gotOk X n r ∧ rdOk (blkAt X r.1) = true ∧ blkAt X r.1 4 = l + 1 ∧ ∀ i, i < 4 → Has X n l (decK (blkAt X r.1) i) fun p => G (i * 4 ^ l + p))
theorem Has.ext {X X' : Nat → Nat} {n n' : Nat} (hx : ∀ x, x < n * 256 → X' x = X x) (hn : n ≤ n') : ∀ {l : Nat} {r : Rf} {G : Nat → Nat → Nat}, Has X n l r G → Has X' n' l r G
  | 0, r, G, h => by
    rcases h with h | ⟨h1, h2, h3⟩
    · exact .inl h
    · exact .inr ⟨h1, gotOk_ext hx hn h2, fun j hj => (blkAt_bk hx h2.2.1 j hj).trans (h3 j hj)⟩
  | l + 1, r, G, h => by
    rcases h with h | ⟨h1, h2, h3, h4, h5⟩
    · exact .inl h
    · have hb := blkAt_bk hx h2.2.1
      refine .inr ⟨h1, gotOk_ext hx hn h2, (rdOk_bk hb).trans h3, (hb 4 (by decide)).trans h4, fun i hi => ?_⟩
      rw [decK_bk hb]
      exact (h5 i hi).ext hx hn
theorem Has.congr {X : Nat → Nat} {n : Nat} : ∀ {l : Nat} {r : Rf} {G G' : Nat → Nat → Nat}, (∀ p, p < 4 ^ l → ∀ j, j < 256 → G p j = G' p j) → Has X n l r G → Has X n l r G'
  | 0, r, G, G', hg, h => by
    rcases h with ⟨h1, h2⟩ | ⟨h1, h2, h3⟩
    · exact .inl ⟨h1, fun j hj => (hg 0 (by decide) j hj).symm.trans (h2 j hj)⟩
    · exact .inr ⟨h1, h2, fun j hj => (h3 j hj).trans (hg 0 (by decide) j hj)⟩
  | l + 1, r, G, G', hg, h => by
    rcases h with ⟨h1, h2⟩ | ⟨h1, h2, h3, h4, h5⟩
    · exact .inl ⟨h1, fun p hp j hj => (hg p hp j hj).symm.trans (h2 p hp j hj)⟩
    · refine .inr ⟨h1, h2, h3, h4, fun i hi => (h5 i hi).congr fun p hp j hj => hg _ ?_ j hj⟩
      rw [Nat.pow_succ]
      have : i * 4 ^ l ≤ 3 * 4 ^ l := Nat.mul_le_mul_right _ (by omega)
      omega
theorem Has.none {X : Nat → Nat} {n l : Nat} {G : Nat → Nat → Nat} (h : ∀ p, p < 4 ^ l → ∀ j, j < 256 → G p j = 0) : Has X n l rf0 G := by
  cases l with
  | zero => exact .inl ⟨rfl, h 0 (by decide)⟩
  | succ l => exact .inl ⟨rfl, h⟩
theorem Has.zero {X : Nat → Nat} {n l : Nat} {G : Nat → Nat → Nat} (h : Has X n l rf0 G) : ∀ p, p < 4 ^ l → ∀ j, j < 256 → G p j = 0 := by
  cases l with
  | zero =>
    rcases h with ⟨_, h⟩ | ⟨h, _⟩
    · intro p hp
      obtain rfl : p = 0 := by simpa using hp
      exact h
    · exact absurd rfl h
  | succ l =>
    rcases h with ⟨_, h⟩ | ⟨h, _⟩
    · exact h
    · exact absurd rfl h
theorem Has.ok {X : Nat → Nat} {n l : Nat} {r : Rf} {G : Nat → Nat → Nat} (h : Has X n l r G) : rOk r = true := by
  have : r = rf0 ∨ r.1 ≠ 0 := by
    cases l with
    | zero =>
      rcases h with h | h
      · exact .inl h.1
      · exact .inr h.2.1.1
    | succ l =>
      rcases h with h | h
      · exact .inl h.1
      · exact .inr h.2.1.1
  unfold rOk
  rcases this with h | h
  · simp [h]
  · simp [h]
theorem apX_old (X : Nat → Nat) (n : Nat) (f : Nat → Nat) : ∀ x, x < n * 256 → apX X n f x = X x := fun x hx => if_pos hx
theorem apX_new (X : Nat → Nat) (n : Nat) (f : Nat → Nat) : bkSame (blkAt (apX X n f) n) f := fun j hj => by
  show (if n * 256 + j < n * 256 then _ else f (n * 256 + j - n * 256)) = f j
  rw [if_neg (by omega), show n * 256 + j - n * 256 = j by omega]
theorem ref_new {n : Nat} {f : Nat → Nat} (hn : 1 ≤ n) : ((n, dgB f) : Rf) ≠ rf0 := fun e => by
  have := congrArg Prod.fst e
  simp [rf0] at this
  omega
theorem gotOk_new (X : Nat → Nat) {n : Nat} (f : Nat → Nat) (hn : 1 ≤ n) : gotOk (apX X n f) (n + 1) (n, dgB f) := ⟨by show n ≠ 0; omega, by show n < n + 1; omega, dgB_bk (apX_new X n f)⟩
theorem putR_ext {X X' : Nat → Nat} {n n' : Nat} {f : Nat → Nat} {r : Rf} (h : PutR X n f X' n' r) : n ≤ n' ∧ n' ≤ n + 1 ∧ ∀ x, x < n * 256 → X' x = X x := by
  rcases h with ⟨_, rfl, rfl, rfl⟩ | ⟨_, rfl, rfl, rfl⟩
  · exact ⟨Nat.le_refl _, Nat.le_succ _, fun x _ => rfl⟩
  · exact ⟨Nat.le_succ _, Nat.le_refl _, apX_old X n f⟩
/-- a leaf that was put -/
theorem Has.leaf {X X' : Nat → Nat} {n n' : Nat} {f : Nat → Nat} {r : Rf} {G : Nat → Nat → Nat} (hn : 1 ≤ n) (h : PutR X n f X' n' r) (hG : ∀ j, j < 256 → G 0 j = f j) : Has X' n' 0 r G := by
  rcases h with ⟨h1, rfl, rfl, rfl⟩ | ⟨h1, rfl, rfl, rfl⟩
  · exact .inl ⟨rfl, fun j hj => (hG j hj).trans (h1 j hj)⟩
  · exact .inr ⟨ref_new hn, gotOk_new X f hn, fun j hj => (apX_new X n f j hj).trans (hG j hj).symm⟩
theorem nodeB_some (l : Nat) (K : Nat → Rf) : ¬ bkSame (nodeB l K) fun _ => 0 := fun h => by
  have := h 0 (by decide)
  simp [nodeB] at this
/-- a node that was put -/
theorem Has.node {X X' : Nat → Nat} {n n' l : Nat} {r : Rf} {K : Nat → Rf} {G : Nat → Nat → Nat} (hn : 1 ≤ n) (hl : l + 1 ≤ 6) (hK : ∀ i, i < 4 → okD (K i).2) (hK1 : ∀ i, i < 4 → (K i).1 < 4294967296) (hH : ∀ i, i < 4 → Has X n l (K i) fun p => G (i * 4 ^ l + p)) (h : PutR X n (nodeB (l + 1) K) X' n' r) : Has X' n' (l + 1) r G := by
  have hok : ndOk ((l + 1 : Nat) : Int) K = true := by
    unfold ndOk
    simp only [Bool.and_eq_true, decide_eq_true_eq, List.all_eq_true, List.mem_range]
    exact ⟨⟨by omega, by omega⟩, fun i hi => (hH i hi).ok⟩
  rcases h with ⟨h1, rfl, rfl, rfl⟩ | ⟨h1, rfl, rfl, rfl⟩
  · exact absurd h1 (nodeB_some _ _)
  · have hb := apX_new X n (nodeB (l + 1) K)
    refine .inr ⟨ref_new hn, gotOk_new X _ hn, rdOk_of (l + 1) K hok hK hK1 _ hb, (hb 4 (by decide)).trans rfl, fun i hi => ?_⟩
    rw [decK_of (l + 1) K hok hK hK1 _ hb i hi]
    exact (hH i hi).ext (apX_old X n _) (Nat.le_succ _)
theorem ndOk_has {X : Nat → Nat} {n l : Nat} {K : Nat → Rf} {G : Nat → Nat → Nat → Nat} (hl : l + 1 ≤ 6) (hH : ∀ i, i < 4 → Has X n l (K i) (G i)) : ndOk ((l + 1 : Nat) : Int) K = true := by
  unfold ndOk
  simp only [Bool.and_eq_true, decide_eq_true_eq, List.all_eq_true, List.mem_range]
  exact ⟨⟨by omega, by omega⟩, fun i hi => (hH i hi).ok⟩
/-- the leaf of a place, by a list of keys and leaves -/
def gJ (L : List (Int × (Nat → Nat))) (a : Int) : Nat → Nat := (findIn a L).getD fun _ => 0
def lfV (f : Nat → Nat) : Value := .agg (va 256 (iv .u8 f))
/-- leaves by their places: a list told once -/
structure LvOk (L : List (Int × (Nat → Nat))) : Prop where
  key : ∀ a ∈ L, 0 ≤ a.1 ∧ a.1 ≤ 9223372036854775807
  byte : ∀ a ∈ L, ∀ j, a.2 j < 256
theorem findJ_mem {β : Type} {a : Int} {v : β} : ∀ {l : List (Int × β)}, findIn a l = some v → (a, v) ∈ l
  | [], h => by cases h
  | p :: l, h => by
    unfold findIn at h
    by_cases hq : a = p.1
    · rw [if_pos hq] at h
      cases h
      rw [hq]
      simp
    · rw [if_neg hq] at h
      exact List.mem_cons_of_mem _ (findJ_mem h)
theorem gJ_byte {L : List (Int × (Nat → Nat))} (h : LvOk L) (a : Int) (j : Nat) : gJ L a j < 256 := by
  unfold gJ
  cases hf : findIn a L with
  | none => exact Nat.zero_lt_succ _
  | some f => exact h.byte _ (findJ_mem hf) j
theorem gJ_none {L : List (Int × (Nat → Nat))} {a : Int} (h : a ∉ L.map (·.1)) : gJ L a = fun _ => 0 := by
  unfold gJ
  cases hf : findIn a L with
  | none => rfl
  | some f => exact absurd (List.mem_map.2 ⟨_, findJ_mem hf, rfl⟩) h
/-- a look-up tells the leaf -/
theorem JM.leaf {P : Program} {mt kt et : TypeId} (hm : P.underlying mt = some (.map kt et)) (hk : P.underlying kt = some (.int .i64)) (hz : ∀ w, (zeroValue et).run P w = .ok (lfV fun _ => 0) w) {w : World} {m : Nat} {L : List (Int × (Nat → Nat))} (h : JM lfV w m L) (a : Int) :
    (Instr.lookup mt (.map (some m)) (.int .i64 a) false).run P w = .ok (lfV (gJ L a)) w := by
  have := intMap_look (V := lfV) hm hk hz h.is a false
  rw [if_neg (by decide)] at this
  rw [this]
  unfold gJ
  cases findIn a L <;> rfl
end Go.Proofs.YtjhabngibbmpbaaGreat

namespace Go.Proofs.YtjhabngibbmpbaaGreat
open Go Go.RowKit
set_option linter.unusedSimpArgs false
set_option linter.unusedVariables false

/-- its cells: height, leaves, places, turn, cached -/
def woC (h : Int) (a : Option Addr) (n c : Nat) (ab : Option Addr) (nb cb : Nat) (tu ca : Int) : Array Value := #[.int .i64 h, .slice a n c, .slice ab nb cb, .int .i64 tu, .int .i64 ca]
/-- a slice of fills -/
def IsFl (w : World) (a : Option Addr) (n : Nat) (A : Nat → Int) (Y : Nat → Nat) : Prop := ∀ i, i < n → ∃ b o, a = some ⟨b, o, none⟩ ∧ b < w.heap.size ∧ w.cell? ⟨b, o + i * 2, none⟩ = some (.int .i64 (A i)) ∧ w.cell? ⟨b, o + i * 2 + 1, none⟩ = some (.int .u8 ((Y i : Nat) : Int)) ∧ Y i < 256 ∧ (-9223372036854775808 ≤ A i ∧ A i ≤ 9223372036854775807)
/-- a slice of integers -/
def IsIn (w : World) (a : Option Addr) (n : Nat) (A : Nat → Int) : Prop := ∀ i, i < n → ∃ b o, a = some ⟨b, o, none⟩ ∧ b < w.heap.size ∧ w.cell? ⟨b, o + i, none⟩ = some (.int .i64 (A i)) ∧ (-9223372036854775808 ≤ A i ∧ A i ≤ 9223372036854775807)
theorem IsFl.below {w w' : World} {a : Option Addr} {n : Nat} {A : Nat → Int} {Y : Nat → Nat} (h : IsFl w a n A Y) (hb : Below w.heap.size w w') : IsFl w' a n A Y := fun i hi => by
  obtain ⟨b, o, h1, h2, h3, h4, h5⟩ := h i hi
  exact ⟨b, o, h1, Nat.lt_of_lt_of_le h2 hb.size, by rw [hb.cell (p := ⟨b, o + i * 2, none⟩) h2]; exact h3, by rw [hb.cell (p := ⟨b, o + i * 2 + 1, none⟩) h2]; exact h4, h5⟩
theorem IsIn.below {w w' : World} {a : Option Addr} {n : Nat} {A : Nat → Int} (h : IsIn w a n A) (hb : Below w.heap.size w w') : IsIn w' a n A := fun i hi => by
  obtain ⟨b, o, h1, h2, h3, h4⟩ := h i hi
  exact ⟨b, o, h1, Nat.lt_of_lt_of_le h2 hb.size, by rw [hb.cell (p := ⟨b, o + i, none⟩) h2]; exact h3, h4⟩
/-- what a caller's world is -/
structure Wo (w : World) (h : Int) (a : Option Addr) (n : Nat) (ab : Option Addr) (nb : Nat) (tu ca : Int) (A : Nat → Int) (Y : Nat → Nat) (Z : Nat → Int) : Prop where
  hn : n ≤ 9223372036854775807
  hnb : nb ≤ 9223372036854775807
  fl : IsFl w a n A Y
  bad : IsIn w ab nb Z
  ht : -9223372036854775808 ≤ h ∧ h ≤ 9223372036854775807
  htu : -9223372036854775808 ≤ tu ∧ tu ≤ 9223372036854775807
  hca : -9223372036854775808 ≤ ca ∧ ca ≤ 9223372036854775807
theorem Wo.below {w w' : World} {h : Int} {a : Option Addr} {n : Nat} {ab : Option Addr} {nb : Nat} {tu ca : Int} {A : Nat → Int} {Y : Nat → Nat} {Z : Nat → Int} (H : Wo w h a n ab nb tu ca A Y Z) (hb : Below w.heap.size w w') : Wo w' h a n ab nb tu ca A Y Z := ⟨H.hn, H.hnb, H.fl.below hb, H.bad.below hb, H.ht, H.htu, H.hca⟩
end Go.Proofs.YtjhabngibbmpbaaGreat

namespace Go.Proofs.YtjhabngibbmpbaaGreat
open Go Go.RowKit
set_option linter.unusedSimpArgs false
set_option linter.unusedVariables false

theorem tmod_in {c : Nat} (hc : 1 ≤ c) (a : Int) : -(c : Int) < a.tmod (c : Int) ∧ a.tmod (c : Int) < (c : Int) := by
  refine ⟨?_, Int.tmod_lt_of_pos _ (by omega)⟩
  by_cases h : 0 ≤ a
  · have := Int.tmod_nonneg (c : Int) h
    omega
  · have h1 := Int.tmod_lt_of_pos (-a) (b := (c : Int)) (by omega)
    rw [Int.neg_tmod] at h1
    omega
/-- a number brought below c -/
def kyN (c : Nat) (a : Int) : Int := (a.tmod (c : Int) + (c : Int)).tmod (c : Int)
theorem kyN_in {c : Nat} (hc : 1 ≤ c) (a : Int) : 0 ≤ kyN c a ∧ kyN c a < (c : Int) := by
  have h1 := (tmod_in hc a).1
  unfold kyN
  exact ⟨Int.tmod_nonneg _ (by omega), Int.tmod_lt_of_pos _ (by omega)⟩
/-- the byte of the last of the first i fills whose key is b -/
def fillG (c : Nat) (A : Nat → Int) (Y : Nat → Nat) : Nat → Int → Option Nat
  | 0, _ => none
  | i + 1, b => if b = kyN c (A i) then some (Y i) else fillG c A Y i b
theorem fillG_some {c : Nat} {A : Nat → Int} {Y : Nat → Nat} {b : Int} {x : Nat} : ∀ {i : Nat}, fillG c A Y i b = some x → ∃ j, j < i ∧ b = kyN c (A j) ∧ x = Y j
  | 0, h => by cases h
  | i + 1, h => by
    unfold fillG at h
    by_cases hb : b = kyN c (A i)
    · rw [if_pos hb] at h
      injection h with h
      exact ⟨i, Nat.lt_succ_self _, hb, h.symm⟩
    · rw [if_neg hb] at h
      obtain ⟨j, h1, h2⟩ := fillG_some h
      exact ⟨j, Nat.lt_succ_of_lt h1, h2⟩
/-- the list says the first i fills -/
def LvFs (c : Nat) (A : Nat → Int) (Y : Nat → Nat) (i : Nat) (L : List (Int × (Nat → Nat))) : Prop := ∀ b, findIn b L = (fillG c A Y i b).map fun x => (fun _ => x : Nat → Nat)
theorem LvFs.zero (c : Nat) (A : Nat → Int) (Y : Nat → Nat) : LvFs c A Y 0 [] := fun b => rfl
theorem LvFs.step {c : Nat} {A : Nat → Int} {Y : Nat → Nat} {i : Nat} {L L' : List (Int × (Nat → Nat))} (h : LvFs c A Y i L) (h' : ∀ b, findIn b L' = if b = kyN c (A i) then some (fun _ => Y i) else findIn b L) : LvFs c A Y (i + 1) L' := fun b => by
  rw [h' b, h b]
  show _ = Option.map _ (if _ then _ else _)
  split <;> rfl
theorem LvFs.ok {c : Nat} (hc : 1 ≤ c) (hc2 : c ≤ 4096) {A : Nat → Int} {Y : Nat → Nat} {i : Nat} {L : List (Int × (Nat → Nat))} (h : LvFs c A Y i L) (hn : (L.map (·.1)).Nodup) (hY : ∀ j, j < i → Y j < 256) : LvOk L := by
  have key : ∀ a ∈ L, ∃ x, fillG c A Y i a.1 = some x ∧ a.2 = fun _ => x := fun a ha => by
    have h1 := findJ_of (a := a.1) (v := a.2) hn ha
    rw [h a.1] at h1
    cases hf : fillG c A Y i a.1 with
    | none => rw [hf] at h1; cases h1
    | some x =>
      rw [hf] at h1
      injection h1 with h1
      exact ⟨x, rfl, h1.symm⟩
  constructor
  · intro a ha
    obtain ⟨x, h1, _⟩ := key a ha
    obtain ⟨j, _, h2, _⟩ := fillG_some h1
    rw [h2]
    have := kyN_in hc (A j)
    omega
  · intro a ha k
    obtain ⟨x, h1, h2⟩ := key a ha
    obtain ⟨j, h3, _, h4⟩ := fillG_some h1
    rw [h2, h4]
    exact hY j h3
theorem LvFs.leaf {c : Nat} {A : Nat → Int} {Y : Nat → Nat} {i : Nat} {L : List (Int × (Nat → Nat))} (h : LvFs c A Y i L) (b : Int) : gJ L b = fun _ => (fillG c A Y i b).getD 0 := by
  unfold gJ
  rw [h b]
  cases fillG c A Y i b <;> rfl
end Go.Proofs.YtjhabngibbmpbaaGreat

namespace Go.Proofs.YtjhabngibbmpbaaGreat
open Go Go.RowKit
set_option linter.unusedSimpArgs false
set_option linter.unusedVariables false

theorem size256 : (Tryz.prog.info? 37).map (·.size) = some 256 := by kernel_rfl
set_option maxRecDepth 100000 in
set_option maxHeartbeats 4000000 in
theorem filled9_any (x : Nat) (w : World) : Calls Tryz.prog 30 #[.int .u8 (x : Int)] w fun e w' => e = .returned (.agg (va 256 (iv .u8 fun _ => x))) ∧ Below w.heap.size w w' := by
  have hz := zero_256
  have r0 : Blk ((w.alloc (.cells (va 256 (iv .u8 fun _ => 0)) 37)).alloc (.cells (va 256 (iv .u8 fun _ => 0)) 37)) w.heap.size 37 (va 256 (iv .u8 fun _ => 0)) := (Blk.new _ _ _).alloc _
  have r1 : Blk ((w.alloc (.cells (va 256 (iv .u8 fun _ => 0)) 37)).alloc (.cells (va 256 (iv .u8 fun _ => 0)) 37)) (w.heap.size + 1) 37 (va 256 (iv .u8 fun _ => 0)) := Blk.new1 _ _ _ _
  have hb0 : Below w.heap.size w ((w.alloc (.cells (va 256 (iv .u8 fun _ => 0)) 37)).alloc (.cells (va 256 (iv .u8 fun _ => 0)) 37)) := below_new2 _ _ _
  go_enter Tryz.func30, Tryz.ntmps30
  go_wp2_with (first
    | (refine wpList_store_row (by rfl) 37 _ _ (by rfl) (w.heap.size + 1) (va 256 (iv .u8 (fun _ => 0))) (by rfl) (by rfl) 37 _ r1 (size256.trans (by rw [va_size])) (by simp only [va_size]) (iv_one _ _ _) ?_; simp only [Act.put, List.setIfInBounds_toArray, List.set_cons_zero, List.set_cons_succ])
    | fail)
  go_loopw [4] (fun t wr => ∃ k : Nat, k ≤ 256 ∧ t = .int .i64 (k : Int) ∧ Blk wr w.heap.size 37 (va 256 (iv .u8 fun _ => 0)) ∧ Blk wr (w.heap.size + 1) 37 (va 256 (iv .u8 (fupN k (fun _ => x) fun _ => 0))) ∧ Below w.heap.size w wr) (fun t _ => 256 - (intOf t).toNat)
  case atStart =>
    refine ⟨0, by decide, rfl, r0.other _ (by omega), ?_, below_setRow hb0 (by omega) _⟩
    rw [fup_zero]
    exact r1.set _
  case round =>
    obtain ⟨k, hk, rfl, q0, q1, hb⟩ := hrel
    clear r0 r1 hb0
    by_cases hlt : k < 256
    · have c0 := q1.cv (i := k) hlt
      have f0 := q1.frozen k
      have k0 : (0 : Int) ≤ (k : Int) := by omega
      have k1 : (k : Int) < 256 := by omega
      have q2 : Blk (wr.setCell ⟨w.heap.size + 1, k, none⟩ (.int .u8 (x : Int))) (w.heap.size + 1) 37 (va 256 (iv .u8 (fupN (k + 1) (fun _ => x) fun _ => 0))) := by
        have := q1.put k (.int .u8 (x : Int))
        rw [va_set] at this
        have e := fup_step .u8 256 k (fun _ => x) (fun _ => 0)
        rw [e] at this
        exact this
      have q3 : Blk (wr.setCell ⟨w.heap.size + 1, k, none⟩ (.int .u8 (x : Int))) w.heap.size 37 (va 256 (iv .u8 fun _ => 0)) := q0.put_other _ _ (by omega)
      have hb2 : Below w.heap.size w (wr.setCell ⟨w.heap.size + 1, k, none⟩ (.int .u8 (x : Int))) := hb.setCell (p := ⟨w.heap.size + 1, k, none⟩) (Nat.le_succ _) _
      go_wp2_with fail
      refine ⟨⟨k + 1, by omega, by simp, q3, q2, hb2⟩, ?_⟩
      simp [intOf]
      omega
    · obtain rfl : k = 256 := by omega
      rw [fup_all _ _ _ _ _ (Nat.le_refl _)] at q1
      go_wp2_with (first
        | (refine wpList_load_row (by rfl) 37 _ (by rfl) (w.heap.size + 1) (by rfl) 37 (va 256 (iv .u8 (fun _ => x))) (0, 0) _ q1 Tryz.underlying37 (by rfl) (size256.trans (by rw [va_size])) ?_; simp only [Act.put, List.setIfInBounds_toArray, List.set_cons_zero, List.set_cons_succ])
        | (refine wpList_store_row (by rfl) 37 _ _ (by rfl) (w.heap.size) (va 256 (iv .u8 (fun _ => x))) (by rfl) (by rfl) 37 _ q0 (size256.trans (by rw [va_size])) (by simp only [va_size]) (iv_one _ _ _) ?_; simp only [Act.put, List.setIfInBounds_toArray, List.set_cons_zero, List.set_cons_succ])
        | fail)
      try simp only [Exit.inBlock, Exit.then]
      refine bodyPost_ret (results_cell_row Tryz.results30 _ _ w.heap.size 37 (va 256 (iv .u8 fun _ => x)) (0, 0) _ rfl (q0.set _) Tryz.underlying37 rfl (size256.trans (by rw [va_size]))) rfl ?_
      exact ⟨rfl, below_setRow hb (Nat.le_refl _) _⟩
end Go.Proofs.YtjhabngibbmpbaaGreat

namespace Go.Proofs.YtjhabngibbmpbaaGreat
open Go Go.RowKit
set_option linter.unusedSimpArgs false
set_option linter.unusedVariables false

/-- may a tree be? -/
def trOk (h : Int) (R : Rf) : Prop := rOk R = true ∧ 0 ≤ h ∧ h ≤ 6
instance (h : Int) (R : Rf) : Decidable (trOk h R) := by unfold trOk; infer_instance
set_option maxRecDepth 100000 in
set_option maxHeartbeats 4000000 in
theorem right_ref (h : Int) (R : Rf) (hR : R.1 < 4294967296) (hD : okD R.2) (hok : rOk R = true) (y : Bool) (hy : ∀ w, Calls Tryz.prog 68 #[.int .i64 h] w fun e w1 => e = .returned (.bool y) ∧ w = w1) (w : World) : Calls Tryz.prog 51 #[.agg (trC h R)] w fun x w' => x = .returned (.bool y) ∧ Below w.heap.size w w' := by
  have hz := zero_ref
  have hEn : Hid (∀ w, Calls Tryz.prog 78 #[.agg (rfC R)] w fun e w' => e = .returned (.string (strN (encR R) 36)) ∧ Below w.heap.size w w') := encR_any R hD
  have hDe : Hid (∀ w, Calls Tryz.prog 77 #[.string (strN (encR R) 36), .int .i64 0] w fun e w' => e = .returned (.tuple #[.agg (rfC R), .bool true]) ∧ Below w.heap.size w w') := fun w => by
    have h1 := decodeR_good (strN (encR R) 36) 0 (by rw [strN_size]; unfold maxLen; decide) (by rw [strN_size]; decide) w
    rw [decR_of (strN (encR R) 36) 0 R hR (fun j hj => by rw [Nat.zero_add]; exact strN_at (encR R) 36 j hj (encR_lt R hD j hj))] at h1
    simp only [hok, if_true, Bool.false_eq_true, if_false] at h1
    exact h1
  have hsz : (strN (encR R) 36).size = 36 := strN_size _ _
  have hb1 : Below w.heap.size w (w.alloc (.cells (trC h R) 46)) := below_new1 _ _
  have t1 : Blk (w.alloc (.cells (trC h R) 46)) w.heap.size 46 (trC h R) := Blk.new _ _ _
  have HR1 : Hid ((w.alloc (.cells (trC h R) 46)).rangeAt w.heap.size 1 ((List.range 33).map (rfF R.1 R.2))) := tr_range t1
  clear hok hD hR
  generalize strN (encR R) 36 = sv at *
  go_enter Tryz.func51, Tryz.ntmps51
  go_wp2_with (first
    | (refine wpList_load_blk (by rfl) 44 _ (by rfl) (w.heap.size) (1) 33 (rfF R.1 R.2) (by rfl) _ (by exact HR1.out) Tryz.underlying44 rfl tsizeRef ?_; simp only [Act.put, List.setIfInBounds_toArray, List.set_cons_zero, List.set_cons_succ])
    | fail)
  generalize (w.alloc (.cells (trC h R) 46)) = w1 at *
  refine (hEn.out w1).mono ?_
  rintro x w2 ⟨rfl, hb2⟩
  have t2 := t1.below hb2 t1.lt
  have hb12 : Below w.heap.size w w2 := hb1.trans (hb2.mono hb1.size)
  clear HR1 hb2 t1 hb1
  go_wp2_with fail
  refine (hDe.out w2).mono ?_
  rintro x w3 ⟨rfl, hb3⟩
  have t3 := t2.below hb3 t2.lt
  have hb13 : Below w.heap.size w w3 := hb12.trans (hb3.mono hb12.size)
  have q0 := Blk.new w3 44 (rfC rf0)
  have hb4 : Below w3.heap.size w3 ((w3.alloc (.cells (rfC rf0) 44)).setRow w3.heap.size (rfC R)) := below_setRow (below_new1 _ _) (Nat.le_refl _) _
  have t4 := t3.below hb4 t3.lt
  have z4 : ((w3.alloc (.cells (rfC rf0) 44)).setRow w3.heap.size (rfC R)).cell? ⟨w.heap.size, 0, none⟩ = some (.int .i64 h) := (t4.cell 0).trans (va_at (trF h R) (by decide))
  have hb14 : Below w.heap.size w ((w3.alloc (.cells (rfC rf0) 44)).setRow w3.heap.size (rfC R)) := hb13.trans (hb4.mono hb13.size)
  clear hb4 hb13 hb12 hb3 t2 t3 t4
  go_wp2_with (first
    | (refine wpList_store_row (by rfl) 44 _ _ (by rfl) (w3.heap.size) (rfC R) (by rfl) (by rfl) 44 (_) (by exact q0) (tsizeRef.trans (by rw [rfC_size])) (by simp only [rfC_size]) (rfC_all _) ?_; simp only [Act.put, List.setIfInBounds_toArray, List.set_cons_zero, List.set_cons_succ])
    | fail)
  clear q0
  generalize ((w3.alloc (.cells (rfC rf0) 44)).setRow w3.heap.size (rfC R)) = w4 at *
  refine (hy w4).mono ?_
  rintro x _ ⟨rfl, rfl⟩
  go_wp2_with fail
  go_ret
  exact ⟨rfl, hb14⟩
set_option maxRecDepth 100000 in
set_option maxHeartbeats 4000000 in
theorem right_noref (h : Int) (R : Rf) (hR : R.1 < 4294967296) (hD : okD R.2) (hok : rOk R = false) (w : World) : Calls Tryz.prog 51 #[.agg (trC h R)] w fun x w' => x = .returned (.bool false) ∧ Below w.heap.size w w' := by
  have hz := zero_ref
  have hEn : Hid (∀ w, Calls Tryz.prog 78 #[.agg (rfC R)] w fun e w' => e = .returned (.string (strN (encR R) 36)) ∧ Below w.heap.size w w') := encR_any R hD
  have hDe : Hid (∀ w, Calls Tryz.prog 77 #[.string (strN (encR R) 36), .int .i64 0] w fun e w' => e = .returned (.tuple #[.agg (rfC rf0), .bool false]) ∧ Below w.heap.size w w') := fun w => by
    have h1 := decodeR_good (strN (encR R) 36) 0 (by rw [strN_size]; unfold maxLen; decide) (by rw [strN_size]; decide) w
    rw [decR_of (strN (encR R) 36) 0 R hR (fun j hj => by rw [Nat.zero_add]; exact strN_at (encR R) 36 j hj (encR_lt R hD j hj))] at h1
    simp only [hok, if_true, Bool.false_eq_true, if_false] at h1
    exact h1
  have hsz : (strN (encR R) 36).size = 36 := strN_size _ _
  have hb1 : Below w.heap.size w (w.alloc (.cells (trC h R) 46)) := below_new1 _ _
  have t1 : Blk (w.alloc (.cells (trC h R) 46)) w.heap.size 46 (trC h R) := Blk.new _ _ _
  have HR1 : Hid ((w.alloc (.cells (trC h R) 46)).rangeAt w.heap.size 1 ((List.range 33).map (rfF R.1 R.2))) := tr_range t1
  clear hok hD hR
  generalize strN (encR R) 36 = sv at *
  go_enter Tryz.func51, Tryz.ntmps51
  go_wp2_with (first
    | (refine wpList_load_blk (by rfl) 44 _ (by rfl) (w.heap.size) (1) 33 (rfF R.1 R.2) (by rfl) _ (by exact HR1.out) Tryz.underlying44 rfl tsizeRef ?_; simp only [Act.put, List.setIfInBounds_toArray, List.set_cons_zero, List.set_cons_succ])
    | fail)
  generalize (w.alloc (.cells (trC h R) 46)) = w1 at *
  refine (hEn.out w1).mono ?_
  rintro x w2 ⟨rfl, hb2⟩
  have t2 := t1.below hb2 t1.lt
  have hb12 : Below w.heap.size w w2 := hb1.trans (hb2.mono hb1.size)
  clear HR1 hb2 t1 hb1
  go_wp2_with fail
  refine (hDe.out w2).mono ?_
  rintro x w3 ⟨rfl, hb3⟩
  have t3 := t2.below hb3 t2.lt
  have hb13 : Below w.heap.size w w3 := hb12.trans (hb3.mono hb12.size)
  have q0 := Blk.new w3 44 (rfC rf0)
  have hb4 : Below w3.heap.size w3 ((w3.alloc (.cells (rfC rf0) 44)).setRow w3.heap.size (rfC rf0)) := below_setRow (below_new1 _ _) (Nat.le_refl _) _
  have t4 := t3.below hb4 t3.lt
  have z4 : ((w3.alloc (.cells (rfC rf0) 44)).setRow w3.heap.size (rfC rf0)).cell? ⟨w.heap.size, 0, none⟩ = some (.int .i64 h) := (t4.cell 0).trans (va_at (trF h R) (by decide))
  have hb14 : Below w.heap.size w ((w3.alloc (.cells (rfC rf0) 44)).setRow w3.heap.size (rfC rf0)) := hb13.trans (hb4.mono hb13.size)
  clear hb4 hb13 hb12 hb3 t2 t3 t4
  go_wp2_with (first
    | (refine wpList_store_row (by rfl) 44 _ _ (by rfl) (w3.heap.size) (rfC rf0) (by rfl) (by rfl) 44 (_) (by exact q0) (tsizeRef.trans (by rw [rfC_size])) (by simp only [rfC_size]) (rfC_all _) ?_; simp only [Act.put, List.setIfInBounds_toArray, List.set_cons_zero, List.set_cons_succ])
    | fail)
  go_ret
  exact ⟨rfl, hb14⟩
theorem tright_any (h : Int) (R : Rf) (hR : R.1 < 4294967296) (hD : okD R.2) (w : World) : Calls Tryz.prog 51 #[.agg (trC h R)] w fun x w' => x = .returned (.bool (decide (trOk h R))) ∧ Below w.heap.size w w' := by
  cases hok : rOk R with
  | false =>
    rw [decide_eq_false (fun u : trOk h R => by rw [u.1] at hok; cases hok)]
    exact right_noref h R hR hD hok w
  | true =>
    by_cases hh : 0 ≤ h ∧ h ≤ 6
    · rw [decide_eq_true (show trOk h R from ⟨hok, hh⟩)]
      obtain ⟨n, rfl⟩ : ∃ n : Nat, h = (n : Int) := ⟨h.toNat, by omega⟩
      exact right_ref _ R hR hD hok true (fun w => mayBe_yes n (by omega) w) w
    · rw [decide_eq_false (fun u : trOk h R => hh u.2)]
      exact right_ref h R hR hD hok false (fun w => mayBe_no h (by omega) w) w
set_option maxRecDepth 100000 in
set_option maxHeartbeats 4000000 in
theorem wayTo_arg (h : Int) (R : Rf) (hR : R.1 < 4294967296) (hD : okD R.2) (hok : ¬ trOk h R) (l p : Int) (w : World) : Calls Tryz.prog 42 #[.agg (trC h R), .int .i64 l, .int .i64 p] w fun x w' => x = .returned (.tuple #[.slice none 0 0, .int .i64 1]) ∧ Below w.heap.size w w' := by
  have hRi : Hid (∀ w, Calls Tryz.prog 51 #[.agg (trC h R)] w fun x w' => x = .returned (.bool false) ∧ Below w.heap.size w w') := fun w => by
    have := tright_any h R hR hD w
    rw [decide_eq_false hok] at this
    exact this
  have hb1 : Below w.heap.size w (w.alloc (.cells (trC h R) 46)) := below_new1 _ _
  have t1 : Blk (w.alloc (.cells (trC h R) 46)) w.heap.size 46 (trC h R) := Blk.new _ _ _
  go_enter Tryz.func42, Tryz.ntmps42
  go_wp2_with (first
    | (refine wpList_load_rowg (by rfl) 46 _ (by rfl) (w.heap.size) (by rfl) 46 (trC h R) (0, 0) _ (by exact t1) Tryz.underlying46 (by rfl) (sizeTr.trans (by rw [trC_size])) ?_; simp only [Act.put, List.setIfInBounds_toArray, List.set_cons_zero, List.set_cons_succ])
    | fail)
  generalize (w.alloc (.cells (trC h R) 46)) = w1 at *
  refine (hRi.out w1).mono ?_
  rintro x w2 ⟨rfl, hb2⟩
  have t2 := t1.below hb2 t1.lt
  have z2 : w2.cell? ⟨w.heap.size, 0, none⟩ = some (.int .i64 h) := (t2.cell 0).trans (va_at (trF h R) (by decide))
  have hb12 : Below w.heap.size w w2 := hb1.trans (hb2.mono hb1.size)
  clear t1 t2 hb2 hb1
  go_wp2_with fail
  go_ret2
  exact ⟨rfl, hb12⟩
set_option maxRecDepth 100000 in
set_option maxHeartbeats 4000000 in
theorem wayTo_lo (h : Int) (R : Rf) (hR : R.1 < 4294967296) (hD : okD R.2) (hok : trOk h R) (l p : Int) (hl : l < 0) (w : World) : Calls Tryz.prog 42 #[.agg (trC h R), .int .i64 l, .int .i64 p] w fun x w' => x = .returned (.tuple #[.slice none 0 0, .int .i64 90]) ∧ Below w.heap.size w w' := by
  have hRi : Hid (∀ w, Calls Tryz.prog 51 #[.agg (trC h R)] w fun x w' => x = .returned (.bool true) ∧ Below w.heap.size w w') := fun w => by
    have := tright_any h R hR hD w
    rw [decide_eq_true hok] at this
    exact this
  have hb1 : Below w.heap.size w (w.alloc (.cells (trC h R) 46)) := below_new1 _ _
  have t1 : Blk (w.alloc (.cells (trC h R) 46)) w.heap.size 46 (trC h R) := Blk.new _ _ _
  have d1 : decide (l < 0) = true := decide_eq_true hl
  go_enter Tryz.func42, Tryz.ntmps42
  go_wp2_with (first
    | (refine wpList_load_rowg (by rfl) 46 _ (by rfl) (w.heap.size) (by rfl) 46 (trC h R) (0, 0) _ (by exact t1) Tryz.underlying46 (by rfl) (sizeTr.trans (by rw [trC_size])) ?_; simp only [Act.put, List.setIfInBounds_toArray, List.set_cons_zero, List.set_cons_succ])
    | fail)
  generalize (w.alloc (.cells (trC h R) 46)) = w1 at *
  refine (hRi.out w1).mono ?_
  rintro x w2 ⟨rfl, hb2⟩
  have t2 := t1.below hb2 t1.lt
  have z2 : w2.cell? ⟨w.heap.size, 0, none⟩ = some (.int .i64 h) := (t2.cell 0).trans (va_at (trF h R) (by decide))
  have hb12 : Below w.heap.size w w2 := hb1.trans (hb2.mono hb1.size)
  clear t1 t2 hb2 hb1
  go_wp2_with fail
  go_ret2
  exact ⟨rfl, hb12⟩
set_option maxRecDepth 100000 in
set_option maxHeartbeats 4000000 in
theorem wayTo_hi (h : Int) (R : Rf) (hR : R.1 < 4294967296) (hD : okD R.2) (hok : trOk h R) (l p : Int) (hl : h < l) (w : World) : Calls Tryz.prog 42 #[.agg (trC h R), .int .i64 l, .int .i64 p] w fun x w' => x = .returned (.tuple #[.slice none 0 0, .int .i64 90]) ∧ Below w.heap.size w w' := by
  have hRi : Hid (∀ w, Calls Tryz.prog 51 #[.agg (trC h R)] w fun x w' => x = .returned (.bool true) ∧ Below w.heap.size w w') := fun w => by
    have := tright_any h R hR hD w
    rw [decide_eq_true hok] at this
    exact this
  have hb1 : Below w.heap.size w (w.alloc (.cells (trC h R) 46)) := below_new1 _ _
  have t1 : Blk (w.alloc (.cells (trC h R) 46)) w.heap.size 46 (trC h R) := Blk.new _ _ _
  have hl0 : ¬ l < 0 := by have := hok.2.1; omega
  have d1 : decide (l < 0) = false := decide_eq_false hl0
  have d2 : decide (h < l) = true := decide_eq_true hl
  go_enter Tryz.func42, Tryz.ntmps42
  go_wp2_with (first
    | (refine wpList_load_rowg (by rfl) 46 _ (by rfl) (w.heap.size) (by rfl) 46 (trC h R) (0, 0) _ (by exact t1) Tryz.underlying46 (by rfl) (sizeTr.trans (by rw [trC_size])) ?_; simp only [Act.put, List.setIfInBounds_toArray, List.set_cons_zero, List.set_cons_succ])
    | fail)
  generalize (w.alloc (.cells (trC h R) 46)) = w1 at *
  refine (hRi.out w1).mono ?_
  rintro x w2 ⟨rfl, hb2⟩
  have t2 := t1.below hb2 t1.lt
  have z2 : w2.cell? ⟨w.heap.size, 0, none⟩ = some (.int .i64 h) := (t2.cell 0).trans (va_at (trF h R) (by decide))
  have hb12 : Below w.heap.size w w2 := hb1.trans (hb2.mono hb1.size)
  clear t1 t2 hb2 hb1
  go_wp2_with fail
  go_ret2
  exact ⟨rfl, hb12⟩
set_option maxRecDepth 100000 in
set_option maxHeartbeats 4000000 in
theorem wayTo_place (h : Int) (R : Rf) (hR : R.1 < 4294967296) (hD : okD R.2) (hok : trOk h R) (l p : Int) (hl : 0 ≤ l ∧ l ≤ h) (n : Nat) (hn : h - l = (n : Int)) (hp : p < 0 ∨ ((4 ^ n : Nat) : Int) ≤ p) (w : World) : Calls Tryz.prog 42 #[.agg (trC h R), .int .i64 l, .int .i64 p] w fun x w' => x = .returned (.tuple #[.slice none 0 0, .int .i64 90]) ∧ Below w.heap.size w w' := by
  have hRi : Hid (∀ w, Calls Tryz.prog 51 #[.agg (trC h R)] w fun x w' => x = .returned (.bool true) ∧ Below w.heap.size w w') := fun w => by
    have := tright_any h R hR hD w
    rw [decide_eq_true hok] at this
    exact this
  have hb1 : Below w.heap.size w (w.alloc (.cells (trC h R) 46)) := below_new1 _ _
  have t1 : Blk (w.alloc (.cells (trC h R) 46)) w.heap.size 46 (trC h R) := Blk.new _ _ _
  have hl0 : ¬ l < 0 := by omega
  have d1 : decide (l < 0) = false := decide_eq_false hl0
  have hl1 : ¬ h < l := by omega
  have d2 : decide (h < l) = false := decide_eq_false hl1
  have hw1 : IntKind.i64.wrap (h - l) = h - l := by
    have := hok.2
    rw [IntKind.wrap_i64]
    omega
  have hw2 : wrap64 (h - l) = h - l := by
    rw [← IntWalk.i64_left]
    exact hw1
  obtain ⟨b1, b2, b3⟩ := hok
  go_enter Tryz.func42, Tryz.ntmps42
  go_wp2_with (first
    | (refine wpList_load_rowg (by rfl) 46 _ (by rfl) (w.heap.size) (by rfl) 46 (trC h R) (0, 0) _ (by exact t1) Tryz.underlying46 (by rfl) (sizeTr.trans (by rw [trC_size])) ?_; simp only [Act.put, List.setIfInBounds_toArray, List.set_cons_zero, List.set_cons_succ])
    | fail)
  generalize (w.alloc (.cells (trC h R) 46)) = w1 at *
  refine (hRi.out w1).mono ?_
  rintro x w2 ⟨rfl, hb2⟩
  have t2 := t1.below hb2 t1.lt
  have z2 : w2.cell? ⟨w.heap.size, 0, none⟩ = some (.int .i64 h) := (t2.cell 0).trans (va_at (trF h R) (by decide))
  have hb12 : Below w.heap.size w w2 := hb1.trans (hb2.mono hb1.size)
  clear t1 t2 hb2 hb1
  go_wp2_with fail
  refine (way_place n p (by omega) hp w2).mono ?_
  rintro x _ ⟨rfl, rfl⟩
  go_wp2_with fail
  go_ret2
  exact ⟨rfl, hb12⟩
set_option maxRecDepth 100000 in
set_option maxHeartbeats 4000000 in
theorem wayTo_ok (h : Int) (R : Rf) (hR : R.1 < 4294967296) (hD : okD R.2) (hok : trOk h R) (l : Int) (q : Nat) (p : Int) (hpq : p = (q : Int)) (hl : 0 ≤ l ∧ l ≤ h) (n : Nat) (hn : h - l = (n : Int)) (hp : q < 4 ^ n) (w : World) : Calls Tryz.prog 42 #[.agg (trC h R), .int .i64 l, .int .i64 p] w fun x w' => ∃ b, x = .returned (.tuple #[.slice (some ⟨b, 0, none⟩) n n, .int .i64 0]) ∧ w.heap.size ≤ b ∧ Blk w' b 3 (va n (iv .i64 (wayN n q))) ∧ Below w.heap.size w w' := by
  have hRi : Hid (∀ w, Calls Tryz.prog 51 #[.agg (trC h R)] w fun x w' => x = .returned (.bool true) ∧ Below w.heap.size w w') := fun w => by
    have := tright_any h R hR hD w
    rw [decide_eq_true hok] at this
    exact this
  have hb1 : Below w.heap.size w (w.alloc (.cells (trC h R) 46)) := below_new1 _ _
  have t1 : Blk (w.alloc (.cells (trC h R) 46)) w.heap.size 46 (trC h R) := Blk.new _ _ _
  have hl0 : ¬ l < 0 := by omega
  have d1 : decide (l < 0) = false := decide_eq_false hl0
  have hl1 : ¬ h < l := by omega
  have d2 : decide (h < l) = false := decide_eq_false hl1
  have hw1 : IntKind.i64.wrap (h - l) = h - l := by
    have := hok.2
    rw [IntKind.wrap_i64]
    omega
  have hw2 : wrap64 (h - l) = h - l := by
    rw [← IntWalk.i64_left]
    exact hw1
  obtain ⟨b1, b2, b3⟩ := hok
  subst hpq
  go_enter Tryz.func42, Tryz.ntmps42
  go_wp2_with (first
    | (refine wpList_load_rowg (by rfl) 46 _ (by rfl) (w.heap.size) (by rfl) 46 (trC h R) (0, 0) _ (by exact t1) Tryz.underlying46 (by rfl) (sizeTr.trans (by rw [trC_size])) ?_; simp only [Act.put, List.setIfInBounds_toArray, List.set_cons_zero, List.set_cons_succ])
    | fail)
  generalize (w.alloc (.cells (trC h R) 46)) = w1 at *
  refine (hRi.out w1).mono ?_
  rintro x w2 ⟨rfl, hb2⟩
  have t2 := t1.below hb2 t1.lt
  have z2 : w2.cell? ⟨w.heap.size, 0, none⟩ = some (.int .i64 h) := (t2.cell 0).trans (va_at (trF h R) (by decide))
  have hb12 : Below w.heap.size w w2 := hb1.trans (hb2.mono hb1.size)
  clear t1 t2 hb2 hb1
  go_wp2_with fail
  refine (way_ok n q (by omega) hp w2).mono ?_
  rintro x w3 ⟨rfl, b3', hb3⟩
  go_wp2_with fail
  go_ret2
  exact ⟨_, rfl, hb12.size, b3', hb12.trans (hb3.mono hb12.size)⟩
theorem way_cells {w : World} {b n q : Nat} (hb : Blk w b 3 (va n (iv .i64 (wayN n q)))) : w.rangeAt b 0 (((List.range n).map (wayN n q)).map fun (p : Nat) => Value.int .i64 (p : Int)) := fun j v hv => by
  rw [List.map_map] at hv
  exact kblk_range hb j v hv
section
variable {B g N c m room i : Nat} {F : Nat → Nat} {U : Nat → Prop}
set_option maxRecDepth 100000 in
set_option maxHeartbeats 4000000 in
theorem ref_no (h : Int) (R : Rf) (l p er : Int) (her : er ≠ 0) (hWT : ∀ w, Calls Tryz.prog 42 #[.agg (trC h R), .int .i64 l, .int .i64 p] w fun x w' => x = .returned (.tuple #[.slice none 0 0, .int .i64 er]) ∧ Below w.heap.size w w') (cp : Option Addr) (w : World) : Calls Tryz.prog 19 #[.pointer cp, .agg (trC h R), .int .i64 l, .int .i64 p] w fun x w' => x = .returned (.tuple #[.agg (rfC rf0), .int .i64 er]) ∧ Below w.heap.size w w' := by
  have hz := zero_ref
  have hb1 : Below w.heap.size w ((w.alloc (.cells (trC h R) 46)).alloc (.cells (rfC rf0) 44)) := below_new2 _ _ _
  have t1 : Blk ((w.alloc (.cells (trC h R) 46)).alloc (.cells (rfC rf0) 44)) w.heap.size 46 (trC h R) := (Blk.new _ _ _).alloc _
  have r1 : Blk ((w.alloc (.cells (trC h R) 46)).alloc (.cells (rfC rf0) 44)) (w.heap.size + 1) 44 (rfC rf0) := Blk.new1 _ _ _ _
  have hne2 : (er != 0) = true := by simp [her]
  have hne3 : decide (er = 0) = false := decide_eq_false her
  have HW : Hid (∀ w, Calls Tryz.prog 42 #[.agg (trC h R), .int .i64 l, .int .i64 p] w fun x w' => x = .returned (.tuple #[.slice none 0 0, .int .i64 er]) ∧ Below w.heap.size w w') := hWT
  clear hWT
  go_enter Tryz.func19, Tryz.ntmps19
  go_wp2_with (first
    | (refine wpList_load_rowg (by rfl) 46 _ (by rfl) (w.heap.size) (by rfl) 46 (trC h R) (0, 0) _ (by exact t1) Tryz.underlying46 (by rfl) (sizeTr.trans (by rw [trC_size])) ?_; simp only [Act.put, List.setIfInBounds_toArray, List.set_cons_zero, List.set_cons_succ])
    | fail)
  generalize ((w.alloc (.cells (trC h R) 46)).alloc (.cells (rfC rf0) 44)) = w1 at *
  refine (HW.out w1).mono ?_
  rintro x w2 ⟨rfl, hb2⟩
  have r2 := r1.below hb2 r1.lt
  have hb12 : Below w.heap.size w w2 := hb1.trans (hb2.mono hb1.size)
  clear t1 r1 hb2 hb1
  go_wp2_with (first
    | (refine wpList_store_row (by rfl) 44 _ _ (by rfl) (w.heap.size + 1) (rfC rf0) (by rfl) (by rfl) 44 (_) (by exact r2) (tsizeRef.trans (by rw [rfC_size])) (by simp only [rfC_size]) (rfC_all _) ?_; simp only [Act.put, List.setIfInBounds_toArray, List.set_cons_zero, List.set_cons_succ])
    | fail)
  try simp only [Exit.inBlock, Exit.then]
  refine bodyPost_ret (results_row2 Tryz.results19 _ _ (w.heap.size + 1) 44 (rfC rf0) (0, 0) _ rfl (r2.set _) Tryz.underlying44 rfl (tsizeRef.trans (by rw [rfC_size]))) rfl ?_
  exact ⟨rfl, below_setRow hb12 (by omega) _⟩
set_option maxRecDepth 100000 in
set_option maxHeartbeats 4000000 in
theorem ref_ok (h : Int) (R : Rf) (hR : R.1 < 4294967296) (hD : okD R.2) (hF : ∀ a, F a < 256) (hok : trOk h R) (l : Int) (q : Nat) (hl : 0 ≤ l ∧ l ≤ h) (n : Nat) (hn : h - l = (n : Int)) (hp : q < 4 ^ n) (hi : i < 34359738368) (w : World) (H : TD w B g N F c m room i U) : Calls Tryz.prog 19 #[.pointer (some ⟨c, 0, none⟩), .agg (trC h R), .int .i64 l, .int .i64 (q : Int)] w fun x w' => x = .returned (.tuple #[.agg (rfC (folR F N h R ((List.range n).map (wayN n q))).1), .int .i64 (folR F N h R ((List.range n).map (wayN n q))).2]) ∧ TDStep w w' B g N F c m room (i + 6) U := by
  have hz := zero_ref
  have hb1 : Below w.heap.size w ((w.alloc (.cells (trC h R) 46)).alloc (.cells (rfC rf0) 44)) := below_new2 _ _ _
  have t1 : Blk ((w.alloc (.cells (trC h R) 46)).alloc (.cells (rfC rf0) 44)) w.heap.size 46 (trC h R) := (Blk.new _ _ _).alloc _
  have r1 : Blk ((w.alloc (.cells (trC h R) 46)).alloc (.cells (rfC rf0) 44)) (w.heap.size + 1) 44 (rfC rf0) := Blk.new1 _ _ _ _
  have HW : Hid (∀ w, Calls Tryz.prog 42 #[.agg (trC h R), .int .i64 l, .int .i64 (q : Int)] w fun x w' => ∃ b, x = .returned (.tuple #[.slice (some ⟨b, 0, none⟩) n n, .int .i64 0]) ∧ w.heap.size ≤ b ∧ Blk w' b 3 (va n (iv .i64 (wayN n q))) ∧ Below w.heap.size w w') := fun w => wayTo_ok h R hR hD hok l q (q : Int) rfl hl n hn hp w
  have HFo : Hid (∀ (wb : Nat) (w : World), TD w B g N F c m room i U → Blk w wb 3 (va n (iv .i64 (wayN n q))) → ¬ U wb → Calls Tryz.prog 43 #[.pointer (some ⟨c, 0, none⟩), .agg (trC h R), .slice (some ⟨wb, 0, none⟩) n n, .func (.func 49) #[] #[]] w fun x w' => x = .returned (.tuple #[.agg (rfC (folR F N h R ((List.range n).map (wayN n q))).1), .int .i64 (folR F N h R ((List.range n).map (wayN n q))).2]) ∧ TDStep w w' B g N F c m room (i + 6) U) := fun wb w h1 h2 h3 => by
    have := follow_td h hok.2 R hR hF ((List.range n).map (wayN n q)) (fun p hp => by
      obtain ⟨j, _, rfl⟩ := List.mem_map.1 hp
      exact wayN_lt _ _ _) (by rw [List.length_map, List.length_range]; have := hok.2; omega) hi wb n w h1 (way_cells h2) h2.lt h3
    rw [List.length_map, List.length_range] at this
    exact this
  have HUL : Hid (∀ x, U x → x < w.heap.size) := fun x hx => (H.lt x hx).2
  have HT1 : Hid (TD ((w.alloc (.cells (trC h R) 46)).alloc (.cells (rfC rf0) 44)) B g N F c m room i U) := H.below hb1
  have HM1 : Hid (Turns U w ((w.alloc (.cells (trC h R) 46)).alloc (.cells (rfC rf0) 44))) := .of_below hb1
  have HS1 : Hid (w.heap.size + 2 ≤ ((w.alloc (.cells (trC h R) 46)).alloc (.cells (rfC rf0) 44)).heap.size) := by
    show _ ≤ _
    simp
  clear H hR hD hF hok hl hn hp hi hb1
  generalize folR F N h R ((List.range n).map (wayN n q)) = an at *
  obtain ⟨a1, a2⟩ := an
  go_enter Tryz.func19, Tryz.ntmps19
  go_wp2_with (first
    | (refine wpList_load_rowg (by rfl) 46 _ (by rfl) (w.heap.size) (by rfl) 46 (trC h R) (0, 0) _ (by exact t1) Tryz.underlying46 (by rfl) (sizeTr.trans (by rw [trC_size])) ?_; simp only [Act.put, List.setIfInBounds_toArray, List.set_cons_zero, List.set_cons_succ])
    | fail)
  generalize ((w.alloc (.cells (trC h R) 46)).alloc (.cells (rfC rf0) 44)) = w1 at *
  refine (HW.out w1).mono ?_
  rintro x w2 ⟨b, rfl, hbb, kb, hb2⟩
  have r2 := r1.below hb2 r1.lt
  have t2 := t1.below hb2 t1.lt
  have HT2 : Hid (TD w2 B g N F c m room i U) := HT1.out.below hb2
  have HM2 : Hid (Turns U w w2) := HM1.out.trans (Turns.of_below (S := U) hb2) fun x hx => .inl hx
  have HKB : Hid (Blk w2 b 3 (va n (iv .i64 (wayN n q)))) := kb
  have HNB : Hid (¬ U b) := fun z => by
    have h1 := HUL.out _ z
    have h2 := HS1.out
    omega
  clear hb2 t1 r1 HT1 HM1 hbb kb
  go_wp2_with (first
    | (refine wpList_load_rowg (by rfl) 46 _ (by rfl) (w.heap.size) (by rfl) 46 (trC h R) (0, 0) _ (by exact t2) Tryz.underlying46 (by rfl) (sizeTr.trans (by rw [trC_size])) ?_; simp only [Act.put, List.setIfInBounds_toArray, List.set_cons_zero, List.set_cons_succ])
    | fail)
  refine (HFo.out b w2 HT2.out HKB.out HNB.out).mono ?_
  rintro x w3 ⟨rfl, V, ht3, hm3, hv3⟩
  have r3 : Blk w3 (w.heap.size + 1) 44 (rfC rf0) := hm3.blk r2 fun z => by have := HUL.out _ z; omega
  have HT3 : Hid (TD w3 B g N F c m room (i + 6) V) := ht3
  have HM3 : Hid (Turns U w w3) := HM2.out.trans hm3 fun x hx => .inl hx
  have HV3 : Hid (∀ x, V x → U x ∨ w2.heap.size ≤ x) := hv3
  have HS2 : Hid (w.heap.size + 1 < w2.heap.size) := r2.lt
  clear ht3 hm3 hv3 t2 r2 HT2 HM2
  go_wp2_with (first
    | (refine wpList_store_row (by rfl) 44 _ _ (by rfl) (w.heap.size + 1) (rfC a1) (by rfl) (by rfl) 44 (_) (by exact r3) (tsizeRef.trans (by rw [rfC_size])) (by simp only [rfC_size]) (rfC_all _) ?_; simp only [Act.put, List.setIfInBounds_toArray, List.set_cons_zero, List.set_cons_succ])
    | fail)
  try simp only [Exit.inBlock, Exit.then]
  refine bodyPost_ret (results_row2 Tryz.results19 _ _ (w.heap.size + 1) 44 (rfC a1) (0, 0) _ rfl (r3.set _) Tryz.underlying44 rfl (tsizeRef.trans (by rw [rfC_size]))) rfl ?_
  have hs2 := HS2.out
  refine ⟨rfl, V, HT3.out.kept (by simp) fun z hz => setRow_other _ _ z _ ?_, HM3.out.laid (by omega) _, fun z hz => ?_⟩
  · rcases HV3.out z hz with u | u
    · have := HUL.out _ u
      omega
    · omega
  · rcases HV3.out z hz with u | u
    · exact .inl u
    · exact .inr (by omega)
end
end Go.Proofs.YtjhabngibbmpbaaGreat
